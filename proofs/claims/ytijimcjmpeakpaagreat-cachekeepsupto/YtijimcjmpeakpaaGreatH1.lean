import Derived.Test.YtijimcjmpeakpaaGreatRows
import Derived.Test.YtijimcjmpeakpaaGreatG54
import Derived.Laws.AppendOwnNone
import Derived.Deep.RegionHeld3
import Derived.Deep.Slices
import Derived.Carry
import Derived.WalkKit
import Derived.ProofKit
import Derived.OpenShut
import Derived.ChangeOld
import Derived.SizedLaws
import Derived.JoinedCond
namespace Go.Proofs.YtijimcjmpeakpaaGreat
open _root_.Go.Proofs.YtijimcjmpeakpaaGreat.Rows (uptoBulk uptoBulkAll uptoSmall)

theorem bulk_pos {H : Type} (d : DataW H) : 0 < uptoBulk d := by
  rcases d with l | _ | _ | _ | _ | _ | _ | _
  · cases l <;> simp [uptoBulk]
  all_goals simp [uptoBulk]
theorem bulkAll_append {H : Type} : ∀ l r : List (DataW H), uptoBulkAll (l ++ r) = uptoBulkAll l + uptoBulkAll r
  | [], r => by simp [uptoBulkAll]
  | d :: l, r => by simp only [List.cons_append, uptoBulkAll]; rw [bulkAll_append l r]; omega
theorem bulk_le_all {H : Type} {d : DataW H} {l : List (DataW H)} (h : d ∈ l) : uptoBulk d ≤ uptoBulkAll l := by
  obtain ⟨a, b, rfl⟩ := List.append_of_mem h
  rw [bulkAll_append]; simp only [uptoBulkAll]; omega
theorem length_le_bulk {H : Type} : ∀ l : List (DataW H), l.length ≤ uptoBulkAll l
  | [] => Nat.zero_le _
  | d :: l => by have := length_le_bulk l; have := bulk_pos d; simp only [uptoBulkAll, List.length_cons]; omega
theorem bulk_slice {H : Type} (es sp : List (DataW H)) : uptoBulk (.slice es sp) = uptoBulkAll es + uptoBulkAll sp + 1 := by simp [uptoBulk]
theorem bulk_bound {H : Type} {l : List (DataW H)} (h : uptoSmall H l = true) : uptoBulkAll l ≤ 1048576 := of_decide_eq_true h
end Go.Proofs.YtijimcjmpeakpaaGreat

namespace Go.Proofs.YtijimcjmpeakpaaGreat.C
open Go.RowKit Go.Maps Go.Shelf Go.Proofs.YtijimcjmpeakpaaGreat
attribute [local go_sem] Oper.semAt_some
set_option linter.unusedVariables false
set_option linter.unusedSimpArgs false
set_option maxRecDepth 100000

/-- a disk that no call made has no sectors -/
theorem sectors_nil (w : World) : Calls Tryz.prog 36 #[.pointer none] w fun r w' => r = .returned (.int .i64 0) ∧ w' = w := by
  have hus := K.usable_nil w
  go_enter_defers Tryz.func36, Tryz.ntmps36
  go_wp2_with (go_at_call 60; refine hus.mono ?_; rintro e w9 ⟨rfl, hw9⟩; rw [hw9]; clear hw9 hus)
  exact ⟨_, results_tmp rfl _ _ _, rfl, rfl⟩
theorem sectors_zero {w : World} {b : Nat} (h : w.cell? ⟨b, 2, none⟩ = some (.int .i64 0)) : Calls Tryz.prog 36 #[.pointer (some ⟨b, 0, none⟩)] w fun r w' => r = .returned (.int .i64 0) ∧ w' = w := by
  have hus := K.usable_zero h
  clear h
  go_enter_defers Tryz.func36, Tryz.ntmps36
  go_wp2_with (go_at_call 60; refine hus.mono ?_; rintro e w9 ⟨rfl, hw9⟩; rw [hw9]; clear hw9 hus)
  exact ⟨_, results_tmp rfl _ _ _, rfl, rfl⟩
theorem new_dead {w : World} {v : Value} (hs : Calls Tryz.prog 36 #[v] w fun r w' => r = .returned (.int .i64 0) ∧ w' = w) (k : Int) (x : Value) :
    Calls Tryz.prog 12 #[v, .int .i64 k, x] w fun r w' => r = .returned (.tuple #[.pointer none, .int .i64 2]) ∧ w' = w := by
  go_enter Tryz.func12, Tryz.ntmps12
  go_wp2_with (go_at_call 36; refine hs.mono ?_; clear hs; rintro r w1 ⟨rfl, hw1⟩; rw [hw1]; clear hw1)
  refine bodyPost_ret (results_tmp2 rfl _ _ _) rfl ?_
  exact ⟨rfl, rfl⟩
section
variable {w : World} {b ms ml : Nat} {qv fv : Value} {S : K.Dk}
theorem new_lines (h : K.RK w 0 b ms ml qv fv S) {k : Int} (hk : k < 1 ∨ 1024 < k) (x : Value) :
    Calls Tryz.prog 12 #[.pointer (some ⟨b, 0, none⟩), .int .i64 k, x] w fun r w' => r = .returned (.tuple #[.pointer none, .int .i64 50]) ∧ K.RK w' 0 b ms ml qv fv S ∧ K.Kp w w' (K.fp b ms ml qv fv) := by
  have hs := K.sectors_any h
  have hn0 := h.n0
  have d4 : ¬ ((S.n : Int) = 0) := by omega
  have d4' : ¬ (S.n = 0) := by omega
  clear h
  by_cases hk1 : k < 1
  · have b1 : decide (k < 1) = true := decide_eq_true hk1
    go_enter Tryz.func12, Tryz.ntmps12
    go_wp2_with (go_at_call 36; refine hs.mono ?_; clear hs; rintro r w1 ⟨rfl, hd1⟩)
    refine bodyPost_ret (results_tmp2 rfl _ _ _) rfl ?_
    exact ⟨rfl, hd1.rk, hd1.kp⟩
  · have b1 : decide (k < 1) = false := decide_eq_false hk1
    have hk2 : 1024 < k := by omega
    have b2 : decide (1024 < k) = true := decide_eq_true hk2
    clear hk
    go_enter Tryz.func12, Tryz.ntmps12
    go_wp2_with (go_at_call 36; refine hs.mono ?_; clear hs; rintro r w1 ⟨rfl, hd1⟩)
    refine bodyPost_ret (results_tmp2 rfl _ _ _) rfl ?_
    exact ⟨rfl, hd1.rk, hd1.kp⟩
theorem new_spans (h : K.RK w 0 b ms ml qv fv S) {most : Nat} (hm0 : 1 ≤ most) (hm1 : most ≤ 1024) {ao : Option Addr} {cap : Nat} {l : List (Int × Int)} (hr : SpR w ao l) (hl : l.length ≤ 1048576) (hw : ∀ p ∈ l, I64 p.1 ∧ I64 p.2) (hfar : ∀ b' off, ao = some ⟨b', off, none⟩ → b' ∉ K.fp b ms ml qv fv) (hbad : 64 < l.length ∨ ¬ Apart S.n l) :
    Calls Tryz.prog 12 #[.pointer (some ⟨b, 0, none⟩), .int .i64 most, .slice ao l.length cap] w fun r w' => r = .returned (.tuple #[.pointer none, .int .i64 51]) ∧ K.RK w' 0 b ms ml qv fv S ∧ K.Kp w w' (K.fp b ms ml qv fv) := by
  have hs := K.sectors_any h
  have hn0 := h.n0
  have hn1 := h.n1
  have d1 : ¬ ((most : Int) < 1) := by omega
  have d2 : ¬ ((1024 : Int) < (most : Int)) := by omega
  have d4 : ¬ ((S.n : Int) = 0) := by omega
  have d4' : ¬ (S.n = 0) := by omega
  have b1 : decide ((most : Int) < 1) = false := decide_eq_false d1
  have HSP : Hid (∀ w1, K.DAct w w1 0 b ms ml ms ml qv fv qv fv S → SpR w1 ao l) := fun w1 hd k p hk => by
    obtain ⟨g, off, e, hg, c0, c1⟩ := hr k p hk
    have hb := hd.kp.block g hg (hfar g off e)
    refine ⟨g, off, e, Nat.lt_of_lt_of_le hg hd.kp.size, ?_, ?_⟩
    · unfold World.cell? at c0 ⊢; rw [hb]; exact c0
    · unfold World.cell? at c1 ⊢; rw [hb]; exact c1
  by_cases hk1 : 64 < l.length
  · have d3 : (64 : Int) < (l.length : Int) := by omega
    have b2 : decide ((l.length : Int) > 64) = true := decide_eq_true d3
    clear hr hw hfar hbad HSP h
    go_enter Tryz.func12, Tryz.ntmps12
    go_wp2_with (go_at_call 36; refine hs.mono ?_; clear hs; rintro r w1 ⟨rfl, hd1⟩)
    refine bodyPost_ret (results_tmp2 rfl _ _ _) rfl ?_
    exact ⟨rfl, hd1.rk, hd1.kp⟩
  · have d3 : ¬ ((64 : Int) < (l.length : Int)) := by omega
    have b2 : decide ((l.length : Int) > 64) = false := decide_eq_false d3
    have hap : apartB S.n l = false := by
      have hna : ¬ Apart S.n l := hbad.resolve_left hk1
      cases e : apartB S.n l
      · rfl
      · exact absurd (apartB_iff.1 e) hna
    have HL : Hid (∀ w1, K.DAct w w1 0 b ms ml ms ml qv fv qv fv S → Calls Tryz.prog 37 #[.slice ao l.length cap, .int .i64 S.n] w1 fun r w2 => r = .returned (.bool false) ∧ Below w1.heap.size w1 w2) := fun w1 hd => by
      have h1 := lieApart_c (n := S.n) (cap := cap) (HSP.out w1 hd) hl hn1 hw
      rw [hap] at h1
      exact h1
    clear hr hw hfar hbad HSP h hap
    go_enter Tryz.func12, Tryz.ntmps12
    go_wp2_with (first | (go_at_call 36; refine hs.mono ?_; clear hs; rintro r w1 ⟨rfl, hd1⟩; have hlp := HL.out w1 hd1; clear HL) | (go_at_call 37; refine hlp.mono ?_; clear hlp; rintro r w2 ⟨rfl, hb2⟩))
    refine bodyPost_ret (results_tmp2 rfl _ _ _) rfl ?_
    exact ⟨rfl, hd1.rk.later hb2, hd1.kp.trans (K.Kp.of_below hb2 _) (fun i hi => .inl hi)⟩
end
end Go.Proofs.YtijimcjmpeakpaaGreat.C

namespace Go.Proofs.YtijimcjmpeakpaaGreat.C
open Go.RowKit Go.Maps Go.Shelf Go.Proofs.YtijimcjmpeakpaaGreat
attribute [local go_sem] Oper.semAt_some
set_option linter.unusedVariables false
set_option linter.unusedSimpArgs false
set_option maxRecDepth 100000

theorem spcells_length (l : List (Int × Int)) : (spcells l).length = l.length * 2 := by
  induction l with
  | nil => rfl
  | cons p t ih => simp [spcells, spcell] at ih ⊢; omega
theorem spcells_append (l k : List (Int × Int)) : spcells (l ++ k) = spcells l ++ spcells k := by simp [spcells]
theorem spcells_one (l : List (Int × Int)) : ∀ u ∈ spcells l, u.oneCell' = true := by
  intro u hu
  simp only [spcells, spcell, List.mem_flatMap] at hu
  obtain ⟨p, _, h⟩ := hu
  simp at h
  rcases h with rfl | rfl <;> rfl
theorem sp_src {w : World} {ad : Addr} {l : List (Int × Int)} (h : SpR w (some ad) l) : ∀ j u, (spcells l)[j]? = some u → w.cell? (ad.add j) = some u := by
  intro j u hu
  have hj : j < l.length * 2 := by
    have := (List.getElem?_eq_some_iff.1 hu).1
    rwa [spcells_length] at this
  obtain ⟨p, hp⟩ : ∃ p, l[j / 2]? = some p := ⟨_, List.getElem?_eq_getElem (by omega)⟩
  obtain ⟨h1, h2⟩ := spcells_get l _ p hp
  obtain ⟨b', off', e, _, c1, c2⟩ := h _ p hp
  simp only [Option.some.injEq] at e
  subst e
  rw [WideShapes.add_plain]
  rcases Nat.mod_two_eq_zero_or_one j with hm | hm
  · have ej : j = j / 2 * 2 := by omega
    rw [ej] at hu ⊢
    rw [h1] at hu
    cases hu
    exact c1
  · have ej : j = j / 2 * 2 + 1 := by omega
    rw [ej] at hu ⊢
    rw [h2] at hu
    cases hu
    exact c2
/-- a list of spans that was handed in -/
def ArgS (w : World) (v : Value) (l : List (Int × Int)) : Prop := (v = .slice none 0 0 ∧ l = []) ∨ ∃ ad c, v = .slice (some ad) l.length c ∧ SpR w (some ad) l
theorem ArgS.later {w w' : World} {v : Value} {l : List (Int × Int)} (h : ArgS w v l) (hb : Below w.heap.size w w') : ArgS w' v l := by
  rcases h with h | ⟨ad, c, e, h⟩
  · exact .inl h
  · exact .inr ⟨ad, c, e, h.later hb⟩
theorem ArgS.form {w : World} {v : Value} {l : List (Int × Int)} (h : ArgS w v l) : ∃ ao c, v = .slice ao l.length c ∧ SpR w ao l ∧ (ao = none → l = []) := by
  rcases h with ⟨rfl, rfl⟩ | ⟨ad, c, rfl, h⟩
  · exact ⟨none, 0, rfl, fun k p hk => by simp at hk, fun _ => rfl⟩
  · exact ⟨_, c, rfl, h, fun e => by (cases e)⟩
theorem ArgS.lt {w : World} {v : Value} {l : List (Int × Int)} (h : ArgS w v l) (hl : l ≠ []) {b off n c : Nat} (e : v = .slice (some ⟨b, off, none⟩) n c) : b < w.heap.size := by
  rcases h with ⟨_, rfl⟩ | ⟨ad, c, rfl, h⟩
  · exact absurd rfl hl
  · cases e
    cases l with
    | nil => exact absurd rfl hl
    | cons p l =>
      obtain ⟨g, o, e, hg, _⟩ := h 0 p rfl
      cases e
      exact hg
theorem wpList_append_sp {w : World} {ops : Array Oper} {rest : List Oper} {o : Oper} {a : Act} {Q : Exit → Act → World → Prop} (hgd : o.guard = none) (s x : Operand)
    (ho : o.op = .call { callee := .builtin .append, args := #[s, x], argTypes := #[TSps, TSps] }) (base : Nat) (v : Value) (n : Nat) (xs : List Value) (hs : a.eval s = v) (hown : w.ownsRow base TSp 2 v n xs)
    (vx : Value) (l : List (Int × Int)) (hx : a.eval x = vx) (hsl : ArgS w vx l) (hlen : n + l.length ≤ 8796093022207) (hbase : base ≤ w.heap.size)
    (h : ∀ v' w', w'.ownsRow base TSp 2 v' (n + l.length) (xs ++ spcells l) → w.grownBy w' v.ownBlock → wpList Tryz.prog ops Q rest (a.put o.dst v') w') : wpList Tryz.prog ops Q (o :: rest) a w := by
  obtain ⟨i0, hi, hz0, hz1, hz2⟩ := info_parts infoSp
  rcases hsl with ⟨rfl, rfl⟩ | ⟨ad, c, rfl, hR⟩
  · refine wpList_append_own_none hgd s x TSps ho base TSp i0 2 Tryz.underlying31 hi v n xs hs hown hx (h v w ?_ ⟨rfl, rfl, rfl, Nat.le_refl _, fun _ _ _ => rfl⟩)
    simpa [spcells] using hown
  · exact wpList_append_own _ hgd s x TSps ho base TSp i0 _ 2 16 Tryz.underlying31 hi hz0 hz1 hz2 rfl (by decide) v n xs hs hown _ l.length c (spcells l) hx (spcells_length l) (sp_src hR) (spcells_one l) (by unfold maxLen; omega) (by omega) hbase (fun v' w' h1 h2 _ => h v' w' h1 h2)
/-- a copy with marks behind it -/
theorem spans_c {w : World} {v : Value} {l : List (Int × Int)} (hv : ArgS w v l) (hl : l.length ≤ 1048576) :
    Calls Tryz.prog 66 #[v] w fun r w' => ∃ g c, r = .returned (.slice (some ⟨g, 0, none⟩) l.length c) ∧ w'.ownsRow w.heap.size TSp 2 (.slice (some ⟨g, 0, none⟩) (l.length + 2) c) (l.length + 2) (spcells (l ++ [(71, 0), (72, 0)])) ∧ Below w.heap.size w w' := by
  obtain ⟨i0, hi, hz0, hz1, hz2⟩ := info_parts infoSp
  obtain ⟨ao, c0, rfl, _⟩ := hv.form
  have HV : Hid (ArgS w (.slice ao l.length c0) l) := hv
  clear hv
  go_enter Tryz.func66, Tryz.ntmps66
  have HW0 : Hid (Below w.heap.size w w) := Below.refl _ _
  go_wp2_with (first
    | (at_builtin; go_loud (refine wpList_append_sp rfl _ _ rfl w.heap.size (.slice none 0 0) 0 [] rfl (World.ownsRow_nil _ _ _ _) _ l rfl HV.out (by omega) (Nat.le_refl _) ?_; intro v1 w1 h1 hg1; clear HV; have HB1 : Hid (Below w.heap.size w w1) := (HW0.out.grown hg1 (Nat.le_refl _) (fun q e => by cases e)); have HR1 : Hid (w1.ownsRow w.heap.size TSp 2 v1 l.length (spcells l)) := (by show World.ownsRow _ _ _ _ _ _ _; simpa using h1); clear h1 hg1 HW0))
    | (at_builtin; go_loud (refine wpList_append_own_at _ rfl _ _ TSps rfl w.heap.size TSp i0 _ 2 16 Tryz.underlying31 hi hz0 hz1 hz2 rfl (by decide) _ l.length _ rfl (HR1.out.alloc _) ⟨w1.heap.size, 0, none⟩ 2 2 [.int .i64 71, .int .i64 0, .int .i64 72, .int .i64 0] rfl rfl (World.news_of_block (heap_alloc_new w1 _)) (by simp [Value.oneCell']) (by unfold maxLen; omega) (by omega) (by have := HB1.out.size; rw [World.size_alloc]; omega) ?_; intro v2 w2 h2 hg2 _ _; obtain ⟨g, c, rfl⟩ := ownsRow_succ h2; have hcp := (owns_capS h2).1; have HB2 : Hid (Below w.heap.size w w2) := ((HB1.out.alloc HB1.out.size _).grown hg2 (by have := HB1.out.size; rw [World.size_alloc]; omega) (fun q e => (HR1.out.lt q e).1)); have HR2 : Hid (w2.ownsRow w.heap.size TSp 2 (.slice (some ⟨g, 0, none⟩) (l.length + 2) c) (l.length + 2) (spcells l ++ [.int .i64 71, .int .i64 0, .int .i64 72, .int .i64 0])) := h2; clear h2 hg2)))
  go_ret
  refine ⟨g, c, rfl, ?_, HB2.out⟩
  rw [spcells_append]
  exact HR2.out
end Go.Proofs.YtijimcjmpeakpaaGreat.C

namespace Go.Proofs.YtijimcjmpeakpaaGreat.C
open Go.RowKit Go.Maps Go.Shelf Go.Proofs.YtijimcjmpeakpaaGreat
attribute [local go_sem] Oper.semAt_some
set_option linter.unusedVariables false
set_option linter.unusedSimpArgs false
set_option maxRecDepth 100000

theorem neSp (w : World) (x y : Int) : (binOp .neq TSp (.agg #[.int .i64 x, .int .i64 y]) (.agg #[.int .i64 x, .int .i64 y])).run Tryz.prog w = .ok (.bool false) w := by
  have hu := Tryz.underlying98
  have hi := Tryz.underlying3
  simp [go_sem, hu, hi]
set_option maxHeartbeats 2000000 in
theorem kept_c {w : World} {g off cap : Nat} {v : Value} {l : List (Int × Int)} (hr : SpR w (some ⟨g, off, none⟩) (l ++ [(71, 0), (72, 0)])) (hcap : l.length + 2 ≤ cap) (hv : ArgS w v l) (hl : l.length ≤ 1048576) :
    Calls Tryz.prog 67 #[.slice (some ⟨g, off, none⟩) l.length cap, v] w fun r w' => r = .returned (.bool true) ∧ Below w.heap.size w w' := by
  obtain ⟨ao, c0, rfl, hsp, _⟩ := hv.form
  have hne := neSp
  obtain ⟨m, hm⟩ : ∃ m, m = l.length := ⟨_, rfl⟩
  have e1 : w.cell? ⟨g, off + m * 2, none⟩ = some (.int .i64 71) := by
    obtain ⟨g', off', e, _, c, _⟩ := hr m (71, 0) (by rw [hm]; simp)
    cases e; exact c
  have e2 : w.cell? ⟨g, off + (m + 1) * 2, none⟩ = some (.int .i64 72) := by
    obtain ⟨g', off', e, _, c, _⟩ := hr (m + 1) (72, 0) (by rw [hm]; simp)
    cases e; exact c
  have HG : Hid (∀ k p, l[k]? = some p → (w.cell? ⟨g, off + k * 2, none⟩ = some (.int .i64 p.1) ∧ w.cell? ⟨g, off + k * 2 + 1, none⟩ = some (.int .i64 p.2)) ∧ ∃ b o, ao = some ⟨b, o, none⟩ ∧ w.cell? ⟨b, o + k * 2, none⟩ = some (.int .i64 p.1) ∧ w.cell? ⟨b, o + k * 2 + 1, none⟩ = some (.int .i64 p.2)) := fun k p hk => by
    have hk' : k < l.length := (List.getElem?_eq_some_iff.1 hk).1
    obtain ⟨g', off', e, _, c, d⟩ := hr k p (by rw [List.getElem?_append_left hk']; exact hk)
    cases e
    obtain ⟨b, o, e, _, c', d'⟩ := hsp k p hk
    exact ⟨⟨c, d⟩, b, o, e, c', d'⟩
  have HM : Hid (m = l.length) := hm
  rw [← hm] at hl hcap ⊢
  clear hr hsp hv hm
  go_enter Tryz.func67, Tryz.ntmps67
  go_wp2
  go_loopw [6] (fun i wr => ∃ (k : Nat), k ≤ m ∧ i = .int .i64 k ∧ Hid (Below w.heap.size w wr)) (fun i _ => m - (intOf i).toNat)
  case atStart => exact ⟨0, Nat.zero_le _, rfl, Below.refl _ _⟩
  case round =>
    obtain ⟨k, hk, rfl, HB⟩ := hrel
    by_cases hlt : k < m
    · have hkz : (k : Int) < (m : Int) := by omega
      obtain ⟨p, hp⟩ : ∃ p, l[k]? = some p := ⟨_, List.getElem?_eq_getElem (by have := HM.out; omega)⟩
      obtain ⟨⟨c0, c1⟩, b, o, rfl, d0, d1⟩ := HG.out k p hp
      have c0' := cell_later HB.out c0
      have c1' := cell_later HB.out c1
      have d0' := cell_later HB.out d0
      have d1' := cell_later HB.out d1
      clear c0 c1 d0 d1 hp e1 e2
      go_wp2
      go_quiet (fail)
      go_wp2
      go_roundw
      case rel => exact ⟨k + 1, by omega, by go_num, ⟨HB.out.os, HB.out.tape, HB.out.output, HB.out.size, HB.out.block⟩⟩
      case measure => simp [intOf]; omega
    · have hkz : ¬ (k : Int) < (m : Int) := by omega
      have ek : k = m := by omega
      subst ek
      have e1' := cell_later HB.out e1
      have e2' := cell_later HB.out e2
      clear e1 e2
      go_wp2
      go_ret
      exact ⟨rfl, HB.out⟩
end Go.Proofs.YtijimcjmpeakpaaGreat.C

namespace Go.Proofs.YtijimcjmpeakpaaGreat.C
open Go.RowKit Go.Maps Go.Shelf Go.Proofs.YtijimcjmpeakpaaGreat
attribute [local go_sem] Oper.semAt_some
set_option linter.unusedVariables false
set_option linter.unusedSimpArgs false
set_option maxRecDepth 100000

abbrev TRd : TypeId := 136
abbrev TRc : TypeId := 154
def rdcells (n : Int) : Array Value := #[.int .i64 n, .slice none 0 0, .slice none 0 0, .slice none 0 0, .slice none 0 0, .int .u64 0, .int .u64 0, .int .u64 0, .int .u64 0, .int .u64 0]
theorem rnew_bad (w : World) (n : Int) (h : n < 1 ∨ 65536 < n) : Calls Tryz.prog 34 #[.int .i64 n] w fun r w' => r = .returned (.tuple #[.pointer none, .int .i64 30]) ∧ w' = w := by
  by_cases h1 : n < 1
  · go_enter Tryz.func34, Tryz.ntmps34
    go_wp2
    refine bodyPost_ret (results_tmp2 rfl _ _ _) rfl ?_
    exact ⟨rfl, rfl⟩
  · have h2 : 65536 < n := by omega
    go_enter Tryz.func34, Tryz.ntmps34
    go_wp2
    refine bodyPost_ret (results_tmp2 rfl _ _ _) rfl ?_
    exact ⟨rfl, rfl⟩
theorem rnew_any (w : World) (n : Nat) (h0 : 1 ≤ n) (h1 : n ≤ 65536) : Calls Tryz.prog 34 #[.int .i64 n] w fun r w' => r = .returned (.tuple #[.pointer (some ⟨w.heap.size, 0, none⟩), .int .i64 0]) ∧ w' = w.alloc (.cells (rdcells n) TRd) := by
  have a1 : ¬ ((n : Int) < 1) := by omega
  have a2 : ¬ (65536 < (n : Int)) := by omega
  go_enter Tryz.func34, Tryz.ntmps34
  go_wp2
  refine bodyPost_ret (results_tmp2 rfl _ _ _) rfl ?_
  exact ⟨rfl, rfl⟩
/-- the document's cache, refused for its lines -/
theorem rcnew_lines {w : World} {p : Nat} {n : Int} (hc : w.cell? ⟨p, 0, none⟩ = some (.int .i64 n)) (hn : 1 ≤ n) {k : Int} (hk : k < 1 ∨ 1024 < k) (x : Value) :
    Calls Tryz.prog 42 #[.pointer (some ⟨p, 0, none⟩), .int .i64 k, x] w fun r w' => r = .returned (.tuple #[.pointer none, .int .i64 50]) ∧ w' = w := by
  have d4 : ¬ (n = 0) := by omega
  have e1 : ∀ (w : World) (a : Addr), (binOp .eql 64 (.pointer (some a)) (.pointer none)).run Tryz.prog w = .ok (.bool false) w := fun _ _ => rfl
  by_cases hk1 : k < 1
  · have b1 : decide (k < 1) = true := decide_eq_true hk1
    go_enter Tryz.func42, Tryz.ntmps42
    go_wp2
    refine bodyPost_ret (results_tmp2 rfl _ _ _) rfl ?_
    exact ⟨rfl, rfl⟩
  · have b1 : decide (k < 1) = false := decide_eq_false hk1
    have hk2 : 1024 < k := by omega
    have b2 : decide (1024 < k) = true := decide_eq_true hk2
    clear hk
    go_enter Tryz.func42, Tryz.ntmps42
    go_wp2
    refine bodyPost_ret (results_tmp2 rfl _ _ _) rfl ?_
    exact ⟨rfl, rfl⟩
theorem rcnew_many {w : World} {p : Nat} {n : Int} (hc : w.cell? ⟨p, 0, none⟩ = some (.int .i64 n)) (hn : 1 ≤ n) {most : Nat} (hm0 : 1 ≤ most) (hm1 : most ≤ 1024) {ao : Option Addr} {m cap : Nat} (hm : 64 < m) :
    Calls Tryz.prog 42 #[.pointer (some ⟨p, 0, none⟩), .int .i64 most, .slice ao m cap] w fun r w' => r = .returned (.tuple #[.pointer none, .int .i64 51]) ∧ w' = w := by
  have d4 : ¬ (n = 0) := by omega
  have e1 : ∀ (w : World) (a : Addr), (binOp .eql 64 (.pointer (some a)) (.pointer none)).run Tryz.prog w = .ok (.bool false) w := fun _ _ => rfl
  have d1 : ¬ ((most : Int) < 1) := by omega
  have d2 : ¬ ((1024 : Int) < (most : Int)) := by omega
  have d3 : (64 : Int) < (m : Int) := by omega
  have b2 : decide ((m : Int) > 64) = true := decide_eq_true d3
  go_enter Tryz.func42, Tryz.ntmps42
  go_wp2
  refine bodyPost_ret (results_tmp2 rfl _ _ _) rfl ?_
  exact ⟨rfl, rfl⟩
end Go.Proofs.YtijimcjmpeakpaaGreat.C

namespace Go.Proofs.YtijimcjmpeakpaaGreat.C
open Go.RowKit Go.Maps Go.Shelf Go.Proofs.YtijimcjmpeakpaaGreat
attribute [local go_sem] Oper.semAt_some
set_option linter.unusedVariables false
set_option linter.unusedSimpArgs false
set_option maxRecDepth 100000

theorem not_apart_bad {n i : Nat} {l : List (Int × Int)} {p : Int × Int} (hp : l[i]? = some p) (hb : p.1 < 0 ∨ p.2 < 1 ∨ (n : Int) < p.1 ∨ (n : Int) - p.1 < p.2) : ¬ Apart n l := fun h => by
  have := h.1 p (List.mem_of_getElem? hp)
  omega
theorem not_apart_meet {n i k : Nat} {l : List (Int × Int)} {p t : Int × Int} (hp : l[i]? = some p) (ht : l[k]? = some t) (hki : k < i) (hb : ¬ Off2 t p) : ¬ Apart n l := fun h => by
  obtain ⟨h1, e1⟩ := List.getElem?_eq_some_iff.1 hp
  obtain ⟨h2, e2⟩ := List.getElem?_eq_some_iff.1 ht
  have := List.pairwise_iff_getElem.1 h.2 k i h2 h1 hki
  rw [e1, e2] at this
  exact hb this
theorem apart_succ {n i : Nat} {l : List (Int × Int)} {p : Int × Int} (hp : l[i]? = some p) (h : Apart n (l.take i)) (ho : 0 ≤ p.1 ∧ 1 ≤ p.2 ∧ p.1 + p.2 ≤ n) (hm : ∀ k t, k < i → l[k]? = some t → Off2 t p) : Apart n (l.take (i + 1)) := by
  have e : l.take (i + 1) = l.take i ++ [p] := by rw [List.take_add_one, hp]; rfl
  rw [e]
  refine ⟨fun q hq => ?_, List.pairwise_append.2 ⟨h.2, List.pairwise_singleton _ _, fun a ha b hb => ?_⟩⟩
  · rcases List.mem_append.1 hq with hq | hq
    · exact h.1 q hq
    · simp at hq; subst hq; exact ho
  · simp at hb
    subst hb
    obtain ⟨k, hk⟩ := List.getElem?_of_mem ha
    have hlt : k < i := by
      have := (List.getElem?_eq_some_iff.1 hk).1
      rw [List.length_take] at this; omega
    rw [List.getElem?_take] at hk
    rw [if_pos hlt] at hk
    exact hm k a hlt hk
theorem apart_mem {n k : Nat} {l : List (Int × Int)} {i : Nat} {t : Int × Int} (h : Apart n (l.take i)) (hk : k < i) (ht : l[k]? = some t) : 0 ≤ t.1 ∧ 1 ≤ t.2 ∧ t.1 + t.2 ≤ n :=
  h.1 t (List.mem_of_getElem? (i := k) (by rw [List.getElem?_take, if_pos hk]; exact ht))
def rccells (p : Nat) (most : Nat) (v : Value) : Array Value := #[.pointer (some ⟨p, 0, none⟩), .int .i64 most, v, .slice none 0 0, .int .u64 0, .int .u64 0, .int .u64 0, .int .u64 0]
def RcPost (w : World) (p n most : Nat) (l : List (Int × Int)) (r : Ending) (w' : World) : Prop :=
  Below w.heap.size w w' ∧ ((¬ Apart n l ∧ r = .returned (.tuple #[.pointer none, .int .i64 51])) ∨ (Apart n l ∧ ∃ q v, r = .returned (.tuple #[.pointer (some ⟨q, 0, none⟩), .int .i64 0]) ∧ w.heap.size ≤ q ∧ w'.heap[q]? = some (.cells (rccells p most v) TRc) ∧ w'.ownsRow w.heap.size TSp 2 v l.length (spcells l) ∧ v.ownBlock ≠ some q))
set_option maxHeartbeats 8000000 in
theorem rcnew_any {w : World} {p n : Nat} (hc : w.cell? ⟨p, 0, none⟩ = some (.int .i64 n)) (hn : 1 ≤ n) (hn1 : n ≤ 65536) {most : Nat} (hm0 : 1 ≤ most) (hm1 : most ≤ 1024) {v : Value} {l : List (Int × Int)} (hv : ArgS w v l) (hl : l.length ≤ 64) (hw : ∀ p ∈ l, I64 p.1 ∧ I64 p.2) :
    Calls Tryz.prog 42 #[.pointer (some ⟨p, 0, none⟩), .int .i64 most, v] w (RcPost w p n most l) := by
  obtain ⟨i0, hi, hz0, hz1, hz2⟩ := info_parts infoSp
  obtain ⟨ao, cap, rfl, hsp, _⟩ := hv.form
  have HV : Hid (ArgS w (.slice ao l.length cap) l) := hv
  have HSP : Hid (SpR w ao l) := hsp
  have HW : Hid (∀ p ∈ l, I64 p.1 ∧ I64 p.2) := hw
  have d4 : ¬ ((n : Int) = 0) := by omega
  have d4' : ¬ (n = 0) := by omega
  have e1 : ∀ (w : World) (a : Addr), (binOp .eql 64 (.pointer (some a)) (.pointer none)).run Tryz.prog w = .ok (.bool false) w := fun _ _ => rfl
  have d1 : ¬ ((most : Int) < 1) := by omega
  have d2 : ¬ ((1024 : Int) < (most : Int)) := by omega
  have d3 : ¬ ((64 : Int) < (l.length : Int)) := by omega
  obtain ⟨m, hm⟩ : ∃ m, m = l.length := ⟨_, rfl⟩
  have HM : Hid (m = l.length) := hm
  have HB0 : Hid (Below w.heap.size w w) := Below.refl _ _
  rw [← hm] at hl d3 HV ⊢
  clear hv hsp hw hm
  have b2 : decide ((m : Int) > 64) = false := decide_eq_false d3
  go_enter Tryz.func42, Tryz.ntmps42
  go_wp2
  go_loopw [8] (fun i wr => ∃ (k : Nat), k ≤ m ∧ i = .int .i64 k ∧ Hid (Apart n (l.take k)) ∧ Hid (Below w.heap.size w wr)) (fun i _ => m - (intOf i).toNat)
  case atStart => exact ⟨0, Nat.zero_le _, rfl, ⟨fun p hp => by simp at hp, by simp⟩, HB0⟩
  case round =>
    obtain ⟨i, hi', rfl, HA, HB⟩ := hrel
    by_cases hlt : i < m
    · have hkz : (i : Int) < (m : Int) := by omega
      obtain ⟨⟨p1, p2⟩, hp⟩ : ∃ p, l[i]? = some p := ⟨_, List.getElem?_eq_getElem (by have := HM.out; omega)⟩
      obtain ⟨g, off, rfl, hg, c0, c1⟩ := HSP.out i _ hp
      simp only at c0 c1
      have q0 := cell_later HB.out c0
      have q1 := cell_later HB.out c1
      have hpw := HW.out _ (List.mem_of_getElem? hp)
      simp only at hpw
      have HP : Hid (l[i]? = some (p1, p2)) := hp
      have HB2 : Hid (Below w.heap.size w (wr.alloc (.cells #[.int .i64 p1, .int .i64 p2] TSp))) := HB.out.alloc HB.out.size _
      have hpd : (wr.alloc (.cells #[.int .i64 p1, .int .i64 p2] TSp)).cell? ⟨p, 0, none⟩ = some (.int .i64 n) := cell_later HB2.out hc
      clear c0 c1 hp
      by_cases h1 : p1 < 0
      · have b1 : decide (p1 < 0) = true := decide_eq_true h1
        go_wp2
        go_quiet (fail)
        go_wp2
        refine bodyPost_ret (results_tmp2 rfl _ _ _) rfl ?_
        exact ⟨⟨HB2.out.os, HB2.out.tape, HB2.out.output, HB2.out.size, HB2.out.block⟩, .inl ⟨not_apart_bad HP.out (.inl h1), rfl⟩⟩
      have b1 : decide (p1 < 0) = false := decide_eq_false h1
      by_cases h2 : p2 < 1
      · have b2 : decide (p2 < 1) = true := decide_eq_true h2
        go_wp2
        go_quiet (fail)
        go_wp2
        refine bodyPost_ret (results_tmp2 rfl _ _ _) rfl ?_
        exact ⟨⟨HB2.out.os, HB2.out.tape, HB2.out.output, HB2.out.size, HB2.out.block⟩, .inl ⟨not_apart_bad HP.out (.inr (.inl h2)), rfl⟩⟩
      have b2 : decide (p2 < 1) = false := decide_eq_false h2
      by_cases h3 : (n : Int) < p1
      · have b3 : decide (p1 > (n : Int)) = true := decide_eq_true h3
        go_wp2
        go_quiet (fail)
        go_wp2
        refine bodyPost_ret (results_tmp2 rfl _ _ _) rfl ?_
        exact ⟨⟨HB2.out.os, HB2.out.tape, HB2.out.output, HB2.out.size, HB2.out.block⟩, .inl ⟨not_apart_bad HP.out (.inr (.inr (.inl h3))), rfl⟩⟩
      have b3 : decide (p1 > (n : Int)) = false := decide_eq_false h3
      have hwr : IntKind.i64.wrap ((n : Int) - p1) = (n : Int) - p1 := by rw [IntKind.wrap_i64]; omega
      by_cases h4 : (n : Int) - p1 < p2
      · have b4 : decide (p2 > (n : Int) - p1) = true := decide_eq_true h4
        go_wp2
        go_quiet (fail)
        go_wp2
        refine bodyPost_ret (results_tmp2 rfl _ _ _) rfl ?_
        exact ⟨⟨HB2.out.os, HB2.out.tape, HB2.out.output, HB2.out.size, HB2.out.block⟩, .inl ⟨not_apart_bad HP.out (.inr (.inr (.inr h4))), rfl⟩⟩
      have b4 : decide (p2 > (n : Int) - p1) = false := decide_eq_false h4
      have hok : 0 ≤ p1 ∧ 1 ≤ p2 ∧ p1 + p2 ≤ (n : Int) := by omega
      have hw2 : IntKind.i64.wrap (p1 + p2) = p1 + p2 := by rw [IntKind.wrap_i64]; omega
      go_wp2
      go_quiet (fail)
      obtain ⟨W1, hW1⟩ : ∃ W1, W1 = (wr.alloc (.cells #[.int .i64 p1, .int .i64 p2] TSp)).drewN nq := ⟨_, rfl⟩
      have HBW : Hid (Below w.heap.size w W1) := by show Below _ _ _; rw [hW1]; exact ⟨HB2.out.os, HB2.out.tape, HB2.out.output, HB2.out.size, HB2.out.block⟩
      have hbs : W1.heap[wr.heap.size]? = some (.cells #[.int .i64 p1, .int .i64 p2] TSp) := by rw [hW1]; exact heap_alloc_new wr _
      have s0 : W1.cell? ⟨wr.heap.size, 0, none⟩ = some (.int .i64 p1) := (K.cell_of hbs).trans rfl
      have s1 : W1.cell? ⟨wr.heap.size, 1, none⟩ = some (.int .i64 p2) := (K.cell_of hbs).trans rfl
      rw [← hW1]
      clear hW1 hbs q0 q1 hpd b1 b2 b3 b4 hwr h1 h2 h3 h4 HB2 hpw hkz HB
      generalize wr.heap.size = sb at s0 s1 ⊢
      go_wp2
      go_loopw [10] (fun j wk => ∃ (k : Nat), k ≤ i ∧ j = .int .i64 k ∧ Hid (∀ k' t, k' < k → l[k']? = some t → Off2 t (p1, p2)) ∧ Hid (Below W1.heap.size W1 wk)) (fun j _ => i - (intOf j).toNat)
      case atStart => exact ⟨0, Nat.zero_le _, rfl, fun k' t h => by omega, Below.refl _ _⟩
      case round =>
        obtain ⟨k, hk, rfl, HO, HBk⟩ := hrel
        by_cases hlk : k < i
        · have hkz : (k : Int) < (i : Int) := by omega
          obtain ⟨⟨t1, t2⟩, ht⟩ : ∃ p, l[k]? = some p := ⟨_, List.getElem?_eq_getElem (by have := HM.out; omega)⟩
          obtain ⟨g', off', e, _, c0, c1⟩ := HSP.out k _ ht
          cases e
          simp only at c0 c1
          have q0 := cell_later HBk.out (cell_later HBW.out c0)
          have q1 := cell_later HBk.out (cell_later HBW.out c1)
          have r0 := cell_later HBk.out s0
          have r1 := cell_later HBk.out s1
          have hto := apart_mem HA.out hlk ht
          simp only at hto
          have hw3 : IntKind.i64.wrap (t1 + t2) = t1 + t2 := by rw [IntKind.wrap_i64]; omega
          have HT : Hid (l[k]? = some (t1, t2)) := ht
          have HBk2 : Hid (Below W1.heap.size W1 (wr.alloc (.cells #[.int .i64 t1, .int .i64 t2] TSp))) := HBk.out.alloc HBk.out.size _
          have r0' := cell_later HBk2.out s0
          have r1' := cell_later HBk2.out s1
          clear c0 c1 ht
          by_cases g1 : p1 < t1 + t2
          · have f1 : decide (p1 < t1 + t2) = true := decide_eq_true g1
            by_cases g2 : t1 < p1 + p2
            · have f2 : decide (t1 < p1 + p2) = true := decide_eq_true g2
              go_wp2
              refine bodyPost_ret (results_tmp2 rfl _ _ _) rfl ?_
              exact ⟨HBW.out.trans (HBk2.out.mono HBW.out.size), .inl ⟨not_apart_meet HP.out HT.out hlk (by unfold Off2; simp only; omega), rfl⟩⟩
            · have f2 : decide (t1 < p1 + p2) = false := decide_eq_false g2
              go_wp2
              go_roundw
              case rel => exact ⟨k + 1, by omega, by go_num, fun k' t hk' ht' => by
                rcases Nat.lt_or_ge k' k with h | h
                · exact HO.out k' t h ht'
                · have e : k' = k := by omega
                  subst e
                  rw [HT.out] at ht'
                  cases ht'
                  unfold Off2; simp only; omega, HBk2⟩
              case measure => simp [intOf]; omega
          · have f1 : decide (p1 < t1 + t2) = false := decide_eq_false g1
            go_wp2
            go_roundw
            case rel => exact ⟨k + 1, by omega, by go_num, fun k' t hk' ht' => by
              rcases Nat.lt_or_ge k' k with h | h
              · exact HO.out k' t h ht'
              · have e : k' = k := by omega
                subst e
                rw [HT.out] at ht'
                cases ht'
                unfold Off2; simp only; omega, HBk2⟩
            case measure => simp [intOf]; omega
        · have hkz : ¬ (k : Int) < (i : Int) := by omega
          have ek : k = i := by omega
          subst ek
          have HA2 : Hid (Apart n (l.take (k + 1))) := apart_succ HP.out HA.out hok HO.out
          have HBn : Hid (Below w.heap.size w wr) := HBW.out.trans (HBk.out.mono HBW.out.size)
          go_wp2
          go_roundw
          case rel => exact ⟨k + 1, by omega, by go_num, HA2, HBn⟩
          case measure => simp [intOf]; omega
    · have hkz : ¬ (i : Int) < (m : Int) := by omega
      have ei : i = m := by omega
      subst ei
      have HAf : Hid (Apart n l) := by
        have h := HA.out
        rw [HM.out, List.take_length] at h
        exact h
      have HVr : Hid (ArgS (wr.alloc (.cells #[.pointer (some ⟨p, 0, none⟩), .int .i64 most, .slice none 0 0, .slice none 0 0, .int .u64 0, .int .u64 0, .int .u64 0, .int .u64 0] TRc)) (.slice ao l.length cap) l) := by
        have h := HV.out
        rw [HM.out] at h
        exact (h.later HB.out).later ((Below.refl _ wr).alloc (Nat.le_refl _) _)
      have HBa : Hid (Below w.heap.size w (wr.alloc (.cells #[.pointer (some ⟨p, 0, none⟩), .int .i64 most, .slice none 0 0, .slice none 0 0, .int .u64 0, .int .u64 0, .int .u64 0, .int .u64 0] TRc))) := HB.out.alloc HB.out.size _
      have hsz := HB.out.size
      have hrp : (wr.alloc (.cells #[.pointer (some ⟨p, 0, none⟩), .int .i64 most, .slice none 0 0, .slice none 0 0, .int .u64 0, .int .u64 0, .int .u64 0, .int .u64 0] TRc)).heap[wr.heap.size]? = some (.cells #[.pointer (some ⟨p, 0, none⟩), .int .i64 most, .slice none 0 0, .slice none 0 0, .int .u64 0, .int .u64 0, .int .u64 0, .int .u64 0] TRc) := heap_alloc_new wr _
      have c2 : (wr.alloc (.cells #[.pointer (some ⟨p, 0, none⟩), .int .i64 most, .slice none 0 0, .slice none 0 0, .int .u64 0, .int .u64 0, .int .u64 0, .int .u64 0] TRc)).cell? ⟨wr.heap.size, 2, none⟩ = some (.slice none 0 0) := (K.cell_of hrp).trans rfl
      rw [show (.slice ao i cap : Value) = .slice ao l.length cap by rw [HM.out]]
      have hkz : ¬ (i : Int) < (l.length : Int) := by have := HM.out; omega
      clear HV HA
      go_wp2_with (at_builtin; go_loud (refine wpList_append_sp rfl _ _ rfl w.heap.size (.slice none 0 0) 0 [] rfl (World.ownsRow_nil _ _ _ _) _ l rfl HVr.out (by omega) (by rw [World.size_alloc]; omega) ?_; intro v1 w1 h1 hg1; have HB1 : Hid (Below w.heap.size w w1) := (HBa.out.grown hg1 (by rw [World.size_alloc]; omega) (fun q e => by cases e)); have HR1 : Hid (w1.ownsRow w.heap.size TSp 2 v1 l.length (spcells l)) := (by show World.ownsRow _ _ _ _ _ _ _; simpa using h1); have hb1 : w1.heap[wr.heap.size]? = some (.cells #[.pointer (some ⟨p, 0, none⟩), .int .i64 most, .slice none 0 0, .slice none 0 0, .int .u64 0, .int .u64 0, .int .u64 0, .int .u64 0] TRc) := ((hg1.block wr.heap.size (by rw [World.size_alloc]; omega) (fun e => by cases e)).trans hrp); have z2 : w1.frozen? ⟨wr.heap.size, 2, none⟩ = false := K.frozen_of hb1; have y2 : w1.cell? ⟨wr.heap.size, 2, none⟩ = some (.slice none 0 0) := (K.cell_of hb1).trans rfl; clear h1 hg1; obtain ⟨ao1, c1, rfl, _⟩ := sp_form HR1.out))
      refine bodyPost_ret (results_tmp2 rfl _ _ _) rfl ?_
      have hlt1 : wr.heap.size < w1.heap.size := (Array.getElem?_eq_some_iff.1 hb1).1
      have hob : ∀ q, (Value.slice ao1 l.length c1).ownBlock = some q → q ≠ wr.heap.size := fun q e eq => by
        rcases HR1.out.2 with ⟨h0, _⟩ | ⟨g, cp, cur, h0, _, hg, _⟩
        · rw [h0] at e; cases e
        · rw [h0] at e
          have e' : g = q := by simpa [Value.ownBlock] using e
          rw [e', eq, hb1] at hg
          simp at hg
          first | exact absurd hg.2 (by decide) | exact absurd hg.2.1 (by decide)
      refine ⟨HB1.out.setCell hsz _, .inr ⟨HAf.out, _, _, rfl, hsz, ?_, K.ownsRow_block HR1.out (fun q e => Below.heap_setCell _ _ _ _ (hob q e)), fun e => hob _ e rfl⟩⟩
      exact K.blk_set hb1 2 _
end Go.Proofs.YtijimcjmpeakpaaGreat.C

namespace Go.Proofs.YtijimcjmpeakpaaGreat.C
open Go.RowKit Go.Maps Go.Shelf Go.Proofs.YtijimcjmpeakpaaGreat
attribute [local go_sem] Oper.semAt_some
set_option linter.unusedVariables false
set_option linter.unusedSimpArgs false
set_option maxRecDepth 100000

set_option maxHeartbeats 2000000 in
/-- the counts -/
theorem stats_c {w : World} {P : Loc} {S : K.Dk} {C : Ch} (h : RC w P S C) : Calls Tryz.prog 14 #[.pointer (some ⟨P.bc, 0, none⟩)] w fun r w' => r = .returned (.agg #[.int .u64 C.st.hits, .int .u64 C.st.misses, .int .u64 C.st.evicted, .int .u64 C.st.written]) ∧ Below w.heap.size w w' := by
  obtain ⟨W0, hW0⟩ : ∃ W0, W0 = w.alloc (.cells #[.int .u64 0, .int .u64 0, .int .u64 0, .int .u64 0] 36) := ⟨_, rfl⟩
  have hB0 : Below w.heap.size w W0 := by rw [hW0]; exact (Below.refl _ w).alloc (Nat.le_refl _) _
  have h0 := h.later hB0
  have hbx : W0.heap[w.heap.size]? = some (.cells #[.int .u64 0, .int .u64 0, .int .u64 0, .int .u64 0] 36) := by rw [hW0]; exact heap_alloc_new w _
  have hus := usable_c h0
  have k5 : W0.cell? ⟨P.bc, 5, none⟩ = some (.int .u64 C.st.hits) := h0.c 5
  have k6 : W0.cell? ⟨P.bc, 6, none⟩ = some (.int .u64 C.st.misses) := h0.c 6
  have k7 : W0.cell? ⟨P.bc, 7, none⟩ = some (.int .u64 C.st.evicted) := h0.c 7
  have k8 : W0.cell? ⟨P.bc, 8, none⟩ = some (.int .u64 C.st.written) := h0.c 8
  have hi5 : (Tryz.prog.info? 36).map (·.size) = some 4 := by kernel_rfl
  clear h h0 hB0 hbx
  subst hW0
  go_enter Tryz.func14, Tryz.ntmps14
  go_wp2_with (go_at_call 41; refine hus.mono ?_; rintro e w9 ⟨rfl, hw9⟩; rw [hw9]; clear hw9 hus)
  exact bodyPost_ret (results_cell_row rfl _ _ w.heap.size 36 _ (0, 0) _ rfl (heap_alloc_new w _) Tryz.underlying36 rfl hi5) rfl ⟨rfl, (Below.refl _ w).alloc (Nat.le_refl _) _⟩
set_option maxHeartbeats 8000000 in
/-- a cache without lines tells of none -/
theorem told_new {w : World} {P : Loc} {S : K.Dk} {C : Ch} (h : RC w P S C) (hL : C.L = []) :
    Calls Tryz.prog 73 #[.pointer (some ⟨P.bc, 0, none⟩)] w fun r w' => r = .returned (.slice none 0 0) ∧ Below w.heap.size w w' := by
  refine (callsIn_wide (n := 4)).1 ?_
  have f0 : Fence.wide.fn 73 := trivial
  have f3 : Fence.wide.fn 41 := trivial
  have f1 : Fence.wide.fn 86 := trivial
  have f2 : Fence.wide.fn 167 := trivial
  have hBa : Below w.heap.size w (w.alloc (.cells #[.pointer (some ⟨P.bc, 0, none⟩)] 28)) := (Below.refl _ w).alloc (Nat.le_refl _) _
  have hus := usable_c (h.later hBa)
  obtain ⟨w1, hw1⟩ : ∃ w1, w1 = (w.alloc (.cells #[.pointer (some ⟨P.bc, 0, none⟩)] 28)).alloc (.cells #[.slice none 0 0] TLs) := ⟨_, rfl⟩
  have hB1 : Below w.heap.size w w1 := by rw [hw1]; exact hBa.alloc (by simp) _
  have hs1 : w1.heap.size = w.heap.size + 2 := by rw [hw1]; simp
  have h1 := h.later hB1
  have c4 : w1.cell? ⟨P.bc, 4, none⟩ = some (.pointer (some ⟨P.bo, 0, none⟩)) := h1.c 4
  have x0 : Boxed w1 w.heap.size 28 (.pointer (some ⟨P.bc, 0, none⟩)) := by rw [hw1]; exact (Boxed.new w _ _).alloc _
  have x1 : Boxed w1 (w.heap.size + 1) TLs (.slice none 0 0) := by
    have := Boxed.new (w.alloc (.cells #[.pointer (some ⟨P.bc, 0, none⟩)] 28)) TLs (.slice none 0 0)
    rw [World.size_alloc] at this
    rw [hw1]; exact this
  refine callsIn_of_wp_marks Tryz.func73 rfl f0 ?_ rfl
  simp only [Tryz.ntmps73, List.size_toArray, List.length_cons, List.length_nil, Nat.reduceAdd, Nat.reduceSub, Array.replicate_succ, Array.replicate_zero, List.push_toArray, List.append_toArray, List.nil_append, List.cons_append]
  have c4' := c4
  rw [hw1] at c4'
  gi_wp2_with (first | (gi_at_call 41; refine (callsIn_wide.2 hus).mono ?_; rintro e w9 ⟨rfl, hw9⟩; rw [hw9]; clear hw9 hus) | (gi_at_call 86; refine (callsIn_wide.2 (I.A.func_any _ _)).mono ?_; rintro e w' ⟨rfl, rfl⟩))
  obtain ⟨W0, hW0⟩ : ∃ W0, W0 = (w1.alloc (.cells #[.pointer (some ⟨P.bo, 0, none⟩)] I.A.TPo)).alloc (.cells #[.func (.func 126) #[] #[]] I.A.TPf) := ⟨_, rfl⟩
  rw [← hw1, ← hW0]
  have hB10 : Below w1.heap.size w1 W0 := by rw [hW0]; exact ((Below.refl _ w1).alloc (Nat.le_refl _) _).alloc (by simp) _
  have hB0 : Below w.heap.size w W0 := hB1.trans (hB10.mono hB1.size)
  have hs0 : W0.heap.size = w.heap.size + 4 := by rw [hW0]; simp [hs1]
  have bx1 : W0.cell? ⟨w.heap.size + 1 + 1, 0, none⟩ = some (.pointer (some ⟨P.bo, 0, none⟩)) := by
    have := Boxed.new w1 I.A.TPo (.pointer (some ⟨P.bo, 0, none⟩))
    rw [hs1] at this
    rw [hW0]; exact (this.alloc _).cell
  have bx2 : W0.cell? ⟨w.heap.size + 1 + 1 + 1, 0, none⟩ = some (.func (.func 126) #[] #[]) := by
    have := Boxed.new (w1.alloc (.cells #[.pointer (some ⟨P.bo, 0, none⟩)] I.A.TPo)) I.A.TPf (.func (.func 126) #[] #[])
    rw [World.size_alloc, hs1] at this
    rw [hW0]; exact this.cell
  have hlim := h.lim
  have hlen : P.E.length * 8 ≤ 140737488355328 := by rw [h.lenE]; omega
  have bO : Boxed W0 (w.heap.size + 1) TLs (.slice none 0 0) := (hB10.block _ (by omega)).trans x1
  have hseq := I.A.seq_gen (fun x : Int => x) [] 3 (by omega) kpN_row (h.later hB0).ro (by rw [pickedA, h.eq, hL]; rfl) bx1 bx2 (by omega) hlen (fun _ _ _ _ _ _ _ => trivial)
  clear bx1 bx2 c4 c4' x0 x1 h1 hw1 hW0 h hlen hBa
  refine wpIn_rangeFunc_ownH rfl (by omega) (gf := 167) (lb := #[.pointer (some ⟨w.heap.size + 1 + 1, 0, none⟩), .pointer (some ⟨w.heap.size + 1 + 1 + 1, 0, none⟩)]) rfl f2 (enters_of Tryz.func167 (by kernel_rfl) rfl)
    hseq kpN_t (kpN_b (w := W0)) (Below.refl _ _) (fun _ => rfl)
    (fun pre W => Boxed W (w.heap.size + 1) TLs (.slice none 0 0) ∧ Below w.heap.size w W)
    (fun _ _ _ => False)
    (OwnFrom.and (Own.from (boxed_own (w.heap.size + 1) TLs (fun (pre : List Int) => .slice none 0 0)) _) (ownFrom_below (Nat.le_refl _) (by omega)))
    (fun _ _ _ _ _ hs _ _ => hs)
    ⟨bO, hB0⟩
    (fun _ _ _ => True)
    (fun _ _ _ _ _ _ _ _ _ => trivial)
    ?assign ?body ?done ?stop
  case assign =>
    rintro l pre x W K hI hK
    gi_wp2
    exact hK _ _ (KeepsFrom.refl _ _) (fun _ _ _ h => h) hI trivial
  case body =>
    intro l pre x a' W hl hr hI hA hlt
    exact absurd hlt (Nat.not_lt_zero _)
  case done =>
    rintro D ys W hD rfl ⟨hv, hB⟩ hK
    have hc := hv.cell
    gi_wp2
    refine ⟨by simp, .inl ⟨_, _, rfl, run_takeDeferred hK, ?_⟩⟩
    exact ⟨_, results_tmp rfl _ _ _, rfl, hB.trans (belowK_b (w := w) (Nat.le_refl _) W D _ _ (by omega) hK rfl rfl)⟩
  case stop =>
    rintro D c pre W _ _ h _
    exact h.elim
set_option maxHeartbeats 4000000 in
/-- a cache that tells of no line gives nothing to range over -/
theorem seq_none (n : Nat) (hn : 2 ≤ n) {H : Nat} {w : World} {b0 : Nat} (p : Option Addr) (HU : Hid (∀ W, Below w.heap.size w W → Calls Tryz.prog 73 #[.pointer p] W fun r w' => r = .returned (.slice none 0 0) ∧ Below W.heap.size W w'))
    (c0 : w.cell? ⟨b0, 0, none⟩ = some (.pointer p)) :
    SeqStopsK Fence.wide n Tryz.prog 72 #[.pointer (some ⟨b0, 0, none⟩)] (fun p : Int × Bool × Bool => #[.agg #[.int .i64 p.1, .bool p.2.1, .bool p.2.2]]) (KpH H) (fun xs => xs = []) (fun _ => False) 0 w := by
  intro l J Jx W hW hJ hJx hY h0
  have HP := HU.out W hW
  have d0 : W.cell? ⟨b0, 0, none⟩ = some (.pointer p) := cell_later hW c0
  have HJ1 : Hid (∀ w', Below W.heap.size W w' → J [] w') := fun w' hb => hJ [] W _ none h0 ⟨hb.os, hb.tape, hb.output, hb.size, fun i hi _ => hb.block i hi⟩ (fun r e => by cases e)
  have hf : Fence.wide.fn 72 := trivial
  have hf2 : Fence.wide.fn 73 := trivial
  have h1 : 1 ≤ n := by omega
  have h1' : 1 ≤ n - 1 := by omega
  clear hY HU c0 h0
  refine callsIn_of_wp Tryz.func72 rfl hf ?_ rfl
  simp only [Tryz.ntmps72, List.size_toArray, List.length_cons, List.length_nil, Nat.reduceAdd, Nat.reduceSub, Array.replicate_succ, Array.replicate_zero, List.push_toArray, List.append_toArray, List.nil_append, List.cons_append]
  gi_wp2_with (gi_at_call 73; refine (callsIn_wide.2 HP).mono ?_; rintro e w9 ⟨rfl, hw9⟩; have HJ2 : Hid (J [] w9) := HJ1.out w9 hw9; clear hw9)
  gi_loopw [8] (fun i wr => i = .int .i64 0 ∧ Hid (J [] wr)) (fun i _ => 0)
  case atStart => exact ⟨rfl, HJ2⟩
  case round =>
    obtain ⟨rfl, HJr⟩ := hrel
    gi_wp2
    go_end0
    exact ⟨⟨_, rfl⟩, .inl ⟨[], rfl, HJr.out⟩⟩
set_option maxHeartbeats 8000000 in
theorem lines_none {w : World} (p : Option Addr) (HU : Hid (∀ W, Below w.heap.size w W → Calls Tryz.prog 73 #[.pointer p] W fun r w' => r = .returned (.slice none 0 0) ∧ Below W.heap.size W w')) :
    Calls Tryz.prog 13 #[.pointer p] w fun e w' => e = .returned (.slice none 0 0) ∧ Below w.heap.size w w' := by
  have qs : ∀ (w : World) (f : Fn) (a b : Array Value), (binOp .eql 111 (.func f a b) .nilFunc).run Tryz.prog w = .ok (.bool false) w := fun _ _ _ _ => rfl
  refine (callsIn_wide (n := 4)).1 ?_
  have f0 : Fence.wide.fn 13 := trivial
  have f1 : Fence.wide.fn 40 := trivial
  have f2 : Fence.wide.fn 72 := trivial
  refine callsIn_of_wp_marks Tryz.func13 rfl f0 ?_ rfl
  simp only [Tryz.ntmps13, List.size_toArray, List.length_cons, List.length_nil, Nat.reduceAdd, Nat.reduceSub, Array.replicate_succ, Array.replicate_zero, List.push_toArray, List.append_toArray, List.nil_append, List.cons_append]
  gi_wp2_with (gi_at_call 40; refine (callsIn_wide.2 (lines_fn _ _)).mono ?_; rintro e w' ⟨rfl, rfl⟩)
  obtain ⟨W0, hW0⟩ : ∃ W0, W0 = (w.alloc (.cells #[.slice none 0 0] TLs)).alloc (.cells #[.pointer p] 28) := ⟨_, rfl⟩
  have hB0 : Below w.heap.size w W0 := by rw [hW0]; exact ((Below.refl _ w).alloc (Nat.le_refl _) _).alloc (by simp) _
  have hs0 : W0.heap.size = w.heap.size + 2 := by rw [hW0]; simp
  have bO : Boxed W0 w.heap.size TLs (.slice none 0 0) := by rw [hW0]; exact (Boxed.new w TLs (.slice none 0 0)).alloc _
  have bx1 : W0.cell? ⟨w.heap.size + 1, 0, none⟩ = some (.pointer p) := by
    have := Boxed.new (w.alloc (.cells #[.slice none 0 0] TLs)) 28 (.pointer p)
    rw [World.size_alloc] at this
    rw [hW0]; exact this.cell
  have hseq := seq_none 3 (by omega) (H := w.heap.size) p (w := W0) (fun W hW => HU.out W (hB0.trans (hW.mono hB0.size))) bx1
  rw [← hW0]
  clear bx1
  refine wpIn_rangeFunc_ownH rfl (by omega) (gf := 72) (lb := #[.pointer (some ⟨w.heap.size + 1, 0, none⟩)]) rfl f2 (enters_of Tryz.func72 (by kernel_rfl) rfl)
    hseq kpH_t (kpH_b (w := W0) (by omega)) (Below.refl _ _) (fun _ => rfl)
    (fun pre W => Boxed W w.heap.size TLs (.slice none 0 0) ∧ Below w.heap.size w W)
    (fun _ _ _ => False)
    (OwnFrom.and (Own.from (boxed_own w.heap.size TLs (fun (pre : List (Int × Bool × Bool)) => .slice none 0 0)) _) (ownFrom_below (Nat.le_refl _) (by omega)))
    (fun _ _ _ _ _ hs _ _ => hs)
    ⟨bO, hB0⟩
    (fun _ _ _ => True)
    (fun _ _ _ _ _ _ _ _ _ => trivial)
    ?assign ?body ?done ?stop
  case assign =>
    rintro l pre x W K ⟨hv, hB⟩ hK
    gi_wp2
    exact hK _ _ ((KeepsOthers.alloc W _).from _) (below_kpH ((Below.refl _ W).alloc (Nat.le_refl _) _ |>.mono hB.size)) ⟨hv.alloc _, hB.alloc hB.size _⟩ trivial
  case body =>
    intro l pre x a' W hl hr hI hA hlt
    exact absurd hlt (Nat.not_lt_zero _)
  case done =>
    rintro D ys W hD rfl ⟨hv, hB⟩ hK
    have hc := hv.cell
    gi_wp2
    refine ⟨by simp, .inl ⟨_, _, rfl, run_takeDeferred hK, ?_⟩⟩
    exact ⟨_, results_tmp rfl _ _ _, rfl, hB.trans (belowK_b (w := w) (Nat.le_refl _) W D _ _ (by omega) hK rfl rfl)⟩
  case stop =>
    rintro D c pre W _ _ h _
    exact h.elim
end Go.Proofs.YtijimcjmpeakpaaGreat.C

namespace Go.Proofs.YtijimcjmpeakpaaGreat.C
open Go.RowKit Go.Maps Go.Shelf Go.Proofs.YtijimcjmpeakpaaGreat
attribute [local go_sem] Oper.semAt_some
set_option linter.unusedVariables false
set_option linter.unusedSimpArgs false
set_option maxRecDepth 100000

/-- what New answers -/
def newE (n : Nat) (k : Int) (l : List (Int × Int)) : Int := if k < 1 ∨ 1024 < k then 50 else if 64 < l.length ∨ apartB n l = false then 51 else 0
theorem apartB_no {n : Nat} {l : List (Int × Int)} : apartB n l = false ↔ ¬ Apart n l := by
  rw [← apartB_iff]; simp
section
variable {w : World} {b ms ml : Nat} {qv fv : Value} {S : K.Dk}
def NewPost (w : World) (b ms ml : Nat) (qv fv : Value) (S : K.Dk) (k : Int) (l : List (Int × Int)) (r : Ending) (w' : World) : Prop :=
  ∃ cp, r = .returned (.tuple #[.pointer cp, .int .i64 (newE S.n k l)]) ∧ K.Kp w w' (K.fp b ms ml qv fv) ∧ ((cp = none ∧ newE S.n k l ≠ 0 ∧ K.RK w' 0 b ms ml qv fv S) ∨ (newE S.n k l = 0 ∧ ∃ P : Loc, cp = some ⟨P.bc, 0, none⟩ ∧ Made w w' b ms ml qv fv S k.toNat l P))
theorem new_all (h : K.RK w 0 b ms ml qv fv S) (k : Int) {ao : Option Addr} {cap : Nat} {l : List (Int × Int)} (hr : SpR w ao l) (hl : l.length ≤ 1048576) (hw : ∀ p ∈ l, I64 p.1 ∧ I64 p.2) (hao : ao = none → l = []) (hau : ∀ a, ao = some a → ∃ b off, a = ⟨b, off, none⟩) (hfar : ∀ b' off, ao = some ⟨b', off, none⟩ → b' ∉ K.fp b ms ml qv fv) :
    Calls Tryz.prog 12 #[.pointer (some ⟨b, 0, none⟩), .int .i64 k, .slice ao l.length cap] w (NewPost w b ms ml qv fv S k l) := by
  by_cases hk : k < 1 ∨ 1024 < k
  · have e : newE S.n k l = 50 := by unfold newE; rw [if_pos hk]
    refine (new_lines h hk _).mono ?_
    rintro r w' ⟨rfl, hrk, hkp⟩
    exact ⟨none, by rw [e], hkp, .inl ⟨rfl, by rw [e]; decide, hrk⟩⟩
  · obtain ⟨m, hm⟩ : ∃ m : Nat, (m : Int) = k := ⟨k.toNat, by omega⟩
    subst hm
    by_cases hs : 64 < l.length ∨ apartB S.n l = false
    · have e : newE S.n m l = 51 := by unfold newE; rw [if_neg hk, if_pos hs]
      refine (new_spans h (by omega) (by omega) hr hl hw hfar (by rw [apartB_no] at hs; exact hs)).mono ?_
      rintro r w' ⟨rfl, hrk, hkp⟩
      exact ⟨none, by rw [e], hkp, .inl ⟨rfl, by rw [e]; decide, hrk⟩⟩
    · have e : newE S.n m l = 0 := by unfold newE; rw [if_neg hk, if_neg hs]
      have ha : Apart S.n l := Classical.byContradiction fun hn => hs (.inr (apartB_no.2 hn))
      refine (new_c h (by omega) (by omega) hr (by omega) hw ha hao hau hfar).mono ?_
      rintro r w' ⟨P, rfl, hM⟩
      exact ⟨_, by rw [e], hM.kp, .inr ⟨e, P, rfl, by rw [Int.toNat_natCast]; exact hM⟩⟩
end
def RnewPost (w : World) (p n : Nat) (k : Int) (l : List (Int × Int)) (r : Ending) (w' : World) : Prop :=
  ∃ cp, r = .returned (.tuple #[.pointer cp, .int .i64 (newE n k l)]) ∧ Below w.heap.size w w' ∧ ((cp = none ∧ newE n k l ≠ 0) ∨ (newE n k l = 0 ∧ ∃ q v, cp = some ⟨q, 0, none⟩ ∧ w.heap.size ≤ q ∧ w'.heap[q]? = some (.cells (rccells p k.toNat v) TRc) ∧ w'.ownsRow w.heap.size TSp 2 v l.length (spcells l) ∧ v.ownBlock ≠ some q))
theorem rcnew_all {w : World} {p n : Nat} (hc : w.cell? ⟨p, 0, none⟩ = some (.int .i64 n)) (hn : 1 ≤ n) (hn1 : n ≤ 65536) (k : Int) {v : Value} {l : List (Int × Int)} (hv : ArgS w v l) (hw : ∀ p ∈ l, I64 p.1 ∧ I64 p.2) :
    Calls Tryz.prog 42 #[.pointer (some ⟨p, 0, none⟩), .int .i64 k, v] w (RnewPost w p n k l) := by
  by_cases hk : k < 1 ∨ 1024 < k
  · have e : newE n k l = 50 := by unfold newE; rw [if_pos hk]
    refine (rcnew_lines hc (by omega) hk _).mono ?_
    rintro r w' ⟨rfl, rfl⟩
    exact ⟨none, by rw [e], Below.refl _ _, .inl ⟨rfl, by rw [e]; decide⟩⟩
  · obtain ⟨m, hm⟩ : ∃ m : Nat, (m : Int) = k := ⟨k.toNat, by omega⟩
    subst hm
    by_cases hs : 64 < l.length
    · have e : newE n m l = 51 := by unfold newE; rw [if_neg hk, if_pos (.inl hs)]
      obtain ⟨ao, c0, rfl, _⟩ := hv.form
      refine (rcnew_many hc (by omega) (by omega) (by omega) hs).mono ?_
      rintro r w' ⟨rfl, rfl⟩
      exact ⟨none, by rw [e], Below.refl _ _, .inl ⟨rfl, by rw [e]; decide⟩⟩
    · refine (rcnew_any hc hn hn1 (by omega) (by omega) hv (by omega) hw).mono ?_
      rintro r w' ⟨hb, ⟨hna, rfl⟩ | ⟨ha, q, u, rfl, h1, h2, h3, h4⟩⟩
      · have e : newE n m l = 51 := by unfold newE; rw [if_neg hk, if_pos (.inr (apartB_no.2 hna))]
        exact ⟨none, by rw [e], hb, .inl ⟨rfl, by rw [e]; decide⟩⟩
      · have e : newE n m l = 0 := by
          unfold newE; rw [if_neg hk, if_neg]
          rintro (h | h)
          · exact hs h
          · exact apartB_no.1 h ha
        exact ⟨_, by rw [e], hb, .inr ⟨e, q, u, rfl, h1, by rw [Int.toNat_natCast]; exact h2, h3, h4⟩⟩
theorem ArgS.kp {w w' : World} {F : List Nat} {v : Value} {l : List (Int × Int)} (h : ArgS w v l) (hk : K.Kp w w' F) (hf : l ≠ [] → ∀ b off n c, v = .slice (some ⟨b, off, none⟩) n c → b ∉ F) : ArgS w' v l := by
  rcases h with h | ⟨ad, c, rfl, h⟩
  · exact .inl h
  · refine .inr ⟨ad, c, rfl, fun j p hj => ?_⟩
    obtain ⟨g, o, e, hg, c0, c1⟩ := h j p hj
    cases e
    have hb := hk.block g hg (hf (by rintro rfl; simp at hj) g o _ c rfl)
    refine ⟨g, o, rfl, Nat.lt_of_lt_of_le hg hk.size, ?_, ?_⟩
    · unfold World.cell? at c0 ⊢; rw [hb]; exact c0
    · unfold World.cell? at c1 ⊢; rw [hb]; exact c1
theorem SpR.kp {w w' : World} {F : List Nat} {g off : Nat} {l : List (Int × Int)} (h : SpR w (some ⟨g, off, none⟩) l) (hk : K.Kp w w' F) (hf : g ∉ F) : SpR w' (some ⟨g, off, none⟩) l := fun j p hj => by
  obtain ⟨g', o, e, hg, c0, c1⟩ := h j p hj
  cases e
  have hb := hk.block g hg hf
  refine ⟨g, off, rfl, Nat.lt_of_lt_of_le hg hk.size, ?_, ?_⟩
  · unfold World.cell? at c0 ⊢; rw [hb]; exact c0
  · unfold World.cell? at c1 ⊢; rw [hb]; exact c1
theorem SpR.left {w : World} {ao : Option Addr} {l k : List (Int × Int)} (h : SpR w ao (l ++ k)) : SpR w ao l := fun j p hj => h j p (by rw [List.getElem?_append_left (List.getElem?_eq_some_iff.1 hj).1]; exact hj)
end Go.Proofs.YtijimcjmpeakpaaGreat.C

namespace Go.Proofs.YtijimcjmpeakpaaGreat.C
open Go.RowKit Go.Maps Go.Shelf Go.Proofs.YtijimcjmpeakpaaGreat
attribute [local go_sem] Oper.semAt_some
set_option linter.unusedVariables false
set_option linter.unusedSimpArgs false
set_option maxRecDepth 100000

abbrev TSe : TypeId := 42
abbrev TPa : TypeId := 67
/-- what open leaves -/
def OpenPost (w : World) (x b ms ml p : Nat) (qv fv : Value) (S : K.Dk) (k : Int) (l : List (Int × Int)) (w' : World) : Prop :=
  K.Kp w w' (x :: K.fp b ms ml qv fv) ∧ ((newE S.n k l ≠ 0 ∧ K.RK w' 0 b ms ml qv fv S ∧ w'.heap[x]? = some (.cells #[.pointer (some ⟨b, 0, none⟩), .pointer none, .pointer (some ⟨p, 0, none⟩), .pointer none] TPa)) ∨
   (newE S.n k l = 0 ∧ ∃ (P : Loc) (q : Nat), RC w' P S (newCh k.toNat l) ∧ P.bd = b ∧ (∀ i ∈ P.fp [], i ∈ K.fp b ms ml qv fv ∨ w.heap.size ≤ i) ∧ w.heap.size ≤ q ∧ w'.heap[x]? = some (.cells #[.pointer (some ⟨b, 0, none⟩), .pointer (some ⟨P.bc, 0, none⟩), .pointer (some ⟨p, 0, none⟩), .pointer (some ⟨q, 0, none⟩)] TPa)))
/-- what stands while open runs -/
structure OSt (w : World) (x b p n : Nat) (F : List Nat) (cv0 qv0 : Value) (m k : Int) (v : Value) (l : List (Int × Int)) (g c : Nat) (W : World) : Prop where
  kp : K.Kp w W F
  px : W.heap[x]? = some (.cells #[.pointer (some ⟨b, 0, none⟩), cv0, .pointer (some ⟨p, 0, none⟩), qv0] TPa)
  bs : W.heap[w.heap.size]? = some (.cells #[.int .i64 m, .int .i64 k, v] TSe)
  p0 : W.cell? ⟨p, 0, none⟩ = some (.int .i64 n)
  ar : ArgS W v l
  rw : W.ownsRow (w.heap.size + 1) TSp 2 (.slice (some ⟨g, 0, none⟩) (l.length + 2) c) (l.length + 2) (spcells (l ++ [(71, 0), (72, 0)]))
  gn : w.heap.size < g
  ff : x ∉ F ∧ p ∉ F ∧ (∀ i ∈ F, i < w.heap.size) ∧ (l ≠ [] → ∀ b' off n c, v = .slice (some ⟨b', off, none⟩) n c → b' ∉ F) ∧ p < w.heap.size ∧ x < w.heap.size
theorem OSt.step {w W W' : World} {x b p n : Nat} {F : List Nat} {cv0 qv0 : Value} {m k : Int} {v : Value} {l : List (Int × Int)} {g c : Nat} (h : OSt w x b p n F cv0 qv0 m k v l g c W) (hk : K.Kp W W' F) : OSt w x b p n F cv0 qv0 m k v l g c W' := by
  obtain ⟨f1, f2, f3, f4, f5, f6⟩ := h.ff
  have hsz := h.kp.size
  have hbl : w.heap.size < W.heap.size := (Array.getElem?_eq_some_iff.1 h.bs).1
  refine ⟨h.kp.trans hk (fun i hi => .inl hi), (hk.block x (by omega) f1).trans h.px, (hk.block _ hbl (fun hm => by have := f3 _ hm; omega)).trans h.bs, ?_, h.ar.kp hk f4, K.ownsRow_block h.rw (fun i e => ?_), h.gn, h.ff⟩
  · have hb := hk.block p (by omega) f2
    have h0 := h.p0
    unfold World.cell? at h0 ⊢; rw [hb]; exact h0
  · cases e
    refine hk.block g (K.row_lt h.rw g rfl).1 (fun hm => ?_)
    have h1 := f3 _ hm
    have h2 := h.gn
    omega
theorem OSt.drew {w W : World} {x b p n : Nat} {F : List Nat} {cv0 qv0 : Value} {m k : Int} {v : Value} {l : List (Int × Int)} {g c : Nat} (h : OSt w x b p n F cv0 qv0 m k v l g c W) : OSt w x b p n F cv0 qv0 m k v l g c W.drew := h.step ⟨rfl, rfl, rfl, Nat.le_refl _, fun _ _ _ => rfl⟩
set_option maxHeartbeats 8000000 in
theorem open_c {w : World} {x b ms ml p : Nat} {qv fv : Value} {S : K.Dk} {cv0 qv0 : Value} (h : K.RK w 0 b ms ml qv fv S)
    (hx : w.heap[x]? = some (.cells #[.pointer (some ⟨b, 0, none⟩), cv0, .pointer (some ⟨p, 0, none⟩), qv0] TPa)) (hp : w.cell? ⟨p, 0, none⟩ = some (.int .i64 S.n))
    (hxf : x ∉ K.fp b ms ml qv fv) (hpf : p ∉ K.fp b ms ml qv fv) (hpx : p ≠ x) {v : Value} {l : List (Int × Int)} (hv : ArgS w v l) (hvf : l ≠ [] → ∀ b' off n c, v = .slice (some ⟨b', off, none⟩) n c → b' ∉ K.fp b ms ml qv fv ∧ b' ≠ x)
    (hl : l.length ≤ 1048576) (hw : ∀ p ∈ l, I64 p.1 ∧ I64 p.2) (m k : Int) :
    Calls Tryz.prog 35 #[.pointer (some ⟨x, 0, none⟩), .agg #[.int .i64 m, .int .i64 k, v]] w fun r w' => r = .returned (.bool true) ∧ OpenPost w x b ms ml p qv fv S k l w' := by
  obtain ⟨ao, c0, rfl, _, hao⟩ := hv.form
  have hlt := h.lt
  have hxl : x < w.heap.size := (Array.getElem?_eq_some_iff.1 hx).1
  obtain ⟨W0, hW0⟩ : ∃ W0, W0 = w.alloc (.cells #[.int .i64 m, .int .i64 k, .slice ao l.length c0] TSe) := ⟨_, rfl⟩
  have hB0 : Below w.heap.size w W0 := by rw [hW0]; exact (Below.refl _ w).alloc (Nat.le_refl _) _
  have hbx : W0.heap[w.heap.size]? = some (.cells #[.int .i64 m, .int .i64 k, .slice ao l.length c0] TSe) := by rw [hW0]; exact heap_alloc_new w _
  have hs0 : W0.heap.size = w.heap.size + 1 := by rw [hW0]; simp
  have k2 : W0.cell? ⟨w.heap.size, 2, none⟩ = some (.slice ao l.length c0) := (K.cell_of hbx).trans rfl
  have hsp := spans_c (hv.later hB0) hl
  have HN : Hid (∀ W1 g c, Below W0.heap.size W0 W1 → W1.ownsRow W0.heap.size TSp 2 (.slice (some ⟨g, 0, none⟩) (l.length + 2) c) (l.length + 2) (spcells (l ++ [(71, 0), (72, 0)])) → OSt w x b p S.n (K.fp b ms ml qv fv) cv0 qv0 m k (.slice ao l.length c0) l g c W1 ∧ Calls Tryz.prog 12 #[.pointer (some ⟨b, 0, none⟩), .int .i64 k, .slice (some ⟨g, 0, none⟩) l.length c] W1.drew (NewPost W1.drew b ms ml qv fv S k l)) := fun W1 g c hb1 ho => by
    have hbw : Below w.heap.size w W1 := hB0.trans (hb1.mono hB0.size)
    have hg := K.row_lt ho g rfl
    have hpl : p < w.heap.size := by
      unfold World.cell? at hp
      rcases Nat.lt_or_ge p w.heap.size with hh | hh
      · exact hh
      · simp only at hp
        rw [Array.getElem?_eq_none hh] at hp
        simp at hp
    have hst : OSt w x b p S.n (K.fp b ms ml qv fv) cv0 qv0 m k (.slice ao l.length c0) l g c W1 := ⟨K.Kp.of_below hbw _, (hbw.block x hxl).trans hx, (hb1.block _ (by omega)).trans hbx, cell_later hbw hp, hv.later hbw, by rw [← hs0]; exact ho, by have := row_base ho (show (Value.slice (some ⟨g, 0, none⟩) (l.length + 2) c).ownBlock = some g from rfl); omega, hxf, hpf, hlt, fun hne b' off n c e => (hvf hne b' off n c e).1, hpl, hxl⟩
    refine ⟨hst, new_all (h.later hbw.drew) k (SpR.left (SpR.of_row hst.drew.rw)) hl hw (fun e => by cases e) (fun a e => by cases e; exact ⟨_, _, rfl⟩) (fun b' off e hm => ?_)⟩
    cases e
    have := hlt _ hm
    have h2 := hst.gn
    omega
  have HR : Hid (∀ W g c, OSt w x b p S.n (K.fp b ms ml qv fv) cv0 qv0 m k (.slice ao l.length c0) l g c W → Calls Tryz.prog 42 #[.pointer (some ⟨p, 0, none⟩), .int .i64 k, .slice ao l.length c0] W.drew (RnewPost W.drew p S.n k l) ∧ True) := fun W g c hst => ⟨rcnew_all hst.drew.p0 h.n0 h.n1 k hst.drew.ar hw, trivial⟩
  clear hv hvf hx hp hxf hpf hpx hbx hw hao hB0 h
  go_enter Tryz.func35, Tryz.ntmps35
  go_wp2_with fail
  rw [← hW0]
  refine Calls.mono hsp ?_
  clear hsp k2 hW0
  rintro e W1 ⟨g, c, rfl, hown, hb⟩
  obtain ⟨hst, hnew⟩ := HN.out W1 g c hb hown
  have HS1 : Hid (OSt w x b p S.n (K.fp b ms ml qv fv) cv0 qv0 m k (.slice ao l.length c0) l g c W1) := hst
  have q1 : W1.cell? ⟨x, 0, none⟩ = some (.pointer (some ⟨b, 0, none⟩)) := (K.cell_of hst.px).trans rfl
  have q2 : W1.cell? ⟨w.heap.size, 1, none⟩ = some (.int .i64 k) := (K.cell_of hst.bs).trans rfl
  clear hst hown hb HN
  go_wp2_with fail
  go_region_held3 (fun w' => w'.cell? ⟨x, 0, none⟩ = some (.pointer (some ⟨b, 0, none⟩)) ∧ w'.cell? ⟨w.heap.size, 1, none⟩ = some (.int .i64 k)) (first | exact ⟨(K.cell_of HS2.out.px).trans rfl, (K.cell_of HS2.out.bs).trans rfl⟩ | go_keep) (first | (go_at_call 12; refine Calls.mono hnew ?_; rintro e W2 ⟨cp, rfl, hkp, hcase⟩; have HS2 : Hid (OSt w x b p S.n (K.fp b ms ml qv fv) cv0 qv0 m k (.slice ao l.length c0) l g c W2) := (HS1.out.drew.step hkp); have HC2 : Hid ((cp = none ∧ newE S.n k l ≠ 0 ∧ K.RK W2 0 b ms ml qv fv S) ∨ (newE S.n k l = 0 ∧ ∃ P : Loc, cp = some ⟨P.bc, 0, none⟩ ∧ Made W1.drew W2 b ms ml qv fv S k.toNat l P)) := hcase; clear hcase hkp))
  clear q1 q2 hnew hs0
  have hrn := (HR.out W2 g c HS2.out).1
  have q1 : W2.cell? ⟨x, 2, none⟩ = some (.pointer (some ⟨p, 0, none⟩)) := (K.cell_of HS2.out.px).trans rfl
  have q2 : W2.cell? ⟨w.heap.size, 1, none⟩ = some (.int .i64 k) := (K.cell_of HS2.out.bs).trans rfl
  have q3 : W2.cell? ⟨w.heap.size, 2, none⟩ = some (.slice ao l.length c0) := (K.cell_of HS2.out.bs).trans rfl
  clear HR
  go_wp2_with fail
  go_region_held3 (fun w' => w'.cell? ⟨x, 2, none⟩ = some (.pointer (some ⟨p, 0, none⟩)) ∧ w'.cell? ⟨w.heap.size, 1, none⟩ = some (.int .i64 k) ∧ w'.cell? ⟨w.heap.size, 2, none⟩ = some (.slice ao l.length c0)) (first | exact ⟨(K.cell_of HS3.out.px).trans rfl, (K.cell_of HS3.out.bs).trans rfl, (K.cell_of HS3.out.bs).trans rfl⟩ | go_keep) (first | (go_at_call 42; refine Calls.mono hrn ?_; rintro e W3 ⟨qp, rfl, hb3, hcase⟩; have HS3 : Hid (OSt w x b p S.n (K.fp b ms ml qv fv) cv0 qv0 m k (.slice ao l.length c0) l g c W3) := (HS2.out.drew.step (K.Kp.of_below hb3 _)); have HC3 : Hid (Below W2.heap.size W2 W3 ∧ ((qp = none ∧ newE S.n k l ≠ 0) ∨ (newE S.n k l = 0 ∧ ∃ q, qp = some ⟨q, 0, none⟩ ∧ W2.heap.size ≤ q))) := (by refine ⟨⟨hb3.os, hb3.tape, hb3.output, hb3.size, hb3.block⟩, ?_⟩; rcases hcase with hh | ⟨e0, q, nv, e1, e2, _⟩; exact .inl hh; exact .inr ⟨e0, q, e1, e2⟩); clear hcase hb3))
  clear q1 q2 q3 hrn
  have hcap := (owns_capS HS3.out.rw).1
  have hkc := kept_c (SpR.of_row HS3.out.rw) hcap HS3.out.ar hl
  have q3 : W3.cell? ⟨w.heap.size, 2, none⟩ = some (.slice ao l.length c0) := (K.cell_of HS3.out.bs).trans rfl
  go_wp2_with fail
  refine Calls.mono hkc ?_
  clear hkc q3
  rintro e W4 ⟨rfl, hb4⟩
  have HS4 : Hid (OSt w x b p S.n (K.fp b ms ml qv fv) cv0 qv0 m k (.slice ao l.length c0) l g c W4) := HS3.out.step (K.Kp.of_below hb4 _)
  have HB4 : Hid (Below W2.heap.size W2 W4) := HC3.out.1.trans (hb4.mono HC3.out.1.size)
  have HG4 : Hid (∃ cur, W4.heap[g]? = some (.cells cur TSp) ∧ (l.length + 2) * 2 ≤ cur.size) := by
    rcases HS4.out.rw.2 with ⟨h0, _⟩ | ⟨g', cp', cur, h0, _, hg, h5, _, h7, _⟩
    · cases h0
    · cases h0
      exact ⟨cur, hg, by omega⟩
  obtain ⟨M, hM⟩ : ∃ M, M = l.length := ⟨_, rfl⟩
  rw [← hM] at hl hcap HG4
  have HM : Hid (M = l.length) := hM
  clear hb4
  rw [← hM]
  go_wp2
  go_loopw [11] (fun i wr => ∃ (j : Nat), j ≤ M ∧ i = .int .i64 j ∧ Hid (∃ cur, wr.heap[g]? = some (.cells cur TSp) ∧ (M + 2) * 2 ≤ cur.size) ∧ Hid (K.Kp W4 wr [g])) (fun i _ => M - (intOf i).toNat)
  case atStart => exact ⟨0, Nat.zero_le _, rfl, HG4, K.Kp.refl _ _⟩
  case round =>
    obtain ⟨j, hj, rfl, HGj, HKj⟩ := hrel
    by_cases hlj : j < M
    · have hjz : (j : Int) < (M : Int) := by omega
      obtain ⟨cur, hg, hcs⟩ := HGj.out
      obtain ⟨u0, hu0⟩ : ∃ u, cur[j * 2]? = some u := ⟨_, Array.getElem?_eq_getElem (by omega)⟩
      obtain ⟨u1, hu1⟩ : ∃ u, cur[j * 2 + 1]? = some u := ⟨_, Array.getElem?_eq_getElem (by omega)⟩
      have y0 : wr.cell? ⟨g, j * 2, none⟩ = some u0 := (K.cell_of hg).trans hu0
      have y1 : wr.cell? ⟨g, j * 2 + 1, none⟩ = some u1 := (K.cell_of hg).trans hu1
      have z0 : wr.frozen? ⟨g, j * 2, none⟩ = false := K.frozen_of hg
      have z1 : wr.frozen? ⟨g, j * 2 + 1, none⟩ = false := K.frozen_of hg
      have HG2 : Hid (∀ a b, ∃ cur', ((wr.setCell ⟨g, j * 2, none⟩ a).setCell ⟨g, j * 2 + 1, none⟩ b).heap[g]? = some (.cells cur' TSp) ∧ (M + 2) * 2 ≤ cur'.size) := fun a b => ⟨_, K.blk_set (K.blk_set hg _ a) _ b, by simpa using hcs⟩
      have HK2 : Hid (∀ a b, K.Kp W4 ((wr.setCell ⟨g, j * 2, none⟩ a).setCell ⟨g, j * 2 + 1, none⟩ b) [g]) := fun a b => (HKj.out.set (.inl (by simp)) _ _).set (.inl (by simp)) _ _
      have hjl : j < l.length := by have := HM.out; omega
      clear hg hu0 hu1
      go_wp2
      go_roundw
      case rel => exact ⟨j + 1, by omega, by go_num, HG2.out _ _, HK2.out _ _⟩
      case measure => simp [intOf]; omega
    · have hjz : ¬ (j : Int) < (M : Int) := by omega
      have hgx : x ≠ g := by have := HS4.out.gn; omega
      have hxw4 : x < W4.heap.size := Nat.lt_of_lt_of_le hxl HS4.out.kp.size
      have hpx : wr.heap[x]? = some (.cells #[.pointer (some ⟨b, 0, none⟩), cv0, .pointer (some ⟨p, 0, none⟩), qv0] TPa) := (HKj.out.block x hxw4 (by simpa using hgx)).trans HS4.out.px
      have HX : Hid (∀ u v, ((wr.setCell ⟨x, 1, none⟩ u).setCell ⟨x, 3, none⟩ v).heap[x]? = some (.cells #[.pointer (some ⟨b, 0, none⟩), u, .pointer (some ⟨p, 0, none⟩), v] TPa) ∧ K.Kp w ((wr.setCell ⟨x, 1, none⟩ u).setCell ⟨x, 3, none⟩ v) (x :: K.fp b ms ml qv fv) ∧ ∀ i, i < W4.heap.size → i ≠ g → i ≠ x → ((wr.setCell ⟨x, 1, none⟩ u).setCell ⟨x, 3, none⟩ v).heap[i]? = W4.heap[i]?) := fun u v => by
        refine ⟨K.blk_set (K.blk_set hpx 1 u) 3 v, ?_, fun i hi hig hix => (Below.heap_setCell _ _ _ _ hix).trans ((Below.heap_setCell _ _ _ _ hix).trans (HKj.out.block i hi (by simpa using hig)))⟩
        have h1 : K.Kp w W4 (x :: K.fp b ms ml qv fv) := HS4.out.kp.sub (fun i hi => .inl (List.mem_cons_of_mem _ hi))
        have h2 : K.Kp w wr (x :: K.fp b ms ml qv fv) := h1.trans HKj.out (fun i hi => by simp at hi; subst hi; exact .inr (Nat.le_of_lt HS4.out.gn))
        exact (h2.set (.inl (by simp)) _ _).set (.inl (by simp)) _ _
      have x1 : wr.cell? ⟨x, 1, none⟩ = some cv0 := (K.cell_of hpx).trans rfl
      have z1 : wr.frozen? ⟨x, 1, none⟩ = false := K.frozen_of hpx
      have x3 : ∀ u, (wr.setCell ⟨x, 1, none⟩ u).cell? ⟨x, 3, none⟩ = some qv0 := fun u => (K.cell_of (K.blk_set hpx 1 u)).trans rfl
      have z3 : ∀ u, (wr.setCell ⟨x, 1, none⟩ u).frozen? ⟨x, 3, none⟩ = false := fun u => K.frozen_of (K.blk_set hpx 1 u)
      have e1 := eq_cp
      have e2 : ∀ (w : World) (a : Addr), (binOp .eql 65 (.pointer (some a)) (.pointer none)).run Tryz.prog w = .ok (.bool false) w := fun _ _ => rfl
      have HLT : Hid (∀ i ∈ K.fp b ms ml qv fv, i < W4.heap.size ∧ i ≠ g ∧ i ≠ x) := fun i hi => by
        have h1 := hlt i hi
        have h2 := HS4.out.gn
        have h3 := HS4.out.kp.size
        refine ⟨by omega, by omega, fun e => ?_⟩
        subst e
        exact HS4.out.ff.1 hi
      have HGL : Hid (g < W1.heap.size) := (K.row_lt HS1.out.rw g rfl).1
      clear hpx hgx hxw4 HG4 HGj
      generalize hE : newE S.n k l = E at *
      have HE : Hid (newE S.n k l = E) := hE
      clear hE
      rcases HC2.out with ⟨rfl, hne, hrk⟩ | ⟨he, P, rfl, hMd⟩
      · rcases HC3.out.2 with ⟨rfl, _⟩ | ⟨he, _⟩
        · have HRK : Hid (K.RK W2 0 b ms ml qv fv S ∧ E ≠ 0) := ⟨hrk, hne⟩
          clear HC2 HC3 hrk hne
          go_wp2
          go_ret
          obtain ⟨g1, g2, g3⟩ := HX.out (.pointer none) (.pointer none)
          exact ⟨rfl, g2, .inl ⟨by rw [HE.out]; exact HRK.out.2, (HRK.out.1.later HB4.out).same (fun i hi => g3 i (HLT.out i hi).1 (HLT.out i hi).2.1 (HLT.out i hi).2.2), g1⟩⟩
        · exact absurd he hne
      · rcases HC3.out.2 with ⟨_, hne⟩ | ⟨_, q, rfl, hq⟩
        · exact absurd he hne
        · have HMd : Hid (Made W1.drew W2 b ms ml qv fv S k.toNat l P) := hMd
          have HQ : Hid (E = 0 ∧ W2.heap.size ≤ q) := ⟨he, hq⟩
          clear HC2 HC3 hMd he hq
          go_wp2
          go_ret
          obtain ⟨g1, g2, g3⟩ := HX.out (.pointer (some ⟨P.bc, 0, none⟩)) (.pointer (some ⟨q, 0, none⟩))
          obtain ⟨b1, b2, b3, b4, b5⟩ := HMd.out.bd
          have hw1 : w.heap.size ≤ W1.heap.size := HS1.out.kp.size
          have hfp : ∀ i ∈ P.fp [], i ∈ K.fp b ms ml qv fv ∨ W1.heap.size ≤ i := fun i hi => by
            simp only [Loc.fp, List.mem_append] at hi
            rcases hi with hi | hi
            · left
              rw [← b1, ← b2, ← b3, ← b4, ← b5]
              exact hi
            · right
              exact HMd.out.new i hi
          have hlt2 := HMd.out.rc.lt
          refine ⟨rfl, g2, .inr ⟨by rw [HE.out]; exact HQ.out.1, P, q, (HMd.out.rc.later HB4.out).same (fun i hi => ?_), b1, fun i hi => (hfp i hi).imp id (fun h => Nat.le_trans hw1 h), Nat.le_trans (HS2.out.kp.size) HQ.out.2, g1⟩⟩
          have h1 := hlt2 i hi
          have h2 := HB4.out.size
          rcases hfp i hi with h3 | h3
          · exact g3 i (HLT.out i h3).1 (HLT.out i h3).2.1 (HLT.out i h3).2.2
          · have h4 := HGL.out
            exact g3 i (by omega) (by omega) (by omega)
end Go.Proofs.YtijimcjmpeakpaaGreat.C

namespace Go.Proofs.YtijimcjmpeakpaaGreat.C
open Go.RowKit Go.Maps Go.Shelf Go.Proofs.YtijimcjmpeakpaaGreat
attribute [local go_sem] Oper.semAt_some
set_option linter.unusedVariables false
set_option linter.unusedSimpArgs false
set_option maxRecDepth 100000

/-- what made leaves -/
def MdPost (w : World) (r : Ending) (w' : World) : Prop :=
  ∃ x cv, r = .returned (.tuple #[.pointer (some ⟨x, 0, none⟩), .bool true]) ∧ Below w.heap.size w w' ∧ w'.cell? ⟨x, 1, none⟩ = some cv ∧ x < w'.heap.size ∧ (cv = .pointer none ∨ ∃ (P : Loc) (S : K.Dk) (k : Nat) (l : List (Int × Int)), cv = .pointer (some ⟨P.bc, 0, none⟩) ∧ RC w' P S (newCh k l))
set_option maxHeartbeats 4000000 in
theorem made_bad (w : World) (n k : Int) (v : Value) (h : n < 1 ∨ 65536 < n) : Calls Tryz.prog 11 #[.agg #[.int .i64 n, .int .i64 k, v]] w (MdPost w) := by
  obtain ⟨W0, hW0⟩ : ∃ W0, W0 = w.alloc (.cells #[.int .i64 n, .int .i64 k, v] TSe) := ⟨_, rfl⟩
  have hB0 : Below w.heap.size w W0 := by rw [hW0]; exact (Below.refl _ w).alloc (Nat.le_refl _) _
  have hbx : W0.heap[w.heap.size]? = some (.cells #[.int .i64 n, .int .i64 k, v] TSe) := by rw [hW0]; exact heap_alloc_new w _
  have k0 : W0.cell? ⟨w.heap.size, 0, none⟩ = some (.int .i64 n) := (K.cell_of hbx).trans rfl
  have h1 := K.new_bad W0 n h
  have h2 := rnew_bad W0 n h
  have HB0 : Hid (Below w.heap.size w W0) := hB0
  clear hB0 hbx h
  go_enter Tryz.func11, Tryz.ntmps11
  go_wp2_with fail
  rw [← hW0]
  refine Calls.mono h1 ?_
  clear h1 hW0
  rintro e W1 ⟨rfl, hw1⟩
  rw [hw1]
  clear hw1
  go_wp2_with fail
  refine Calls.mono h2 ?_
  clear h2
  rintro e W2 ⟨rfl, hw2⟩
  rw [hw2]
  clear hw2
  go_wp2
  refine bodyPost_ret (results_tmp2 rfl _ _ _) rfl ?_
  refine ⟨_, _, rfl, HB0.out.alloc HB0.out.size _, (K.cell_of (heap_alloc_new W0 _)).trans rfl, by rw [World.size_alloc]; omega, .inl rfl⟩
set_option maxHeartbeats 1000000 in
theorem made_open {w W0 W1 : World} {n b ms ml : Nat} (h0 : 1 ≤ n) (h1 : n ≤ 65536) (k : Int) {ao : Option Addr} {c0 : Nat} {l : List (Int × Int)} (hv : ArgS w (.slice ao l.length c0) l) (hl : l.length ≤ 1048576) (hw : ∀ p ∈ l, I64 p.1 ∧ I64 p.2)
    (hB0 : Below w.heap.size w W0) (hbx : W0.heap[w.heap.size]? = some (.cells #[.int .i64 n, .int .i64 k, .slice ao l.length c0] TSe)) (hs0 : W0.heap.size = w.heap.size + 1)
    (hrk : K.RK W1 0 b ms ml (.slice none 0 0) (.slice none 0 0) (K.newDk n)) (hb1 : Below W0.heap.size W0 W1) (hfp : ∀ i ∈ K.fp b ms ml (.slice none 0 0) (.slice none 0 0), W0.heap.size ≤ i) :
    W1.cell? ⟨w.heap.size, 0, none⟩ = some (.int .i64 n) ∧ Hid (Calls Tryz.prog 34 #[.int .i64 n] W1 fun r w' => r = .returned (.tuple #[.pointer (some ⟨W1.heap.size, 0, none⟩), .int .i64 0]) ∧ w' = W1.alloc (.cells (rdcells n) TRd)) ∧
      Hid (∀ W3, W3 = ((W1.alloc (.cells (rdcells n) TRd)).alloc (.cells #[.pointer (some ⟨b, 0, none⟩), .pointer none, .pointer (some ⟨W1.heap.size, 0, none⟩), .pointer none] TPa)) → (W3.cell? ⟨w.heap.size, 0, none⟩ = some (.int .i64 n) ∧ W3.cell? ⟨w.heap.size, 1, none⟩ = some (.int .i64 k) ∧ W3.cell? ⟨w.heap.size, 2, none⟩ = some (.slice ao l.length c0)) ∧
      Calls Tryz.prog 35 #[.pointer (some ⟨W1.heap.size + 1, 0, none⟩), .agg #[.int .i64 n, .int .i64 k, .slice ao l.length c0]] W3 fun r w' => r = .returned (.bool true) ∧ MdPost w (.returned (.tuple #[.pointer (some ⟨W1.heap.size + 1, 0, none⟩), .bool true])) w') := by
  have k0 : W0.cell? ⟨w.heap.size, 0, none⟩ = some (.int .i64 n) := (K.cell_of hbx).trans rfl
  have hlt := hrk.lt
  have hbw : Below w.heap.size w W1 := hB0.trans (hb1.mono hB0.size)
  have hsz := hbw.size
  have hsz1 := hb1.size
  obtain ⟨W2, hW2⟩ : ∃ W2, W2 = W1.alloc (.cells (rdcells n) TRd) := ⟨_, rfl⟩
  have hs2 : W2.heap.size = W1.heap.size + 1 := by rw [hW2]; simp
  have hb2 : Below W1.heap.size W1 W2 := by rw [hW2]; exact (Below.refl _ W1).alloc (Nat.le_refl _) _
  refine ⟨cell_later hb1 k0, rnew_any W1 n h0 h1, fun W3 hW3 => ?_⟩
  rw [← hW2] at hW3
  have hb3 : Below W2.heap.size W2 W3 := by rw [hW3]; exact (Below.refl _ W2).alloc (Nat.le_refl _) _
  have hs3 : W3.heap.size = W2.heap.size + 1 := by rw [hW3]; simp
  have hx3 : W3.heap[W1.heap.size + 1]? = some (.cells #[.pointer (some ⟨b, 0, none⟩), .pointer none, .pointer (some ⟨W1.heap.size, 0, none⟩), .pointer none] TPa) := by rw [hW3, ← hs2]; exact heap_alloc_new W2 _
  have hb13 : Below W1.heap.size W1 W3 := hb2.trans (hb3.mono hb2.size)
  have hbw3 : Below w.heap.size w W3 := hbw.trans (hb13.mono hbw.size)
  have hp3 : W3.cell? ⟨W1.heap.size, 0, none⟩ = some (.int .i64 n) := by
    have : W2.heap[W1.heap.size]? = some (.cells (rdcells n) TRd) := by rw [hW2]; exact heap_alloc_new W1 _
    exact cell_later hb3 ((K.cell_of this).trans rfl)
  have hb03 : Below W0.heap.size W0 W3 := hb1.trans (hb13.mono hb1.size)
  have hbx3 := (hb03.block _ (by omega)).trans hbx
  clear hW3 hW2
  have hopen := open_c (hrk.later hb13) hx3 hp3 (fun hm => by have := hlt _ hm; omega) (fun hm => by have := hlt _ hm; omega) (by omega) (hv.later hbw3) (fun hne b' off n' c e => ⟨fun hm => by have h5 := hfp _ hm; have h6 := hv.lt hne e; omega, fun e2 => by have h6 := hv.lt hne e; omega⟩) hl hw n k
  refine ⟨⟨(K.cell_of hbx3).trans rfl, (K.cell_of hbx3).trans rfl, (K.cell_of hbx3).trans rfl⟩, hopen.mono ?_⟩
  rintro r w' ⟨rfl, hkp, hcase⟩
  refine ⟨rfl, ?_⟩
  have hbel : Below w.heap.size w w' := hbw3.trans (hkp.below (fun i hi => by
    rcases List.mem_cons.1 hi with rfl | hi
    · omega
    · have := hfp i hi; omega) (by omega))
  rcases hcase with ⟨_, _, hx⟩ | ⟨_, P, q, hrc, _, _, _, hx⟩
  · exact ⟨_, _, rfl, hbel, (K.cell_of hx).trans rfl, (Array.getElem?_eq_some_iff.1 hx).1, .inl rfl⟩
  · exact ⟨_, _, rfl, hbel, (K.cell_of hx).trans rfl, (Array.getElem?_eq_some_iff.1 hx).1, .inr ⟨P, _, _, _, rfl, hrc⟩⟩
end Go.Proofs.YtijimcjmpeakpaaGreat.C

namespace Go.Proofs.YtijimcjmpeakpaaGreat.C
open Go.RowKit Go.Maps Go.Shelf Go.Proofs.YtijimcjmpeakpaaGreat
attribute [local go_sem] Oper.semAt_some
set_option linter.unusedVariables false
set_option linter.unusedSimpArgs false
set_option maxRecDepth 100000

set_option maxHeartbeats 2000000 in
theorem made_c (w : World) (n : Nat) (h0 : 1 ≤ n) (h1 : n ≤ 65536) (k : Int) {v : Value} {l : List (Int × Int)} (hv : ArgS w v l) (hl : l.length ≤ 1048576) (hw : ∀ p ∈ l, I64 p.1 ∧ I64 p.2) :
    Calls Tryz.prog 11 #[.agg #[.int .i64 n, .int .i64 k, v]] w (MdPost w) := by
  obtain ⟨ao, c0, rfl, _⟩ := hv.form
  obtain ⟨W0, hW0⟩ : ∃ W0, W0 = w.alloc (.cells #[.int .i64 n, .int .i64 k, .slice ao l.length c0] TSe) := ⟨_, rfl⟩
  have hB0 : Below w.heap.size w W0 := by rw [hW0]; exact (Below.refl _ w).alloc (Nat.le_refl _) _
  have hbx : W0.heap[w.heap.size]? = some (.cells #[.int .i64 n, .int .i64 k, .slice ao l.length c0] TSe) := by rw [hW0]; exact heap_alloc_new w _
  have hs0 : W0.heap.size = w.heap.size + 1 := by rw [hW0]; simp
  have k0 : W0.cell? ⟨w.heap.size, 0, none⟩ = some (.int .i64 n) := (K.cell_of hbx).trans rfl
  have HN : Hid (Calls Tryz.prog 31 #[.int .i64 n] W0 fun r w' => ∃ b, r = .returned (.tuple #[.pointer (some ⟨b, 0, none⟩), .int .i64 0]) ∧ ∃ ms ml, K.RK w' 0 b ms ml (.slice none 0 0) (.slice none 0 0) (K.newDk n) ∧ Below W0.heap.size W0 w' ∧ ∀ i ∈ K.fp b ms ml (.slice none 0 0) (.slice none 0 0), W0.heap.size ≤ i) := K.new_any W0 n h0 h1
  have HM := fun (W1 : World) (b ms ml : Nat) hrk hb1 hfp => made_open (W1 := W1) (b := b) (ms := ms) (ml := ml) h0 h1 k hv hl hw hB0 hbx hs0 hrk hb1 hfp
  have HMh : Hid (∀ (W1 : World) (b ms ml : Nat), K.RK W1 0 b ms ml (.slice none 0 0) (.slice none 0 0) (K.newDk n) → Below W0.heap.size W0 W1 → (∀ i ∈ K.fp b ms ml (.slice none 0 0) (.slice none 0 0), W0.heap.size ≤ i) → _) := HM
  clear hv hw hB0 hbx hl HM hs0
  have e1 : ∀ (w : World) (a : Addr), (binOp .eql 30 (.pointer (some a)) (.pointer none)).run Tryz.prog w = .ok (.bool false) w := fun _ _ => rfl
  have e2 : ∀ (w : World) (a : Addr), (binOp .eql 64 (.pointer (some a)) (.pointer none)).run Tryz.prog w = .ok (.bool false) w := fun _ _ => rfl
  go_enter Tryz.func11, Tryz.ntmps11
  go_wp2_with fail
  rw [← hW0]
  refine Calls.mono HN.out ?_
  clear HN hW0 k0
  rintro e W1 ⟨b, rfl, ms, ml, hrk, hb1, hfp⟩
  obtain ⟨k0, HR2, HOP⟩ := HMh.out W1 b ms ml hrk hb1 hfp
  clear HMh hrk hb1 hfp
  go_wp2_with fail
  refine Calls.mono HR2.out ?_
  clear HR2 k0
  rintro e W2 ⟨rfl, hw2⟩
  obtain ⟨⟨q0, q1, q2⟩, hop⟩ := HOP.out _ rfl
  have HP2 := HOP
  clear HOP
  rw [hw2]
  clear hw2
  have HO2 : Hid (Calls Tryz.prog 35 #[.pointer (some ⟨W1.heap.size + 1, 0, none⟩), .agg #[.int .i64 n, .int .i64 k, .slice ao l.length c0]] ((W1.alloc (.cells (rdcells n) TRd)).alloc (.cells #[.pointer (some ⟨b, 0, none⟩), .pointer none, .pointer (some ⟨W1.heap.size, 0, none⟩), .pointer none] TPa)) fun r w' => r = .returned (.bool true) ∧ MdPost w (.returned (.tuple #[.pointer (some ⟨W1.heap.size + 1, 0, none⟩), .bool true])) w') := hop
  clear hop HP2
  go_wp2_with fail
  refine Calls.mono HO2.out ?_
  clear HO2 q0 q1 q2
  rintro e W4 ⟨rfl, hmp⟩
  have HMP : Hid (MdPost w (.returned (.tuple #[.pointer (some ⟨W1.heap.size + 1, 0, none⟩), .bool true])) W4) := hmp
  clear hmp
  go_wp2
  refine bodyPost_ret (results_tmp2 rfl _ _ _) rfl ?_
  exact HMP.out
end Go.Proofs.YtijimcjmpeakpaaGreat.C

namespace Go.Proofs.YtijimcjmpeakpaaGreat.C
open Go.RowKit Go.Maps Go.Shelf Go.Proofs.YtijimcjmpeakpaaGreat
attribute [local go_sem] Oper.semAt_some
set_option linter.unusedVariables false
set_option linter.unusedSimpArgs false
set_option maxRecDepth 100000

/-- a cache that was made just now -/
theorem fresh_asks {w : World} {P : Loc} {S : K.Dk} {k : Nat} {l : List (Int × Int)} (h : RC w P S (newCh k l)) :
    Calls Tryz.prog 13 #[.pointer (some ⟨P.bc, 0, none⟩)] w fun e w' => e = .returned (.slice none 0 0) ∧ Below w.heap.size w w' ∧ Hid (Calls Tryz.prog 14 #[.pointer (some ⟨P.bc, 0, none⟩)] w' fun r w'' => r = .returned (.agg #[.int .u64 0, .int .u64 0, .int .u64 0, .int .u64 0]) ∧ Below w'.heap.size w' w'') := by
  refine (lines_none (some ⟨P.bc, 0, none⟩) (fun W hb => told_new (h.later hb) rfl)).mono ?_
  rintro e w' ⟨rfl, hb⟩
  exact ⟨rfl, hb, stats_c (h.later hb)⟩
set_option maxHeartbeats 4000000 in
theorem lawMakes_of (w : World) (n k : Int) (ao : Option Addr) (m c0 : Nat)
    (hmd : ∀ W, Below w.heap.size w W → Calls Tryz.prog 11 #[.agg #[.int .i64 n, .int .i64 k, .slice ao m c0]] W (MdPost W)) :
    Calls Tryz.prog 4 #[.agg #[.int .i64 n, .int .i64 k, .slice ao m c0]] w fun r w' => r = .returned (.bool true) ∧ Below w.heap.size w w' := by
  obtain ⟨W0, hW0⟩ : ∃ W0, W0 = w.alloc (.cells #[.int .i64 n, .int .i64 k, .slice ao m c0] TSe) := ⟨_, rfl⟩
  have hB0 : Below w.heap.size w W0 := by rw [hW0]; exact (Below.refl _ w).alloc (Nat.le_refl _) _
  have hbx : W0.heap[w.heap.size]? = some (.cells #[.int .i64 n, .int .i64 k, .slice ao m c0] TSe) := by rw [hW0]; exact heap_alloc_new w _
  have hlt : w.heap.size < W0.heap.size := by rw [hW0, World.size_alloc]; omega
  have HC : Hid (∀ W, Below W0.heap.size W0 W → ∀ j, W.cell? ⟨w.heap.size, j, none⟩ = (#[.int .i64 n, .int .i64 k, .slice ao m c0] : Array Value)[j]?) := fun W hb j => K.cell_of ((hb.block _ hlt).trans hbx)
  have HF : Hid (∀ W, Below W0.heap.size W0 W → Below w.heap.size w W) := fun W hb => hB0.trans (hb.mono hB0.size)
  have HMd : Hid (Calls Tryz.prog 11 #[.agg #[.int .i64 n, .int .i64 k, .slice ao m c0]] W0 (MdPost W0)) := hmd W0 hB0
  have e1 := eq_cp
  have hi := Tryz.underlying36
  have q0 : W0.cell? ⟨w.heap.size, 0, none⟩ = some (.int .i64 n) := (K.cell_of hbx).trans rfl
  have q1 : W0.cell? ⟨w.heap.size, 1, none⟩ = some (.int .i64 k) := (K.cell_of hbx).trans rfl
  have q2 : W0.cell? ⟨w.heap.size, 2, none⟩ = some (.slice ao m c0) := (K.cell_of hbx).trans rfl
  clear hmd hB0 hbx hlt
  go_enter Tryz.func4, Tryz.ntmps4
  go_wp2_with fail
  rw [← hW0]
  refine Calls.mono HMd.out ?_
  clear HMd hW0 q0 q1 q2
  rintro e W1 ⟨x, cv, rfl, hb1, hcx, hxl, hcase⟩
  have HB1 : Hid (Below W0.heap.size W0 W1) := hb1
  have HCX : Hid (∀ W, Below W1.heap.size W1 W → W.cell? ⟨x, 1, none⟩ = some cv) := fun W hb => cell_later hb hcx
  have HCA : Hid (cv = .pointer none ∨ ∃ (P : Loc) (S : K.Dk) (k : Nat) (l : List (Int × Int)), cv = .pointer (some ⟨P.bc, 0, none⟩) ∧ RC W1 P S (newCh k l)) := hcase
  clear hb1 hcx hxl hcase
  go_wp2_with fail
  refine Calls.mono (heads_c W1) ?_
  rintro e W2 ⟨rfl, hb2⟩
  have HB12 : Hid (Below W1.heap.size W1 W2) := hb2
  have HB2 : Hid (Below W0.heap.size W0 W2) := HB1.out.trans (hb2.mono HB1.out.size)
  clear hb2
  have q1 : W2.cell? ⟨w.heap.size, 1, none⟩ = some (.int .i64 k) := HC.out _ HB2.out 1
  have q2 : W2.cell? ⟨w.heap.size, 2, none⟩ = some (.slice ao m c0) := HC.out _ HB2.out 2
  go_wp2_with fail
  refine Calls.mono (new_dead (sectors_nil W2) k _) ?_
  rintro e W3 ⟨rfl, hw3⟩
  rw [hw3]
  clear hw3
  have p1 : ∀ o, (W2.alloc o).cell? ⟨w.heap.size, 1, none⟩ = some (.int .i64 k) := fun o => HC.out _ (HB2.out.alloc HB2.out.size o) 1
  have p2 : ∀ o, (W2.alloc o).cell? ⟨w.heap.size, 2, none⟩ = some (.slice ao m c0) := fun o => HC.out _ (HB2.out.alloc HB2.out.size o) 2
  go_wp2_with fail
  refine Calls.mono (new_dead (sectors_zero ((K.cell_of (heap_alloc_new W2 _)).trans rfl)) k _) ?_
  rintro e W4 ⟨rfl, hw4⟩
  have HB24 : Hid (Below W2.heap.size W2 W4) := by show Below _ _ _; rw [hw4]; exact (Below.refl _ W2).alloc (Nat.le_refl _) _
  have HB4 : Hid (Below W0.heap.size W0 W4) := HB2.out.trans (HB24.out.mono HB2.out.size)
  have HB14 : Hid (Below W1.heap.size W1 W4) := HB12.out.trans (HB24.out.mono HB12.out.size)
  clear hw4 p1 p2 q1 q2
  have y1 : W4.cell? ⟨x, 1, none⟩ = some cv := HCX.out W4 HB14.out
  rcases HCA.out with rfl | ⟨P, S, k', l', rfl, hrc⟩
  · clear HCA
    go_wp2
    go_ret
    exact ⟨rfl, HF.out _ HB4.out⟩
  · have HFA : Hid (Calls Tryz.prog 13 #[.pointer (some ⟨P.bc, 0, none⟩)] W4 fun e w' => e = .returned (.slice none 0 0) ∧ Below W4.heap.size W4 w' ∧ Hid (Calls Tryz.prog 14 #[.pointer (some ⟨P.bc, 0, none⟩)] w' fun r w'' => r = .returned (.agg #[.int .u64 0, .int .u64 0, .int .u64 0, .int .u64 0]) ∧ Below w'.heap.size w' w'')) := fresh_asks (hrc.later HB14.out)
    clear HCA hrc
    go_wp2_with fail
    refine Calls.mono HFA.out ?_
    clear HFA y1
    rintro e W5 ⟨rfl, hb5, HST⟩
    have y1 : W5.cell? ⟨x, 1, none⟩ = some (.pointer (some ⟨P.bc, 0, none⟩)) := HCX.out W5 (HB14.out.trans (hb5.mono HB14.out.size))
    have HB5 : Hid (Below W0.heap.size W0 W5) := HB4.out.trans (hb5.mono HB4.out.size)
    clear hb5
    go_wp2_with fail
    refine Calls.mono HST.out ?_
    clear HST y1
    rintro e W6 ⟨rfl, hb6⟩
    have HB6 : Hid (Below W0.heap.size W0 W6) := HB5.out.trans (hb6.mono HB5.out.size)
    clear hb6
    go_wp2
    go_ret
    exact ⟨rfl, HF.out _ HB6.out⟩
end Go.Proofs.YtijimcjmpeakpaaGreat.C

namespace Go.Proofs.YtijimcjmpeakpaaGreat.C
open Go.ChangeShapes Go.WideShapes Go.ChangeAt Go.RowKit Go.Deep
set_option linter.unusedVariables false
set_option maxRecDepth 100000

theorem own : ownKnob Tryz.prog.godebug = none := by kernel_rfl
theorem cellsSpan : Tryz.prog.cellsOf 98 = 2 := by kernel_rfl
theorem cellsSpans : Tryz.prog.cellsOf 31 = 1 := by kernel_rfl
theorem cellsSetup : Tryz.prog.cellsOf 42 = 3 := by kernel_rfl
theorem twoV {cs : List Value} (h : cs.length = 2) : ∃ a b, cs = [a, b] := by
  match cs, h with
  | [a, b], _ => exact ⟨a, b, rfl⟩
theorem threeV {cs : List Value} (h : cs.length = 3) : ∃ a b c, cs = [a, b, c] := by
  match cs, h with
  | [a, b, c], _ => exact ⟨a, b, c, rfl⟩
theorem threeD {H : Type} {cs : List (DataW H × List MemPlace)} (h : cs.length = 3) : ∃ a b c, cs = [a, b, c] := by
  match cs, h with
  | [a, b, c], _ => exact ⟨a, b, c, rfl⟩
theorem twoD {H : Type} {cs : List (DataW H × List MemPlace)} (h : cs.length = 2) : ∃ a b, cs = [a, b] := by
  match cs, h with
  | [a, b], _ => exact ⟨a, b, rfl⟩
theorem open_span {H : Type} {enc : TypeId × Value → H} {W : World} {base fuel : Nat} {cs : List Value} {d : DataW H} {p : List MemPlace} (hf : DataW.trod enc Tryz.prog W base (fun _ => true) true fuel 98 cs = some (d, p)) :
    ∃ q : Int × Int, cs = [.int .i64 q.1, .int .i64 q.2] ∧ I64 q.1 ∧ I64 q.2 := by
  obtain ⟨xs, m, _, hx, hl, hxl, hall⟩ := DataW.trod_struct Tryz.underlying98 hf
  obtain ⟨a, b, rfl⟩ := twoV (hl.trans cellsSpan)
  obtain ⟨y0, y1, rfl⟩ := twoD (show xs.length = 2 from hxl)
  have h0 : DataW.trod enc Tryz.prog W base (fun _ => true) true m 3 (([a, b].drop 0).take (Tryz.prog.cellsOf 3)) = some y0 := hall 0 _ rfl
  have h1 : DataW.trod enc Tryz.prog W base (fun _ => true) true m 3 (([a, b].drop 1).take (Tryz.prog.cellsOf 3)) = some y1 := hall 1 _ rfl
  rw [cellsInt] at h0 h1
  obtain ⟨z0, e0, _, w0⟩ := DataW.trod_int Tryz.underlying3 h0
  obtain ⟨z1, e1, _, w1⟩ := DataW.trod_int Tryz.underlying3 h1
  simp at e0 e1
  subst e0; subst e1
  exact ⟨(z0, z1), rfl, bounds_i64 w0, bounds_i64 w1⟩
/-- a list of spans that was read -/
theorem open_spans {H : Type} {enc : TypeId × Value → H} {W : World} {base fuel : Nat} {v : Value} {d : DataW H} {p : List MemPlace} (hf : DataW.trod enc Tryz.prog W base (fun _ => true) true fuel 31 [v] = some (d, p)) :
    ∃ l : List (Int × Int), ArgS W v l ∧ (∀ p ∈ l, I64 p.1 ∧ I64 p.2) ∧ l.length + 1 ≤ Rows.uptoBulk d := by
  rcases open_slice Tryz.underlying31 hf with ⟨hcs, hx⟩ | ⟨x, len, cap, m, n, D, Pl, hcs, _, hl, hm, hmm, hx, hel⟩
  · simp at hcs
    subst hcs
    have hd : d = .nil := (Prod.mk.inj hx).1
    exact ⟨[], .inl ⟨rfl, rfl⟩, fun p hp => by simp at hp, by rw [hd]; simp [Rows.uptoBulk]⟩
  · simp at hcs
    subst hcs
    have hd : d = .slice ((List.range len).map D) ((List.range (m - len)).map fun j => D (len + j)) := (Prod.mk.inj hx).1
    have hsl := bulk_slice (H := H) ((List.range len).map D) ((List.range (m - len)).map fun j => D (len + j))
    have hs1 := length_le_bulk (H := H) ((List.range len).map D)
    rw [← hd] at hsl
    simp only [List.length_map, List.length_range] at hs1
    have hmc : m = cap := by simpa using hmm
    have hel' : ∀ i, ∃ q : Int × Int, i < len → (I64 q.1 ∧ I64 q.2) ∧ ∀ j, j < 2 → W.cell? ((x.add (i * 2)).add j) = [Value.int .i64 q.1, .int .i64 q.2][j]? := by
      intro i
      by_cases hi : i < len
      · obtain ⟨cs', hc1, hc2⟩ := hel i (by omega)
        rw [cellsSpan] at hc1
        obtain ⟨q, rfl, hq⟩ := open_span hc2
        exact ⟨q, fun _ => ⟨hq, (World.cells?_some hc1).2.2⟩⟩
      · exact ⟨(0, 0), fun h => absurd h hi⟩
    obtain ⟨T, hT⟩ := Classical.axiomOfChoice hel'
    by_cases hz : len = 0
    · subst hz
      exact ⟨[], .inr ⟨x, cap, rfl, fun k p hk => by simp at hk⟩, fun p hp => by simp at hp, by simp; omega⟩
    · obtain ⟨pb, po, rfl⟩ : ∃ pb po, x = ⟨pb, po, none⟩ := by
        have h0 := (hT 0 (by omega)).2 0 (by decide)
        have h1 := World.cell?_spot (show W.cell? ((x.add (0 * 2)).add 0) = some (.int .i64 (T 0).1) from h0)
        obtain ⟨b, off, spot⟩ := x
        have : spot = none := by simpa [Addr.add] using h1
        exact ⟨b, off, by rw [this]⟩
      refine ⟨(List.range len).map T, .inr ⟨⟨pb, po, none⟩, cap, by simp, fun k q hk => ?_⟩, fun q hq => ?_, by simp; omega⟩
      · have hk2 : k < len := by
          have := (List.getElem?_eq_some_iff.1 hk).1
          simpa using this
        have hq : T k = q := by simpa [hk2] using hk
        have g0 := (hT k hk2).2 0 (by decide)
        have g1 := (hT k hk2).2 1 (by decide)
        rw [add_plain, add_plain] at g0 g1
        rw [hq] at g0 g1
        have hlt : pb < W.heap.size := by
          have g0' : W.cell? ⟨pb, po + k * 2 + 0, none⟩ = some (.int .i64 q.1) := g0
          unfold World.cell? at g0'
          rcases Nat.lt_or_ge pb W.heap.size with hh | hh
          · exact hh
          · simp only at g0'
            rw [Array.getElem?_eq_none hh] at g0'
            simp at g0'
        exact ⟨pb, po, rfl, hlt, g0, g1⟩
      · simp only [List.mem_map, List.mem_range] at hq
        obtain ⟨k, hk, rfl⟩ := hq
        exact (hT k hk).1
/-- a setup that was read -/
theorem open_setup {H : Type} {enc : TypeId × Value → H} {W : World} {base fuel : Nat} {cs : List Value} {d : DataW H} {p : List MemPlace} (hf : DataW.trod enc Tryz.prog W base (fun _ => true) true fuel 42 cs = some (d, p)) :
    ∃ (n k : Int) (v : Value) (l : List (Int × Int)), cs = [.int .i64 n, .int .i64 k, v] ∧ ArgS W v l ∧ (∀ p ∈ l, I64 p.1 ∧ I64 p.2) ∧ l.length ≤ Rows.uptoBulk d := by
  obtain ⟨xs, m, _, hx, hl, hxl, hall⟩ := DataW.trod_struct Tryz.underlying42 hf
  obtain ⟨a, b, c, rfl⟩ := threeV (hl.trans cellsSetup)
  obtain ⟨y0, y1, y2, rfl⟩ := threeD (show xs.length = 3 from hxl)
  have h0 : DataW.trod enc Tryz.prog W base (fun _ => true) true m 3 (([a, b, c].drop 0).take (Tryz.prog.cellsOf 3)) = some y0 := hall 0 _ rfl
  have h1 : DataW.trod enc Tryz.prog W base (fun _ => true) true m 3 (([a, b, c].drop 1).take (Tryz.prog.cellsOf 3)) = some y1 := hall 1 _ rfl
  have h2 : DataW.trod enc Tryz.prog W base (fun _ => true) true m 31 (([a, b, c].drop 2).take (Tryz.prog.cellsOf 31)) = some y2 := hall 2 _ rfl
  rw [cellsInt] at h0 h1
  rw [cellsSpans] at h2
  obtain ⟨z0, e0, _, w0⟩ := DataW.trod_int Tryz.underlying3 h0
  obtain ⟨z1, e1, _, w1⟩ := DataW.trod_int Tryz.underlying3 h1
  simp at e0 e1
  subst e0; subst e1
  obtain ⟨d2, p2⟩ := y2
  obtain ⟨l, g1, g2, g3⟩ := open_spans (v := c) (by simpa using h2)
  refine ⟨z0, z1, c, l, rfl, g1, g2, ?_⟩
  have hd := (Prod.mk.inj hx).1
  simp at hd
  rw [hd]
  simp [Rows.uptoBulk, Rows.uptoBulkAll]
  omega
end Go.Proofs.YtijimcjmpeakpaaGreat.C
