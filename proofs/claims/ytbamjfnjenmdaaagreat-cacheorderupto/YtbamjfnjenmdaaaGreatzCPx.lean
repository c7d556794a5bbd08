import Derived.Test.YtbamjfnjenmdaaaGreatG1
import Derived.Deep.Slices
import Derived.Carry
import Derived.WalkKit
import Derived.ProofKit
import Derived.OpenShut
import Derived.ChangeOld
import Derived.SizedLaws
import Derived.JoinedCond
import Derived.Test.YtbamjfnjenmdaaaGreatzCY
import Derived.Laws.AppendOwnNone
namespace Go.Proofs.YtbamjfnjenmdaaaGreat.C
open Go.RowKit Go.Maps Go.Shelf Go.Proofs.YtbamjfnjenmdaaaGreat
attribute [local go_sem] Oper.semAt_some
set_option linter.unusedVariables false
set_option linter.unusedSimpArgs false
set_option maxRecDepth 100000

section
variable {w : World} {b ms ml : Nat} {qv fv : Value} {S : K.Dk}
theorem new_lines (h : K.RK w 0 b ms ml qv fv S) {k : Int} (hk : k < 1 ∨ 1024 < k) (x : Value) :
    Calls Tryz.prog 21 #[.pointer (some ⟨b, 0, none⟩), .int .i64 k, x] w fun r w' => r = .returned (.tuple #[.pointer none, .int .i64 50]) ∧ K.RK w' 0 b ms ml qv fv S ∧ K.Kp w w' (K.fp b ms ml qv fv) := by
  have hs := K.sectors_any h
  have hn0 := h.n0
  have d4 : ¬ ((S.n : Int) = 0) := by omega
  have d4' : ¬ (S.n = 0) := by omega
  clear h
  by_cases hk1 : k < 1
  · have b1 : decide (k < 1) = true := decide_eq_true hk1
    go_enter Tryz.func21, Tryz.ntmps21
    go_wp2_with (go_at_call 48; refine hs.mono ?_; clear hs; rintro r w1 ⟨rfl, hd1⟩)
    refine bodyPost_ret (results_tmp2 rfl _ _ _) rfl ?_
    exact ⟨rfl, hd1.rk, hd1.kp⟩
  · have b1 : decide (k < 1) = false := decide_eq_false hk1
    have hk2 : 1024 < k := by omega
    have b2 : decide (1024 < k) = true := decide_eq_true hk2
    clear hk
    go_enter Tryz.func21, Tryz.ntmps21
    go_wp2_with (go_at_call 48; refine hs.mono ?_; clear hs; rintro r w1 ⟨rfl, hd1⟩)
    refine bodyPost_ret (results_tmp2 rfl _ _ _) rfl ?_
    exact ⟨rfl, hd1.rk, hd1.kp⟩
theorem new_spans (h : K.RK w 0 b ms ml qv fv S) {most : Nat} (hm0 : 1 ≤ most) (hm1 : most ≤ 1024) {ao : Option Addr} {cap : Nat} {l : List (Int × Int)} (hr : SpR w ao l) (hl : l.length ≤ 1048576) (hw : ∀ p ∈ l, I64 p.1 ∧ I64 p.2) (hfar : ∀ b' off, ao = some ⟨b', off, none⟩ → b' ∉ K.fp b ms ml qv fv) (hbad : 64 < l.length ∨ ¬ Apart S.n l) :
    Calls Tryz.prog 21 #[.pointer (some ⟨b, 0, none⟩), .int .i64 most, .slice ao l.length cap] w fun r w' => r = .returned (.tuple #[.pointer none, .int .i64 51]) ∧ K.RK w' 0 b ms ml qv fv S ∧ K.Kp w w' (K.fp b ms ml qv fv) := by
  have hs := K.sectors_any h
  have hn0 := h.n0
  have hn1 := h.n1
  have d1 : ¬ ((most : Int) < 1) := by omega
  have d2 : ¬ ((1024 : Int) < (most : Int)) := by omega
  have d4 : ¬ ((S.n : Int) = 0) := by omega
  have d4' : ¬ (S.n = 0) := by omega
  have b1 : decide ((most : Int) < 1) = false := decide_eq_false d1
  have HSP : Hid (∀ w1, K.DAct w w1 0 b ms ml ms ml qv fv qv fv S → SpR w1 ao l) := fun w1 hd k p hk => by
    obtain ⟨g, off, e, hg, c0, c1⟩ := hr k p hk
    have hb := hd.kp.block g hg (hfar g off e)
    refine ⟨g, off, e, Nat.lt_of_lt_of_le hg hd.kp.size, ?_, ?_⟩
    · unfold World.cell? at c0 ⊢; rw [hb]; exact c0
    · unfold World.cell? at c1 ⊢; rw [hb]; exact c1
  by_cases hk1 : 64 < l.length
  · have d3 : (64 : Int) < (l.length : Int) := by omega
    have b2 : decide ((l.length : Int) > 64) = true := decide_eq_true d3
    clear hr hw hfar hbad HSP h
    go_enter Tryz.func21, Tryz.ntmps21
    go_wp2_with (go_at_call 48; refine hs.mono ?_; clear hs; rintro r w1 ⟨rfl, hd1⟩)
    refine bodyPost_ret (results_tmp2 rfl _ _ _) rfl ?_
    exact ⟨rfl, hd1.rk, hd1.kp⟩
  · have d3 : ¬ ((64 : Int) < (l.length : Int)) := by omega
    have b2 : decide ((l.length : Int) > 64) = false := decide_eq_false d3
    have hap : apartB S.n l = false := by
      have hna : ¬ Apart S.n l := hbad.resolve_left hk1
      cases e : apartB S.n l
      · rfl
      · exact absurd (apartB_iff.1 e) hna
    have HL : Hid (∀ w1, K.DAct w w1 0 b ms ml ms ml qv fv qv fv S → Calls Tryz.prog 49 #[.slice ao l.length cap, .int .i64 S.n] w1 fun r w2 => r = .returned (.bool false) ∧ Below w1.heap.size w1 w2) := fun w1 hd => by
      have h1 := lieApart_c (n := S.n) (cap := cap) (HSP.out w1 hd) hl hn1 hw
      rw [hap] at h1
      exact h1
    clear hr hw hfar hbad HSP h hap
    go_enter Tryz.func21, Tryz.ntmps21
    go_wp2_with (first | (go_at_call 48; refine hs.mono ?_; clear hs; rintro r w1 ⟨rfl, hd1⟩; have hlp := HL.out w1 hd1; clear HL) | (go_at_call 49; refine hlp.mono ?_; clear hlp; rintro r w2 ⟨rfl, hb2⟩))
    refine bodyPost_ret (results_tmp2 rfl _ _ _) rfl ?_
    exact ⟨rfl, hd1.rk.later hb2, hd1.kp.trans (K.Kp.of_below hb2 _) (fun i hi => .inl hi)⟩
end

theorem spcells_length (l : List (Int × Int)) : (spcells l).length = l.length * 2 := by
  induction l with
  | nil => rfl
  | cons p t ih => simp [spcells, spcell] at ih ⊢; omega
theorem spcells_append (l k : List (Int × Int)) : spcells (l ++ k) = spcells l ++ spcells k := by simp [spcells]
theorem spcells_one (l : List (Int × Int)) : ∀ u ∈ spcells l, u.oneCell' = true := by
  intro u hu
  simp only [spcells, spcell, List.mem_flatMap] at hu
  obtain ⟨p, _, h⟩ := hu
  simp at h
  rcases h with rfl | rfl <;> rfl
theorem sp_src {w : World} {ad : Addr} {l : List (Int × Int)} (h : SpR w (some ad) l) : ∀ j u, (spcells l)[j]? = some u → w.cell? (ad.add j) = some u := by
  intro j u hu
  have hj : j < l.length * 2 := by
    have := (List.getElem?_eq_some_iff.1 hu).1
    rwa [spcells_length] at this
  obtain ⟨p, hp⟩ : ∃ p, l[j / 2]? = some p := ⟨_, List.getElem?_eq_getElem (by omega)⟩
  obtain ⟨h1, h2⟩ := spcells_get l _ p hp
  obtain ⟨b', off', e, _, c1, c2⟩ := h _ p hp
  simp only [Option.some.injEq] at e
  subst e
  rw [WideShapes.add_plain]
  rcases Nat.mod_two_eq_zero_or_one j with hm | hm
  · have ej : j = j / 2 * 2 := by omega
    rw [ej] at hu ⊢
    rw [h1] at hu
    cases hu
    exact c1
  · have ej : j = j / 2 * 2 + 1 := by omega
    rw [ej] at hu ⊢
    rw [h2] at hu
    cases hu
    exact c2
/-- a list of spans that was handed in -/
def ArgS (w : World) (v : Value) (l : List (Int × Int)) : Prop := (v = .slice none 0 0 ∧ l = []) ∨ ∃ ad c, v = .slice (some ad) l.length c ∧ SpR w (some ad) l
theorem ArgS.later {w w' : World} {v : Value} {l : List (Int × Int)} (h : ArgS w v l) (hb : Below w.heap.size w w') : ArgS w' v l := by
  rcases h with h | ⟨ad, c, e, h⟩
  · exact .inl h
  · exact .inr ⟨ad, c, e, h.later hb⟩
theorem ArgS.form {w : World} {v : Value} {l : List (Int × Int)} (h : ArgS w v l) : ∃ ao c, v = .slice ao l.length c ∧ SpR w ao l ∧ (ao = none → l = []) := by
  rcases h with ⟨rfl, rfl⟩ | ⟨ad, c, rfl, h⟩
  · exact ⟨none, 0, rfl, fun k p hk => by simp at hk, fun _ => rfl⟩
  · exact ⟨_, c, rfl, h, fun e => by (cases e)⟩
theorem ArgS.lt {w : World} {v : Value} {l : List (Int × Int)} (h : ArgS w v l) (hl : l ≠ []) {b off n c : Nat} (e : v = .slice (some ⟨b, off, none⟩) n c) : b < w.heap.size := by
  rcases h with ⟨_, rfl⟩ | ⟨ad, c, rfl, h⟩
  · exact absurd rfl hl
  · cases e
    cases l with
    | nil => exact absurd rfl hl
    | cons p l =>
      obtain ⟨g, o, e, hg, _⟩ := h 0 p rfl
      cases e
      exact hg
theorem wpList_append_sp {w : World} {ops : Array Oper} {rest : List Oper} {o : Oper} {a : Act} {Q : Exit → Act → World → Prop} (hgd : o.guard = none) (s x : Operand)
    (ho : o.op = .call { callee := .builtin .append, args := #[s, x], argTypes := #[TSps, TSps] }) (base : Nat) (v : Value) (n : Nat) (xs : List Value) (hs : a.eval s = v) (hown : w.ownsRow base TSp 2 v n xs)
    (vx : Value) (l : List (Int × Int)) (hx : a.eval x = vx) (hsl : ArgS w vx l) (hlen : n + l.length ≤ 8796093022207) (hbase : base ≤ w.heap.size)
    (h : ∀ v' w', w'.ownsRow base TSp 2 v' (n + l.length) (xs ++ spcells l) → w.grownBy w' v.ownBlock → wpList Tryz.prog ops Q rest (a.put o.dst v') w') : wpList Tryz.prog ops Q (o :: rest) a w := by
  obtain ⟨i0, hi, hz0, hz1, hz2⟩ := info_parts infoSp
  rcases hsl with ⟨rfl, rfl⟩ | ⟨ad, c, rfl, hR⟩
  · refine wpList_append_own_none hgd s x TSps ho base TSp i0 2 Tryz.underlying22 hi v n xs hs hown hx (h v w ?_ ⟨rfl, rfl, rfl, Nat.le_refl _, fun _ _ _ => rfl⟩)
    simpa [spcells] using hown
  · exact wpList_append_own _ hgd s x TSps ho base TSp i0 _ 2 16 Tryz.underlying22 hi hz0 hz1 hz2 rfl (by decide) v n xs hs hown _ l.length c (spcells l) hx (spcells_length l) (sp_src hR) (spcells_one l) (by unfold maxLen; omega) (by omega) hbase (fun v' w' h1 h2 _ => h v' w' h1 h2)

abbrev TRd : TypeId := 124
abbrev TRc : TypeId := 127
def rdcells (n : Int) : Array Value := #[.int .i64 n, .slice none 0 0, .slice none 0 0, .slice none 0 0, .slice none 0 0, .int .u64 0, .int .u64 0, .int .u64 0, .int .u64 0, .int .u64 0]
theorem rnew_bad (w : World) (n : Int) (h : n < 1 ∨ 65536 < n) : Calls Tryz.prog 24 #[.int .i64 n] w fun r w' => r = .returned (.tuple #[.pointer none, .int .i64 30]) ∧ w' = w := by
  by_cases h1 : n < 1
  · go_enter Tryz.func24, Tryz.ntmps24
    go_wp2
    refine bodyPost_ret (results_tmp2 rfl _ _ _) rfl ?_
    exact ⟨rfl, rfl⟩
  · have h2 : 65536 < n := by omega
    go_enter Tryz.func24, Tryz.ntmps24
    go_wp2
    refine bodyPost_ret (results_tmp2 rfl _ _ _) rfl ?_
    exact ⟨rfl, rfl⟩
theorem rnew_any (w : World) (n : Nat) (h0 : 1 ≤ n) (h1 : n ≤ 65536) : Calls Tryz.prog 24 #[.int .i64 n] w fun r w' => r = .returned (.tuple #[.pointer (some ⟨w.heap.size, 0, none⟩), .int .i64 0]) ∧ w' = w.alloc (.cells (rdcells n) TRd) := by
  have a1 : ¬ ((n : Int) < 1) := by omega
  have a2 : ¬ (65536 < (n : Int)) := by omega
  go_enter Tryz.func24, Tryz.ntmps24
  go_wp2
  refine bodyPost_ret (results_tmp2 rfl _ _ _) rfl ?_
  exact ⟨rfl, rfl⟩
/-- the document's cache, refused for its lines -/
theorem rcnew_lines {w : World} {p : Nat} {n : Int} (hc : w.cell? ⟨p, 0, none⟩ = some (.int .i64 n)) (hn : 1 ≤ n) {k : Int} (hk : k < 1 ∨ 1024 < k) (x : Value) :
    Calls Tryz.prog 25 #[.pointer (some ⟨p, 0, none⟩), .int .i64 k, x] w fun r w' => r = .returned (.tuple #[.pointer none, .int .i64 50]) ∧ w' = w := by
  have d4 : ¬ (n = 0) := by omega
  have e1 : ∀ (w : World) (a : Addr), (binOp .eql 72 (.pointer (some a)) (.pointer none)).run Tryz.prog w = .ok (.bool false) w := fun _ _ => rfl
  by_cases hk1 : k < 1
  · have b1 : decide (k < 1) = true := decide_eq_true hk1
    go_enter Tryz.func25, Tryz.ntmps25
    go_wp2
    refine bodyPost_ret (results_tmp2 rfl _ _ _) rfl ?_
    exact ⟨rfl, rfl⟩
  · have b1 : decide (k < 1) = false := decide_eq_false hk1
    have hk2 : 1024 < k := by omega
    have b2 : decide (1024 < k) = true := decide_eq_true hk2
    clear hk
    go_enter Tryz.func25, Tryz.ntmps25
    go_wp2
    refine bodyPost_ret (results_tmp2 rfl _ _ _) rfl ?_
    exact ⟨rfl, rfl⟩
theorem rcnew_many {w : World} {p : Nat} {n : Int} (hc : w.cell? ⟨p, 0, none⟩ = some (.int .i64 n)) (hn : 1 ≤ n) {most : Nat} (hm0 : 1 ≤ most) (hm1 : most ≤ 1024) {ao : Option Addr} {m cap : Nat} (hm : 64 < m) :
    Calls Tryz.prog 25 #[.pointer (some ⟨p, 0, none⟩), .int .i64 most, .slice ao m cap] w fun r w' => r = .returned (.tuple #[.pointer none, .int .i64 51]) ∧ w' = w := by
  have d4 : ¬ (n = 0) := by omega
  have e1 : ∀ (w : World) (a : Addr), (binOp .eql 72 (.pointer (some a)) (.pointer none)).run Tryz.prog w = .ok (.bool false) w := fun _ _ => rfl
  have d1 : ¬ ((most : Int) < 1) := by omega
  have d2 : ¬ ((1024 : Int) < (most : Int)) := by omega
  have d3 : (64 : Int) < (m : Int) := by omega
  have b2 : decide ((m : Int) > 64) = true := decide_eq_true d3
  go_enter Tryz.func25, Tryz.ntmps25
  go_wp2
  refine bodyPost_ret (results_tmp2 rfl _ _ _) rfl ?_
  exact ⟨rfl, rfl⟩

theorem not_apart_bad {n i : Nat} {l : List (Int × Int)} {p : Int × Int} (hp : l[i]? = some p) (hb : p.1 < 0 ∨ p.2 < 1 ∨ (n : Int) < p.1 ∨ (n : Int) - p.1 < p.2) : ¬ Apart n l := fun h => by
  have := h.1 p (List.mem_of_getElem? hp)
  omega
theorem not_apart_meet {n i k : Nat} {l : List (Int × Int)} {p t : Int × Int} (hp : l[i]? = some p) (ht : l[k]? = some t) (hki : k < i) (hb : ¬ Off2 t p) : ¬ Apart n l := fun h => by
  obtain ⟨h1, e1⟩ := List.getElem?_eq_some_iff.1 hp
  obtain ⟨h2, e2⟩ := List.getElem?_eq_some_iff.1 ht
  have := List.pairwise_iff_getElem.1 h.2 k i h2 h1 hki
  rw [e1, e2] at this
  exact hb this
theorem apart_succ {n i : Nat} {l : List (Int × Int)} {p : Int × Int} (hp : l[i]? = some p) (h : Apart n (l.take i)) (ho : 0 ≤ p.1 ∧ 1 ≤ p.2 ∧ p.1 + p.2 ≤ n) (hm : ∀ k t, k < i → l[k]? = some t → Off2 t p) : Apart n (l.take (i + 1)) := by
  have e : l.take (i + 1) = l.take i ++ [p] := by rw [List.take_add_one, hp]; rfl
  rw [e]
  refine ⟨fun q hq => ?_, List.pairwise_append.2 ⟨h.2, List.pairwise_singleton _ _, fun a ha b hb => ?_⟩⟩
  · rcases List.mem_append.1 hq with hq | hq
    · exact h.1 q hq
    · simp at hq; subst hq; exact ho
  · simp at hb
    subst hb
    obtain ⟨k, hk⟩ := List.getElem?_of_mem ha
    have hlt : k < i := by
      have := (List.getElem?_eq_some_iff.1 hk).1
      rw [List.length_take] at this; omega
    rw [List.getElem?_take] at hk
    rw [if_pos hlt] at hk
    exact hm k a hlt hk
theorem apart_mem {n k : Nat} {l : List (Int × Int)} {i : Nat} {t : Int × Int} (h : Apart n (l.take i)) (hk : k < i) (ht : l[k]? = some t) : 0 ≤ t.1 ∧ 1 ≤ t.2 ∧ t.1 + t.2 ≤ n :=
  h.1 t (List.mem_of_getElem? (i := k) (by rw [List.getElem?_take, if_pos hk]; exact ht))
def rccells (p : Nat) (most : Nat) (v : Value) : Array Value := #[.pointer (some ⟨p, 0, none⟩), .int .i64 most, v, .slice none 0 0, .int .u64 0, .int .u64 0, .int .u64 0, .int .u64 0]
def RcPost (w : World) (p n most : Nat) (l : List (Int × Int)) (r : Ending) (w' : World) : Prop :=
  Below w.heap.size w w' ∧ ((¬ Apart n l ∧ r = .returned (.tuple #[.pointer none, .int .i64 51])) ∨ (Apart n l ∧ ∃ q v, r = .returned (.tuple #[.pointer (some ⟨q, 0, none⟩), .int .i64 0]) ∧ w.heap.size ≤ q ∧ w'.heap[q]? = some (.cells (rccells p most v) TRc) ∧ w'.ownsRow w.heap.size TSp 2 v l.length (spcells l) ∧ v.ownBlock ≠ some q))
set_option maxHeartbeats 8000000 in
theorem rcnew_any {w : World} {p n : Nat} (hc : w.cell? ⟨p, 0, none⟩ = some (.int .i64 n)) (hn : 1 ≤ n) (hn1 : n ≤ 65536) {most : Nat} (hm0 : 1 ≤ most) (hm1 : most ≤ 1024) {v : Value} {l : List (Int × Int)} (hv : ArgS w v l) (hl : l.length ≤ 64) (hw : ∀ p ∈ l, I64 p.1 ∧ I64 p.2) :
    Calls Tryz.prog 25 #[.pointer (some ⟨p, 0, none⟩), .int .i64 most, v] w (RcPost w p n most l) := by
  obtain ⟨i0, hi, hz0, hz1, hz2⟩ := info_parts infoSp
  obtain ⟨ao, cap, rfl, hsp, _⟩ := hv.form
  have HV : Hid (ArgS w (.slice ao l.length cap) l) := hv
  have HSP : Hid (SpR w ao l) := hsp
  have HW : Hid (∀ p ∈ l, I64 p.1 ∧ I64 p.2) := hw
  have d4 : ¬ ((n : Int) = 0) := by omega
  have d4' : ¬ (n = 0) := by omega
  have e1 : ∀ (w : World) (a : Addr), (binOp .eql 72 (.pointer (some a)) (.pointer none)).run Tryz.prog w = .ok (.bool false) w := fun _ _ => rfl
  have d1 : ¬ ((most : Int) < 1) := by omega
  have d2 : ¬ ((1024 : Int) < (most : Int)) := by omega
  have d3 : ¬ ((64 : Int) < (l.length : Int)) := by omega
  obtain ⟨m, hm⟩ : ∃ m, m = l.length := ⟨_, rfl⟩
  have HM : Hid (m = l.length) := hm
  have HB0 : Hid (Below w.heap.size w w) := Below.refl _ _
  rw [← hm] at hl d3 HV ⊢
  clear hv hsp hw hm
  have b2 : decide ((m : Int) > 64) = false := decide_eq_false d3
  go_enter Tryz.func25, Tryz.ntmps25
  go_wp2
  go_loopw [8] (fun i wr => ∃ (k : Nat), k ≤ m ∧ i = .int .i64 k ∧ Hid (Apart n (l.take k)) ∧ Hid (Below w.heap.size w wr)) (fun i _ => m - (intOf i).toNat)
  case atStart => exact ⟨0, Nat.zero_le _, rfl, ⟨fun p hp => by simp at hp, by simp⟩, HB0⟩
  case round =>
    obtain ⟨i, hi', rfl, HA, HB⟩ := hrel
    by_cases hlt : i < m
    · have hkz : (i : Int) < (m : Int) := by omega
      obtain ⟨⟨p1, p2⟩, hp⟩ : ∃ p, l[i]? = some p := ⟨_, List.getElem?_eq_getElem (by have := HM.out; omega)⟩
      obtain ⟨g, off, rfl, hg, c0, c1⟩ := HSP.out i _ hp
      simp only at c0 c1
      have q0 := cell_later HB.out c0
      have q1 := cell_later HB.out c1
      have hpw := HW.out _ (List.mem_of_getElem? hp)
      simp only at hpw
      have HP : Hid (l[i]? = some (p1, p2)) := hp
      have HB2 : Hid (Below w.heap.size w (wr.alloc (.cells #[.int .i64 p1, .int .i64 p2] TSp))) := HB.out.alloc HB.out.size _
      have hpd : (wr.alloc (.cells #[.int .i64 p1, .int .i64 p2] TSp)).cell? ⟨p, 0, none⟩ = some (.int .i64 n) := cell_later HB2.out hc
      clear c0 c1 hp
      by_cases h1 : p1 < 0
      · have b1 : decide (p1 < 0) = true := decide_eq_true h1
        go_wp2
        go_quiet (fail)
        go_wp2
        refine bodyPost_ret (results_tmp2 rfl _ _ _) rfl ?_
        exact ⟨⟨HB2.out.os, HB2.out.tape, HB2.out.output, HB2.out.size, HB2.out.block⟩, .inl ⟨not_apart_bad HP.out (.inl h1), rfl⟩⟩
      have b1 : decide (p1 < 0) = false := decide_eq_false h1
      by_cases h2 : p2 < 1
      · have b2 : decide (p2 < 1) = true := decide_eq_true h2
        go_wp2
        go_quiet (fail)
        go_wp2
        refine bodyPost_ret (results_tmp2 rfl _ _ _) rfl ?_
        exact ⟨⟨HB2.out.os, HB2.out.tape, HB2.out.output, HB2.out.size, HB2.out.block⟩, .inl ⟨not_apart_bad HP.out (.inr (.inl h2)), rfl⟩⟩
      have b2 : decide (p2 < 1) = false := decide_eq_false h2
      by_cases h3 : (n : Int) < p1
      · have b3 : decide (p1 > (n : Int)) = true := decide_eq_true h3
        go_wp2
        go_quiet (fail)
        go_wp2
        refine bodyPost_ret (results_tmp2 rfl _ _ _) rfl ?_
        exact ⟨⟨HB2.out.os, HB2.out.tape, HB2.out.output, HB2.out.size, HB2.out.block⟩, .inl ⟨not_apart_bad HP.out (.inr (.inr (.inl h3))), rfl⟩⟩
      have b3 : decide (p1 > (n : Int)) = false := decide_eq_false h3
      have hwr : IntKind.i64.wrap ((n : Int) - p1) = (n : Int) - p1 := by rw [IntKind.wrap_i64]; omega
      by_cases h4 : (n : Int) - p1 < p2
      · have b4 : decide (p2 > (n : Int) - p1) = true := decide_eq_true h4
        go_wp2
        go_quiet (fail)
        go_wp2
        refine bodyPost_ret (results_tmp2 rfl _ _ _) rfl ?_
        exact ⟨⟨HB2.out.os, HB2.out.tape, HB2.out.output, HB2.out.size, HB2.out.block⟩, .inl ⟨not_apart_bad HP.out (.inr (.inr (.inr h4))), rfl⟩⟩
      have b4 : decide (p2 > (n : Int) - p1) = false := decide_eq_false h4
      have hok : 0 ≤ p1 ∧ 1 ≤ p2 ∧ p1 + p2 ≤ (n : Int) := by omega
      have hw2 : IntKind.i64.wrap (p1 + p2) = p1 + p2 := by rw [IntKind.wrap_i64]; omega
      go_wp2
      go_quiet (fail)
      obtain ⟨W1, hW1⟩ : ∃ W1, W1 = (wr.alloc (.cells #[.int .i64 p1, .int .i64 p2] TSp)).drewN nq := ⟨_, rfl⟩
      have HBW : Hid (Below w.heap.size w W1) := by show Below _ _ _; rw [hW1]; exact ⟨HB2.out.os, HB2.out.tape, HB2.out.output, HB2.out.size, HB2.out.block⟩
      have hbs : W1.heap[wr.heap.size]? = some (.cells #[.int .i64 p1, .int .i64 p2] TSp) := by rw [hW1]; exact heap_alloc_new wr _
      have s0 : W1.cell? ⟨wr.heap.size, 0, none⟩ = some (.int .i64 p1) := (K.cell_of hbs).trans rfl
      have s1 : W1.cell? ⟨wr.heap.size, 1, none⟩ = some (.int .i64 p2) := (K.cell_of hbs).trans rfl
      rw [← hW1]
      clear hW1 hbs q0 q1 hpd b1 b2 b3 b4 hwr h1 h2 h3 h4 HB2 hpw hkz HB
      generalize wr.heap.size = sb at s0 s1 ⊢
      go_wp2
      go_loopw [10] (fun j wk => ∃ (k : Nat), k ≤ i ∧ j = .int .i64 k ∧ Hid (∀ k' t, k' < k → l[k']? = some t → Off2 t (p1, p2)) ∧ Hid (Below W1.heap.size W1 wk)) (fun j _ => i - (intOf j).toNat)
      case atStart => exact ⟨0, Nat.zero_le _, rfl, fun k' t h => by omega, Below.refl _ _⟩
      case round =>
        obtain ⟨k, hk, rfl, HO, HBk⟩ := hrel
        by_cases hlk : k < i
        · have hkz : (k : Int) < (i : Int) := by omega
          obtain ⟨⟨t1, t2⟩, ht⟩ : ∃ p, l[k]? = some p := ⟨_, List.getElem?_eq_getElem (by have := HM.out; omega)⟩
          obtain ⟨g', off', e, _, c0, c1⟩ := HSP.out k _ ht
          cases e
          simp only at c0 c1
          have q0 := cell_later HBk.out (cell_later HBW.out c0)
          have q1 := cell_later HBk.out (cell_later HBW.out c1)
          have r0 := cell_later HBk.out s0
          have r1 := cell_later HBk.out s1
          have hto := apart_mem HA.out hlk ht
          simp only at hto
          have hw3 : IntKind.i64.wrap (t1 + t2) = t1 + t2 := by rw [IntKind.wrap_i64]; omega
          have HT : Hid (l[k]? = some (t1, t2)) := ht
          have HBk2 : Hid (Below W1.heap.size W1 (wr.alloc (.cells #[.int .i64 t1, .int .i64 t2] TSp))) := HBk.out.alloc HBk.out.size _
          have r0' := cell_later HBk2.out s0
          have r1' := cell_later HBk2.out s1
          clear c0 c1 ht
          by_cases g1 : p1 < t1 + t2
          · have f1 : decide (p1 < t1 + t2) = true := decide_eq_true g1
            by_cases g2 : t1 < p1 + p2
            · have f2 : decide (t1 < p1 + p2) = true := decide_eq_true g2
              go_wp2
              refine bodyPost_ret (results_tmp2 rfl _ _ _) rfl ?_
              exact ⟨HBW.out.trans (HBk2.out.mono HBW.out.size), .inl ⟨not_apart_meet HP.out HT.out hlk (by unfold Off2; simp only; omega), rfl⟩⟩
            · have f2 : decide (t1 < p1 + p2) = false := decide_eq_false g2
              go_wp2
              go_roundw
              case rel => exact ⟨k + 1, by omega, by go_num, fun k' t hk' ht' => by
                rcases Nat.lt_or_ge k' k with h | h
                · exact HO.out k' t h ht'
                · have e : k' = k := by omega
                  subst e
                  rw [HT.out] at ht'
                  cases ht'
                  unfold Off2; simp only; omega, HBk2⟩
              case measure => simp [intOf]; omega
          · have f1 : decide (p1 < t1 + t2) = false := decide_eq_false g1
            go_wp2
            go_roundw
            case rel => exact ⟨k + 1, by omega, by go_num, fun k' t hk' ht' => by
              rcases Nat.lt_or_ge k' k with h | h
              · exact HO.out k' t h ht'
              · have e : k' = k := by omega
                subst e
                rw [HT.out] at ht'
                cases ht'
                unfold Off2; simp only; omega, HBk2⟩
            case measure => simp [intOf]; omega
        · have hkz : ¬ (k : Int) < (i : Int) := by omega
          have ek : k = i := by omega
          subst ek
          have HA2 : Hid (Apart n (l.take (k + 1))) := apart_succ HP.out HA.out hok HO.out
          have HBn : Hid (Below w.heap.size w wr) := HBW.out.trans (HBk.out.mono HBW.out.size)
          go_wp2
          go_roundw
          case rel => exact ⟨k + 1, by omega, by go_num, HA2, HBn⟩
          case measure => simp [intOf]; omega
    · have hkz : ¬ (i : Int) < (m : Int) := by omega
      have ei : i = m := by omega
      subst ei
      have HAf : Hid (Apart n l) := by
        have h := HA.out
        rw [HM.out, List.take_length] at h
        exact h
      have HVr : Hid (ArgS (wr.alloc (.cells #[.pointer (some ⟨p, 0, none⟩), .int .i64 most, .slice none 0 0, .slice none 0 0, .int .u64 0, .int .u64 0, .int .u64 0, .int .u64 0] TRc)) (.slice ao l.length cap) l) := by
        have h := HV.out
        rw [HM.out] at h
        exact (h.later HB.out).later ((Below.refl _ wr).alloc (Nat.le_refl _) _)
      have HBa : Hid (Below w.heap.size w (wr.alloc (.cells #[.pointer (some ⟨p, 0, none⟩), .int .i64 most, .slice none 0 0, .slice none 0 0, .int .u64 0, .int .u64 0, .int .u64 0, .int .u64 0] TRc))) := HB.out.alloc HB.out.size _
      have hsz := HB.out.size
      have hrp : (wr.alloc (.cells #[.pointer (some ⟨p, 0, none⟩), .int .i64 most, .slice none 0 0, .slice none 0 0, .int .u64 0, .int .u64 0, .int .u64 0, .int .u64 0] TRc)).heap[wr.heap.size]? = some (.cells #[.pointer (some ⟨p, 0, none⟩), .int .i64 most, .slice none 0 0, .slice none 0 0, .int .u64 0, .int .u64 0, .int .u64 0, .int .u64 0] TRc) := heap_alloc_new wr _
      have c2 : (wr.alloc (.cells #[.pointer (some ⟨p, 0, none⟩), .int .i64 most, .slice none 0 0, .slice none 0 0, .int .u64 0, .int .u64 0, .int .u64 0, .int .u64 0] TRc)).cell? ⟨wr.heap.size, 2, none⟩ = some (.slice none 0 0) := (K.cell_of hrp).trans rfl
      rw [show (.slice ao i cap : Value) = .slice ao l.length cap by rw [HM.out]]
      have hkz : ¬ (i : Int) < (l.length : Int) := by have := HM.out; omega
      clear HV HA
      go_wp2_with (at_builtin; go_loud (refine wpList_append_sp rfl _ _ rfl w.heap.size (.slice none 0 0) 0 [] rfl (World.ownsRow_nil _ _ _ _) _ l rfl HVr.out (by omega) (by rw [World.size_alloc]; omega) ?_; intro v1 w1 h1 hg1; have HB1 : Hid (Below w.heap.size w w1) := (HBa.out.grown hg1 (by rw [World.size_alloc]; omega) (fun q e => by cases e)); have HR1 : Hid (w1.ownsRow w.heap.size TSp 2 v1 l.length (spcells l)) := (by show World.ownsRow _ _ _ _ _ _ _; simpa using h1); have hb1 : w1.heap[wr.heap.size]? = some (.cells #[.pointer (some ⟨p, 0, none⟩), .int .i64 most, .slice none 0 0, .slice none 0 0, .int .u64 0, .int .u64 0, .int .u64 0, .int .u64 0] TRc) := ((hg1.block wr.heap.size (by rw [World.size_alloc]; omega) (fun e => by cases e)).trans hrp); have z2 : w1.frozen? ⟨wr.heap.size, 2, none⟩ = false := K.frozen_of hb1; have y2 : w1.cell? ⟨wr.heap.size, 2, none⟩ = some (.slice none 0 0) := (K.cell_of hb1).trans rfl; clear h1 hg1; obtain ⟨ao1, c1, rfl, _⟩ := sp_form HR1.out))
      refine bodyPost_ret (results_tmp2 rfl _ _ _) rfl ?_
      have hlt1 : wr.heap.size < w1.heap.size := (Array.getElem?_eq_some_iff.1 hb1).1
      have hob : ∀ q, (Value.slice ao1 l.length c1).ownBlock = some q → q ≠ wr.heap.size := fun q e eq => by
        rcases HR1.out.2 with ⟨h0, _⟩ | ⟨g, cp, cur, h0, _, hg, _⟩
        · rw [h0] at e; cases e
        · rw [h0] at e
          have e' : g = q := by simpa [Value.ownBlock] using e
          rw [e', eq, hb1] at hg
          simp at hg
          first | exact absurd hg.2 (by decide) | exact absurd hg.2.1 (by decide)
      refine ⟨HB1.out.setCell hsz _, .inr ⟨HAf.out, _, _, rfl, hsz, ?_, K.ownsRow_block HR1.out (fun q e => Below.heap_setCell _ _ _ _ (hob q e)), fun e => hob _ e rfl⟩⟩
      exact K.blk_set hb1 2 _

/-- what New answers -/
def newE (n : Nat) (k : Int) (l : List (Int × Int)) : Int := if k < 1 ∨ 1024 < k then 50 else if 64 < l.length ∨ apartB n l = false then 51 else 0
theorem apartB_no {n : Nat} {l : List (Int × Int)} : apartB n l = false ↔ ¬ Apart n l := by
  rw [← apartB_iff]; simp
section
variable {w : World} {b ms ml : Nat} {qv fv : Value} {S : K.Dk}
def NewPost (w : World) (b ms ml : Nat) (qv fv : Value) (S : K.Dk) (k : Int) (l : List (Int × Int)) (r : Ending) (w' : World) : Prop :=
  ∃ cp, r = .returned (.tuple #[.pointer cp, .int .i64 (newE S.n k l)]) ∧ K.Kp w w' (K.fp b ms ml qv fv) ∧ ((cp = none ∧ newE S.n k l ≠ 0 ∧ K.RK w' 0 b ms ml qv fv S) ∨ (newE S.n k l = 0 ∧ ∃ P : Loc, cp = some ⟨P.bc, 0, none⟩ ∧ Made w w' b ms ml qv fv S k.toNat l P))
theorem new_all (h : K.RK w 0 b ms ml qv fv S) (k : Int) {ao : Option Addr} {cap : Nat} {l : List (Int × Int)} (hr : SpR w ao l) (hl : l.length ≤ 1048576) (hw : ∀ p ∈ l, I64 p.1 ∧ I64 p.2) (hao : ao = none → l = []) (hau : ∀ a, ao = some a → ∃ b off, a = ⟨b, off, none⟩) (hfar : ∀ b' off, ao = some ⟨b', off, none⟩ → b' ∉ K.fp b ms ml qv fv) :
    Calls Tryz.prog 21 #[.pointer (some ⟨b, 0, none⟩), .int .i64 k, .slice ao l.length cap] w (NewPost w b ms ml qv fv S k l) := by
  by_cases hk : k < 1 ∨ 1024 < k
  · have e : newE S.n k l = 50 := by unfold newE; rw [if_pos hk]
    refine (new_lines h hk _).mono ?_
    rintro r w' ⟨rfl, hrk, hkp⟩
    exact ⟨none, by rw [e], hkp, .inl ⟨rfl, by rw [e]; decide, hrk⟩⟩
  · obtain ⟨m, hm⟩ : ∃ m : Nat, (m : Int) = k := ⟨k.toNat, by omega⟩
    subst hm
    by_cases hs : 64 < l.length ∨ apartB S.n l = false
    · have e : newE S.n m l = 51 := by unfold newE; rw [if_neg hk, if_pos hs]
      refine (new_spans h (by omega) (by omega) hr hl hw hfar (by rw [apartB_no] at hs; exact hs)).mono ?_
      rintro r w' ⟨rfl, hrk, hkp⟩
      exact ⟨none, by rw [e], hkp, .inl ⟨rfl, by rw [e]; decide, hrk⟩⟩
    · have e : newE S.n m l = 0 := by unfold newE; rw [if_neg hk, if_neg hs]
      have ha : Apart S.n l := Classical.byContradiction fun hn => hs (.inr (apartB_no.2 hn))
      refine (new_c h (by omega) (by omega) hr (by omega) hw ha hao hau hfar).mono ?_
      rintro r w' ⟨P, rfl, hM⟩
      exact ⟨_, by rw [e], hM.kp, .inr ⟨e, P, rfl, by rw [Int.toNat_natCast]; exact hM⟩⟩
end
def RnewPost (w : World) (p n : Nat) (k : Int) (l : List (Int × Int)) (r : Ending) (w' : World) : Prop :=
  ∃ cp, r = .returned (.tuple #[.pointer cp, .int .i64 (newE n k l)]) ∧ Below w.heap.size w w' ∧ ((cp = none ∧ newE n k l ≠ 0) ∨ (newE n k l = 0 ∧ ∃ q v, cp = some ⟨q, 0, none⟩ ∧ w.heap.size ≤ q ∧ w'.heap[q]? = some (.cells (rccells p k.toNat v) TRc) ∧ w'.ownsRow w.heap.size TSp 2 v l.length (spcells l) ∧ v.ownBlock ≠ some q))
theorem rcnew_all {w : World} {p n : Nat} (hc : w.cell? ⟨p, 0, none⟩ = some (.int .i64 n)) (hn : 1 ≤ n) (hn1 : n ≤ 65536) (k : Int) {v : Value} {l : List (Int × Int)} (hv : ArgS w v l) (hw : ∀ p ∈ l, I64 p.1 ∧ I64 p.2) :
    Calls Tryz.prog 25 #[.pointer (some ⟨p, 0, none⟩), .int .i64 k, v] w (RnewPost w p n k l) := by
  by_cases hk : k < 1 ∨ 1024 < k
  · have e : newE n k l = 50 := by unfold newE; rw [if_pos hk]
    refine (rcnew_lines hc (by omega) hk _).mono ?_
    rintro r w' ⟨rfl, rfl⟩
    exact ⟨none, by rw [e], Below.refl _ _, .inl ⟨rfl, by rw [e]; decide⟩⟩
  · obtain ⟨m, hm⟩ : ∃ m : Nat, (m : Int) = k := ⟨k.toNat, by omega⟩
    subst hm
    by_cases hs : 64 < l.length
    · have e : newE n m l = 51 := by unfold newE; rw [if_neg hk, if_pos (.inl hs)]
      obtain ⟨ao, c0, rfl, _⟩ := hv.form
      refine (rcnew_many hc (by omega) (by omega) (by omega) hs).mono ?_
      rintro r w' ⟨rfl, rfl⟩
      exact ⟨none, by rw [e], Below.refl _ _, .inl ⟨rfl, by rw [e]; decide⟩⟩
    · refine (rcnew_any hc hn hn1 (by omega) (by omega) hv (by omega) hw).mono ?_
      rintro r w' ⟨hb, ⟨hna, rfl⟩ | ⟨ha, q, u, rfl, h1, h2, h3, h4⟩⟩
      · have e : newE n m l = 51 := by unfold newE; rw [if_neg hk, if_pos (.inr (apartB_no.2 hna))]
        exact ⟨none, by rw [e], hb, .inl ⟨rfl, by rw [e]; decide⟩⟩
      · have e : newE n m l = 0 := by
          unfold newE; rw [if_neg hk, if_neg]
          rintro (h | h)
          · exact hs h
          · exact apartB_no.1 h ha
        exact ⟨_, by rw [e], hb, .inr ⟨e, q, u, rfl, h1, by rw [Int.toNat_natCast]; exact h2, h3, h4⟩⟩
theorem ArgS.kp {w w' : World} {F : List Nat} {v : Value} {l : List (Int × Int)} (h : ArgS w v l) (hk : K.Kp w w' F) (hf : l ≠ [] → ∀ b off n c, v = .slice (some ⟨b, off, none⟩) n c → b ∉ F) : ArgS w' v l := by
  rcases h with h | ⟨ad, c, rfl, h⟩
  · exact .inl h
  · refine .inr ⟨ad, c, rfl, fun j p hj => ?_⟩
    obtain ⟨g, o, e, hg, c0, c1⟩ := h j p hj
    cases e
    have hb := hk.block g hg (hf (by rintro rfl; simp at hj) g o _ c rfl)
    refine ⟨g, o, rfl, Nat.lt_of_lt_of_le hg hk.size, ?_, ?_⟩
    · unfold World.cell? at c0 ⊢; rw [hb]; exact c0
    · unfold World.cell? at c1 ⊢; rw [hb]; exact c1
theorem SpR.kp {w w' : World} {F : List Nat} {g off : Nat} {l : List (Int × Int)} (h : SpR w (some ⟨g, off, none⟩) l) (hk : K.Kp w w' F) (hf : g ∉ F) : SpR w' (some ⟨g, off, none⟩) l := fun j p hj => by
  obtain ⟨g', o, e, hg, c0, c1⟩ := h j p hj
  cases e
  have hb := hk.block g hg hf
  refine ⟨g, off, rfl, Nat.lt_of_lt_of_le hg hk.size, ?_, ?_⟩
  · unfold World.cell? at c0 ⊢; rw [hb]; exact c0
  · unfold World.cell? at c1 ⊢; rw [hb]; exact c1
theorem SpR.left {w : World} {ao : Option Addr} {l k : List (Int × Int)} (h : SpR w ao (l ++ k)) : SpR w ao l := fun j p hj => h j p (by rw [List.getElem?_append_left (List.getElem?_eq_some_iff.1 hj).1]; exact hj)
abbrev TSe : TypeId := 24
end Go.Proofs.YtbamjfnjenmdaaaGreat.C
namespace Go.Proofs.YtbamjfnjenmdaaaGreat.C
open Go.ChangeShapes Go.WideShapes Go.ChangeAt Go.RowKit Go.Deep
set_option linter.unusedVariables false
set_option maxRecDepth 100000
theorem laidOut : laidOutB Tryz.prog = true := by kernel_rfl
theorem cellsInt : Tryz.prog.cellsOf 3 = 1 := by kernel_rfl
theorem cellsU8 : Tryz.prog.cellsOf 5 = 1 := by kernel_rfl
theorem cellsOp : Tryz.prog.cellsOf 42 = 11 := by kernel_rfl
theorem elevenV {cs : List Value} (h : cs.length = 11) : ∃ a b c d e f g i j k l, cs = [a, b, c, d, e, f, g, i, j, k, l] := by
  match cs, h with
  | [a, b, c, d, e, f, g, i, j, k, l], _ => exact ⟨a, b, c, d, e, f, g, i, j, k, l, rfl⟩
theorem own : ownKnob Tryz.prog.godebug = none := by kernel_rfl
theorem cellsSpan : Tryz.prog.cellsOf 66 = 2 := by kernel_rfl
theorem cellsSpans : Tryz.prog.cellsOf 22 = 1 := by kernel_rfl
theorem cellsSetup : Tryz.prog.cellsOf 24 = 3 := by kernel_rfl
theorem twoV {cs : List Value} (h : cs.length = 2) : ∃ a b, cs = [a, b] := by
  match cs, h with
  | [a, b], _ => exact ⟨a, b, rfl⟩
theorem threeV {cs : List Value} (h : cs.length = 3) : ∃ a b c, cs = [a, b, c] := by
  match cs, h with
  | [a, b, c], _ => exact ⟨a, b, c, rfl⟩
theorem threeD {H : Type} {cs : List (DataW H × List MemPlace)} (h : cs.length = 3) : ∃ a b c, cs = [a, b, c] := by
  match cs, h with
  | [a, b, c], _ => exact ⟨a, b, c, rfl⟩
theorem twoD {H : Type} {cs : List (DataW H × List MemPlace)} (h : cs.length = 2) : ∃ a b, cs = [a, b] := by
  match cs, h with
  | [a, b], _ => exact ⟨a, b, rfl⟩
theorem open_span {H : Type} {enc : TypeId × Value → H} {W : World} {base fuel : Nat} {cs : List Value} {d : DataW H} {p : List MemPlace} (hf : DataW.trod enc Tryz.prog W base (fun _ => true) true fuel 66 cs = some (d, p)) :
    ∃ q : Int × Int, cs = [.int .i64 q.1, .int .i64 q.2] ∧ I64 q.1 ∧ I64 q.2 := by
  obtain ⟨xs, m, _, hx, hl, hxl, hall⟩ := DataW.trod_struct Tryz.underlying66 hf
  obtain ⟨a, b, rfl⟩ := twoV (hl.trans cellsSpan)
  obtain ⟨y0, y1, rfl⟩ := twoD (show xs.length = 2 from hxl)
  have h0 : DataW.trod enc Tryz.prog W base (fun _ => true) true m 3 (([a, b].drop 0).take (Tryz.prog.cellsOf 3)) = some y0 := hall 0 _ rfl
  have h1 : DataW.trod enc Tryz.prog W base (fun _ => true) true m 3 (([a, b].drop 1).take (Tryz.prog.cellsOf 3)) = some y1 := hall 1 _ rfl
  rw [cellsInt] at h0 h1
  obtain ⟨z0, e0, _, w0⟩ := DataW.trod_int Tryz.underlying3 h0
  obtain ⟨z1, e1, _, w1⟩ := DataW.trod_int Tryz.underlying3 h1
  simp at e0 e1
  subst e0; subst e1
  exact ⟨(z0, z1), rfl, bounds_i64 w0, bounds_i64 w1⟩
/-- a list of spans that was read -/
theorem open_spans {H : Type} {enc : TypeId × Value → H} {W : World} {base fuel : Nat} {v : Value} {d : DataW H} {p : List MemPlace} (hf : DataW.trod enc Tryz.prog W base (fun _ => true) true fuel 22 [v] = some (d, p)) :
    ∃ l : List (Int × Int), ArgS W v l ∧ (∀ p ∈ l, I64 p.1 ∧ I64 p.2) ∧ l.length + 1 ≤ Rows.uptoBulk d := by
  rcases open_slice Tryz.underlying22 hf with ⟨hcs, hx⟩ | ⟨x, len, cap, m, n, D, Pl, hcs, _, hl, hm, hmm, hx, hel⟩
  · simp at hcs
    subst hcs
    have hd : d = .nil := (Prod.mk.inj hx).1
    exact ⟨[], .inl ⟨rfl, rfl⟩, fun p hp => by simp at hp, by rw [hd]; simp [Rows.uptoBulk]⟩
  · simp at hcs
    subst hcs
    have hd : d = .slice ((List.range len).map D) ((List.range (m - len)).map fun j => D (len + j)) := (Prod.mk.inj hx).1
    have hsl := bulk_slice (H := H) ((List.range len).map D) ((List.range (m - len)).map fun j => D (len + j))
    have hs1 := length_le_bulk (H := H) ((List.range len).map D)
    rw [← hd] at hsl
    simp only [List.length_map, List.length_range] at hs1
    have hmc : m = cap := by simpa using hmm
    have hel' : ∀ i, ∃ q : Int × Int, i < len → (I64 q.1 ∧ I64 q.2) ∧ ∀ j, j < 2 → W.cell? ((x.add (i * 2)).add j) = [Value.int .i64 q.1, .int .i64 q.2][j]? := by
      intro i
      by_cases hi : i < len
      · obtain ⟨cs', hc1, hc2⟩ := hel i (by omega)
        rw [cellsSpan] at hc1
        obtain ⟨q, rfl, hq⟩ := open_span hc2
        exact ⟨q, fun _ => ⟨hq, (World.cells?_some hc1).2.2⟩⟩
      · exact ⟨(0, 0), fun h => absurd h hi⟩
    obtain ⟨T, hT⟩ := Classical.axiomOfChoice hel'
    by_cases hz : len = 0
    · subst hz
      exact ⟨[], .inr ⟨x, cap, rfl, fun k p hk => by simp at hk⟩, fun p hp => by simp at hp, by simp; omega⟩
    · obtain ⟨pb, po, rfl⟩ : ∃ pb po, x = ⟨pb, po, none⟩ := by
        have h0 := (hT 0 (by omega)).2 0 (by decide)
        have h1 := World.cell?_spot (show W.cell? ((x.add (0 * 2)).add 0) = some (.int .i64 (T 0).1) from h0)
        obtain ⟨b, off, spot⟩ := x
        have : spot = none := by simpa [Addr.add] using h1
        exact ⟨b, off, by rw [this]⟩
      refine ⟨(List.range len).map T, .inr ⟨⟨pb, po, none⟩, cap, by simp, fun k q hk => ?_⟩, fun q hq => ?_, by simp; omega⟩
      · have hk2 : k < len := by
          have := (List.getElem?_eq_some_iff.1 hk).1
          simpa using this
        have hq : T k = q := by simpa [hk2] using hk
        have g0 := (hT k hk2).2 0 (by decide)
        have g1 := (hT k hk2).2 1 (by decide)
        rw [add_plain, add_plain] at g0 g1
        rw [hq] at g0 g1
        have hlt : pb < W.heap.size := by
          have g0' : W.cell? ⟨pb, po + k * 2 + 0, none⟩ = some (.int .i64 q.1) := g0
          unfold World.cell? at g0'
          rcases Nat.lt_or_ge pb W.heap.size with hh | hh
          · exact hh
          · simp only at g0'
            rw [Array.getElem?_eq_none hh] at g0'
            simp at g0'
        exact ⟨pb, po, rfl, hlt, g0, g1⟩
      · simp only [List.mem_map, List.mem_range] at hq
        obtain ⟨k, hk, rfl⟩ := hq
        exact (hT k hk).1
/-- a setup that was read -/
theorem open_setup {H : Type} {enc : TypeId × Value → H} {W : World} {base fuel : Nat} {cs : List Value} {d : DataW H} {p : List MemPlace} (hf : DataW.trod enc Tryz.prog W base (fun _ => true) true fuel 24 cs = some (d, p)) :
    ∃ (n k : Int) (v : Value) (l : List (Int × Int)), cs = [.int .i64 n, .int .i64 k, v] ∧ ArgS W v l ∧ (∀ p ∈ l, I64 p.1 ∧ I64 p.2) ∧ l.length ≤ Rows.uptoBulk d := by
  obtain ⟨xs, m, _, hx, hl, hxl, hall⟩ := DataW.trod_struct Tryz.underlying24 hf
  obtain ⟨a, b, c, rfl⟩ := threeV (hl.trans cellsSetup)
  obtain ⟨y0, y1, y2, rfl⟩ := threeD (show xs.length = 3 from hxl)
  have h0 : DataW.trod enc Tryz.prog W base (fun _ => true) true m 3 (([a, b, c].drop 0).take (Tryz.prog.cellsOf 3)) = some y0 := hall 0 _ rfl
  have h1 : DataW.trod enc Tryz.prog W base (fun _ => true) true m 3 (([a, b, c].drop 1).take (Tryz.prog.cellsOf 3)) = some y1 := hall 1 _ rfl
  have h2 : DataW.trod enc Tryz.prog W base (fun _ => true) true m 22 (([a, b, c].drop 2).take (Tryz.prog.cellsOf 22)) = some y2 := hall 2 _ rfl
  rw [cellsInt] at h0 h1
  rw [cellsSpans] at h2
  obtain ⟨z0, e0, _, w0⟩ := DataW.trod_int Tryz.underlying3 h0
  obtain ⟨z1, e1, _, w1⟩ := DataW.trod_int Tryz.underlying3 h1
  simp at e0 e1
  subst e0; subst e1
  obtain ⟨d2, p2⟩ := y2
  obtain ⟨l, g1, g2, g3⟩ := open_spans (v := c) (by simpa using h2)
  refine ⟨z0, z1, c, l, rfl, g1, g2, ?_⟩
  have hd := (Prod.mk.inj hx).1
  simp at hd
  rw [hd]
  simp [Rows.uptoBulk, Rows.uptoBulkAll]
  omega
end Go.Proofs.YtbamjfnjenmdaaaGreat.C
