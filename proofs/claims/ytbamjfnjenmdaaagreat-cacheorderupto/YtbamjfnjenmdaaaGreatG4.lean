import Derived.Test.YtbamjfnjenmdaaaGreatG3
import Derived.Deep.RegionHeld3
import Derived.Deep.RegionLaw
import Derived.Deep.AppendLies
import Derived.Deep.DrawnRows
import Derived.WalkKit
import Derived.WalkSpells
import Derived.WalkLawsBesides
import Derived.Laws.AppendOwnNone
import Derived.Test.YtbamjfnjenmdaaaGreatG1
namespace Go.Proofs.YtbamjfnjenmdaaaGreat.K
open Go.RowKit Go.Maps Go.Proofs.YtbamjfnjenmdaaaGreat Go.MuLone
attribute [local go_sem] Oper.semAt_some
set_option linter.unusedVariables false
set_option linter.unusedSimpArgs false
set_option maxRecDepth 100000

theorem cell_lt {w : World} {b j : Nat} {v : Value} (h : w.cell? ⟨b, j, none⟩ = some v) : b < w.heap.size := by
  unfold World.cell? at h
  cases hg : w.heap[b]? with
  | none => simp [hg] at h
  | some o => exact (Array.getElem?_eq_some_iff.1 hg).1
/-- the two makings, as one word each -/
def putOf (ps : Array (Nat × Value)) : Sem Value := Instr.build TPu ps
theorem putOf_eq (ps : Array (Nat × Value)) : Instr.build 122 ps = putOf ps := rfl
def rowOf (ps : Array (Nat × Value)) : Sem Value := Instr.buildSlice TPus 1 ps
theorem rowOf_eq (ps : Array (Nat × Value)) : Instr.buildSlice 108 1 ps = rowOf ps := rfl
theorem run_putOf (w : World) (s : Int) {l : Bl} (hl : OkB l) : (putOf #[(0, .int .i64 s), (1, .agg (Lc l))]).run Tryz.prog w = .ok (.agg (Pc s l)) w := run_put w s hl
theorem run_rowOf (w : World) (s : Int) {l : Bl} (hl : OkB l) : (rowOf #[(0, .agg (Pc s l))]).run Tryz.prog w = .ok (.slice (some ⟨w.heap.size, 0, none⟩) 1 1) (w.alloc (.cells (Pc s l) TPu)) := run_one w s hl
attribute [local go_sem ↓] putOf_eq rowOf_eq
def inc (x : Int) : Int := IntKind.u64.wrap (x + 1)
def wrote (S : Dk) (s : Nat) (l : Bl) : Dk := { S with q := S.q ++ [(s, l)], st := { S.st with writes := inc S.st.writes } }

set_option maxHeartbeats 4000000 in
theorem write_none {w : World} {b ms ml : Nat} {qv fv : Value} {S : Dk} (h : RK w 0 b ms ml qv fv S) (hf : S.fs = []) {s : Nat} (hs : s < S.n) {l : Bl} (hl : OkB l) (hql : S.q.length < 1048576) {sb so cap : Nat} (hsrc : ∀ j v, (l.map bv)[j]? = some v → w.cell? ⟨sb, so + j, none⟩ = some v) (hsb : sb ∉ fp b ms ml qv fv) :
    Calls Tryz.prog 64 #[.pointer (some ⟨b, 0, none⟩), .int .i64 s, .slice (some ⟨sb, so, none⟩) 512 cap] w fun r w' => r = .returned (.int .i64 0) ∧ ∃ qv', DAct w w' 0 b ms ml ms ml qv fv qv' fv (wrote S s l) := by
  obtain ⟨i0, hi0, hz0, hz1, hz2⟩ := info_parts infoPu
  have hus := usable_any h
  have c0 : w.cell? ⟨b, 0, none⟩ = some (.int .i32 0) := h.c 0
  have z0 := h.fz 0
  have h1 := h.setLk 1
  obtain ⟨w1, hw1⟩ : ∃ w1, w1 = w.setCell ⟨b, 0, none⟩ (.int .i32 1) := ⟨_, rfl⟩
  rw [← hw1] at h1
  have a1 : DAct w w1 1 b ms ml ms ml qv fv qv fv S := ⟨h1, by rw [hw1]; exact (Kp.refl w _).set (.inl (by simp [fp])) _ _, fun i hi => .inl hi⟩
  have hha := has_any h1 s
  rw [decide_eq_true (show 0 ≤ (s : Int) ∧ (s : Int) < S.n by omega)] at hha
  have hfa := fail_none h1 hf 2 s
  have HA1 : Hid (DAct w w1 1 b ms ml ms ml qv fv qv fv S) := a1
  have HS : Hid (s < S.n) := hs
  have HL : Hid (OkB l) := hl
  have HSR : Hid (∀ X, Kp w X (fp b ms ml qv fv) → ∀ j v, (l.map bv)[j]? = some v → X.cell? ((⟨sb, so, none⟩ : Addr).add j) = some v) := fun X hX j v hv => by
    have h2 := hsrc j v hv
    rw [add_plain]
    have hlt : sb < w.heap.size := cell_lt h2
    exact (World.cell?_of_block (a := ⟨sb, so + j, none⟩) (hX.block sb hlt hsb)).trans h2
  have HU : Hid (∀ (X : World), RK X 1 b ms ml qv fv S → Kp w X (fp b ms ml qv fv) → ∃ X4 D, (Instr.mapUpdate TMl (.map (some ml)) (.int .i64 s) (.int .i64 S.q.length)).run Tryz.prog X.drew = .ok () X4 ∧ X.ownsMap Tryz.prog TIn (plainElem Tryz.prog TIn) ml (Maps.size D) D ∧ LastOk S.n S.q D ∧ Kp X X4 [ml] ∧ (∃ c, X4.ownsMap Tryz.prog TIn (plainElem Tryz.prog TIn) ml c (D.put (kl s) (.lit (.int .i64 S.q.length)))) ∧ X4.cell? ⟨b, 4, none⟩ = some qv ∧ X4.cell? ⟨b, 5, none⟩ = some (.map (some ml))) := fun X hX hK => by
    obtain ⟨D, hm, hlo⟩ := hX.lm
    have hn := size_le hm hlo.rng
    have hn1 := hX.n1
    obtain ⟨X4, hrun, hm4, hg4⟩ := hm.drew.update keyed Tryz.underlying109 (by unfold maxLen; omega) (keyOf_int_mk Tryz.underlying3 (wfI s (by omega))) (plainElem_int Tryz.underlying3 (a := (S.q.length : Int)) (by
      have e1 : IntKind.i64.min = -9223372036854775808 := rfl
      have e2 : IntKind.i64.max = 9223372036854775807 := rfl
      simp [Lit.wf]
      omega))
    have hk4 : Kp X X4 [ml] := ⟨hg4.os, hg4.tape, hg4.output, hg4.size, fun i hi hne => hg4.block i hi (fun e => hne (by simpa using e))⟩
    obtain ⟨_, a2, _⟩ := hX.apart
    have hbb : X4.heap[b]? = X.heap[b]? := hk4.block b (hX.lt b (by simp [fp])) (by simpa using a2)
    exact ⟨X4, D, hrun, hm, hlo, hk4, ⟨_, hm4⟩, (World.cell?_of_block (a := ⟨b, 4, none⟩) hbb).trans (hX.c 4), (World.cell?_of_block (a := ⟨b, 5, none⟩) hbb).trans (hX.c 5)⟩
  obtain ⟨ao, qc, rfl⟩ : ∃ ao qc, qv = .slice ao S.q.length qc := by
    rcases h.qr.2 with ⟨rfl, h0⟩ | ⟨g, cap, cur, rfl, _⟩
    · exact ⟨_, _, by rw [h0]⟩
    · exact ⟨_, _, rfl⟩
  obtain ⟨m, hm⟩ : ∃ m, m = S.q.length := ⟨_, rfl⟩
  rw [← hm] at HA1 HSR HU hql
  have HM : Hid (m = S.q.length) := hm
  clear h h1 a1 hsrc hsb hs hl hf hm
  go_enter_defers Tryz.func64, Tryz.ntmps64
  go_wp2_with (first | (go_at_call 44; refine hus.mono ?_; rintro e w9 ⟨rfl, hw9⟩; rw [hw9]; clear hw9 hus) | (go_at_call 45; refine (lock_free Tryz.muLib ⟨b, 0, none⟩ _ c0 z0).mono ?_; rintro e w9 ⟨rfl, hw9⟩; rw [hw9, ← hw1]; clear hw9 hw1 c0 z0) | (go_at_call 57; refine hha.mono ?_; rintro e w9 ⟨rfl, hw9⟩; rw [hw9]; clear hw9 hha) | (go_at_call 58; refine hfa.mono ?_; rintro e w2 ⟨rfl, hb2⟩; have HA2 := HA1.out.later hb2; clear hb2 hfa))
  obtain ⟨w3, hw3⟩ : ∃ w3, w3 = w2.alloc (.cells #[.int .i64 0, .int .i64 0, .int .i64 0, .int .i64 0, .bool false] TFa) := ⟨_, rfl⟩
  rw [← hw3]
  have a3 : DAct w w3 1 b ms ml ms ml (.slice ao m qc) fv (.slice ao m qc) fv S := HA2.later (by rw [hw3]; exact (Below.refl _ w2).alloc (Nat.le_refl _) _)
  have HA3 : Hid (DAct w w3 1 b ms ml ms ml (.slice ao m qc) fv (.slice ao m qc) fv S) := a3
  obtain ⟨w4, D, hup, hmD, hlo, hk4, hm4, c44, c45⟩ := HU.out w3 a3.rk a3.kp
  have c34 : w3.cell? ⟨b, 4, none⟩ = some (.slice ao m qc) := a3.rk.c 4
  have c35 : w3.cell? ⟨b, 5, none⟩ = some (.map (some ml)) := a3.rk.c 5
  have k4w : Kp w w4 (fp b ms ml (.slice ao m qc) fv) := a3.kp.trans hk4 (fun i hi => .inl (by simp at hi; simp [fp, hi]))
  have HBl : Hid (Calls Tryz.prog 94 #[.slice (some ⟨sb, so, none⟩) 512 cap] w4.drew fun r w' => r = .returned (.agg (Lc l)) ∧ Below w4.heap.size w4 w') := by
    refine (block_any HL.out (Nat.le_refl _) (HSR.out w4.drew ⟨k4w.os, k4w.tape, k4w.output, k4w.size, k4w.block⟩)).mono ?_
    rintro r w' ⟨rfl, hb⟩
    exact ⟨rfl, hb.os, hb.tape, hb.output, hb.size, hb.block⟩
  have HMD : Hid (w3.ownsMap Tryz.prog TIn (plainElem Tryz.prog TIn) ml (Maps.size D) D ∧ LastOk S.n S.q D ∧ Kp w3 w4 [ml] ∧ (∃ c, w4.ownsMap Tryz.prog TIn (plainElem Tryz.prog TIn) ml c (D.put (kl s) (.lit (.int .i64 S.q.length))))) := by
    refine ⟨hmD, hlo, hk4, ?_⟩
    rw [← HM.out]; exact hm4
  have hput := fun W => run_putOf W (s : Int) HL.out
  have hone := fun W => run_rowOf W (s : Int) HL.out
  have hml : m ≤ 1048576 := by omega
  have HQR : Hid (∀ w5, Below w4.heap.size w4 w5 → w5.ownsRow 0 TPu 513 (.slice ao m qc) m (pcells S.q)) := fun w5 h5 => by
    have h1 := a3.rk.qr
    rw [← HM.out] at h1
    have hap := a3.rk.apart
    refine ownsRow_block (ownsRow_block h1 (fun g hg => hk4.block g (a3.rk.lt g (by simp [fp, hg])) (by simp; exact fun e => hap.2.2.2.2.2.1 (by rw [hg, e])))) (fun g hg => h5.block g (Nat.lt_of_lt_of_le (a3.rk.lt g (by simp [fp, hg])) hk4.size))
  clear a3 hw3 HA2 k4w hmD hlo hk4 hm4
  go_region_held3 (fun w' => w'.cell? ⟨b, 4, none⟩ = some (.slice ao m qc) ∧ w'.cell? ⟨b, 5, none⟩ = some (.map (some ml))) (first | go_keep | exact ⟨c44, c45⟩) (fail)
  go_wp2
  refine Code.wp_mono (Q := NoPanic _) NoPanic.imp ?_
  go_region_law
    (first
      | (go_simp; go_at_call 94; refine HBl.out.mono ?_; rintro r w5 ⟨rfl, hb5⟩; have cq5 := cell_later hb5 c44; have cq5a : (w5.alloc (.cells (Pc s l) TPu)).cell? ⟨b, 4, none⟩ = some (.slice ao m qc) := cell_later ((Below.refl _ w5).alloc (Nat.le_refl _) _) cq5; dsimp only)
      | (refine step_append_lies _ (by rfl) _ _ TPus (by rfl) 0 TPu i0 _ 513 520 Tryz.underlying108 hi0 hz0 hz1 hz2 (by show Zp.size = 513; exact Zp_size) (by decide) (.slice ao m qc) m (pcells S.q) (by rfl) ((HQR.out w5 hb5).alloc _) ⟨w5.heap.size, 0, none⟩ 1 1 (pcell (s, l)) (by rfl) (by rw [pcell_len HL.out]) (by rw [← Pc_list]; exact World.news_of_block (heap_alloc_new w5 _)) (fun u hu => pcells_one [(s, l)] u (by simpa [pcells] using hu)) (by decide) (by unfold maxLen; omega) (by omega) (Nat.zero_le _) (w5.heap.size + 1) (by rw [World.size_alloc]) ?_; intro g' cap' w6 hown' hgrow hat hlt; have hfin := HA3.out.rk.queued HS.out HL.out HMD.out.1 HMD.out.2.1 HMD.out.2.2.1 HMD.out.2.2.2 hb5 hgrow (by rw [← HM.out]; exact hown') (hat.imp id (fun e => by omega)); have cq6 := hfin.1; have fq6 := hfin.2.1; have HA6 := HA3.out.trans hfin.2.2; have c8 : (w6.setCell ⟨b, 4, none⟩ (.slice (some ⟨g', 0, none⟩) (m + 1) cap')).cell? ⟨b, 8, none⟩ = some (.int .u64 S.st.writes) := (by rw [← HM.out] at HA6; exact HA6.rk.c 8); have f8 : (w6.setCell ⟨b, 4, none⟩ (.slice (some ⟨g', 0, none⟩) (m + 1) cap')).frozen? ⟨b, 8, none⟩ = false := (by rw [← HM.out] at HA6; exact HA6.rk.fz 8); have HA7 : Hid (∀ X, DAct w ((w6.setCell ⟨b, 4, none⟩ (.slice (some ⟨g', 0, none⟩) (m + 1) cap')).setCell ⟨b, 8, none⟩ (.int .u64 X)) 1 b ms ml ms ml (.slice ao m qc) fv (.slice (some ⟨g', 0, none⟩) (m + 1) cap') fv { S with q := S.q ++ [(s, l)], st := { S.st with writes := X } }) := (fun X => by rw [← HM.out] at HA6; exact HA6.put 8 (.int .u64 X) 1 { S.st with writes := X } rfl); clear hfin hown' hgrow hat hlt HA6))
  all_goals simp only [NoPanic]
  all_goals go_wp2
  all_goals refine leaves_cons (f := 46) (args := #[.pointer (some ⟨b, 0, none⟩)]) (by simp) (by simp [go_sem]) ?_
  all_goals refine (unlock_deferred Tryz.muLib ⟨b, 0, none⟩ .returning _ ((HA7.out _).rk.c 0) ((HA7.out _).rk.fz 0)).mono ?_
  all_goals rintro e u' w'' ⟨rfl, rfl, rfl⟩
  all_goals exact ⟨_, results_tmp rfl _ _ _, rfl, .slice (some ⟨g', 0, none⟩) (m + 1) cap', by rw [← HM.out]; exact (HA7.out (inc S.st.writes)).put 0 (.int .i32 0) 0 _ rfl⟩
end Go.Proofs.YtbamjfnjenmdaaaGreat.K

namespace Go.Proofs.YtbamjfnjenmdaaaGreat
open Go.RowKit
set_option linter.unusedVariables false
set_option maxRecDepth 100000

theorem owns_mono {w : World} {b b' : Nat} {e : TypeId} {size : Nat} {v : Value} {n : Nat} {xs : List Value} (h : w.ownsRow b e size v n xs) (hb : b' ≤ b) : w.ownsRow b' e size v n xs := by
  refine ⟨h.1, ?_⟩
  rcases h.2 with h2 | ⟨g, cap, cur, hv, hg, r⟩
  · exact .inl h2
  · exact .inr ⟨g, cap, cur, hv, Nat.le_trans hb hg, r⟩
/-- the block of a slice is the old one or a new one -/
def Fresh (w : World) (v v' : Value) : Prop := v'.ownBlock = v.ownBlock ∨ ∃ g, v'.ownBlock = some g ∧ w.heap.size ≤ g
theorem fresh_of_owns {w w' : World} {v' : Value} {e : TypeId} {n : Nat} {xs : List Value} (h : w'.ownsRow w.heap.size e 1 v' n xs) : v'.ownBlock = none ∨ ∃ g, v'.ownBlock = some g ∧ w.heap.size ≤ g := by
  rcases h.2 with ⟨hv, _⟩ | ⟨g, cap, cur, hv, hg, _⟩
  · subst hv; exact .inl rfl
  · subst hv; exact .inr ⟨g, rfl, hg⟩

/-- append to a row of one's own (nil, with room or without), from whatever slice (nil too): the block is the old one or a new one -/
theorem wpList_append_two {P : Program} (w : World) {ops : Array Oper} {rest : List Oper} {o : Oper} {a : Act} {Q : Exit → Act → World → Prop} (hgd : o.guard = none) (s x : Operand) (t : TypeId)
    (ho : o.op = .call { callee := .builtin .append, args := #[s, x], argTypes := #[t, t] })
    (base : Nat) (e : TypeId) (i : TypeInfo) (z : Value) (bytes : Nat) (ht : P.underlying t = some (.slice e)) (hi : P.info? e = some i) (hz : i.zero = some z)
    (hsize : i.size = 1) (hby : i.bytes = bytes) (hzs : z.cells.size = 1)
    (v : Value) (n : Nat) (xs : List Value) (hs : a.eval s = v) (hown : w.ownsRow base e 1 v n xs)
    (ao : Option Addr) (m c : Nat) (news : List Value) (hx : a.eval x = .slice ao m c) (hnone : ao = none → m = 0 ∧ c = 0) (hl : news.length = m)
    (hnews : ∀ ad, ao = some ad → ∀ j u, news[j]? = some u → w.cell? (ad.add j) = some u) (h1 : ∀ u ∈ news, u.oneCell' = true)
    (h63 : n + m ≤ maxLen) (hbytes : (n + m) * bytes ≤ 140737488355328) (hbase : base ≤ w.heap.size)
    (h : ∀ v' w', w'.ownsRow base e 1 v' (n + m) (xs ++ news) → w.grownBy w' v.ownBlock → Fresh w v v' → wpList P ops Q rest (a.put o.dst v') w') : wpList P ops Q (o :: rest) a w := by
  cases ao with
  | none =>
    obtain ⟨rfl, rfl⟩ := hnone rfl
    have hnil : news = [] := List.eq_nil_of_length_eq_zero hl
    subst hnil
    refine wpList_append_own_none hgd s x t ho base e i 1 ht hi v n xs hs hown hx ?_
    exact h v w (by simpa using hown) (World.grownBy.refl w _) (.inl rfl)
  | some ad =>
    have hl' : news.length = m * 1 := by omega
    rcases hown.2 with ⟨hv, hn⟩ | ⟨g, cap, cur, hv, hg, hcur, hnc, hcm, hsz, htk⟩
    · subst hv; subst hn
      have hxs : xs = [] := List.eq_nil_of_length_eq_zero (by simpa using hown.1)
      subst hxs
      refine wpList_append_own w hgd s x t ho w.heap.size e i z 1 bytes ht hi hz hsize hby hzs (by decide) _ 0 [] hs (World.ownsRow_nil _ _ _ _) ad m c news hx hl' (hnews ad rfl) h1 h63 hbytes (Nat.le_refl _) ?_
      intro v' w' ho' hg' _
      refine h v' w' (owns_mono ho' hbase) hg' ?_
      rcases fresh_of_owns ho' with hf | hf
      · exact .inl hf
      · exact .inr hf
    · subst hv
      by_cases hroom : n + m ≤ cap
      · refine wpList_append_fits w hgd s x t ho base e i 1 ht hi hsize g n cap xs hs hown ad m c news hx hl' (hnews ad rfl) h1 hroom ?_
        intro w' ho' hg'
        exact h _ w' ho' hg' (.inl rfl)
      · refine wpList_append_grows w hgd s x t ho e i z 1 bytes ht hi hz hsize hby hzs (by decide) (some ⟨g, 0, none⟩) n cap xs hs (fun h => by simp at h) (by simpa using hown.1) ?_ ad m c news hx hl' (hnews ad rfl) h1 (by omega) h63 hbytes ?_
        · intro b hb j u hu
          cases hb
          have hj : j < n * 1 := by
            have := (List.getElem?_eq_some_iff.1 hu).1
            rw [hown.1] at this; exact this
          rw [WideShapes.add_plain, Nat.zero_add, hown.cellAt j hj]; exact hu
        · intro v' w' ho' hg'
          refine h v' w' (owns_mono ho' hbase) ?_ ?_
          · exact ⟨hg'.os, hg'.tape, hg'.output, hg'.size, fun k hk _ => hg'.block k hk (by simp)⟩
          · rcases fresh_of_owns ho' with hf | hf
            · exfalso
              rcases ho'.2 with ⟨hv', hn'⟩ | ⟨g', cap', cur', hv', _⟩
              · omega
              · subst hv'; simp [Value.ownBlock] at hf
            · exact .inr hf

/-- append where there is room, from whatever slice (nil too) -/
theorem wpList_append_room {P : Program} (w : World) {ops : Array Oper} {rest : List Oper} {o : Oper} {a : Act} {Q : Exit → Act → World → Prop} (hgd : o.guard = none) (s x : Operand) (t : TypeId)
    (ho : o.op = .call { callee := .builtin .append, args := #[s, x], argTypes := #[t, t] })
    (base : Nat) (e : TypeId) (i : TypeInfo) (ht : P.underlying t = some (.slice e)) (hi : P.info? e = some i) (hsize : i.size = 1)
    (g n cap : Nat) (xs : List Value) (hs : a.eval s = .slice (some ⟨g, 0, none⟩) n cap) (hown : w.ownsRow base e 1 (.slice (some ⟨g, 0, none⟩) n cap) n xs)
    (ao : Option Addr) (m c : Nat) (news : List Value) (hx : a.eval x = .slice ao m c) (hnone : ao = none → m = 0 ∧ c = 0) (hl : news.length = m)
    (hnews : ∀ ad, ao = some ad → ∀ j u, news[j]? = some u → w.cell? (ad.add j) = some u) (h1 : ∀ u ∈ news, u.oneCell' = true) (hroom : n + m ≤ cap)
    (h : ∀ w', w'.ownsRow base e 1 (.slice (some ⟨g, 0, none⟩) (n + m) cap) (n + m) (xs ++ news) → w.grownBy w' (some g) → wpList P ops Q rest (a.put o.dst (.slice (some ⟨g, 0, none⟩) (n + m) cap)) w') : wpList P ops Q (o :: rest) a w := by
  cases ao with
  | none =>
    obtain ⟨rfl, rfl⟩ := hnone rfl
    have hnil : news = [] := List.eq_nil_of_length_eq_zero hl
    subst hnil
    refine wpList_append_own_none hgd s x t ho base e i 1 ht hi _ n xs hs hown hx ?_
    exact h w (by simpa using hown) (World.grownBy.refl w _)
  | some ad =>
    exact wpList_append_fits w hgd s x t ho base e i 1 ht hi hsize g n cap xs hs hown ad m c news hx (by omega) (hnews ad rfl) h1 hroom h
end Go.Proofs.YtbamjfnjenmdaaaGreat

namespace Go.Proofs.YtbamjfnjenmdaaaGreat
open Go.RowKit
set_option linter.unusedVariables false
set_option maxRecDepth 100000
theorem BRow.news {w : World} {ao : Option Addr} {cap : Nat} {l : List Nat} (h : BRow w ao cap l) : ∀ ad, ao = some ad → ∀ j u, (l.map bv)[j]? = some u → w.cell? (ad.add j) = some u := by
  intro ad e j u hu
  subst e
  rw [List.getElem?_map] at hu
  by_cases hj : j < l.length
  · rw [List.getElem?_eq_getElem hj] at hu
    obtain ⟨b, off, e, hc⟩ := h.at_ (by rintro rfl; simp at hj)
    cases e
    simp only [Option.map_some, Option.some.injEq] at hu
    subst hu
    rw [add_plain]; exact hc j hj
  · rw [List.getElem?_eq_none (by omega)] at hu; simp at hu
theorem bv_one (l : List Nat) : ∀ u ∈ l.map bv, u.oneCell' = true := by
  intro u hu
  obtain ⟨x, _, rfl⟩ := List.mem_map.1 hu
  rfl
theorem BRow.nil' {w : World} {ao : Option Addr} {cap : Nat} {l : List Nat} (h : BRow w ao cap l) : ao = none → l.length = 0 ∧ cap = 0 := fun e => ⟨by rw [(h.nil e).1]; rfl, (h.nil e).2⟩


set_option maxHeartbeats 1000000 in
theorem clone_some (ad : Addr) (cap n : Nat) (l : List Nat) (w : World) (h : BRow w (some ad) cap l) (HN : Hid (l.length = n)) (hn : n ≤ 140737488351232) :
    Calls Tryz.prog 31 #[.slice (some ad) n cap] w fun e w' => ∃ v, e = .returned v ∧ w'.ownsRow w.heap.size 5 1 v n (l.map bv) ∧ Below w.heap.size w w' := by
  obtain ⟨i0, hi, hz0, hz1, hz2⟩ := info_parts Tryz.info5
  have he : ∀ w : World, (binOp .eql 44 (.slice (some ad) n cap) (.slice none 0 0)).run Tryz.prog w = .ok (.bool false) w := fun w => Lib.run_eql_slice_nil w 44 5 (some ad) n cap 0 0 Tryz.underlying44
  have HB : Hid (∀ o, BRow (w.alloc o) (some ad) cap l) := fun o => h.later ((Below.refl _ _).alloc (Nat.le_refl _) o)
  have HO : Hid ((w.alloc (.cells #[] 5)).ownsRow w.heap.size 5 1 (.slice (some ⟨w.heap.size, 0, none⟩) 0 0) 0 []) :=
    World.ownsRow_lit w #[] 0 (Nat.le_refl _) (Nat.zero_le _) rfl
  clear h
  go_enter Tryz.func31, Tryz.ntmps31
  go_wp2_with (at_builtin; refine wpList_append_two _ rfl (.tmp 5) (.tmp 6) 44 rfl w.heap.size 5 i0 (.int .u8 0) 1 Tryz.underlying44 hi hz0 hz1 hz2 rfl _ 0 [] rfl HO.out (some ad) n cap (l.map bv) rfl (by simp) (by rw [List.length_map]; exact HN.out) (HB.out _).news (bv_one l) (by unfold maxLen; omega) (by omega) (by simp) ?_)
  intro v' w1 ho hg hf
  have hb : Below w.heap.size w w1 := ((Below.refl _ _).alloc (Nat.le_refl _) _).grown hg (by simp) (by intro k hk; simp [Value.ownBlock] at hk; omega)
  clear hg hf
  go_wp2
  go_ret
  exact ⟨_, rfl, ho, hb⟩
end Go.Proofs.YtbamjfnjenmdaaaGreat

namespace Go.Proofs.YtbamjfnjenmdaaaGreat.K
open Go.RowKit Go.Maps Go.Proofs.YtbamjfnjenmdaaaGreat Go.MuLone
attribute [local go_sem] Oper.semAt_some
set_option linter.unusedVariables false
set_option linter.unusedSimpArgs false
set_option maxRecDepth 100000

def readS (S : Dk) : Dk := { S with st := { S.st with reads := inc S.st.reads } }
theorem look_ok {w : World} {lk : Int} {b ms ml : Nat} {qv fv : Value} {S : Dk} (h : RK w lk b ms ml qv fv S) {s : Nat} (hs : s < S.n) : OkB (look S s) := by
  unfold look
  cases hl : lastQ s S.q with
  | none => obtain ⟨D, _, hso⟩ := h.sm; exact hso.ok s hs
  | some l => obtain ⟨i, hi, _⟩ := lastQ_some hl; exact (h.qok _ (List.mem_of_getElem? hi)).2
theorem sectors_any {w : World} {b ms ml : Nat} {qv fv : Value} {S : Dk} (h : RK w 0 b ms ml qv fv S) :
    Calls Tryz.prog 48 #[.pointer (some ⟨b, 0, none⟩)] w fun r w' => r = .returned (.int .i64 S.n) ∧ DAct w w' 0 b ms ml ms ml qv fv qv fv S := by
  have hus := usable_any h
  have c0 : w.cell? ⟨b, 0, none⟩ = some (.int .i32 0) := h.c 0
  have z0 := h.fz 0
  have a1 := (DAct.refl h).put 0 (.int .i32 1) 1 S.st rfl
  have HA1 : Hid (DAct w (w.setCell ⟨b, 0, none⟩ (.int .i32 1)) 1 b ms ml ms ml qv fv qv fv S) := a1
  have c2 : (w.setCell ⟨b, 0, none⟩ (.int .i32 1)).cell? ⟨b, 2, none⟩ = some (.int .i64 S.n) := a1.rk.c 2
  clear a1 h
  go_enter_defers Tryz.func48, Tryz.ntmps48
  go_wp2_with (first | (go_at_call 44; refine hus.mono ?_; rintro e w9 ⟨rfl, hw9⟩; rw [hw9]; clear hw9 hus) | (go_at_call 45; refine (lock_free Tryz.muLib ⟨b, 0, none⟩ _ c0 z0).mono ?_; rintro e w9 ⟨rfl, hw9⟩; rw [hw9]; clear hw9))
  refine leaves_cons (f := 46) (args := #[.pointer (some ⟨b, 0, none⟩)]) (by simp) (by simp [go_sem]) ?_
  refine (unlock_deferred Tryz.muLib ⟨b, 0, none⟩ .returning _ (HA1.out.rk.c 0) (HA1.out.rk.fz 0)).mono ?_
  rintro e u' w'' ⟨rfl, rfl, rfl⟩
  exact ⟨_, results_tmp rfl _ _ _, rfl, HA1.out.put 0 (.int .i32 0) 0 S.st rfl⟩
end Go.Proofs.YtbamjfnjenmdaaaGreat.K
