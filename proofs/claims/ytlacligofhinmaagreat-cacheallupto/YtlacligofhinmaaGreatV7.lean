import Derived.Test.YtlacligofhinmaaGreatV6
import Derived.Deep.RegionHeld3
import Derived.Deep.RegionLaw
import Derived.Deep.AppendLies
import Derived.Deep.DrawnRows
namespace Go.Proofs.YtlacligofhinmaaGreat.K
open Go.RowKit Go.Maps Go.Proofs.YtlacligofhinmaaGreat Go.MuLone
attribute [local go_sem] Oper.semAt_some
set_option linter.unusedVariables false
set_option linter.unusedSimpArgs false
set_option maxRecDepth 100000

theorem cell_lt {w : World} {b j : Nat} {v : Value} (h : w.cell? ⟨b, j, none⟩ = some v) : b < w.heap.size := by
  unfold World.cell? at h
  cases hg : w.heap[b]? with
  | none => simp [hg] at h
  | some o => exact (Array.getElem?_eq_some_iff.1 hg).1
/-- the two makings, as one word each -/
def putOf (ps : Array (Nat × Value)) : Sem Value := Instr.build TPu ps
theorem putOf_eq (ps : Array (Nat × Value)) : Instr.build 138 ps = putOf ps := rfl
def rowOf (ps : Array (Nat × Value)) : Sem Value := Instr.buildSlice TPus 1 ps
theorem rowOf_eq (ps : Array (Nat × Value)) : Instr.buildSlice 122 1 ps = rowOf ps := rfl
theorem run_putOf (w : World) (s : Int) {l : Bl} (hl : OkB l) : (putOf #[(0, .int .i64 s), (1, .agg (Lc l))]).run Tryz.prog w = .ok (.agg (Pc s l)) w := run_put w s hl
theorem run_rowOf (w : World) (s : Int) {l : Bl} (hl : OkB l) : (rowOf #[(0, .agg (Pc s l))]).run Tryz.prog w = .ok (.slice (some ⟨w.heap.size, 0, none⟩) 1 1) (w.alloc (.cells (Pc s l) TPu)) := run_one w s hl
attribute [local go_sem ↓] putOf_eq rowOf_eq
def inc (x : Int) : Int := IntKind.u64.wrap (x + 1)
def wrote (S : Dk) (s : Nat) (l : Bl) : Dk := { S with q := S.q ++ [(s, l)], st := { S.st with writes := inc S.st.writes } }

set_option maxHeartbeats 4000000 in
theorem write_none {w : World} {b ms ml : Nat} {qv fv : Value} {S : Dk} (h : RK w 0 b ms ml qv fv S) (hf : S.fs = []) {s : Nat} (hs : s < S.n) {l : Bl} (hl : OkB l) (hql : S.q.length < 1048576) {sb so cap : Nat} (hsrc : ∀ j v, (l.map bv)[j]? = some v → w.cell? ⟨sb, so + j, none⟩ = some v) (hsb : sb ∉ fp b ms ml qv fv) :
    Calls Tryz.prog 114 #[.pointer (some ⟨b, 0, none⟩), .int .i64 s, .slice (some ⟨sb, so, none⟩) 512 cap] w fun r w' => r = .returned (.int .i64 0) ∧ ∃ qv', DAct w w' 0 b ms ml ms ml qv fv qv' fv (wrote S s l) := by
  obtain ⟨i0, hi0, hz0, hz1, hz2⟩ := info_parts infoPu
  have hus := usable_any h
  have c0 : w.cell? ⟨b, 0, none⟩ = some (.int .i32 0) := h.c 0
  have z0 := h.fz 0
  have h1 := h.setLk 1
  obtain ⟨w1, hw1⟩ : ∃ w1, w1 = w.setCell ⟨b, 0, none⟩ (.int .i32 1) := ⟨_, rfl⟩
  rw [← hw1] at h1
  have a1 : DAct w w1 1 b ms ml ms ml qv fv qv fv S := ⟨h1, by rw [hw1]; exact (Kp.refl w _).set (.inl (by simp [fp])) _ _, fun i hi => .inl hi⟩
  have hha := has_any h1 s
  rw [decide_eq_true (show 0 ≤ (s : Int) ∧ (s : Int) < S.n by omega)] at hha
  have hfa := fail_none h1 hf 2 s
  have HA1 : Hid (DAct w w1 1 b ms ml ms ml qv fv qv fv S) := a1
  have HS : Hid (s < S.n) := hs
  have HL : Hid (OkB l) := hl
  have HSR : Hid (∀ X, Kp w X (fp b ms ml qv fv) → ∀ j v, (l.map bv)[j]? = some v → X.cell? ((⟨sb, so, none⟩ : Addr).add j) = some v) := fun X hX j v hv => by
    have h2 := hsrc j v hv
    rw [add_plain]
    have hlt : sb < w.heap.size := cell_lt h2
    exact (World.cell?_of_block (a := ⟨sb, so + j, none⟩) (hX.block sb hlt hsb)).trans h2
  have HU : Hid (∀ (X : World), RK X 1 b ms ml qv fv S → Kp w X (fp b ms ml qv fv) → ∃ X4 D, (Instr.mapUpdate TMl (.map (some ml)) (.int .i64 s) (.int .i64 S.q.length)).run Tryz.prog X.drew = .ok () X4 ∧ X.ownsMap Tryz.prog TIn (plainElem Tryz.prog TIn) ml (Maps.size D) D ∧ LastOk S.n S.q D ∧ Kp X X4 [ml] ∧ (∃ c, X4.ownsMap Tryz.prog TIn (plainElem Tryz.prog TIn) ml c (D.put (kl s) (.lit (.int .i64 S.q.length)))) ∧ X4.cell? ⟨b, 4, none⟩ = some qv ∧ X4.cell? ⟨b, 5, none⟩ = some (.map (some ml))) := fun X hX hK => by
    obtain ⟨D, hm, hlo⟩ := hX.lm
    have hn := size_le hm hlo.rng
    have hn1 := hX.n1
    obtain ⟨X4, hrun, hm4, hg4⟩ := hm.drew.update keyed Tryz.underlying114 (by unfold maxLen; omega) (keyOf_int_mk Tryz.underlying3 (wfI s (by omega))) (plainElem_int Tryz.underlying3 (a := (S.q.length : Int)) (by
      have e1 : IntKind.i64.min = -9223372036854775808 := rfl
      have e2 : IntKind.i64.max = 9223372036854775807 := rfl
      simp [Lit.wf]
      omega))
    have hk4 : Kp X X4 [ml] := ⟨hg4.os, hg4.tape, hg4.output, hg4.size, fun i hi hne => hg4.block i hi (fun e => hne (by simpa using e))⟩
    obtain ⟨_, a2, _⟩ := hX.apart
    have hbb : X4.heap[b]? = X.heap[b]? := hk4.block b (hX.lt b (by simp [fp])) (by simpa using a2)
    exact ⟨X4, D, hrun, hm, hlo, hk4, ⟨_, hm4⟩, (World.cell?_of_block (a := ⟨b, 4, none⟩) hbb).trans (hX.c 4), (World.cell?_of_block (a := ⟨b, 5, none⟩) hbb).trans (hX.c 5)⟩
  obtain ⟨ao, qc, rfl⟩ : ∃ ao qc, qv = .slice ao S.q.length qc := by
    rcases h.qr.2 with ⟨rfl, h0⟩ | ⟨g, cap, cur, rfl, _⟩
    · exact ⟨_, _, by rw [h0]⟩
    · exact ⟨_, _, rfl⟩
  obtain ⟨m, hm⟩ : ∃ m, m = S.q.length := ⟨_, rfl⟩
  rw [← hm] at HA1 HSR HU hql
  have HM : Hid (m = S.q.length) := hm
  clear h h1 a1 hsrc hsb hs hl hf hm
  go_enter_defers Tryz.func114, Tryz.ntmps114
  go_wp2_with (first | (go_at_call 60; refine hus.mono ?_; rintro e w9 ⟨rfl, hw9⟩; rw [hw9]; clear hw9 hus) | (go_at_call 61; refine (lock_free Tryz.muLib ⟨b, 0, none⟩ _ c0 z0).mono ?_; rintro e w9 ⟨rfl, hw9⟩; rw [hw9, ← hw1]; clear hw9 hw1 c0 z0) | (go_at_call 96; refine hha.mono ?_; rintro e w9 ⟨rfl, hw9⟩; rw [hw9]; clear hw9 hha) | (go_at_call 97; refine hfa.mono ?_; rintro e w2 ⟨rfl, hb2⟩; have HA2 := HA1.out.later hb2; clear hb2 hfa))
  obtain ⟨w3, hw3⟩ : ∃ w3, w3 = w2.alloc (.cells #[.int .i64 0, .int .i64 0, .int .i64 0, .int .i64 0, .bool false] TFa) := ⟨_, rfl⟩
  rw [← hw3]
  have a3 : DAct w w3 1 b ms ml ms ml (.slice ao m qc) fv (.slice ao m qc) fv S := HA2.later (by rw [hw3]; exact (Below.refl _ w2).alloc (Nat.le_refl _) _)
  have HA3 : Hid (DAct w w3 1 b ms ml ms ml (.slice ao m qc) fv (.slice ao m qc) fv S) := a3
  obtain ⟨w4, D, hup, hmD, hlo, hk4, hm4, c44, c45⟩ := HU.out w3 a3.rk a3.kp
  have c34 : w3.cell? ⟨b, 4, none⟩ = some (.slice ao m qc) := a3.rk.c 4
  have c35 : w3.cell? ⟨b, 5, none⟩ = some (.map (some ml)) := a3.rk.c 5
  have k4w : Kp w w4 (fp b ms ml (.slice ao m qc) fv) := a3.kp.trans hk4 (fun i hi => .inl (by simp at hi; simp [fp, hi]))
  have HBl : Hid (Calls Tryz.prog 155 #[.slice (some ⟨sb, so, none⟩) 512 cap] w4.drew fun r w' => r = .returned (.agg (Lc l)) ∧ Below w4.heap.size w4 w') := by
    refine (block_any HL.out (Nat.le_refl _) (HSR.out w4.drew ⟨k4w.os, k4w.tape, k4w.output, k4w.size, k4w.block⟩)).mono ?_
    rintro r w' ⟨rfl, hb⟩
    exact ⟨rfl, hb.os, hb.tape, hb.output, hb.size, hb.block⟩
  have HMD : Hid (w3.ownsMap Tryz.prog TIn (plainElem Tryz.prog TIn) ml (Maps.size D) D ∧ LastOk S.n S.q D ∧ Kp w3 w4 [ml] ∧ (∃ c, w4.ownsMap Tryz.prog TIn (plainElem Tryz.prog TIn) ml c (D.put (kl s) (.lit (.int .i64 S.q.length))))) := by
    refine ⟨hmD, hlo, hk4, ?_⟩
    rw [← HM.out]; exact hm4
  have hput := fun W => run_putOf W (s : Int) HL.out
  have hone := fun W => run_rowOf W (s : Int) HL.out
  have hml : m ≤ 1048576 := by omega
  have HQR : Hid (∀ w5, Below w4.heap.size w4 w5 → w5.ownsRow 0 TPu 513 (.slice ao m qc) m (pcells S.q)) := fun w5 h5 => by
    have h1 := a3.rk.qr
    rw [← HM.out] at h1
    have hap := a3.rk.apart
    refine ownsRow_block (ownsRow_block h1 (fun g hg => hk4.block g (a3.rk.lt g (by simp [fp, hg])) (by simp; exact fun e => hap.2.2.2.2.2.1 (by rw [hg, e])))) (fun g hg => h5.block g (Nat.lt_of_lt_of_le (a3.rk.lt g (by simp [fp, hg])) hk4.size))
  clear a3 hw3 HA2 k4w hmD hlo hk4 hm4
  go_region_held3 (fun w' => w'.cell? ⟨b, 4, none⟩ = some (.slice ao m qc) ∧ w'.cell? ⟨b, 5, none⟩ = some (.map (some ml))) (first | go_keep | exact ⟨c44, c45⟩) (fail)
  go_wp2
  refine Code.wp_mono (Q := NoPanic _) NoPanic.imp ?_
  go_region_law
    (first
      | (go_simp; go_at_call 155; refine HBl.out.mono ?_; rintro r w5 ⟨rfl, hb5⟩; have cq5 := cell_later hb5 c44; have cq5a : (w5.alloc (.cells (Pc s l) TPu)).cell? ⟨b, 4, none⟩ = some (.slice ao m qc) := cell_later ((Below.refl _ w5).alloc (Nat.le_refl _) _) cq5; dsimp only)
      | (refine step_append_lies _ (by rfl) _ _ TPus (by rfl) 0 TPu i0 _ 513 520 Tryz.underlying122 hi0 hz0 hz1 hz2 (by show Zp.size = 513; exact Zp_size) (by decide) (.slice ao m qc) m (pcells S.q) (by rfl) ((HQR.out w5 hb5).alloc _) ⟨w5.heap.size, 0, none⟩ 1 1 (pcell (s, l)) (by rfl) (by rw [pcell_len HL.out]) (by rw [← Pc_list]; exact World.news_of_block (heap_alloc_new w5 _)) (fun u hu => pcells_one [(s, l)] u (by simpa [pcells] using hu)) (by decide) (by unfold maxLen; omega) (by omega) (Nat.zero_le _) (w5.heap.size + 1) (by rw [World.size_alloc]) ?_; intro g' cap' w6 hown' hgrow hat hlt; have hfin := HA3.out.rk.queued HS.out HL.out HMD.out.1 HMD.out.2.1 HMD.out.2.2.1 HMD.out.2.2.2 hb5 hgrow (by rw [← HM.out]; exact hown') (hat.imp id (fun e => by omega)); have cq6 := hfin.1; have fq6 := hfin.2.1; have HA6 := HA3.out.trans hfin.2.2; have c8 : (w6.setCell ⟨b, 4, none⟩ (.slice (some ⟨g', 0, none⟩) (m + 1) cap')).cell? ⟨b, 8, none⟩ = some (.int .u64 S.st.writes) := (by rw [← HM.out] at HA6; exact HA6.rk.c 8); have f8 : (w6.setCell ⟨b, 4, none⟩ (.slice (some ⟨g', 0, none⟩) (m + 1) cap')).frozen? ⟨b, 8, none⟩ = false := (by rw [← HM.out] at HA6; exact HA6.rk.fz 8); have HA7 : Hid (∀ X, DAct w ((w6.setCell ⟨b, 4, none⟩ (.slice (some ⟨g', 0, none⟩) (m + 1) cap')).setCell ⟨b, 8, none⟩ (.int .u64 X)) 1 b ms ml ms ml (.slice ao m qc) fv (.slice (some ⟨g', 0, none⟩) (m + 1) cap') fv { S with q := S.q ++ [(s, l)], st := { S.st with writes := X } }) := (fun X => by rw [← HM.out] at HA6; exact HA6.put 8 (.int .u64 X) 1 { S.st with writes := X } rfl); clear hfin hown' hgrow hat hlt HA6))
  all_goals simp only [NoPanic]
  all_goals go_wp2
  all_goals refine leaves_cons (f := 62) (args := #[.pointer (some ⟨b, 0, none⟩)]) (by simp) (by simp [go_sem]) ?_
  all_goals refine (unlock_deferred Tryz.muLib ⟨b, 0, none⟩ .returning _ ((HA7.out _).rk.c 0) ((HA7.out _).rk.fz 0)).mono ?_
  all_goals rintro e u' w'' ⟨rfl, rfl, rfl⟩
  all_goals exact ⟨_, results_tmp rfl _ _ _, rfl, .slice (some ⟨g', 0, none⟩) (m + 1) cap', by rw [← HM.out]; exact (HA7.out (inc S.st.writes)).put 0 (.int .i32 0) 0 _ rfl⟩
end Go.Proofs.YtlacligofhinmaaGreat.K
