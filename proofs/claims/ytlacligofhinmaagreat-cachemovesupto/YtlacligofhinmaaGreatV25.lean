import Derived.Test.YtlacligofhinmaaGreatV24
import Derived.Deep.RegionHeld3
import Derived.Deep.RegionLaw
import Derived.Deep.AppendLies
import Derived.Deep.DrawnRows
namespace Go.Proofs.YtlacligofhinmaaGreat.K
open Go.RowKit Go.Maps Go.Proofs.YtlacligofhinmaaGreat
attribute [local go_sem] Oper.semAt_some
set_option linter.unusedVariables false
set_option linter.unusedSimpArgs false
set_option maxRecDepth 100000

section
variable {w : World} {p : Nat} {dv qv av : Value} {D Q : List Pv} {S : Dk}
set_option maxHeartbeats 4000000 in
theorem rFault_ok (h : RR w p dv qv av D Q S) (k s a t : Int) (ld : Bool) (hm : may S.n ⟨k, s, a, t, ld⟩ = true) (hlt : S.fs.length < 64) :
    Calls Tryz.prog 34 #[.pointer (some ⟨p, 0, none⟩), .agg #[.int .i64 k, .int .i64 s, .int .i64 a, .int .i64 t, .bool ld]] w fun r w' => r = .returned (.int .i64 0) ∧ ∃ av', RAct w w' p dv qv av D Q dv qv av' D Q (armS S ⟨k, s, a, t, ld⟩) := by
  have hn1 := h.n1
  simp only [may, Bool.and_eq_true, Bool.or_eq_true, decide_eq_true_eq] at hm
  obtain ⟨⟨⟨hk, hs⟩, ha⟩, ht⟩ := hm
  have d1 : ¬ k < 1 := by omega
  have d2 : ¬ 3 < k := by omega
  have d3 : ¬ s < -1 := by omega
  have d4 : ¬ (S.n : Int) ≤ s := by omega
  have d5 : ¬ a < 0 := by omega
  have d6 : ¬ t < 1 := by omega
  obtain ⟨ao, qc, rfl⟩ := own_slice h.fr
  obtain ⟨m, hm'⟩ : ∃ m, m = S.fs.length := ⟨_, rfl⟩
  have HM : Hid (S.fs.length = m) := hm'.symm
  obtain ⟨W0, hW0⟩ : ∃ W0, W0 = w.alloc (.cells #[.int .i64 k, .int .i64 s, .int .i64 a, .int .i64 t, .bool ld] TFa) := ⟨_, rfl⟩
  have hB0 : Below w.heap.size w W0 := by rw [hW0]; exact (Below.refl _ w).alloc (Nat.le_refl _) _
  have hbx : W0.heap[w.heap.size]? = some (.cells #[.int .i64 k, .int .i64 s, .int .i64 a, .int .i64 t, .bool ld] TFa) := by rw [hW0]; exact heap_alloc_new w _
  have HA0 : Hid (RAct w W0 p dv qv (.slice ao S.fs.length qc) D Q dv qv (.slice ao S.fs.length qc) D Q S) := (RAct.refl h).later hB0
  rw [← hm'] at HA0 hlt ⊢
  have d7 : ¬ (64 : Int) ≤ (m : Int) := by omega
  have c0 : W0.cell? ⟨p, 0, none⟩ = some (.int .i64 S.n) := HA0.out.rk.c 0
  have c4 : W0.cell? ⟨p, 4, none⟩ = some (.slice ao m qc) := HA0.out.rk.c 4
  have y0 : W0.cell? ⟨w.heap.size, 0, none⟩ = some (.int .i64 k) := (cell_of hbx).trans rfl
  have y1 : W0.cell? ⟨w.heap.size, 1, none⟩ = some (.int .i64 s) := (cell_of hbx).trans rfl
  have y2 : W0.cell? ⟨w.heap.size, 2, none⟩ = some (.int .i64 a) := (cell_of hbx).trans rfl
  have y3 : W0.cell? ⟨w.heap.size, 3, none⟩ = some (.int .i64 t) := (cell_of hbx).trans rfl
  have y4 : W0.cell? ⟨w.heap.size, 4, none⟩ = some (.bool ld) := (cell_of hbx).trans rfl
  have HBX : Hid (W0.heap[w.heap.size]? = some (.cells #[.int .i64 k, .int .i64 s, .int .i64 a, .int .i64 t, .bool ld] TFa)) := hbx
  have HW0 : Hid (W0 = w.alloc (.cells #[.int .i64 k, .int .i64 s, .int .i64 a, .int .i64 t, .bool ld] TFa)) := hW0
  clear h hk hs ha ht hm' hB0 hW0 hbx
  go_enter Tryz.func34, Tryz.ntmps34
  go_wp2_with fail
  rw [← HW0.out]
  go_quiet (fail)
  obtain ⟨W1, hW1⟩ : ∃ W1, W1 = W0.drewN nq := ⟨_, rfl⟩
  have hB1 : Below W0.heap.size W0 W1 := by rw [hW1]; exact below_drewN W0 nq
  have HA1 : Hid (RAct w W1 p dv qv (.slice ao m qc) D Q dv qv (.slice ao m qc) D Q S) := HA0.out.later hB1
  have HAd : Hid (RAct w W1.drew p dv qv (.slice ao m qc) D Q dv qv (.slice ao m qc) D Q S) := HA1.out.later (below_drew W1)
  have hbx1 : W1.heap[w.heap.size]? = some (.cells #[.int .i64 k, .int .i64 s, .int .i64 a, .int .i64 t, .bool ld] TFa) := (hB1.block _ (Array.getElem?_eq_some_iff.1 HBX.out).1).trans HBX.out
  rw [← hW1]
  clear hW1 hB1 c0 c4 y0 y1 y2 y3 y4
  have c4 : W1.cell? ⟨p, 4, none⟩ = some (.slice ao m qc) := HA1.out.rk.c 4
  have y0 : W1.cell? ⟨w.heap.size, 0, none⟩ = some (.int .i64 k) := (cell_of hbx1).trans rfl
  have y1 : W1.cell? ⟨w.heap.size, 1, none⟩ = some (.int .i64 s) := (cell_of hbx1).trans rfl
  have y2 : W1.cell? ⟨w.heap.size, 2, none⟩ = some (.int .i64 a) := (cell_of hbx1).trans rfl
  have y3 : W1.cell? ⟨w.heap.size, 3, none⟩ = some (.int .i64 t) := (cell_of hbx1).trans rfl
  have y4 : W1.cell? ⟨w.heap.size, 4, none⟩ = some (.bool ld) := (cell_of hbx1).trans rfl
  have hone := fun W => run_onef W k s a t ld
  have c4a : (W1.alloc (.cells #[.int .i64 k, .int .i64 s, .int .i64 a, .int .i64 t, .bool ld] TFa)).cell? ⟨p, 4, none⟩ = some (.slice ao m qc) := cell_later ((Below.refl _ W1).alloc (Nat.le_refl _) _) c4
  obtain ⟨i0, hi0, hz0, hz1, hz2⟩ := info_parts infoFa3
  have HQR : Hid (W1.drew.ownsRow 0 TFa 5 (.slice ao m qc) m (fcells S.fs)) := by
    have h1 := HAd.out.rk.fr
    rw [HM.out] at h1
    exact h1
  clear hbx1
  go_wp2
  go_region_law
    (first
      | (refine step_append_lies _ (by rfl) _ _ TFas (by rfl) 0 TFa i0 _ 5 40 Tryz.underlying123 hi0 hz0 hz1 hz2 (by rfl) (by decide) (.slice ao m qc) m (fcells S.fs) (by rfl) (HQR.out.alloc _) ⟨W1.drew.heap.size, 0, none⟩ 1 1 (fcell ⟨k, s, a, t, ld⟩) (by rfl) (by rfl) (World.news_of_block (heap_alloc_new W1.drew _)) (fun u hu => fcells_one [⟨k, s, a, t, ld⟩] u (by simpa [fcells] using hu)) (by decide) (by unfold maxLen; omega) (by omega) (Nat.zero_le _) (W1.drew.heap.size + 1) (by exact World.size_alloc W1 _) ?_; intro g' cap' w6 hown' hgrow hat hlt'; have hal : Below W1.drew.heap.size W1.drew (W1.drew.alloc (.cells #[.int .i64 k, .int .i64 s, .int .i64 a, .int .i64 t, .bool ld] TFa)) := (Below.refl _ _).alloc (Nat.le_refl _) _; have hfin := HAd.out.rk.newA (w5 := W1.drew) (W := w6) (fs := S.fs ++ [⟨k, s, a, t, ld⟩]) (av' := .slice (some ⟨g', 0, none⟩) (m + 1) cap') (Kp.grown (Kp.of_below hal _) hgrow (fun x e => .inl (by simpa using e))) (by have e1 : fcells (S.fs ++ [⟨k, s, a, t, ld⟩]) = fcells S.fs ++ fcell ⟨k, s, a, t, ld⟩ := (by rw [fcells_append]; simp [fcells]); rw [e1, List.length_append, HM.out]; exact hown') (fun x e => by simp [Value.ownBlock] at e; subst e; exact hat.imp id (fun e => by omega)); have cq6 : w6.cell? ⟨p, 4, none⟩ = some (.slice ao m qc) := (World.cell?_of_block (a := ⟨p, 4, none⟩) hfin.1).trans (HAd.out.rk.c 4); have fq6 : w6.frozen? ⟨p, 4, none⟩ = false := frozen_of (hfin.1.trans HAd.out.rk.blk); have HA7 : Hid (RAct w (w6.setCell ⟨p, 4, none⟩ (.slice (some ⟨g', 0, none⟩) (m + 1) cap')) p dv qv (.slice ao m qc) D Q dv qv (.slice (some ⟨g', 0, none⟩) (m + 1) cap') D Q (armS S ⟨k, s, a, t, ld⟩)) := HAd.out.trans hfin.2; clear hfin hown' hgrow hat hlt' hal))
  all_goals go_wp2
  all_goals exact bodyPost_ret (results_tmp rfl _ _ _) rfl ⟨rfl, _, HA7.out⟩
set_option maxHeartbeats 4000000 in
theorem rFault_bad (h : RR w p dv qv av D Q S) (hf : FsOk S.fs) (k s a t : Int) (ld : Bool) (hm : may S.n ⟨k, s, a, t, ld⟩ = false ∨ 64 ≤ S.fs.length) :
    Calls Tryz.prog 34 #[.pointer (some ⟨p, 0, none⟩), .agg #[.int .i64 k, .int .i64 s, .int .i64 a, .int .i64 t, .bool ld]] w fun r w' => r = .returned (.int .i64 34) ∧ Below w.heap.size w w' := by
  have hn1 := h.n1
  have hle := hf.le
  obtain ⟨ao, qc, rfl⟩ := own_slice h.fr
  obtain ⟨m, hm'⟩ : ∃ m, m = S.fs.length := ⟨_, rfl⟩
  obtain ⟨W0, hW0⟩ : ∃ W0, W0 = w.alloc (.cells #[.int .i64 k, .int .i64 s, .int .i64 a, .int .i64 t, .bool ld] TFa) := ⟨_, rfl⟩
  have hB0 : Below w.heap.size w W0 := by rw [hW0]; exact (Below.refl _ w).alloc (Nat.le_refl _) _
  have hbx : W0.heap[w.heap.size]? = some (.cells #[.int .i64 k, .int .i64 s, .int .i64 a, .int .i64 t, .bool ld] TFa) := by rw [hW0]; exact heap_alloc_new w _
  have HB0 : Hid (Below w.heap.size w W0) := hB0
  have c0 : W0.cell? ⟨p, 0, none⟩ = some (.int .i64 S.n) := (h.later hB0).c 0
  have c4 : W0.cell? ⟨p, 4, none⟩ = some (.slice ao m qc) := by rw [hm']; exact (h.later hB0).c 4
  have y0 : W0.cell? ⟨w.heap.size, 0, none⟩ = some (.int .i64 k) := (cell_of hbx).trans rfl
  have y1 : W0.cell? ⟨w.heap.size, 1, none⟩ = some (.int .i64 s) := (cell_of hbx).trans rfl
  have y2 : W0.cell? ⟨w.heap.size, 2, none⟩ = some (.int .i64 a) := (cell_of hbx).trans rfl
  have y3 : W0.cell? ⟨w.heap.size, 3, none⟩ = some (.int .i64 t) := (cell_of hbx).trans rfl
  have HW0 : Hid (W0 = w.alloc (.cells #[.int .i64 k, .int .i64 s, .int .i64 a, .int .i64 t, .bool ld] TFa)) := hW0
  rw [← hm'] at hm hle
  have hcase : k < 1 ∨ ¬ k < 1 ∧ (3 < k ∨ ¬ 3 < k ∧ (s < -1 ∨ ¬ s < -1 ∧ ((S.n : Int) ≤ s ∨ ¬ (S.n : Int) ≤ s ∧ (a < 0 ∨ ¬ a < 0 ∧ (t < 1 ∨ ¬ t < 1 ∧ (64 : Int) ≤ (m : Int)))))) := by
    have : ¬ (1 ≤ k ∧ k ≤ 3 ∧ (s = -1 ∨ 0 ≤ s ∧ s < S.n) ∧ 0 ≤ a ∧ 1 ≤ t ∧ m < 64) := fun ⟨q1, q2, q3, q4, q5, q6⟩ => by
      rcases hm with hm | hm
      · have : may S.n ⟨k, s, a, t, ld⟩ = true := by
          simp only [may, Bool.and_eq_true, Bool.or_eq_true, decide_eq_true_eq]
          exact ⟨⟨⟨⟨q1, q2⟩, q3⟩, q4⟩, q5⟩
        rw [this] at hm; cases hm
      · omega
    by_cases e1 : k < 1
    · exact .inl e1
    · refine .inr ⟨e1, ?_⟩
      by_cases e2 : 3 < k
      · exact .inl e2
      · refine .inr ⟨e2, ?_⟩
        by_cases e3 : s < -1
        · exact .inl e3
        · refine .inr ⟨e3, ?_⟩
          by_cases e4 : (S.n : Int) ≤ s
          · exact .inl e4
          · refine .inr ⟨e4, ?_⟩
            by_cases e5 : a < 0
            · exact .inl e5
            · refine .inr ⟨e5, ?_⟩
              by_cases e6 : t < 1
              · exact .inl e6
              · refine .inr ⟨e6, ?_⟩
                omega
  clear h hf hm hm' hbx hB0 hW0
  rcases hcase with d1 | ⟨d1, d2 | ⟨d2, d3 | ⟨d3, d4 | ⟨d4, d5 | ⟨d5, d6 | ⟨d6, d7⟩⟩⟩⟩⟩⟩
  all_goals go_enter Tryz.func34, Tryz.ntmps34
  all_goals go_wp2_with fail
  all_goals rw [← HW0.out]
  all_goals go_quiet (fail)
  all_goals go_wp2
  all_goals exact bodyPost_ret (results_tmp rfl _ _ _) rfl ⟨rfl, HB0.out.trans ((below_drewN W0 _).mono HB0.out.size)⟩
theorem rFault_any (h : RR w p dv qv av D Q S) (hf : FsOk S.fs) (f : Flt) :
    Calls Tryz.prog 34 #[.pointer (some ⟨p, 0, none⟩), .agg #[.int .i64 f.kind, .int .i64 f.sector, .int .i64 f.after, .int .i64 f.times, .bool f.land]] w fun r w' => r = .returned (.int .i64 (faE S f)) ∧ ∃ av', RAct w w' p dv qv av D Q dv qv av' D Q (faS S f) := by
  unfold faE faS
  by_cases hm : may S.n f = true
  · by_cases hl : S.fs.length < 64
    · have hi : faOk S f = true := by simp [faOk, hm, hl]
      rw [if_pos hi, if_pos hi]
      exact rFault_ok h _ _ _ _ _ hm hl
    · have hi : ¬ faOk S f = true := by simp [faOk, hl]
      rw [if_neg hi, if_neg hi]
      refine (rFault_bad h hf _ _ _ _ _ (.inr (by omega))).mono ?_
      rintro r w' ⟨rfl, hb⟩
      exact ⟨rfl, av, (RAct.refl h).later hb⟩
  · have hi : ¬ faOk S f = true := by simp [faOk, hm]
    rw [if_neg hi, if_neg hi]
    refine (rFault_bad h hf _ _ _ _ _ (.inl (by simpa using hm))).mono ?_
    rintro r w' ⟨rfl, hb⟩
    exact ⟨rfl, av, (RAct.refl h).later hb⟩
end
end Go.Proofs.YtlacligofhinmaaGreat.K
