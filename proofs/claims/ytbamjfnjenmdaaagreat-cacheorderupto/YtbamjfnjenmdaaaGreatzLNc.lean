import Derived.Test.YtbamjfnjenmdaaaGreatG12
namespace Go.Proofs.YtbamjfnjenmdaaaGreat.K
open Go.RowKit Go.Maps Go.Proofs.YtbamjfnjenmdaaaGreat Go.MuLone
attribute [local go_sem] Oper.semAt_some
set_option linter.unusedVariables false
set_option linter.unusedSimpArgs false
set_option maxRecDepth 100000

theorem run_onef (w : World) (k s a t : Int) (ld : Bool) : (Instr.buildSlice TFas 1 #[(0, .agg #[.int .i64 k, .int .i64 s, .int .i64 a, .int .i64 t, .bool ld])]).run Tryz.prog w = .ok (.slice (some ⟨w.heap.size, 0, none⟩) 1 1) (w.alloc (.cells #[.int .i64 k, .int .i64 s, .int .i64 a, .int .i64 t, .bool ld] TFa)) := by
  obtain ⟨i0, hi, hz0, hz1, hz2⟩ := info_parts infoFa3
  refine run_buildSlice w TFas TFa 1 _ _ i0 _ Tryz.underlying110 hi hz0 (by rw [hz1]; decide) (by rw [hz1]; decide) ?_
  rw [hz1]
  generalize hA : (#[.int .i64 k, .int .i64 s, .int .i64 a, .int .i64 t, .bool ld] : Array Value) = A
  have hAs : A.size = 5 := by rw [← hA]; rfl
  obtain ⟨r, e, hs, g⟩ := fill_one (place := fun i => some (i * 5, 5)) (cells := (Array.range (1 * 5)).map ((Value.agg #[.int .i64 0, .int .i64 0, .int .i64 0, .int .i64 0, .bool false]).cells[· % (Value.agg #[.int .i64 0, .int .i64 0, .int .i64 0, .int .i64 0, .bool false]).cells.size]!)) (i := 0) (off := 0) (v := .agg A) (rest := []) (by simp [Value.cells, hAs]) (by simp [Value.cells, hAs])
  show Instr.fill _ _ [(0, Value.agg A)] = _
  rw [e]
  show some r = _
  congr 1
  apply Array.ext_getElem?
  intro j
  rw [g j]
  simp only [Value.cells, hAs]
  by_cases hk : 0 ≤ j ∧ j < 0 + 5
  · rw [if_pos hk]; rfl
  · rw [if_neg hk, Array.getElem?_eq_none (by simp; omega), Array.getElem?_eq_none (by rw [hAs]; omega)]
/-- a fault joins -/
theorem RK.armed {w w6 : World} {lk : Int} {b ms ml : Nat} {qv fv : Value} {S : Dk} {o : Obj} {g' cap' : Nat} {f : Flt} (h : RK w lk b ms ml qv fv S)
    (hg : (w.alloc o).grownBy w6 fv.ownBlock) (hown : w6.ownsRow 0 TFa 5 (.slice (some ⟨g', 0, none⟩) (S.fs.length + 1) cap') (S.fs.length + 1) (fcells S.fs ++ fcell f)) (hat : fv.ownBlock = some g' ∨ w.heap.size ≤ g') :
    w6.cell? ⟨b, 6, none⟩ = some fv ∧ w6.frozen? ⟨b, 6, none⟩ = false ∧ DAct w (w6.setCell ⟨b, 6, none⟩ (.slice (some ⟨g', 0, none⟩) (S.fs.length + 1) cap')) lk b ms ml ms ml qv fv qv (.slice (some ⟨g', 0, none⟩) (S.fs.length + 1) cap') { S with fs := S.fs ++ [f] } := by
  obtain ⟨a1, a2, a3, a4, a5, a6, a7, a8, a9⟩ := h.apart
  have hlt := h.lt
  have hkeep : ∀ i ∈ fp b ms ml qv fv, fv.ownBlock ≠ some i → w6.heap[i]? = w.heap[i]? := fun i hi h2 => by
    have := hlt i hi
    rw [hg.block i (by rw [World.size_alloc]; omega) (fun e => h2 e.symm), Below.heap_alloc _ _ _ (by omega)]
  have hblk := (hkeep b (by simp [fp]) a4).trans h.blk
  have hgb : g' ≠ b := by
    rcases hat with e | e
    · exact fun e' => a4 (by rw [e, e'])
    · have := hlt b (by simp [fp]); omega
  have hne : ∀ i, i ≠ b → (w6.setCell ⟨b, 6, none⟩ (.slice (some ⟨g', 0, none⟩) (S.fs.length + 1) cap')).heap[i]? = w6.heap[i]? := fun i hi => Below.heap_setCell _ _ _ _ hi
  obtain ⟨D, h1, h2⟩ := h.sm
  obtain ⟨D', h4, h5⟩ := h.lm
  refine ⟨(cell_of hblk).trans rfl, frozen_of hblk, ⟨blk_set hblk 6 _, h.n0, h.n1, ⟨D, ownsMap_block h1 ((hne ms (Ne.symm a1)).trans (hkeep ms (by simp [fp]) a7)), h2⟩, ⟨D', ownsMap_block h4 ((hne ml (Ne.symm a2)).trans (hkeep ml (by simp [fp]) a8)), h5⟩, ownsRow_block h.qr (fun x hx => (hne x (fun e => a3 (by rw [← e]; exact hx))).trans (hkeep x (by simp [fp, hx]) (a9 x hx))), ?_, h.ne, h.qok⟩, ?_, ?_⟩
  · have e1 : fcells (S.fs ++ [f]) = fcells S.fs ++ fcell f := by rw [fcells_append]; simp [fcells]
    have e2 : (S.fs ++ [f]).length = S.fs.length + 1 := by simp
    show World.ownsRow _ 0 TFa 5 _ (S.fs ++ [f]).length (fcells (S.fs ++ [f]))
    rw [e1, e2]
    exact ownsRow_block hown (fun g e => by simp [Value.ownBlock] at e; subst e; exact hne _ hgb)
  · exact Kp.set (Kp.grown (w' := w.alloc o) (Kp.of_below ((Below.refl _ w).alloc (Nat.le_refl _) o) _) hg (fun k e => .inl (by simp [fp, e]))) (.inl (by simp [fp])) _ _
  · intro i hi
    simp only [fp, Value.ownBlock, List.mem_cons, List.mem_append, Option.mem_toList, Option.some.injEq] at hi ⊢
    rcases hi with rfl | rfl | rfl | hi | rfl
    · simp
    · simp
    · simp
    · simp [hi]
    · rcases hat with e | e
      · exact .inl (.inr (.inr (.inr (.inr e))))
      · exact .inr e
def armS (S : Dk) (f : Flt) : Dk := { S with fs := S.fs ++ [f] }
set_option maxHeartbeats 4000000 in
theorem fault_any {w : World} {b ms ml : Nat} {qv fv : Value} {S : Dk} (h : RK w 0 b ms ml qv fv S) (hf : FsOk S.fs) (k s a t : Int) (ld : Bool) (hm : may S.n ⟨k, s, a, t, ld⟩ = true) (hlt : S.fs.length < 64) :
    Calls Tryz.prog 16 #[.pointer (some ⟨b, 0, none⟩), .agg #[.int .i64 k, .int .i64 s, .int .i64 a, .int .i64 t, .bool ld]] w fun r w' => r = .returned (.int .i64 0) ∧ ∃ fv', DAct w w' 0 b ms ml ms ml qv fv qv fv' (armS S ⟨k, s, a, t, ld⟩) := by
  obtain ⟨W0, hW0⟩ : ∃ W0, W0 = w.alloc (.cells #[.int .i64 k, .int .i64 s, .int .i64 a, .int .i64 t, .bool ld] TFa) := ⟨_, rfl⟩
  have hB0 : Below w.heap.size w W0 := by rw [hW0]; exact (Below.refl _ w).alloc (Nat.le_refl _) _
  have h0 := h.later hB0
  have hus := usable_any h0
  have c0 : W0.cell? ⟨b, 0, none⟩ = some (.int .i32 0) := h0.c 0
  have z0 := h0.fz 0
  have a1 := ((DAct.refl h0).put 0 (.int .i32 1) 1 S.st rfl).from_later hB0
  obtain ⟨w1, hw1⟩ : ∃ w1, w1 = W0.setCell ⟨b, 0, none⟩ (.int .i32 1) := ⟨_, rfl⟩
  rw [← hw1] at a1
  have hma := mayArm_any a1.rk k s a t ld
  rw [show may ({ S with st := S.st } : Dk).n ⟨k, s, a, t, ld⟩ = true from hm] at hma
  obtain ⟨ao, qc, rfl⟩ : ∃ ao qc, fv = .slice ao S.fs.length qc := by
    rcases h.fr.2 with ⟨rfl, h00⟩ | ⟨g, cap, cur, rfl, _⟩
    · exact ⟨_, _, by rw [h00]⟩
    · exact ⟨_, _, rfl⟩
  obtain ⟨m, hm'⟩ : ∃ m, m = S.fs.length := ⟨_, rfl⟩
  have HM : Hid (m = S.fs.length) := hm'
  rw [← hm'] at hlt
  have bx1 : w1.heap[w.heap.size]? = some (.cells #[.int .i64 k, .int .i64 s, .int .i64 a, .int .i64 t, .bool ld] TFa) := by
    have hbl := h.lt b (by simp [fp])
    rw [hw1, Below.heap_setCell _ _ _ _ (by show w.heap.size ≠ b; omega), hW0]
    exact heap_alloc_new w _
  have y0 : w1.cell? ⟨w.heap.size, 0, none⟩ = some (.int .i64 k) := (cell_of bx1).trans rfl
  have y1 : w1.cell? ⟨w.heap.size, 1, none⟩ = some (.int .i64 s) := (cell_of bx1).trans rfl
  have y2 : w1.cell? ⟨w.heap.size, 2, none⟩ = some (.int .i64 a) := (cell_of bx1).trans rfl
  have y3 : w1.cell? ⟨w.heap.size, 3, none⟩ = some (.int .i64 t) := (cell_of bx1).trans rfl
  have y4 : w1.cell? ⟨w.heap.size, 4, none⟩ = some (.bool ld) := (cell_of bx1).trans rfl
  have HBX : Hid (w1.heap[w.heap.size]? = some (.cells #[.int .i64 k, .int .i64 s, .int .i64 a, .int .i64 t, .bool ld] TFa)) := bx1
  have HA1 : Hid (DAct w w1 1 b ms ml ms ml qv (.slice ao m qc) qv (.slice ao m qc) S) := by show DAct _ _ _ _ _ _ _ _ _ _ _ _ _; rw [hm']; exact a1
  clear h h0 a1 hf hm hB0 hm' bx1
  subst hW0
  go_enter_defers Tryz.func16, Tryz.ntmps16
  go_wp2_with (first | (go_at_call 44; refine hus.mono ?_; rintro e w9 ⟨rfl, hw9⟩; rw [hw9]; clear hw9 hus) | (go_at_call 45; refine (lock_free Tryz.muLib ⟨b, 0, none⟩ _ c0 z0).mono ?_; rintro e w9 ⟨rfl, hw9⟩; rw [hw9, ← hw1]; clear hw9 hw1 c0 z0) | (go_at_call 47; refine hma.mono ?_; rintro e w2 ⟨rfl, hb2⟩; have HA2 : Hid (DAct w w2 1 b ms ml ms ml qv (.slice ao m qc) qv (.slice ao m qc) S) := HA1.out.later hb2; have x6 : w2.cell? ⟨b, 6, none⟩ = some (.slice ao m qc) := HA2.out.rk.c 6; clear hma))
  have hbx2 : w2.heap[w.heap.size]? = some (.cells #[.int .i64 k, .int .i64 s, .int .i64 a, .int .i64 t, .bool ld] TFa) := (hb2.block _ (Array.getElem?_eq_some_iff.1 HBX.out).1).trans HBX.out
  have v0 : w2.cell? ⟨w.heap.size, 0, none⟩ = some (.int .i64 k) := (cell_of hbx2).trans rfl
  have v1 : w2.cell? ⟨w.heap.size, 1, none⟩ = some (.int .i64 s) := (cell_of hbx2).trans rfl
  have v2 : w2.cell? ⟨w.heap.size, 2, none⟩ = some (.int .i64 a) := (cell_of hbx2).trans rfl
  have v3 : w2.cell? ⟨w.heap.size, 3, none⟩ = some (.int .i64 t) := (cell_of hbx2).trans rfl
  have v4 : w2.cell? ⟨w.heap.size, 4, none⟩ = some (.bool ld) := (cell_of hbx2).trans rfl
  have hone := fun W => run_onef W k s a t ld
  have x6d : w2.drew.cell? ⟨b, 6, none⟩ = some (.slice ao m qc) := x6
  have hBd : Below w2.heap.size w2 w2.drew := ⟨rfl, rfl, rfl, Nat.le_refl _, fun _ _ => rfl⟩
  have HA2d : Hid (DAct w w2.drew 1 b ms ml ms ml qv (.slice ao m qc) qv (.slice ao m qc) S) := HA2.out.later hBd
  have x6b : (w2.alloc (.cells #[.int .i64 k, .int .i64 s, .int .i64 a, .int .i64 t, .bool ld] TFa)).cell? ⟨b, 6, none⟩ = some (.slice ao m qc) := cell_later ((Below.refl _ w2).alloc (Nat.le_refl _) _) x6
  have x6a : (w2.drew.alloc (.cells #[.int .i64 k, .int .i64 s, .int .i64 a, .int .i64 t, .bool ld] TFa)).cell? ⟨b, 6, none⟩ = some (.slice ao m qc) := cell_later ((Below.refl _ w2.drew).alloc (Nat.le_refl _) _) x6d
  obtain ⟨i0, hi0, hz0, hz1, hz2⟩ := info_parts infoFa3
  have HQR : Hid (w2.drew.ownsRow 0 TFa 5 (.slice ao m qc) m (fcells S.fs)) := by
    have h1 := HA2d.out.rk.fr
    rw [← HM.out] at h1
    exact h1
  clear hBd hbx2 hb2 y0 y1 y2 y3 y4
  refine Code.wp_mono (Q := NoPanic _) NoPanic.imp ?_
  go_region_law
    (first
      | (refine step_append_lies _ (by rfl) _ _ TFas (by rfl) 0 TFa i0 _ 5 40 Tryz.underlying110 hi0 hz0 hz1 hz2 (by rfl) (by decide) (.slice ao m qc) m (fcells S.fs) (by rfl) (HQR.out.alloc _) ⟨w2.drew.heap.size, 0, none⟩ 1 1 (fcell ⟨k, s, a, t, ld⟩) (by rfl) (by rfl) (World.news_of_block (heap_alloc_new w2.drew _)) (fun u hu => fcells_one [⟨k, s, a, t, ld⟩] u (by simpa [fcells] using hu)) (by decide) (by unfold maxLen; omega) (by omega) (Nat.zero_le _) (w2.drew.heap.size + 1) (by exact World.size_alloc w2 _) ?_; intro g' cap' w6 hown' hgrow hat hlt'; have hfin := HA2d.out.rk.armed (f := ⟨k, s, a, t, ld⟩) hgrow (by rw [← HM.out]; exact hown') (hat.imp id (fun e => by omega)); have cq6 := hfin.1; have fq6 := hfin.2.1; have HA6 := HA2d.out.trans hfin.2.2; rw [← HM.out] at HA6; have HA7 : Hid (DAct w (w6.setCell ⟨b, 6, none⟩ (.slice (some ⟨g', 0, none⟩) (m + 1) cap')) 1 b ms ml ms ml qv (.slice ao m qc) qv (.slice (some ⟨g', 0, none⟩) (m + 1) cap') (armS S ⟨k, s, a, t, ld⟩)) := HA6; clear hfin hown' hgrow hat hlt' HA6))
  all_goals simp only [NoPanic]
  all_goals go_wp2
  all_goals refine leaves_cons (f := 46) (args := #[.pointer (some ⟨b, 0, none⟩)]) (by simp) (by simp [go_sem]) ?_
  all_goals refine (unlock_deferred Tryz.muLib ⟨b, 0, none⟩ .returning _ (HA7.out.rk.c 0) (HA7.out.rk.fz 0)).mono ?_
  all_goals rintro e u' w'' ⟨rfl, rfl, rfl⟩
  all_goals exact ⟨_, results_tmp rfl _ _ _, rfl, .slice (some ⟨g', 0, none⟩) (m + 1) cap', by rw [← HM.out]; exact HA7.out.put 0 (.int .i32 0) 0 S.st rfl⟩
set_option maxHeartbeats 4000000 in
theorem fault_bad {w : World} {b ms ml : Nat} {qv fv : Value} {S : Dk} (h : RK w 0 b ms ml qv fv S) (hf : FsOk S.fs) (k s a t : Int) (ld : Bool) (hm : may S.n ⟨k, s, a, t, ld⟩ = false ∨ 64 ≤ S.fs.length) :
    Calls Tryz.prog 16 #[.pointer (some ⟨b, 0, none⟩), .agg #[.int .i64 k, .int .i64 s, .int .i64 a, .int .i64 t, .bool ld]] w fun r w' => r = .returned (.int .i64 34) ∧ DAct w w' 0 b ms ml ms ml qv fv qv fv S := by
  obtain ⟨W0, hW0⟩ : ∃ W0, W0 = w.alloc (.cells #[.int .i64 k, .int .i64 s, .int .i64 a, .int .i64 t, .bool ld] TFa) := ⟨_, rfl⟩
  have hB0 : Below w.heap.size w W0 := by rw [hW0]; exact (Below.refl _ w).alloc (Nat.le_refl _) _
  have h0 := h.later hB0
  have hus := usable_any h0
  have c0 : W0.cell? ⟨b, 0, none⟩ = some (.int .i32 0) := h0.c 0
  have z0 := h0.fz 0
  have a1 := ((DAct.refl h0).put 0 (.int .i32 1) 1 S.st rfl).from_later hB0
  obtain ⟨w1, hw1⟩ : ∃ w1, w1 = W0.setCell ⟨b, 0, none⟩ (.int .i32 1) := ⟨_, rfl⟩
  rw [← hw1] at a1
  have hma := mayArm_any a1.rk k s a t ld
  obtain ⟨ao, qc, rfl⟩ : ∃ ao qc, fv = .slice ao S.fs.length qc := by
    rcases h.fr.2 with ⟨rfl, h00⟩ | ⟨g, cap, cur, rfl, _⟩
    · exact ⟨_, _, by rw [h00]⟩
    · exact ⟨_, _, rfl⟩
  obtain ⟨m, hm'⟩ : ∃ m, m = S.fs.length := ⟨_, rfl⟩
  have HM : Hid (m = S.fs.length) := hm'
  have hle : m ≤ 64 := by have := hf.le; omega
  rw [← hm'] at hm
  have bx1 : w1.heap[w.heap.size]? = some (.cells #[.int .i64 k, .int .i64 s, .int .i64 a, .int .i64 t, .bool ld] TFa) := by
    have hbl := h.lt b (by simp [fp])
    rw [hw1, Below.heap_setCell _ _ _ _ (by show w.heap.size ≠ b; omega), hW0]
    exact heap_alloc_new w _
  have y0 : w1.cell? ⟨w.heap.size, 0, none⟩ = some (.int .i64 k) := (cell_of bx1).trans rfl
  have y1 : w1.cell? ⟨w.heap.size, 1, none⟩ = some (.int .i64 s) := (cell_of bx1).trans rfl
  have y2 : w1.cell? ⟨w.heap.size, 2, none⟩ = some (.int .i64 a) := (cell_of bx1).trans rfl
  have y3 : w1.cell? ⟨w.heap.size, 3, none⟩ = some (.int .i64 t) := (cell_of bx1).trans rfl
  have y4 : w1.cell? ⟨w.heap.size, 4, none⟩ = some (.bool ld) := (cell_of bx1).trans rfl
  have HA1 : Hid (DAct w w1 1 b ms ml ms ml qv (.slice ao m qc) qv (.slice ao m qc) S) := by show DAct _ _ _ _ _ _ _ _ _ _ _ _ _; rw [hm']; exact a1
  have hma' : Calls Tryz.prog 47 #[.pointer (some ⟨b, 0, none⟩), .agg #[.int .i64 k, .int .i64 s, .int .i64 a, .int .i64 t, .bool ld]] w1 fun r w' => r = .returned (.bool (may S.n ⟨k, s, a, t, ld⟩)) ∧ Below w1.heap.size w1 w' := hma
  clear h h0 a1 hf hB0 hm' bx1 hma
  subst hW0
  by_cases hq : may S.n ⟨k, s, a, t, ld⟩ = false
  · rw [hq] at hma'
    clear hm hq
    go_enter_defers Tryz.func16, Tryz.ntmps16
    go_wp2_with (first | (go_at_call 44; refine hus.mono ?_; rintro e w9 ⟨rfl, hw9⟩; rw [hw9]; clear hw9 hus) | (go_at_call 45; refine (lock_free Tryz.muLib ⟨b, 0, none⟩ _ c0 z0).mono ?_; rintro e w9 ⟨rfl, hw9⟩; rw [hw9, ← hw1]; clear hw9 hw1 c0 z0) | (go_at_call 47; refine hma'.mono ?_; rintro e w2 ⟨rfl, hb2⟩; have HA2 : Hid (DAct w w2 1 b ms ml ms ml qv (.slice ao m qc) qv (.slice ao m qc) S) := HA1.out.later hb2; clear hma'))
    have a7 := HA2.out
    refine leaves_cons (f := 46) (args := #[.pointer (some ⟨b, 0, none⟩)]) (by simp) (by simp [go_sem]) ?_
    refine (unlock_deferred Tryz.muLib ⟨b, 0, none⟩ .returning _ (a7.rk.c 0) (a7.rk.fz 0)).mono ?_
    rintro e u' w'' ⟨rfl, rfl, rfl⟩
    exact ⟨_, results_tmp rfl _ _ _, rfl, by rw [← HM.out]; exact a7.put 0 (.int .i32 0) 0 S.st rfl⟩
  · have hq1 : may S.n ⟨k, s, a, t, ld⟩ = true := by simpa using hq
    rw [hq1] at hma'
    have h64 : m = 64 := by rcases hm with hm | hm; exact absurd hm hq; omega
    clear hm hq hq1 hle
    have x6 : w1.cell? ⟨b, 6, none⟩ = some (.slice ao m qc) := HA1.out.rk.c 6
    rw [h64] at x6
    go_enter_defers Tryz.func16, Tryz.ntmps16
    go_wp2_with (first | (go_at_call 44; refine hus.mono ?_; rintro e w9 ⟨rfl, hw9⟩; rw [hw9]; clear hw9 hus) | (go_at_call 45; refine (lock_free Tryz.muLib ⟨b, 0, none⟩ _ c0 z0).mono ?_; rintro e w9 ⟨rfl, hw9⟩; rw [hw9, ← hw1]; clear hw9 hw1 c0 z0) | (go_at_call 47; refine hma'.mono ?_; rintro e w2 ⟨rfl, hb2⟩; have HA2 : Hid (DAct w w2 1 b ms ml ms ml qv (.slice ao m qc) qv (.slice ao m qc) S) := HA1.out.later hb2; have x62 : w2.cell? ⟨b, 6, none⟩ = some (.slice ao 64 qc) := cell_later hb2 x6; clear hma'))
    have a7 := HA2.out
    refine leaves_cons (f := 46) (args := #[.pointer (some ⟨b, 0, none⟩)]) (by simp) (by simp [go_sem]) ?_
    refine (unlock_deferred Tryz.muLib ⟨b, 0, none⟩ .returning _ (a7.rk.c 0) (a7.rk.fz 0)).mono ?_
    rintro e u' w'' ⟨rfl, rfl, rfl⟩
    exact ⟨_, results_tmp rfl _ _ _, rfl, by rw [← HM.out]; exact a7.put 0 (.int .i32 0) 0 S.st rfl⟩
end Go.Proofs.YtbamjfnjenmdaaaGreat.K
