import Derived.Test.YtlacligofhinmaaGreatV16
import Derived.Deep.RegionHeld3
import Derived.Deep.RegionLaw
import Derived.Deep.AppendLies
import Derived.Deep.DrawnRows
import Derived.Test.YtlacligofhinmaaGreatV14
namespace Go.Proofs.YtlacligofhinmaaGreat.K
open Go.RowKit Go.Maps Go.Proofs.YtlacligofhinmaaGreat Go.MuLone
attribute [local go_sem] Oper.semAt_some
set_option linter.unusedVariables false
set_option linter.unusedSimpArgs false
set_option maxRecDepth 100000

def may (n : Nat) (f : Flt) : Bool := decide (1 ≤ f.kind ∧ f.kind ≤ 3) && (decide (f.sector = -1) || decide (0 ≤ f.sector ∧ f.sector < n)) && decide (0 ≤ f.after) && decide (1 ≤ f.times)
set_option maxHeartbeats 2000000 in
theorem mayArm_any {w : World} {lk : Int} {b ms ml : Nat} {qv fv : Value} {S : Dk} (h : RK w lk b ms ml qv fv S) (k s a t : Int) (ld : Bool) :
    Calls Tryz.prog 78 #[.pointer (some ⟨b, 0, none⟩), .agg #[.int .i64 k, .int .i64 s, .int .i64 a, .int .i64 t, .bool ld]] w fun r w' => r = .returned (.bool (may S.n ⟨k, s, a, t, ld⟩)) ∧ Below w.heap.size w w' := by
  have hB0 : Below w.heap.size w (w.alloc (.cells #[.int .i64 k, .int .i64 s, .int .i64 a, .int .i64 t, .bool ld] TFa)) := (Below.refl _ w).alloc (Nat.le_refl _) _
  have hha := has_any (h.later hB0) s
  have HB : Hid (Below w.heap.size w (w.alloc (.cells #[.int .i64 k, .int .i64 s, .int .i64 a, .int .i64 t, .bool ld] TFa))) := hB0
  have hM : may S.n ⟨k, s, a, t, ld⟩ = (decide (1 ≤ k ∧ k ≤ 3) && (decide (s = -1) || decide (0 ≤ s ∧ s < S.n)) && decide (0 ≤ a) && decide (1 ≤ t)) := rfl
  clear h hB0
  by_cases hk : 1 ≤ k ∧ k ≤ 3
  · by_cases hs : s = -1
    · by_cases ha : 0 ≤ a
      · by_cases ht : 1 ≤ t
        · have hv : may S.n ⟨k, s, a, t, ld⟩ = true := by rw [hM]; simp [hk, hs, ha, ht]; try omega
          rw [hv]
          clear hM hv
          have hk3 : k = 1 ∨ k = 2 ∨ k = 3 := by omega
          clear hk
          rcases hk3 with rfl | rfl | rfl
          all_goals go_enter Tryz.func78, Tryz.ntmps78
          all_goals go_wp2_with (go_at_call 96; refine hha.mono ?_; rintro e w9 ⟨rfl, hw9⟩; rw [hw9]; clear hw9 hha)
          all_goals go_ret
          all_goals first | exact ⟨rfl, (Below.refl _ w).alloc (Nat.le_refl _) _⟩ | (refine ⟨ret_bool ?_, (Below.refl _ w).alloc (Nat.le_refl _) _⟩; simp; omega)
        · have hv : may S.n ⟨k, s, a, t, ld⟩ = false := by rw [hM]; simp [hk, hs, ha, ht]; try omega
          rw [hv]
          clear hM hv
          have hk3 : k = 1 ∨ k = 2 ∨ k = 3 := by omega
          clear hk
          rcases hk3 with rfl | rfl | rfl
          all_goals go_enter Tryz.func78, Tryz.ntmps78
          all_goals go_wp2_with (go_at_call 96; refine hha.mono ?_; rintro e w9 ⟨rfl, hw9⟩; rw [hw9]; clear hw9 hha)
          all_goals go_ret
          all_goals first | exact ⟨rfl, (Below.refl _ w).alloc (Nat.le_refl _) _⟩ | (refine ⟨ret_bool ?_, (Below.refl _ w).alloc (Nat.le_refl _) _⟩; simp; omega)
      · have hv : may S.n ⟨k, s, a, t, ld⟩ = false := by rw [hM]; simp [hk, hs, ha]; try omega
        rw [hv]
        clear hM hv
        have hk3 : k = 1 ∨ k = 2 ∨ k = 3 := by omega
        clear hk
        rcases hk3 with rfl | rfl | rfl
        all_goals go_enter Tryz.func78, Tryz.ntmps78
        all_goals go_wp2_with (go_at_call 96; refine hha.mono ?_; rintro e w9 ⟨rfl, hw9⟩; rw [hw9]; clear hw9 hha)
        all_goals go_ret
        all_goals first | exact ⟨rfl, (Below.refl _ w).alloc (Nat.le_refl _) _⟩ | (refine ⟨ret_bool ?_, (Below.refl _ w).alloc (Nat.le_refl _) _⟩; simp; omega)
    · by_cases hr : 0 ≤ s ∧ s < S.n
      · rw [decide_eq_true hr] at hha
        by_cases ha : 0 ≤ a
        · by_cases ht : 1 ≤ t
          · have hv : may S.n ⟨k, s, a, t, ld⟩ = true := by rw [hM]; simp [hk, hs, hr, ha, ht]; try omega
            rw [hv]
            clear hM hv
            have hk3 : k = 1 ∨ k = 2 ∨ k = 3 := by omega
            clear hk
            rcases hk3 with rfl | rfl | rfl
            all_goals go_enter Tryz.func78, Tryz.ntmps78
            all_goals go_wp2_with (go_at_call 96; refine hha.mono ?_; rintro e w9 ⟨rfl, hw9⟩; rw [hw9]; clear hw9 hha)
            all_goals go_ret
            all_goals first | exact ⟨rfl, (Below.refl _ w).alloc (Nat.le_refl _) _⟩ | (refine ⟨ret_bool ?_, (Below.refl _ w).alloc (Nat.le_refl _) _⟩; simp; omega)
          · have hv : may S.n ⟨k, s, a, t, ld⟩ = false := by rw [hM]; simp [hk, hs, hr, ha, ht]; try omega
            rw [hv]
            clear hM hv
            have hk3 : k = 1 ∨ k = 2 ∨ k = 3 := by omega
            clear hk
            rcases hk3 with rfl | rfl | rfl
            all_goals go_enter Tryz.func78, Tryz.ntmps78
            all_goals go_wp2_with (go_at_call 96; refine hha.mono ?_; rintro e w9 ⟨rfl, hw9⟩; rw [hw9]; clear hw9 hha)
            all_goals go_ret
            all_goals first | exact ⟨rfl, (Below.refl _ w).alloc (Nat.le_refl _) _⟩ | (refine ⟨ret_bool ?_, (Below.refl _ w).alloc (Nat.le_refl _) _⟩; simp; omega)
        · have hv : may S.n ⟨k, s, a, t, ld⟩ = false := by rw [hM]; simp [hk, hs, hr, ha]; try omega
          rw [hv]
          clear hM hv
          have hk3 : k = 1 ∨ k = 2 ∨ k = 3 := by omega
          clear hk
          rcases hk3 with rfl | rfl | rfl
          all_goals go_enter Tryz.func78, Tryz.ntmps78
          all_goals go_wp2_with (go_at_call 96; refine hha.mono ?_; rintro e w9 ⟨rfl, hw9⟩; rw [hw9]; clear hw9 hha)
          all_goals go_ret
          all_goals first | exact ⟨rfl, (Below.refl _ w).alloc (Nat.le_refl _) _⟩ | (refine ⟨ret_bool ?_, (Below.refl _ w).alloc (Nat.le_refl _) _⟩; simp; omega)
      · rw [decide_eq_false hr] at hha
        have hv : may S.n ⟨k, s, a, t, ld⟩ = false := by rw [hM, decide_eq_false hr, decide_eq_false hs]; simp
        rw [hv]
        clear hM hv
        have hk3 : k = 1 ∨ k = 2 ∨ k = 3 := by omega
        clear hk
        rcases hk3 with rfl | rfl | rfl
        all_goals go_enter Tryz.func78, Tryz.ntmps78
        all_goals go_wp2_with (go_at_call 96; refine hha.mono ?_; rintro e w9 ⟨rfl, hw9⟩; rw [hw9]; clear hw9 hha)
        all_goals go_ret
        all_goals first | exact ⟨rfl, (Below.refl _ w).alloc (Nat.le_refl _) _⟩ | (refine ⟨ret_bool ?_, (Below.refl _ w).alloc (Nat.le_refl _) _⟩; simp; omega)
  · have hv : may S.n ⟨k, s, a, t, ld⟩ = false := by rw [hM, decide_eq_false hk]; simp
    rw [hv]
    clear hM hv
    have h1 : ¬ k = 1 := by omega
    have h2 : ¬ k = 2 := by omega
    have h3 : ¬ k = 3 := by omega
    go_enter Tryz.func78, Tryz.ntmps78
    go_wp2
    go_ret
    first | exact ⟨rfl, (Below.refl _ w).alloc (Nat.le_refl _) _⟩ | (refine ⟨ret_bool ?_, (Below.refl _ w).alloc (Nat.le_refl _) _⟩; simp; omega)
end Go.Proofs.YtlacligofhinmaaGreat.K

namespace Go.Proofs.YtlacligofhinmaaGreat.K
open Go.RowKit Go.Maps Go.Proofs.YtlacligofhinmaaGreat Go.MuLone
attribute [local go_sem] Oper.semAt_some
set_option linter.unusedVariables false
set_option linter.unusedSimpArgs false
set_option maxRecDepth 100000

end Go.Proofs.YtlacligofhinmaaGreat.K

namespace Go.Proofs.YtlacligofhinmaaGreat.K
open Go.RowKit Go.Maps Go.Proofs.YtlacligofhinmaaGreat Go.MuLone
attribute [local go_sem] Oper.semAt_some
set_option linter.unusedVariables false
set_option linter.unusedSimpArgs false
set_option maxRecDepth 100000

theorem run_onef (w : World) (k s a t : Int) (ld : Bool) : (Instr.buildSlice TFas 1 #[(0, .agg #[.int .i64 k, .int .i64 s, .int .i64 a, .int .i64 t, .bool ld])]).run Tryz.prog w = .ok (.slice (some ⟨w.heap.size, 0, none⟩) 1 1) (w.alloc (.cells #[.int .i64 k, .int .i64 s, .int .i64 a, .int .i64 t, .bool ld] TFa)) := by
  obtain ⟨i0, hi, hz0, hz1, hz2⟩ := info_parts infoFa3
  refine run_buildSlice w TFas TFa 1 _ _ i0 _ Tryz.underlying123 hi hz0 (by rw [hz1]; decide) (by rw [hz1]; decide) ?_
  rw [hz1]
  generalize hA : (#[.int .i64 k, .int .i64 s, .int .i64 a, .int .i64 t, .bool ld] : Array Value) = A
  have hAs : A.size = 5 := by rw [← hA]; rfl
  obtain ⟨r, e, hs, g⟩ := fill_one (place := fun i => some (i * 5, 5)) (cells := (Array.range (1 * 5)).map ((Value.agg #[.int .i64 0, .int .i64 0, .int .i64 0, .int .i64 0, .bool false]).cells[· % (Value.agg #[.int .i64 0, .int .i64 0, .int .i64 0, .int .i64 0, .bool false]).cells.size]!)) (i := 0) (off := 0) (v := .agg A) (rest := []) (by simp [Value.cells, hAs]) (by simp [Value.cells, hAs])
  show Instr.fill _ _ [(0, Value.agg A)] = _
  rw [e]
  show some r = _
  congr 1
  apply Array.ext_getElem?
  intro j
  rw [g j]
  simp only [Value.cells, hAs]
  by_cases hk : 0 ≤ j ∧ j < 0 + 5
  · rw [if_pos hk]; rfl
  · rw [if_neg hk, Array.getElem?_eq_none (by simp; omega), Array.getElem?_eq_none (by rw [hAs]; omega)]
/-- a fault joins -/
theorem RK.armed {w w6 : World} {lk : Int} {b ms ml : Nat} {qv fv : Value} {S : Dk} {o : Obj} {g' cap' : Nat} {f : Flt} (h : RK w lk b ms ml qv fv S)
    (hg : (w.alloc o).grownBy w6 fv.ownBlock) (hown : w6.ownsRow 0 TFa 5 (.slice (some ⟨g', 0, none⟩) (S.fs.length + 1) cap') (S.fs.length + 1) (fcells S.fs ++ fcell f)) (hat : fv.ownBlock = some g' ∨ w.heap.size ≤ g') :
    w6.cell? ⟨b, 6, none⟩ = some fv ∧ w6.frozen? ⟨b, 6, none⟩ = false ∧ DAct w (w6.setCell ⟨b, 6, none⟩ (.slice (some ⟨g', 0, none⟩) (S.fs.length + 1) cap')) lk b ms ml ms ml qv fv qv (.slice (some ⟨g', 0, none⟩) (S.fs.length + 1) cap') { S with fs := S.fs ++ [f] } := by
  obtain ⟨a1, a2, a3, a4, a5, a6, a7, a8, a9⟩ := h.apart
  have hlt := h.lt
  have hkeep : ∀ i ∈ fp b ms ml qv fv, fv.ownBlock ≠ some i → w6.heap[i]? = w.heap[i]? := fun i hi h2 => by
    have := hlt i hi
    rw [hg.block i (by rw [World.size_alloc]; omega) (fun e => h2 e.symm), Below.heap_alloc _ _ _ (by omega)]
  have hblk := (hkeep b (by simp [fp]) a4).trans h.blk
  have hgb : g' ≠ b := by
    rcases hat with e | e
    · exact fun e' => a4 (by rw [e, e'])
    · have := hlt b (by simp [fp]); omega
  have hne : ∀ i, i ≠ b → (w6.setCell ⟨b, 6, none⟩ (.slice (some ⟨g', 0, none⟩) (S.fs.length + 1) cap')).heap[i]? = w6.heap[i]? := fun i hi => Below.heap_setCell _ _ _ _ hi
  obtain ⟨D, h1, h2⟩ := h.sm
  obtain ⟨D', h4, h5⟩ := h.lm
  refine ⟨(cell_of hblk).trans rfl, frozen_of hblk, ⟨blk_set hblk 6 _, h.n0, h.n1, ⟨D, ownsMap_block h1 ((hne ms (Ne.symm a1)).trans (hkeep ms (by simp [fp]) a7)), h2⟩, ⟨D', ownsMap_block h4 ((hne ml (Ne.symm a2)).trans (hkeep ml (by simp [fp]) a8)), h5⟩, ownsRow_block h.qr (fun x hx => (hne x (fun e => a3 (by rw [← e]; exact hx))).trans (hkeep x (by simp [fp, hx]) (a9 x hx))), ?_, h.ne, h.qok⟩, ?_, ?_⟩
  · have e1 : fcells (S.fs ++ [f]) = fcells S.fs ++ fcell f := by rw [fcells_append]; simp [fcells]
    have e2 : (S.fs ++ [f]).length = S.fs.length + 1 := by simp
    show World.ownsRow _ 0 TFa 5 _ (S.fs ++ [f]).length (fcells (S.fs ++ [f]))
    rw [e1, e2]
    exact ownsRow_block hown (fun g e => by simp [Value.ownBlock] at e; subst e; exact hne _ hgb)
  · exact Kp.set (Kp.grown (w' := w.alloc o) (Kp.of_below ((Below.refl _ w).alloc (Nat.le_refl _) o) _) hg (fun k e => .inl (by simp [fp, e]))) (.inl (by simp [fp])) _ _
  · intro i hi
    simp only [fp, Value.ownBlock, List.mem_cons, List.mem_append, Option.mem_toList, Option.some.injEq] at hi ⊢
    rcases hi with rfl | rfl | rfl | hi | rfl
    · simp
    · simp
    · simp
    · simp [hi]
    · rcases hat with e | e
      · exact .inl (.inr (.inr (.inr (.inr e))))
      · exact .inr e
def armS (S : Dk) (f : Flt) : Dk := { S with fs := S.fs ++ [f] }
set_option maxHeartbeats 4000000 in
theorem fault_any {w : World} {b ms ml : Nat} {qv fv : Value} {S : Dk} (h : RK w 0 b ms ml qv fv S) (hf : FsOk S.fs) (k s a t : Int) (ld : Bool) (hm : may S.n ⟨k, s, a, t, ld⟩ = true) (hlt : S.fs.length < 64) :
    Calls Tryz.prog 33 #[.pointer (some ⟨b, 0, none⟩), .agg #[.int .i64 k, .int .i64 s, .int .i64 a, .int .i64 t, .bool ld]] w fun r w' => r = .returned (.int .i64 0) ∧ ∃ fv', DAct w w' 0 b ms ml ms ml qv fv qv fv' (armS S ⟨k, s, a, t, ld⟩) := by
  obtain ⟨W0, hW0⟩ : ∃ W0, W0 = w.alloc (.cells #[.int .i64 k, .int .i64 s, .int .i64 a, .int .i64 t, .bool ld] TFa) := ⟨_, rfl⟩
  have hB0 : Below w.heap.size w W0 := by rw [hW0]; exact (Below.refl _ w).alloc (Nat.le_refl _) _
  have h0 := h.later hB0
  have hus := usable_any h0
  have c0 : W0.cell? ⟨b, 0, none⟩ = some (.int .i32 0) := h0.c 0
  have z0 := h0.fz 0
  have a1 := ((DAct.refl h0).put 0 (.int .i32 1) 1 S.st rfl).from_later hB0
  obtain ⟨w1, hw1⟩ : ∃ w1, w1 = W0.setCell ⟨b, 0, none⟩ (.int .i32 1) := ⟨_, rfl⟩
  rw [← hw1] at a1
  have hma := mayArm_any a1.rk k s a t ld
  rw [show may ({ S with st := S.st } : Dk).n ⟨k, s, a, t, ld⟩ = true from hm] at hma
  obtain ⟨ao, qc, rfl⟩ : ∃ ao qc, fv = .slice ao S.fs.length qc := by
    rcases h.fr.2 with ⟨rfl, h00⟩ | ⟨g, cap, cur, rfl, _⟩
    · exact ⟨_, _, by rw [h00]⟩
    · exact ⟨_, _, rfl⟩
  obtain ⟨m, hm'⟩ : ∃ m, m = S.fs.length := ⟨_, rfl⟩
  have HM : Hid (m = S.fs.length) := hm'
  rw [← hm'] at hlt
  have bx1 : w1.heap[w.heap.size]? = some (.cells #[.int .i64 k, .int .i64 s, .int .i64 a, .int .i64 t, .bool ld] TFa) := by
    have hbl := h.lt b (by simp [fp])
    rw [hw1, Below.heap_setCell _ _ _ _ (by show w.heap.size ≠ b; omega), hW0]
    exact heap_alloc_new w _
  have y0 : w1.cell? ⟨w.heap.size, 0, none⟩ = some (.int .i64 k) := (cell_of bx1).trans rfl
  have y1 : w1.cell? ⟨w.heap.size, 1, none⟩ = some (.int .i64 s) := (cell_of bx1).trans rfl
  have y2 : w1.cell? ⟨w.heap.size, 2, none⟩ = some (.int .i64 a) := (cell_of bx1).trans rfl
  have y3 : w1.cell? ⟨w.heap.size, 3, none⟩ = some (.int .i64 t) := (cell_of bx1).trans rfl
  have y4 : w1.cell? ⟨w.heap.size, 4, none⟩ = some (.bool ld) := (cell_of bx1).trans rfl
  have HBX : Hid (w1.heap[w.heap.size]? = some (.cells #[.int .i64 k, .int .i64 s, .int .i64 a, .int .i64 t, .bool ld] TFa)) := bx1
  have HA1 : Hid (DAct w w1 1 b ms ml ms ml qv (.slice ao m qc) qv (.slice ao m qc) S) := by show DAct _ _ _ _ _ _ _ _ _ _ _ _ _; rw [hm']; exact a1
  clear h h0 a1 hf hm hB0 hm' bx1
  subst hW0
  go_enter_defers Tryz.func33, Tryz.ntmps33
  go_wp2_with (first | (go_at_call 60; refine hus.mono ?_; rintro e w9 ⟨rfl, hw9⟩; rw [hw9]; clear hw9 hus) | (go_at_call 61; refine (lock_free Tryz.muLib ⟨b, 0, none⟩ _ c0 z0).mono ?_; rintro e w9 ⟨rfl, hw9⟩; rw [hw9, ← hw1]; clear hw9 hw1 c0 z0) | (go_at_call 78; refine hma.mono ?_; rintro e w2 ⟨rfl, hb2⟩; have HA2 : Hid (DAct w w2 1 b ms ml ms ml qv (.slice ao m qc) qv (.slice ao m qc) S) := HA1.out.later hb2; have x6 : w2.cell? ⟨b, 6, none⟩ = some (.slice ao m qc) := HA2.out.rk.c 6; clear hma))
  have hbx2 : w2.heap[w.heap.size]? = some (.cells #[.int .i64 k, .int .i64 s, .int .i64 a, .int .i64 t, .bool ld] TFa) := (hb2.block _ (Array.getElem?_eq_some_iff.1 HBX.out).1).trans HBX.out
  have v0 : w2.cell? ⟨w.heap.size, 0, none⟩ = some (.int .i64 k) := (cell_of hbx2).trans rfl
  have v1 : w2.cell? ⟨w.heap.size, 1, none⟩ = some (.int .i64 s) := (cell_of hbx2).trans rfl
  have v2 : w2.cell? ⟨w.heap.size, 2, none⟩ = some (.int .i64 a) := (cell_of hbx2).trans rfl
  have v3 : w2.cell? ⟨w.heap.size, 3, none⟩ = some (.int .i64 t) := (cell_of hbx2).trans rfl
  have v4 : w2.cell? ⟨w.heap.size, 4, none⟩ = some (.bool ld) := (cell_of hbx2).trans rfl
  have hone := fun W => run_onef W k s a t ld
  have x6d : w2.drew.cell? ⟨b, 6, none⟩ = some (.slice ao m qc) := x6
  have hBd : Below w2.heap.size w2 w2.drew := ⟨rfl, rfl, rfl, Nat.le_refl _, fun _ _ => rfl⟩
  have HA2d : Hid (DAct w w2.drew 1 b ms ml ms ml qv (.slice ao m qc) qv (.slice ao m qc) S) := HA2.out.later hBd
  have x6b : (w2.alloc (.cells #[.int .i64 k, .int .i64 s, .int .i64 a, .int .i64 t, .bool ld] TFa)).cell? ⟨b, 6, none⟩ = some (.slice ao m qc) := cell_later ((Below.refl _ w2).alloc (Nat.le_refl _) _) x6
  have x6a : (w2.drew.alloc (.cells #[.int .i64 k, .int .i64 s, .int .i64 a, .int .i64 t, .bool ld] TFa)).cell? ⟨b, 6, none⟩ = some (.slice ao m qc) := cell_later ((Below.refl _ w2.drew).alloc (Nat.le_refl _) _) x6d
  obtain ⟨i0, hi0, hz0, hz1, hz2⟩ := info_parts infoFa3
  have HQR : Hid (w2.drew.ownsRow 0 TFa 5 (.slice ao m qc) m (fcells S.fs)) := by
    have h1 := HA2d.out.rk.fr
    rw [← HM.out] at h1
    exact h1
  clear hBd hbx2 hb2 y0 y1 y2 y3 y4
  refine Code.wp_mono (Q := NoPanic _) NoPanic.imp ?_
  go_region_law
    (first
      | (refine step_append_lies _ (by rfl) _ _ TFas (by rfl) 0 TFa i0 _ 5 40 Tryz.underlying123 hi0 hz0 hz1 hz2 (by rfl) (by decide) (.slice ao m qc) m (fcells S.fs) (by rfl) (HQR.out.alloc _) ⟨w2.drew.heap.size, 0, none⟩ 1 1 (fcell ⟨k, s, a, t, ld⟩) (by rfl) (by rfl) (World.news_of_block (heap_alloc_new w2.drew _)) (fun u hu => fcells_one [⟨k, s, a, t, ld⟩] u (by simpa [fcells] using hu)) (by decide) (by unfold maxLen; omega) (by omega) (Nat.zero_le _) (w2.drew.heap.size + 1) (by exact World.size_alloc w2 _) ?_; intro g' cap' w6 hown' hgrow hat hlt'; have hfin := HA2d.out.rk.armed (f := ⟨k, s, a, t, ld⟩) hgrow (by rw [← HM.out]; exact hown') (hat.imp id (fun e => by omega)); have cq6 := hfin.1; have fq6 := hfin.2.1; have HA6 := HA2d.out.trans hfin.2.2; rw [← HM.out] at HA6; have HA7 : Hid (DAct w (w6.setCell ⟨b, 6, none⟩ (.slice (some ⟨g', 0, none⟩) (m + 1) cap')) 1 b ms ml ms ml qv (.slice ao m qc) qv (.slice (some ⟨g', 0, none⟩) (m + 1) cap') (armS S ⟨k, s, a, t, ld⟩)) := HA6; clear hfin hown' hgrow hat hlt' HA6))
  all_goals simp only [NoPanic]
  all_goals go_wp2
  all_goals refine leaves_cons (f := 62) (args := #[.pointer (some ⟨b, 0, none⟩)]) (by simp) (by simp [go_sem]) ?_
  all_goals refine (unlock_deferred Tryz.muLib ⟨b, 0, none⟩ .returning _ (HA7.out.rk.c 0) (HA7.out.rk.fz 0)).mono ?_
  all_goals rintro e u' w'' ⟨rfl, rfl, rfl⟩
  all_goals exact ⟨_, results_tmp rfl _ _ _, rfl, .slice (some ⟨g', 0, none⟩) (m + 1) cap', by rw [← HM.out]; exact HA7.out.put 0 (.int .i32 0) 0 S.st rfl⟩
set_option maxHeartbeats 4000000 in
theorem fault_bad {w : World} {b ms ml : Nat} {qv fv : Value} {S : Dk} (h : RK w 0 b ms ml qv fv S) (hf : FsOk S.fs) (k s a t : Int) (ld : Bool) (hm : may S.n ⟨k, s, a, t, ld⟩ = false ∨ 64 ≤ S.fs.length) :
    Calls Tryz.prog 33 #[.pointer (some ⟨b, 0, none⟩), .agg #[.int .i64 k, .int .i64 s, .int .i64 a, .int .i64 t, .bool ld]] w fun r w' => r = .returned (.int .i64 34) ∧ DAct w w' 0 b ms ml ms ml qv fv qv fv S := by
  obtain ⟨W0, hW0⟩ : ∃ W0, W0 = w.alloc (.cells #[.int .i64 k, .int .i64 s, .int .i64 a, .int .i64 t, .bool ld] TFa) := ⟨_, rfl⟩
  have hB0 : Below w.heap.size w W0 := by rw [hW0]; exact (Below.refl _ w).alloc (Nat.le_refl _) _
  have h0 := h.later hB0
  have hus := usable_any h0
  have c0 : W0.cell? ⟨b, 0, none⟩ = some (.int .i32 0) := h0.c 0
  have z0 := h0.fz 0
  have a1 := ((DAct.refl h0).put 0 (.int .i32 1) 1 S.st rfl).from_later hB0
  obtain ⟨w1, hw1⟩ : ∃ w1, w1 = W0.setCell ⟨b, 0, none⟩ (.int .i32 1) := ⟨_, rfl⟩
  rw [← hw1] at a1
  have hma := mayArm_any a1.rk k s a t ld
  obtain ⟨ao, qc, rfl⟩ : ∃ ao qc, fv = .slice ao S.fs.length qc := by
    rcases h.fr.2 with ⟨rfl, h00⟩ | ⟨g, cap, cur, rfl, _⟩
    · exact ⟨_, _, by rw [h00]⟩
    · exact ⟨_, _, rfl⟩
  obtain ⟨m, hm'⟩ : ∃ m, m = S.fs.length := ⟨_, rfl⟩
  have HM : Hid (m = S.fs.length) := hm'
  have hle : m ≤ 64 := by have := hf.le; omega
  rw [← hm'] at hm
  have bx1 : w1.heap[w.heap.size]? = some (.cells #[.int .i64 k, .int .i64 s, .int .i64 a, .int .i64 t, .bool ld] TFa) := by
    have hbl := h.lt b (by simp [fp])
    rw [hw1, Below.heap_setCell _ _ _ _ (by show w.heap.size ≠ b; omega), hW0]
    exact heap_alloc_new w _
  have y0 : w1.cell? ⟨w.heap.size, 0, none⟩ = some (.int .i64 k) := (cell_of bx1).trans rfl
  have y1 : w1.cell? ⟨w.heap.size, 1, none⟩ = some (.int .i64 s) := (cell_of bx1).trans rfl
  have y2 : w1.cell? ⟨w.heap.size, 2, none⟩ = some (.int .i64 a) := (cell_of bx1).trans rfl
  have y3 : w1.cell? ⟨w.heap.size, 3, none⟩ = some (.int .i64 t) := (cell_of bx1).trans rfl
  have y4 : w1.cell? ⟨w.heap.size, 4, none⟩ = some (.bool ld) := (cell_of bx1).trans rfl
  have HA1 : Hid (DAct w w1 1 b ms ml ms ml qv (.slice ao m qc) qv (.slice ao m qc) S) := by show DAct _ _ _ _ _ _ _ _ _ _ _ _ _; rw [hm']; exact a1
  have hma' : Calls Tryz.prog 78 #[.pointer (some ⟨b, 0, none⟩), .agg #[.int .i64 k, .int .i64 s, .int .i64 a, .int .i64 t, .bool ld]] w1 fun r w' => r = .returned (.bool (may S.n ⟨k, s, a, t, ld⟩)) ∧ Below w1.heap.size w1 w' := hma
  clear h h0 a1 hf hB0 hm' bx1 hma
  subst hW0
  by_cases hq : may S.n ⟨k, s, a, t, ld⟩ = false
  · rw [hq] at hma'
    clear hm hq
    go_enter_defers Tryz.func33, Tryz.ntmps33
    go_wp2_with (first | (go_at_call 60; refine hus.mono ?_; rintro e w9 ⟨rfl, hw9⟩; rw [hw9]; clear hw9 hus) | (go_at_call 61; refine (lock_free Tryz.muLib ⟨b, 0, none⟩ _ c0 z0).mono ?_; rintro e w9 ⟨rfl, hw9⟩; rw [hw9, ← hw1]; clear hw9 hw1 c0 z0) | (go_at_call 78; refine hma'.mono ?_; rintro e w2 ⟨rfl, hb2⟩; have HA2 : Hid (DAct w w2 1 b ms ml ms ml qv (.slice ao m qc) qv (.slice ao m qc) S) := HA1.out.later hb2; clear hma'))
    have a7 := HA2.out
    refine leaves_cons (f := 62) (args := #[.pointer (some ⟨b, 0, none⟩)]) (by simp) (by simp [go_sem]) ?_
    refine (unlock_deferred Tryz.muLib ⟨b, 0, none⟩ .returning _ (a7.rk.c 0) (a7.rk.fz 0)).mono ?_
    rintro e u' w'' ⟨rfl, rfl, rfl⟩
    exact ⟨_, results_tmp rfl _ _ _, rfl, by rw [← HM.out]; exact a7.put 0 (.int .i32 0) 0 S.st rfl⟩
  · have hq1 : may S.n ⟨k, s, a, t, ld⟩ = true := by simpa using hq
    rw [hq1] at hma'
    have h64 : m = 64 := by rcases hm with hm | hm; exact absurd hm hq; omega
    clear hm hq hq1 hle
    have x6 : w1.cell? ⟨b, 6, none⟩ = some (.slice ao m qc) := HA1.out.rk.c 6
    rw [h64] at x6
    go_enter_defers Tryz.func33, Tryz.ntmps33
    go_wp2_with (first | (go_at_call 60; refine hus.mono ?_; rintro e w9 ⟨rfl, hw9⟩; rw [hw9]; clear hw9 hus) | (go_at_call 61; refine (lock_free Tryz.muLib ⟨b, 0, none⟩ _ c0 z0).mono ?_; rintro e w9 ⟨rfl, hw9⟩; rw [hw9, ← hw1]; clear hw9 hw1 c0 z0) | (go_at_call 78; refine hma'.mono ?_; rintro e w2 ⟨rfl, hb2⟩; have HA2 : Hid (DAct w w2 1 b ms ml ms ml qv (.slice ao m qc) qv (.slice ao m qc) S) := HA1.out.later hb2; have x62 : w2.cell? ⟨b, 6, none⟩ = some (.slice ao 64 qc) := cell_later hb2 x6; clear hma'))
    have a7 := HA2.out
    refine leaves_cons (f := 62) (args := #[.pointer (some ⟨b, 0, none⟩)]) (by simp) (by simp [go_sem]) ?_
    refine (unlock_deferred Tryz.muLib ⟨b, 0, none⟩ .returning _ (a7.rk.c 0) (a7.rk.fz 0)).mono ?_
    rintro e u' w'' ⟨rfl, rfl, rfl⟩
    exact ⟨_, results_tmp rfl _ _ _, rfl, by rw [← HM.out]; exact a7.put 0 (.int .i32 0) 0 S.st rfl⟩
end Go.Proofs.YtlacligofhinmaaGreat.K

namespace Go.Proofs.YtlacligofhinmaaGreat.K
open Go.RowKit Go.Maps Go.Proofs.YtlacligofhinmaaGreat Go.MuLone
attribute [local go_sem] Oper.semAt_some
set_option linter.unusedVariables false
set_option linter.unusedSimpArgs false
set_option maxRecDepth 100000

abbrev TPt : TypeId := 74
abbrev TPts : TypeId := 71
/-- a write that is told: its sector, its bytes' slice, its bytes -/
abbrev Pv := Nat × Value × Bl
def qcell (p : Pv) : List Value := [.int .i64 p.1, p.2.1]
def qcells (l : List Pv) : List Value := l.flatMap qcell
def bare (p : Pv) : Pu := (p.1, p.2.2)
theorem qcells_append (a b : List Pv) : qcells (a ++ b) = qcells a ++ qcells b := by simp [qcells]
theorem qcells_len (l : List Pv) : (qcells l).length = l.length * 2 := by
  induction l with
  | nil => rfl
  | cons f l ih => simp only [qcells, List.flatMap_cons, List.length_append] at ih ⊢; rw [ih]; simp [qcell]; omega
/-- writes that are told, in memory of their own -/
structure Told (w : World) (B : Nat) (v : Value) (ps : List Pv) : Prop where
  row : w.ownsRow B TPt 2 v ps.length (qcells ps)
  dat : ∀ p ∈ ps, w.ownsRow B 5 1 p.2.1 512 (p.2.2.map bv)
  two : ps.Pairwise fun p q => p.2.1.ownBlock ≠ q.2.1.ownBlock
theorem infoPt : (Tryz.prog.info? TPt).map (fun i => (i.zero, i.size, i.bytes)) = some (some (.agg #[.int .i64 0, .slice none 0 0]), 2, 32) := by kernel_rfl

theorem run_onep (w : World) (s : Int) (v : Value) (hv : v.cells = #[v]) : (Instr.buildSlice TPts 1 #[(0, .agg #[.int .i64 s, v])]).run Tryz.prog w = .ok (.slice (some ⟨w.heap.size, 0, none⟩) 1 1) (w.alloc (.cells #[.int .i64 s, v] TPt)) := by
  obtain ⟨i0, hi, hz0, hz1, hz2⟩ := info_parts infoPt
  refine run_buildSlice w TPts TPt 1 _ _ i0 _ Tryz.underlying71 hi hz0 (by rw [hz1]; decide) (by rw [hz1]; decide) ?_
  rw [hz1]
  generalize hA : (#[.int .i64 s, v] : Array Value) = A
  have hAs : A.size = 2 := by rw [← hA]; rfl
  obtain ⟨r, e, hs, g⟩ := fill_one (place := fun i => some (i * 2, 2)) (cells := (Array.range (1 * 2)).map ((Value.agg #[.int .i64 0, .slice none 0 0]).cells[· % (Value.agg #[.int .i64 0, .slice none 0 0]).cells.size]!)) (i := 0) (off := 0) (v := .agg A) (rest := []) (by simp [Value.cells, hAs]) (by simp [Value.cells, hAs])
  show Instr.fill _ _ [(0, Value.agg A)] = _
  rw [e]
  show some r = _
  congr 1
  apply Array.ext_getElem?
  intro j
  rw [g j]
  simp only [Value.cells, hAs]
  by_cases hk : 0 ≤ j ∧ j < 0 + 2
  · rw [if_pos hk]; rfl
  · rw [if_neg hk, Array.getElem?_eq_none (by simp; omega), Array.getElem?_eq_none (by rw [hAs]; omega)]
/-- a row of one's own grows: the disk stays -/
theorem DAct.grown {w W W' : World} {lk : Int} {b ms ml ms' ml' : Nat} {qv fv qv' fv' : Value} {S : Dk} {row : Option Nat} (h : DAct w W lk b ms ml ms' ml' qv fv qv' fv' S) (hg : W.grownBy W' row) (hr : ∀ k, row = some k → w.heap.size ≤ k) (hn : ∀ i ∈ fp b ms' ml' qv' fv', row ≠ some i) : DAct w W' lk b ms ml ms' ml' qv fv qv' fv' S :=
  ⟨h.rk.same fun i hi => hg.block i (h.rk.lt i hi) (fun e => hn i hi e.symm), h.kp.grown hg (fun k e => .inr (hr k e)), h.sub⟩
theorem Told.step {w0 : Nat} {W W' : World} {t : Value} {ps : List Pv} (h : Told W w0 t ps) {s : Nat} {v t' : Value} {l : Bl} (hg : W.grownBy W' t.ownBlock) (hrow : W'.ownsRow w0 TPt 2 t' (ps.length + 1) (qcells ps ++ qcell (s, v, l))) (hv : W.ownsRow w0 5 1 v 512 (l.map bv)) (hnew : ∀ p ∈ ps, ∀ g, p.2.1.ownBlock = some g → v.ownBlock ≠ some g) : Told W' w0 t' (ps ++ [(s, v, l)]) := by
  have hk : ∀ (x : Value) (n : Nat) (xs : List Value), W.ownsRow w0 5 1 x n xs → W'.ownsRow w0 5 1 x n xs := fun x n xs hx => ownsRow_block hx fun g e => by
    obtain ⟨hl, cs, hc⟩ := row_lt hx g e
    refine hg.block g hl (fun e2 => ?_)
    obtain ⟨_, cs', hc'⟩ := row_lt h.row g e2.symm
    rw [hc] at hc'
    simp at hc'
    exact absurd hc'.2 (by decide)
  refine ⟨?_, fun p hp => ?_, ?_⟩
  · rw [qcells_append, List.length_append]
    simpa [qcells] using hrow
  · rcases List.mem_append.1 hp with hp | hp
    · exact hk _ _ _ (h.dat p hp)
    · simp at hp; subst hp; exact hk _ _ _ hv
  · rw [List.pairwise_append]
    refine ⟨h.two, by simp, fun p hp q hq => ?_⟩
    simp at hq
    subst hq
    intro e
    rcases (h.dat p hp).2 with ⟨_, h0⟩ | ⟨g, c, cur, e2, _⟩
    · cases h0
    · have e3 : p.2.1.ownBlock = some g := by rw [e2]; rfl
      exact hnew p hp g e3 (by rw [← e3]; exact e.symm)
theorem Told.later {W W' : World} {B : Nat} {v : Value} {ps : List Pv} (h : Told W B v ps) (hb : Below W.heap.size W W') : Told W' B v ps :=
  ⟨ownsRow_block h.row (fun g e => hb.block g (row_lt h.row g e).1), fun p hp => ownsRow_block (h.dat p hp) (fun g e => hb.block g (row_lt (h.dat p hp) g e).1), h.two⟩

set_option maxHeartbeats 8000000 in
theorem queue_any {w : World} {b ms ml : Nat} {qv fv : Value} {S : Dk} (h : RK w 0 b ms ml qv fv S) (hql : S.q.length ≤ 1048576) :
    Calls Tryz.prog 23 #[.pointer (some ⟨b, 0, none⟩)] w fun r w' => ∃ v ps, r = .returned v ∧ Told w' w.heap.size v ps ∧ ps.map bare = S.q ∧ DAct w w' 0 b ms ml ms ml qv fv qv fv S := by
  have hz := zeroPu
  obtain ⟨ao, qc, rfl⟩ : ∃ ao qc, qv = .slice ao S.q.length qc := by
    rcases h.qr.2 with ⟨rfl, h0⟩ | ⟨g, cap, cur, rfl, _⟩
    · exact ⟨_, _, by rw [h0]⟩
    · exact ⟨_, _, rfl⟩
  have hus := usable_any h
  have c0 : w.cell? ⟨b, 0, none⟩ = some (.int .i32 0) := h.c 0
  have z0 := h.fz 0
  have a1 := (DAct.refl h).put 0 (.int .i32 1) 1 S.st rfl
  obtain ⟨w1, hw1⟩ : ∃ w1, w1 = w.setCell ⟨b, 0, none⟩ (.int .i32 1) := ⟨_, rfl⟩
  rw [← hw1] at a1
  obtain ⟨m, hm⟩ : ∃ m, m = S.q.length := ⟨_, rfl⟩
  have c4 : w1.cell? ⟨b, 4, none⟩ = some (.slice ao m qc) := by rw [hm]; exact a1.rk.c 4
  have HA1 : Hid (DAct w w1 1 b ms ml ms ml (.slice ao S.q.length qc) fv (.slice ao S.q.length qc) fv S) := a1
  have HM : Hid (m = S.q.length) := hm
  have hml : m ≤ 1048576 := by omega
  have HLt : Hid (∀ i ∈ fp b ms ml (.slice ao S.q.length qc) fv, i < w.heap.size) := h.lt
  clear h a1 hm hql
  go_enter_defers Tryz.func23, Tryz.ntmps23
  go_wp2_with (first | (go_at_call 60; refine hus.mono ?_; rintro e w9 ⟨rfl, hw9⟩; rw [hw9]; clear hw9 hus) | (go_at_call 61; refine (lock_free Tryz.muLib ⟨b, 0, none⟩ _ c0 z0).mono ?_; rintro e w9 ⟨rfl, hw9⟩; rw [hw9, ← hw1]; clear hw9 hw1 c0 z0))
  go_loopw [3, 21] (fun t i wr => ∃ (n : Nat) (ps : List Pv), n ≤ m ∧ i = .int .i64 n ∧ Hid (ps.map bare = S.q.take n) ∧ Hid (Told wr w.heap.size t ps) ∧ Hid (DAct w wr 1 b ms ml ms ml (.slice ao S.q.length qc) fv (.slice ao S.q.length qc) fv S)) (fun _ i _ => m - (intOf i).toNat)
  case atStart => exact ⟨0, [], Nat.zero_le _, rfl, by rfl, ⟨World.ownsRow_nil _ _ _ _, by simp, by simp⟩, HA1⟩
  case round =>
    obtain ⟨n, ps, hn, rfl, HP, HT, HA⟩ := hrel
    by_cases hlt : n < m
    · obtain ⟨p, hp⟩ : ∃ p, S.q[n]? = some p := ⟨_, List.getElem?_eq_getElem (by have := HM.out; omega)⟩
      obtain ⟨s, l⟩ := p
      have hrk := HA.out.rk
      obtain ⟨hsn, hok⟩ := hrk.qok (s, l) (List.mem_of_getElem? hp)
      obtain ⟨g, cap', hgq, hcs, hrg⟩ := queue_at hrk.qr (fun p hp => (hrk.qok p hp).2) (i := n) hp
      have hao : ao = some ⟨g, 0, none⟩ := by simp at hgq; exact hgq.1
      subst hao
      obtain ⟨A, hA⟩ : ∃ A, A = Pc s l := ⟨_, rfl⟩
      have HR : Hid (wr.rangeAt g (n * 513) A.toList) := fun j v hv => by
        rw [hA, Pc_list] at hv
        cases j with
        | zero => simp [pcell] at hv; subst hv; exact hcs
        | succ j => simp only [pcell, List.getElem?_cons_succ] at hv; have := hrg j v hv; rw [show n * 513 + (j + 1) = n * 513 + 1 + j by omega]; exact this
      have HZ2 : Hid ((Tryz.prog.info? TPu).map (·.size) = some A.toList.length) := by show _ = _; rw [hA, Array.length_toList, Pc_size hok]; exact sizePu
      have HZ3 : Hid ((Tryz.prog.info? TPu).map (·.size) = some A.size) := by show _ = _; rw [hA, Pc_size hok]; exact sizePu
      have hg0 := heap_alloc_new wr (.cells Zp TPu)
      have HT0 : Hid ((wr.alloc (.cells Zp TPu)).there wr.heap.size 0 A.size) := there_row hg0 (by rw [hA, Pc_size hok, Zp_size]; decide)
      have HE : Hid ((wr.alloc (.cells Zp TPu)).setCells wr.heap.size 0 A.toList = wr.alloc (.cells A TPu)) := by show _ = _; rw [hA]; exact (setCells_put hok hg0 Zp_size).trans (World.setRow_alloc_new wr Zp (Pc s l) TPu)
      have hb1 : Below wr.heap.size wr (wr.alloc (.cells A TPu)) := (Below.refl _ wr).alloc (Nat.le_refl _) _
      have HG1 : Hid ((wr.alloc (.cells A TPu)).heap[wr.heap.size]? = some (.cells A TPu)) := heap_alloc_new wr _
      have HPO : Hid (A.all (·.oneCell') = true) := by show _ = _; rw [hA]; exact Pc_one s l
      have hnl : (n : Int) < (m : Int) := by omega
      have k0 : (wr.alloc (.cells A TPu)).cell? ⟨wr.heap.size, 0, none⟩ = some (.int .i64 s) := (cell_of HG1.out).trans (by rw [hA]; unfold Pc; rw [Array.getElem?_append_left (by simp)]; rfl)
      have hpl : ps.length = n := by
        have := congrArg List.length HP.out
        rw [List.length_map, List.length_take] at this
        have := HM.out
        omega
      obtain ⟨to, tc, rfl⟩ : ∃ to tc, u3 = .slice to n tc := by
        rcases HT.out.row.2 with ⟨rfl, h0⟩ | ⟨g, cap, cur, rfl, _⟩
        · exact ⟨_, _, by rw [← hpl, h0]⟩
        · exact ⟨_, _, by rw [hpl]⟩
      have HPl : Hid (ps.length = n) := hpl
      have HPn : Hid (S.q[n]? = some (s, l)) := hp
      have HAE : Hid (A = Pc s l) := hA
      have HBR : Hid (BRow (wr.alloc (.cells A TPu)).drew (some ⟨wr.heap.size, 1, none⟩) 512 l) := by
        refine ⟨hok.lt, by rw [hok.len]; decide, (fun e => by cases e), fun _ => ⟨wr.heap.size, 1, rfl, fun k hk => ?_⟩⟩
        show (wr.alloc (.cells A TPu)).cell? _ = _
        rw [cell_of HG1.out, hA]
        unfold Pc
        rw [Array.getElem?_append_right (by simp)]
        simp [Lc, hk]
      have HCl := clone_some ⟨wr.heap.size, 1, none⟩ 512 512 l (wr.alloc (.cells A TPu)).drew HBR.out hok.len (by decide)
      have HCL : Hid (Calls Tryz.prog 43 #[.slice (some ⟨wr.heap.size, 1, none⟩) 512 512] (wr.alloc (.cells A TPu)).drew fun e w' => ∃ v, e = .returned v ∧ w'.ownsRow (wr.alloc (.cells A TPu)).drew.heap.size 5 1 v 512 (l.map bv) ∧ Below (wr.alloc (.cells A TPu)).drew.heap.size (wr.alloc (.cells A TPu)).drew w') := HCl
      have hBW : Below wr.heap.size wr (wr.alloc (.cells A TPu)).drew := ⟨hb1.os, hb1.tape, hb1.output, hb1.size, hb1.block⟩
      have HTd : Hid (Told (wr.alloc (.cells A TPu)).drew w.heap.size (.slice to n tc) ps) := HT.out.later hBW
      have HAd : Hid (DAct w (wr.alloc (.cells A TPu)).drew 1 b ms ml ms ml (.slice (some ⟨g, 0, none⟩) S.q.length qc) fv (.slice (some ⟨g, 0, none⟩) S.q.length qc) fv S) := HA.out.later hBW
      obtain ⟨i0, hi0, hz0, hz1, hz2⟩ := info_parts infoPt
      have HSz : Hid (w.heap.size ≤ wr.heap.size) := HA.out.kp.size
      clear hg0 hcs hrg hgq hb1 hA HCl hBW hrk hok hsn hpl hp
      go_wp2_with (first | (refine is_load TPu _ rfl ?_; refine wpList_load_mid rfl TPu _ rfl g (n * 513) rfl A.toList _ HR.out Tryz.underlying138 rfl HZ2.out ?_) | (refine is_store TPu _ _ rfl ?_; refine wpList_store_mid rfl TPu _ _ rfl wr.heap.size 0 A rfl rfl HT0.out HZ3.out HPO.out ?_; rw [HE.out]))
      refine Code.wp_mono (Q := NoPanic _) NoPanic.imp ?_
      go_region_law
        (first
          | (go_simp; go_at_call 43; refine HCL.out.mono ?_; rintro r w5 ⟨v, rfl, ho5, hb5⟩; obtain ⟨gd, cd, cur5, rfl, hgd, hkd, hcd⟩ := own_form ho5 (by decide); have HO5 : Hid (w5.ownsRow (wr.alloc (.cells A TPu)).drew.heap.size 5 1 (.slice (some ⟨gd, 0, none⟩) 512 cd) 512 (l.map bv)) := ho5; have HT5 : Hid (Told w5 w.heap.size (.slice to n tc) ps) := HTd.out.later hb5; have HD5 : Hid (DAct w w5 1 b ms ml ms ml (.slice (some ⟨g, 0, none⟩) S.q.length qc) fv (.slice (some ⟨g, 0, none⟩) S.q.length qc) fv S) := HAd.out.later hb5; have hone := fun W => run_onep W s (.slice (some ⟨gd, 0, none⟩) 512 cd) rfl; have k05 : w5.cell? ⟨wr.heap.size, 0, none⟩ = some (.int .i64 s) := cell_later hb5 k0; have HB5 : Hid (Below (wr.alloc (.cells A TPu)).drew.heap.size (wr.alloc (.cells A TPu)).drew w5) := hb5; have HGd : Hid ((wr.alloc (.cells A TPu)).drew.heap.size ≤ gd) := hgd; clear hgd hb5 ho5 hkd hcd; dsimp only)
          | (refine step_append_lies _ (by rfl) _ _ TPts (by rfl) w.heap.size TPt i0 _ 2 32 Tryz.underlying71 hi0 hz0 hz1 hz2 (by rfl) (by decide) (.slice to n tc) n (qcells ps) (by rfl) ((by have h1 := HT5.out.row; rw [HPl.out] at h1; exact h1 : w5.ownsRow w.heap.size TPt 2 (.slice to n tc) n (qcells ps)).alloc _) ⟨w5.heap.size, 0, none⟩ 1 1 (qcell (s, .slice (some ⟨gd, 0, none⟩) 512 cd, l)) (by rfl) (by rfl) (World.news_of_block (heap_alloc_new w5 _)) (fun u hu => by simp [qcell] at hu; rcases hu with rfl | rfl <;> rfl) (by decide) (by unfold maxLen; omega) (by omega) (by rw [World.size_alloc]; have h1 := HB5.out.size; have h2 := HSz.out; have h3 : wr.heap.size ≤ (wr.alloc (.cells A TPu)).drew.heap.size := (by show _ ≤ (wr.alloc (.cells A TPu)).heap.size; rw [World.size_alloc]; omega); omega) (w5.heap.size + 1) (by rw [World.size_alloc]) ?_; intro g' cap' w6 hown' hgrow hat hlt'; have hal : Below w5.heap.size w5 (w5.alloc (.cells #[.int .i64 s, .slice (some ⟨gd, 0, none⟩) 512 cd] TPt)) := (Below.refl _ w5).alloc (Nat.le_refl _) _; have HT6 : Hid (Told w6 w.heap.size (.slice (some ⟨g', 0, none⟩) (n + 1) cap') (ps ++ [(s, .slice (some ⟨gd, 0, none⟩) 512 cd, l)])) := Told.step (HT5.out.later hal) hgrow (by rw [HPl.out]; exact hown') ((owns_mono HO5.out (by have h2 := HSz.out; have h3 : wr.heap.size ≤ (wr.alloc (.cells A TPu)).drew.heap.size := (by show _ ≤ (wr.alloc (.cells A TPu)).heap.size; rw [World.size_alloc]; omega); omega)).alloc _) (fun p hp x e e2 => by have h1 := (row_lt (HTd.out.dat p hp) x e).1; have h2 := HGd.out; simp [Value.ownBlock] at e2; omega); have HD6 : Hid (DAct w w6 1 b ms ml ms ml (.slice (some ⟨g, 0, none⟩) S.q.length qc) fv (.slice (some ⟨g, 0, none⟩) S.q.length qc) fv S) := (HD5.out.later hal).grown hgrow (fun k e => (HT5.out.row.lt k e).1) (fun i hi e => by have h1 := HLt.out i hi; have h2 := (HT5.out.row.lt i e).1; omega); clear hal hown' hgrow hat hlt' HTd HAd))
      all_goals simp only [NoPanic]
      all_goals go_wp2
      all_goals go_roundw
      all_goals first
        | exact ⟨n + 1, ps ++ [(s, .slice (some ⟨gd, 0, none⟩) 512 cd, l)], by omega, by go_num, (by show _ = _; rw [List.map_append, HP.out, List.take_add_one, HPn.out]; rfl), HT6, HD6⟩
        | (simp [intOf]; omega)
    · have e : n = m := by omega
      subst e
      have hT := HT.out
      have hP : ps.map bare = S.q := by rw [HP.out, List.take_of_length_le (by have := HM.out; omega)]
      have HPE : Hid (ps.map bare = S.q) := hP
      have hbl := HLt.out b (by simp [fp])
      have HBL : Hid (b < w.heap.size) := hbl
      clear hP hbl
      go_wp2
      have a7 := HA.out
      refine leaves_cons (f := 62) (args := #[.pointer (some ⟨b, 0, none⟩)]) (by simp) (by simp [go_sem]) ?_
      refine (unlock_deferred Tryz.muLib ⟨b, 0, none⟩ .returning _ (a7.rk.c 0) (a7.rk.fz 0)).mono ?_
      rintro e u' w'' ⟨rfl, rfl, rfl⟩
      refine ⟨_, results_tmp rfl _ _ _, _, ps, rfl, ?_, HPE.out, a7.put 0 (.int .i32 0) 0 S.st rfl⟩
      have hs : ∀ (T size n : Nat) (v : Value) (xs : List Value), wr.ownsRow w.heap.size T size v n xs → (wr.setCell ⟨b, 0, none⟩ (.int .i32 0)).ownsRow w.heap.size T size v n xs := fun T size n v xs h => ownsRow_block h (fun g e => Below.heap_setCell _ _ _ _ (by have := (h.lt g e).1; have := HBL.out; show g ≠ b; omega))
      exact ⟨hs _ _ _ _ _ hT.row, fun p hp => hs _ _ _ _ _ (hT.dat p hp), hT.two⟩
end Go.Proofs.YtlacligofhinmaaGreat.K

namespace Go.Proofs.YtlacligofhinmaaGreat.K
open Go.RowKit Go.Maps Go.Proofs.YtlacligofhinmaaGreat Go.MuLone
attribute [local go_sem] Oper.semAt_some
set_option linter.unusedVariables false
set_option linter.unusedSimpArgs false
set_option maxRecDepth 100000

set_option maxHeartbeats 4000000 in
theorem read_hitless {w : World} {b ms ml : Nat} {qv fv : Value} {S : Dk} (h : RK w 0 b ms ml qv fv S) (hf : FsOk S.fs) {s : Nat} (hs : s < S.n) (hh : hitF S.fs 1 s = false) :
    Calls Tryz.prog 45 #[.pointer (some ⟨b, 0, none⟩), .int .i64 s] w fun r w' => ∃ v fv1, r = .returned (.tuple #[v, .int .i64 0]) ∧ w'.ownsRow w.heap.size 5 1 v 512 ((look S s).map bv) ∧ DAct w w' 0 b ms ml ms ml qv fv qv fv1 (readS (failS S 1 s)) := by
  have hus := usable_any h
  have c0 : w.cell? ⟨b, 0, none⟩ = some (.int .i32 0) := h.c 0
  have z0 := h.fz 0
  have a1 := (DAct.refl h).put 0 (.int .i32 1) 1 S.st rfl
  obtain ⟨w1, hw1⟩ : ∃ w1, w1 = w.setCell ⟨b, 0, none⟩ (.int .i32 1) := ⟨_, rfl⟩
  rw [← hw1] at a1
  have h1 : RK w1 1 b ms ml qv fv S := a1.rk
  have hha := has_any h1 s
  rw [decide_eq_true (show 0 ≤ (s : Int) ∧ (s : Int) < S.n by omega)] at hha
  have hfa := fail_gen h1 hf 1 s
  rw [hh] at hfa
  have hok := look_ok h hs
  have HA1 : Hid (DAct w w1 1 b ms ml ms ml qv fv qv fv S) := a1
  have HS : Hid (s < S.n) := hs
  have HL : Hid (OkB (look S s)) := hok
  have hz := zeroBl
  have HZ : Hid ((Tryz.prog.info? TBl).map (·.size) = some (Lc (look S s)).size) := by show _ = _; rw [Lc_size hok]; exact sizeBl
  generalize hlk : look S s = l at *
  have HE : Hid (look (readS (failS S 1 s)) s = l) := by show look (readS (failS S 1 s)) s = l; rw [← hlk]; unfold look readS; rw [show (failS S 1 s).q = S.q from failS_q S 1 s, show (failS S 1 s).safe = S.safe from failS_safe S 1 s]
  have HSF : Hid (s < (failS S 1 s).n) := by show _ < _; rw [failS_n]; exact hs
  obtain ⟨S1, hS1⟩ : ∃ S1, S1 = failS S 1 s := ⟨_, rfl⟩
  rw [← hS1] at hfa HE HSF ⊢
  generalize landF S.fs 1 s = ld at hfa
  clear h h1 a1 hs hf hok hlk hh hS1
  go_enter_defers Tryz.func45, Tryz.ntmps45
  go_wp2_with (first | (go_at_call 60; refine hus.mono ?_; rintro e w9 ⟨rfl, hw9⟩; rw [hw9]; clear hw9 hus) | (go_at_call 61; refine (lock_free Tryz.muLib ⟨b, 0, none⟩ _ c0 z0).mono ?_; rintro e w9 ⟨rfl, hw9⟩; rw [hw9, ← hw1]; clear hw9 hw1 c0 z0) | (go_at_call 96; refine hha.mono ?_; rintro e w9 ⟨rfl, hw9⟩; rw [hw9]; clear hw9 hha) | (go_at_call 97; refine hfa.mono ?_; rintro e w2 ⟨a0, a1, a2, a3, fv1, rfl, d2⟩; have g3 : DAct w (w2.alloc (.cells #[.int .i64 a0, .int .i64 a1, .int .i64 a2, .int .i64 a3, .bool ld] TFa)) 1 b ms ml ms ml qv fv qv fv1 S1 := (HA1.out.trans d2).later ((Below.refl _ w2).alloc (Nat.le_refl _) _); have c7 : (w2.alloc (.cells #[.int .i64 a0, .int .i64 a1, .int .i64 a2, .int .i64 a3, .bool ld] TFa)).cell? ⟨b, 7, none⟩ = some (.int .u64 S1.st.reads) := g3.rk.c 7; have z7 := g3.rk.fz 7; have g4 := g3.put 7 (.int .u64 (inc S1.st.reads)) 1 { S1.st with reads := inc S1.st.reads } rfl; have HA4 : Hid (DAct w ((w2.alloc (.cells #[.int .i64 a0, .int .i64 a1, .int .i64 a2, .int .i64 a3, .bool ld] TFa)).setCell ⟨b, 7, none⟩ (.int .u64 (inc S1.st.reads))) 1 b ms ml ms ml qv fv qv fv1 (readS S1)) := g4; clear d2 hfa g3 g4) | (go_at_call 98; refine (reads_any HA4.out.rk HSF.out).mono ?_; rintro e w5 ⟨rfl, hb5⟩; rw [HE.out]; have hg5 := heap_alloc_new w5 (.cells Zc TBl); have HT5 : Hid ((w5.alloc (.cells Zc TBl)).there w5.heap.size 0 (Lc l).size) := there_row hg5 (by rw [Lc_size HL.out, Zc_size]; decide); have he5 : (w5.alloc (.cells Zc TBl)).setCells w5.heap.size 0 (Lc l).toList = w5.alloc (.cells (Lc l) TBl) := ((setCells_row HL.out hg5 Zc_size).trans (World.setRow_alloc_new w5 Zc (Lc l) TBl)); have HE5 : Hid ((w5.alloc (.cells Zc TBl)).setCells w5.heap.size 0 (Lc l).toList = w5.alloc (.cells (Lc l) TBl)) := he5; have a6 : DAct w (w5.alloc (.cells (Lc l) TBl)) 1 b ms ml ms ml qv fv qv fv1 (readS S1) := (HA4.out.later hb5).later ((Below.refl _ w5).alloc (Nat.le_refl _) _); have HA6 : Hid (DAct w (w5.alloc (.cells (Lc l) TBl)) 1 b ms ml ms ml qv fv qv fv1 (readS S1)) := a6; have hcl := clone_some ⟨w5.heap.size, 0, none⟩ 512 512 l (w5.alloc (.cells (Lc l) TBl)) (brow_box HL.out (heap_alloc_new w5 _) 512) HL.out.len (by decide); clear hg5 he5 a6 hb5) | (refine wpList_store_mid rfl TBl _ _ rfl w5.heap.size 0 (Lc l) rfl rfl HT5.out HZ.out (Lc_one l) ?_; rw [HE5.out]) | (go_at_call 43; refine hcl.mono ?_; rintro e w7 ⟨v, rfl, ho7, hb7⟩))
  have a7 := HA6.out.later hb7
  refine leaves_cons (f := 62) (args := #[.pointer (some ⟨b, 0, none⟩)]) (by simp) (by simp [go_sem]) ?_
  refine (unlock_deferred Tryz.muLib ⟨b, 0, none⟩ .returning _ (a7.rk.c 0) (a7.rk.fz 0)).mono ?_
  rintro e u' w'' ⟨rfl, rfl, rfl⟩
  refine ⟨_, results_tmp2 rfl _ _ _, v, fv1, rfl, ?_, a7.put 0 (.int .i32 0) 0 (readS S1).st rfl⟩
  have hk := HA6.out.kp.size
  have hbl := HA6.out.rk.lt b (by simp [fp])
  refine ownsRow_block (owns_mono ho7 hk) (fun g hg => Below.heap_setCell _ _ _ _ ?_)
  have := (ho7.lt g hg).1
  show g ≠ b
  omega
set_option maxHeartbeats 4000000 in
theorem read_hit {w : World} {b ms ml : Nat} {qv fv : Value} {S : Dk} (h : RK w 0 b ms ml qv fv S) (hf : FsOk S.fs) {s : Nat} (hs : s < S.n) (hh : hitF S.fs 1 s = true) :
    Calls Tryz.prog 45 #[.pointer (some ⟨b, 0, none⟩), .int .i64 s] w fun r w' => ∃ fv1, r = .returned (.tuple #[.slice none 0 0, .int .i64 33]) ∧ DAct w w' 0 b ms ml ms ml qv fv qv fv1 (failS S 1 s) := by
  have hus := usable_any h
  have c0 : w.cell? ⟨b, 0, none⟩ = some (.int .i32 0) := h.c 0
  have z0 := h.fz 0
  have a1 := (DAct.refl h).put 0 (.int .i32 1) 1 S.st rfl
  obtain ⟨w1, hw1⟩ : ∃ w1, w1 = w.setCell ⟨b, 0, none⟩ (.int .i32 1) := ⟨_, rfl⟩
  rw [← hw1] at a1
  have h1 : RK w1 1 b ms ml qv fv S := a1.rk
  have hha := has_any h1 s
  rw [decide_eq_true (show 0 ≤ (s : Int) ∧ (s : Int) < S.n by omega)] at hha
  have hfa := fail_gen h1 hf 1 s
  rw [hh] at hfa
  have HA1 : Hid (DAct w w1 1 b ms ml ms ml qv fv qv fv S) := a1
  obtain ⟨S1, hS1⟩ : ∃ S1, S1 = failS S 1 s := ⟨_, rfl⟩
  rw [← hS1] at hfa ⊢
  generalize landF S.fs 1 s = ld at hfa
  clear h h1 a1 hs hf hh hS1
  go_enter_defers Tryz.func45, Tryz.ntmps45
  go_wp2_with (first | (go_at_call 60; refine hus.mono ?_; rintro e w9 ⟨rfl, hw9⟩; rw [hw9]; clear hw9 hus) | (go_at_call 61; refine (lock_free Tryz.muLib ⟨b, 0, none⟩ _ c0 z0).mono ?_; rintro e w9 ⟨rfl, hw9⟩; rw [hw9, ← hw1]; clear hw9 hw1 c0 z0) | (go_at_call 96; refine hha.mono ?_; rintro e w9 ⟨rfl, hw9⟩; rw [hw9]; clear hw9 hha) | (go_at_call 97; refine hfa.mono ?_; rintro e w2 ⟨a0, a1, a2, a3, fv1, rfl, d2⟩; have HA4 : Hid (DAct w (w2.alloc (.cells #[.int .i64 a0, .int .i64 a1, .int .i64 a2, .int .i64 a3, .bool ld] TFa)) 1 b ms ml ms ml qv fv qv fv1 S1) := (HA1.out.trans d2).later ((Below.refl _ w2).alloc (Nat.le_refl _) _); clear d2 hfa))
  have a7 := HA4.out
  refine leaves_cons (f := 62) (args := #[.pointer (some ⟨b, 0, none⟩)]) (by simp) (by simp [go_sem]) ?_
  refine (unlock_deferred Tryz.muLib ⟨b, 0, none⟩ .returning _ (a7.rk.c 0) (a7.rk.fz 0)).mono ?_
  rintro e u' w'' ⟨rfl, rfl, rfl⟩
  exact ⟨_, results_tmp2 rfl _ _ _, fv1, rfl, a7.put 0 (.int .i32 0) 0 S1.st rfl⟩
end Go.Proofs.YtlacligofhinmaaGreat.K

namespace Go.Proofs.YtlacligofhinmaaGreat.K
open Go.RowKit Go.Maps Go.Proofs.YtlacligofhinmaaGreat Go.MuLone
attribute [local go_sem] Oper.semAt_some
set_option linter.unusedVariables false
set_option linter.unusedSimpArgs false
set_option maxRecDepth 100000

attribute [local go_sem ↓] putOf_eq rowOf_eq
set_option maxHeartbeats 4000000 in
theorem write_out {w : World} {b ms ml : Nat} {qv fv : Value} {S : Dk} (h : RK w 0 b ms ml qv fv S) {s : Int} (hs : ¬ (0 ≤ s ∧ s < S.n)) (m : Nat) (ao : Option Addr) (cap : Nat) :
    Calls Tryz.prog 114 #[.pointer (some ⟨b, 0, none⟩), .int .i64 s, .slice ao m cap] w fun r w' => r = .returned (.int .i64 31) ∧ DAct w w' 0 b ms ml ms ml qv fv qv fv S := by
  have hus := usable_any h
  have c0 : w.cell? ⟨b, 0, none⟩ = some (.int .i32 0) := h.c 0
  have z0 := h.fz 0
  have a1 := (DAct.refl h).put 0 (.int .i32 1) 1 S.st rfl
  obtain ⟨w1, hw1⟩ : ∃ w1, w1 = w.setCell ⟨b, 0, none⟩ (.int .i32 1) := ⟨_, rfl⟩
  rw [← hw1] at a1
  have h1 : RK w1 1 b ms ml qv fv S := a1.rk
  have hha := has_any h1 s
  rw [decide_eq_false hs] at hha
  have HA1 : Hid (DAct w w1 1 b ms ml ms ml qv fv qv fv S) := a1
  clear h h1 a1 hs
  go_enter_defers Tryz.func114, Tryz.ntmps114
  go_wp2_with (first | (go_at_call 60; refine hus.mono ?_; rintro e w9 ⟨rfl, hw9⟩; rw [hw9]; clear hw9 hus) | (go_at_call 61; refine (lock_free Tryz.muLib ⟨b, 0, none⟩ _ c0 z0).mono ?_; rintro e w9 ⟨rfl, hw9⟩; rw [hw9, ← hw1]; clear hw9 hw1 c0 z0) | (go_at_call 96; refine hha.mono ?_; rintro e w9 ⟨rfl, hw9⟩; rw [hw9]; clear hw9 hha))
  have a7 := HA1.out
  refine leaves_cons (f := 62) (args := #[.pointer (some ⟨b, 0, none⟩)]) (by simp) (by simp [go_sem]) ?_
  refine (unlock_deferred Tryz.muLib ⟨b, 0, none⟩ .returning _ (a7.rk.c 0) (a7.rk.fz 0)).mono ?_
  rintro e u' w'' ⟨rfl, rfl, rfl⟩
  exact ⟨_, results_tmp rfl _ _ _, rfl, a7.put 0 (.int .i32 0) 0 S.st rfl⟩
set_option maxHeartbeats 4000000 in
theorem write_len {w : World} {b ms ml : Nat} {qv fv : Value} {S : Dk} (h : RK w 0 b ms ml qv fv S) {s : Nat} (hs : s < S.n) {m : Nat} (hm : m ≠ 512) (hm1 : m ≤ 140737488351232) (ao : Option Addr) (cap : Nat) :
    Calls Tryz.prog 114 #[.pointer (some ⟨b, 0, none⟩), .int .i64 s, .slice ao m cap] w fun r w' => r = .returned (.int .i64 32) ∧ DAct w w' 0 b ms ml ms ml qv fv qv fv S := by
  have hus := usable_any h
  have c0 : w.cell? ⟨b, 0, none⟩ = some (.int .i32 0) := h.c 0
  have z0 := h.fz 0
  have a1 := (DAct.refl h).put 0 (.int .i32 1) 1 S.st rfl
  obtain ⟨w1, hw1⟩ : ∃ w1, w1 = w.setCell ⟨b, 0, none⟩ (.int .i32 1) := ⟨_, rfl⟩
  rw [← hw1] at a1
  have h1 : RK w1 1 b ms ml qv fv S := a1.rk
  have hha := has_any h1 s
  rw [decide_eq_true (show 0 ≤ (s : Int) ∧ (s : Int) < S.n by omega)] at hha
  have hmi : ¬ ((m : Int) = 512) := by omega
  have HA1 : Hid (DAct w w1 1 b ms ml ms ml qv fv qv fv S) := a1
  clear h h1 a1 hs hm
  go_enter_defers Tryz.func114, Tryz.ntmps114
  go_wp2_with (first | (go_at_call 60; refine hus.mono ?_; rintro e w9 ⟨rfl, hw9⟩; rw [hw9]; clear hw9 hus) | (go_at_call 61; refine (lock_free Tryz.muLib ⟨b, 0, none⟩ _ c0 z0).mono ?_; rintro e w9 ⟨rfl, hw9⟩; rw [hw9, ← hw1]; clear hw9 hw1 c0 z0) | (go_at_call 96; refine hha.mono ?_; rintro e w9 ⟨rfl, hw9⟩; rw [hw9]; clear hw9 hha))
  have a7 := HA1.out
  refine leaves_cons (f := 62) (args := #[.pointer (some ⟨b, 0, none⟩)]) (by simp) (by simp [go_sem]) ?_
  refine (unlock_deferred Tryz.muLib ⟨b, 0, none⟩ .returning _ (a7.rk.c 0) (a7.rk.fz 0)).mono ?_
  rintro e u' w'' ⟨rfl, rfl, rfl⟩
  exact ⟨_, results_tmp rfl _ _ _, rfl, a7.put 0 (.int .i32 0) 0 S.st rfl⟩
set_option maxHeartbeats 4000000 in
theorem write_lost {w : World} {b ms ml : Nat} {qv fv : Value} {S : Dk} (h : RK w 0 b ms ml qv fv S) (hf : FsOk S.fs) {s : Nat} (hs : s < S.n) (hh : hitF S.fs 2 s = true) (hld : landF S.fs 2 s = false) (ao : Option Addr) (cap : Nat) :
    Calls Tryz.prog 114 #[.pointer (some ⟨b, 0, none⟩), .int .i64 s, .slice ao 512 cap] w fun r w' => ∃ fv1, r = .returned (.int .i64 33) ∧ DAct w w' 0 b ms ml ms ml qv fv qv fv1 (failS S 2 s) := by
  have hus := usable_any h
  have c0 : w.cell? ⟨b, 0, none⟩ = some (.int .i32 0) := h.c 0
  have z0 := h.fz 0
  have a1 := (DAct.refl h).put 0 (.int .i32 1) 1 S.st rfl
  obtain ⟨w1, hw1⟩ : ∃ w1, w1 = w.setCell ⟨b, 0, none⟩ (.int .i32 1) := ⟨_, rfl⟩
  rw [← hw1] at a1
  have h1 : RK w1 1 b ms ml qv fv S := a1.rk
  have hha := has_any h1 s
  rw [decide_eq_true (show 0 ≤ (s : Int) ∧ (s : Int) < S.n by omega)] at hha
  have hfa := fail_gen h1 hf 2 s
  rw [hh, hld] at hfa
  obtain ⟨S1, hS1⟩ : ∃ S1, S1 = failS S 2 s := ⟨_, rfl⟩
  rw [← hS1] at hfa ⊢
  have HA1 : Hid (DAct w w1 1 b ms ml ms ml qv fv qv fv S) := a1
  clear h h1 a1 hs hf hh hld hS1
  go_enter_defers Tryz.func114, Tryz.ntmps114
  go_wp2_with (first | (go_at_call 60; refine hus.mono ?_; rintro e w9 ⟨rfl, hw9⟩; rw [hw9]; clear hw9 hus) | (go_at_call 61; refine (lock_free Tryz.muLib ⟨b, 0, none⟩ _ c0 z0).mono ?_; rintro e w9 ⟨rfl, hw9⟩; rw [hw9, ← hw1]; clear hw9 hw1 c0 z0) | (go_at_call 96; refine hha.mono ?_; rintro e w9 ⟨rfl, hw9⟩; rw [hw9]; clear hw9 hha) | (go_at_call 97; refine hfa.mono ?_; rintro e w2 ⟨a0, a1, a2, a3, fv1, rfl, d2⟩; have HA4 : Hid (DAct w (w2.alloc (.cells #[.int .i64 a0, .int .i64 a1, .int .i64 a2, .int .i64 a3, .bool false] TFa)) 1 b ms ml ms ml qv fv qv fv1 S1) := (HA1.out.trans d2).later ((Below.refl _ w2).alloc (Nat.le_refl _) _); clear d2 hfa))
  have a7 := HA4.out
  refine leaves_cons (f := 62) (args := #[.pointer (some ⟨b, 0, none⟩)]) (by simp) (by simp [go_sem]) ?_
  refine (unlock_deferred Tryz.muLib ⟨b, 0, none⟩ .returning _ (a7.rk.c 0) (a7.rk.fz 0)).mono ?_
  rintro e u' w'' ⟨rfl, rfl, rfl⟩
  exact ⟨_, results_tmp rfl _ _ _, fv1, rfl, a7.put 0 (.int .i32 0) 0 S1.st rfl⟩
end Go.Proofs.YtlacligofhinmaaGreat.K

namespace Go.Proofs.YtlacligofhinmaaGreat.K
open Go.RowKit Go.Maps Go.Proofs.YtlacligofhinmaaGreat Go.MuLone
attribute [local go_sem] Oper.semAt_some
set_option linter.unusedVariables false
set_option linter.unusedSimpArgs false
set_option maxRecDepth 100000

set_option maxHeartbeats 4000000 in
theorem barrier_hitless {w : World} {b ms ml : Nat} {qv fv : Value} {S : Dk} (h : RK w 0 b ms ml qv fv S) (hf : FsOk S.fs) (hh : hitF S.fs 3 (-1) = false) (hql : S.q.length ≤ 1048576) :
    Calls Tryz.prog 110 #[.pointer (some ⟨b, 0, none⟩)] w fun r w' => ∃ ml' fv1, r = .returned (.int .i64 0) ∧ DAct w w' 0 b ms ml ms ml' qv fv (.slice none 0 0) fv1 (barred (failS S 3 (-1))) := by
  have hus := usable_any h
  have c0 : w.cell? ⟨b, 0, none⟩ = some (.int .i32 0) := h.c 0
  have z0 := h.fz 0
  have a1 := (DAct.refl h).put 0 (.int .i32 1) 1 S.st rfl
  obtain ⟨w1, hw1⟩ : ∃ w1, w1 = w.setCell ⟨b, 0, none⟩ (.int .i32 1) := ⟨_, rfl⟩
  rw [← hw1] at a1
  have hfa := fail_gen a1.rk hf 3 (-1)
  rw [hh] at hfa
  have HA1 : Hid (DAct w w1 1 b ms ml ms ml qv fv qv fv S) := a1
  have HQ : Hid ((failS S 3 (-1)).q.length ≤ 1048576) := by show _ ≤ _; rw [failS_q]; exact hql
  obtain ⟨S1, hS1⟩ : ∃ S1, S1 = failS S 3 (-1) := ⟨_, rfl⟩
  rw [← hS1] at hfa HQ ⊢
  generalize landF S.fs 3 (-1) = ld at hfa
  clear h a1 hf hql hh hS1
  go_enter_defers Tryz.func110, Tryz.ntmps110
  go_wp2_with (first | (go_at_call 60; refine hus.mono ?_; rintro e w9 ⟨rfl, hw9⟩; rw [hw9]; clear hw9 hus) | (go_at_call 61; refine (lock_free Tryz.muLib ⟨b, 0, none⟩ _ c0 z0).mono ?_; rintro e w9 ⟨rfl, hw9⟩; rw [hw9, ← hw1]; clear hw9 hw1 c0 z0) | (go_at_call 97; refine hfa.mono ?_; rintro e w2 ⟨a0, a1, a2, a3, fv1, rfl, d2⟩; have g3 : DAct w (w2.alloc (.cells #[.int .i64 a0, .int .i64 a1, .int .i64 a2, .int .i64 a3, .bool ld] TFa)) 1 b ms ml ms ml qv fv qv fv1 S1 := (HA1.out.trans d2).later ((Below.refl _ w2).alloc (Nat.le_refl _) _); have c9 : (w2.alloc (.cells #[.int .i64 a0, .int .i64 a1, .int .i64 a2, .int .i64 a3, .bool ld] TFa)).cell? ⟨b, 9, none⟩ = some (.int .u64 S1.st.bars) := g3.rk.c 9; have z9 := g3.rk.fz 9; have g4 := g3.put 9 (.int .u64 (inc S1.st.bars)) 1 { S1.st with bars := inc S1.st.bars } rfl; have HA4 : Hid (DAct w ((w2.alloc (.cells #[.int .i64 a0, .int .i64 a1, .int .i64 a2, .int .i64 a3, .bool ld] TFa)).setCell ⟨b, 9, none⟩ (.int .u64 (inc S1.st.bars))) 1 b ms ml ms ml qv fv qv fv1 { S1 with st := { S1.st with bars := inc S1.st.bars } }) := g4; clear d2 hfa g3 g4) | (go_at_call 79; refine (settle_any HA4.out.rk (fun _ => true) HQ.out (fun W i _ _ => yes_any W i)).mono ?_; rintro e w5 ⟨rfl, ml', h5⟩; have HA5 : Hid (DAct w w5 1 b ms ml ms ml' qv fv (.slice none 0 0) fv1 (barred S1)) := HA4.out.trans h5; clear h5))
  refine leaves_cons (f := 62) (args := #[.pointer (some ⟨b, 0, none⟩)]) (by simp) (by simp [go_sem]) ?_
  refine (unlock_deferred Tryz.muLib ⟨b, 0, none⟩ .returning _ (HA5.out.rk.c 0) (HA5.out.rk.fz 0)).mono ?_
  rintro e u' w'' ⟨rfl, rfl, rfl⟩
  exact ⟨_, results_tmp rfl _ _ _, ml', fv1, rfl, HA5.out.put 0 (.int .i32 0) 0 (barred S1).st rfl⟩
set_option maxHeartbeats 4000000 in
theorem barrier_hit {w : World} {b ms ml : Nat} {qv fv : Value} {S : Dk} (h : RK w 0 b ms ml qv fv S) (hf : FsOk S.fs) (hh : hitF S.fs 3 (-1) = true) :
    Calls Tryz.prog 110 #[.pointer (some ⟨b, 0, none⟩)] w fun r w' => ∃ fv1, r = .returned (.int .i64 33) ∧ DAct w w' 0 b ms ml ms ml qv fv qv fv1 (failS S 3 (-1)) := by
  have hus := usable_any h
  have c0 : w.cell? ⟨b, 0, none⟩ = some (.int .i32 0) := h.c 0
  have z0 := h.fz 0
  have a1 := (DAct.refl h).put 0 (.int .i32 1) 1 S.st rfl
  obtain ⟨w1, hw1⟩ : ∃ w1, w1 = w.setCell ⟨b, 0, none⟩ (.int .i32 1) := ⟨_, rfl⟩
  rw [← hw1] at a1
  have hfa := fail_gen a1.rk hf 3 (-1)
  rw [hh] at hfa
  have HA1 : Hid (DAct w w1 1 b ms ml ms ml qv fv qv fv S) := a1
  obtain ⟨S1, hS1⟩ : ∃ S1, S1 = failS S 3 (-1) := ⟨_, rfl⟩
  rw [← hS1] at hfa ⊢
  generalize landF S.fs 3 (-1) = ld at hfa
  clear h a1 hf hh hS1
  go_enter_defers Tryz.func110, Tryz.ntmps110
  go_wp2_with (first | (go_at_call 60; refine hus.mono ?_; rintro e w9 ⟨rfl, hw9⟩; rw [hw9]; clear hw9 hus) | (go_at_call 61; refine (lock_free Tryz.muLib ⟨b, 0, none⟩ _ c0 z0).mono ?_; rintro e w9 ⟨rfl, hw9⟩; rw [hw9, ← hw1]; clear hw9 hw1 c0 z0) | (go_at_call 97; refine hfa.mono ?_; rintro e w2 ⟨a0, a1, a2, a3, fv1, rfl, d2⟩; have HA4 : Hid (DAct w (w2.alloc (.cells #[.int .i64 a0, .int .i64 a1, .int .i64 a2, .int .i64 a3, .bool ld] TFa)) 1 b ms ml ms ml qv fv qv fv1 S1) := (HA1.out.trans d2).later ((Below.refl _ w2).alloc (Nat.le_refl _) _); clear d2 hfa))
  have a7 := HA4.out
  refine leaves_cons (f := 62) (args := #[.pointer (some ⟨b, 0, none⟩)]) (by simp) (by simp [go_sem]) ?_
  refine (unlock_deferred Tryz.muLib ⟨b, 0, none⟩ .returning _ (a7.rk.c 0) (a7.rk.fz 0)).mono ?_
  rintro e u' w'' ⟨rfl, rfl, rfl⟩
  exact ⟨_, results_tmp rfl _ _ _, fv1, rfl, a7.put 0 (.int .i32 0) 0 S1.st rfl⟩
end Go.Proofs.YtlacligofhinmaaGreat.K

namespace Go.Proofs.YtlacligofhinmaaGreat.K
open Go.RowKit Go.Maps Go.Proofs.YtlacligofhinmaaGreat Go.MuLone
attribute [local go_sem] Oper.semAt_some
set_option linter.unusedVariables false
set_option linter.unusedSimpArgs false
set_option maxRecDepth 100000

set_option maxHeartbeats 1000000 in
theorem settle_keep {w : World} {lk : Int} {b ms ml : Nat} {qv fv : Value} {S : Dk} {kb : Nat} (h : RK w lk b ms ml qv fv S) (k : Nat → Bool) (hql : S.q.length ≤ 1048576)
    (HK : Hid (∀ (W : World) (i : Nat), Kp w W (fp b ms ml qv fv) → i < S.q.length → Calls Tryz.prog 80 #[.int .i64 i, .pointer (some ⟨kb, 0, none⟩)] W fun r W' => r = .returned (.bool (k i)) ∧ Below W.heap.size W W')) :
    Calls Tryz.prog 79 #[.pointer (some ⟨b, 0, none⟩), .func (.func 80) #[] #[.pointer (some ⟨kb, 0, none⟩)]] w fun r w' => r = .returned (.tuple #[]) ∧ ∃ ml', DAct w w' lk b ms ml ms ml' qv fv (.slice none 0 0) fv (settled k S) := by
  have hz := zeroPu
  obtain ⟨ao, qc, rfl⟩ : ∃ ao qc, qv = .slice ao S.q.length qc := by
    rcases h.qr.2 with ⟨rfl, h0⟩ | ⟨g, cap, cur, rfl, _⟩
    · exact ⟨_, _, by rw [h0]⟩
    · exact ⟨_, _, rfl⟩
  obtain ⟨m, hm⟩ : ∃ m, m = S.q.length := ⟨_, rfl⟩
  have c4 : w.cell? ⟨b, 4, none⟩ = some (.slice ao m qc) := by rw [hm]; exact h.c 4
  have HM : Hid (m = S.q.length) := hm
  have HA0 : Hid (DAct w w lk b ms ml ms ml (.slice ao S.q.length qc) fv (.slice ao S.q.length qc) fv S) := DAct.refl h
  have hml : m ≤ 1048576 := by omega
  have hmk := fun (w : World) => run_makeMap (P := Tryz.prog) TMl w
  clear h hm hql
  go_enter Tryz.func79, Tryz.ntmps79
  go_wp2
  go_loopw [11] (fun i wr => ∃ (n : Nat), n ≤ m ∧ i = .int .i64 n ∧ Hid (DAct w wr lk b ms ml ms ml (.slice ao S.q.length qc) fv (.slice ao S.q.length qc) fv { S with safe := layTo k S.q S.safe n })) (fun i _ => m - (intOf i).toNat)
  case atStart => exact ⟨0, Nat.zero_le _, rfl, HA0⟩
  case round =>
    obtain ⟨n, hn, rfl, HA⟩ := hrel
    by_cases hlt : n < m
    · obtain ⟨p, hp⟩ : ∃ p, S.q[n]? = some p := ⟨_, List.getElem?_eq_getElem (by have := HM.out; omega)⟩
      obtain ⟨s, l⟩ := p
      have hrk := HA.out.rk
      obtain ⟨hsn, hok⟩ := hrk.qok (s, l) (List.mem_of_getElem? hp)
      obtain ⟨g, cap', hgq, hcs, hrg⟩ := queue_at hrk.qr (fun p hp => (hrk.qok p hp).2) (i := n) hp
      have hao : ao = some ⟨g, 0, none⟩ := by simp at hgq; exact hgq.1
      subst hao
      obtain ⟨A, hA⟩ : ∃ A, A = Pc s l := ⟨_, rfl⟩
      obtain ⟨C, hC⟩ : ∃ C, C = Lc l := ⟨_, rfl⟩
      have HR : Hid (wr.rangeAt g (n * 513) A.toList) := fun j v hv => by
        rw [hA, Pc_list] at hv
        cases j with
        | zero => simp [pcell] at hv; subst hv; exact hcs
        | succ j => simp only [pcell, List.getElem?_cons_succ] at hv; have := hrg j v hv; rw [show n * 513 + (j + 1) = n * 513 + 1 + j by omega]; exact this
      have HZ2 : Hid ((Tryz.prog.info? TPu).map (·.size) = some A.toList.length) := by show _ = _; rw [hA, Array.length_toList, Pc_size hok]; exact sizePu
      have HZ3 : Hid ((Tryz.prog.info? TPu).map (·.size) = some A.size) := by show _ = _; rw [hA, Pc_size hok]; exact sizePu
      have hg0 := heap_alloc_new wr (.cells Zp TPu)
      have HT : Hid ((wr.alloc (.cells Zp TPu)).there wr.heap.size 0 A.size) := there_row hg0 (by rw [hA, Pc_size hok, Zp_size]; decide)
      have HE : Hid ((wr.alloc (.cells Zp TPu)).setCells wr.heap.size 0 A.toList = wr.alloc (.cells A TPu)) := by show _ = _; rw [hA]; exact (setCells_put hok hg0 Zp_size).trans (World.setRow_alloc_new wr Zp (Pc s l) TPu)
      have hb1 : Below wr.heap.size wr (wr.alloc (.cells A TPu)) := (Below.refl _ wr).alloc (Nat.le_refl _) _
      have HA1 : Hid (DAct w (wr.alloc (.cells A TPu)) lk b ms ml ms ml (.slice (some ⟨g, 0, none⟩) S.q.length qc) fv (.slice (some ⟨g, 0, none⟩) S.q.length qc) fv { S with safe := layTo k S.q S.safe n }) := HA.out.later hb1
      have hkc := HK.out (wr.alloc (.cells A TPu)) n HA1.out.kp (by have := HM.out; omega)
      have HG1 : Hid ((wr.alloc (.cells A TPu)).heap[wr.heap.size]? = some (.cells A TPu)) := heap_alloc_new wr _
      have HSN : Hid (s < S.n) := hsn
      have HOK : Hid (OkB l) := hok
      have HP : Hid (S.q[n]? = some (s, l)) := hp
      have hnl : (n : Int) < (m : Int) := by omega
      have HZ4 : Hid ((Tryz.prog.info? TBl).map (·.size) = some C.toList.length) := by show _ = _; rw [hC, Array.length_toList, Lc_size hok]; exact sizeBl
      have HC2 : Hid (∀ W2, Below (wr.alloc (.cells A TPu)).heap.size (wr.alloc (.cells A TPu)) W2 → W2.cell? ⟨wr.heap.size, 0, none⟩ = some (.int .i64 s) ∧ W2.rangeAt wr.heap.size 1 C.toList) := fun W2 h2 => by
        rw [hC]
        have hb2 : W2.heap[wr.heap.size]? = some (.cells (Pc s l) TPu) := by rw [← hA]; exact (h2.block _ (by rw [World.size_alloc]; omega)).trans HG1.out
        refine ⟨(cell_of hb2).trans (by unfold Pc; rw [Array.getElem?_append_left (by simp)]; rfl), fun j v hv => ?_⟩
        rw [cell_of hb2]
        unfold Pc
        rw [Array.getElem?_append_right (by simp)]
        simpa using hv
      have HPO : Hid (A.all (·.oneCell') = true) := by show _ = _; rw [hA]; exact Pc_one s l
      have HCE : Hid (C = Lc l) := hC
      clear hg0 hrk hok hsn hcs hrg hgq hp hb1 hA hC
      by_cases hkn : k n = true
      · rw [hkn] at hkc
        have HN : Hid (DAct w wr lk b ms ml ms ml (.slice (some ⟨g, 0, none⟩) S.q.length qc) fv (.slice (some ⟨g, 0, none⟩) S.q.length qc) fv { S with safe := layTo k S.q S.safe n }) := HA
        have HL : Hid (layTo k S.q S.safe (n + 1) = upd (layTo k S.q S.safe n) s l) := by
          show _ = _
          conv => lhs; unfold layTo
          rw [HP.out]; simp [hkn]
        go_wp2_with (first | (refine is_load TPu _ rfl ?_; refine wpList_load_mid rfl TPu _ rfl g (n * 513) rfl A.toList _ HR.out Tryz.underlying138 rfl HZ2.out ?_) | (refine is_store TPu _ _ rfl ?_; refine wpList_store_mid rfl TPu _ _ rfl wr.heap.size 0 A rfl rfl HT.out HZ3.out HPO.out ?_; rw [HE.out]) | (go_at_call 80; refine hkc.mono ?_; rintro r W2 ⟨rfl, hb2⟩; have k0 := (HC2.out W2 hb2).1; have HR2 : Hid (W2.rangeAt wr.heap.size 1 C.toList) := (HC2.out W2 hb2).2; have hly := lay_any (HA1.out.later hb2).rk HSN.out HOK.out; rw [← HCE.out] at hly; have HA2 : Hid (DAct w W2 lk b ms ml ms ml (.slice (some ⟨g, 0, none⟩) S.q.length qc) fv (.slice (some ⟨g, 0, none⟩) S.q.length qc) fv { S with safe := layTo k S.q S.safe n }) := HA1.out.later hb2; clear hb2) | (refine is_load TBl _ rfl ?_; refine wpList_load_mid rfl TBl _ rfl wr.heap.size 1 rfl C.toList _ HR2.out Tryz.underlying136 rfl HZ4.out ?_) | (go_at_call 115; refine hly.mono ?_; rintro r W3 ⟨rfl, h3⟩; have HA3 : Hid (DAct w W3 lk b ms ml ms ml (.slice (some ⟨g, 0, none⟩) S.q.length qc) fv (.slice (some ⟨g, 0, none⟩) S.q.length qc) fv { S with safe := layTo k S.q S.safe (n + 1) }) := (by rw [HL.out]; exact HA2.out.trans h3); clear h3))
        go_roundw
        case rel => exact ⟨n + 1, by omega, by go_num, HA3⟩
        case measure => simp [intOf]; omega
      · have hkf : k n = false := by simpa using hkn
        rw [hkf] at hkc
        have HL : Hid (layTo k S.q S.safe (n + 1) = layTo k S.q S.safe n) := by
          show _ = _
          conv => lhs; unfold layTo
          rw [HP.out]; simp [hkf]
        go_wp2_with (first | (refine is_load TPu _ rfl ?_; refine wpList_load_mid rfl TPu _ rfl g (n * 513) rfl A.toList _ HR.out Tryz.underlying138 rfl HZ2.out ?_) | (refine is_store TPu _ _ rfl ?_; refine wpList_store_mid rfl TPu _ _ rfl wr.heap.size 0 A rfl rfl HT.out HZ3.out HPO.out ?_; rw [HE.out]) | (go_at_call 80; refine hkc.mono ?_; rintro r W2 ⟨rfl, hb2⟩; have HA3 : Hid (DAct w W2 lk b ms ml ms ml (.slice (some ⟨g, 0, none⟩) S.q.length qc) fv (.slice (some ⟨g, 0, none⟩) S.q.length qc) fv { S with safe := layTo k S.q S.safe (n + 1) }) := (by rw [HL.out]; exact HA1.out.later hb2); clear hb2))
        go_roundw
        case rel => exact ⟨n + 1, by omega, by go_num, HA3⟩
        case measure => simp [intOf]; omega
    · have e : n = m := by omega
      subst e
      have h0 := HA.out.rk.later ((Below.refl _ wr).alloc (Nat.le_refl _) (.map #[] 0))
      have k4 : (wr.alloc (.map #[] 0)).cell? ⟨b, 4, none⟩ = some (.slice ao S.q.length qc) := h0.c 4
      have z4 := h0.fz 4
      have e4 := blk_set h0.blk 4 (.slice none 0 0)
      have k5 : ((wr.alloc (.map #[] 0)).setCell ⟨b, 4, none⟩ (.slice none 0 0)).cell? ⟨b, 5, none⟩ = some (.map (some ml)) := (cell_of e4).trans rfl
      have z5 : ((wr.alloc (.map #[] 0)).setCell ⟨b, 4, none⟩ (.slice none 0 0)).frozen? ⟨b, 5, none⟩ = false := frozen_of e4
      have HF : Hid (DAct w (((wr.alloc (.map #[] 0)).setCell ⟨b, 4, none⟩ (.slice none 0 0)).setCell ⟨b, 5, none⟩ (.map (some wr.heap.size))) lk b ms ml ms wr.heap.size (.slice ao S.q.length qc) fv (.slice none 0 0) fv (settled k S)) := by
        have h1 := HA.out.trans HA.out.rk.emptied
        rw [HM.out] at h1
        exact h1
      clear h0 e4 HA HA0
      go_wp2
      go_end0
      exact ⟨rfl, _, HF.out⟩
/-- a list of bools that was handed in -/
structure BoRow (w : World) (ao : Option Addr) (cap : Nat) (l : List Bool) : Prop where
  len : l.length ≤ 1048576
  nil : ao = none → l = [] ∧ cap = 0
  at_ : l ≠ [] → ∃ b off, ao = some ⟨b, off, none⟩ ∧ ∀ k (x : Bool), l[k]? = some x → w.cell? ⟨b, off + k, none⟩ = some (.bool x)
theorem BoRow.same {w w' : World} {ao : Option Addr} {cap : Nat} {l : List Bool} (h : BoRow w ao cap l) (hs : ∀ ad, ao = some ad → w'.heap[ad.block]? = w.heap[ad.block]?) : BoRow w' ao cap l := by
  refine ⟨h.len, h.nil, fun hn => ?_⟩
  obtain ⟨b, off, e, hc⟩ := h.at_ hn
  refine ⟨b, off, e, fun k x hx => ?_⟩
  have := hs _ e
  exact (World.cell?_of_block (a := ⟨b, off + k, none⟩) this).trans (hc k x hx)
theorem BoRow.kept {w w' : World} {ao : Option Addr} {cap : Nat} {l : List Bool} {F : List Nat} (h : BoRow w ao cap l) (hk : Kp w w' F) (hap : ∀ ad, ao = some ad → l ≠ [] → ad.block ∉ F) : BoRow w' ao cap l := by
  refine ⟨h.len, h.nil, fun hn => ?_⟩
  obtain ⟨b, off, e, hc⟩ := h.at_ hn
  refine ⟨b, off, e, fun k x hx => ?_⟩
  have h1 := hc k x hx
  exact (World.cell?_of_block (a := ⟨b, off + k, none⟩) (hk.block b (cell_lt h1) (hap _ e hn))).trans h1
set_option maxHeartbeats 1000000 in
theorem keep_any {W : World} {kb : Nat} {ao : Option Addr} {cap n : Nat} {l : List Bool} (hb : W.cell? ⟨kb, 0, none⟩ = some (.slice ao n cap)) (h : BoRow W ao cap l) (hn : l.length = n) (i : Nat) (hi : i ≤ 1048576) :
    Calls Tryz.prog 80 #[.int .i64 i, .pointer (some ⟨kb, 0, none⟩)] W fun r W' => r = .returned (.bool (l.getD i false)) ∧ Below W.heap.size W W' := by
  by_cases hlt : i < n
  · obtain ⟨b, off, e, hc⟩ := h.at_ (by rintro rfl; simp at hn; omega)
    subst e
    obtain ⟨x, hx⟩ : ∃ x, l[i]? = some x := ⟨_, List.getElem?_eq_getElem (by omega)⟩
    have hcx := hc i x hx
    have hv : l.getD i false = x := by rw [List.getD_eq_getElem?_getD, hx]; rfl
    rw [hv]
    have hl2 : n ≤ 1048576 := by have := h.len; omega
    clear hc h hv hx hn
    go_enter Tryz.func80, Tryz.ntmps80
    go_wp2
    go_ret
    exact ⟨rfl, Below.refl _ _⟩
  · have hv : l.getD i false = false := by rw [List.getD_eq_getElem?_getD, List.getElem?_eq_none (by omega)]; rfl
    rw [hv]
    have hl2 : n ≤ 1048576 := by have := h.len; omega
    clear h hv hn
    go_enter Tryz.func80, Tryz.ntmps80
    go_wp2
    go_ret
    exact ⟨rfl, Below.refl _ _⟩
theorem DAct.nofaults {w W : World} {lk : Int} {b ms ml ms' ml' : Nat} {qv fv qv' fv' : Value} {S : Dk} (h : DAct w W lk b ms ml ms' ml' qv fv qv' fv' S) : DAct w (W.setCell ⟨b, 6, none⟩ (.slice none 0 0)) lk b ms ml ms' ml' qv fv qv' (.slice none 0 0) { S with fs := [] } := by
  obtain ⟨a1, a2, a3, a4, a5, a6, a7, a8, a9⟩ := h.rk.apart
  have hs : ∀ i, i ≠ b → (W.setCell ⟨b, 6, none⟩ (.slice none 0 0)).heap[i]? = W.heap[i]? := fun i hi => Below.heap_setCell _ _ _ _ hi
  obtain ⟨D, h1, h2⟩ := h.rk.sm
  obtain ⟨D', h4, h5⟩ := h.rk.lm
  refine ⟨⟨blk_set h.rk.blk 6 _, h.rk.n0, h.rk.n1, ⟨D, ownsMap_block h1 (hs ms' (Ne.symm a1)), h2⟩, ⟨D', ownsMap_block h4 (hs ml' (Ne.symm a2)), h5⟩, ownsRow_block h.rk.qr (fun x hx => hs x (fun e => a3 (by rw [← e]; exact hx))), World.ownsRow_nil _ _ _ _, h.rk.ne, h.rk.qok⟩, h.kp.set (.inl (by simp [fp])) 6 _, fun i hi => h.sub i ?_⟩
  simp only [fp, Value.ownBlock, List.mem_cons, List.mem_append, Option.mem_toList] at hi ⊢
  rcases hi with rfl | rfl | rfl | hi | hi
  · simp
  · simp
  · simp
  · simp [hi]
  · cases hi
def crashed (l : List Bool) (S : Dk) : Dk := { settled (fun i => l.getD i false) S with fs := [], st := { S.st with crashes := inc S.st.crashes } }
set_option maxHeartbeats 4000000 in
theorem crash_any {w : World} {b ms ml : Nat} {qv fv : Value} {S : Dk} (h : RK w 0 b ms ml qv fv S) (hql : S.q.length ≤ 1048576) {ao : Option Addr} {cap n : Nat} {l : List Bool} (hr : BoRow w ao cap l) (hn : l.length = n) (hap : ∀ ad, ao = some ad → l ≠ [] → ad.block ∉ fp b ms ml qv fv) :
    Calls Tryz.prog 35 #[.pointer (some ⟨b, 0, none⟩), .slice ao n cap] w fun r w' => r = .returned (.tuple #[]) ∧ ∃ ml', DAct w w' 0 b ms ml ms ml' qv fv (.slice none 0 0) (.slice none 0 0) (crashed l S) := by
  obtain ⟨W0, hW0⟩ : ∃ W0, W0 = w.alloc (.cells #[.slice ao n cap] 42) := ⟨_, rfl⟩
  have hB0 : Below w.heap.size w W0 := by rw [hW0]; exact (Below.refl _ w).alloc (Nat.le_refl _) _
  have h0 := h.later hB0
  have hbx : W0.heap[w.heap.size]? = some (.cells #[.slice ao n cap] 42) := by rw [hW0]; exact heap_alloc_new w _
  have hus := usable_any h0
  have c0 : W0.cell? ⟨b, 0, none⟩ = some (.int .i32 0) := h0.c 0
  have z0 := h0.fz 0
  have a1 := ((DAct.refl h0).put 0 (.int .i32 1) 1 S.st rfl).from_later hB0
  obtain ⟨w1, hw1⟩ : ∃ w1, w1 = W0.setCell ⟨b, 0, none⟩ (.int .i32 1) := ⟨_, rfl⟩
  rw [← hw1] at a1
  have hlt := h.lt
  have hst := settle_keep a1.rk (fun i => l.getD i false) hql (kb := w.heap.size) (fun W i hk hi => by
    have hbl := hlt b (by simp [fp])
    have hs1 : w.heap.size < w1.heap.size := by rw [hw1]; simp [hW0]
    have hx1 : w1.heap[w.heap.size]? = some (.cells #[.slice ao n cap] 42) := by rw [hw1]; exact (Below.heap_setCell _ _ _ _ (by show w.heap.size ≠ b; omega)).trans hbx
    have hx : W.heap[w.heap.size]? = some (.cells #[.slice ao n cap] 42) := (hk.block _ hs1 (fun hm => by have := hlt _ hm; omega)).trans hx1
    have hi' : i < S.q.length := hi
    exact keep_any ((cell_of hx).trans rfl) (hr.kept (a1.kp.trans hk (fun i hi => .inl hi)) hap) hn i (by omega))
  have HA1 : Hid (DAct w w1 1 b ms ml ms ml qv fv qv fv S) := a1
  clear h h0 a1 hlt hap hr hbx hB0
  subst hW0
  go_enter_defers Tryz.func35, Tryz.ntmps35
  go_wp2_with (first | (go_at_call 60; refine hus.mono ?_; rintro e w9 ⟨rfl, hw9⟩; rw [hw9]; clear hw9 hus) | (go_at_call 61; refine (lock_free Tryz.muLib ⟨b, 0, none⟩ _ c0 z0).mono ?_; rintro e w9 ⟨rfl, hw9⟩; rw [hw9, ← hw1]; clear hw9 hw1 c0 z0) | (go_at_call 79; refine hst.mono ?_; rintro e w5 ⟨rfl, ml', h5⟩; have a5 := HA1.out.trans h5; have k6 : w5.cell? ⟨b, 6, none⟩ = some fv := a5.rk.c 6; have f6 := a5.rk.fz 6; have a6 := a5.nofaults; have k11 : (w5.setCell ⟨b, 6, none⟩ (.slice none 0 0)).cell? ⟨b, 11, none⟩ = some (.int .u64 S.st.crashes) := a6.rk.c 11; have f11 := a6.rk.fz 11; have HA7 : Hid (DAct w ((w5.setCell ⟨b, 6, none⟩ (.slice none 0 0)).setCell ⟨b, 11, none⟩ (.int .u64 (inc S.st.crashes))) 1 b ms ml ms ml' qv fv (.slice none 0 0) (.slice none 0 0) (crashed l S)) := a6.put 11 (.int .u64 (inc S.st.crashes)) 1 { S.st with crashes := inc S.st.crashes } rfl; clear h5 a5 a6 hst))
  have a7 := HA7.out
  refine leaves_cons (f := 62) (args := #[.pointer (some ⟨b, 0, none⟩)]) (by simp) (by simp [go_sem]) ?_
  refine (unlock_deferred Tryz.muLib ⟨b, 0, none⟩ .returning _ (a7.rk.c 0) (a7.rk.fz 0)).mono ?_
  rintro e u' w'' ⟨rfl, rfl, rfl⟩
  exact ⟨_, results_none rfl _ _ _, rfl, ml', a7.put 0 (.int .i32 0) 0 (crashed l S).st rfl⟩
end Go.Proofs.YtlacligofhinmaaGreat.K

namespace Go.Proofs.YtlacligofhinmaaGreat.K
open Go.RowKit Go.Maps Go.Proofs.YtlacligofhinmaaGreat
attribute [local go_sem] Oper.semAt_some
set_option linter.unusedVariables false
set_option linter.unusedSimpArgs false
set_option maxRecDepth 100000

theorem own_slice {w : World} {B T size n : Nat} {v : Value} {xs : List Value} (h : w.ownsRow B T size v n xs) : ∃ ao cap, v = .slice ao n cap := by
  rcases h.2 with ⟨rfl, h0⟩ | ⟨g, cap, cur, rfl, _⟩
  · exact ⟨_, _, by rw [h0]⟩
  · exact ⟨_, _, rfl⟩
abbrev TRf : TypeId := 129
abbrev TBs : TypeId := 52
set_option maxHeartbeats 400000 in
theorem rbytes_none (w : World) :
    Calls Tryz.prog 50 #[.slice none 0 0] w fun e w' => e = .returned (.slice none 0 0) ∧ w' = w := by
  obtain ⟨i0, hi, hz0, hz1, hz2⟩ := info_parts info5x
  go_enter Tryz.func50, Tryz.ntmps50
  go_wp2_with (at_builtin; refine wpList_append_own_none rfl _ _ TBs rfl w.heap.size 5 i0 1 Tryz.underlying52 hi _ 0 [] rfl (World.ownsRow_nil _ _ _ _) rfl ?_)
  go_ret
  exact ⟨rfl, rfl⟩
set_option maxHeartbeats 400000 in
theorem rbytes_some (ad : Addr) (cap : Nat) (l : List Nat) (w : World) (h : BRow w (some ad) cap l) :
    Calls Tryz.prog 50 #[.slice (some ad) l.length cap] w fun e w' => ∃ v, e = .returned v ∧ w'.ownsRow w.heap.size 5 1 v l.length (l.map bv) ∧ Below w.heap.size w w' := by
  obtain ⟨i0, hi, hz0, hz1, hz2⟩ := info_parts info5x
  have HN : Hid (∀ j u, (l.map bv)[j]? = some u → w.cell? (ad.add j) = some u) := by
    intro j u hu
    rw [List.getElem?_map] at hu
    by_cases hj : j < l.length
    · rw [List.getElem?_eq_getElem hj] at hu
      obtain ⟨b, off, e, hc⟩ := h.at_ (by rintro rfl; simp at hj)
      cases e
      simp only [Option.map_some, Option.some.injEq] at hu
      subst hu
      rw [add_plain]; exact hc j hj
    · rw [List.getElem?_eq_none (by omega)] at hu; simp at hu
  have hlen := h.len
  have H1 : Hid (∀ u ∈ l.map bv, u.oneCell' = true) := by
    intro u hu
    obtain ⟨x, _, rfl⟩ := List.mem_map.1 hu
    rfl
  clear h
  go_enter Tryz.func50, Tryz.ntmps50
  go_wp2_with (at_builtin; refine wpList_append_own _ rfl _ _ TBs rfl w.heap.size 5 i0 (.int .u8 0) 1 1 Tryz.underlying52 hi hz0 hz1 hz2 rfl (by decide) _ 0 [] rfl (World.ownsRow_nil _ _ _ _) ad l.length cap (l.map bv) rfl (by simp) HN.out H1.out (by unfold maxLen; omega) (by omega) (Nat.le_refl _) ?_)
  intro v' w1 hown hgrow _
  have hb : Below w.heap.size w w1 := (Below.refl _ _).grown hgrow (Nat.le_refl _) (by simp [Value.ownBlock])
  clear hgrow
  go_wp2
  go_ret
  exact ⟨_, rfl, hown, hb⟩
/-- a reference's disk that nothing was done to -/
def rcells (n : Nat) (bs : Value) (r : Int) : Array Value := #[.int .i64 n, bs, .slice none 0 0, .slice none 0 0, .slice none 0 0, .int .u64 r, .int .u64 0, .int .u64 0, .int .u64 0, .int .u64 0]
def RRf (w : World) (p n : Nat) (bs : Value) (r : Int) : Prop := w.heap[p]? = some (.cells (rcells n bs r) TRf)
theorem rnew_bad (w : World) (n : Int) (h : n < 1 ∨ 65536 < n) : Calls Tryz.prog 18 #[.int .i64 n] w fun r w' => r = .returned (.tuple #[.pointer none, .int .i64 30]) ∧ w' = w := by
  by_cases h1 : n < 1
  · go_enter Tryz.func18, Tryz.ntmps18
    go_wp2
    exact bodyPost_ret (results_tmp2 rfl _ _ _) rfl ⟨rfl, rfl⟩
  · have h2 : 65536 < n := h.resolve_left h1
    clear h
    go_enter Tryz.func18, Tryz.ntmps18
    go_wp2
    exact bodyPost_ret (results_tmp2 rfl _ _ _) rfl ⟨rfl, rfl⟩
theorem rnew_any (w : World) (n : Nat) (h0 : 1 ≤ n) (h1 : n ≤ 65536) : Calls Tryz.prog 18 #[.int .i64 n] w fun r w' => r = .returned (.tuple #[.pointer (some ⟨w.heap.size, 0, none⟩), .int .i64 0]) ∧ RRf w' w.heap.size n (.slice none 0 0) 0 ∧ Below w.heap.size w w' := by
  have d1 : ¬ ((n : Int) < 1) := by omega
  have d2 : ¬ ((65536 : Int) < (n : Int)) := by omega
  go_enter Tryz.func18, Tryz.ntmps18
  go_wp2
  go_ret2
  exact ⟨rfl, heap_alloc_new w _, (Below.refl _ w).alloc (Nat.le_refl _) _⟩
section
variable {w : World} {p n : Nat} {bs : Value} {r : Int}
theorem RRf.c (h : RRf w p n bs r) (j : Nat) : w.cell? ⟨p, j, none⟩ = (rcells n bs r)[j]? := cell_of h
theorem rhas_any (h : RRf w p n bs r) (s : Int) : Calls Tryz.prog 47 #[.pointer (some ⟨p, 0, none⟩), .int .i64 s] w fun r w' => r = .returned (.bool (decide (0 ≤ s ∧ s < n))) ∧ w' = w := by
  have c0 : w.cell? ⟨p, 0, none⟩ = some (.int .i64 n) := h.c 0
  clear h
  by_cases h1 : 0 ≤ s
  · by_cases h2 : s < n
    · rw [decide_eq_true ⟨h1, h2⟩]
      go_enter Tryz.func47, Tryz.ntmps47
      go_wp2
      go_ret
      exact ⟨rfl, rfl⟩
    · rw [decide_eq_false (fun h => h2 h.2)]
      go_enter Tryz.func47, Tryz.ntmps47
      go_wp2
      go_ret
      exact ⟨rfl, rfl⟩
  · rw [decide_eq_false (fun h => h1 h.1)]
    go_enter Tryz.func47, Tryz.ntmps47
    go_wp2
    go_ret
    exact ⟨rfl, rfl⟩
theorem rlast_none (w : World) (s : Int) : Calls Tryz.prog 129 #[.slice none 0 0, .int .i64 s] w fun r w' => r = .returned (.tuple #[.slice none 0 0, .bool false]) ∧ w' = w := by
  go_enter Tryz.func129, Tryz.ntmps129
  go_wp2
  go_loopw [6] (fun i wr => i = .int .i64 (-1) ∧ Hid (wr = w)) (fun i _ => 0)
  case atStart => exact ⟨rfl, rfl⟩
  case round =>
    obtain ⟨rfl, HW⟩ := hrel
    go_wp2
    exact bodyPost_ret (results_tmp2 rfl _ _ _) rfl ⟨rfl, HW.out⟩
theorem rfails_none (h : RRf w p n bs r) (k s : Int) : Calls Tryz.prog 102 #[.pointer (some ⟨p, 0, none⟩), .int .i64 k, .int .i64 s] w fun r w' => r = .returned (.tuple #[.bool false, .bool false]) ∧ w' = w := by
  have c4 : w.cell? ⟨p, 4, none⟩ = some (.slice none 0 0) := h.c 4
  clear h
  go_enter Tryz.func102, Tryz.ntmps102
  go_wp2
  go_loopw [8] (fun i wr => i = .int .i64 0 ∧ Hid (wr = w) ∧ wr.cell? ⟨p, 4, none⟩ = some (.slice none 0 0)) (fun i _ => 0)
  case atStart => exact ⟨rfl, rfl, c4⟩
  case round =>
    obtain ⟨rfl, HW, hc4⟩ := hrel
    go_wp2
    exact bodyPost_ret (results_tmp2 rfl _ _ _) rfl ⟨rfl, HW.out⟩
end
/-- with the bytes of an image -/
structure RL (w : World) (p n : Nat) (g cap : Nat) (l : List Nat) (r : Int) : Prop where
  rf : RRf w p n (.slice (some ⟨g, 0, none⟩) l.length cap) r
  bs : BRow w (some ⟨g, 0, none⟩) cap l
  len : l.length = n * 512
  n0 : 1 ≤ n
  n1 : n ≤ 65536
  cp : l.length ≤ cap
theorem RL.later {w w' : World} {p n g cap : Nat} {l : List Nat} {r : Int} (h : RL w p n g cap l r) (hb : Below w.heap.size w w') : RL w' p n g cap l r :=
  ⟨(hb.block p (Array.getElem?_eq_some_iff.1 h.rf).1).trans h.rf, h.bs.later hb, h.len, h.n0, h.n1, h.cp⟩
theorem brow_part {w : World} {g off cap cap' : Nat} {l l' : List Nat} {o : Nat} (h : BRow w (some ⟨g, off, none⟩) cap l) (hne : l ≠ []) (hl : ∀ j x, l'[j]? = some x → l[o + j]? = some x) (hlen : l'.length ≤ l.length) : BRow w (some ⟨g, off + o, none⟩) cap' l' := by
  obtain ⟨b, off', e, hc⟩ := h.at_ hne
  cases e
  refine ⟨fun x hx => ?_, Nat.le_trans hlen h.len, (fun e => by cases e), fun _ => ⟨g, off + o, rfl, fun k hk => ?_⟩⟩
  · obtain ⟨j, hj⟩ := List.getElem?_of_mem hx
    exact h.lt x (List.mem_of_getElem? (hl j x hj))
  · have h1 := hl k _ (List.getElem?_eq_getElem hk)
    obtain ⟨h2, h3⟩ := List.getElem?_eq_some_iff.1 h1
    rw [Nat.add_assoc, hc _ h2, h3]
end Go.Proofs.YtlacligofhinmaaGreat.K
