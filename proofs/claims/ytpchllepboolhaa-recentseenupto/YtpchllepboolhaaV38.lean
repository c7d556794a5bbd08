import Derived.Test.YtpchllepboolhaaRCS
namespace Go.Proofs.Ytpchllepboolhaa.S
open Go.RowKit Go.Maps
attribute [local go_sem] Oper.semAt_some
set_option linter.unusedVariables false
set_option linter.unusedSimpArgs false
set_option maxRecDepth 100000

set_option maxHeartbeats 1000000 in
theorem new_any (w : World) : Calls Try.prog 49 #[] w fun r w' => ∃ bo bm g, r = .returned (.pointer (some ⟨bo, 0, none⟩)) ∧ RO w' bo bm g [] ∧ Below w.heap.size w w' ∧ ∀ i ∈ fp bo bm g [], w.heap.size ≤ i := by
  have hmk := fun (w : World) => run_makeMap (P := Try.prog) TMp w
  go_enter Try.func49, Try.ntmps49
  go_wp2
  go_ret
  have H : Hid (∀ (c : Obj) (d : Obj), (((w.alloc c).alloc (.map #[] 0)).alloc d).heap[w.heap.size]? = some c ∧ (((w.alloc c).alloc (.map #[] 0)).alloc d).heap[w.heap.size + 1]? = some (.map #[] 0) ∧ (((w.alloc c).alloc (.map #[] 0)).alloc d).heap[w.heap.size + 1 + 1]? = some d ∧ Below w.heap.size w (((w.alloc c).alloc (.map #[] 0)).alloc d)) := by
    intro c d
    have s1 : (w.alloc c).heap.size = w.heap.size + 1 := World.size_alloc _ _
    have s2 : ((w.alloc c).alloc (.map #[] 0)).heap.size = w.heap.size + 1 + 1 := by rw [World.size_alloc, s1]
    refine ⟨?_, ?_, ?_, ?_⟩
    · rw [Below.heap_alloc _ _ _ (by omega), Below.heap_alloc _ _ _ (by omega), heap_alloc_new]
    · rw [Below.heap_alloc _ _ _ (by omega), ← s1, heap_alloc_new]
    · rw [← s2, heap_alloc_new]
    · exact (((Below.refl _ w).alloc (Nat.le_refl _) _).alloc (by omega) _).alloc (by omega) _
  refine ⟨w.heap.size + 1 + 1, w.heap.size + 1, w.heap.size, rfl, ⟨?_, ⟨fun _ => w.heap.size, fun _ => w.heap.size, RingL.nil _ _ _ rfl rfl, ?_, by simp⟩, ⟨0, .map [], ?_, ?_⟩, by simp, by simp, by simp⟩, (H.out _ _).2.2.2, ?_⟩
  · exact (H.out _ _).2.2.1
  · exact (H.out _ _).1
  · exact ⟨#[], 0, (H.out _ _).2.1, ⟨by simp, ⟨by simp, by simp, by simp⟩, by simp⟩, Nat.le_refl _, rfl⟩
  · exact ⟨by simp, by simp, fun k _ => rfl, rfl⟩
  · intro i hi
    simp only [fp, List.map_nil, List.mem_cons, List.not_mem_nil, or_false] at hi
    omega
end Go.Proofs.Ytpchllepboolhaa.S

namespace Go.Proofs.Ytpchllepboolhaa.S
open Go.RowKit Go.Maps
set_option linter.unusedSimpArgs false
set_option maxRecDepth 100000
theorem sizePl (w : World) : (sizeOf TPl).run Try.prog w = .ok 4 w := by kernel_rfl
theorem undPt : Try.prog.underlying TPt = some (.pointer TPl) := Try.underlying96
theorem shape_of {w : World} {a : Nat} {cs : Array Value} {T : TypeId} (h : w.heap[a]? = some (.cells cs T (0, 0))) : w.shape? a = some (T, cs.size) := by
  unfold World.shape?; rw [h]
theorem noView_cells (w : World) {a : Nat} {cs : Array Value} {T : TypeId} (h : w.heap[a]? = some (.cells cs T (0, 0))) : (noView ⟨a, 0, none⟩).run Try.prog w = .ok () w := by
  simp [noView, viewAt, shape_of h, go_sem]
theorem mayBeOne_cells (w : World) {a b : Nat} {cs cs' : Array Value} {T T' : TypeId} (h : w.heap[a]? = some (.cells cs T (0, 0))) (h' : w.heap[b]? = some (.cells cs' T' (0, 0))) : (mayBeOne ⟨a, 0, none⟩ ⟨b, 0, none⟩).run Try.prog w = .ok false w := by
  have f1 : ∀ n, w.frozen? ⟨a, n, none⟩ = false := fun n => frozen_of h
  have f2 : ∀ n, w.frozen? ⟨b, n, none⟩ = false := fun n => frozen_of h'
  simp [mayBeOne, stringish, shape_of h, shape_of h', f1, f2, go_sem]
theorem sameAddr_cells (w : World) {a b : Nat} {cs cs' : Array Value} {T T' : TypeId} (h : w.heap[a]? = some (.cells cs T (0, 0))) (h' : w.heap[b]? = some (.cells cs' T' (0, 0))) (hab : a ≠ b) : (sameAddr ⟨a, 0, none⟩ ⟨b, 0, none⟩).run Try.prog w = .ok false w := by
  have f1 : ∀ n, w.frozen? ⟨a, n, none⟩ = false := fun n => frozen_of h
  simp [sameAddr, hab, f1, noView_cells w h, noView_cells w h', mayBeOne_cells w h h', go_sem]
theorem eqIn_ptr (w : World) (d : Nat) {a b : Nat} {cs cs' : Array Value} {T T' : TypeId} (h : w.heap[a]? = some (.cells cs T (0, 0))) (h' : w.heap[b]? = some (.cells cs' T' (0, 0))) (hab : a ≠ b) : (Op.equalIn (d + 1) TPt (.pointer (some ⟨a, 0, none⟩)) (.pointer (some ⟨b, 0, none⟩))).run Try.prog w = .ok false w := by
  simp [Op.equalIn, run_underlying undPt, sizePl, sameAddr_cells w h h' hab]
theorem eqIn_ptr_same (w : World) (d : Nat) (a : Nat) : (Op.equalIn (d + 1) TPt (.pointer (some ⟨a, 0, none⟩)) (.pointer (some ⟨a, 0, none⟩))).run Try.prog w = .ok true w := by
  simp [Op.equalIn, run_underlying undPt, sizePl, sameAddr]
theorem eq_ptr (w : World) {a b : Nat} {cs cs' : Array Value} {T T' : TypeId} (h : w.heap[a]? = some (.cells cs T (0, 0))) (h' : w.heap[b]? = some (.cells cs' T' (0, 0))) (hab : a ≠ b) : (Op.equal TPt (.pointer (some ⟨a, 0, none⟩)) (.pointer (some ⟨b, 0, none⟩))).run Try.prog w = .ok false w := eqIn_ptr w 9999 h h' hab
theorem eq_ptr_same (w : World) (a : Nat) : (Op.equal TPt (.pointer (some ⟨a, 0, none⟩)) (.pointer (some ⟨a, 0, none⟩))).run Try.prog w = .ok true w := eqIn_ptr_same w 9999 a
theorem neq_ptr (w : World) {a b : Nat} {cs cs' : Array Value} {T T' : TypeId} (h : w.heap[a]? = some (.cells cs T (0, 0))) (h' : w.heap[b]? = some (.cells cs' T' (0, 0))) (hab : a ≠ b) : (binOp .neq TPt (.pointer (some ⟨a, 0, none⟩)) (.pointer (some ⟨b, 0, none⟩))).run Try.prog w = .ok (.bool true) w := by
  simp only [binOp]
  simp [eq_ptr w h h' hab]
theorem neq_ptr_same (w : World) (a : Nat) : (binOp .neq TPt (.pointer (some ⟨a, 0, none⟩)) (.pointer (some ⟨a, 0, none⟩))).run Try.prog w = .ok (.bool false) w := by
  simp only [binOp]
  simp [eq_ptr_same w a]
end Go.Proofs.Ytpchllepboolhaa.S
