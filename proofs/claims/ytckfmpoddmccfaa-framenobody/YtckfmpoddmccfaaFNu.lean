import Derived.Test.YtckfmpoddmccfaaFNs
import Derived.Deep.RegionHeld3
namespace Go.Proofs.Ytckfmpoddmccfaa
open Go.RowKit
set_option linter.unusedVariables false
set_option linter.unusedSimpArgs false
set_option maxRecDepth 100000

set_option maxHeartbeats 4000000 in
theorem ofAnswerD (w : World) : Calls Try.prog 39 #[.agg #[.bool false, .int .u32 0, .int .u64 0, .int .u16 0, .int .u16 0, .int .u64 0, .int .u64 0, .slice none 0 0], .int .i64 0] w fun e w' => e = .returned (.agg #[.int .i64 0, .int .u64 0, .int .u64 0, .int .u64 0, .int .u64 0, .int .u64 0, .int .u64 0, .int .u64 0, .int .u64 0, .slice none 0 0]) ∧ Below w.heap.size w w' := by
  have HB : Hid (Below w.heap.size w ((w.alloc (.cells #[.bool false, .int .u32 0, .int .u64 0, .int .u16 0, .int .u16 0, .int .u64 0, .int .u64 0, .slice none 0 0] 103)).alloc (.cells #[.int .i64 0, .int .u64 0, .int .u64 0, .int .u64 0, .int .u64 0, .int .u64 0, .int .u64 0, .int .u64 0, .int .u64 0, .slice none 0 0] 41))) := bx2_bel w _ _
  have g1 : ((w.alloc (.cells #[.bool false, .int .u32 0, .int .u64 0, .int .u16 0, .int .u16 0, .int .u64 0, .int .u64 0, .slice none 0 0] 103)).alloc (.cells #[.int .i64 0, .int .u64 0, .int .u64 0, .int .u64 0, .int .u64 0, .int .u64 0, .int .u64 0, .int .u64 0, .int .u64 0, .slice none 0 0] 41)).heap[w.heap.size + 1]? = some (.cells #[.int .i64 0, .int .u64 0, .int .u64 0, .int .u64 0, .int .u64 0, .int .u64 0, .int .u64 0, .int .u64 0, .int .u64 0, .slice none 0 0] 41 (0, 0)) := by
    have h := heap_new (w.alloc (.cells #[.bool false, .int .u32 0, .int .u64 0, .int .u16 0, .int .u16 0, .int .u64 0, .int .u64 0, .slice none 0 0] 103)) (.cells #[.int .i64 0, .int .u64 0, .int .u64 0, .int .u64 0, .int .u64 0, .int .u64 0, .int .u64 0, .int .u64 0, .int .u64 0, .slice none 0 0] 41)
    rw [World.size_alloc] at h
    exact h
  have g0 : ((w.alloc (.cells #[.bool false, .int .u32 0, .int .u64 0, .int .u16 0, .int .u16 0, .int .u64 0, .int .u64 0, .slice none 0 0] 103)).alloc (.cells #[.int .i64 0, .int .u64 0, .int .u64 0, .int .u64 0, .int .u64 0, .int .u64 0, .int .u64 0, .int .u64 0, .int .u64 0, .slice none 0 0] 41)).heap[w.heap.size]? = some (.cells #[.bool false, .int .u32 0, .int .u64 0, .int .u16 0, .int .u16 0, .int .u64 0, .int .u64 0, .slice none 0 0] 103 (0, 0)) := by
    rw [Below.heap_alloc _ _ _ (by simp)]; exact heap_new w _
  have HG1 : Hid _ := g1
  have HT : Hid (∀ W, Calls Try.prog 70 #[.bool false] W fun e w' => e = .returned (.int .u64 0) ∧ w' = W) := truthD
  have s0 := blk_at g0 0
  have s1 := blk_at g0 1
  have s2 := blk_at g0 2
  have s3 := blk_at g0 3
  have s4 := blk_at g0 4
  have s5 := blk_at g0 5
  have s6 := blk_at g0 6
  have s7 := blk_at g0 7
  simp at s0 s1 s2 s3 s4 s5 s6 s7
  clear g1 g0
  go_enter Try.func39, Try.ntmps39
  go_wp2
  go_region_held3 (fun w' => (((((((w'.cell? ⟨w.heap.size, 0, none⟩ = some (.bool false)) ∧ w'.cell? ⟨w.heap.size, 1, none⟩ = some (.int .u32 0)) ∧ w'.cell? ⟨w.heap.size, 2, none⟩ = some (.int .u64 0)) ∧ w'.cell? ⟨w.heap.size, 3, none⟩ = some (.int .u16 0)) ∧ w'.cell? ⟨w.heap.size, 4, none⟩ = some (.int .u16 0)) ∧ w'.cell? ⟨w.heap.size, 5, none⟩ = some (.int .u64 0)) ∧ w'.cell? ⟨w.heap.size, 6, none⟩ = some (.int .u64 0)) ∧ w'.cell? ⟨w.heap.size, 7, none⟩ = some (.slice none 0 0)) (go_keep) (first | (go_at_call 70; refine (HT.out _).mono ?_; rintro e w9 ⟨rfl, rfl⟩))
  all_goals
    go_wp2
    exact bodyPost_ret (results_cell_one rfl _ _ (w.heap.size + 1) 41 #[.int .i64 0, .int .u64 0, .int .u64 0, .int .u64 0, .int .u64 0, .int .u64 0, .int .u64 0, .int .u64 0, .int .u64 0, .slice none 0 0] (0, 0) _ rfl HG1.out Try.underlying41 rfl infoC) rfl ⟨rfl, below_drew HB.out⟩
end Go.Proofs.Ytckfmpoddmccfaa
