import Derived.Test.YtckfmpoddmccfaaFNm
import Derived.Test.YtckfmpoddmccfaaFNs
import Derived.Test.YtckfmpoddmccfaaFNt
import Derived.Test.YtckfmpoddmccfaaFNu
namespace Go.Proofs.Ytckfmpoddmccfaa
open Go.RowKit
set_option linter.unusedVariables false
set_option linter.unusedSimpArgs false
set_option maxRecDepth 100000

set_option maxHeartbeats 8000000 in
theorem cuts_k5 {w : World} {po : Option Addr} (h : Dd w po) (bo : Option Addr) (bn bc m : Nat) (z b : Bool) (a : Int) : Calls Try.prog 14 #[.pointer po, .agg #[.int .i64 5, .slice bo bn bc, .int .u32 (m : Int), .bool z, .bool b, .int .i64 a]] w fun e w' => e = .returned (.agg #[.int .i64 0, .int .u64 0, .int .u64 0, .int .u64 0, .int .u64 0, .int .u64 0, .int .u64 0, .int .u64 0, .int .u64 0, .slice none 0 0]) ∧ Below w.heap.size w w' := by
  obtain ⟨W0, hW0⟩ : ∃ W0, W0 = ((w.alloc (.cells #[.int .i64 5, .slice bo bn bc, .int .u32 (m : Int), .bool z, .bool b, .int .i64 a] 38)).alloc (.cells #[.int .i64 0, .int .u64 0, .int .u64 0, .int .u64 0, .int .u64 0, .int .u64 0, .int .u64 0, .int .u64 0, .int .u64 0, .slice none 0 0] 41)) := ⟨_, rfl⟩
  have hb0 : Below w.heap.size w W0 := by rw [hW0]; exact bx2_bel w _ _
  have g1 : W0.heap[w.heap.size + 1]? = some (.cells #[.int .i64 0, .int .u64 0, .int .u64 0, .int .u64 0, .int .u64 0, .int .u64 0, .int .u64 0, .int .u64 0, .int .u64 0, .slice none 0 0] 41 (0, 0)) := by
    have h := heap_new (w.alloc (.cells #[.int .i64 5, .slice bo bn bc, .int .u32 (m : Int), .bool z, .bool b, .int .i64 a] 38)) (.cells #[.int .i64 0, .int .u64 0, .int .u64 0, .int .u64 0, .int .u64 0, .int .u64 0, .int .u64 0, .int .u64 0, .int .u64 0, .slice none 0 0] 41)
    rw [World.size_alloc] at h
    rw [hW0]; exact h
  have HM : Hid (Calls Try.prog 33 #[.pointer po, .int .u32 (m : Int)] W0 fun e w' => e = .returned (.tuple #[.agg #[.int .u32 0, .int .u32 0, .slice none 0 0], .int .i64 0]) ∧ Below W0.heap.size W0 w') := optionReplyD (h.later hb0) m
  have HB0 : Hid _ := hb0
  have HG0 : Hid _ := g1
  clear g1 hb0 h
  go_enter Try.func14, Try.ntmps14
  go_wp2_with fail
  rw [← hW0]
  clear hW0
  refine HM.out.mono ?_
  rintro e w1 ⟨rfl, hb1⟩
  have hB1 : Below w.heap.size w w1 := HB0.out.trans (hb1.mono HB0.out.size)
  have g1 : w1.heap[w.heap.size + 1]? = some (.cells #[.int .i64 0, .int .u64 0, .int .u64 0, .int .u64 0, .int .u64 0, .int .u64 0, .int .u64 0, .int .u64 0, .int .u64 0, .slice none 0 0] 41 (0, 0)) := (hb1.block _ (block_lt HG0.out)).trans HG0.out
  have hB2 : Below w.heap.size w (w1.alloc (.cells #[.int .u32 0, .int .u32 0, .slice none 0 0] 62)) := hB1.alloc hB1.size _
  have g2 : (w1.alloc (.cells #[.int .u32 0, .int .u32 0, .slice none 0 0] 62)).heap[w.heap.size + 1]? = some (.cells #[.int .i64 0, .int .u64 0, .int .u64 0, .int .u64 0, .int .u64 0, .int .u64 0, .int .u64 0, .int .u64 0, .int .u64 0, .slice none 0 0] 41 (0, 0)) := (Below.heap_alloc _ _ _ (block_lt g1)).trans g1
  obtain ⟨W2, hW2⟩ : ∃ W2, W2 = (w1.alloc (.cells #[.int .u32 0, .int .u32 0, .slice none 0 0] 62)) := ⟨_, rfl⟩
  rw [← hW2] at hB2 g2
  have HO : Hid (Calls Try.prog 34 #[.agg #[.int .u32 0, .int .u32 0, .slice none 0 0], .int .i64 0] W2 fun e w' => e = .returned (.agg #[.int .i64 0, .int .u64 0, .int .u64 0, .int .u64 0, .int .u64 0, .int .u64 0, .int .u64 0, .int .u64 0, .int .u64 0, .slice none 0 0]) ∧ Below W2.heap.size W2 w') := ofReplyD W2
  have HB1 : Hid _ := hB2
  have HG1 : Hid _ := g2
  clear HM HB0 HG0 hb1 hB1 g1 hB2 g2
  go_wp2_with fail
  rw [← hW2]
  clear hW2
  refine HO.out.mono ?_
  rintro e w3 ⟨rfl, hb3⟩
  have HB2 : Hid (Below w.heap.size w w3) := HB1.out.trans (hb3.mono HB1.out.size)
  have g3 : w3.heap[w.heap.size + 1]? = some (.cells #[.int .i64 0, .int .u64 0, .int .u64 0, .int .u64 0, .int .u64 0, .int .u64 0, .int .u64 0, .int .u64 0, .int .u64 0, .slice none 0 0] 41 (0, 0)) := (hb3.block _ (block_lt HG1.out)).trans HG1.out
  have HG2 : Hid _ := g3
  have g1 := g3
  clear HO HB1 HG1 hb3 g3
  have r0 := blk_at g1 0
  have f0 := blk_free g1 0
  have r1 := blk_at g1 1
  have f1 := blk_free g1 1
  have r2 := blk_at g1 2
  have f2 := blk_free g1 2
  have r3 := blk_at g1 3
  have f3 := blk_free g1 3
  have r4 := blk_at g1 4
  have f4 := blk_free g1 4
  have r5 := blk_at g1 5
  have f5 := blk_free g1 5
  have r6 := blk_at g1 6
  have f6 := blk_free g1 6
  have r7 := blk_at g1 7
  have f7 := blk_free g1 7
  have r8 := blk_at g1 8
  have f8 := blk_free g1 8
  have r9 := blk_at g1 9
  have f9 := blk_free g1 9
  simp at r0 r1 r2 r3 r4 r5 r6 r7 r8 r9
  clear g1
  go_wp2
  exact bodyPost_ret (results_cell_one rfl _ _ (w.heap.size + 1) 41 #[.int .i64 0, .int .u64 0, .int .u64 0, .int .u64 0, .int .u64 0, .int .u64 0, .int .u64 0, .int .u64 0, .int .u64 0, .slice none 0 0] (0, 0) _ rfl (put_box (put_box (put_box (put_box (put_box (put_box (put_box (put_box (put_box (put_box HG2.out 0 (.int .i64 0) (cs' := #[.int .i64 0, .int .u64 0, .int .u64 0, .int .u64 0, .int .u64 0, .int .u64 0, .int .u64 0, .int .u64 0, .int .u64 0, .slice none 0 0]) rfl) 1 (.int .u64 0) (cs' := #[.int .i64 0, .int .u64 0, .int .u64 0, .int .u64 0, .int .u64 0, .int .u64 0, .int .u64 0, .int .u64 0, .int .u64 0, .slice none 0 0]) rfl) 2 (.int .u64 0) (cs' := #[.int .i64 0, .int .u64 0, .int .u64 0, .int .u64 0, .int .u64 0, .int .u64 0, .int .u64 0, .int .u64 0, .int .u64 0, .slice none 0 0]) rfl) 3 (.int .u64 0) (cs' := #[.int .i64 0, .int .u64 0, .int .u64 0, .int .u64 0, .int .u64 0, .int .u64 0, .int .u64 0, .int .u64 0, .int .u64 0, .slice none 0 0]) rfl) 4 (.int .u64 0) (cs' := #[.int .i64 0, .int .u64 0, .int .u64 0, .int .u64 0, .int .u64 0, .int .u64 0, .int .u64 0, .int .u64 0, .int .u64 0, .slice none 0 0]) rfl) 5 (.int .u64 0) (cs' := #[.int .i64 0, .int .u64 0, .int .u64 0, .int .u64 0, .int .u64 0, .int .u64 0, .int .u64 0, .int .u64 0, .int .u64 0, .slice none 0 0]) rfl) 6 (.int .u64 0) (cs' := #[.int .i64 0, .int .u64 0, .int .u64 0, .int .u64 0, .int .u64 0, .int .u64 0, .int .u64 0, .int .u64 0, .int .u64 0, .slice none 0 0]) rfl) 7 (.int .u64 0) (cs' := #[.int .i64 0, .int .u64 0, .int .u64 0, .int .u64 0, .int .u64 0, .int .u64 0, .int .u64 0, .int .u64 0, .int .u64 0, .slice none 0 0]) rfl) 8 (.int .u64 0) (cs' := #[.int .i64 0, .int .u64 0, .int .u64 0, .int .u64 0, .int .u64 0, .int .u64 0, .int .u64 0, .int .u64 0, .int .u64 0, .slice none 0 0]) rfl) 9 (.slice none 0 0) (cs' := #[.int .i64 0, .int .u64 0, .int .u64 0, .int .u64 0, .int .u64 0, .int .u64 0, .int .u64 0, .int .u64 0, .int .u64 0, .slice none 0 0]) rfl) Try.underlying41 rfl infoC) rfl ⟨rfl, setAll_below [(w.heap.size + 1, 0, .int .i64 0), (w.heap.size + 1, 1, .int .u64 0), (w.heap.size + 1, 2, .int .u64 0), (w.heap.size + 1, 3, .int .u64 0), (w.heap.size + 1, 4, .int .u64 0), (w.heap.size + 1, 5, .int .u64 0), (w.heap.size + 1, 6, .int .u64 0), (w.heap.size + 1, 7, .int .u64 0), (w.heap.size + 1, 8, .int .u64 0), (w.heap.size + 1, 9, .slice none 0 0)] w3 HB2.out (by simp)⟩
end Go.Proofs.Ytckfmpoddmccfaa
