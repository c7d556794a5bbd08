import Derived.Test.YtckfmpoddmccfaaU14
import Derived.Deep.RegionWith
import Derived.Deep.RegionHeld3
import Derived.Test.YtckfmpoddmccfaaU22
namespace Go.Proofs.Ytckfmpoddmccfaa
open Go.RowKit
set_option linter.unusedVariables false
set_option linter.unusedSimpArgs false
set_option maxRecDepth 100000
/-- an inbox that no call made -/
def Dd (w : World) (po : Option Addr) : Prop := po = none ∨ ∃ b, po = some ⟨b, 0, none⟩ ∧ w.heap[b]? = some (.cells #[.int .i64 0, .slice none 0 0, .int .u32 0] TIn (0, 0))
theorem Dd.later {w w' : World} {po : Option Addr} (h : Dd w po) (hb : Below w.heap.size w w') : Dd w' po := by
  rcases h with h | ⟨b, h, hg⟩
  · exact .inl h
  · exact .inr ⟨b, h, (hb.block b (block_lt hg)).trans hg⟩
set_option maxHeartbeats 400000 in
theorem usableD {w : World} {po : Option Addr} (h : Dd w po) : Calls Try.prog 27 #[.pointer po] w fun e w' => e = .returned (.bool false) ∧ w' = w := by
  rcases h with rfl | ⟨b, rfl, hg⟩
  · go_enter Try.func27, Try.ntmps27
    go_wp2
    go_ret
    exact ⟨rfl, rfl⟩
  · have c0 := blk_at hg 0
    simp at c0
    clear hg
    go_enter Try.func27, Try.ntmps27
    go_wp2
    go_ret
    exact ⟨rfl, rfl⟩
set_option maxHeartbeats 400000 in
theorem feedD {w : World} {po : Option Addr} (h : Dd w po) (v : Value) : Calls Try.prog 19 #[.pointer po, v] w fun e w' => e = .returned (.int .i64 0) ∧ w' = w := by
  have HU : Hid (Calls Try.prog 27 #[.pointer po] w fun e w' => e = .returned (.bool false) ∧ w' = w) := usableD h
  clear h
  go_enter Try.func19, Try.ntmps19
  go_wp2_with fail
  refine HU.out.mono ?_
  rintro e w1 ⟨rfl, hw⟩
  rw [hw]; clear hw
  go_wp2
  go_ret
  exact ⟨rfl, rfl⟩
set_option maxHeartbeats 400000 in
theorem heldD {w : World} {po : Option Addr} (h : Dd w po) : Calls Try.prog 11 #[.pointer po] w fun e w' => e = .returned (.int .i64 0) ∧ w' = w := by
  have HU : Hid (Calls Try.prog 27 #[.pointer po] w fun e w' => e = .returned (.bool false) ∧ w' = w) := usableD h
  clear h
  go_enter Try.func11, Try.ntmps11
  go_wp2_with fail
  refine HU.out.mono ?_
  rintro e w1 ⟨rfl, hw⟩
  rw [hw]; clear hw
  go_wp2
  go_ret
  exact ⟨rfl, rfl⟩
set_option maxHeartbeats 400000 in
theorem roomD {w : World} {po : Option Addr} (h : Dd w po) : Calls Try.prog 12 #[.pointer po] w fun e w' => e = .returned (.int .i64 0) ∧ w' = w := by
  have HU : Hid (Calls Try.prog 27 #[.pointer po] w fun e w' => e = .returned (.bool false) ∧ w' = w) := usableD h
  clear h
  go_enter Try.func12, Try.ntmps12
  go_wp2_with fail
  refine HU.out.mono ?_
  rintro e w1 ⟨rfl, hw⟩
  rw [hw]; clear hw
  go_wp2
  go_ret
  exact ⟨rfl, rfl⟩
theorem infoRpl : (Try.prog.info? 103).map (·.size) = some 8 := by kernel_rfl
set_option maxHeartbeats 2000000 in
theorem cutGreetingD {w : World} {po : Option Addr} (h : Dd w po) (f : Value) : Calls Try.prog 69 #[.agg #[.pointer po, f]] w fun e w' => e = .returned (.tuple #[.agg #[.int .u16 0], .int .i64 0]) ∧ Below w.heap.size w w' := by
  obtain ⟨W0, hW0⟩ : ∃ W0, W0 = ((w.alloc (.cells #[.pointer po, f] 150)).alloc (.cells #[.int .u16 0] 88)).alloc (.cells #[.int .u16 0] 88) := ⟨_, rfl⟩
  have hb0 : Below w.heap.size w W0 := by rw [hW0]; exact bx3_bel w _ _ _
  have HU : Hid (Calls Try.prog 27 #[.pointer po] W0 fun e w' => e = .returned (.bool false) ∧ w' = W0) := usableD (h.later hb0)
  have g2 : W0.heap[w.heap.size + 1 + 1]? = some (.cells #[.int .u16 0] 88 (0, 0)) := by
    have h := heap_new ((w.alloc (.cells #[.pointer po, f] 150)).alloc (.cells #[.int .u16 0] 88)) (.cells #[.int .u16 0] 88)
    rw [World.size_alloc, World.size_alloc] at h
    rw [hW0]; exact h
  have g1 : W0.heap[w.heap.size + 1]? = some (.cells #[.int .u16 0] 88 (0, 0)) := by
    have h := heap_new (w.alloc (.cells #[.pointer po, f] 150)) (.cells #[.int .u16 0] 88)
    rw [World.size_alloc] at h
    rw [hW0, Below.heap_alloc _ _ _ (by simp)]; exact h
  have HB : Hid (Below w.heap.size w W0) := hb0
  have HG1 : Hid _ := g1
  have n0 := blk_at g2 0
  have r0 := blk_at g1 0
  have f0 := blk_free g1 0
  simp at n0 r0
  clear g1 g2 hb0 h
  go_enter Try.func69, Try.ntmps69
  go_wp2_with fail
  rw [← hW0]
  clear hW0
  refine HU.out.mono ?_
  rintro e w1 ⟨rfl, hw⟩
  rw [hw]; clear hw HU
  go_wp2
  exact bodyPost_ret (results_cell_tmp1 rfl _ _ (w.heap.size + 1) 88 #[.int .u16 0] (0, 0) _ rfl (put_box HG1.out 0 (.int .u16 0) (cs' := #[.int .u16 0]) rfl) Try.underlying88 rfl infoGre) rfl ⟨rfl, setAll_below [(w.heap.size + 1, 0, .int .u16 0)] W0 HB.out (by simp)⟩
set_option maxHeartbeats 2000000 in
theorem cutOptionD {w : World} {po : Option Addr} (h : Dd w po) (f : Value) : Calls Try.prog 63 #[.agg #[.pointer po, f]] w fun e w' => e = .returned (.tuple #[.agg #[.int .u32 0, .int .u32 0, .bool false, .slice none 0 0], .int .i64 0]) ∧ Below w.heap.size w w' := by
  obtain ⟨W0, hW0⟩ : ∃ W0, W0 = ((w.alloc (.cells #[.pointer po, f] 142)).alloc (.cells #[.int .u32 0, .int .u32 0, .bool false, .slice none 0 0] 57)).alloc (.cells #[.int .u32 0, .int .u32 0, .bool false, .slice none 0 0] 57) := ⟨_, rfl⟩
  have hb0 : Below w.heap.size w W0 := by rw [hW0]; exact bx3_bel w _ _ _
  have HU : Hid (Calls Try.prog 27 #[.pointer po] W0 fun e w' => e = .returned (.bool false) ∧ w' = W0) := usableD (h.later hb0)
  have g2 : W0.heap[w.heap.size + 1 + 1]? = some (.cells #[.int .u32 0, .int .u32 0, .bool false, .slice none 0 0] 57 (0, 0)) := by
    have h := heap_new ((w.alloc (.cells #[.pointer po, f] 142)).alloc (.cells #[.int .u32 0, .int .u32 0, .bool false, .slice none 0 0] 57)) (.cells #[.int .u32 0, .int .u32 0, .bool false, .slice none 0 0] 57)
    rw [World.size_alloc, World.size_alloc] at h
    rw [hW0]; exact h
  have g1 : W0.heap[w.heap.size + 1]? = some (.cells #[.int .u32 0, .int .u32 0, .bool false, .slice none 0 0] 57 (0, 0)) := by
    have h := heap_new (w.alloc (.cells #[.pointer po, f] 142)) (.cells #[.int .u32 0, .int .u32 0, .bool false, .slice none 0 0] 57)
    rw [World.size_alloc] at h
    rw [hW0, Below.heap_alloc _ _ _ (by simp)]; exact h
  have HB : Hid (Below w.heap.size w W0) := hb0
  have HG1 : Hid _ := g1
  have n0 := blk_at g2 0
  have r0 := blk_at g1 0
  have f0 := blk_free g1 0
  have n1 := blk_at g2 1
  have r1 := blk_at g1 1
  have f1 := blk_free g1 1
  have n2 := blk_at g2 2
  have r2 := blk_at g1 2
  have f2 := blk_free g1 2
  have n3 := blk_at g2 3
  have r3 := blk_at g1 3
  have f3 := blk_free g1 3
  simp at n0 r0 n1 r1 n2 r2 n3 r3
  clear g1 g2 hb0 h
  go_enter Try.func63, Try.ntmps63
  go_wp2_with fail
  rw [← hW0]
  clear hW0
  refine HU.out.mono ?_
  rintro e w1 ⟨rfl, hw⟩
  rw [hw]; clear hw HU
  go_wp2
  exact bodyPost_ret (results_cell_tmp1 rfl _ _ (w.heap.size + 1) 57 #[.int .u32 0, .int .u32 0, .bool false, .slice none 0 0] (0, 0) _ rfl (put_box (put_box (put_box (put_box HG1.out 0 (.int .u32 0) (cs' := #[.int .u32 0, .int .u32 0, .bool false, .slice none 0 0]) rfl) 1 (.int .u32 0) (cs' := #[.int .u32 0, .int .u32 0, .bool false, .slice none 0 0]) rfl) 2 (.bool false) (cs' := #[.int .u32 0, .int .u32 0, .bool false, .slice none 0 0]) rfl) 3 (.slice none 0 0) (cs' := #[.int .u32 0, .int .u32 0, .bool false, .slice none 0 0]) rfl) Try.underlying57 rfl infoOpt) rfl ⟨rfl, setAll_below [(w.heap.size + 1, 0, .int .u32 0), (w.heap.size + 1, 1, .int .u32 0), (w.heap.size + 1, 2, .bool false), (w.heap.size + 1, 3, .slice none 0 0)] W0 HB.out (by simp)⟩
set_option maxHeartbeats 2000000 in
theorem cutOptionReplyD {w : World} {po : Option Addr} (h : Dd w po) (f : Value) : Calls Try.prog 73 #[.agg #[.pointer po, f]] w fun e w' => e = .returned (.tuple #[.agg #[.int .u32 0, .int .u32 0, .slice none 0 0], .int .i64 0]) ∧ Below w.heap.size w w' := by
  obtain ⟨W0, hW0⟩ : ∃ W0, W0 = ((w.alloc (.cells #[.pointer po, f] 156)).alloc (.cells #[.int .u32 0, .int .u32 0, .slice none 0 0] 62)).alloc (.cells #[.int .u32 0, .int .u32 0, .slice none 0 0] 62) := ⟨_, rfl⟩
  have hb0 : Below w.heap.size w W0 := by rw [hW0]; exact bx3_bel w _ _ _
  have HU : Hid (Calls Try.prog 27 #[.pointer po] W0 fun e w' => e = .returned (.bool false) ∧ w' = W0) := usableD (h.later hb0)
  have g2 : W0.heap[w.heap.size + 1 + 1]? = some (.cells #[.int .u32 0, .int .u32 0, .slice none 0 0] 62 (0, 0)) := by
    have h := heap_new ((w.alloc (.cells #[.pointer po, f] 156)).alloc (.cells #[.int .u32 0, .int .u32 0, .slice none 0 0] 62)) (.cells #[.int .u32 0, .int .u32 0, .slice none 0 0] 62)
    rw [World.size_alloc, World.size_alloc] at h
    rw [hW0]; exact h
  have g1 : W0.heap[w.heap.size + 1]? = some (.cells #[.int .u32 0, .int .u32 0, .slice none 0 0] 62 (0, 0)) := by
    have h := heap_new (w.alloc (.cells #[.pointer po, f] 156)) (.cells #[.int .u32 0, .int .u32 0, .slice none 0 0] 62)
    rw [World.size_alloc] at h
    rw [hW0, Below.heap_alloc _ _ _ (by simp)]; exact h
  have HB : Hid (Below w.heap.size w W0) := hb0
  have HG1 : Hid _ := g1
  have n0 := blk_at g2 0
  have r0 := blk_at g1 0
  have f0 := blk_free g1 0
  have n1 := blk_at g2 1
  have r1 := blk_at g1 1
  have f1 := blk_free g1 1
  have n2 := blk_at g2 2
  have r2 := blk_at g1 2
  have f2 := blk_free g1 2
  simp at n0 r0 n1 r1 n2 r2
  clear g1 g2 hb0 h
  go_enter Try.func73, Try.ntmps73
  go_wp2_with fail
  rw [← hW0]
  clear hW0
  refine HU.out.mono ?_
  rintro e w1 ⟨rfl, hw⟩
  rw [hw]; clear hw HU
  go_wp2
  exact bodyPost_ret (results_cell_tmp1 rfl _ _ (w.heap.size + 1) 62 #[.int .u32 0, .int .u32 0, .slice none 0 0] (0, 0) _ rfl (put_box (put_box (put_box HG1.out 0 (.int .u32 0) (cs' := #[.int .u32 0, .int .u32 0, .slice none 0 0]) rfl) 1 (.int .u32 0) (cs' := #[.int .u32 0, .int .u32 0, .slice none 0 0]) rfl) 2 (.slice none 0 0) (cs' := #[.int .u32 0, .int .u32 0, .slice none 0 0]) rfl) Try.underlying62 rfl infoRep) rfl ⟨rfl, setAll_below [(w.heap.size + 1, 0, .int .u32 0), (w.heap.size + 1, 1, .int .u32 0), (w.heap.size + 1, 2, .slice none 0 0)] W0 HB.out (by simp)⟩
set_option maxHeartbeats 2000000 in
theorem cutExportReplyD {w : World} {po : Option Addr} (h : Dd w po) (f : Value) : Calls Try.prog 76 #[.agg #[.pointer po, f]] w fun e w' => e = .returned (.tuple #[.agg #[.int .u64 0, .int .u16 0], .int .i64 0]) ∧ Below w.heap.size w w' := by
  obtain ⟨W0, hW0⟩ : ∃ W0, W0 = ((w.alloc (.cells #[.pointer po, f] 162)).alloc (.cells #[.int .u64 0, .int .u16 0] 96)).alloc (.cells #[.int .u64 0, .int .u16 0] 96) := ⟨_, rfl⟩
  have hb0 : Below w.heap.size w W0 := by rw [hW0]; exact bx3_bel w _ _ _
  have HU : Hid (Calls Try.prog 27 #[.pointer po] W0 fun e w' => e = .returned (.bool false) ∧ w' = W0) := usableD (h.later hb0)
  have g2 : W0.heap[w.heap.size + 1 + 1]? = some (.cells #[.int .u64 0, .int .u16 0] 96 (0, 0)) := by
    have h := heap_new ((w.alloc (.cells #[.pointer po, f] 162)).alloc (.cells #[.int .u64 0, .int .u16 0] 96)) (.cells #[.int .u64 0, .int .u16 0] 96)
    rw [World.size_alloc, World.size_alloc] at h
    rw [hW0]; exact h
  have g1 : W0.heap[w.heap.size + 1]? = some (.cells #[.int .u64 0, .int .u16 0] 96 (0, 0)) := by
    have h := heap_new (w.alloc (.cells #[.pointer po, f] 162)) (.cells #[.int .u64 0, .int .u16 0] 96)
    rw [World.size_alloc] at h
    rw [hW0, Below.heap_alloc _ _ _ (by simp)]; exact h
  have HB : Hid (Below w.heap.size w W0) := hb0
  have HG1 : Hid _ := g1
  have n0 := blk_at g2 0
  have r0 := blk_at g1 0
  have f0 := blk_free g1 0
  have n1 := blk_at g2 1
  have r1 := blk_at g1 1
  have f1 := blk_free g1 1
  simp at n0 r0 n1 r1
  clear g1 g2 hb0 h
  go_enter Try.func76, Try.ntmps76
  go_wp2_with fail
  rw [← hW0]
  clear hW0
  refine HU.out.mono ?_
  rintro e w1 ⟨rfl, hw⟩
  rw [hw]; clear hw HU
  go_wp2
  exact bodyPost_ret (results_cell_tmp1 rfl _ _ (w.heap.size + 1) 96 #[.int .u64 0, .int .u16 0] (0, 0) _ rfl (put_box (put_box HG1.out 0 (.int .u64 0) (cs' := #[.int .u64 0, .int .u16 0]) rfl) 1 (.int .u16 0) (cs' := #[.int .u64 0, .int .u16 0]) rfl) Try.underlying96 rfl infoExp) rfl ⟨rfl, setAll_below [(w.heap.size + 1, 0, .int .u64 0), (w.heap.size + 1, 1, .int .u16 0)] W0 HB.out (by simp)⟩
set_option maxHeartbeats 2000000 in
theorem cutRequestD {w : World} {po : Option Addr} (h : Dd w po) (f : Value) : Calls Try.prog 79 #[.agg #[.pointer po, f]] w fun e w' => e = .returned (.tuple #[.agg #[.int .u16 0, .int .u16 0, .int .u64 0, .int .u64 0, .int .u64 0, .slice none 0 0], .int .i64 0]) ∧ Below w.heap.size w w' := by
  obtain ⟨W0, hW0⟩ : ∃ W0, W0 = ((w.alloc (.cells #[.pointer po, f] 168)).alloc (.cells #[.int .u16 0, .int .u16 0, .int .u64 0, .int .u64 0, .int .u64 0, .slice none 0 0] 60)).alloc (.cells #[.int .u16 0, .int .u16 0, .int .u64 0, .int .u64 0, .int .u64 0, .slice none 0 0] 60) := ⟨_, rfl⟩
  have hb0 : Below w.heap.size w W0 := by rw [hW0]; exact bx3_bel w _ _ _
  have HU : Hid (Calls Try.prog 27 #[.pointer po] W0 fun e w' => e = .returned (.bool false) ∧ w' = W0) := usableD (h.later hb0)
  have g2 : W0.heap[w.heap.size + 1 + 1]? = some (.cells #[.int .u16 0, .int .u16 0, .int .u64 0, .int .u64 0, .int .u64 0, .slice none 0 0] 60 (0, 0)) := by
    have h := heap_new ((w.alloc (.cells #[.pointer po, f] 168)).alloc (.cells #[.int .u16 0, .int .u16 0, .int .u64 0, .int .u64 0, .int .u64 0, .slice none 0 0] 60)) (.cells #[.int .u16 0, .int .u16 0, .int .u64 0, .int .u64 0, .int .u64 0, .slice none 0 0] 60)
    rw [World.size_alloc, World.size_alloc] at h
    rw [hW0]; exact h
  have g1 : W0.heap[w.heap.size + 1]? = some (.cells #[.int .u16 0, .int .u16 0, .int .u64 0, .int .u64 0, .int .u64 0, .slice none 0 0] 60 (0, 0)) := by
    have h := heap_new (w.alloc (.cells #[.pointer po, f] 168)) (.cells #[.int .u16 0, .int .u16 0, .int .u64 0, .int .u64 0, .int .u64 0, .slice none 0 0] 60)
    rw [World.size_alloc] at h
    rw [hW0, Below.heap_alloc _ _ _ (by simp)]; exact h
  have HB : Hid (Below w.heap.size w W0) := hb0
  have HG1 : Hid _ := g1
  have n0 := blk_at g2 0
  have r0 := blk_at g1 0
  have f0 := blk_free g1 0
  have n1 := blk_at g2 1
  have r1 := blk_at g1 1
  have f1 := blk_free g1 1
  have n2 := blk_at g2 2
  have r2 := blk_at g1 2
  have f2 := blk_free g1 2
  have n3 := blk_at g2 3
  have r3 := blk_at g1 3
  have f3 := blk_free g1 3
  have n4 := blk_at g2 4
  have r4 := blk_at g1 4
  have f4 := blk_free g1 4
  have n5 := blk_at g2 5
  have r5 := blk_at g1 5
  have f5 := blk_free g1 5
  simp at n0 r0 n1 r1 n2 r2 n3 r3 n4 r4 n5 r5
  clear g1 g2 hb0 h
  go_enter Try.func79, Try.ntmps79
  go_wp2_with fail
  rw [← hW0]
  clear hW0
  refine HU.out.mono ?_
  rintro e w1 ⟨rfl, hw⟩
  rw [hw]; clear hw HU
  go_wp2
  exact bodyPost_ret (results_cell_tmp1 rfl _ _ (w.heap.size + 1) 60 #[.int .u16 0, .int .u16 0, .int .u64 0, .int .u64 0, .int .u64 0, .slice none 0 0] (0, 0) _ rfl (put_box (put_box (put_box (put_box (put_box (put_box HG1.out 0 (.int .u16 0) (cs' := #[.int .u16 0, .int .u16 0, .int .u64 0, .int .u64 0, .int .u64 0, .slice none 0 0]) rfl) 1 (.int .u16 0) (cs' := #[.int .u16 0, .int .u16 0, .int .u64 0, .int .u64 0, .int .u64 0, .slice none 0 0]) rfl) 2 (.int .u64 0) (cs' := #[.int .u16 0, .int .u16 0, .int .u64 0, .int .u64 0, .int .u64 0, .slice none 0 0]) rfl) 3 (.int .u64 0) (cs' := #[.int .u16 0, .int .u16 0, .int .u64 0, .int .u64 0, .int .u64 0, .slice none 0 0]) rfl) 4 (.int .u64 0) (cs' := #[.int .u16 0, .int .u16 0, .int .u64 0, .int .u64 0, .int .u64 0, .slice none 0 0]) rfl) 5 (.slice none 0 0) (cs' := #[.int .u16 0, .int .u16 0, .int .u64 0, .int .u64 0, .int .u64 0, .slice none 0 0]) rfl) Try.underlying60 rfl infoReq) rfl ⟨rfl, setAll_below [(w.heap.size + 1, 0, .int .u16 0), (w.heap.size + 1, 1, .int .u16 0), (w.heap.size + 1, 2, .int .u64 0), (w.heap.size + 1, 3, .int .u64 0), (w.heap.size + 1, 4, .int .u64 0), (w.heap.size + 1, 5, .slice none 0 0)] W0 HB.out (by simp)⟩
set_option maxHeartbeats 2000000 in
theorem cutReplyD {w : World} {po : Option Addr} (h : Dd w po) (f : Value) : Calls Try.prog 82 #[.agg #[.pointer po, f]] w fun e w' => e = .returned (.tuple #[.agg #[.bool false, .int .u32 0, .int .u64 0, .int .u16 0, .int .u16 0, .int .u64 0, .int .u64 0, .slice none 0 0], .int .i64 0]) ∧ Below w.heap.size w w' := by
  obtain ⟨W0, hW0⟩ : ∃ W0, W0 = ((w.alloc (.cells #[.pointer po, f] 174)).alloc (.cells #[.bool false, .int .u32 0, .int .u64 0, .int .u16 0, .int .u16 0, .int .u64 0, .int .u64 0, .slice none 0 0] 103)).alloc (.cells #[.bool false, .int .u32 0, .int .u64 0, .int .u16 0, .int .u16 0, .int .u64 0, .int .u64 0, .slice none 0 0] 103) := ⟨_, rfl⟩
  have hb0 : Below w.heap.size w W0 := by rw [hW0]; exact bx3_bel w _ _ _
  have HU : Hid (Calls Try.prog 27 #[.pointer po] W0 fun e w' => e = .returned (.bool false) ∧ w' = W0) := usableD (h.later hb0)
  have g2 : W0.heap[w.heap.size + 1 + 1]? = some (.cells #[.bool false, .int .u32 0, .int .u64 0, .int .u16 0, .int .u16 0, .int .u64 0, .int .u64 0, .slice none 0 0] 103 (0, 0)) := by
    have h := heap_new ((w.alloc (.cells #[.pointer po, f] 174)).alloc (.cells #[.bool false, .int .u32 0, .int .u64 0, .int .u16 0, .int .u16 0, .int .u64 0, .int .u64 0, .slice none 0 0] 103)) (.cells #[.bool false, .int .u32 0, .int .u64 0, .int .u16 0, .int .u16 0, .int .u64 0, .int .u64 0, .slice none 0 0] 103)
    rw [World.size_alloc, World.size_alloc] at h
    rw [hW0]; exact h
  have g1 : W0.heap[w.heap.size + 1]? = some (.cells #[.bool false, .int .u32 0, .int .u64 0, .int .u16 0, .int .u16 0, .int .u64 0, .int .u64 0, .slice none 0 0] 103 (0, 0)) := by
    have h := heap_new (w.alloc (.cells #[.pointer po, f] 174)) (.cells #[.bool false, .int .u32 0, .int .u64 0, .int .u16 0, .int .u16 0, .int .u64 0, .int .u64 0, .slice none 0 0] 103)
    rw [World.size_alloc] at h
    rw [hW0, Below.heap_alloc _ _ _ (by simp)]; exact h
  have HB : Hid (Below w.heap.size w W0) := hb0
  have HG1 : Hid _ := g1
  have n0 := blk_at g2 0
  have r0 := blk_at g1 0
  have f0 := blk_free g1 0
  have n1 := blk_at g2 1
  have r1 := blk_at g1 1
  have f1 := blk_free g1 1
  have n2 := blk_at g2 2
  have r2 := blk_at g1 2
  have f2 := blk_free g1 2
  have n3 := blk_at g2 3
  have r3 := blk_at g1 3
  have f3 := blk_free g1 3
  have n4 := blk_at g2 4
  have r4 := blk_at g1 4
  have f4 := blk_free g1 4
  have n5 := blk_at g2 5
  have r5 := blk_at g1 5
  have f5 := blk_free g1 5
  have n6 := blk_at g2 6
  have r6 := blk_at g1 6
  have f6 := blk_free g1 6
  have n7 := blk_at g2 7
  have r7 := blk_at g1 7
  have f7 := blk_free g1 7
  simp at n0 r0 n1 r1 n2 r2 n3 r3 n4 r4 n5 r5 n6 r6 n7 r7
  clear g1 g2 hb0 h
  go_enter Try.func82, Try.ntmps82
  go_wp2_with fail
  rw [← hW0]
  clear hW0
  refine HU.out.mono ?_
  rintro e w1 ⟨rfl, hw⟩
  rw [hw]; clear hw HU
  go_wp2
  exact bodyPost_ret (results_cell_tmp1 rfl _ _ (w.heap.size + 1) 103 #[.bool false, .int .u32 0, .int .u64 0, .int .u16 0, .int .u16 0, .int .u64 0, .int .u64 0, .slice none 0 0] (0, 0) _ rfl (put_box (put_box (put_box (put_box (put_box (put_box (put_box (put_box HG1.out 0 (.bool false) (cs' := #[.bool false, .int .u32 0, .int .u64 0, .int .u16 0, .int .u16 0, .int .u64 0, .int .u64 0, .slice none 0 0]) rfl) 1 (.int .u32 0) (cs' := #[.bool false, .int .u32 0, .int .u64 0, .int .u16 0, .int .u16 0, .int .u64 0, .int .u64 0, .slice none 0 0]) rfl) 2 (.int .u64 0) (cs' := #[.bool false, .int .u32 0, .int .u64 0, .int .u16 0, .int .u16 0, .int .u64 0, .int .u64 0, .slice none 0 0]) rfl) 3 (.int .u16 0) (cs' := #[.bool false, .int .u32 0, .int .u64 0, .int .u16 0, .int .u16 0, .int .u64 0, .int .u64 0, .slice none 0 0]) rfl) 4 (.int .u16 0) (cs' := #[.bool false, .int .u32 0, .int .u64 0, .int .u16 0, .int .u16 0, .int .u64 0, .int .u64 0, .slice none 0 0]) rfl) 5 (.int .u64 0) (cs' := #[.bool false, .int .u32 0, .int .u64 0, .int .u16 0, .int .u16 0, .int .u64 0, .int .u64 0, .slice none 0 0]) rfl) 6 (.int .u64 0) (cs' := #[.bool false, .int .u32 0, .int .u64 0, .int .u16 0, .int .u16 0, .int .u64 0, .int .u64 0, .slice none 0 0]) rfl) 7 (.slice none 0 0) (cs' := #[.bool false, .int .u32 0, .int .u64 0, .int .u16 0, .int .u16 0, .int .u64 0, .int .u64 0, .slice none 0 0]) rfl) Try.underlying103 rfl infoRpl) rfl ⟨rfl, setAll_below [(w.heap.size + 1, 0, .bool false), (w.heap.size + 1, 1, .int .u32 0), (w.heap.size + 1, 2, .int .u64 0), (w.heap.size + 1, 3, .int .u16 0), (w.heap.size + 1, 4, .int .u16 0), (w.heap.size + 1, 5, .int .u64 0), (w.heap.size + 1, 6, .int .u64 0), (w.heap.size + 1, 7, .slice none 0 0)] W0 HB.out (by simp)⟩
end Go.Proofs.Ytckfmpoddmccfaa
namespace Go.Proofs.Ytckfmpoddmccfaa
open Go.RowKit
set_option linter.unusedVariables false
set_option linter.unusedSimpArgs false
set_option maxRecDepth 100000
set_option maxHeartbeats 2000000 in
theorem cutFlagsD {w : World} {po : Option Addr} (h : Dd w po) (f : Value) : Calls Try.prog 66 #[.agg #[.pointer po, f]] w fun e w' => e = .returned (.tuple #[.int .u32 0, .int .i64 0]) ∧ Below w.heap.size w w' := by
  obtain ⟨W0, hW0⟩ : ∃ W0, W0 = w.alloc (.cells #[.pointer po, f] 147) := ⟨_, rfl⟩
  have hb0 : Below w.heap.size w W0 := by rw [hW0]; exact (Below.refl _ _).alloc (Nat.le_refl _) _
  have HU : Hid (Calls Try.prog 27 #[.pointer po] W0 fun e w' => e = .returned (.bool false) ∧ w' = W0) := usableD (h.later hb0)
  have HB : Hid (Below w.heap.size w W0) := hb0
  clear hb0 h
  go_enter Try.func66, Try.ntmps66
  go_wp2_with fail
  rw [← hW0]
  clear hW0
  refine HU.out.mono ?_
  rintro e w1 ⟨rfl, hw⟩
  rw [hw]; clear hw HU
  go_wp2
  go_ret2
  exact ⟨rfl, HB.out⟩
set_option maxHeartbeats 2000000 in
theorem flagsD {w : World} {po : Option Addr} (h : Dd w po) : Calls Try.prog 25 #[.pointer po] w fun e w' => e = .returned (.tuple #[.int .u32 0, .int .i64 0]) ∧ Below w.heap.size w w' := by
  obtain ⟨W0, hW0⟩ : ∃ W0, W0 = w := ⟨_, rfl⟩
  have hb0 : Below w.heap.size w W0 := by rw [hW0]; exact Below.refl _ _
  have HC : Hid (∀ f, Calls Try.prog 66 #[.agg #[.pointer po, f]] W0 fun e w' => e = .returned (.tuple #[.int .u32 0, .int .i64 0]) ∧ Below W0.heap.size W0 w') := fun f => cutFlagsD (h.later hb0) f
  have HB0 : Hid (Below w.heap.size w W0) := hb0
  clear hb0 h
  go_enter Try.func25, Try.ntmps25
  go_wp2_with fail
  rw [← hW0]
  clear hW0
  refine (HC.out _).mono ?_
  rintro e w1 ⟨rfl, hb1⟩
  have HB1 : Hid (Below w.heap.size w w1) := HB0.out.trans (hb1.mono HB0.out.size)
  clear hb1 HC HB0
  go_wp2
  go_ret2
  exact ⟨rfl, HB1.out⟩
set_option maxHeartbeats 2000000 in
theorem cutDataD {w : World} {po : Option Addr} (h : Dd w po) (f : Value) : Calls Try.prog 85 #[.agg #[.pointer po, f]] w fun e w' => e = .returned (.tuple #[.slice none 0 0, .int .i64 0]) ∧ Below w.heap.size w w' := by
  obtain ⟨W0, hW0⟩ : ∃ W0, W0 = w.alloc (.cells #[.pointer po, f] 180) := ⟨_, rfl⟩
  have hb0 : Below w.heap.size w W0 := by rw [hW0]; exact (Below.refl _ _).alloc (Nat.le_refl _) _
  have HU : Hid (Calls Try.prog 27 #[.pointer po] W0 fun e w' => e = .returned (.bool false) ∧ w' = W0) := usableD (h.later hb0)
  have HB : Hid (Below w.heap.size w W0) := hb0
  clear hb0 h
  go_enter Try.func85, Try.ntmps85
  go_wp2_with fail
  rw [← hW0]
  clear hW0
  refine HU.out.mono ?_
  rintro e w1 ⟨rfl, hw⟩
  rw [hw]; clear hw HU
  go_wp2
  go_ret2
  exact ⟨rfl, HB.out⟩
set_option maxHeartbeats 2000000 in
theorem dataD {w : World} {po : Option Addr} (h : Dd w po) (a : Int) : Calls Try.prog 40 #[.pointer po, .int .i64 a] w fun e w' => e = .returned (.tuple #[.slice none 0 0, .int .i64 0]) ∧ Below w.heap.size w w' := by
  obtain ⟨W0, hW0⟩ : ∃ W0, W0 = w.alloc (.cells #[.int .i64 a] 3) := ⟨_, rfl⟩
  have hb0 : Below w.heap.size w W0 := by rw [hW0]; exact (Below.refl _ _).alloc (Nat.le_refl _) _
  have HC : Hid (∀ f, Calls Try.prog 85 #[.agg #[.pointer po, f]] W0 fun e w' => e = .returned (.tuple #[.slice none 0 0, .int .i64 0]) ∧ Below W0.heap.size W0 w') := fun f => cutDataD (h.later hb0) f
  have HB0 : Hid (Below w.heap.size w W0) := hb0
  clear hb0 h
  go_enter Try.func40, Try.ntmps40
  go_wp2_with fail
  rw [← hW0]
  clear hW0
  refine (HC.out _).mono ?_
  rintro e w1 ⟨rfl, hb1⟩
  have HB1 : Hid (Below w.heap.size w w1) := HB0.out.trans (hb1.mono HB0.out.size)
  clear hb1 HC HB0
  go_wp2
  go_ret2
  exact ⟨rfl, HB1.out⟩
abbrev zC : Array Value := #[.int .i64 0, .int .u64 0, .int .u64 0, .int .u64 0, .int .u64 0, .int .u64 0, .int .u64 0, .int .u64 0, .int .u64 0, .slice none 0 0]
theorem infoC : (Try.prog.info? 41).map (·.size) = some 10 := by kernel_rfl
/-- a result in a box -/
theorem results_cell_one {P : Program} {fn : Func} {p : Tmp} {ty : TypeId} (h : fn.results = #[.cell p ty]) (tmps : Array Value) (w : World) (g : Nat) (t : TypeId) (cs : Array Value) (fr : Nat × Nat) (d : TypeDesc)
    (hp : tmps.getD p undef = .pointer (some ⟨g, 0, none⟩)) (hg : w.heap[g]? = some (.cells cs t fr))
    (hu : P.underlying ty = some d) (hd : (match d with | .struct _ | .array _ _ => true | _ => false) = true) (hi : (P.info? ty).map (·.size) = some cs.size) :
    (results fn tmps).run P w = .ok (.agg cs) w := by
  have hp' : tmps[p]?.getD undef = .pointer (some ⟨g, 0, none⟩) := by simpa using hp
  simp [results, h, hp', asAddr, Sem.run_bind, Result.andThen, run_loadVar_row w g t ty cs fr d hg hu hd hi]
set_option maxHeartbeats 400000 in
theorem truthD (w : World) : Calls Try.prog 70 #[.bool false] w fun e w' => e = .returned (.int .u64 0) ∧ w' = w := by
  go_enter Try.func70, Try.ntmps70
  go_wp2
  go_ret
  exact ⟨rfl, rfl⟩
set_option maxHeartbeats 4000000 in
theorem ofReplyD (w : World) : Calls Try.prog 34 #[.agg #[.int .u32 0, .int .u32 0, .slice none 0 0], .int .i64 0] w fun e w' => e = .returned (.agg #[.int .i64 0, .int .u64 0, .int .u64 0, .int .u64 0, .int .u64 0, .int .u64 0, .int .u64 0, .int .u64 0, .int .u64 0, .slice none 0 0]) ∧ Below w.heap.size w w' := by
  have HB : Hid (Below w.heap.size w ((w.alloc (.cells #[.int .u32 0, .int .u32 0, .slice none 0 0] 62)).alloc (.cells #[.int .i64 0, .int .u64 0, .int .u64 0, .int .u64 0, .int .u64 0, .int .u64 0, .int .u64 0, .int .u64 0, .int .u64 0, .slice none 0 0] 41))) := bx2_bel w _ _
  have g1 : ((w.alloc (.cells #[.int .u32 0, .int .u32 0, .slice none 0 0] 62)).alloc (.cells #[.int .i64 0, .int .u64 0, .int .u64 0, .int .u64 0, .int .u64 0, .int .u64 0, .int .u64 0, .int .u64 0, .int .u64 0, .slice none 0 0] 41)).heap[w.heap.size + 1]? = some (.cells #[.int .i64 0, .int .u64 0, .int .u64 0, .int .u64 0, .int .u64 0, .int .u64 0, .int .u64 0, .int .u64 0, .int .u64 0, .slice none 0 0] 41 (0, 0)) := by
    have h := heap_new (w.alloc (.cells #[.int .u32 0, .int .u32 0, .slice none 0 0] 62)) (.cells #[.int .i64 0, .int .u64 0, .int .u64 0, .int .u64 0, .int .u64 0, .int .u64 0, .int .u64 0, .int .u64 0, .int .u64 0, .slice none 0 0] 41)
    rw [World.size_alloc] at h
    exact h
  have g0 : ((w.alloc (.cells #[.int .u32 0, .int .u32 0, .slice none 0 0] 62)).alloc (.cells #[.int .i64 0, .int .u64 0, .int .u64 0, .int .u64 0, .int .u64 0, .int .u64 0, .int .u64 0, .int .u64 0, .int .u64 0, .slice none 0 0] 41)).heap[w.heap.size]? = some (.cells #[.int .u32 0, .int .u32 0, .slice none 0 0] 62 (0, 0)) := by
    rw [Below.heap_alloc _ _ _ (by simp)]; exact heap_new w _
  have HG1 : Hid _ := g1
  have HT : Hid (∀ W, Calls Try.prog 70 #[.bool false] W fun e w' => e = .returned (.int .u64 0) ∧ w' = W) := truthD
  have s0 := blk_at g0 0
  have s1 := blk_at g0 1
  have s2 := blk_at g0 2
  simp at s0 s1 s2
  clear g1 g0
  go_enter Try.func34, Try.ntmps34
  go_wp2
  exact bodyPost_ret (results_cell_one rfl _ _ (w.heap.size + 1) 41 #[.int .i64 0, .int .u64 0, .int .u64 0, .int .u64 0, .int .u64 0, .int .u64 0, .int .u64 0, .int .u64 0, .int .u64 0, .slice none 0 0] (0, 0) _ rfl HG1.out Try.underlying41 rfl infoC) rfl ⟨rfl, HB.out⟩
set_option maxHeartbeats 4000000 in
theorem ofRequestD (w : World) : Calls Try.prog 37 #[.agg #[.int .u16 0, .int .u16 0, .int .u64 0, .int .u64 0, .int .u64 0, .slice none 0 0], .int .i64 0] w fun e w' => e = .returned (.agg #[.int .i64 0, .int .u64 0, .int .u64 0, .int .u64 0, .int .u64 0, .int .u64 0, .int .u64 0, .int .u64 0, .int .u64 0, .slice none 0 0]) ∧ Below w.heap.size w w' := by
  have HB : Hid (Below w.heap.size w ((w.alloc (.cells #[.int .u16 0, .int .u16 0, .int .u64 0, .int .u64 0, .int .u64 0, .slice none 0 0] 60)).alloc (.cells #[.int .i64 0, .int .u64 0, .int .u64 0, .int .u64 0, .int .u64 0, .int .u64 0, .int .u64 0, .int .u64 0, .int .u64 0, .slice none 0 0] 41))) := bx2_bel w _ _
  have g1 : ((w.alloc (.cells #[.int .u16 0, .int .u16 0, .int .u64 0, .int .u64 0, .int .u64 0, .slice none 0 0] 60)).alloc (.cells #[.int .i64 0, .int .u64 0, .int .u64 0, .int .u64 0, .int .u64 0, .int .u64 0, .int .u64 0, .int .u64 0, .int .u64 0, .slice none 0 0] 41)).heap[w.heap.size + 1]? = some (.cells #[.int .i64 0, .int .u64 0, .int .u64 0, .int .u64 0, .int .u64 0, .int .u64 0, .int .u64 0, .int .u64 0, .int .u64 0, .slice none 0 0] 41 (0, 0)) := by
    have h := heap_new (w.alloc (.cells #[.int .u16 0, .int .u16 0, .int .u64 0, .int .u64 0, .int .u64 0, .slice none 0 0] 60)) (.cells #[.int .i64 0, .int .u64 0, .int .u64 0, .int .u64 0, .int .u64 0, .int .u64 0, .int .u64 0, .int .u64 0, .int .u64 0, .slice none 0 0] 41)
    rw [World.size_alloc] at h
    exact h
  have g0 : ((w.alloc (.cells #[.int .u16 0, .int .u16 0, .int .u64 0, .int .u64 0, .int .u64 0, .slice none 0 0] 60)).alloc (.cells #[.int .i64 0, .int .u64 0, .int .u64 0, .int .u64 0, .int .u64 0, .int .u64 0, .int .u64 0, .int .u64 0, .int .u64 0, .slice none 0 0] 41)).heap[w.heap.size]? = some (.cells #[.int .u16 0, .int .u16 0, .int .u64 0, .int .u64 0, .int .u64 0, .slice none 0 0] 60 (0, 0)) := by
    rw [Below.heap_alloc _ _ _ (by simp)]; exact heap_new w _
  have HG1 : Hid _ := g1
  have HT : Hid (∀ W, Calls Try.prog 70 #[.bool false] W fun e w' => e = .returned (.int .u64 0) ∧ w' = W) := truthD
  have s0 := blk_at g0 0
  have s1 := blk_at g0 1
  have s2 := blk_at g0 2
  have s3 := blk_at g0 3
  have s4 := blk_at g0 4
  have s5 := blk_at g0 5
  simp at s0 s1 s2 s3 s4 s5
  clear g1 g0
  go_enter Try.func37, Try.ntmps37
  go_wp2
  exact bodyPost_ret (results_cell_one rfl _ _ (w.heap.size + 1) 41 #[.int .i64 0, .int .u64 0, .int .u64 0, .int .u64 0, .int .u64 0, .int .u64 0, .int .u64 0, .int .u64 0, .int .u64 0, .slice none 0 0] (0, 0) _ rfl HG1.out Try.underlying41 rfl infoC) rfl ⟨rfl, HB.out⟩
end Go.Proofs.Ytckfmpoddmccfaa
namespace Go.Proofs.Ytckfmpoddmccfaa
open Go.RowKit
set_option linter.unusedVariables false
set_option linter.unusedSimpArgs false
set_option maxRecDepth 100000
set_option maxHeartbeats 4000000 in
theorem ofReplyG (w : World) (o : Nat) (k : Nat) (ao2 : Option Addr) (n2 cap2 : Nat) (cu : Int) (ho : o < 4294967296) (hk : k < 4294967296) : Calls Try.prog 34 #[.agg #[.int .u32 (o : Int), .int .u32 (k : Int), .slice ao2 n2 cap2], .int .i64 cu] w fun e w' => e = .returned (.agg #[.int .i64 cu, .int .u64 (o : Int), .int .u64 (k : Int), .int .u64 0, .int .u64 0, .int .u64 0, .int .u64 0, .int .u64 0, .int .u64 0, .slice ao2 n2 cap2]) ∧ Below w.heap.size w w' := by
  have ko : (o : Int) < 4294967296 := by omega
  have kk : (k : Int) < 4294967296 := by omega
  have HB : Hid (Below w.heap.size w ((w.alloc (.cells #[.int .u32 (o : Int), .int .u32 (k : Int), .slice ao2 n2 cap2] 62)).alloc (.cells #[.int .i64 cu, .int .u64 (o : Int), .int .u64 (k : Int), .int .u64 0, .int .u64 0, .int .u64 0, .int .u64 0, .int .u64 0, .int .u64 0, .slice ao2 n2 cap2] 41))) := bx2_bel w _ _
  have g1 : ((w.alloc (.cells #[.int .u32 (o : Int), .int .u32 (k : Int), .slice ao2 n2 cap2] 62)).alloc (.cells #[.int .i64 cu, .int .u64 (o : Int), .int .u64 (k : Int), .int .u64 0, .int .u64 0, .int .u64 0, .int .u64 0, .int .u64 0, .int .u64 0, .slice ao2 n2 cap2] 41)).heap[w.heap.size + 1]? = some (.cells #[.int .i64 cu, .int .u64 (o : Int), .int .u64 (k : Int), .int .u64 0, .int .u64 0, .int .u64 0, .int .u64 0, .int .u64 0, .int .u64 0, .slice ao2 n2 cap2] 41 (0, 0)) := by
    have h := heap_new (w.alloc (.cells #[.int .u32 (o : Int), .int .u32 (k : Int), .slice ao2 n2 cap2] 62)) (.cells #[.int .i64 cu, .int .u64 (o : Int), .int .u64 (k : Int), .int .u64 0, .int .u64 0, .int .u64 0, .int .u64 0, .int .u64 0, .int .u64 0, .slice ao2 n2 cap2] 41)
    rw [World.size_alloc] at h
    exact h
  have HG1 : Hid _ := g1
  have g0 : ((w.alloc (.cells #[.int .u32 (o : Int), .int .u32 (k : Int), .slice ao2 n2 cap2] 62)).alloc (.cells #[.int .i64 0, .int .u64 0, .int .u64 0, .int .u64 0, .int .u64 0, .int .u64 0, .int .u64 0, .int .u64 0, .int .u64 0, .slice none 0 0] 41)).heap[w.heap.size]? = some (.cells #[.int .u32 (o : Int), .int .u32 (k : Int), .slice ao2 n2 cap2] 62 (0, 0)) := by
    rw [Below.heap_alloc _ _ _ (by simp)]; exact heap_new w _
  have s0 := blk_at g0 0
  have s1 := blk_at g0 1
  have s2 := blk_at g0 2
  simp at s0 s1 s2
  clear g1 g0
  go_enter Try.func34, Try.ntmps34
  go_wp2
  exact bodyPost_ret (results_cell_one rfl _ _ (w.heap.size + 1) 41 #[.int .i64 cu, .int .u64 (o : Int), .int .u64 (k : Int), .int .u64 0, .int .u64 0, .int .u64 0, .int .u64 0, .int .u64 0, .int .u64 0, .slice ao2 n2 cap2] (0, 0) _ rfl HG1.out Try.underlying41 rfl infoC) rfl ⟨rfl, HB.out⟩
set_option maxHeartbeats 4000000 in
theorem ofRequestG (w : World) (f : Nat) (t : Nat) (c : Nat) (o : Nat) (k : Nat) (ao2 : Option Addr) (n2 cap2 : Nat) (cu : Int) (hf : f < 65536) (ht : t < 65536) : Calls Try.prog 37 #[.agg #[.int .u16 (f : Int), .int .u16 (t : Int), .int .u64 (c : Int), .int .u64 (o : Int), .int .u64 (k : Int), .slice ao2 n2 cap2], .int .i64 cu] w fun e w' => e = .returned (.agg #[.int .i64 cu, .int .u64 (f : Int), .int .u64 (t : Int), .int .u64 (c : Int), .int .u64 (o : Int), .int .u64 (k : Int), .int .u64 0, .int .u64 0, .int .u64 0, .slice ao2 n2 cap2]) ∧ Below w.heap.size w w' := by
  have kf : (f : Int) < 65536 := by omega
  have kt : (t : Int) < 65536 := by omega
  have HB : Hid (Below w.heap.size w ((w.alloc (.cells #[.int .u16 (f : Int), .int .u16 (t : Int), .int .u64 (c : Int), .int .u64 (o : Int), .int .u64 (k : Int), .slice ao2 n2 cap2] 60)).alloc (.cells #[.int .i64 cu, .int .u64 (f : Int), .int .u64 (t : Int), .int .u64 (c : Int), .int .u64 (o : Int), .int .u64 (k : Int), .int .u64 0, .int .u64 0, .int .u64 0, .slice ao2 n2 cap2] 41))) := bx2_bel w _ _
  have g1 : ((w.alloc (.cells #[.int .u16 (f : Int), .int .u16 (t : Int), .int .u64 (c : Int), .int .u64 (o : Int), .int .u64 (k : Int), .slice ao2 n2 cap2] 60)).alloc (.cells #[.int .i64 cu, .int .u64 (f : Int), .int .u64 (t : Int), .int .u64 (c : Int), .int .u64 (o : Int), .int .u64 (k : Int), .int .u64 0, .int .u64 0, .int .u64 0, .slice ao2 n2 cap2] 41)).heap[w.heap.size + 1]? = some (.cells #[.int .i64 cu, .int .u64 (f : Int), .int .u64 (t : Int), .int .u64 (c : Int), .int .u64 (o : Int), .int .u64 (k : Int), .int .u64 0, .int .u64 0, .int .u64 0, .slice ao2 n2 cap2] 41 (0, 0)) := by
    have h := heap_new (w.alloc (.cells #[.int .u16 (f : Int), .int .u16 (t : Int), .int .u64 (c : Int), .int .u64 (o : Int), .int .u64 (k : Int), .slice ao2 n2 cap2] 60)) (.cells #[.int .i64 cu, .int .u64 (f : Int), .int .u64 (t : Int), .int .u64 (c : Int), .int .u64 (o : Int), .int .u64 (k : Int), .int .u64 0, .int .u64 0, .int .u64 0, .slice ao2 n2 cap2] 41)
    rw [World.size_alloc] at h
    exact h
  have HG1 : Hid _ := g1
  have g0 : ((w.alloc (.cells #[.int .u16 (f : Int), .int .u16 (t : Int), .int .u64 (c : Int), .int .u64 (o : Int), .int .u64 (k : Int), .slice ao2 n2 cap2] 60)).alloc (.cells #[.int .i64 0, .int .u64 0, .int .u64 0, .int .u64 0, .int .u64 0, .int .u64 0, .int .u64 0, .int .u64 0, .int .u64 0, .slice none 0 0] 41)).heap[w.heap.size]? = some (.cells #[.int .u16 (f : Int), .int .u16 (t : Int), .int .u64 (c : Int), .int .u64 (o : Int), .int .u64 (k : Int), .slice ao2 n2 cap2] 60 (0, 0)) := by
    rw [Below.heap_alloc _ _ _ (by simp)]; exact heap_new w _
  have s0 := blk_at g0 0
  have s1 := blk_at g0 1
  have s2 := blk_at g0 2
  have s3 := blk_at g0 3
  have s4 := blk_at g0 4
  have s5 := blk_at g0 5
  simp at s0 s1 s2 s3 s4 s5
  clear g1 g0
  go_enter Try.func37, Try.ntmps37
  go_wp2
  exact bodyPost_ret (results_cell_one rfl _ _ (w.heap.size + 1) 41 #[.int .i64 cu, .int .u64 (f : Int), .int .u64 (t : Int), .int .u64 (c : Int), .int .u64 (o : Int), .int .u64 (k : Int), .int .u64 0, .int .u64 0, .int .u64 0, .slice ao2 n2 cap2] (0, 0) _ rfl HG1.out Try.underlying41 rfl infoC) rfl ⟨rfl, HB.out⟩
set_option maxHeartbeats 400000 in
theorem truthG (w : World) (b : Bool) : Calls Try.prog 70 #[.bool b] w fun e w' => e = .returned (.int .u64 (b.toNat : Int)) ∧ w' = w := by
  cases b <;>
  · go_enter Try.func70, Try.ntmps70
    go_wp2
    go_ret
    exact ⟨rfl, rfl⟩
theorem close10 {w Wx : World} {g : Nat} {t : TypeId} {a0 a1 a2 a3 a4 a5 a6 a7 a8 a9 : Value} (hbox : Wx.heap[g]? = some (.cells #[a0, a1, a2, a3, a4, a5, a6, a7, a8, a9] t (0, 0))) (hbel : Below w.heap.size w Wx) (hg : w.heap.size ≤ g) (v0 v1 v2 v3 v4 v5 v6 v7 v8 v9 : Value) :
    (((((((((((Wx.setCell ⟨g, 0, none⟩ v0).setCell ⟨g, 1, none⟩ v1).setCell ⟨g, 2, none⟩ v2).setCell ⟨g, 3, none⟩ v3).setCell ⟨g, 4, none⟩ v4).setCell ⟨g, 5, none⟩ v5).setCell ⟨g, 6, none⟩ v6).setCell ⟨g, 7, none⟩ v7).setCell ⟨g, 8, none⟩ v8).setCell ⟨g, 9, none⟩ v9).drew).heap[g]? = some (.cells #[v0, v1, v2, v3, v4, v5, v6, v7, v8, v9] t (0, 0)) ∧ Below w.heap.size w (((((((((((Wx.setCell ⟨g, 0, none⟩ v0).setCell ⟨g, 1, none⟩ v1).setCell ⟨g, 2, none⟩ v2).setCell ⟨g, 3, none⟩ v3).setCell ⟨g, 4, none⟩ v4).setCell ⟨g, 5, none⟩ v5).setCell ⟨g, 6, none⟩ v6).setCell ⟨g, 7, none⟩ v7).setCell ⟨g, 8, none⟩ v8).setCell ⟨g, 9, none⟩ v9).drew) := by
  have h0 := hbox
  have b0 := hbel
  have h1 : (Wx.setCell ⟨g, 0, none⟩ v0).heap[g]? = some (.cells #[v0, a1, a2, a3, a4, a5, a6, a7, a8, a9] t (0, 0)) := put_box h0 0 v0 (by simp)
  have b1 : Below w.heap.size w (Wx.setCell ⟨g, 0, none⟩ v0) := below_set b0 hg
  generalize (Wx.setCell ⟨g, 0, none⟩ v0) = Y1 at h1 b1 ⊢
  have h2 : (Y1.setCell ⟨g, 1, none⟩ v1).heap[g]? = some (.cells #[v0, v1, a2, a3, a4, a5, a6, a7, a8, a9] t (0, 0)) := put_box h1 1 v1 (by simp)
  have b2 : Below w.heap.size w (Y1.setCell ⟨g, 1, none⟩ v1) := below_set b1 hg
  generalize (Y1.setCell ⟨g, 1, none⟩ v1) = Y2 at h2 b2 ⊢
  have h3 : (Y2.setCell ⟨g, 2, none⟩ v2).heap[g]? = some (.cells #[v0, v1, v2, a3, a4, a5, a6, a7, a8, a9] t (0, 0)) := put_box h2 2 v2 (by simp)
  have b3 : Below w.heap.size w (Y2.setCell ⟨g, 2, none⟩ v2) := below_set b2 hg
  generalize (Y2.setCell ⟨g, 2, none⟩ v2) = Y3 at h3 b3 ⊢
  have h4 : (Y3.setCell ⟨g, 3, none⟩ v3).heap[g]? = some (.cells #[v0, v1, v2, v3, a4, a5, a6, a7, a8, a9] t (0, 0)) := put_box h3 3 v3 (by simp)
  have b4 : Below w.heap.size w (Y3.setCell ⟨g, 3, none⟩ v3) := below_set b3 hg
  generalize (Y3.setCell ⟨g, 3, none⟩ v3) = Y4 at h4 b4 ⊢
  have h5 : (Y4.setCell ⟨g, 4, none⟩ v4).heap[g]? = some (.cells #[v0, v1, v2, v3, v4, a5, a6, a7, a8, a9] t (0, 0)) := put_box h4 4 v4 (by simp)
  have b5 : Below w.heap.size w (Y4.setCell ⟨g, 4, none⟩ v4) := below_set b4 hg
  generalize (Y4.setCell ⟨g, 4, none⟩ v4) = Y5 at h5 b5 ⊢
  have h6 : (Y5.setCell ⟨g, 5, none⟩ v5).heap[g]? = some (.cells #[v0, v1, v2, v3, v4, v5, a6, a7, a8, a9] t (0, 0)) := put_box h5 5 v5 (by simp)
  have b6 : Below w.heap.size w (Y5.setCell ⟨g, 5, none⟩ v5) := below_set b5 hg
  generalize (Y5.setCell ⟨g, 5, none⟩ v5) = Y6 at h6 b6 ⊢
  have h7 : (Y6.setCell ⟨g, 6, none⟩ v6).heap[g]? = some (.cells #[v0, v1, v2, v3, v4, v5, v6, a7, a8, a9] t (0, 0)) := put_box h6 6 v6 (by simp)
  have b7 : Below w.heap.size w (Y6.setCell ⟨g, 6, none⟩ v6) := below_set b6 hg
  generalize (Y6.setCell ⟨g, 6, none⟩ v6) = Y7 at h7 b7 ⊢
  have h8 : (Y7.setCell ⟨g, 7, none⟩ v7).heap[g]? = some (.cells #[v0, v1, v2, v3, v4, v5, v6, v7, a8, a9] t (0, 0)) := put_box h7 7 v7 (by simp)
  have b8 : Below w.heap.size w (Y7.setCell ⟨g, 7, none⟩ v7) := below_set b7 hg
  generalize (Y7.setCell ⟨g, 7, none⟩ v7) = Y8 at h8 b8 ⊢
  have h9 : (Y8.setCell ⟨g, 8, none⟩ v8).heap[g]? = some (.cells #[v0, v1, v2, v3, v4, v5, v6, v7, v8, a9] t (0, 0)) := put_box h8 8 v8 (by simp)
  have b9 : Below w.heap.size w (Y8.setCell ⟨g, 8, none⟩ v8) := below_set b8 hg
  generalize (Y8.setCell ⟨g, 8, none⟩ v8) = Y9 at h9 b9 ⊢
  have h10 : (Y9.setCell ⟨g, 9, none⟩ v9).heap[g]? = some (.cells #[v0, v1, v2, v3, v4, v5, v6, v7, v8, v9] t (0, 0)) := put_box h9 9 v9 (by simp)
  have b10 : Below w.heap.size w (Y9.setCell ⟨g, 9, none⟩ v9) := below_set b9 hg
  generalize (Y9.setCell ⟨g, 9, none⟩ v9) = Y10 at h10 b10 ⊢
  exact ⟨h10, below_drew b10⟩
theorem wrapU (c : Nat) (h : c < 4294967296) : IntKind.u64.wrap (c : Int) = (c : Int) := by simp [IntKind.wrap, IntKind.bits, IntKind.signed]; omega
end Go.Proofs.Ytckfmpoddmccfaa
namespace Go.Proofs.Ytckfmpoddmccfaa
open Go.RowKit
set_option linter.unusedVariables false
set_option linter.unusedSimpArgs false
set_option maxRecDepth 100000
set_option maxHeartbeats 4000000 in
theorem ofOptionG (w : World) (c : Nat) (k : Nat) (lg : Bool) (ao2 : Option Addr) (n2 cap2 : Nat) (cu : Int) (hc : c < 4294967296) (hk : k < 4294967296) : Calls Try.prog 32 #[.agg #[.int .u32 (c : Int), .int .u32 (k : Int), .bool lg, .slice ao2 n2 cap2], .int .i64 cu] w fun e w' => e = .returned (.agg #[.int .i64 cu, .int .u64 (c : Int), .int .u64 (k : Int), .int .u64 (lg.toNat : Int), .int .u64 0, .int .u64 0, .int .u64 0, .int .u64 0, .int .u64 0, .slice ao2 n2 cap2]) ∧ Below w.heap.size w w' := by
  have kc : (c : Int) < 4294967296 := by omega
  have kk : (k : Int) < 4294967296 := by omega
  obtain ⟨W0, hW0⟩ : ∃ W0, W0 = ((w.alloc (.cells #[.int .u32 (c : Int), .int .u32 (k : Int), .bool lg, .slice ao2 n2 cap2] 57)).alloc (.cells #[.int .i64 0, .int .u64 0, .int .u64 0, .int .u64 0, .int .u64 0, .int .u64 0, .int .u64 0, .int .u64 0, .int .u64 0, .slice none 0 0] 41)) := ⟨_, rfl⟩
  have g0 : W0.heap[w.heap.size]? = some (.cells #[.int .u32 (c : Int), .int .u32 (k : Int), .bool lg, .slice ao2 n2 cap2] 57 (0, 0)) := by
    rw [hW0]; rw [Below.heap_alloc _ _ _ (by simp)]; exact heap_new w _
  have s0 := blk_at g0 0
  have s1 := blk_at g0 1
  have s2 := blk_at g0 2
  have s3 := blk_at g0 3
  simp at s0 s1 s2 s3
  have HT : Hid (∀ W b, Calls Try.prog 70 #[.bool b] W fun e w' => e = .returned (.int .u64 (b.toNat : Int)) ∧ w' = W) := truthG
  have q1 : W0.heap[w.heap.size + 1]? = some (.cells #[.int .i64 0, .int .u64 0, .int .u64 0, .int .u64 0, .int .u64 0, .int .u64 0, .int .u64 0, .int .u64 0, .int .u64 0, .slice none 0 0] 41 (0, 0)) := by
    have h := heap_new (w.alloc (.cells #[.int .u32 (c : Int), .int .u32 (k : Int), .bool lg, .slice ao2 n2 cap2] 57)) (.cells #[.int .i64 0, .int .u64 0, .int .u64 0, .int .u64 0, .int .u64 0, .int .u64 0, .int .u64 0, .int .u64 0, .int .u64 0, .slice none 0 0] 41)
    rw [World.size_alloc] at h
    rw [hW0]; exact h
  have HQ : Hid _ := q1
  have HB0 : Hid (Below w.heap.size w W0) := by show Below _ _ _; rw [hW0]; exact bx2_bel w _ _
  have r0 := blk_at q1 0
  have f0 := blk_free q1 0
  have r1 := blk_at q1 1
  have f1 := blk_free q1 1
  have r2 := blk_at q1 2
  have f2 := blk_free q1 2
  have r3 := blk_at q1 3
  have f3 := blk_free q1 3
  have r4 := blk_at q1 4
  have f4 := blk_free q1 4
  have r5 := blk_at q1 5
  have f5 := blk_free q1 5
  have r6 := blk_at q1 6
  have f6 := blk_free q1 6
  have r7 := blk_at q1 7
  have f7 := blk_free q1 7
  have r8 := blk_at q1 8
  have f8 := blk_free q1 8
  have r9 := blk_at q1 9
  have f9 := blk_free q1 9
  simp at r0 r1 r2 r3 r4 r5 r6 r7 r8 r9
  clear q1 g0
  go_enter Try.func32, Try.ntmps32
  go_wp2
  rw [← hW0]
  clear hW0
  go_region_held3 (fun w' => (((w'.cell? ⟨w.heap.size, 0, none⟩ = some (.int .u32 (c : Int))) ∧ w'.cell? ⟨w.heap.size, 1, none⟩ = some (.int .u32 (k : Int))) ∧ w'.cell? ⟨w.heap.size, 2, none⟩ = some (.bool lg)) ∧ w'.cell? ⟨w.heap.size, 3, none⟩ = some (.slice ao2 n2 cap2)) (go_keep) (first | (go_at_call 70; refine (HT.out _ _).mono ?_; rintro e w9 ⟨rfl, rfl⟩))
  all_goals
    go_wp2
    simp only [wrapU c (by omega), wrapU k (by omega)]
    have HK : Hid _ := close10 (w := w) HQ.out HB0.out (Nat.le_succ _) (.int .i64 cu) (.int .u64 (c : Int)) (.int .u64 (k : Int)) (.int .u64 (lg.toNat : Int)) (.int .u64 0) (.int .u64 0) (.int .u64 0) (.int .u64 0) (.int .u64 0) (.slice ao2 n2 cap2)
    exact bodyPost_ret (results_cell_one rfl _ _ (w.heap.size + 1) 41 #[.int .i64 cu, .int .u64 (c : Int), .int .u64 (k : Int), .int .u64 (lg.toNat : Int), .int .u64 0, .int .u64 0, .int .u64 0, .int .u64 0, .int .u64 0, .slice ao2 n2 cap2] (0, 0) _ rfl HK.out.1 Try.underlying41 rfl infoC) rfl ⟨rfl, HK.out.2⟩
end Go.Proofs.Ytckfmpoddmccfaa
namespace Go.Proofs.Ytckfmpoddmccfaa
open Go.RowKit
set_option linter.unusedVariables false
set_option linter.unusedSimpArgs false
set_option maxRecDepth 100000
set_option maxHeartbeats 4000000 in
theorem ofAnswerG (w : World) (st : Bool) (sc : Nat) (sk : Nat) (f : Nat) (t : Nat) (c : Nat) (o : Nat) (ao2 : Option Addr) (n2 cap2 : Nat) (cu : Int) (hsc : sc < 4294967296) (hf : f < 65536) (ht : t < 65536) : Calls Try.prog 39 #[.agg #[.bool st, .int .u32 (sc : Int), .int .u64 (sk : Int), .int .u16 (f : Int), .int .u16 (t : Int), .int .u64 (c : Int), .int .u64 (o : Int), .slice ao2 n2 cap2], .int .i64 cu] w fun e w' => e = .returned (.agg #[.int .i64 cu, .int .u64 (st.toNat : Int), .int .u64 (sc : Int), .int .u64 (sk : Int), .int .u64 (f : Int), .int .u64 (t : Int), .int .u64 (c : Int), .int .u64 (o : Int), .int .u64 0, .slice ao2 n2 cap2]) ∧ Below w.heap.size w w' := by
  have ksc : (sc : Int) < 4294967296 := by omega
  have kf : (f : Int) < 65536 := by omega
  have kt : (t : Int) < 65536 := by omega
  obtain ⟨W0, hW0⟩ : ∃ W0, W0 = ((w.alloc (.cells #[.bool st, .int .u32 (sc : Int), .int .u64 (sk : Int), .int .u16 (f : Int), .int .u16 (t : Int), .int .u64 (c : Int), .int .u64 (o : Int), .slice ao2 n2 cap2] 103)).alloc (.cells #[.int .i64 0, .int .u64 0, .int .u64 0, .int .u64 0, .int .u64 0, .int .u64 0, .int .u64 0, .int .u64 0, .int .u64 0, .slice none 0 0] 41)) := ⟨_, rfl⟩
  have g0 : W0.heap[w.heap.size]? = some (.cells #[.bool st, .int .u32 (sc : Int), .int .u64 (sk : Int), .int .u16 (f : Int), .int .u16 (t : Int), .int .u64 (c : Int), .int .u64 (o : Int), .slice ao2 n2 cap2] 103 (0, 0)) := by
    rw [hW0]; rw [Below.heap_alloc _ _ _ (by simp)]; exact heap_new w _
  have s0 := blk_at g0 0
  have s1 := blk_at g0 1
  have s2 := blk_at g0 2
  have s3 := blk_at g0 3
  have s4 := blk_at g0 4
  have s5 := blk_at g0 5
  have s6 := blk_at g0 6
  have s7 := blk_at g0 7
  simp at s0 s1 s2 s3 s4 s5 s6 s7
  have HT : Hid (∀ W b, Calls Try.prog 70 #[.bool b] W fun e w' => e = .returned (.int .u64 (b.toNat : Int)) ∧ w' = W) := truthG
  have q1 : W0.heap[w.heap.size + 1]? = some (.cells #[.int .i64 0, .int .u64 0, .int .u64 0, .int .u64 0, .int .u64 0, .int .u64 0, .int .u64 0, .int .u64 0, .int .u64 0, .slice none 0 0] 41 (0, 0)) := by
    have h := heap_new (w.alloc (.cells #[.bool st, .int .u32 (sc : Int), .int .u64 (sk : Int), .int .u16 (f : Int), .int .u16 (t : Int), .int .u64 (c : Int), .int .u64 (o : Int), .slice ao2 n2 cap2] 103)) (.cells #[.int .i64 0, .int .u64 0, .int .u64 0, .int .u64 0, .int .u64 0, .int .u64 0, .int .u64 0, .int .u64 0, .int .u64 0, .slice none 0 0] 41)
    rw [World.size_alloc] at h
    rw [hW0]; exact h
  have HQ : Hid _ := q1
  have HB0 : Hid (Below w.heap.size w W0) := by show Below _ _ _; rw [hW0]; exact bx2_bel w _ _
  have r0 := blk_at q1 0
  have f0 := blk_free q1 0
  have r1 := blk_at q1 1
  have f1 := blk_free q1 1
  have r2 := blk_at q1 2
  have f2 := blk_free q1 2
  have r3 := blk_at q1 3
  have f3 := blk_free q1 3
  have r4 := blk_at q1 4
  have f4 := blk_free q1 4
  have r5 := blk_at q1 5
  have f5 := blk_free q1 5
  have r6 := blk_at q1 6
  have f6 := blk_free q1 6
  have r7 := blk_at q1 7
  have f7 := blk_free q1 7
  have r8 := blk_at q1 8
  have f8 := blk_free q1 8
  have r9 := blk_at q1 9
  have f9 := blk_free q1 9
  simp at r0 r1 r2 r3 r4 r5 r6 r7 r8 r9
  clear q1 g0
  go_enter Try.func39, Try.ntmps39
  go_wp2
  rw [← hW0]
  clear hW0
  go_region_held3 (fun w' => (((((((w'.cell? ⟨w.heap.size, 0, none⟩ = some (.bool st)) ∧ w'.cell? ⟨w.heap.size, 1, none⟩ = some (.int .u32 (sc : Int))) ∧ w'.cell? ⟨w.heap.size, 2, none⟩ = some (.int .u64 (sk : Int))) ∧ w'.cell? ⟨w.heap.size, 3, none⟩ = some (.int .u16 (f : Int))) ∧ w'.cell? ⟨w.heap.size, 4, none⟩ = some (.int .u16 (t : Int))) ∧ w'.cell? ⟨w.heap.size, 5, none⟩ = some (.int .u64 (c : Int))) ∧ w'.cell? ⟨w.heap.size, 6, none⟩ = some (.int .u64 (o : Int))) ∧ w'.cell? ⟨w.heap.size, 7, none⟩ = some (.slice ao2 n2 cap2)) (go_keep) (first | (go_at_call 70; refine (HT.out _ _).mono ?_; rintro e w9 ⟨rfl, rfl⟩))
  all_goals
    go_wp2
    simp only [wrapU sc (by omega), wrapU f (by omega), wrapU t (by omega)]
    have HK : Hid _ := close10 (w := w) HQ.out HB0.out (Nat.le_succ _) (.int .i64 cu) (.int .u64 (st.toNat : Int)) (.int .u64 (sc : Int)) (.int .u64 (sk : Int)) (.int .u64 (f : Int)) (.int .u64 (t : Int)) (.int .u64 (c : Int)) (.int .u64 (o : Int)) (.int .u64 0) (.slice ao2 n2 cap2)
    exact bodyPost_ret (results_cell_one rfl _ _ (w.heap.size + 1) 41 #[.int .i64 cu, .int .u64 (st.toNat : Int), .int .u64 (sc : Int), .int .u64 (sk : Int), .int .u64 (f : Int), .int .u64 (t : Int), .int .u64 (c : Int), .int .u64 (o : Int), .int .u64 0, .slice ao2 n2 cap2] (0, 0) _ rfl HK.out.1 Try.underlying41 rfl infoC) rfl ⟨rfl, HK.out.2⟩
end Go.Proofs.Ytckfmpoddmccfaa
namespace Go.Proofs.Ytckfmpoddmccfaa
open Go.RowKit
set_option linter.unusedVariables false
set_option linter.unusedSimpArgs false
set_option maxRecDepth 100000
set_option maxHeartbeats 8000000 in
theorem decExport0_ok (b off cap n : Nat) (l : List Nat) (s f : Nat) (w : World) (h : CRow w (some ⟨b, off, none⟩) cap l) (HN : Hid (l.length = n)) (hs : 10 ≤ n) (HX0 : Hid (valB ((l.drop 0).take 8) = s)) (HX1 : Hid (valB ((l.drop 8).take 2) = f)) (HZ : Hid (∀ x ∈ (l.take 10).drop 10, x = 0)) :
    Calls Try.prog 75 #[.slice (some ⟨b, off, none⟩) n cap, .bool false] w fun e w' => e = .returned (.tuple #[.agg #[.int .u64 (s : Int), .int .u16 (f : Int)], .int .i64 10, .int .i64 0]) ∧ Below w.heap.size w w' := by
  have HXs : Hid (∀ W : World, Calls Try.prog 106 #[.bool false] W fun e W' => e = .returned (.int .i64 10) ∧ W' = W) := fun W => by
    go_enter Try.func106, Try.ntmps106
    go_wp2
    go_ret
    exact ⟨rfl, rfl⟩
  have hnl := h.row.len
  rw [HN.out] at hnl
  have hsl : 10 ≤ l.length := by rw [HN.out]; exact hs
  have HC : Hid (CRow w (some ⟨b, off, none⟩) cap l) := h
  obtain ⟨W0, hW0⟩ : ∃ W0, W0 = (((w.alloc (.cells #[.int .u64 0, .int .u16 0] 96)).alloc (.cells #[.int .u64 0, .int .u16 0] 96)).alloc (.cells #[.int .u64 0, .int .u16 0] 96)) := ⟨_, rfl⟩
  have HO : Hid (Calls Try.prog 99 #[.slice (some ⟨b, off, none⟩) n cap, .int .i64 10] W0 fun e W' => ∃ r hh ao' cap' a2 c2, e = .returned (.pointer (some ⟨r, 0, none⟩)) ∧ Dec w W' (bx3 w 96 #[.int .u64 0, .int .u16 0] #[.int .u64 0, .int .u16 0] #[.int .u64 0, .int .u16 0]) W0.heap.size r hh ao' cap' (l.take 10) 0 (.slice (some a2) (n - 10) c2) 0 10 0 ∧ n - 10 ≤ c2 ∧ c2 ≤ 9223372036854775807 ∧ (n - 10 ≠ 0 → a2 = ⟨b, off + 10, none⟩)) := by
    rw [hW0]; exact open_ok b off cap n 10 l (bx3_bel w _ _ _) (bx3_new w _ _ _ _) (bx3_nd w _ _ _ _) (h.later (bx3_bel w _ _ _)) HN hs (by decide) (by decide)
  clear h
  go_enter Try.func75, Try.ntmps75
  go_wp2
  refine wp_scope_jumps 0 (fun _ _ => False) (fun _ _ => 0) rfl ?first ?pass
  case first =>
    go_wp2_with fail
    refine (HXs.out _).mono ?_
    rintro e W9 ⟨rfl, hw9⟩
    rw [hw9]; clear hw9
    go_wp2_with fail
    rw [← hW0]
    clear hW0
    refine HO.out.mono ?_
    rintro e W1 ⟨r, hh, ao', cap', a2, c2, rfl, h1, hc1, hc2, ha2⟩
    have H1 : Hid _ := h1
    have HA : Hid _ := ha2
    clear h1 HO ha2
    go_wp2_with fail
    refine (rx_u64 H1.out s HX0.out (by decide) hsl).mono ?_
    rintro e W2 ⟨rfl, hx⟩
    have H2 : Hid _ := hx
    clear hx H1
    go_wp2_with fail
    refine (rx_u16 H2.out f HX1.out (by decide) hsl).mono ?_
    rintro e W3 ⟨rfl, hx⟩
    have H3 : Hid _ := hx
    clear hx H2
    obtain ⟨s0, u0⟩ := H3.out.b (.tail _ (.tail _ (.head _))) 0
    simp at s0
    obtain ⟨s1, u1⟩ := H3.out.b (.tail _ (.tail _ (.head _))) 1
    simp at s1
    go_wp2_with fail
    replace H3 : Hid _ := H3.out.putS 0 (.int .u64 (s : Int)) #[.int .u64 (s : Int), .int .u16 0] rfl
    replace H3 : Hid _ := H3.out.putS 1 (.int .u16 (f : Int)) #[.int .u64 (s : Int), .int .u16 (f : Int)] rfl
    refine (zeros_ok H3.out (by rw [List.length_take]; omega) (by rw [List.length_take]; omega) HZ.out).mono ?_
    rintro e W4 ⟨rfl, hx⟩
    have H4 : Hid _ := hx
    clear hx H3 s0 u0 s1 u1
    obtain ⟨c10, f10⟩ := H4.out.b (.tail _ (.head _)) 0
    obtain ⟨c20, f20⟩ := H4.out.b (.tail _ (.tail _ (.head _))) 0
    obtain ⟨c11, f11⟩ := H4.out.b (.tail _ (.head _)) 1
    obtain ⟨c21, f21⟩ := H4.out.b (.tail _ (.tail _ (.head _))) 1
    simp at c10 c20 c11 c21
    go_wp2
    go_step3
    have HF : Hid _ := ((H4.out.putO 0 (.int .u64 (s : Int)) #[.int .u64 (s : Int), .int .u16 0] rfl).putO 1 (.int .u16 (f : Int)) #[.int .u64 (s : Int), .int .u16 (f : Int)] rfl)
    clear H4  c10 f10 c20 f20 c11 f11 c21 f21
    generalize ((W4.setCell ⟨w.heap.size + 1, 0, none⟩ (.int .u64 (s : Int))).setCell ⟨w.heap.size + 1, 1, none⟩ (.int .u16 (f : Int))) = Wx at *
    have hn1 : ¬ (w.heap.size = r) := (HF.out.lb.box _ (.head _)).2.2
    have hn2 : ¬ (r = w.heap.size) := fun e => hn1 e.symm
    have r3 := HF.out.lb.cn
    have r4 := HF.out.lb.ce
    obtain ⟨c00, f00⟩ := HF.out.b (.head _) 0
    obtain ⟨c10, f10⟩ := HF.out.b (.tail _ (.head _)) 0
    obtain ⟨c01, f01⟩ := HF.out.b (.head _) 1
    obtain ⟨c11, f11⟩ := HF.out.b (.tail _ (.head _)) 1
    simp at c00 c10 c01 c11
    go_wp2
    go_region
    all_goals
      go_wp2
      rw [jump_ret]
      exact bodyPost_ret (results_cell_tmp2 rfl _ _ w.heap.size 96 #[.int .u64 (s : Int), .int .u16 (f : Int)] (0, 0) _ rfl (put_box (put_box (HF.out.box _ (.head _)).1 0 (.int .u64 (s : Int)) rfl) 1 (.int .u16 (f : Int)) rfl) Try.underlying96 rfl infoExp) rfl ⟨rfl, below_drew (setAll_below [(w.heap.size, 0, .int .u64 (s : Int)), (w.heap.size, 1, .int .u16 (f : Int))] Wx HF.out.bel (by simp))⟩
  case pass =>
    rintro a W hf
    exact hf.elim
set_option maxHeartbeats 8000000 in
theorem decExport1_ok (b off cap n : Nat) (l : List Nat) (s f : Nat) (w : World) (h : CRow w (some ⟨b, off, none⟩) cap l) (HN : Hid (l.length = n)) (hs : 134 ≤ n) (HX0 : Hid (valB ((l.drop 0).take 8) = s)) (HX1 : Hid (valB ((l.drop 8).take 2) = f)) (HZ : Hid (∀ x ∈ (l.take 134).drop 10, x = 0)) :
    Calls Try.prog 75 #[.slice (some ⟨b, off, none⟩) n cap, .bool true] w fun e w' => e = .returned (.tuple #[.agg #[.int .u64 (s : Int), .int .u16 (f : Int)], .int .i64 134, .int .i64 0]) ∧ Below w.heap.size w w' := by
  have HXs : Hid (∀ W : World, Calls Try.prog 106 #[.bool true] W fun e W' => e = .returned (.int .i64 134) ∧ W' = W) := fun W => by
    go_enter Try.func106, Try.ntmps106
    go_wp2
    go_ret
    exact ⟨rfl, rfl⟩
  have hnl := h.row.len
  rw [HN.out] at hnl
  have hsl : 134 ≤ l.length := by rw [HN.out]; exact hs
  have HC : Hid (CRow w (some ⟨b, off, none⟩) cap l) := h
  obtain ⟨W0, hW0⟩ : ∃ W0, W0 = (((w.alloc (.cells #[.int .u64 0, .int .u16 0] 96)).alloc (.cells #[.int .u64 0, .int .u16 0] 96)).alloc (.cells #[.int .u64 0, .int .u16 0] 96)) := ⟨_, rfl⟩
  have HO : Hid (Calls Try.prog 99 #[.slice (some ⟨b, off, none⟩) n cap, .int .i64 134] W0 fun e W' => ∃ r hh ao' cap' a2 c2, e = .returned (.pointer (some ⟨r, 0, none⟩)) ∧ Dec w W' (bx3 w 96 #[.int .u64 0, .int .u16 0] #[.int .u64 0, .int .u16 0] #[.int .u64 0, .int .u16 0]) W0.heap.size r hh ao' cap' (l.take 134) 0 (.slice (some a2) (n - 134) c2) 0 134 0 ∧ n - 134 ≤ c2 ∧ c2 ≤ 9223372036854775807 ∧ (n - 134 ≠ 0 → a2 = ⟨b, off + 134, none⟩)) := by
    rw [hW0]; exact open_ok b off cap n 134 l (bx3_bel w _ _ _) (bx3_new w _ _ _ _) (bx3_nd w _ _ _ _) (h.later (bx3_bel w _ _ _)) HN hs (by decide) (by decide)
  clear h
  go_enter Try.func75, Try.ntmps75
  go_wp2
  refine wp_scope_jumps 0 (fun _ _ => False) (fun _ _ => 0) rfl ?first ?pass
  case first =>
    go_wp2_with fail
    refine (HXs.out _).mono ?_
    rintro e W9 ⟨rfl, hw9⟩
    rw [hw9]; clear hw9
    go_wp2_with fail
    rw [← hW0]
    clear hW0
    refine HO.out.mono ?_
    rintro e W1 ⟨r, hh, ao', cap', a2, c2, rfl, h1, hc1, hc2, ha2⟩
    have H1 : Hid _ := h1
    have HA : Hid _ := ha2
    clear h1 HO ha2
    go_wp2_with fail
    refine (rx_u64 H1.out s HX0.out (by decide) hsl).mono ?_
    rintro e W2 ⟨rfl, hx⟩
    have H2 : Hid _ := hx
    clear hx H1
    go_wp2_with fail
    refine (rx_u16 H2.out f HX1.out (by decide) hsl).mono ?_
    rintro e W3 ⟨rfl, hx⟩
    have H3 : Hid _ := hx
    clear hx H2
    obtain ⟨s0, u0⟩ := H3.out.b (.tail _ (.tail _ (.head _))) 0
    simp at s0
    obtain ⟨s1, u1⟩ := H3.out.b (.tail _ (.tail _ (.head _))) 1
    simp at s1
    go_wp2_with fail
    replace H3 : Hid _ := H3.out.putS 0 (.int .u64 (s : Int)) #[.int .u64 (s : Int), .int .u16 0] rfl
    replace H3 : Hid _ := H3.out.putS 1 (.int .u16 (f : Int)) #[.int .u64 (s : Int), .int .u16 (f : Int)] rfl
    refine (zeros_ok H3.out (by rw [List.length_take]; omega) (by rw [List.length_take]; omega) HZ.out).mono ?_
    rintro e W4 ⟨rfl, hx⟩
    have H4 : Hid _ := hx
    clear hx H3 s0 u0 s1 u1
    obtain ⟨c10, f10⟩ := H4.out.b (.tail _ (.head _)) 0
    obtain ⟨c20, f20⟩ := H4.out.b (.tail _ (.tail _ (.head _))) 0
    obtain ⟨c11, f11⟩ := H4.out.b (.tail _ (.head _)) 1
    obtain ⟨c21, f21⟩ := H4.out.b (.tail _ (.tail _ (.head _))) 1
    simp at c10 c20 c11 c21
    go_wp2
    go_step3
    have HF : Hid _ := ((H4.out.putO 0 (.int .u64 (s : Int)) #[.int .u64 (s : Int), .int .u16 0] rfl).putO 1 (.int .u16 (f : Int)) #[.int .u64 (s : Int), .int .u16 (f : Int)] rfl)
    clear H4  c10 f10 c20 f20 c11 f11 c21 f21
    generalize ((W4.setCell ⟨w.heap.size + 1, 0, none⟩ (.int .u64 (s : Int))).setCell ⟨w.heap.size + 1, 1, none⟩ (.int .u16 (f : Int))) = Wx at *
    have hn1 : ¬ (w.heap.size = r) := (HF.out.lb.box _ (.head _)).2.2
    have hn2 : ¬ (r = w.heap.size) := fun e => hn1 e.symm
    have r3 := HF.out.lb.cn
    have r4 := HF.out.lb.ce
    obtain ⟨c00, f00⟩ := HF.out.b (.head _) 0
    obtain ⟨c10, f10⟩ := HF.out.b (.tail _ (.head _)) 0
    obtain ⟨c01, f01⟩ := HF.out.b (.head _) 1
    obtain ⟨c11, f11⟩ := HF.out.b (.tail _ (.head _)) 1
    simp at c00 c10 c01 c11
    go_wp2
    go_region
    all_goals
      go_wp2
      rw [jump_ret]
      exact bodyPost_ret (results_cell_tmp2 rfl _ _ w.heap.size 96 #[.int .u64 (s : Int), .int .u16 (f : Int)] (0, 0) _ rfl (put_box (put_box (HF.out.box _ (.head _)).1 0 (.int .u64 (s : Int)) rfl) 1 (.int .u16 (f : Int)) rfl) Try.underlying96 rfl infoExp) rfl ⟨rfl, below_drew (setAll_below [(w.heap.size, 0, .int .u64 (s : Int)), (w.heap.size, 1, .int .u16 (f : Int))] Wx HF.out.bel (by simp))⟩
  case pass =>
    rintro a W hf
    exact hf.elim
end Go.Proofs.Ytckfmpoddmccfaa
