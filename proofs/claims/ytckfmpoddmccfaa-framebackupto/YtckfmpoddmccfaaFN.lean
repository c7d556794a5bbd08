import Derived.Test.YtckfmpoddmccfaaFC
namespace Go.Proofs.Ytckfmpoddmccfaa
open Go.RowKit
set_option linter.unusedVariables false
set_option linter.unusedSimpArgs false
set_option maxRecDepth 100000

/-- an inbox that no call made -/
def Dd (w : World) (po : Option Addr) : Prop := po = none ∨ ∃ b, po = some ⟨b, 0, none⟩ ∧ w.heap[b]? = some (.cells #[.int .i64 0, .slice none 0 0, .int .u32 0] TIn (0, 0))
theorem Dd.later {w w' : World} {po : Option Addr} (h : Dd w po) (hb : Below w.heap.size w w') : Dd w' po := by
  rcases h with h | ⟨b, h, hg⟩
  · exact .inl h
  · exact .inr ⟨b, h, (hb.block b (block_lt hg)).trans hg⟩
set_option maxHeartbeats 400000 in
theorem usableD {w : World} {po : Option Addr} (h : Dd w po) : Calls Try.prog 27 #[.pointer po] w fun e w' => e = .returned (.bool false) ∧ w' = w := by
  rcases h with rfl | ⟨b, rfl, hg⟩
  · go_enter Try.func27, Try.ntmps27
    go_wp2
    go_ret
    exact ⟨rfl, rfl⟩
  · have c0 := blk_at hg 0
    simp at c0
    clear hg
    go_enter Try.func27, Try.ntmps27
    go_wp2
    go_ret
    exact ⟨rfl, rfl⟩
set_option maxHeartbeats 400000 in
theorem feedD {w : World} {po : Option Addr} (h : Dd w po) (v : Value) : Calls Try.prog 19 #[.pointer po, v] w fun e w' => e = .returned (.int .i64 0) ∧ w' = w := by
  have HU : Hid (Calls Try.prog 27 #[.pointer po] w fun e w' => e = .returned (.bool false) ∧ w' = w) := usableD h
  clear h
  go_enter Try.func19, Try.ntmps19
  go_wp2_with fail
  refine HU.out.mono ?_
  rintro e w1 ⟨rfl, hw⟩
  rw [hw]; clear hw
  go_wp2
  go_ret
  exact ⟨rfl, rfl⟩
set_option maxHeartbeats 400000 in
theorem heldD {w : World} {po : Option Addr} (h : Dd w po) : Calls Try.prog 11 #[.pointer po] w fun e w' => e = .returned (.int .i64 0) ∧ w' = w := by
  have HU : Hid (Calls Try.prog 27 #[.pointer po] w fun e w' => e = .returned (.bool false) ∧ w' = w) := usableD h
  clear h
  go_enter Try.func11, Try.ntmps11
  go_wp2_with fail
  refine HU.out.mono ?_
  rintro e w1 ⟨rfl, hw⟩
  rw [hw]; clear hw
  go_wp2
  go_ret
  exact ⟨rfl, rfl⟩
set_option maxHeartbeats 400000 in
theorem roomD {w : World} {po : Option Addr} (h : Dd w po) : Calls Try.prog 12 #[.pointer po] w fun e w' => e = .returned (.int .i64 0) ∧ w' = w := by
  have HU : Hid (Calls Try.prog 27 #[.pointer po] w fun e w' => e = .returned (.bool false) ∧ w' = w) := usableD h
  clear h
  go_enter Try.func12, Try.ntmps12
  go_wp2_with fail
  refine HU.out.mono ?_
  rintro e w1 ⟨rfl, hw⟩
  rw [hw]; clear hw
  go_wp2
  go_ret
  exact ⟨rfl, rfl⟩
theorem infoRpl : (Try.prog.info? 103).map (·.size) = some 8 := by kernel_rfl
set_option maxHeartbeats 2000000 in
theorem cutGreetingD {w : World} {po : Option Addr} (h : Dd w po) (f : Value) : Calls Try.prog 69 #[.agg #[.pointer po, f]] w fun e w' => e = .returned (.tuple #[.agg #[.int .u16 0], .int .i64 0]) ∧ Below w.heap.size w w' := by
  obtain ⟨W0, hW0⟩ : ∃ W0, W0 = ((w.alloc (.cells #[.pointer po, f] 150)).alloc (.cells #[.int .u16 0] 88)).alloc (.cells #[.int .u16 0] 88) := ⟨_, rfl⟩
  have hb0 : Below w.heap.size w W0 := by rw [hW0]; exact bx3_bel w _ _ _
  have HU : Hid (Calls Try.prog 27 #[.pointer po] W0 fun e w' => e = .returned (.bool false) ∧ w' = W0) := usableD (h.later hb0)
  have g2 : W0.heap[w.heap.size + 1 + 1]? = some (.cells #[.int .u16 0] 88 (0, 0)) := by
    have h := heap_new ((w.alloc (.cells #[.pointer po, f] 150)).alloc (.cells #[.int .u16 0] 88)) (.cells #[.int .u16 0] 88)
    rw [World.size_alloc, World.size_alloc] at h
    rw [hW0]; exact h
  have g1 : W0.heap[w.heap.size + 1]? = some (.cells #[.int .u16 0] 88 (0, 0)) := by
    have h := heap_new (w.alloc (.cells #[.pointer po, f] 150)) (.cells #[.int .u16 0] 88)
    rw [World.size_alloc] at h
    rw [hW0, Below.heap_alloc _ _ _ (by simp)]; exact h
  have HB : Hid (Below w.heap.size w W0) := hb0
  have HG1 : Hid _ := g1
  have n0 := blk_at g2 0
  have r0 := blk_at g1 0
  have f0 := blk_free g1 0
  simp at n0 r0
  clear g1 g2 hb0 h
  go_enter Try.func69, Try.ntmps69
  go_wp2_with fail
  rw [← hW0]
  clear hW0
  refine HU.out.mono ?_
  rintro e w1 ⟨rfl, hw⟩
  rw [hw]; clear hw HU
  go_wp2
  exact bodyPost_ret (results_cell_tmp1 rfl _ _ (w.heap.size + 1) 88 #[.int .u16 0] (0, 0) _ rfl (put_box HG1.out 0 (.int .u16 0) (cs' := #[.int .u16 0]) rfl) Try.underlying88 rfl infoGre) rfl ⟨rfl, setAll_below [(w.heap.size + 1, 0, .int .u16 0)] W0 HB.out (by simp)⟩
set_option maxHeartbeats 2000000 in
theorem cutOptionD {w : World} {po : Option Addr} (h : Dd w po) (f : Value) : Calls Try.prog 63 #[.agg #[.pointer po, f]] w fun e w' => e = .returned (.tuple #[.agg #[.int .u32 0, .int .u32 0, .bool false, .slice none 0 0], .int .i64 0]) ∧ Below w.heap.size w w' := by
  obtain ⟨W0, hW0⟩ : ∃ W0, W0 = ((w.alloc (.cells #[.pointer po, f] 142)).alloc (.cells #[.int .u32 0, .int .u32 0, .bool false, .slice none 0 0] 57)).alloc (.cells #[.int .u32 0, .int .u32 0, .bool false, .slice none 0 0] 57) := ⟨_, rfl⟩
  have hb0 : Below w.heap.size w W0 := by rw [hW0]; exact bx3_bel w _ _ _
  have HU : Hid (Calls Try.prog 27 #[.pointer po] W0 fun e w' => e = .returned (.bool false) ∧ w' = W0) := usableD (h.later hb0)
  have g2 : W0.heap[w.heap.size + 1 + 1]? = some (.cells #[.int .u32 0, .int .u32 0, .bool false, .slice none 0 0] 57 (0, 0)) := by
    have h := heap_new ((w.alloc (.cells #[.pointer po, f] 142)).alloc (.cells #[.int .u32 0, .int .u32 0, .bool false, .slice none 0 0] 57)) (.cells #[.int .u32 0, .int .u32 0, .bool false, .slice none 0 0] 57)
    rw [World.size_alloc, World.size_alloc] at h
    rw [hW0]; exact h
  have g1 : W0.heap[w.heap.size + 1]? = some (.cells #[.int .u32 0, .int .u32 0, .bool false, .slice none 0 0] 57 (0, 0)) := by
    have h := heap_new (w.alloc (.cells #[.pointer po, f] 142)) (.cells #[.int .u32 0, .int .u32 0, .bool false, .slice none 0 0] 57)
    rw [World.size_alloc] at h
    rw [hW0, Below.heap_alloc _ _ _ (by simp)]; exact h
  have HB : Hid (Below w.heap.size w W0) := hb0
  have HG1 : Hid _ := g1
  have n0 := blk_at g2 0
  have r0 := blk_at g1 0
  have f0 := blk_free g1 0
  have n1 := blk_at g2 1
  have r1 := blk_at g1 1
  have f1 := blk_free g1 1
  have n2 := blk_at g2 2
  have r2 := blk_at g1 2
  have f2 := blk_free g1 2
  have n3 := blk_at g2 3
  have r3 := blk_at g1 3
  have f3 := blk_free g1 3
  simp at n0 r0 n1 r1 n2 r2 n3 r3
  clear g1 g2 hb0 h
  go_enter Try.func63, Try.ntmps63
  go_wp2_with fail
  rw [← hW0]
  clear hW0
  refine HU.out.mono ?_
  rintro e w1 ⟨rfl, hw⟩
  rw [hw]; clear hw HU
  go_wp2
  exact bodyPost_ret (results_cell_tmp1 rfl _ _ (w.heap.size + 1) 57 #[.int .u32 0, .int .u32 0, .bool false, .slice none 0 0] (0, 0) _ rfl (put_box (put_box (put_box (put_box HG1.out 0 (.int .u32 0) (cs' := #[.int .u32 0, .int .u32 0, .bool false, .slice none 0 0]) rfl) 1 (.int .u32 0) (cs' := #[.int .u32 0, .int .u32 0, .bool false, .slice none 0 0]) rfl) 2 (.bool false) (cs' := #[.int .u32 0, .int .u32 0, .bool false, .slice none 0 0]) rfl) 3 (.slice none 0 0) (cs' := #[.int .u32 0, .int .u32 0, .bool false, .slice none 0 0]) rfl) Try.underlying57 rfl infoOpt) rfl ⟨rfl, setAll_below [(w.heap.size + 1, 0, .int .u32 0), (w.heap.size + 1, 1, .int .u32 0), (w.heap.size + 1, 2, .bool false), (w.heap.size + 1, 3, .slice none 0 0)] W0 HB.out (by simp)⟩
set_option maxHeartbeats 2000000 in
theorem cutOptionReplyD {w : World} {po : Option Addr} (h : Dd w po) (f : Value) : Calls Try.prog 73 #[.agg #[.pointer po, f]] w fun e w' => e = .returned (.tuple #[.agg #[.int .u32 0, .int .u32 0, .slice none 0 0], .int .i64 0]) ∧ Below w.heap.size w w' := by
  obtain ⟨W0, hW0⟩ : ∃ W0, W0 = ((w.alloc (.cells #[.pointer po, f] 156)).alloc (.cells #[.int .u32 0, .int .u32 0, .slice none 0 0] 62)).alloc (.cells #[.int .u32 0, .int .u32 0, .slice none 0 0] 62) := ⟨_, rfl⟩
  have hb0 : Below w.heap.size w W0 := by rw [hW0]; exact bx3_bel w _ _ _
  have HU : Hid (Calls Try.prog 27 #[.pointer po] W0 fun e w' => e = .returned (.bool false) ∧ w' = W0) := usableD (h.later hb0)
  have g2 : W0.heap[w.heap.size + 1 + 1]? = some (.cells #[.int .u32 0, .int .u32 0, .slice none 0 0] 62 (0, 0)) := by
    have h := heap_new ((w.alloc (.cells #[.pointer po, f] 156)).alloc (.cells #[.int .u32 0, .int .u32 0, .slice none 0 0] 62)) (.cells #[.int .u32 0, .int .u32 0, .slice none 0 0] 62)
    rw [World.size_alloc, World.size_alloc] at h
    rw [hW0]; exact h
  have g1 : W0.heap[w.heap.size + 1]? = some (.cells #[.int .u32 0, .int .u32 0, .slice none 0 0] 62 (0, 0)) := by
    have h := heap_new (w.alloc (.cells #[.pointer po, f] 156)) (.cells #[.int .u32 0, .int .u32 0, .slice none 0 0] 62)
    rw [World.size_alloc] at h
    rw [hW0, Below.heap_alloc _ _ _ (by simp)]; exact h
  have HB : Hid (Below w.heap.size w W0) := hb0
  have HG1 : Hid _ := g1
  have n0 := blk_at g2 0
  have r0 := blk_at g1 0
  have f0 := blk_free g1 0
  have n1 := blk_at g2 1
  have r1 := blk_at g1 1
  have f1 := blk_free g1 1
  have n2 := blk_at g2 2
  have r2 := blk_at g1 2
  have f2 := blk_free g1 2
  simp at n0 r0 n1 r1 n2 r2
  clear g1 g2 hb0 h
  go_enter Try.func73, Try.ntmps73
  go_wp2_with fail
  rw [← hW0]
  clear hW0
  refine HU.out.mono ?_
  rintro e w1 ⟨rfl, hw⟩
  rw [hw]; clear hw HU
  go_wp2
  exact bodyPost_ret (results_cell_tmp1 rfl _ _ (w.heap.size + 1) 62 #[.int .u32 0, .int .u32 0, .slice none 0 0] (0, 0) _ rfl (put_box (put_box (put_box HG1.out 0 (.int .u32 0) (cs' := #[.int .u32 0, .int .u32 0, .slice none 0 0]) rfl) 1 (.int .u32 0) (cs' := #[.int .u32 0, .int .u32 0, .slice none 0 0]) rfl) 2 (.slice none 0 0) (cs' := #[.int .u32 0, .int .u32 0, .slice none 0 0]) rfl) Try.underlying62 rfl infoRep) rfl ⟨rfl, setAll_below [(w.heap.size + 1, 0, .int .u32 0), (w.heap.size + 1, 1, .int .u32 0), (w.heap.size + 1, 2, .slice none 0 0)] W0 HB.out (by simp)⟩
set_option maxHeartbeats 2000000 in
theorem cutExportReplyD {w : World} {po : Option Addr} (h : Dd w po) (f : Value) : Calls Try.prog 76 #[.agg #[.pointer po, f]] w fun e w' => e = .returned (.tuple #[.agg #[.int .u64 0, .int .u16 0], .int .i64 0]) ∧ Below w.heap.size w w' := by
  obtain ⟨W0, hW0⟩ : ∃ W0, W0 = ((w.alloc (.cells #[.pointer po, f] 162)).alloc (.cells #[.int .u64 0, .int .u16 0] 96)).alloc (.cells #[.int .u64 0, .int .u16 0] 96) := ⟨_, rfl⟩
  have hb0 : Below w.heap.size w W0 := by rw [hW0]; exact bx3_bel w _ _ _
  have HU : Hid (Calls Try.prog 27 #[.pointer po] W0 fun e w' => e = .returned (.bool false) ∧ w' = W0) := usableD (h.later hb0)
  have g2 : W0.heap[w.heap.size + 1 + 1]? = some (.cells #[.int .u64 0, .int .u16 0] 96 (0, 0)) := by
    have h := heap_new ((w.alloc (.cells #[.pointer po, f] 162)).alloc (.cells #[.int .u64 0, .int .u16 0] 96)) (.cells #[.int .u64 0, .int .u16 0] 96)
    rw [World.size_alloc, World.size_alloc] at h
    rw [hW0]; exact h
  have g1 : W0.heap[w.heap.size + 1]? = some (.cells #[.int .u64 0, .int .u16 0] 96 (0, 0)) := by
    have h := heap_new (w.alloc (.cells #[.pointer po, f] 162)) (.cells #[.int .u64 0, .int .u16 0] 96)
    rw [World.size_alloc] at h
    rw [hW0, Below.heap_alloc _ _ _ (by simp)]; exact h
  have HB : Hid (Below w.heap.size w W0) := hb0
  have HG1 : Hid _ := g1
  have n0 := blk_at g2 0
  have r0 := blk_at g1 0
  have f0 := blk_free g1 0
  have n1 := blk_at g2 1
  have r1 := blk_at g1 1
  have f1 := blk_free g1 1
  simp at n0 r0 n1 r1
  clear g1 g2 hb0 h
  go_enter Try.func76, Try.ntmps76
  go_wp2_with fail
  rw [← hW0]
  clear hW0
  refine HU.out.mono ?_
  rintro e w1 ⟨rfl, hw⟩
  rw [hw]; clear hw HU
  go_wp2
  exact bodyPost_ret (results_cell_tmp1 rfl _ _ (w.heap.size + 1) 96 #[.int .u64 0, .int .u16 0] (0, 0) _ rfl (put_box (put_box HG1.out 0 (.int .u64 0) (cs' := #[.int .u64 0, .int .u16 0]) rfl) 1 (.int .u16 0) (cs' := #[.int .u64 0, .int .u16 0]) rfl) Try.underlying96 rfl infoExp) rfl ⟨rfl, setAll_below [(w.heap.size + 1, 0, .int .u64 0), (w.heap.size + 1, 1, .int .u16 0)] W0 HB.out (by simp)⟩
set_option maxHeartbeats 2000000 in
theorem cutRequestD {w : World} {po : Option Addr} (h : Dd w po) (f : Value) : Calls Try.prog 79 #[.agg #[.pointer po, f]] w fun e w' => e = .returned (.tuple #[.agg #[.int .u16 0, .int .u16 0, .int .u64 0, .int .u64 0, .int .u64 0, .slice none 0 0], .int .i64 0]) ∧ Below w.heap.size w w' := by
  obtain ⟨W0, hW0⟩ : ∃ W0, W0 = ((w.alloc (.cells #[.pointer po, f] 168)).alloc (.cells #[.int .u16 0, .int .u16 0, .int .u64 0, .int .u64 0, .int .u64 0, .slice none 0 0] 60)).alloc (.cells #[.int .u16 0, .int .u16 0, .int .u64 0, .int .u64 0, .int .u64 0, .slice none 0 0] 60) := ⟨_, rfl⟩
  have hb0 : Below w.heap.size w W0 := by rw [hW0]; exact bx3_bel w _ _ _
  have HU : Hid (Calls Try.prog 27 #[.pointer po] W0 fun e w' => e = .returned (.bool false) ∧ w' = W0) := usableD (h.later hb0)
  have g2 : W0.heap[w.heap.size + 1 + 1]? = some (.cells #[.int .u16 0, .int .u16 0, .int .u64 0, .int .u64 0, .int .u64 0, .slice none 0 0] 60 (0, 0)) := by
    have h := heap_new ((w.alloc (.cells #[.pointer po, f] 168)).alloc (.cells #[.int .u16 0, .int .u16 0, .int .u64 0, .int .u64 0, .int .u64 0, .slice none 0 0] 60)) (.cells #[.int .u16 0, .int .u16 0, .int .u64 0, .int .u64 0, .int .u64 0, .slice none 0 0] 60)
    rw [World.size_alloc, World.size_alloc] at h
    rw [hW0]; exact h
  have g1 : W0.heap[w.heap.size + 1]? = some (.cells #[.int .u16 0, .int .u16 0, .int .u64 0, .int .u64 0, .int .u64 0, .slice none 0 0] 60 (0, 0)) := by
    have h := heap_new (w.alloc (.cells #[.pointer po, f] 168)) (.cells #[.int .u16 0, .int .u16 0, .int .u64 0, .int .u64 0, .int .u64 0, .slice none 0 0] 60)
    rw [World.size_alloc] at h
    rw [hW0, Below.heap_alloc _ _ _ (by simp)]; exact h
  have HB : Hid (Below w.heap.size w W0) := hb0
  have HG1 : Hid _ := g1
  have n0 := blk_at g2 0
  have r0 := blk_at g1 0
  have f0 := blk_free g1 0
  have n1 := blk_at g2 1
  have r1 := blk_at g1 1
  have f1 := blk_free g1 1
  have n2 := blk_at g2 2
  have r2 := blk_at g1 2
  have f2 := blk_free g1 2
  have n3 := blk_at g2 3
  have r3 := blk_at g1 3
  have f3 := blk_free g1 3
  have n4 := blk_at g2 4
  have r4 := blk_at g1 4
  have f4 := blk_free g1 4
  have n5 := blk_at g2 5
  have r5 := blk_at g1 5
  have f5 := blk_free g1 5
  simp at n0 r0 n1 r1 n2 r2 n3 r3 n4 r4 n5 r5
  clear g1 g2 hb0 h
  go_enter Try.func79, Try.ntmps79
  go_wp2_with fail
  rw [← hW0]
  clear hW0
  refine HU.out.mono ?_
  rintro e w1 ⟨rfl, hw⟩
  rw [hw]; clear hw HU
  go_wp2
  exact bodyPost_ret (results_cell_tmp1 rfl _ _ (w.heap.size + 1) 60 #[.int .u16 0, .int .u16 0, .int .u64 0, .int .u64 0, .int .u64 0, .slice none 0 0] (0, 0) _ rfl (put_box (put_box (put_box (put_box (put_box (put_box HG1.out 0 (.int .u16 0) (cs' := #[.int .u16 0, .int .u16 0, .int .u64 0, .int .u64 0, .int .u64 0, .slice none 0 0]) rfl) 1 (.int .u16 0) (cs' := #[.int .u16 0, .int .u16 0, .int .u64 0, .int .u64 0, .int .u64 0, .slice none 0 0]) rfl) 2 (.int .u64 0) (cs' := #[.int .u16 0, .int .u16 0, .int .u64 0, .int .u64 0, .int .u64 0, .slice none 0 0]) rfl) 3 (.int .u64 0) (cs' := #[.int .u16 0, .int .u16 0, .int .u64 0, .int .u64 0, .int .u64 0, .slice none 0 0]) rfl) 4 (.int .u64 0) (cs' := #[.int .u16 0, .int .u16 0, .int .u64 0, .int .u64 0, .int .u64 0, .slice none 0 0]) rfl) 5 (.slice none 0 0) (cs' := #[.int .u16 0, .int .u16 0, .int .u64 0, .int .u64 0, .int .u64 0, .slice none 0 0]) rfl) Try.underlying60 rfl infoReq) rfl ⟨rfl, setAll_below [(w.heap.size + 1, 0, .int .u16 0), (w.heap.size + 1, 1, .int .u16 0), (w.heap.size + 1, 2, .int .u64 0), (w.heap.size + 1, 3, .int .u64 0), (w.heap.size + 1, 4, .int .u64 0), (w.heap.size + 1, 5, .slice none 0 0)] W0 HB.out (by simp)⟩
set_option maxHeartbeats 2000000 in
theorem cutReplyD {w : World} {po : Option Addr} (h : Dd w po) (f : Value) : Calls Try.prog 82 #[.agg #[.pointer po, f]] w fun e w' => e = .returned (.tuple #[.agg #[.bool false, .int .u32 0, .int .u64 0, .int .u16 0, .int .u16 0, .int .u64 0, .int .u64 0, .slice none 0 0], .int .i64 0]) ∧ Below w.heap.size w w' := by
  obtain ⟨W0, hW0⟩ : ∃ W0, W0 = ((w.alloc (.cells #[.pointer po, f] 174)).alloc (.cells #[.bool false, .int .u32 0, .int .u64 0, .int .u16 0, .int .u16 0, .int .u64 0, .int .u64 0, .slice none 0 0] 103)).alloc (.cells #[.bool false, .int .u32 0, .int .u64 0, .int .u16 0, .int .u16 0, .int .u64 0, .int .u64 0, .slice none 0 0] 103) := ⟨_, rfl⟩
  have hb0 : Below w.heap.size w W0 := by rw [hW0]; exact bx3_bel w _ _ _
  have HU : Hid (Calls Try.prog 27 #[.pointer po] W0 fun e w' => e = .returned (.bool false) ∧ w' = W0) := usableD (h.later hb0)
  have g2 : W0.heap[w.heap.size + 1 + 1]? = some (.cells #[.bool false, .int .u32 0, .int .u64 0, .int .u16 0, .int .u16 0, .int .u64 0, .int .u64 0, .slice none 0 0] 103 (0, 0)) := by
    have h := heap_new ((w.alloc (.cells #[.pointer po, f] 174)).alloc (.cells #[.bool false, .int .u32 0, .int .u64 0, .int .u16 0, .int .u16 0, .int .u64 0, .int .u64 0, .slice none 0 0] 103)) (.cells #[.bool false, .int .u32 0, .int .u64 0, .int .u16 0, .int .u16 0, .int .u64 0, .int .u64 0, .slice none 0 0] 103)
    rw [World.size_alloc, World.size_alloc] at h
    rw [hW0]; exact h
  have g1 : W0.heap[w.heap.size + 1]? = some (.cells #[.bool false, .int .u32 0, .int .u64 0, .int .u16 0, .int .u16 0, .int .u64 0, .int .u64 0, .slice none 0 0] 103 (0, 0)) := by
    have h := heap_new (w.alloc (.cells #[.pointer po, f] 174)) (.cells #[.bool false, .int .u32 0, .int .u64 0, .int .u16 0, .int .u16 0, .int .u64 0, .int .u64 0, .slice none 0 0] 103)
    rw [World.size_alloc] at h
    rw [hW0, Below.heap_alloc _ _ _ (by simp)]; exact h
  have HB : Hid (Below w.heap.size w W0) := hb0
  have HG1 : Hid _ := g1
  have n0 := blk_at g2 0
  have r0 := blk_at g1 0
  have f0 := blk_free g1 0
  have n1 := blk_at g2 1
  have r1 := blk_at g1 1
  have f1 := blk_free g1 1
  have n2 := blk_at g2 2
  have r2 := blk_at g1 2
  have f2 := blk_free g1 2
  have n3 := blk_at g2 3
  have r3 := blk_at g1 3
  have f3 := blk_free g1 3
  have n4 := blk_at g2 4
  have r4 := blk_at g1 4
  have f4 := blk_free g1 4
  have n5 := blk_at g2 5
  have r5 := blk_at g1 5
  have f5 := blk_free g1 5
  have n6 := blk_at g2 6
  have r6 := blk_at g1 6
  have f6 := blk_free g1 6
  have n7 := blk_at g2 7
  have r7 := blk_at g1 7
  have f7 := blk_free g1 7
  simp at n0 r0 n1 r1 n2 r2 n3 r3 n4 r4 n5 r5 n6 r6 n7 r7
  clear g1 g2 hb0 h
  go_enter Try.func82, Try.ntmps82
  go_wp2_with fail
  rw [← hW0]
  clear hW0
  refine HU.out.mono ?_
  rintro e w1 ⟨rfl, hw⟩
  rw [hw]; clear hw HU
  go_wp2
  exact bodyPost_ret (results_cell_tmp1 rfl _ _ (w.heap.size + 1) 103 #[.bool false, .int .u32 0, .int .u64 0, .int .u16 0, .int .u16 0, .int .u64 0, .int .u64 0, .slice none 0 0] (0, 0) _ rfl (put_box (put_box (put_box (put_box (put_box (put_box (put_box (put_box HG1.out 0 (.bool false) (cs' := #[.bool false, .int .u32 0, .int .u64 0, .int .u16 0, .int .u16 0, .int .u64 0, .int .u64 0, .slice none 0 0]) rfl) 1 (.int .u32 0) (cs' := #[.bool false, .int .u32 0, .int .u64 0, .int .u16 0, .int .u16 0, .int .u64 0, .int .u64 0, .slice none 0 0]) rfl) 2 (.int .u64 0) (cs' := #[.bool false, .int .u32 0, .int .u64 0, .int .u16 0, .int .u16 0, .int .u64 0, .int .u64 0, .slice none 0 0]) rfl) 3 (.int .u16 0) (cs' := #[.bool false, .int .u32 0, .int .u64 0, .int .u16 0, .int .u16 0, .int .u64 0, .int .u64 0, .slice none 0 0]) rfl) 4 (.int .u16 0) (cs' := #[.bool false, .int .u32 0, .int .u64 0, .int .u16 0, .int .u16 0, .int .u64 0, .int .u64 0, .slice none 0 0]) rfl) 5 (.int .u64 0) (cs' := #[.bool false, .int .u32 0, .int .u64 0, .int .u16 0, .int .u16 0, .int .u64 0, .int .u64 0, .slice none 0 0]) rfl) 6 (.int .u64 0) (cs' := #[.bool false, .int .u32 0, .int .u64 0, .int .u16 0, .int .u16 0, .int .u64 0, .int .u64 0, .slice none 0 0]) rfl) 7 (.slice none 0 0) (cs' := #[.bool false, .int .u32 0, .int .u64 0, .int .u16 0, .int .u16 0, .int .u64 0, .int .u64 0, .slice none 0 0]) rfl) Try.underlying103 rfl infoRpl) rfl ⟨rfl, setAll_below [(w.heap.size + 1, 0, .bool false), (w.heap.size + 1, 1, .int .u32 0), (w.heap.size + 1, 2, .int .u64 0), (w.heap.size + 1, 3, .int .u16 0), (w.heap.size + 1, 4, .int .u16 0), (w.heap.size + 1, 5, .int .u64 0), (w.heap.size + 1, 6, .int .u64 0), (w.heap.size + 1, 7, .slice none 0 0)] W0 HB.out (by simp)⟩
end Go.Proofs.Ytckfmpoddmccfaa
