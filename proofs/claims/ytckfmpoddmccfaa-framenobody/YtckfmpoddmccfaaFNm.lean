import Derived.Test.YtckfmpoddmccfaaFN
namespace Go.Proofs.Ytckfmpoddmccfaa
open Go.RowKit
set_option linter.unusedVariables false
set_option linter.unusedSimpArgs false
set_option maxRecDepth 100000

set_option maxHeartbeats 2000000 in
theorem greetingD {w : World} {po : Option Addr} (h : Dd w po) : Calls Try.prog 31 #[.pointer po] w fun e w' => e = .returned (.tuple #[.agg #[.int .u16 0], .int .i64 0]) ∧ Below w.heap.size w w' := by
  obtain ⟨W0, hW0⟩ : ∃ W0, W0 = (w.alloc (.cells #[.int .u16 0] 88)) := ⟨_, rfl⟩
  have hb0 : Below w.heap.size w W0 := by rw [hW0]; exact (Below.refl _ _).alloc (Nat.le_refl _) _
  have HC : Hid (∀ f, Calls Try.prog 69 #[.agg #[.pointer po, f]] W0 fun e w' => e = .returned (.tuple #[.agg #[.int .u16 0], .int .i64 0]) ∧ Below W0.heap.size W0 w') := fun f => cutGreetingD (h.later hb0) f
  have g1 : W0.heap[w.heap.size]? = some (.cells #[.int .u16 0] 88 (0, 0)) := by
    have h := heap_new w (.cells #[.int .u16 0] 88)
    rw [hW0]; exact h
  have HB0 : Hid (Below w.heap.size w W0) := hb0
  have HG0 : Hid _ := g1
  clear g1 hb0 h
  go_enter Try.func31, Try.ntmps31
  go_wp2_with fail
  rw [← hW0]
  clear hW0
  refine (HC.out _).mono ?_
  rintro e w1 ⟨rfl, hb1⟩
  have HB1 : Hid (Below w.heap.size w w1) := HB0.out.trans (hb1.mono HB0.out.size)
  have g1 : w1.heap[w.heap.size]? = some (.cells #[.int .u16 0] 88 (0, 0)) := (hb1.block _ (block_lt HG0.out)).trans HG0.out
  have HG1 : Hid _ := g1
  have r0 := blk_at g1 0
  have f0 := blk_free g1 0
  simp at r0
  clear g1 hb1 HC HB0 HG0
  go_wp2
  exact bodyPost_ret (results_cell_tmp1 rfl _ _ (w.heap.size) 88 #[.int .u16 0] (0, 0) _ rfl (put_box HG1.out 0 (.int .u16 0) (cs' := #[.int .u16 0]) rfl) Try.underlying88 rfl infoGre) rfl ⟨rfl, setAll_below [(w.heap.size, 0, .int .u16 0)] w1 HB1.out (by simp; try omega)⟩
set_option maxHeartbeats 2000000 in
theorem optionD {w : World} {po : Option Addr} (h : Dd w po) (m : Nat) : Calls Try.prog 24 #[.pointer po, .int .u32 (m : Int)] w fun e w' => e = .returned (.tuple #[.agg #[.int .u32 0, .int .u32 0, .bool false, .slice none 0 0], .int .i64 0]) ∧ Below w.heap.size w w' := by
  obtain ⟨W0, hW0⟩ : ∃ W0, W0 = ((w.alloc (.cells #[.int .u32 (m : Int)] 36)).alloc (.cells #[.int .u32 0, .int .u32 0, .bool false, .slice none 0 0] 57)) := ⟨_, rfl⟩
  have hb0 : Below w.heap.size w W0 := by rw [hW0]; exact bx2_bel w _ _
  have HC : Hid (∀ f, Calls Try.prog 63 #[.agg #[.pointer po, f]] W0 fun e w' => e = .returned (.tuple #[.agg #[.int .u32 0, .int .u32 0, .bool false, .slice none 0 0], .int .i64 0]) ∧ Below W0.heap.size W0 w') := fun f => cutOptionD (h.later hb0) f
  have g1 : W0.heap[w.heap.size + 1]? = some (.cells #[.int .u32 0, .int .u32 0, .bool false, .slice none 0 0] 57 (0, 0)) := by
    have h := heap_new (w.alloc (.cells #[.int .u32 (m : Int)] 36)) (.cells #[.int .u32 0, .int .u32 0, .bool false, .slice none 0 0] 57)
    rw [World.size_alloc] at h
    rw [hW0]; exact h
  have HB0 : Hid (Below w.heap.size w W0) := hb0
  have HG0 : Hid _ := g1
  clear g1 hb0 h
  go_enter Try.func24, Try.ntmps24
  go_wp2_with fail
  rw [← hW0]
  clear hW0
  refine (HC.out _).mono ?_
  rintro e w1 ⟨rfl, hb1⟩
  have HB1 : Hid (Below w.heap.size w (w1.alloc (.cells #[.int .u32 0, .int .u32 0, .bool false, .slice none 0 0] 57))) := (HB0.out.trans (hb1.mono HB0.out.size)).alloc (HB0.out.trans (hb1.mono HB0.out.size)).size _
  have g1 : (w1.alloc (.cells #[.int .u32 0, .int .u32 0, .bool false, .slice none 0 0] 57)).heap[w.heap.size + 1]? = some (.cells #[.int .u32 0, .int .u32 0, .bool false, .slice none 0 0] 57 (0, 0)) := (Below.heap_alloc _ _ _ (Nat.lt_of_lt_of_le (block_lt HG0.out) hb1.size)).trans ((hb1.block _ (block_lt HG0.out)).trans HG0.out)
  have HG1 : Hid _ := g1
  have r0 := blk_at g1 0
  have f0 := blk_free g1 0
  have r1 := blk_at g1 1
  have f1 := blk_free g1 1
  have r2 := blk_at g1 2
  have f2 := blk_free g1 2
  have r3 := blk_at g1 3
  have f3 := blk_free g1 3
  simp at r0 r1 r2 r3
  clear g1 hb1 HC HB0 HG0
  go_wp2
  exact bodyPost_ret (results_cell_tmp1 rfl _ _ (w.heap.size + 1) 57 #[.int .u32 0, .int .u32 0, .bool false, .slice none 0 0] (0, 0) _ rfl (put_box (put_box (put_box (put_box HG1.out 0 (.int .u32 0) (cs' := #[.int .u32 0, .int .u32 0, .bool false, .slice none 0 0]) rfl) 1 (.int .u32 0) (cs' := #[.int .u32 0, .int .u32 0, .bool false, .slice none 0 0]) rfl) 2 (.bool false) (cs' := #[.int .u32 0, .int .u32 0, .bool false, .slice none 0 0]) rfl) 3 (.slice none 0 0) (cs' := #[.int .u32 0, .int .u32 0, .bool false, .slice none 0 0]) rfl) Try.underlying57 rfl infoOpt) rfl ⟨rfl, setAll_below [(w.heap.size + 1, 0, .int .u32 0), (w.heap.size + 1, 1, .int .u32 0), (w.heap.size + 1, 2, .bool false), (w.heap.size + 1, 3, .slice none 0 0)] (w1.alloc (.cells #[.int .u32 0, .int .u32 0, .bool false, .slice none 0 0] 57)) HB1.out (by simp; try omega)⟩
set_option maxHeartbeats 2000000 in
theorem optionReplyD {w : World} {po : Option Addr} (h : Dd w po) (m : Nat) : Calls Try.prog 33 #[.pointer po, .int .u32 (m : Int)] w fun e w' => e = .returned (.tuple #[.agg #[.int .u32 0, .int .u32 0, .slice none 0 0], .int .i64 0]) ∧ Below w.heap.size w w' := by
  obtain ⟨W0, hW0⟩ : ∃ W0, W0 = ((w.alloc (.cells #[.int .u32 (m : Int)] 36)).alloc (.cells #[.int .u32 0, .int .u32 0, .slice none 0 0] 62)) := ⟨_, rfl⟩
  have hb0 : Below w.heap.size w W0 := by rw [hW0]; exact bx2_bel w _ _
  have HC : Hid (∀ f, Calls Try.prog 73 #[.agg #[.pointer po, f]] W0 fun e w' => e = .returned (.tuple #[.agg #[.int .u32 0, .int .u32 0, .slice none 0 0], .int .i64 0]) ∧ Below W0.heap.size W0 w') := fun f => cutOptionReplyD (h.later hb0) f
  have g1 : W0.heap[w.heap.size + 1]? = some (.cells #[.int .u32 0, .int .u32 0, .slice none 0 0] 62 (0, 0)) := by
    have h := heap_new (w.alloc (.cells #[.int .u32 (m : Int)] 36)) (.cells #[.int .u32 0, .int .u32 0, .slice none 0 0] 62)
    rw [World.size_alloc] at h
    rw [hW0]; exact h
  have HB0 : Hid (Below w.heap.size w W0) := hb0
  have HG0 : Hid _ := g1
  clear g1 hb0 h
  go_enter Try.func33, Try.ntmps33
  go_wp2_with fail
  rw [← hW0]
  clear hW0
  refine (HC.out _).mono ?_
  rintro e w1 ⟨rfl, hb1⟩
  have HB1 : Hid (Below w.heap.size w w1) := HB0.out.trans (hb1.mono HB0.out.size)
  have g1 : w1.heap[w.heap.size + 1]? = some (.cells #[.int .u32 0, .int .u32 0, .slice none 0 0] 62 (0, 0)) := (hb1.block _ (block_lt HG0.out)).trans HG0.out
  have HG1 : Hid _ := g1
  have r0 := blk_at g1 0
  have f0 := blk_free g1 0
  have r1 := blk_at g1 1
  have f1 := blk_free g1 1
  have r2 := blk_at g1 2
  have f2 := blk_free g1 2
  simp at r0 r1 r2
  clear g1 hb1 HC HB0 HG0
  go_wp2
  exact bodyPost_ret (results_cell_tmp1 rfl _ _ (w.heap.size + 1) 62 #[.int .u32 0, .int .u32 0, .slice none 0 0] (0, 0) _ rfl (put_box (put_box (put_box HG1.out 0 (.int .u32 0) (cs' := #[.int .u32 0, .int .u32 0, .slice none 0 0]) rfl) 1 (.int .u32 0) (cs' := #[.int .u32 0, .int .u32 0, .slice none 0 0]) rfl) 2 (.slice none 0 0) (cs' := #[.int .u32 0, .int .u32 0, .slice none 0 0]) rfl) Try.underlying62 rfl infoRep) rfl ⟨rfl, setAll_below [(w.heap.size + 1, 0, .int .u32 0), (w.heap.size + 1, 1, .int .u32 0), (w.heap.size + 1, 2, .slice none 0 0)] w1 HB1.out (by simp; try omega)⟩
set_option maxHeartbeats 2000000 in
theorem exportReplyD {w : World} {po : Option Addr} (h : Dd w po) (b : Bool) : Calls Try.prog 35 #[.pointer po, .bool b] w fun e w' => e = .returned (.tuple #[.agg #[.int .u64 0, .int .u16 0], .int .i64 0]) ∧ Below w.heap.size w w' := by
  obtain ⟨W0, hW0⟩ : ∃ W0, W0 = ((w.alloc (.cells #[.bool b] 4)).alloc (.cells #[.int .u64 0, .int .u16 0] 96)) := ⟨_, rfl⟩
  have hb0 : Below w.heap.size w W0 := by rw [hW0]; exact bx2_bel w _ _
  have HC : Hid (∀ f, Calls Try.prog 76 #[.agg #[.pointer po, f]] W0 fun e w' => e = .returned (.tuple #[.agg #[.int .u64 0, .int .u16 0], .int .i64 0]) ∧ Below W0.heap.size W0 w') := fun f => cutExportReplyD (h.later hb0) f
  have g1 : W0.heap[w.heap.size + 1]? = some (.cells #[.int .u64 0, .int .u16 0] 96 (0, 0)) := by
    have h := heap_new (w.alloc (.cells #[.bool b] 4)) (.cells #[.int .u64 0, .int .u16 0] 96)
    rw [World.size_alloc] at h
    rw [hW0]; exact h
  have HB0 : Hid (Below w.heap.size w W0) := hb0
  have HG0 : Hid _ := g1
  clear g1 hb0 h
  go_enter Try.func35, Try.ntmps35
  go_wp2_with fail
  rw [← hW0]
  clear hW0
  refine (HC.out _).mono ?_
  rintro e w1 ⟨rfl, hb1⟩
  have HB1 : Hid (Below w.heap.size w w1) := HB0.out.trans (hb1.mono HB0.out.size)
  have g1 : w1.heap[w.heap.size + 1]? = some (.cells #[.int .u64 0, .int .u16 0] 96 (0, 0)) := (hb1.block _ (block_lt HG0.out)).trans HG0.out
  have HG1 : Hid _ := g1
  have r0 := blk_at g1 0
  have f0 := blk_free g1 0
  have r1 := blk_at g1 1
  have f1 := blk_free g1 1
  simp at r0 r1
  clear g1 hb1 HC HB0 HG0
  go_wp2
  exact bodyPost_ret (results_cell_tmp1 rfl _ _ (w.heap.size + 1) 96 #[.int .u64 0, .int .u16 0] (0, 0) _ rfl (put_box (put_box HG1.out 0 (.int .u64 0) (cs' := #[.int .u64 0, .int .u16 0]) rfl) 1 (.int .u16 0) (cs' := #[.int .u64 0, .int .u16 0]) rfl) Try.underlying96 rfl infoExp) rfl ⟨rfl, setAll_below [(w.heap.size + 1, 0, .int .u64 0), (w.heap.size + 1, 1, .int .u16 0)] w1 HB1.out (by simp; try omega)⟩
set_option maxHeartbeats 2000000 in
theorem requestD {w : World} {po : Option Addr} (h : Dd w po) (m : Nat) (b : Bool) : Calls Try.prog 36 #[.pointer po, .int .u32 (m : Int), .bool b] w fun e w' => e = .returned (.tuple #[.agg #[.int .u16 0, .int .u16 0, .int .u64 0, .int .u64 0, .int .u64 0, .slice none 0 0], .int .i64 0]) ∧ Below w.heap.size w w' := by
  obtain ⟨W0, hW0⟩ : ∃ W0, W0 = (((w.alloc (.cells #[.int .u32 (m : Int)] 36)).alloc (.cells #[.bool b] 4)).alloc (.cells #[.int .u16 0, .int .u16 0, .int .u64 0, .int .u64 0, .int .u64 0, .slice none 0 0] 60)) := ⟨_, rfl⟩
  have hb0 : Below w.heap.size w W0 := by rw [hW0]; exact bx3_bel w _ _ _
  have HC : Hid (∀ f, Calls Try.prog 79 #[.agg #[.pointer po, f]] W0 fun e w' => e = .returned (.tuple #[.agg #[.int .u16 0, .int .u16 0, .int .u64 0, .int .u64 0, .int .u64 0, .slice none 0 0], .int .i64 0]) ∧ Below W0.heap.size W0 w') := fun f => cutRequestD (h.later hb0) f
  have g1 : W0.heap[w.heap.size + 1 + 1]? = some (.cells #[.int .u16 0, .int .u16 0, .int .u64 0, .int .u64 0, .int .u64 0, .slice none 0 0] 60 (0, 0)) := by
    have h := heap_new ((w.alloc (.cells #[.int .u32 (m : Int)] 36)).alloc (.cells #[.bool b] 4)) (.cells #[.int .u16 0, .int .u16 0, .int .u64 0, .int .u64 0, .int .u64 0, .slice none 0 0] 60)
    rw [World.size_alloc, World.size_alloc] at h
    rw [hW0]; exact h
  have HB0 : Hid (Below w.heap.size w W0) := hb0
  have HG0 : Hid _ := g1
  clear g1 hb0 h
  go_enter Try.func36, Try.ntmps36
  go_wp2_with fail
  rw [← hW0]
  clear hW0
  refine (HC.out _).mono ?_
  rintro e w1 ⟨rfl, hb1⟩
  have HB1 : Hid (Below w.heap.size w w1) := HB0.out.trans (hb1.mono HB0.out.size)
  have g1 : w1.heap[w.heap.size + 1 + 1]? = some (.cells #[.int .u16 0, .int .u16 0, .int .u64 0, .int .u64 0, .int .u64 0, .slice none 0 0] 60 (0, 0)) := (hb1.block _ (block_lt HG0.out)).trans HG0.out
  have HG1 : Hid _ := g1
  have r0 := blk_at g1 0
  have f0 := blk_free g1 0
  have r1 := blk_at g1 1
  have f1 := blk_free g1 1
  have r2 := blk_at g1 2
  have f2 := blk_free g1 2
  have r3 := blk_at g1 3
  have f3 := blk_free g1 3
  have r4 := blk_at g1 4
  have f4 := blk_free g1 4
  have r5 := blk_at g1 5
  have f5 := blk_free g1 5
  simp at r0 r1 r2 r3 r4 r5
  clear g1 hb1 HC HB0 HG0
  go_wp2
  exact bodyPost_ret (results_cell_tmp1 rfl _ _ (w.heap.size + 1 + 1) 60 #[.int .u16 0, .int .u16 0, .int .u64 0, .int .u64 0, .int .u64 0, .slice none 0 0] (0, 0) _ rfl (put_box (put_box (put_box (put_box (put_box (put_box HG1.out 0 (.int .u16 0) (cs' := #[.int .u16 0, .int .u16 0, .int .u64 0, .int .u64 0, .int .u64 0, .slice none 0 0]) rfl) 1 (.int .u16 0) (cs' := #[.int .u16 0, .int .u16 0, .int .u64 0, .int .u64 0, .int .u64 0, .slice none 0 0]) rfl) 2 (.int .u64 0) (cs' := #[.int .u16 0, .int .u16 0, .int .u64 0, .int .u64 0, .int .u64 0, .slice none 0 0]) rfl) 3 (.int .u64 0) (cs' := #[.int .u16 0, .int .u16 0, .int .u64 0, .int .u64 0, .int .u64 0, .slice none 0 0]) rfl) 4 (.int .u64 0) (cs' := #[.int .u16 0, .int .u16 0, .int .u64 0, .int .u64 0, .int .u64 0, .slice none 0 0]) rfl) 5 (.slice none 0 0) (cs' := #[.int .u16 0, .int .u16 0, .int .u64 0, .int .u64 0, .int .u64 0, .slice none 0 0]) rfl) Try.underlying60 rfl infoReq) rfl ⟨rfl, setAll_below [(w.heap.size + 1 + 1, 0, .int .u16 0), (w.heap.size + 1 + 1, 1, .int .u16 0), (w.heap.size + 1 + 1, 2, .int .u64 0), (w.heap.size + 1 + 1, 3, .int .u64 0), (w.heap.size + 1 + 1, 4, .int .u64 0), (w.heap.size + 1 + 1, 5, .slice none 0 0)] w1 HB1.out (by simp; try omega)⟩
set_option maxHeartbeats 2000000 in
theorem replyD {w : World} {po : Option Addr} (h : Dd w po) (m : Nat) (b : Bool) : Calls Try.prog 38 #[.pointer po, .int .u32 (m : Int), .bool b] w fun e w' => e = .returned (.tuple #[.agg #[.bool false, .int .u32 0, .int .u64 0, .int .u16 0, .int .u16 0, .int .u64 0, .int .u64 0, .slice none 0 0], .int .i64 0]) ∧ Below w.heap.size w w' := by
  obtain ⟨W0, hW0⟩ : ∃ W0, W0 = (((w.alloc (.cells #[.int .u32 (m : Int)] 36)).alloc (.cells #[.bool b] 4)).alloc (.cells #[.bool false, .int .u32 0, .int .u64 0, .int .u16 0, .int .u16 0, .int .u64 0, .int .u64 0, .slice none 0 0] 103)) := ⟨_, rfl⟩
  have hb0 : Below w.heap.size w W0 := by rw [hW0]; exact bx3_bel w _ _ _
  have HC : Hid (∀ f, Calls Try.prog 82 #[.agg #[.pointer po, f]] W0 fun e w' => e = .returned (.tuple #[.agg #[.bool false, .int .u32 0, .int .u64 0, .int .u16 0, .int .u16 0, .int .u64 0, .int .u64 0, .slice none 0 0], .int .i64 0]) ∧ Below W0.heap.size W0 w') := fun f => cutReplyD (h.later hb0) f
  have g1 : W0.heap[w.heap.size + 1 + 1]? = some (.cells #[.bool false, .int .u32 0, .int .u64 0, .int .u16 0, .int .u16 0, .int .u64 0, .int .u64 0, .slice none 0 0] 103 (0, 0)) := by
    have h := heap_new ((w.alloc (.cells #[.int .u32 (m : Int)] 36)).alloc (.cells #[.bool b] 4)) (.cells #[.bool false, .int .u32 0, .int .u64 0, .int .u16 0, .int .u16 0, .int .u64 0, .int .u64 0, .slice none 0 0] 103)
    rw [World.size_alloc, World.size_alloc] at h
    rw [hW0]; exact h
  have HB0 : Hid (Below w.heap.size w W0) := hb0
  have HG0 : Hid _ := g1
  clear g1 hb0 h
  go_enter Try.func38, Try.ntmps38
  go_wp2_with fail
  rw [← hW0]
  clear hW0
  refine (HC.out _).mono ?_
  rintro e w1 ⟨rfl, hb1⟩
  have HB1 : Hid (Below w.heap.size w w1) := HB0.out.trans (hb1.mono HB0.out.size)
  have g1 : w1.heap[w.heap.size + 1 + 1]? = some (.cells #[.bool false, .int .u32 0, .int .u64 0, .int .u16 0, .int .u16 0, .int .u64 0, .int .u64 0, .slice none 0 0] 103 (0, 0)) := (hb1.block _ (block_lt HG0.out)).trans HG0.out
  have HG1 : Hid _ := g1
  have r0 := blk_at g1 0
  have f0 := blk_free g1 0
  have r1 := blk_at g1 1
  have f1 := blk_free g1 1
  have r2 := blk_at g1 2
  have f2 := blk_free g1 2
  have r3 := blk_at g1 3
  have f3 := blk_free g1 3
  have r4 := blk_at g1 4
  have f4 := blk_free g1 4
  have r5 := blk_at g1 5
  have f5 := blk_free g1 5
  have r6 := blk_at g1 6
  have f6 := blk_free g1 6
  have r7 := blk_at g1 7
  have f7 := blk_free g1 7
  simp at r0 r1 r2 r3 r4 r5 r6 r7
  clear g1 hb1 HC HB0 HG0
  go_wp2
  exact bodyPost_ret (results_cell_tmp1 rfl _ _ (w.heap.size + 1 + 1) 103 #[.bool false, .int .u32 0, .int .u64 0, .int .u16 0, .int .u16 0, .int .u64 0, .int .u64 0, .slice none 0 0] (0, 0) _ rfl (put_box (put_box (put_box (put_box (put_box (put_box (put_box (put_box HG1.out 0 (.bool false) (cs' := #[.bool false, .int .u32 0, .int .u64 0, .int .u16 0, .int .u16 0, .int .u64 0, .int .u64 0, .slice none 0 0]) rfl) 1 (.int .u32 0) (cs' := #[.bool false, .int .u32 0, .int .u64 0, .int .u16 0, .int .u16 0, .int .u64 0, .int .u64 0, .slice none 0 0]) rfl) 2 (.int .u64 0) (cs' := #[.bool false, .int .u32 0, .int .u64 0, .int .u16 0, .int .u16 0, .int .u64 0, .int .u64 0, .slice none 0 0]) rfl) 3 (.int .u16 0) (cs' := #[.bool false, .int .u32 0, .int .u64 0, .int .u16 0, .int .u16 0, .int .u64 0, .int .u64 0, .slice none 0 0]) rfl) 4 (.int .u16 0) (cs' := #[.bool false, .int .u32 0, .int .u64 0, .int .u16 0, .int .u16 0, .int .u64 0, .int .u64 0, .slice none 0 0]) rfl) 5 (.int .u64 0) (cs' := #[.bool false, .int .u32 0, .int .u64 0, .int .u16 0, .int .u16 0, .int .u64 0, .int .u64 0, .slice none 0 0]) rfl) 6 (.int .u64 0) (cs' := #[.bool false, .int .u32 0, .int .u64 0, .int .u16 0, .int .u16 0, .int .u64 0, .int .u64 0, .slice none 0 0]) rfl) 7 (.slice none 0 0) (cs' := #[.bool false, .int .u32 0, .int .u64 0, .int .u16 0, .int .u16 0, .int .u64 0, .int .u64 0, .slice none 0 0]) rfl) Try.underlying103 rfl infoRpl) rfl ⟨rfl, setAll_below [(w.heap.size + 1 + 1, 0, .bool false), (w.heap.size + 1 + 1, 1, .int .u32 0), (w.heap.size + 1 + 1, 2, .int .u64 0), (w.heap.size + 1 + 1, 3, .int .u16 0), (w.heap.size + 1 + 1, 4, .int .u16 0), (w.heap.size + 1 + 1, 5, .int .u64 0), (w.heap.size + 1 + 1, 6, .int .u64 0), (w.heap.size + 1 + 1, 7, .slice none 0 0)] w1 HB1.out (by simp; try omega)⟩
end Go.Proofs.Ytckfmpoddmccfaa
