import Derived.Test.YtjhickfjagalfaaDoorV45
import Derived.Test.YtjhickfjagalfaaDoorV50
namespace Go.Proofs.YtjhickfjagalfaaDoor
open Go.RowKit
set_option linter.unusedVariables false
set_option linter.unusedSimpArgs false
set_option maxRecDepth 100000
set_option maxHeartbeats 4000000 in
theorem sameOpt (x0 x1 : Nat) (z0 : Bool) (ao bo : Option Addr) (cap cap' k : Nat) (l : List Nat) (w : World) (h : BRow w ao cap l) (h' : BRow w bo cap' l) (hk : l.length = k) :
    Calls Tryd.prog 44 #[.agg #[.int .u32 (x0 : Int), .int .u32 (x1 : Int), .bool z0, .slice ao k cap], .agg #[.int .u32 (x0 : Int), .int .u32 (x1 : Int), .bool z0, .slice bo k cap']] w fun e w' => e = .returned (.bool true) ∧ Below w.heap.size w w' := by
  obtain ⟨W0, hW0⟩ : ∃ W0, W0 = ((w.alloc (.cells #[.int .u32 (x0 : Int), .int .u32 (x1 : Int), .bool z0, .slice ao k cap] 55)).alloc (.cells #[.int .u32 (x0 : Int), .int .u32 (x1 : Int), .bool z0, .slice bo k cap'] 55)) := ⟨_, rfl⟩
  have hB : Below w.heap.size w W0 := by rw [hW0]; exact bx2_bel w _ _
  have HS : Hid (Calls Tryd.prog 18 #[.slice ao k cap, .slice bo k cap'] W0 fun e w' => e = .returned (.bool true) ∧ Below W0.heap.size W0 w') := same8_true ao bo cap cap' k l W0 (h.later hB) (h'.later hB) hk
  have HB : Hid (Below w.heap.size w W0) := hB
  clear h h' hk hB
  go_enter Tryd.func44, Tryd.ntmps44
  go_wp2_with fail
  rw [← hW0]
  refine HS.out.mono ?_
  rintro e w1 ⟨rfl, hb⟩
  have HB1 : Hid (Below w.heap.size w w1) := HB.out.trans (hb.mono HB.out.size)
  clear hb HS hW0
  go_wp2
  go_ret
  exact ⟨rfl, HB1.out⟩
set_option maxHeartbeats 4000000 in
theorem sameRep (x0 x1 : Nat) (ao bo : Option Addr) (cap cap' k : Nat) (l : List Nat) (w : World) (h : BRow w ao cap l) (h' : BRow w bo cap' l) (hk : l.length = k) :
    Calls Tryd.prog 47 #[.agg #[.int .u32 (x0 : Int), .int .u32 (x1 : Int), .slice ao k cap], .agg #[.int .u32 (x0 : Int), .int .u32 (x1 : Int), .slice bo k cap']] w fun e w' => e = .returned (.bool true) ∧ Below w.heap.size w w' := by
  obtain ⟨W0, hW0⟩ : ∃ W0, W0 = ((w.alloc (.cells #[.int .u32 (x0 : Int), .int .u32 (x1 : Int), .slice ao k cap] 57)).alloc (.cells #[.int .u32 (x0 : Int), .int .u32 (x1 : Int), .slice bo k cap'] 57)) := ⟨_, rfl⟩
  have hB : Below w.heap.size w W0 := by rw [hW0]; exact bx2_bel w _ _
  have HS : Hid (Calls Tryd.prog 18 #[.slice ao k cap, .slice bo k cap'] W0 fun e w' => e = .returned (.bool true) ∧ Below W0.heap.size W0 w') := same8_true ao bo cap cap' k l W0 (h.later hB) (h'.later hB) hk
  have HB : Hid (Below w.heap.size w W0) := hB
  clear h h' hk hB
  go_enter Tryd.func47, Tryd.ntmps47
  go_wp2_with fail
  rw [← hW0]
  refine HS.out.mono ?_
  rintro e w1 ⟨rfl, hb⟩
  have HB1 : Hid (Below w.heap.size w w1) := HB.out.trans (hb.mono HB.out.size)
  clear hb HS hW0
  go_wp2
  go_ret
  exact ⟨rfl, HB1.out⟩
set_option maxHeartbeats 4000000 in
theorem sameReq (x0 x1 x2 x3 x4 : Nat) (ao bo : Option Addr) (cap cap' k : Nat) (l : List Nat) (w : World) (h : BRow w ao cap l) (h' : BRow w bo cap' l) (hk : l.length = k) :
    Calls Tryd.prog 50 #[.agg #[.int .u16 (x0 : Int), .int .u16 (x1 : Int), .int .u64 (x2 : Int), .int .u64 (x3 : Int), .int .u64 (x4 : Int), .slice ao k cap], .agg #[.int .u16 (x0 : Int), .int .u16 (x1 : Int), .int .u64 (x2 : Int), .int .u64 (x3 : Int), .int .u64 (x4 : Int), .slice bo k cap']] w fun e w' => e = .returned (.bool true) ∧ Below w.heap.size w w' := by
  obtain ⟨W0, hW0⟩ : ∃ W0, W0 = ((w.alloc (.cells #[.int .u16 (x0 : Int), .int .u16 (x1 : Int), .int .u64 (x2 : Int), .int .u64 (x3 : Int), .int .u64 (x4 : Int), .slice ao k cap] 59)).alloc (.cells #[.int .u16 (x0 : Int), .int .u16 (x1 : Int), .int .u64 (x2 : Int), .int .u64 (x3 : Int), .int .u64 (x4 : Int), .slice bo k cap'] 59)) := ⟨_, rfl⟩
  have hB : Below w.heap.size w W0 := by rw [hW0]; exact bx2_bel w _ _
  have HS : Hid (Calls Tryd.prog 18 #[.slice ao k cap, .slice bo k cap'] W0 fun e w' => e = .returned (.bool true) ∧ Below W0.heap.size W0 w') := same8_true ao bo cap cap' k l W0 (h.later hB) (h'.later hB) hk
  have HB : Hid (Below w.heap.size w W0) := hB
  clear h h' hk hB
  go_enter Tryd.func50, Tryd.ntmps50
  go_wp2_with fail
  rw [← hW0]
  refine HS.out.mono ?_
  rintro e w1 ⟨rfl, hb⟩
  have HB1 : Hid (Below w.heap.size w w1) := HB.out.trans (hb.mono HB.out.size)
  clear hb HS hW0
  go_wp2
  go_ret
  exact ⟨rfl, HB1.out⟩
set_option maxHeartbeats 4000000 in
theorem sameChk (x0 x1 x2 x3 : Nat) (ao bo : Option Addr) (cap cap' k : Nat) (l : List Nat) (w : World) (h : BRow w ao cap l) (h' : BRow w bo cap' l) (hk : l.length = k) :
    Calls Tryd.prog 53 #[.agg #[.int .u16 (x0 : Int), .int .u16 (x1 : Int), .int .u64 (x2 : Int), .int .u64 (x3 : Int), .slice ao k cap], .agg #[.int .u16 (x0 : Int), .int .u16 (x1 : Int), .int .u64 (x2 : Int), .int .u64 (x3 : Int), .slice bo k cap']] w fun e w' => e = .returned (.bool true) ∧ Below w.heap.size w w' := by
  obtain ⟨W0, hW0⟩ : ∃ W0, W0 = ((w.alloc (.cells #[.int .u16 (x0 : Int), .int .u16 (x1 : Int), .int .u64 (x2 : Int), .int .u64 (x3 : Int), .slice ao k cap] 61)).alloc (.cells #[.int .u16 (x0 : Int), .int .u16 (x1 : Int), .int .u64 (x2 : Int), .int .u64 (x3 : Int), .slice bo k cap'] 61)) := ⟨_, rfl⟩
  have hB : Below w.heap.size w W0 := by rw [hW0]; exact bx2_bel w _ _
  have HS : Hid (Calls Tryd.prog 18 #[.slice ao k cap, .slice bo k cap'] W0 fun e w' => e = .returned (.bool true) ∧ Below W0.heap.size W0 w') := same8_true ao bo cap cap' k l W0 (h.later hB) (h'.later hB) hk
  have HB : Hid (Below w.heap.size w W0) := hB
  clear h h' hk hB
  go_enter Tryd.func53, Tryd.ntmps53
  go_wp2_with fail
  rw [← hW0]
  refine HS.out.mono ?_
  rintro e w1 ⟨rfl, hb⟩
  have HB1 : Hid (Below w.heap.size w w1) := HB.out.trans (hb.mono HB.out.size)
  clear hb HS hW0
  go_wp2
  go_ret
  exact ⟨rfl, HB1.out⟩
theorem fits_yes (ao : Option Addr) (cap k most : Nat) (w : World) (hk : k ≤ 1048576) (hm4 : most < 4294967296) (h : k ≤ most) : Calls Tryd.prog 54 #[.slice ao k cap, .int .u32 (most : Int)] w fun e w' => e = .returned (.bool true) ∧ w' = w := by
  have hw : IntKind.u64.wrap (k : Int) = (k : Int) := by rw [IntKind.wrap_u64]; omega
  have hwm : IntKind.u64.wrap (most : Int) = (most : Int) := by rw [IntKind.wrap_u64]; omega
  have ht : decide (k ≤ most) = true := by simp; omega
  clear hk h hm4
  go_enter Tryd.func54, Tryd.ntmps54
  go_wp2
  go_ret
  exact ⟨rfl, rfl⟩
theorem fits_no (ao : Option Addr) (cap k most : Nat) (w : World) (hk : k ≤ 1048576) (hm4 : most < 4294967296) (h : most < k) : Calls Tryd.prog 54 #[.slice ao k cap, .int .u32 (most : Int)] w fun e w' => e = .returned (.bool false) ∧ w' = w := by
  have hw : IntKind.u64.wrap (k : Int) = (k : Int) := by rw [IntKind.wrap_u64]; omega
  have hwm : IntKind.u64.wrap (most : Int) = (most : Int) := by rw [IntKind.wrap_u64]; omega
  have ht : decide (k ≤ most) = false := by simp; omega
  clear hk h hm4
  go_enter Tryd.func54, Tryd.ntmps54
  go_wp2
  go_ret
  exact ⟨rfl, rfl⟩
end Go.Proofs.YtjhickfjagalfaaDoor
