import Derived.Test.YtjhickfjagalfabDoorQ26
import Derived.Test.YtjhickfjagalfabDoorQ27
import Derived.Test.YtjhickfjagalfabDoorQ32
import Derived.Test.YtjhickfjagalfabDoorQ33
import Derived.Test.YtjhickfjagalfabDoorQ34
import Derived.Test.YtjhickfjagalfabDoorQ35
import Derived.Test.YtjhickfjagalfabDoorQ36
import Derived.Test.YtjhickfjagalfabDoorQ43
import Derived.Test.YtjhickfjagalfabDoorQ44
import Derived.Test.YtjhickfjagalfabDoorQ45
import Derived.Test.YtjhickfjagalfabDoorQ46
namespace Go.Proofs.YtjhickfjagalfabDoor
open Go.RowKit
set_option linter.unusedVariables false
set_option linter.unusedSimpArgs false
set_option maxRecDepth 100000
theorem told_any (k : Nat) (hk : k < 11) (ao : Option Addr) (cap : Nat) (l : List Nat) (most : Nat) (w : World) (h : CRow w ao cap l) (hn : l.length ≤ 1048576) (hm4 : most < 4294967296) :
    Calls Tryd.prog 8 #[.int .i64 (k : Int), .slice ao l.length cap, .int .u32 (most : Int)] w fun e w' => ∃ (N E : Nat) (m : List Nat) (ao3 : Option Addr) (cap3 : Nat), e = .returned (.agg #[.int .i64 (N : Int), .int .i64 (E : Int), .slice ao3 m.length cap3]) ∧ toD k most l = (N, E, m) ∧ Row w w' ao3 cap3 m := by
  have hc : k = 0 ∨ k = 1 ∨ k = 2 ∨ k = 3 ∨ k = 4 ∨ k = 5 ∨ k = 6 ∨ k = 7 ∨ k = 8 ∨ k = 9 ∨ k = 10 := by omega
  rcases hc with rfl | rfl | rfl | rfl | rfl | rfl | rfl | rfl | rfl | rfl | rfl
  · exact told0 ao cap l most w h hn hm4
  · exact told1 ao cap l most w h hn hm4
  · exact told2 ao cap l most w h hn hm4
  · exact told3 ao cap l most w h hn hm4
  · exact told4 ao cap l most w h hn hm4
  · exact told5 ao cap l most w h hn hm4
  · exact told6 ao cap l most w h hn hm4
  · exact told7 ao cap l most w h hn hm4
  · exact told8 ao cap l most w h hn hm4
  · exact told9 ao cap l most w h hn hm4
  · exact told10 ao cap l most w h hn hm4
set_option maxHeartbeats 400000 in
theorem same8_q (ao bo : Option Addr) (cap cap' n : Nat) (l : List Nat) (w : World) (h : BRow w ao cap l) (h' : BRow w bo cap' l) (hn : l.length = n) :
    Calls Tryd.prog 10 #[.slice ao n cap, .slice bo n cap'] w fun e w' => e = .returned (.bool true) ∧ ∃ q, w' = w.drewN q := by
  have H1 : Hid (Calls Tryd.prog 109 #[.slice ao n cap, .slice bo n cap'] w fun e w' => e = .returned (.bool true) ∧ ∃ q, w' = w.drewN q) := by
    have := same_any ao bo cap cap' l l w h h'
    rw [hn] at this
    simp at this
    exact this
  clear h h'
  have H2 : Hid (Calls Tryd.prog 46 #[.slice ao n cap, .slice bo n cap'] w fun e w' => e = .returned (.bool true) ∧ ∃ q, w' = w.drewN q) := by
    show Calls _ _ _ _ _
    go_enter Tryd.func46, Tryd.ntmps46
    go_wp2_with fail
    refine H1.out.mono ?_
    rintro e w1 ⟨rfl, q, hw⟩
    rw [hw]; clear hw
    go_wp2
    go_ret
    exact ⟨rfl, q, rfl⟩
  clear H1
  go_enter Tryd.func10, Tryd.ntmps10
  go_wp2_with fail
  refine H2.out.mono ?_
  rintro e w1 ⟨rfl, q, hw⟩
  rw [hw]; clear hw
  go_wp2
  go_ret
  exact ⟨rfl, q, rfl⟩
end Go.Proofs.YtjhickfjagalfabDoor
