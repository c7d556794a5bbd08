import Derived.Test.YtfifaaopdhcaaaaGreatDoorY41
import Derived.Test.YtfifaaopdhcaaaaGreatDoorY42
import Derived.Test.YtfifaaopdhcaaaaGreatDoorY50
import Derived.Test.YtfifaaopdhcaaaaGreatDoorY29
import Derived.Test.YtfifaaopdhcaaaaGreatDoorY38
namespace Go.Proofs.YtfifaaopdhcaaaaGreatDoor
open Go.RowKit
set_option linter.unusedVariables false
set_option linter.unusedSimpArgs false
set_option maxRecDepth 100000
set_option maxHeartbeats 1000000 in
theorem same9 (ao bo : Option Addr) (cap cap' n : Nat) (l : List Nat) (w : World) (h : BRow w ao cap l) (h' : BRow w bo cap' l) (hn : l.length = n) :
    Calls Tryz.prog 19 #[.slice ao n cap, .slice bo n cap'] w fun e w' => e = .returned (.bool true) ∧ Below w.heap.size w w' := by
  have HS : Hid _ := same08_any ao bo cap cap' n n l l w h h' hn hn
  clear h h' hn
  go_enter Tryz.func19, Tryz.ntmps19
  go_wp2_with fail
  refine Calls.mono HS.out ?_
  rintro e W1 ⟨rfl, hb⟩
  go_wp2
  go_ret
  exact ⟨by simp, hb⟩
/-- the law while it goes on: the twin, and what it was made of -/
structure Lw (w W : World) (g : Nat) (ao : Option Addr) (cap : Nat) (l : List Nat) : Prop where
  bel : Below w.heap.size w W
  tw : W.heap[g]? = some (.cells ((tw l).map bv).toArray 5 (0, 0))
theorem both_error (placed : Bool) (l : List Nat) (hl : ∀ x ∈ l, x < 256) (hs : l.length ≤ 1048576) : ∃ (c : Nat) (s : ByteArray) (pl : Bool) (a er : Nat),
    (∀ W ao cap n, BRow W ao cap l → l.length = n → Tabs W → Calls Tryz.prog 23 #[.slice ao n cap, .bool placed] W fun e w' => e = .returned (.tuple #[.agg #[.int .u32 (c : Int), .string s, .bool pl, .int .u64 (a : Int)], .int .i64 (er : Int)]) ∧ Below W.heap.size W w') ∧
    (∀ W ao cap n, CRow W ao cap l → l.length = n → Calls Tryz.prog 24 #[.slice ao n cap, .bool placed] W fun e w' => e = .returned (.tuple #[.agg #[.int .u32 (c : Int), .string s, .bool pl, .int .u64 (a : Int)], .int .i64 (er : Int)]) ∧ Below W.heap.size W w') := by
  cases placed
  · exact both_error0 l hl hs
  · exact both_error1 l hl hs
theorem Lw.later {w W V : World} {g : Nat} {ao : Option Addr} {cap : Nat} {l : List Nat} (h : Lw w W g ao cap l) (k : Below W.heap.size W V) : Lw w V g ao cap l := ⟨h.bel.trans (k.mono h.bel.size), box_later h.tw k⟩
end Go.Proofs.YtfifaaopdhcaaaaGreatDoor
