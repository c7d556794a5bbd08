import Derived.Test.YtjhickfjagalfabDoorQ50
import Derived.Test.YtjhickfjagalfabDoorQ51
namespace Go.Proofs.YtjhickfjagalfabDoor
open Go.RowKit
set_option linter.unusedVariables false
set_option linter.unusedSimpArgs false
set_option maxRecDepth 100000
theorem wirePieces_any (ao : Option Addr) (cap : Nat) (l : List Nat) (most : Nat) (z : Int) (w : World) (hT : Tb w) (h : CRow w ao cap l) (hn : l.length ≤ 1048576) (hm4 : most < 4294967296) :
    Calls Tryd.prog 4 #[.slice ao l.length cap, .int .u32 (most : Int), .int .i64 z] w fun e w' => e = .returned (.bool true) ∧ Below w.heap.size w w' := by
  by_cases hz : z < 0 ∨ (l.length : Int) < z
  · exact wirePieces_out ao cap l.length most z w hT hz
  obtain ⟨cut, rfl⟩ := Int.eq_ofNat_of_zero_le (show 0 ≤ z by omega)
  have hc : cut ≤ l.length := by omega
  cases ao with
  | some ad => exact wirePieces_some ad cap l most cut w hT h hn hm4 hc
  | none =>
    obtain ⟨rfl, rfl⟩ := h.row.nil rfl
    obtain rfl : cut = 0 := by simpa using hc
    exact wirePieces_none most w hT hm4
end Go.Proofs.YtjhickfjagalfabDoor
