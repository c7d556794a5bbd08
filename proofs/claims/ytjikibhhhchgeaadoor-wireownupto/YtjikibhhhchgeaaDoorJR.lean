import Derived.Test.YtjikibhhhchgeaaDoorJG
namespace Go.Proofs.YtjikibhhhchgeaaDoor
open Go.RowKit
set_option linter.unusedVariables false
set_option linter.unusedSimpArgs false
set_option maxRecDepth 100000

/-- has a request a payload? -/
def payB (f t : Nat) (ext : Bool) : Bool := if ext = true then (bits .and .u16 (f : Int) 32 != 0) else ((t : Int) == 1)
/-- may a request be laid down? -/
def fitB (f t n k : Nat) (ext : Bool) : Bool := (ext || decide (n ≤ 4294967295)) && (if payB f t ext = true then decide (n = k) else decide (k = 0))
end Go.Proofs.YtjikibhhhchgeaaDoor
