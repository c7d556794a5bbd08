import Derived.Test.YtckfmpoddmccfaaJR
import Derived.Test.YtckfmpoddmccfaaJI
namespace Go.Proofs.Ytckfmpoddmccfaa
open Go.RowKit
set_option linter.unusedVariables false
set_option linter.unusedSimpArgs false
set_option maxRecDepth 100000
/-- the number of k bytes at a place -/
def vl (l : List Nat) (a k : Nat) : Nat := valB ((l.drop a).take k)
theorem vl_lt {w : World} {ao : Option Addr} {cap : Nat} {l : List Nat} (h : CRow w ao cap l) (a k : Nat) : vl l a k < 256 ^ k := valB_bound l a k h.row.lt
def greD (l : List Nat) : Nat × Nat × Nat :=
  if l.length < 18 then (0, 18, 10) else if vl l 0 8 ≠ mInit then (0, 0, 80) else if vl l 8 8 ≠ mHave then (0, 0, 80) else (vl l 16 2, 18, 0)
def flaD (l : List Nat) : Nat × Nat × Nat := if l.length < 4 then (0, 4, 10) else (vl l 0 4, 4, 0)
/-- how many bytes an answer to EXPORT_NAME has -/
def xz (z : Bool) : Nat := if z = true then 134 else 10
/-- are the bytes behind the tenth zeros? -/
def xzs (z : Bool) (l : List Nat) : Bool := ((l.take (xz z)).drop 10).all (· == 0)
def expD (z : Bool) (l : List Nat) : (Nat × Nat) × Nat × Nat :=
  if l.length < xz z then ((0, 0), xz z, 10) else if xzs z l = false then ((0, 0), 0, 81) else ((vl l 0 8, vl l 8 2), xz z, 0)
def simD (l : List Nat) : (Nat × Nat) × Nat × Nat :=
  if l.length < 16 then ((0, 0), 16, 10) else if vl l 0 4 ≠ mSimple then ((0, 0), 0, 80) else ((vl l 4 4, vl l 8 8), 16, 0)
def optD (most : Nat) (l : List Nat) : (Nat × Nat × Bool × List Nat) × Nat × Nat :=
  if l.length < 16 then ((0, 0, false, []), 16, 10)
  else if vl l 0 8 ≠ mHave then ((0, 0, false, []), 0, 80)
  else if most < vl l 12 4 then ((vl l 8 4, vl l 12 4, true, []), 16, 12)
  else if l.length < 16 + vl l 12 4 then ((0, 0, false, []), 16 + vl l 12 4, 10)
  else ((vl l 8 4, vl l 12 4, false, (l.drop 16).take (vl l 12 4)), 16 + vl l 12 4, 0)
def repD (most : Nat) (l : List Nat) : (Nat × Nat × List Nat) × Nat × Nat :=
  if l.length < 20 then ((0, 0, []), 20, 10)
  else if vl l 0 8 ≠ mReply then ((0, 0, []), 0, 80)
  else if most < vl l 16 4 then ((vl l 8 4, vl l 12 4, []), 20, 12)
  else if l.length < 20 + vl l 16 4 then ((0, 0, []), 20 + vl l 16 4, 10)
  else ((vl l 8 4, vl l 12 4, (l.drop 20).take (vl l 16 4)), 20 + vl l 16 4, 0)
def qz (ext : Bool) : Nat := if ext = true then 32 else 28
def qm (ext : Bool) : Nat := if ext = true then mReq64 else mReq
def qk (ext : Bool) : Nat := if ext = true then 8 else 4
def reqD (most : Nat) (ext : Bool) (l : List Nat) : (Nat × Nat × Nat × Nat × Nat × List Nat) × Nat × Nat :=
  if l.length < qz ext then ((0, 0, 0, 0, 0, []), qz ext, 10)
  else if vl l 0 4 ≠ qm ext then ((0, 0, 0, 0, 0, []), 0, 80)
  else if payB (vl l 4 2) (vl l 6 2) ext = false then ((vl l 4 2, vl l 6 2, vl l 8 8, vl l 16 8, vl l 24 (qk ext), []), qz ext, 0)
  else if most < vl l 24 (qk ext) then ((vl l 4 2, vl l 6 2, vl l 8 8, vl l 16 8, vl l 24 (qk ext), []), qz ext, 12)
  else if l.length < qz ext + vl l 24 (qk ext) then ((0, 0, 0, 0, 0, []), qz ext + vl l 24 (qk ext), 10)
  else ((vl l 4 2, vl l 6 2, vl l 8 8, vl l 16 8, vl l 24 (qk ext), (l.drop (qz ext)).take (vl l 24 (qk ext))), qz ext + vl l 24 (qk ext), 0)
def cz (ext : Bool) : Nat := if ext = true then 32 else 20
def cm (ext : Bool) : Nat := if ext = true then mChunk64 else mChunk
def cof (ext : Bool) (l : List Nat) : Nat := if ext = true then vl l 16 8 else 0
def cln (ext : Bool) (l : List Nat) : Nat := if ext = true then vl l 24 8 else vl l 16 4
def chkD (most : Nat) (ext : Bool) (l : List Nat) : (Nat × Nat × Nat × Nat × List Nat) × Nat × Nat :=
  if l.length < cz ext then ((0, 0, 0, 0, []), cz ext, 10)
  else if vl l 0 4 ≠ cm ext then ((0, 0, 0, 0, []), 0, 80)
  else if most < cln ext l then ((vl l 4 2, vl l 6 2, vl l 8 8, cof ext l, []), cz ext, 12)
  else if l.length < cz ext + cln ext l then ((0, 0, 0, 0, []), cz ext + cln ext l, 10)
  else ((vl l 4 2, vl l 6 2, vl l 8 8, cof ext l, (l.drop (cz ext)).take (cln ext l)), cz ext + cln ext l, 0)
end Go.Proofs.Ytckfmpoddmccfaa
