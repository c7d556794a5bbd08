import Derived.Test.YtpchllepboolhabRAl
import Derived.Test.YtpchllepboolhabROI
import Derived.Test.YtpchllepboolhabRCHI
namespace Go.Proofs.Ytpchllepboolhab.I
open Go.RowKit Go.Maps
attribute [local go_sem] Oper.semAt_some
set_option linter.unusedVariables false
set_option linter.unusedSimpArgs false
set_option maxRecDepth 100000

theorem Act.below {w w' : World} {bo bm g : Nat} {L L' : List Ent} (h : Act w w' bo bm g L L') {B : Nat} (hB : ∀ i ∈ fp bo bm g L, B ≤ i) (hw : B ≤ w.heap.size) : Below B w w' ∧ ∀ i ∈ fp bo bm g L', B ≤ i :=
  ⟨h.kp.below hB hw, fun i hi => (h.sub i hi).elim (hB i) (fun h => by omega)⟩
end Go.Proofs.Ytpchllepboolhab.I
