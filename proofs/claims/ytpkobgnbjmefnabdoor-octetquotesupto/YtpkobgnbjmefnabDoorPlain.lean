import Derived.Test.YtpkobgnbjmefnabDoorPlainW
namespace Go.Proofs.YtpkobgnbjmefnabDoor
open Go.RowKit
theorem Tabs.later {w w' : World} (h : Tabs w) (hb : Below w.heap.size w w') : Tabs w' :=
  ⟨fun c hc => cell_later hb (h.1 c hc), fun i hi => ⟨cell_later hb (h.2 i hi).1, cell_later hb (h.2 i hi).2⟩⟩
end Go.Proofs.YtpkobgnbjmefnabDoor
