/-
  DERIVED. GIVEN WITH THE SEED: THE CARDS: each row of YtjhickfjagalfaaDoorRows.lean that lists a variable, with what it lists TIED to the program's text (the seventh form; the later family's looks); each row that meets fmt, with fmt's text TOLD by the authors' own Lean function (tested against real Go, not proved from fmt's source: count such statements apart). THE CARD IS WHAT COUNTS. Prove the row's statement (the work); the ties are given (YtjhickfjagalfaaDoorTie.lean); close each card by the builder's one call (the guide's Derived/Test/ToyasCard.lean, 'card_holds'). Laid BY PROGRAM, IN A SANDBOX (cutbox-door.mjs). By AI agents, Wed Nov 11 2026. No macro, syntax, notation, axiom, sorry.
-/
import Derived.Test.YtjhickfjagalfaaDoorRows
import GoSem.ClaimSeven
namespace Go.Proofs.YtjhickfjagalfaaDoor
namespace Rows

/-- THE TIED CARD OF 'spindlelaw08.WireTables'. -/
def wireTablesCard : Claim7 := { stood := { row := wireTablesRow, standIns := [], harness := (true, "4b8166cda59d9eacfaa32a365a41d894e6445799ee25817051c081b24feb0cb3"), looks := false }, kinds := [], alts := [], laidByText := true, laidKinds := [.data, .data], laidTests := true, laidLooks := .later }
def WireTablesCardSaid : Prop := Claim7.holds Tryd.pinned (.plain (OpenSpec.ofChange wireTablesSpec)) wireTablesCard

/-- THE TIED CARD OF 'spindlelaw08.WireNamed'. -/
def wireNamedCard : Claim7 := { stood := { row := wireNamedRow, standIns := [], harness := (true, "4b8166cda59d9eacfaa32a365a41d894e6445799ee25817051c081b24feb0cb3"), looks := false }, kinds := [], alts := [], laidByText := true, laidKinds := [.data, .data], laidTests := true, laidLooks := .later }
def WireNamedCardSaid : Prop := Claim7.holds Tryd.pinned (.plain (OpenSpec.ofChange wireNamedSpec)) wireNamedCard

/-- THE TIED CARD OF 'spindlelaw08.WireFixed'. -/
def wireFixedCard : Claim7 := { stood := { row := wireFixedRow, standIns := [], harness := (true, "4b8166cda59d9eacfaa32a365a41d894e6445799ee25817051c081b24feb0cb3"), looks := false }, kinds := [], alts := [], laidByText := true, laidKinds := [.data, .data], laidTests := true, laidLooks := .later }
def WireFixedCardSaid : Prop := Claim7.holds Tryd.pinned (.plain (OpenSpec.ofChange wireFixedSpec)) wireFixedCard

/-- THE TIED CARD OF 'spindlelaw08.WireEncodes'. -/
def wireEncodesCard : Claim7 := { stood := { row := wireEncodesRow, standIns := [], harness := (true, "4b8166cda59d9eacfaa32a365a41d894e6445799ee25817051c081b24feb0cb3"), looks := false }, kinds := [], alts := [], laidByText := true, laidKinds := [.data, .data], laidTests := true, laidLooks := .later }
def WireEncodesCardSaid : Prop := Claim7.holds Tryd.pinned (.plain (OpenSpec.ofChange wireEncodesSpec)) wireEncodesCard

/-- THE TIED CARD OF 'spindlelaw08.WireDecodes'. -/
def wireDecodesCard : Claim7 := { stood := { row := wireDecodesRow, standIns := [], harness := (true, "4b8166cda59d9eacfaa32a365a41d894e6445799ee25817051c081b24feb0cb3"), looks := false }, kinds := [], alts := [], laidByText := true, laidKinds := [.data, .data], laidTests := true, laidLooks := .later }
def WireDecodesCardSaid : Prop := Claim7.holds Tryd.pinned (.plain (OpenSpec.ofChange wireDecodesSpec)) wireDecodesCard

/-- THE TIED CARD OF 'spindlelaw08.WireBack'. -/
def wireBackCard : Claim7 := { stood := { row := wireBackRow, standIns := [], harness := (true, "4b8166cda59d9eacfaa32a365a41d894e6445799ee25817051c081b24feb0cb3"), looks := false }, kinds := [], alts := [], laidByText := true, laidKinds := [.data, .data], laidTests := true, laidLooks := .later }
def WireBackCardSaid : Prop := Claim7.holds Tryd.pinned (.plain (OpenSpec.ofChange wireBackSpec)) wireBackCard

/-- THE SECOND FORM's CARD OF 'spindlelaw08.WireTables'. -/
def wireTablesUptoCard : Claim7 := { stood := { row := wireTablesUptoRow, standIns := [], harness := (true, "4b8166cda59d9eacfaa32a365a41d894e6445799ee25817051c081b24feb0cb3"), looks := false }, kinds := [], alts := [], laidByText := true, laidKinds := [.data, .data], laidTests := true, laidLooks := .later }
def WireTablesUptoCardSaid : Prop := Claim7.holds Tryd.pinned (.plain (OpenSpec.upto wireTablesSpec)) wireTablesUptoCard

/-- THE SECOND FORM's CARD OF 'spindlelaw08.WireNamed'. -/
def wireNamedUptoCard : Claim7 := { stood := { row := wireNamedUptoRow, standIns := [], harness := (true, "4b8166cda59d9eacfaa32a365a41d894e6445799ee25817051c081b24feb0cb3"), looks := false }, kinds := [], alts := [], laidByText := true, laidKinds := [.data, .data], laidTests := true, laidLooks := .later }
def WireNamedUptoCardSaid : Prop := Claim7.holds Tryd.pinned (.plain (OpenSpec.upto wireNamedSpec)) wireNamedUptoCard

/-- THE SECOND FORM's CARD OF 'spindlelaw08.WireFixed'. -/
def wireFixedUptoCard : Claim7 := { stood := { row := wireFixedUptoRow, standIns := [], harness := (true, "4b8166cda59d9eacfaa32a365a41d894e6445799ee25817051c081b24feb0cb3"), looks := false }, kinds := [], alts := [], laidByText := true, laidKinds := [.data, .data], laidTests := true, laidLooks := .later }
def WireFixedUptoCardSaid : Prop := Claim7.holds Tryd.pinned (.plain (OpenSpec.upto wireFixedSpec)) wireFixedUptoCard

/-- THE SECOND FORM's CARD OF 'spindlelaw08.WireEncodes'. -/
def wireEncodesUptoCard : Claim7 := { stood := { row := wireEncodesUptoRow, standIns := [], harness := (true, "4b8166cda59d9eacfaa32a365a41d894e6445799ee25817051c081b24feb0cb3"), looks := false }, kinds := [], alts := [], laidByText := true, laidKinds := [.data, .data], laidTests := true, laidLooks := .later }
def WireEncodesUptoCardSaid : Prop := Claim7.holds Tryd.pinned (.plain (OpenSpec.upto wireEncodesSpec)) wireEncodesUptoCard

/-- THE SECOND FORM's CARD OF 'spindlelaw08.WireDecodes'. -/
def wireDecodesUptoCard : Claim7 := { stood := { row := wireDecodesUptoRow, standIns := [], harness := (true, "4b8166cda59d9eacfaa32a365a41d894e6445799ee25817051c081b24feb0cb3"), looks := false }, kinds := [], alts := [], laidByText := true, laidKinds := [.data, .data], laidTests := true, laidLooks := .later }
def WireDecodesUptoCardSaid : Prop := Claim7.holds Tryd.pinned (.plain (OpenSpec.upto wireDecodesSpec)) wireDecodesUptoCard

/-- THE SECOND FORM's CARD OF 'spindlelaw08.WireBack'. -/
def wireBackUptoCard : Claim7 := { stood := { row := wireBackUptoRow, standIns := [], harness := (true, "4b8166cda59d9eacfaa32a365a41d894e6445799ee25817051c081b24feb0cb3"), looks := false }, kinds := [], alts := [], laidByText := true, laidKinds := [.data, .data], laidTests := true, laidLooks := .later }
def WireBackUptoCardSaid : Prop := Claim7.holds Tryd.pinned (.plain (OpenSpec.upto wireBackSpec)) wireBackUptoCard
end Rows
end Go.Proofs.YtjhickfjagalfaaDoor
