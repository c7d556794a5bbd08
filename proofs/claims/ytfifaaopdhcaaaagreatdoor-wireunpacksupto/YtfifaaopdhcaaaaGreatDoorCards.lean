/-
  DERIVED. GIVEN WITH THE SEED: THE CARDS: each row of YtfifaaopdhcaaaaGreatDoorRows.lean that lists a variable, with what it lists TIED to the program's text (the seventh form; the later family's looks); each row that meets fmt, with fmt's text TOLD by the authors' own Lean function (tested against real Go, not proved from fmt's source: count such statements apart). THE CARD IS WHAT COUNTS. Prove the row's statement (the work); the ties are given (YtfifaaopdhcaaaaGreatDoorTie.lean); close each card by the builder's one call (the guide's Derived/Test/ToyasCard.lean, 'card_holds'). Laid BY PROGRAM, IN A SANDBOX (cutbox-door.mjs). By AI agents, Wed Nov 11 2026. No macro, syntax, notation, axiom, sorry.
-/
import Derived.Test.YtfifaaopdhcaaaaGreatDoorRows
import GoSem.ClaimSeven
namespace Go.Proofs.YtfifaaopdhcaaaaGreatDoor
namespace Rows

/-- THE TIED CARD OF 'spindlelaw08.WireUnpacks'. -/
def wireUnpacksCard : Claim7 := { stood := { row := wireUnpacksRow, standIns := [], harness := (true, "74805993007dfb5f9720d348a25b0f0273f60200838ab8cbeac8f217a68d8eca"), looks := false }, kinds := [], alts := [], laidByText := true, laidKinds := [.data, .data, .data, .pinned], laidTests := true, laidLooks := .later }
def WireUnpacksCardSaid : Prop := Claim7.holds Tryz.pinned (.plain (OpenSpec.ofChange wireUnpacksSpec)) wireUnpacksCard

/-- THE SECOND FORM's CARD OF 'spindlelaw08.WireUnpacks'. -/
def wireUnpacksUptoCard : Claim7 := { stood := { row := wireUnpacksUptoRow, standIns := [], harness := (true, "74805993007dfb5f9720d348a25b0f0273f60200838ab8cbeac8f217a68d8eca"), looks := false }, kinds := [], alts := [], laidByText := true, laidKinds := [.data, .data, .data, .pinned], laidTests := true, laidLooks := .later }
def WireUnpacksUptoCardSaid : Prop := Claim7.holds Tryz.pinned (.plain (OpenSpec.upto wireUnpacksSpec)) wireUnpacksUptoCard
end Rows
end Go.Proofs.YtfifaaopdhcaaaaGreatDoor
