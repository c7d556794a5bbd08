/-
  DERIVED. GIVEN WITH THE SEED: THE CARDS: each row of YtjikibhhhchgeaaDoorRows.lean that lists a variable, with what it lists TIED to the program's text (the seventh form; the later family's looks); each row that meets fmt, with fmt's text TOLD by the authors' own Lean function (tested against real Go, not proved from fmt's source: count such statements apart). THE CARD IS WHAT COUNTS. Prove the row's statement (the work); the ties are given (YtjikibhhhchgeaaDoorTie.lean); close each card by the builder's one call (the guide's Derived/Test/ToyasCard.lean, 'card_holds'). Laid BY PROGRAM, IN A SANDBOX (cutbox-door.mjs). By AI agents, Wed Nov 11 2026. No macro, syntax, notation, axiom, sorry.
-/
import Derived.Test.YtjikibhhhchgeaaDoorRows
import GoSem.ClaimSeven
namespace Go.Proofs.YtjikibhhhchgeaaDoor
namespace Rows

/-- THE TIED CARD OF 'spindlelaw08.WirePacks'. -/
def wirePacksCard : Claim7 := { stood := { row := wirePacksRow, standIns := [], harness := (true, "05b3cecd61005be1c341d84976b330492f77d493a0ac0986e99bb79107a35507"), looks := false }, kinds := [], alts := [], laidByText := true, laidKinds := [.data, .data, .data, .pinned], laidTests := true, laidLooks := .later }
def WirePacksCardSaid : Prop := Claim7.holds Tryd.pinned (.plain (OpenSpec.ofChange wirePacksSpec)) wirePacksCard

/-- THE TIED CARD OF 'spindlelaw08.WireThere'. -/
def wireThereCard : Claim7 := { stood := { row := wireThereRow, standIns := [], harness := (true, "05b3cecd61005be1c341d84976b330492f77d493a0ac0986e99bb79107a35507"), looks := false }, kinds := [], alts := [], laidByText := true, laidKinds := [.data, .data, .data, .pinned], laidTests := true, laidLooks := .later }
def WireThereCardSaid : Prop := Claim7.holds Tryd.pinned (.plain (OpenSpec.ofChange wireThereSpec)) wireThereCard

/-- THE TIED CARD OF 'spindlelaw08.WireHere'. -/
def wireHereCard : Claim7 := { stood := { row := wireHereRow, standIns := [], harness := (true, "05b3cecd61005be1c341d84976b330492f77d493a0ac0986e99bb79107a35507"), looks := false }, kinds := [], alts := [], laidByText := true, laidKinds := [.data, .data, .data, .pinned], laidTests := true, laidLooks := .later }
def WireHereCardSaid : Prop := Claim7.holds Tryd.pinned (.plain (OpenSpec.ofChange wireHereSpec)) wireHereCard

/-- THE TIED CARD OF 'spindlelaw08.WireOwn'. -/
def wireOwnCard : Claim7 := { stood := { row := wireOwnRow, standIns := [], harness := (true, "05b3cecd61005be1c341d84976b330492f77d493a0ac0986e99bb79107a35507"), looks := false }, kinds := [], alts := [], laidByText := true, laidKinds := [.data, .data], laidTests := true, laidLooks := .later }
def WireOwnCardSaid : Prop := Claim7.holds Tryd.pinned (.plain (OpenSpec.ofChange wireOwnSpec)) wireOwnCard

/-- THE SECOND FORM's CARD OF 'spindlelaw08.WirePacks'. -/
def wirePacksUptoCard : Claim7 := { stood := { row := wirePacksUptoRow, standIns := [], harness := (true, "05b3cecd61005be1c341d84976b330492f77d493a0ac0986e99bb79107a35507"), looks := false }, kinds := [], alts := [], laidByText := true, laidKinds := [.data, .data, .data, .pinned], laidTests := true, laidLooks := .later }
def WirePacksUptoCardSaid : Prop := Claim7.holds Tryd.pinned (.plain (OpenSpec.upto wirePacksSpec)) wirePacksUptoCard

/-- THE SECOND FORM's CARD OF 'spindlelaw08.WireThere'. -/
def wireThereUptoCard : Claim7 := { stood := { row := wireThereUptoRow, standIns := [], harness := (true, "05b3cecd61005be1c341d84976b330492f77d493a0ac0986e99bb79107a35507"), looks := false }, kinds := [], alts := [], laidByText := true, laidKinds := [.data, .data, .data, .pinned], laidTests := true, laidLooks := .later }
def WireThereUptoCardSaid : Prop := Claim7.holds Tryd.pinned (.plain (OpenSpec.upto wireThereSpec)) wireThereUptoCard

/-- THE SECOND FORM's CARD OF 'spindlelaw08.WireHere'. -/
def wireHereUptoCard : Claim7 := { stood := { row := wireHereUptoRow, standIns := [], harness := (true, "05b3cecd61005be1c341d84976b330492f77d493a0ac0986e99bb79107a35507"), looks := false }, kinds := [], alts := [], laidByText := true, laidKinds := [.data, .data, .data, .pinned], laidTests := true, laidLooks := .later }
def WireHereUptoCardSaid : Prop := Claim7.holds Tryd.pinned (.plain (OpenSpec.upto wireHereSpec)) wireHereUptoCard

/-- THE SECOND FORM's CARD OF 'spindlelaw08.WireOwn'. -/
def wireOwnUptoCard : Claim7 := { stood := { row := wireOwnUptoRow, standIns := [], harness := (true, "05b3cecd61005be1c341d84976b330492f77d493a0ac0986e99bb79107a35507"), looks := false }, kinds := [], alts := [], laidByText := true, laidKinds := [.data, .data], laidTests := true, laidLooks := .later }
def WireOwnUptoCardSaid : Prop := Claim7.holds Tryd.pinned (.plain (OpenSpec.upto wireOwnSpec)) wireOwnUptoCard
end Rows
end Go.Proofs.YtjikibhhhchgeaaDoor
