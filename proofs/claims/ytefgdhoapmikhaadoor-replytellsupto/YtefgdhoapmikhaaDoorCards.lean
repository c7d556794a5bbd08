/-
  DERIVED. GIVEN WITH THE SEED: THE CARDS: each row of YtefgdhoapmikhaaDoorRows.lean that lists a variable, with what it lists TIED to the program's text (the seventh form; the later family's looks); each row that meets fmt, with fmt's text TOLD by the authors' own Lean function (tested against real Go, not proved from fmt's source: count such statements apart). THE CARD IS WHAT COUNTS. Prove the row's statement (the work); the ties are given (YtefgdhoapmikhaaDoorTie.lean); close each card by the builder's one call (the guide's Derived/Test/ToyasCard.lean, 'card_holds'). Laid BY PROGRAM, IN A SANDBOX (cutbox-door.mjs). By AI agents, Wed Nov 11 2026. No macro, syntax, notation, axiom, sorry.
-/
import Derived.Test.YtefgdhoapmikhaaDoorRows
import GoSem.ClaimSeven
namespace Go.Proofs.YtefgdhoapmikhaaDoor
namespace Rows

/-- THE TIED CARD OF 'spindlelaw12.ReplyFits'. -/
def replyFitsCard : Claim7 := { stood := { row := replyFitsRow, standIns := [], harness := (true, "592812f01bd476a9f8f0aae56922b19d8778e01afc931483cf1be4f82191d0c4"), looks := false }, kinds := [], alts := [], laidByText := true, laidKinds := [.data, .pinned], laidTests := true, laidLooks := .later }
def ReplyFitsCardSaid : Prop := Claim7.holds Tryd.pinned (.plain (OpenSpec.ofChange replyFitsSpec)) replyFitsCard

/-- THE TIED CARD OF 'spindlelaw12.ReplyAnswers'. -/
def replyAnswersCard : Claim7 := { stood := { row := replyAnswersRow, standIns := [], harness := (true, "592812f01bd476a9f8f0aae56922b19d8778e01afc931483cf1be4f82191d0c4"), looks := false }, kinds := [], alts := [], laidByText := true, laidKinds := [.data, .pinned], laidTests := true, laidLooks := .later }
def ReplyAnswersCardSaid : Prop := Claim7.holds Tryd.pinned (.plain (OpenSpec.ofChange replyAnswersSpec)) replyAnswersCard

/-- THE TIED CARD OF 'spindlelaw12.ReplyTells'. -/
def replyTellsCard : Claim7 := { stood := { row := replyTellsRow, standIns := [], harness := (true, "592812f01bd476a9f8f0aae56922b19d8778e01afc931483cf1be4f82191d0c4"), looks := false }, kinds := [], alts := [], laidByText := true, laidKinds := [.data, .pinned], laidTests := true, laidLooks := .later }
def ReplyTellsCardSaid : Prop := Claim7.holds Tryd.pinned (.plain (OpenSpec.ofChange replyTellsSpec)) replyTellsCard

/-- THE TIED CARD OF 'spindlelaw12.ReplyFails'. -/
def replyFailsCard : Claim7 := { stood := { row := replyFailsRow, standIns := [], harness := (true, "592812f01bd476a9f8f0aae56922b19d8778e01afc931483cf1be4f82191d0c4"), looks := false }, kinds := [], alts := [], laidByText := true, laidKinds := [.data, .pinned], laidTests := true, laidLooks := .later }
def ReplyFailsCardSaid : Prop := Claim7.holds Tryd.pinned (.plain (OpenSpec.ofChange replyFailsSpec)) replyFailsCard

/-- THE TIED CARD OF 'spindlelaw12.ReplyStates'. -/
def replyStatesCard : Claim7 := { stood := { row := replyStatesRow, standIns := [], harness := (true, "592812f01bd476a9f8f0aae56922b19d8778e01afc931483cf1be4f82191d0c4"), looks := false }, kinds := [], alts := [], laidByText := true, laidKinds := [.data, .pinned], laidTests := true, laidLooks := .later }
def ReplyStatesCardSaid : Prop := Claim7.holds Tryd.pinned (.plain (OpenSpec.ofChange replyStatesSpec)) replyStatesCard

/-- THE TIED CARD OF 'spindlelaw12.ReplyOwn'. -/
def replyOwnCard : Claim7 := { stood := { row := replyOwnRow, standIns := [], harness := (true, "592812f01bd476a9f8f0aae56922b19d8778e01afc931483cf1be4f82191d0c4"), looks := false }, kinds := [], alts := [], laidByText := true, laidKinds := [.data, .pinned], laidTests := true, laidLooks := .later }
def ReplyOwnCardSaid : Prop := Claim7.holds Tryd.pinned (.plain (OpenSpec.ofChange replyOwnSpec)) replyOwnCard

/-- THE SECOND FORM's CARD OF 'spindlelaw12.ReplyFits'. -/
def replyFitsUptoCard : Claim7 := { stood := { row := replyFitsUptoRow, standIns := [], harness := (true, "592812f01bd476a9f8f0aae56922b19d8778e01afc931483cf1be4f82191d0c4"), looks := false }, kinds := [], alts := [], laidByText := true, laidKinds := [.data, .pinned], laidTests := true, laidLooks := .later }
def ReplyFitsUptoCardSaid : Prop := Claim7.holds Tryd.pinned (.plain (OpenSpec.upto replyFitsSpec)) replyFitsUptoCard

/-- THE SECOND FORM's CARD OF 'spindlelaw12.ReplyAnswers'. -/
def replyAnswersUptoCard : Claim7 := { stood := { row := replyAnswersUptoRow, standIns := [], harness := (true, "592812f01bd476a9f8f0aae56922b19d8778e01afc931483cf1be4f82191d0c4"), looks := false }, kinds := [], alts := [], laidByText := true, laidKinds := [.data, .pinned], laidTests := true, laidLooks := .later }
def ReplyAnswersUptoCardSaid : Prop := Claim7.holds Tryd.pinned (.plain (OpenSpec.upto replyAnswersSpec)) replyAnswersUptoCard

/-- THE SECOND FORM's CARD OF 'spindlelaw12.ReplyTells'. -/
def replyTellsUptoCard : Claim7 := { stood := { row := replyTellsUptoRow, standIns := [], harness := (true, "592812f01bd476a9f8f0aae56922b19d8778e01afc931483cf1be4f82191d0c4"), looks := false }, kinds := [], alts := [], laidByText := true, laidKinds := [.data, .pinned], laidTests := true, laidLooks := .later }
def ReplyTellsUptoCardSaid : Prop := Claim7.holds Tryd.pinned (.plain (OpenSpec.upto replyTellsSpec)) replyTellsUptoCard

/-- THE SECOND FORM's CARD OF 'spindlelaw12.ReplyFails'. -/
def replyFailsUptoCard : Claim7 := { stood := { row := replyFailsUptoRow, standIns := [], harness := (true, "592812f01bd476a9f8f0aae56922b19d8778e01afc931483cf1be4f82191d0c4"), looks := false }, kinds := [], alts := [], laidByText := true, laidKinds := [.data, .pinned], laidTests := true, laidLooks := .later }
def ReplyFailsUptoCardSaid : Prop := Claim7.holds Tryd.pinned (.plain (OpenSpec.upto replyFailsSpec)) replyFailsUptoCard

/-- THE SECOND FORM's CARD OF 'spindlelaw12.ReplyStates'. -/
def replyStatesUptoCard : Claim7 := { stood := { row := replyStatesUptoRow, standIns := [], harness := (true, "592812f01bd476a9f8f0aae56922b19d8778e01afc931483cf1be4f82191d0c4"), looks := false }, kinds := [], alts := [], laidByText := true, laidKinds := [.data, .pinned], laidTests := true, laidLooks := .later }
def ReplyStatesUptoCardSaid : Prop := Claim7.holds Tryd.pinned (.plain (OpenSpec.upto replyStatesSpec)) replyStatesUptoCard

/-- THE SECOND FORM's CARD OF 'spindlelaw12.ReplyOwn'. -/
def replyOwnUptoCard : Claim7 := { stood := { row := replyOwnUptoRow, standIns := [], harness := (true, "592812f01bd476a9f8f0aae56922b19d8778e01afc931483cf1be4f82191d0c4"), looks := false }, kinds := [], alts := [], laidByText := true, laidKinds := [.data, .pinned], laidTests := true, laidLooks := .later }
def ReplyOwnUptoCardSaid : Prop := Claim7.holds Tryd.pinned (.plain (OpenSpec.upto replyOwnSpec)) replyOwnUptoCard
end Rows
end Go.Proofs.YtefgdhoapmikhaaDoor
