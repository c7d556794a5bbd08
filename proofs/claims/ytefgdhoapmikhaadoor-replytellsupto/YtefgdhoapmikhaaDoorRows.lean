/-
  NARROWER THAN 'FOR EVERY INPUT', by the rows' own cells (each row's printed sentence says how): ReplyFits: laid · ReplyAnswers: laid · ReplyTells: laid · ReplyFails: laid · ReplyStates: laid · ReplyOwn: laid.
  DERIVED. THE GIVEN ROWS OF THIS SEAT. 6 by the template 'for every input the law returns true; each argument reads behind the call as it read before'; 0 by the template 'total and deterministic' (their statements: YtefgdhoapmikhaaDoorTotals.lean).
  GIVEN WITH THE SEED: the statements are not yours to turn. If you find one false, say at which input.
  Laid BY PROGRAM, IN A SANDBOX (cutbox-rows.mjs): the forced cells as the released guide's own fill.sh prints them over the translation f04d616b634cc4d5… (all of the seat's roots in one cut). By AI agents, Wed Nov 11 2026. No macro, syntax, notation, axiom, sorry.
-/
import Derived.Test.YtefgdhoapmikhaaDoorChecked
import GoSem.PinnedTables
import GoSem.Claim
import GoSem.ClaimJoined
import GoSem.ClaimMapViews
import Derived.JoinedTies
import Derived.KernelRfl
namespace Go.Proofs.YtefgdhoapmikhaaDoor
/- THE CELL 'sum', in the pinned program and in every row, IS THE sha256 OF THE DUMP (.gsa) THAT YtefgdhoapmikhaaDoorProg.lean LOADS. Nothing in Lean hashes anything: it is a label: what it is worth is what the hold of that sum in a sandbox is worth. -/
noncomputable def Tryd.pinned : Pinned := { name := "ytefgdhoapmikhaadoor", sum := "f04d616b634cc4d5ec5bb130445ded738b01dee887a94f61957d67a59f6ab284", checked := Tryd.checked }
namespace Rows
def none {H : Type} : Left H := { results := [], args := [] }

/- WHAT THE LISTED PACKAGE-LEVEL VARIABLES READ AS WHEN THE CALL BEGINS. Each datum BY PROGRAM (the guide's laid-datum.mjs) off the statement by which the dump's own 'gosem.cut.vars' lays the variable. In a bare row this is a premise. The card (YtefgdhoapmikhaaDoorCards.lean) ties it to the program's text. -/
def laid_unicode_utf8_acceptRanges {H : Type} : DataW H := .agg [.agg [.lit (.int .u8 128), .lit (.int .u8 191)], .agg [.lit (.int .u8 160), .lit (.int .u8 191)], .agg [.lit (.int .u8 128), .lit (.int .u8 159)], .agg [.lit (.int .u8 144), .lit (.int .u8 191)], .agg [.lit (.int .u8 128), .lit (.int .u8 143)], .agg [.lit (.int .u8 0), .lit (.int .u8 0)], .agg [.lit (.int .u8 0), .lit (.int .u8 0)], .agg [.lit (.int .u8 0), .lit (.int .u8 0)], .agg [.lit (.int .u8 0), .lit (.int .u8 0)], .agg [.lit (.int .u8 0), .lit (.int .u8 0)], .agg [.lit (.int .u8 0), .lit (.int .u8 0)], .agg [.lit (.int .u8 0), .lit (.int .u8 0)], .agg [.lit (.int .u8 0), .lit (.int .u8 0)], .agg [.lit (.int .u8 0), .lit (.int .u8 0)], .agg [.lit (.int .u8 0), .lit (.int .u8 0)], .agg [.lit (.int .u8 0), .lit (.int .u8 0)]]
/-- One of Go's own tables, pinned by name: the form's constant. -/
def laid_unicode_utf8_first : DataW Unit := Go.Pinned.utf8First

/-- 'spindlelaw12.ReplyFits': WHATEVER THE INPUT: true; the input reads as it did. -/
def replyFitsSpec : ChangeSpec := { name := "replyFits", fn := fun _ => fun
  | [d1, d2, d3] => { results := [.lit (.bool true)], args := [d1, d2, d3] }
  | _ => none }
def replyFitsRow : OpenClaim := { program := "ytefgdhoapmikhaadoor", sum := "f04d616b634cc4d5ec5bb130445ded738b01dee887a94f61957d67a59f6ab284", func := "spindle/spindlelaw12.ReplyFits", spec := "replyFits", inPlace := ["internal/bytealg.IndexByteString"], unfollowed := true, recurses := true, named := ["unicode/utf8.first", "unicode/utf8.acceptRanges"], apart := false, laid := [("unicode/utf8.acceptRanges", laid_unicode_utf8_acceptRanges), ("unicode/utf8.first", laid_unicode_utf8_first)] }
def ReplyFitsSaid : Prop := replyFitsRow.holds Tryd.pinned (OpenSpec.ofChange replyFitsSpec)

/-- ITS FALSE NEIGHBOUR: 'it returns false'. Refute it at one input. -/
def replyFitsWrong : ChangeSpec := { name := "replyFits", fn := fun _ => fun
  | [d1, d2, d3] => { results := [.lit (.bool false)], args := [d1, d2, d3] }
  | _ => none }
def ReplyFitsWrongFalsely : Prop := replyFitsRow.holds Tryd.pinned (OpenSpec.ofChange replyFitsWrong)

/-- 'spindlelaw12.ReplyAnswers': WHATEVER THE INPUT: true; the input reads as it did. -/
def replyAnswersSpec : ChangeSpec := { name := "replyAnswers", fn := fun _ => fun
  | [d1, d2, d3] => { results := [.lit (.bool true)], args := [d1, d2, d3] }
  | _ => none }
def replyAnswersRow : OpenClaim := { program := "ytefgdhoapmikhaadoor", sum := "f04d616b634cc4d5ec5bb130445ded738b01dee887a94f61957d67a59f6ab284", func := "spindle/spindlelaw12.ReplyAnswers", spec := "replyAnswers", inPlace := ["internal/bytealg.IndexByteString"], unfollowed := true, recurses := true, named := ["unicode/utf8.first", "unicode/utf8.acceptRanges"], apart := false, laid := [("unicode/utf8.acceptRanges", laid_unicode_utf8_acceptRanges), ("unicode/utf8.first", laid_unicode_utf8_first)] }
def ReplyAnswersSaid : Prop := replyAnswersRow.holds Tryd.pinned (OpenSpec.ofChange replyAnswersSpec)

/-- ITS FALSE NEIGHBOUR: 'it returns false'. Refute it at one input. -/
def replyAnswersWrong : ChangeSpec := { name := "replyAnswers", fn := fun _ => fun
  | [d1, d2, d3] => { results := [.lit (.bool false)], args := [d1, d2, d3] }
  | _ => none }
def ReplyAnswersWrongFalsely : Prop := replyAnswersRow.holds Tryd.pinned (OpenSpec.ofChange replyAnswersWrong)

/-- 'spindlelaw12.ReplyTells': WHATEVER THE INPUT: true; the input reads as it did. -/
def replyTellsSpec : ChangeSpec := { name := "replyTells", fn := fun _ => fun
  | [d1, d2, d3, d4] => { results := [.lit (.bool true)], args := [d1, d2, d3, d4] }
  | _ => none }
def replyTellsRow : OpenClaim := { program := "ytefgdhoapmikhaadoor", sum := "f04d616b634cc4d5ec5bb130445ded738b01dee887a94f61957d67a59f6ab284", func := "spindle/spindlelaw12.ReplyTells", spec := "replyTells", inPlace := ["internal/bytealg.IndexByteString"], unfollowed := true, recurses := true, named := ["unicode/utf8.first", "unicode/utf8.acceptRanges"], apart := false, laid := [("unicode/utf8.acceptRanges", laid_unicode_utf8_acceptRanges), ("unicode/utf8.first", laid_unicode_utf8_first)] }
def ReplyTellsSaid : Prop := replyTellsRow.holds Tryd.pinned (OpenSpec.ofChange replyTellsSpec)

/-- ITS FALSE NEIGHBOUR: 'it returns false'. Refute it at one input. -/
def replyTellsWrong : ChangeSpec := { name := "replyTells", fn := fun _ => fun
  | [d1, d2, d3, d4] => { results := [.lit (.bool false)], args := [d1, d2, d3, d4] }
  | _ => none }
def ReplyTellsWrongFalsely : Prop := replyTellsRow.holds Tryd.pinned (OpenSpec.ofChange replyTellsWrong)

/-- 'spindlelaw12.ReplyFails': WHATEVER THE INPUT: true; the input reads as it did. -/
def replyFailsSpec : ChangeSpec := { name := "replyFails", fn := fun _ => fun
  | [d1, d2, d3, d4, d5] => { results := [.lit (.bool true)], args := [d1, d2, d3, d4, d5] }
  | _ => none }
def replyFailsRow : OpenClaim := { program := "ytefgdhoapmikhaadoor", sum := "f04d616b634cc4d5ec5bb130445ded738b01dee887a94f61957d67a59f6ab284", func := "spindle/spindlelaw12.ReplyFails", spec := "replyFails", inPlace := ["internal/bytealg.IndexByteString"], unfollowed := true, recurses := true, named := ["unicode/utf8.first", "unicode/utf8.acceptRanges"], apart := false, laid := [("unicode/utf8.acceptRanges", laid_unicode_utf8_acceptRanges), ("unicode/utf8.first", laid_unicode_utf8_first)] }
def ReplyFailsSaid : Prop := replyFailsRow.holds Tryd.pinned (OpenSpec.ofChange replyFailsSpec)

/-- ITS FALSE NEIGHBOUR: 'it returns false'. Refute it at one input. -/
def replyFailsWrong : ChangeSpec := { name := "replyFails", fn := fun _ => fun
  | [d1, d2, d3, d4, d5] => { results := [.lit (.bool false)], args := [d1, d2, d3, d4, d5] }
  | _ => none }
def ReplyFailsWrongFalsely : Prop := replyFailsRow.holds Tryd.pinned (OpenSpec.ofChange replyFailsWrong)

/-- 'spindlelaw12.ReplyStates': WHATEVER THE INPUT: true; the input reads as it did. -/
def replyStatesSpec : ChangeSpec := { name := "replyStates", fn := fun _ => fun
  | [d1, d2, d3, d4, d5] => { results := [.lit (.bool true)], args := [d1, d2, d3, d4, d5] }
  | _ => none }
def replyStatesRow : OpenClaim := { program := "ytefgdhoapmikhaadoor", sum := "f04d616b634cc4d5ec5bb130445ded738b01dee887a94f61957d67a59f6ab284", func := "spindle/spindlelaw12.ReplyStates", spec := "replyStates", inPlace := ["internal/bytealg.IndexByteString"], unfollowed := true, recurses := true, named := ["unicode/utf8.first", "unicode/utf8.acceptRanges"], apart := false, laid := [("unicode/utf8.acceptRanges", laid_unicode_utf8_acceptRanges), ("unicode/utf8.first", laid_unicode_utf8_first)] }
def ReplyStatesSaid : Prop := replyStatesRow.holds Tryd.pinned (OpenSpec.ofChange replyStatesSpec)

/-- ITS FALSE NEIGHBOUR: 'it returns false'. Refute it at one input. -/
def replyStatesWrong : ChangeSpec := { name := "replyStates", fn := fun _ => fun
  | [d1, d2, d3, d4, d5] => { results := [.lit (.bool false)], args := [d1, d2, d3, d4, d5] }
  | _ => none }
def ReplyStatesWrongFalsely : Prop := replyStatesRow.holds Tryd.pinned (OpenSpec.ofChange replyStatesWrong)

/-- 'spindlelaw12.ReplyOwn': WHATEVER THE INPUT: true; the input reads as it did. -/
def replyOwnSpec : ChangeSpec := { name := "replyOwn", fn := fun _ => fun
  | [d1, d2, d3] => { results := [.lit (.bool true)], args := [d1, d2, d3] }
  | _ => none }
def replyOwnRow : OpenClaim := { program := "ytefgdhoapmikhaadoor", sum := "f04d616b634cc4d5ec5bb130445ded738b01dee887a94f61957d67a59f6ab284", func := "spindle/spindlelaw12.ReplyOwn", spec := "replyOwn", inPlace := ["internal/bytealg.IndexByteString"], unfollowed := true, recurses := true, named := ["unicode/utf8.first", "unicode/utf8.acceptRanges"], apart := false, laid := [("unicode/utf8.acceptRanges", laid_unicode_utf8_acceptRanges), ("unicode/utf8.first", laid_unicode_utf8_first)] }
def ReplyOwnSaid : Prop := replyOwnRow.holds Tryd.pinned (OpenSpec.ofChange replyOwnSpec)

/-- ITS FALSE NEIGHBOUR: 'it returns false'. Refute it at one input. -/
def replyOwnWrong : ChangeSpec := { name := "replyOwn", fn := fun _ => fun
  | [d1, d2, d3] => { results := [.lit (.bool false)], args := [d1, d2, d3] }
  | _ => none }
def ReplyOwnWrongFalsely : Prop := replyOwnRow.holds Tryd.pinned (OpenSpec.ofChange replyOwnWrong)

/- THE SECOND FORM. 'bulk': how many values and letters a reading holds, each counted each time it is reached (what is shared counts as often as it is met; a slice's spare places count too). A statement '..UptoSaid' is the law's where the arguments, and the package variables that the reading takes, are together of bulk at most 1048576: NARROWER than '..Said'. Prove '..Said' where nothing that the law and all that it calls make is longer than what came in: it says more and counts as full. Else prove '..UptoSaid'. A law counts once. -/
mutual
def uptoBulk {H : Type} : DataW H → Nat
  | .lit (.string bytes) => bytes.length + 1
  | .lit _ => 1
  | .nil => 1
  | .ptr d => uptoBulk d + 1
  | .slice elems spare => uptoBulkAll elems + uptoBulkAll spare + 1
  | .agg parts => uptoBulkAll parts + 1
  | .iface _ d => uptoBulk d + 1
  | .map entries => uptoBulkEntries entries + 1
  | .held _ => 1
def uptoBulkAll {H : Type} : List (DataW H) → Nat
  | [] => 0
  | d :: r => uptoBulk d + uptoBulkAll r
def uptoBulkEntries {H : Type} : List (Lit × DataW H) → Nat
  | [] => 0
  | x :: r => uptoBulkEntry x + uptoBulkEntries r
def uptoBulkEntry {H : Type} : Lit × DataW H → Nat
  | (.string bytes, d) => bytes.length + uptoBulk d + 1
  | (_, d) => uptoBulk d + 1
 end
def uptoSmall : (H : Type) → List (DataW H) → Bool := fun _ ds => decide (uptoBulkAll ds ≤ 1048576)
def OpenSpec.upto (s : _root_.Go.ChangeSpec) : _root_.Go.OpenSpec := { _root_.Go.OpenSpec.ofChange s with cond := some uptoSmall }

/-- 'spindlelaw12.ReplyFits', WHERE WHAT IT READS IS OF BULK AT MOST 1048576: true; the input reads as it did. -/
def replyFitsUptoRow : OpenClaim := { program := "ytefgdhoapmikhaadoor", sum := "f04d616b634cc4d5ec5bb130445ded738b01dee887a94f61957d67a59f6ab284", func := "spindle/spindlelaw12.ReplyFits", spec := "replyFits", inPlace := ["internal/bytealg.IndexByteString"], unfollowed := true, recurses := true, named := ["unicode/utf8.first", "unicode/utf8.acceptRanges"], apart := false, laid := [("unicode/utf8.acceptRanges", laid_unicode_utf8_acceptRanges), ("unicode/utf8.first", laid_unicode_utf8_first)], narrowed := true }
def ReplyFitsUptoSaid : Prop := replyFitsUptoRow.holds Tryd.pinned (OpenSpec.upto replyFitsSpec)

/-- 'spindlelaw12.ReplyAnswers', WHERE WHAT IT READS IS OF BULK AT MOST 1048576: true; the input reads as it did. -/
def replyAnswersUptoRow : OpenClaim := { program := "ytefgdhoapmikhaadoor", sum := "f04d616b634cc4d5ec5bb130445ded738b01dee887a94f61957d67a59f6ab284", func := "spindle/spindlelaw12.ReplyAnswers", spec := "replyAnswers", inPlace := ["internal/bytealg.IndexByteString"], unfollowed := true, recurses := true, named := ["unicode/utf8.first", "unicode/utf8.acceptRanges"], apart := false, laid := [("unicode/utf8.acceptRanges", laid_unicode_utf8_acceptRanges), ("unicode/utf8.first", laid_unicode_utf8_first)], narrowed := true }
def ReplyAnswersUptoSaid : Prop := replyAnswersUptoRow.holds Tryd.pinned (OpenSpec.upto replyAnswersSpec)

/-- 'spindlelaw12.ReplyTells', WHERE WHAT IT READS IS OF BULK AT MOST 1048576: true; the input reads as it did. -/
def replyTellsUptoRow : OpenClaim := { program := "ytefgdhoapmikhaadoor", sum := "f04d616b634cc4d5ec5bb130445ded738b01dee887a94f61957d67a59f6ab284", func := "spindle/spindlelaw12.ReplyTells", spec := "replyTells", inPlace := ["internal/bytealg.IndexByteString"], unfollowed := true, recurses := true, named := ["unicode/utf8.first", "unicode/utf8.acceptRanges"], apart := false, laid := [("unicode/utf8.acceptRanges", laid_unicode_utf8_acceptRanges), ("unicode/utf8.first", laid_unicode_utf8_first)], narrowed := true }
def ReplyTellsUptoSaid : Prop := replyTellsUptoRow.holds Tryd.pinned (OpenSpec.upto replyTellsSpec)

/-- 'spindlelaw12.ReplyFails', WHERE WHAT IT READS IS OF BULK AT MOST 1048576: true; the input reads as it did. -/
def replyFailsUptoRow : OpenClaim := { program := "ytefgdhoapmikhaadoor", sum := "f04d616b634cc4d5ec5bb130445ded738b01dee887a94f61957d67a59f6ab284", func := "spindle/spindlelaw12.ReplyFails", spec := "replyFails", inPlace := ["internal/bytealg.IndexByteString"], unfollowed := true, recurses := true, named := ["unicode/utf8.first", "unicode/utf8.acceptRanges"], apart := false, laid := [("unicode/utf8.acceptRanges", laid_unicode_utf8_acceptRanges), ("unicode/utf8.first", laid_unicode_utf8_first)], narrowed := true }
def ReplyFailsUptoSaid : Prop := replyFailsUptoRow.holds Tryd.pinned (OpenSpec.upto replyFailsSpec)

/-- 'spindlelaw12.ReplyStates', WHERE WHAT IT READS IS OF BULK AT MOST 1048576: true; the input reads as it did. -/
def replyStatesUptoRow : OpenClaim := { program := "ytefgdhoapmikhaadoor", sum := "f04d616b634cc4d5ec5bb130445ded738b01dee887a94f61957d67a59f6ab284", func := "spindle/spindlelaw12.ReplyStates", spec := "replyStates", inPlace := ["internal/bytealg.IndexByteString"], unfollowed := true, recurses := true, named := ["unicode/utf8.first", "unicode/utf8.acceptRanges"], apart := false, laid := [("unicode/utf8.acceptRanges", laid_unicode_utf8_acceptRanges), ("unicode/utf8.first", laid_unicode_utf8_first)], narrowed := true }
def ReplyStatesUptoSaid : Prop := replyStatesUptoRow.holds Tryd.pinned (OpenSpec.upto replyStatesSpec)

/-- 'spindlelaw12.ReplyOwn', WHERE WHAT IT READS IS OF BULK AT MOST 1048576: true; the input reads as it did. -/
def replyOwnUptoRow : OpenClaim := { program := "ytefgdhoapmikhaadoor", sum := "f04d616b634cc4d5ec5bb130445ded738b01dee887a94f61957d67a59f6ab284", func := "spindle/spindlelaw12.ReplyOwn", spec := "replyOwn", inPlace := ["internal/bytealg.IndexByteString"], unfollowed := true, recurses := true, named := ["unicode/utf8.first", "unicode/utf8.acceptRanges"], apart := false, laid := [("unicode/utf8.acceptRanges", laid_unicode_utf8_acceptRanges), ("unicode/utf8.first", laid_unicode_utf8_first)], narrowed := true }
def ReplyOwnUptoSaid : Prop := replyOwnUptoRow.holds Tryd.pinned (OpenSpec.upto replyOwnSpec)

end Rows
end Go.Proofs.YtefgdhoapmikhaaDoor
