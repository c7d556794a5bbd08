/-
  No cell of these rows narrows 'for every input' (looked for: loops, veiled, ifaces, maps, wideKeys, modest, calm, conditions, laid).
  DERIVED. THE GIVEN ROWS OF THIS SEAT. 5 by the template 'for every input the law returns true; each argument reads behind the call as it read before'; 0 by the template 'total and deterministic' (their statements: YtijafckdbhklmaaTotals.lean).
  GIVEN WITH THE SEED: the statements are not yours to turn. If you find one false, say at which input.
  Laid BY PROGRAM, IN A SANDBOX (cutbox-rows.mjs): the forced cells as the released guide's own fill.sh prints them over the translation fd473b6791428a02… (all of the seat's roots in one cut). By AI agents, Wed Nov 11 2026. No macro, syntax, notation, axiom, sorry.
-/
import Derived.Test.YtijafckdbhklmaaChecked
import GoSem.Claim
import GoSem.ClaimJoined
import GoSem.ClaimMapViews
import Derived.JoinedTies
import Derived.KernelRfl
namespace Go.Proofs.Ytijafckdbhklmaa
/- THE CELL 'sum', in the pinned program and in every row, IS THE sha256 OF THE DUMP (.gsa) THAT YtijafckdbhklmaaProg.lean LOADS. Nothing in Lean hashes anything: it is a label: what it is worth is what the hold of that sum in a sandbox is worth. -/
noncomputable def Try.pinned : Pinned := { name := "ytijafckdbhklmaa", sum := "fd473b6791428a023daf70f06402dbc6a920bad0a5f2cebdcc982f95555646ef", checked := Try.checked }
namespace Rows
def none {H : Type} : Left H := { results := [], args := [] }

/-- 'spindlelaw02.ExtentPlays': WHATEVER THE INPUT: true; the input reads as it did. -/
def extentPlaysSpec : ChangeSpec := { name := "extentPlays", fn := fun _ => fun
  | [d1, d2, d3] => { results := [.lit (.bool true)], args := [d1, d2, d3] }
  | _ => none }
def extentPlaysRow : OpenClaim := { program := "ytijafckdbhklmaa", sum := "fd473b6791428a023daf70f06402dbc6a920bad0a5f2cebdcc982f95555646ef", func := "spindle/spindlelaw02.ExtentPlays", spec := "extentPlays", inPlace := ["slices.overlaps[spindle/extent.Run[int]]", "slices.overlaps[spindle/extent.Run[bool]]"], unfollowed := true, recurses := true, apart := false }
def ExtentPlaysSaid : Prop := extentPlaysRow.holds Try.pinned (OpenSpec.ofChange extentPlaysSpec)

/-- ITS FALSE NEIGHBOUR: 'it returns false'. Refute it at one input. -/
def extentPlaysWrong : ChangeSpec := { name := "extentPlays", fn := fun _ => fun
  | [d1, d2, d3] => { results := [.lit (.bool false)], args := [d1, d2, d3] }
  | _ => none }
def ExtentPlaysWrongFalsely : Prop := extentPlaysRow.holds Try.pinned (OpenSpec.ofChange extentPlaysWrong)

/-- 'spindlelaw02.ExtentRuns': WHATEVER THE INPUT: true; the input reads as it did. -/
def extentRunsSpec : ChangeSpec := { name := "extentRuns", fn := fun _ => fun
  | [d1, d2, d3, d4] => { results := [.lit (.bool true)], args := [d1, d2, d3, d4] }
  | _ => none }
def extentRunsRow : OpenClaim := { program := "ytijafckdbhklmaa", sum := "fd473b6791428a023daf70f06402dbc6a920bad0a5f2cebdcc982f95555646ef", func := "spindle/spindlelaw02.ExtentRuns", spec := "extentRuns", inPlace := ["slices.overlaps[spindle/extent.Run[int]]", "slices.overlaps[spindle/extent.Run[bool]]"], unfollowed := true, recurses := true, apart := false }
def ExtentRunsSaid : Prop := extentRunsRow.holds Try.pinned (OpenSpec.ofChange extentRunsSpec)

/-- ITS FALSE NEIGHBOUR: 'it returns false'. Refute it at one input. -/
def extentRunsWrong : ChangeSpec := { name := "extentRuns", fn := fun _ => fun
  | [d1, d2, d3, d4] => { results := [.lit (.bool false)], args := [d1, d2, d3, d4] }
  | _ => none }
def ExtentRunsWrongFalsely : Prop := extentRunsRow.holds Try.pinned (OpenSpec.ofChange extentRunsWrong)

/-- 'spindlelaw02.ExtentCut': WHATEVER THE INPUT: true; the input reads as it did. -/
def extentCutSpec : ChangeSpec := { name := "extentCut", fn := fun _ => fun
  | [d1, d2, d3, d4, d5, d6, d7] => { results := [.lit (.bool true)], args := [d1, d2, d3, d4, d5, d6, d7] }
  | _ => none }
def extentCutRow : OpenClaim := { program := "ytijafckdbhklmaa", sum := "fd473b6791428a023daf70f06402dbc6a920bad0a5f2cebdcc982f95555646ef", func := "spindle/spindlelaw02.ExtentCut", spec := "extentCut", inPlace := ["slices.overlaps[spindle/extent.Run[int]]", "slices.overlaps[spindle/extent.Run[bool]]"], unfollowed := true, recurses := true, apart := false }
def ExtentCutSaid : Prop := extentCutRow.holds Try.pinned (OpenSpec.ofChange extentCutSpec)

/-- ITS FALSE NEIGHBOUR: 'it returns false'. Refute it at one input. -/
def extentCutWrong : ChangeSpec := { name := "extentCut", fn := fun _ => fun
  | [d1, d2, d3, d4, d5, d6, d7] => { results := [.lit (.bool false)], args := [d1, d2, d3, d4, d5, d6, d7] }
  | _ => none }
def ExtentCutWrongFalsely : Prop := extentCutRow.holds Try.pinned (OpenSpec.ofChange extentCutWrong)

/-- 'spindlelaw02.ExtentApart': WHATEVER THE INPUT: true; the input reads as it did. -/
def extentApartSpec : ChangeSpec := { name := "extentApart", fn := fun _ => fun
  | [d1, d2, d3, d4, d5] => { results := [.lit (.bool true)], args := [d1, d2, d3, d4, d5] }
  | _ => none }
def extentApartRow : OpenClaim := { program := "ytijafckdbhklmaa", sum := "fd473b6791428a023daf70f06402dbc6a920bad0a5f2cebdcc982f95555646ef", func := "spindle/spindlelaw02.ExtentApart", spec := "extentApart", inPlace := ["slices.overlaps[spindle/extent.Run[int]]", "slices.overlaps[spindle/extent.Run[bool]]"], unfollowed := true, recurses := true, apart := false }
def ExtentApartSaid : Prop := extentApartRow.holds Try.pinned (OpenSpec.ofChange extentApartSpec)

/-- ITS FALSE NEIGHBOUR: 'it returns false'. Refute it at one input. -/
def extentApartWrong : ChangeSpec := { name := "extentApart", fn := fun _ => fun
  | [d1, d2, d3, d4, d5] => { results := [.lit (.bool false)], args := [d1, d2, d3, d4, d5] }
  | _ => none }
def ExtentApartWrongFalsely : Prop := extentApartRow.holds Try.pinned (OpenSpec.ofChange extentApartWrong)

/-- 'spindlelaw02.ExtentSeen': WHATEVER THE INPUT: true; the input reads as it did. -/
def extentSeenSpec : ChangeSpec := { name := "extentSeen", fn := fun _ => fun
  | [d1, d2, d3, d4, d5] => { results := [.lit (.bool true)], args := [d1, d2, d3, d4, d5] }
  | _ => none }
def extentSeenRow : OpenClaim := { program := "ytijafckdbhklmaa", sum := "fd473b6791428a023daf70f06402dbc6a920bad0a5f2cebdcc982f95555646ef", func := "spindle/spindlelaw02.ExtentSeen", spec := "extentSeen", inPlace := ["slices.overlaps[spindle/extent.Run[int]]", "slices.overlaps[spindle/extent.Run[bool]]"], unfollowed := true, recurses := true, apart := false }
def ExtentSeenSaid : Prop := extentSeenRow.holds Try.pinned (OpenSpec.ofChange extentSeenSpec)

/-- ITS FALSE NEIGHBOUR: 'it returns false'. Refute it at one input. -/
def extentSeenWrong : ChangeSpec := { name := "extentSeen", fn := fun _ => fun
  | [d1, d2, d3, d4, d5] => { results := [.lit (.bool false)], args := [d1, d2, d3, d4, d5] }
  | _ => none }
def ExtentSeenWrongFalsely : Prop := extentSeenRow.holds Try.pinned (OpenSpec.ofChange extentSeenWrong)

/- THE SECOND FORM. 'bulk': how many values and letters a reading holds, each counted each time it is reached (what is shared counts as often as it is met; a slice's spare places count too). A statement '..UptoSaid' is the law's where the arguments, and the package variables that the reading takes, are together of bulk at most 1048576: NARROWER than '..Said'. Prove '..Said' where nothing that the law and all that it calls make is longer than what came in: it says more and counts as full. Else prove '..UptoSaid'. A law counts once. -/
mutual
def uptoBulk {H : Type} : DataW H → Nat
  | .lit (.string bytes) => bytes.length + 1
  | .lit _ => 1
  | .nil => 1
  | .ptr d => uptoBulk d + 1
  | .slice elems spare => uptoBulkAll elems + uptoBulkAll spare + 1
  | .agg parts => uptoBulkAll parts + 1
  | .iface _ d => uptoBulk d + 1
  | .map entries => uptoBulkEntries entries + 1
  | .held _ => 1
def uptoBulkAll {H : Type} : List (DataW H) → Nat
  | [] => 0
  | d :: r => uptoBulk d + uptoBulkAll r
def uptoBulkEntries {H : Type} : List (Lit × DataW H) → Nat
  | [] => 0
  | x :: r => uptoBulkEntry x + uptoBulkEntries r
def uptoBulkEntry {H : Type} : Lit × DataW H → Nat
  | (.string bytes, d) => bytes.length + uptoBulk d + 1
  | (_, d) => uptoBulk d + 1
 end
def uptoSmall : (H : Type) → List (DataW H) → Bool := fun _ ds => decide (uptoBulkAll ds ≤ 1048576)
def OpenSpec.upto (s : _root_.Go.ChangeSpec) : _root_.Go.OpenSpec := { _root_.Go.OpenSpec.ofChange s with cond := some uptoSmall }

/-- 'spindlelaw02.ExtentPlays', WHERE WHAT IT READS IS OF BULK AT MOST 1048576: true; the input reads as it did. -/
def extentPlaysUptoRow : OpenClaim := { program := "ytijafckdbhklmaa", sum := "fd473b6791428a023daf70f06402dbc6a920bad0a5f2cebdcc982f95555646ef", func := "spindle/spindlelaw02.ExtentPlays", spec := "extentPlays", inPlace := ["slices.overlaps[spindle/extent.Run[int]]", "slices.overlaps[spindle/extent.Run[bool]]"], unfollowed := true, recurses := true, apart := false, narrowed := true }
def ExtentPlaysUptoSaid : Prop := extentPlaysUptoRow.holds Try.pinned (OpenSpec.upto extentPlaysSpec)

/-- 'spindlelaw02.ExtentRuns', WHERE WHAT IT READS IS OF BULK AT MOST 1048576: true; the input reads as it did. -/
def extentRunsUptoRow : OpenClaim := { program := "ytijafckdbhklmaa", sum := "fd473b6791428a023daf70f06402dbc6a920bad0a5f2cebdcc982f95555646ef", func := "spindle/spindlelaw02.ExtentRuns", spec := "extentRuns", inPlace := ["slices.overlaps[spindle/extent.Run[int]]", "slices.overlaps[spindle/extent.Run[bool]]"], unfollowed := true, recurses := true, apart := false, narrowed := true }
def ExtentRunsUptoSaid : Prop := extentRunsUptoRow.holds Try.pinned (OpenSpec.upto extentRunsSpec)

/-- 'spindlelaw02.ExtentCut', WHERE WHAT IT READS IS OF BULK AT MOST 1048576: true; the input reads as it did. -/
def extentCutUptoRow : OpenClaim := { program := "ytijafckdbhklmaa", sum := "fd473b6791428a023daf70f06402dbc6a920bad0a5f2cebdcc982f95555646ef", func := "spindle/spindlelaw02.ExtentCut", spec := "extentCut", inPlace := ["slices.overlaps[spindle/extent.Run[int]]", "slices.overlaps[spindle/extent.Run[bool]]"], unfollowed := true, recurses := true, apart := false, narrowed := true }
def ExtentCutUptoSaid : Prop := extentCutUptoRow.holds Try.pinned (OpenSpec.upto extentCutSpec)

/-- 'spindlelaw02.ExtentApart', WHERE WHAT IT READS IS OF BULK AT MOST 1048576: true; the input reads as it did. -/
def extentApartUptoRow : OpenClaim := { program := "ytijafckdbhklmaa", sum := "fd473b6791428a023daf70f06402dbc6a920bad0a5f2cebdcc982f95555646ef", func := "spindle/spindlelaw02.ExtentApart", spec := "extentApart", inPlace := ["slices.overlaps[spindle/extent.Run[int]]", "slices.overlaps[spindle/extent.Run[bool]]"], unfollowed := true, recurses := true, apart := false, narrowed := true }
def ExtentApartUptoSaid : Prop := extentApartUptoRow.holds Try.pinned (OpenSpec.upto extentApartSpec)

/-- 'spindlelaw02.ExtentSeen', WHERE WHAT IT READS IS OF BULK AT MOST 1048576: true; the input reads as it did. -/
def extentSeenUptoRow : OpenClaim := { program := "ytijafckdbhklmaa", sum := "fd473b6791428a023daf70f06402dbc6a920bad0a5f2cebdcc982f95555646ef", func := "spindle/spindlelaw02.ExtentSeen", spec := "extentSeen", inPlace := ["slices.overlaps[spindle/extent.Run[int]]", "slices.overlaps[spindle/extent.Run[bool]]"], unfollowed := true, recurses := true, apart := false, narrowed := true }
def ExtentSeenUptoSaid : Prop := extentSeenUptoRow.holds Try.pinned (OpenSpec.upto extentSeenSpec)

end Rows
end Go.Proofs.Ytijafckdbhklmaa
