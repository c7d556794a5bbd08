/-
  No cell of these rows narrows 'for every input' (looked for: loops, veiled, ifaces, maps, wideKeys, modest, calm, conditions, laid).
  DERIVED. THE GIVEN ROWS OF THIS SEAT. 6 by the template 'for every input the law returns true; each argument reads behind the call as it read before'; 0 by the template 'total and deterministic' (their statements: YtijafckdbhklmabTotals.lean).
  GIVEN WITH THE SEED: the statements are not yours to turn. If you find one false, say at which input.
  Laid BY PROGRAM, IN A SANDBOX (cutbox-rows.mjs): the forced cells as the released guide's own fill.sh prints them over the translation c00fc36515f31ae0… (all of the seat's roots in one cut). By AI agents, Wed Nov 11 2026. No macro, syntax, notation, axiom, sorry.
-/
import Derived.Test.YtijafckdbhklmabChecked
import GoSem.Claim
import GoSem.ClaimJoined
import GoSem.ClaimMapViews
import Derived.JoinedTies
import Derived.KernelRfl
namespace Go.Proofs.Ytijafckdbhklmab
/- THE CELL 'sum', in the pinned program and in every row, IS THE sha256 OF THE DUMP (.gsa) THAT YtijafckdbhklmabProg.lean LOADS. Nothing in Lean hashes anything: it is a label: what it is worth is what the hold of that sum in a sandbox is worth. -/
noncomputable def Try.pinned : Pinned := { name := "ytijafckdbhklmab", sum := "c00fc36515f31ae0107d3c36053715fdedc6b3f3e795cfefe16863be7b0dafe4", checked := Try.checked }
namespace Rows
def none {H : Type} : Left H := { results := [], args := [] }

/-- 'spindlelaw02.ExtentFresh': WHATEVER THE INPUT: true; the input reads as it did. -/
def extentFreshSpec : ChangeSpec := { name := "extentFresh", fn := fun _ => fun
  | [d1, d2, d3, d4, d5] => { results := [.lit (.bool true)], args := [d1, d2, d3, d4, d5] }
  | _ => none }
def extentFreshRow : OpenClaim := { program := "ytijafckdbhklmab", sum := "c00fc36515f31ae0107d3c36053715fdedc6b3f3e795cfefe16863be7b0dafe4", func := "spindle/spindlelaw02.ExtentFresh", spec := "extentFresh", inPlace := ["slices.overlaps[spindle/extent.Run[int]]", "slices.overlaps[spindle/extent.Run[bool]]"], unfollowed := true, recurses := true, apart := false }
def ExtentFreshSaid : Prop := extentFreshRow.holds Try.pinned (OpenSpec.ofChange extentFreshSpec)

/-- ITS FALSE NEIGHBOUR: 'it returns false'. Refute it at one input. -/
def extentFreshWrong : ChangeSpec := { name := "extentFresh", fn := fun _ => fun
  | [d1, d2, d3, d4, d5] => { results := [.lit (.bool false)], args := [d1, d2, d3, d4, d5] }
  | _ => none }
def ExtentFreshWrongFalsely : Prop := extentFreshRow.holds Try.pinned (OpenSpec.ofChange extentFreshWrong)

/-- 'spindlelaw02.ExtentNobody': WHATEVER THE INPUT: true; the input reads as it did. -/
def extentNobodySpec : ChangeSpec := { name := "extentNobody", fn := fun _ => fun
  | [d1, d2, d3, d4] => { results := [.lit (.bool true)], args := [d1, d2, d3, d4] }
  | _ => none }
def extentNobodyRow : OpenClaim := { program := "ytijafckdbhklmab", sum := "c00fc36515f31ae0107d3c36053715fdedc6b3f3e795cfefe16863be7b0dafe4", func := "spindle/spindlelaw02.ExtentNobody", spec := "extentNobody", inPlace := ["slices.overlaps[spindle/extent.Run[int]]", "slices.overlaps[spindle/extent.Run[bool]]"], unfollowed := true, recurses := true, apart := false }
def ExtentNobodySaid : Prop := extentNobodyRow.holds Try.pinned (OpenSpec.ofChange extentNobodySpec)

/-- ITS FALSE NEIGHBOUR: 'it returns false'. Refute it at one input. -/
def extentNobodyWrong : ChangeSpec := { name := "extentNobody", fn := fun _ => fun
  | [d1, d2, d3, d4] => { results := [.lit (.bool false)], args := [d1, d2, d3, d4] }
  | _ => none }
def ExtentNobodyWrongFalsely : Prop := extentNobodyRow.holds Try.pinned (OpenSpec.ofChange extentNobodyWrong)

/-- 'spindlelaw02.ExtentSets': WHATEVER THE INPUT: true; the input reads as it did. -/
def extentSetsSpec : ChangeSpec := { name := "extentSets", fn := fun _ => fun
  | [d1, d2] => { results := [.lit (.bool true)], args := [d1, d2] }
  | _ => none }
def extentSetsRow : OpenClaim := { program := "ytijafckdbhklmab", sum := "c00fc36515f31ae0107d3c36053715fdedc6b3f3e795cfefe16863be7b0dafe4", func := "spindle/spindlelaw02.ExtentSets", spec := "extentSets", inPlace := ["slices.overlaps[spindle/extent.Run[bool]]", "slices.overlaps[spindle/extent.Run[int]]"], unfollowed := true, recurses := true, apart := false }
def ExtentSetsSaid : Prop := extentSetsRow.holds Try.pinned (OpenSpec.ofChange extentSetsSpec)

/-- ITS FALSE NEIGHBOUR: 'it returns false'. Refute it at one input. -/
def extentSetsWrong : ChangeSpec := { name := "extentSets", fn := fun _ => fun
  | [d1, d2] => { results := [.lit (.bool false)], args := [d1, d2] }
  | _ => none }
def ExtentSetsWrongFalsely : Prop := extentSetsRow.holds Try.pinned (OpenSpec.ofChange extentSetsWrong)

/-- 'spindlelaw02.ExtentMembers': WHATEVER THE INPUT: true; the input reads as it did. -/
def extentMembersSpec : ChangeSpec := { name := "extentMembers", fn := fun _ => fun
  | [d1, d2, d3] => { results := [.lit (.bool true)], args := [d1, d2, d3] }
  | _ => none }
def extentMembersRow : OpenClaim := { program := "ytijafckdbhklmab", sum := "c00fc36515f31ae0107d3c36053715fdedc6b3f3e795cfefe16863be7b0dafe4", func := "spindle/spindlelaw02.ExtentMembers", spec := "extentMembers", inPlace := ["slices.overlaps[spindle/extent.Run[bool]]", "slices.overlaps[spindle/extent.Run[int]]"], unfollowed := true, recurses := true, apart := false }
def ExtentMembersSaid : Prop := extentMembersRow.holds Try.pinned (OpenSpec.ofChange extentMembersSpec)

/-- ITS FALSE NEIGHBOUR: 'it returns false'. Refute it at one input. -/
def extentMembersWrong : ChangeSpec := { name := "extentMembers", fn := fun _ => fun
  | [d1, d2, d3] => { results := [.lit (.bool false)], args := [d1, d2, d3] }
  | _ => none }
def ExtentMembersWrongFalsely : Prop := extentMembersRow.holds Try.pinned (OpenSpec.ofChange extentMembersWrong)

/-- 'spindlelaw02.ExtentAlgebra': WHATEVER THE INPUT: true; the input reads as it did. -/
def extentAlgebraSpec : ChangeSpec := { name := "extentAlgebra", fn := fun _ => fun
  | [d1, d2, d3] => { results := [.lit (.bool true)], args := [d1, d2, d3] }
  | _ => none }
def extentAlgebraRow : OpenClaim := { program := "ytijafckdbhklmab", sum := "c00fc36515f31ae0107d3c36053715fdedc6b3f3e795cfefe16863be7b0dafe4", func := "spindle/spindlelaw02.ExtentAlgebra", spec := "extentAlgebra", inPlace := ["slices.overlaps[spindle/extent.Run[bool]]", "slices.overlaps[spindle/extent.Run[int]]"], unfollowed := true, recurses := true, apart := false }
def ExtentAlgebraSaid : Prop := extentAlgebraRow.holds Try.pinned (OpenSpec.ofChange extentAlgebraSpec)

/-- ITS FALSE NEIGHBOUR: 'it returns false'. Refute it at one input. -/
def extentAlgebraWrong : ChangeSpec := { name := "extentAlgebra", fn := fun _ => fun
  | [d1, d2, d3] => { results := [.lit (.bool false)], args := [d1, d2, d3] }
  | _ => none }
def ExtentAlgebraWrongFalsely : Prop := extentAlgebraRow.holds Try.pinned (OpenSpec.ofChange extentAlgebraWrong)

/-- 'spindlelaw02.ExtentOwn': WHATEVER THE INPUT: true; the input reads as it did. -/
def extentOwnSpec : ChangeSpec := { name := "extentOwn", fn := fun _ => fun
  | [d1, d2] => { results := [.lit (.bool true)], args := [d1, d2] }
  | _ => none }
def extentOwnRow : OpenClaim := { program := "ytijafckdbhklmab", sum := "c00fc36515f31ae0107d3c36053715fdedc6b3f3e795cfefe16863be7b0dafe4", func := "spindle/spindlelaw02.ExtentOwn", spec := "extentOwn", inPlace := ["slices.overlaps[spindle/extent.Run[bool]]", "slices.overlaps[spindle/extent.Run[int]]"], unfollowed := true, recurses := true, apart := false }
def ExtentOwnSaid : Prop := extentOwnRow.holds Try.pinned (OpenSpec.ofChange extentOwnSpec)

/-- ITS FALSE NEIGHBOUR: 'it returns false'. Refute it at one input. -/
def extentOwnWrong : ChangeSpec := { name := "extentOwn", fn := fun _ => fun
  | [d1, d2] => { results := [.lit (.bool false)], args := [d1, d2] }
  | _ => none }
def ExtentOwnWrongFalsely : Prop := extentOwnRow.holds Try.pinned (OpenSpec.ofChange extentOwnWrong)

/- THE SECOND FORM. 'bulk': how many values and letters a reading holds, each counted each time it is reached (what is shared counts as often as it is met; a slice's spare places count too). A statement '..UptoSaid' is the law's where the arguments, and the package variables that the reading takes, are together of bulk at most 1048576: NARROWER than '..Said'. Prove '..Said' where nothing that the law and all that it calls make is longer than what came in: it says more and counts as full. Else prove '..UptoSaid'. A law counts once. -/
mutual
def uptoBulk {H : Type} : DataW H → Nat
  | .lit (.string bytes) => bytes.length + 1
  | .lit _ => 1
  | .nil => 1
  | .ptr d => uptoBulk d + 1
  | .slice elems spare => uptoBulkAll elems + uptoBulkAll spare + 1
  | .agg parts => uptoBulkAll parts + 1
  | .iface _ d => uptoBulk d + 1
  | .map entries => uptoBulkEntries entries + 1
  | .held _ => 1
def uptoBulkAll {H : Type} : List (DataW H) → Nat
  | [] => 0
  | d :: r => uptoBulk d + uptoBulkAll r
def uptoBulkEntries {H : Type} : List (Lit × DataW H) → Nat
  | [] => 0
  | x :: r => uptoBulkEntry x + uptoBulkEntries r
def uptoBulkEntry {H : Type} : Lit × DataW H → Nat
  | (.string bytes, d) => bytes.length + uptoBulk d + 1
  | (_, d) => uptoBulk d + 1
 end
def uptoSmall : (H : Type) → List (DataW H) → Bool := fun _ ds => decide (uptoBulkAll ds ≤ 1048576)
def OpenSpec.upto (s : _root_.Go.ChangeSpec) : _root_.Go.OpenSpec := { _root_.Go.OpenSpec.ofChange s with cond := some uptoSmall }

/-- 'spindlelaw02.ExtentFresh', WHERE WHAT IT READS IS OF BULK AT MOST 1048576: true; the input reads as it did. -/
def extentFreshUptoRow : OpenClaim := { program := "ytijafckdbhklmab", sum := "c00fc36515f31ae0107d3c36053715fdedc6b3f3e795cfefe16863be7b0dafe4", func := "spindle/spindlelaw02.ExtentFresh", spec := "extentFresh", inPlace := ["slices.overlaps[spindle/extent.Run[int]]", "slices.overlaps[spindle/extent.Run[bool]]"], unfollowed := true, recurses := true, apart := false, narrowed := true }
def ExtentFreshUptoSaid : Prop := extentFreshUptoRow.holds Try.pinned (OpenSpec.upto extentFreshSpec)

/-- 'spindlelaw02.ExtentNobody', WHERE WHAT IT READS IS OF BULK AT MOST 1048576: true; the input reads as it did. -/
def extentNobodyUptoRow : OpenClaim := { program := "ytijafckdbhklmab", sum := "c00fc36515f31ae0107d3c36053715fdedc6b3f3e795cfefe16863be7b0dafe4", func := "spindle/spindlelaw02.ExtentNobody", spec := "extentNobody", inPlace := ["slices.overlaps[spindle/extent.Run[int]]", "slices.overlaps[spindle/extent.Run[bool]]"], unfollowed := true, recurses := true, apart := false, narrowed := true }
def ExtentNobodyUptoSaid : Prop := extentNobodyUptoRow.holds Try.pinned (OpenSpec.upto extentNobodySpec)

/-- 'spindlelaw02.ExtentSets', WHERE WHAT IT READS IS OF BULK AT MOST 1048576: true; the input reads as it did. -/
def extentSetsUptoRow : OpenClaim := { program := "ytijafckdbhklmab", sum := "c00fc36515f31ae0107d3c36053715fdedc6b3f3e795cfefe16863be7b0dafe4", func := "spindle/spindlelaw02.ExtentSets", spec := "extentSets", inPlace := ["slices.overlaps[spindle/extent.Run[bool]]", "slices.overlaps[spindle/extent.Run[int]]"], unfollowed := true, recurses := true, apart := false, narrowed := true }
def ExtentSetsUptoSaid : Prop := extentSetsUptoRow.holds Try.pinned (OpenSpec.upto extentSetsSpec)

/-- 'spindlelaw02.ExtentMembers', WHERE WHAT IT READS IS OF BULK AT MOST 1048576: true; the input reads as it did. -/
def extentMembersUptoRow : OpenClaim := { program := "ytijafckdbhklmab", sum := "c00fc36515f31ae0107d3c36053715fdedc6b3f3e795cfefe16863be7b0dafe4", func := "spindle/spindlelaw02.ExtentMembers", spec := "extentMembers", inPlace := ["slices.overlaps[spindle/extent.Run[bool]]", "slices.overlaps[spindle/extent.Run[int]]"], unfollowed := true, recurses := true, apart := false, narrowed := true }
def ExtentMembersUptoSaid : Prop := extentMembersUptoRow.holds Try.pinned (OpenSpec.upto extentMembersSpec)

/-- 'spindlelaw02.ExtentAlgebra', WHERE WHAT IT READS IS OF BULK AT MOST 1048576: true; the input reads as it did. -/
def extentAlgebraUptoRow : OpenClaim := { program := "ytijafckdbhklmab", sum := "c00fc36515f31ae0107d3c36053715fdedc6b3f3e795cfefe16863be7b0dafe4", func := "spindle/spindlelaw02.ExtentAlgebra", spec := "extentAlgebra", inPlace := ["slices.overlaps[spindle/extent.Run[bool]]", "slices.overlaps[spindle/extent.Run[int]]"], unfollowed := true, recurses := true, apart := false, narrowed := true }
def ExtentAlgebraUptoSaid : Prop := extentAlgebraUptoRow.holds Try.pinned (OpenSpec.upto extentAlgebraSpec)

/-- 'spindlelaw02.ExtentOwn', WHERE WHAT IT READS IS OF BULK AT MOST 1048576: true; the input reads as it did. -/
def extentOwnUptoRow : OpenClaim := { program := "ytijafckdbhklmab", sum := "c00fc36515f31ae0107d3c36053715fdedc6b3f3e795cfefe16863be7b0dafe4", func := "spindle/spindlelaw02.ExtentOwn", spec := "extentOwn", inPlace := ["slices.overlaps[spindle/extent.Run[bool]]", "slices.overlaps[spindle/extent.Run[int]]"], unfollowed := true, recurses := true, apart := false, narrowed := true }
def ExtentOwnUptoSaid : Prop := extentOwnUptoRow.holds Try.pinned (OpenSpec.upto extentOwnSpec)

end Rows
end Go.Proofs.Ytijafckdbhklmab
