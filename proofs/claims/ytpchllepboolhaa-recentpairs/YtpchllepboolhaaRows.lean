/-
  No cell of these rows narrows 'for every input' (looked for: loops, veiled, ifaces, maps, wideKeys, modest, calm, conditions, laid).
  DERIVED. THE GIVEN ROWS OF THIS SEAT. 6 by the template 'for every input the law returns true; each argument reads behind the call as it read before'; 0 by the template 'total and deterministic' (their statements: YtpchllepboolhaaTotals.lean).
  GIVEN WITH THE SEED: the statements are not yours to turn. If you find one false, say at which input.
  Laid BY PROGRAM, IN A SANDBOX (cutbox-rows.mjs): the forced cells as the released guide's own fill.sh prints them over the translation fd854b9ebf644e5e… (all of the seat's roots in one cut). By AI agents, Wed Nov 11 2026. No macro, syntax, notation, axiom, sorry.
-/
import Derived.Test.YtpchllepboolhaaChecked
import GoSem.Claim
import GoSem.ClaimJoined
import GoSem.ClaimMapViews
import Derived.JoinedTies
import Derived.KernelRfl
namespace Go.Proofs.Ytpchllepboolhaa
/- THE CELL 'sum', in the pinned program and in every row, IS THE sha256 OF THE DUMP (.gsa) THAT YtpchllepboolhaaProg.lean LOADS. Nothing in Lean hashes anything: it is a label: what it is worth is what the hold of that sum in a sandbox is worth. -/
noncomputable def Try.pinned : Pinned := { name := "ytpchllepboolhaa", sum := "fd854b9ebf644e5e59953e570e5cafd978b88562fef0968d79b56660314360b8", checked := Try.checked }
namespace Rows
def none {H : Type} : Left H := { results := [], args := [] }

/-- 'spindlelaw04.RecentPlays': WHATEVER THE INPUT: true; the input reads as it did. -/
def recentPlaysSpec : ChangeSpec := { name := "recentPlays", fn := fun _ => fun
  | [d1, d2] => { results := [.lit (.bool true)], args := [d1, d2] }
  | _ => none }
def recentPlaysRow : OpenClaim := { program := "ytpchllepboolhaa", sum := "fd854b9ebf644e5e59953e570e5cafd978b88562fef0968d79b56660314360b8", func := "spindle/spindlelaw04.RecentPlays", spec := "recentPlays", unfollowed := true, recurses := true, plainKeys := false, apart := false }
def RecentPlaysSaid : Prop := recentPlaysRow.holds Try.pinned (OpenSpec.ofChange recentPlaysSpec)

/-- ITS FALSE NEIGHBOUR: 'it returns false'. Refute it at one input. -/
def recentPlaysWrong : ChangeSpec := { name := "recentPlays", fn := fun _ => fun
  | [d1, d2] => { results := [.lit (.bool false)], args := [d1, d2] }
  | _ => none }
def RecentPlaysWrongFalsely : Prop := recentPlaysRow.holds Try.pinned (OpenSpec.ofChange recentPlaysWrong)

/-- 'spindlelaw04.RecentPairs': WHATEVER THE INPUT: true; the input reads as it did. -/
def recentPairsSpec : ChangeSpec := { name := "recentPairs", fn := fun _ => fun
  | [d1, d2] => { results := [.lit (.bool true)], args := [d1, d2] }
  | _ => none }
def recentPairsRow : OpenClaim := { program := "ytpchllepboolhaa", sum := "fd854b9ebf644e5e59953e570e5cafd978b88562fef0968d79b56660314360b8", func := "spindle/spindlelaw04.RecentPairs", spec := "recentPairs", unfollowed := true, recurses := true, plainKeys := false, apart := false }
def RecentPairsSaid : Prop := recentPairsRow.holds Try.pinned (OpenSpec.ofChange recentPairsSpec)

/-- ITS FALSE NEIGHBOUR: 'it returns false'. Refute it at one input. -/
def recentPairsWrong : ChangeSpec := { name := "recentPairs", fn := fun _ => fun
  | [d1, d2] => { results := [.lit (.bool false)], args := [d1, d2] }
  | _ => none }
def RecentPairsWrongFalsely : Prop := recentPairsRow.holds Try.pinned (OpenSpec.ofChange recentPairsWrong)

/-- 'spindlelaw04.RecentLast': WHATEVER THE INPUT: true; the input reads as it did. -/
def recentLastSpec : ChangeSpec := { name := "recentLast", fn := fun _ => fun
  | [d1, d2] => { results := [.lit (.bool true)], args := [d1, d2] }
  | _ => none }
def recentLastRow : OpenClaim := { program := "ytpchllepboolhaa", sum := "fd854b9ebf644e5e59953e570e5cafd978b88562fef0968d79b56660314360b8", func := "spindle/spindlelaw04.RecentLast", spec := "recentLast", unfollowed := true, recurses := true, plainKeys := false, apart := false }
def RecentLastSaid : Prop := recentLastRow.holds Try.pinned (OpenSpec.ofChange recentLastSpec)

/-- ITS FALSE NEIGHBOUR: 'it returns false'. Refute it at one input. -/
def recentLastWrong : ChangeSpec := { name := "recentLast", fn := fun _ => fun
  | [d1, d2] => { results := [.lit (.bool false)], args := [d1, d2] }
  | _ => none }
def RecentLastWrongFalsely : Prop := recentLastRow.holds Try.pinned (OpenSpec.ofChange recentLastWrong)

/-- 'spindlelaw04.RecentRow': WHATEVER THE INPUT: true; the input reads as it did. -/
def recentRowSpec : ChangeSpec := { name := "recentRow", fn := fun _ => fun
  | [d1, d2] => { results := [.lit (.bool true)], args := [d1, d2] }
  | _ => none }
def recentRowRow : OpenClaim := { program := "ytpchllepboolhaa", sum := "fd854b9ebf644e5e59953e570e5cafd978b88562fef0968d79b56660314360b8", func := "spindle/spindlelaw04.RecentRow", spec := "recentRow", unfollowed := true, recurses := true, plainKeys := false, apart := false }
def RecentRowSaid : Prop := recentRowRow.holds Try.pinned (OpenSpec.ofChange recentRowSpec)

/-- ITS FALSE NEIGHBOUR: 'it returns false'. Refute it at one input. -/
def recentRowWrong : ChangeSpec := { name := "recentRow", fn := fun _ => fun
  | [d1, d2] => { results := [.lit (.bool false)], args := [d1, d2] }
  | _ => none }
def RecentRowWrongFalsely : Prop := recentRowRow.holds Try.pinned (OpenSpec.ofChange recentRowWrong)

/-- 'spindlelaw04.RecentSeen': WHATEVER THE INPUT: true; the input reads as it did. -/
def recentSeenSpec : ChangeSpec := { name := "recentSeen", fn := fun _ => fun
  | [d1, d2, d3] => { results := [.lit (.bool true)], args := [d1, d2, d3] }
  | _ => none }
def recentSeenRow : OpenClaim := { program := "ytpchllepboolhaa", sum := "fd854b9ebf644e5e59953e570e5cafd978b88562fef0968d79b56660314360b8", func := "spindle/spindlelaw04.RecentSeen", spec := "recentSeen", unfollowed := true, recurses := true, plainKeys := false, apart := false }
def RecentSeenSaid : Prop := recentSeenRow.holds Try.pinned (OpenSpec.ofChange recentSeenSpec)

/-- ITS FALSE NEIGHBOUR: 'it returns false'. Refute it at one input. -/
def recentSeenWrong : ChangeSpec := { name := "recentSeen", fn := fun _ => fun
  | [d1, d2, d3] => { results := [.lit (.bool false)], args := [d1, d2, d3] }
  | _ => none }
def RecentSeenWrongFalsely : Prop := recentSeenRow.holds Try.pinned (OpenSpec.ofChange recentSeenWrong)

/-- 'spindlelaw04.RecentPins': WHATEVER THE INPUT: true; the input reads as it did. -/
def recentPinsSpec : ChangeSpec := { name := "recentPins", fn := fun _ => fun
  | [d1, d2, d3] => { results := [.lit (.bool true)], args := [d1, d2, d3] }
  | _ => none }
def recentPinsRow : OpenClaim := { program := "ytpchllepboolhaa", sum := "fd854b9ebf644e5e59953e570e5cafd978b88562fef0968d79b56660314360b8", func := "spindle/spindlelaw04.RecentPins", spec := "recentPins", unfollowed := true, recurses := true, plainKeys := false, apart := false }
def RecentPinsSaid : Prop := recentPinsRow.holds Try.pinned (OpenSpec.ofChange recentPinsSpec)

/-- ITS FALSE NEIGHBOUR: 'it returns false'. Refute it at one input. -/
def recentPinsWrong : ChangeSpec := { name := "recentPins", fn := fun _ => fun
  | [d1, d2, d3] => { results := [.lit (.bool false)], args := [d1, d2, d3] }
  | _ => none }
def RecentPinsWrongFalsely : Prop := recentPinsRow.holds Try.pinned (OpenSpec.ofChange recentPinsWrong)

/- THE SECOND FORM. 'bulk': how many values and letters a reading holds, each counted each time it is reached (what is shared counts as often as it is met; a slice's spare places count too). A statement '..UptoSaid' is the law's where the arguments, and the package variables that the reading takes, are together of bulk at most 1048576: NARROWER than '..Said'. Prove '..Said' where nothing that the law and all that it calls make is longer than what came in: it says more and counts as full. Else prove '..UptoSaid'. A law counts once. -/
mutual
def uptoBulk {H : Type} : DataW H → Nat
  | .lit (.string bytes) => bytes.length + 1
  | .lit _ => 1
  | .nil => 1
  | .ptr d => uptoBulk d + 1
  | .slice elems spare => uptoBulkAll elems + uptoBulkAll spare + 1
  | .agg parts => uptoBulkAll parts + 1
  | .iface _ d => uptoBulk d + 1
  | .map entries => uptoBulkEntries entries + 1
  | .held _ => 1
def uptoBulkAll {H : Type} : List (DataW H) → Nat
  | [] => 0
  | d :: r => uptoBulk d + uptoBulkAll r
def uptoBulkEntries {H : Type} : List (Lit × DataW H) → Nat
  | [] => 0
  | x :: r => uptoBulkEntry x + uptoBulkEntries r
def uptoBulkEntry {H : Type} : Lit × DataW H → Nat
  | (.string bytes, d) => bytes.length + uptoBulk d + 1
  | (_, d) => uptoBulk d + 1
 end
def uptoSmall : (H : Type) → List (DataW H) → Bool := fun _ ds => decide (uptoBulkAll ds ≤ 1048576)
def OpenSpec.upto (s : _root_.Go.ChangeSpec) : _root_.Go.OpenSpec := { _root_.Go.OpenSpec.ofChange s with cond := some uptoSmall }

/-- 'spindlelaw04.RecentPlays', WHERE WHAT IT READS IS OF BULK AT MOST 1048576: true; the input reads as it did. -/
def recentPlaysUptoRow : OpenClaim := { program := "ytpchllepboolhaa", sum := "fd854b9ebf644e5e59953e570e5cafd978b88562fef0968d79b56660314360b8", func := "spindle/spindlelaw04.RecentPlays", spec := "recentPlays", unfollowed := true, recurses := true, plainKeys := false, apart := false, narrowed := true }
def RecentPlaysUptoSaid : Prop := recentPlaysUptoRow.holds Try.pinned (OpenSpec.upto recentPlaysSpec)

/-- 'spindlelaw04.RecentPairs', WHERE WHAT IT READS IS OF BULK AT MOST 1048576: true; the input reads as it did. -/
def recentPairsUptoRow : OpenClaim := { program := "ytpchllepboolhaa", sum := "fd854b9ebf644e5e59953e570e5cafd978b88562fef0968d79b56660314360b8", func := "spindle/spindlelaw04.RecentPairs", spec := "recentPairs", unfollowed := true, recurses := true, plainKeys := false, apart := false, narrowed := true }
def RecentPairsUptoSaid : Prop := recentPairsUptoRow.holds Try.pinned (OpenSpec.upto recentPairsSpec)

/-- 'spindlelaw04.RecentLast', WHERE WHAT IT READS IS OF BULK AT MOST 1048576: true; the input reads as it did. -/
def recentLastUptoRow : OpenClaim := { program := "ytpchllepboolhaa", sum := "fd854b9ebf644e5e59953e570e5cafd978b88562fef0968d79b56660314360b8", func := "spindle/spindlelaw04.RecentLast", spec := "recentLast", unfollowed := true, recurses := true, plainKeys := false, apart := false, narrowed := true }
def RecentLastUptoSaid : Prop := recentLastUptoRow.holds Try.pinned (OpenSpec.upto recentLastSpec)

/-- 'spindlelaw04.RecentRow', WHERE WHAT IT READS IS OF BULK AT MOST 1048576: true; the input reads as it did. -/
def recentRowUptoRow : OpenClaim := { program := "ytpchllepboolhaa", sum := "fd854b9ebf644e5e59953e570e5cafd978b88562fef0968d79b56660314360b8", func := "spindle/spindlelaw04.RecentRow", spec := "recentRow", unfollowed := true, recurses := true, plainKeys := false, apart := false, narrowed := true }
def RecentRowUptoSaid : Prop := recentRowUptoRow.holds Try.pinned (OpenSpec.upto recentRowSpec)

/-- 'spindlelaw04.RecentSeen', WHERE WHAT IT READS IS OF BULK AT MOST 1048576: true; the input reads as it did. -/
def recentSeenUptoRow : OpenClaim := { program := "ytpchllepboolhaa", sum := "fd854b9ebf644e5e59953e570e5cafd978b88562fef0968d79b56660314360b8", func := "spindle/spindlelaw04.RecentSeen", spec := "recentSeen", unfollowed := true, recurses := true, plainKeys := false, apart := false, narrowed := true }
def RecentSeenUptoSaid : Prop := recentSeenUptoRow.holds Try.pinned (OpenSpec.upto recentSeenSpec)

/-- 'spindlelaw04.RecentPins', WHERE WHAT IT READS IS OF BULK AT MOST 1048576: true; the input reads as it did. -/
def recentPinsUptoRow : OpenClaim := { program := "ytpchllepboolhaa", sum := "fd854b9ebf644e5e59953e570e5cafd978b88562fef0968d79b56660314360b8", func := "spindle/spindlelaw04.RecentPins", spec := "recentPins", unfollowed := true, recurses := true, plainKeys := false, apart := false, narrowed := true }
def RecentPinsUptoSaid : Prop := recentPinsUptoRow.holds Try.pinned (OpenSpec.upto recentPinsSpec)

end Rows
end Go.Proofs.Ytpchllepboolhaa
