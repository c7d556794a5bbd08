/-
  No cell of these rows narrows 'for every input' (looked for: loops, veiled, ifaces, maps, wideKeys, modest, calm, conditions, laid).
  DERIVED. THE GIVEN ROWS OF THIS SEAT. 6 by the template 'for every input the law returns true; each argument reads behind the call as it read before'; 0 by the template 'total and deterministic' (their statements: YtjkoambfecmglaaTotals.lean).
  GIVEN WITH THE SEED: the statements are not yours to turn. If you find one false, say at which input.
  Laid BY PROGRAM, IN A SANDBOX (cutbox-rows.mjs): the forced cells as the released guide's own fill.sh prints them over the translation c2fd4d32cd48eaaf… (all of the seat's roots in one cut). By AI agents, Wed Nov 11 2026. No macro, syntax, notation, axiom, sorry.
-/
import Derived.Test.YtjkoambfecmglaaChecked
import GoSem.Claim
import GoSem.ClaimJoined
import GoSem.ClaimMapViews
import Derived.JoinedTies
import Derived.KernelRfl
namespace Go.Proofs.Ytjkoambfecmglaa
/- THE CELL 'sum', in the pinned program and in every row, IS THE sha256 OF THE DUMP (.gsa) THAT YtjkoambfecmglaaProg.lean LOADS. Nothing in Lean hashes anything: it is a label: what it is worth is what the hold of that sum in a sandbox is worth. -/
noncomputable def Try.pinned : Pinned := { name := "ytjkoambfecmglaa", sum := "c2fd4d32cd48eaaf3a238e2b5d50f471669cb23d605b1e3350903abcff8ce38e", checked := Try.checked }
namespace Rows
def none {H : Type} : Left H := { results := [], args := [] }

/-- 'spindlelaw17.JudgeFollows': WHATEVER THE INPUT: true; the input reads as it did. -/
def judgeFollowsSpec : ChangeSpec := { name := "judgeFollows", fn := fun _ => fun
  | [d1, d2, d3] => { results := [.lit (.bool true)], args := [d1, d2, d3] }
  | _ => none }
def judgeFollowsRow : OpenClaim := { program := "ytjkoambfecmglaa", sum := "c2fd4d32cd48eaaf3a238e2b5d50f471669cb23d605b1e3350903abcff8ce38e", func := "spindle/spindlelaw17.JudgeFollows", spec := "judgeFollows", unfollowed := true, recurses := true, plainKeys := false, apart := false }
def JudgeFollowsSaid : Prop := judgeFollowsRow.holds Try.pinned (OpenSpec.ofChange judgeFollowsSpec)

/-- ITS FALSE NEIGHBOUR: 'it returns false'. Refute it at one input. -/
def judgeFollowsWrong : ChangeSpec := { name := "judgeFollows", fn := fun _ => fun
  | [d1, d2, d3] => { results := [.lit (.bool false)], args := [d1, d2, d3] }
  | _ => none }
def JudgeFollowsWrongFalsely : Prop := judgeFollowsRow.holds Try.pinned (OpenSpec.ofChange judgeFollowsWrong)

/-- 'spindlelaw17.JudgeOrders': WHATEVER THE INPUT: true; the input reads as it did. -/
def judgeOrdersSpec : ChangeSpec := { name := "judgeOrders", fn := fun _ => fun
  | [d1, d2] => { results := [.lit (.bool true)], args := [d1, d2] }
  | _ => none }
def judgeOrdersRow : OpenClaim := { program := "ytjkoambfecmglaa", sum := "c2fd4d32cd48eaaf3a238e2b5d50f471669cb23d605b1e3350903abcff8ce38e", func := "spindle/spindlelaw17.JudgeOrders", spec := "judgeOrders", unfollowed := true, recurses := true, plainKeys := false, apart := false }
def JudgeOrdersSaid : Prop := judgeOrdersRow.holds Try.pinned (OpenSpec.ofChange judgeOrdersSpec)

/-- ITS FALSE NEIGHBOUR: 'it returns false'. Refute it at one input. -/
def judgeOrdersWrong : ChangeSpec := { name := "judgeOrders", fn := fun _ => fun
  | [d1, d2] => { results := [.lit (.bool false)], args := [d1, d2] }
  | _ => none }
def JudgeOrdersWrongFalsely : Prop := judgeOrdersRow.holds Try.pinned (OpenSpec.ofChange judgeOrdersWrong)

/-- 'spindlelaw17.JudgeSurvives': WHATEVER THE INPUT: true; the input reads as it did. -/
def judgeSurvivesSpec : ChangeSpec := { name := "judgeSurvives", fn := fun _ => fun
  | [d1, d2, d3, d4] => { results := [.lit (.bool true)], args := [d1, d2, d3, d4] }
  | _ => none }
def judgeSurvivesRow : OpenClaim := { program := "ytjkoambfecmglaa", sum := "c2fd4d32cd48eaaf3a238e2b5d50f471669cb23d605b1e3350903abcff8ce38e", func := "spindle/spindlelaw17.JudgeSurvives", spec := "judgeSurvives", unfollowed := true, recurses := true, plainKeys := false, apart := false }
def JudgeSurvivesSaid : Prop := judgeSurvivesRow.holds Try.pinned (OpenSpec.ofChange judgeSurvivesSpec)

/-- ITS FALSE NEIGHBOUR: 'it returns false'. Refute it at one input. -/
def judgeSurvivesWrong : ChangeSpec := { name := "judgeSurvives", fn := fun _ => fun
  | [d1, d2, d3, d4] => { results := [.lit (.bool false)], args := [d1, d2, d3, d4] }
  | _ => none }
def JudgeSurvivesWrongFalsely : Prop := judgeSurvivesRow.holds Try.pinned (OpenSpec.ofChange judgeSurvivesWrong)

/-- 'spindlelaw17.JudgeFinds': WHATEVER THE INPUT: true; the input reads as it did. -/
def judgeFindsSpec : ChangeSpec := { name := "judgeFinds", fn := fun _ => fun
  | [d1, d2, d3] => { results := [.lit (.bool true)], args := [d1, d2, d3] }
  | _ => none }
def judgeFindsRow : OpenClaim := { program := "ytjkoambfecmglaa", sum := "c2fd4d32cd48eaaf3a238e2b5d50f471669cb23d605b1e3350903abcff8ce38e", func := "spindle/spindlelaw17.JudgeFinds", spec := "judgeFinds", unfollowed := true, recurses := true, plainKeys := false, apart := false }
def JudgeFindsSaid : Prop := judgeFindsRow.holds Try.pinned (OpenSpec.ofChange judgeFindsSpec)

/-- ITS FALSE NEIGHBOUR: 'it returns false'. Refute it at one input. -/
def judgeFindsWrong : ChangeSpec := { name := "judgeFinds", fn := fun _ => fun
  | [d1, d2, d3] => { results := [.lit (.bool false)], args := [d1, d2, d3] }
  | _ => none }
def JudgeFindsWrongFalsely : Prop := judgeFindsRow.holds Try.pinned (OpenSpec.ofChange judgeFindsWrong)

/-- 'spindlelaw17.JudgeReal': WHATEVER THE INPUT: true; the input reads as it did. -/
def judgeRealSpec : ChangeSpec := { name := "judgeReal", fn := fun _ => fun
  | [d1, d2, d3] => { results := [.lit (.bool true)], args := [d1, d2, d3] }
  | _ => none }
def judgeRealRow : OpenClaim := { program := "ytjkoambfecmglaa", sum := "c2fd4d32cd48eaaf3a238e2b5d50f471669cb23d605b1e3350903abcff8ce38e", func := "spindle/spindlelaw17.JudgeReal", spec := "judgeReal", unfollowed := true, recurses := true, plainKeys := false, apart := false }
def JudgeRealSaid : Prop := judgeRealRow.holds Try.pinned (OpenSpec.ofChange judgeRealSpec)

/-- ITS FALSE NEIGHBOUR: 'it returns false'. Refute it at one input. -/
def judgeRealWrong : ChangeSpec := { name := "judgeReal", fn := fun _ => fun
  | [d1, d2, d3] => { results := [.lit (.bool false)], args := [d1, d2, d3] }
  | _ => none }
def JudgeRealWrongFalsely : Prop := judgeRealRow.holds Try.pinned (OpenSpec.ofChange judgeRealWrong)

/-- 'spindlelaw17.JudgeMixes': WHATEVER THE INPUT: true; the input reads as it did. -/
def judgeMixesSpec : ChangeSpec := { name := "judgeMixes", fn := fun _ => fun
  | [d1, d2, d3, d4, d5, d6] => { results := [.lit (.bool true)], args := [d1, d2, d3, d4, d5, d6] }
  | _ => none }
def judgeMixesRow : OpenClaim := { program := "ytjkoambfecmglaa", sum := "c2fd4d32cd48eaaf3a238e2b5d50f471669cb23d605b1e3350903abcff8ce38e", func := "spindle/spindlelaw17.JudgeMixes", spec := "judgeMixes", unfollowed := true, recurses := true, plainKeys := false, apart := false }
def JudgeMixesSaid : Prop := judgeMixesRow.holds Try.pinned (OpenSpec.ofChange judgeMixesSpec)

/-- ITS FALSE NEIGHBOUR: 'it returns false'. Refute it at one input. -/
def judgeMixesWrong : ChangeSpec := { name := "judgeMixes", fn := fun _ => fun
  | [d1, d2, d3, d4, d5, d6] => { results := [.lit (.bool false)], args := [d1, d2, d3, d4, d5, d6] }
  | _ => none }
def JudgeMixesWrongFalsely : Prop := judgeMixesRow.holds Try.pinned (OpenSpec.ofChange judgeMixesWrong)

/- THE SECOND FORM. 'bulk': how many values and letters a reading holds, each counted each time it is reached (what is shared counts as often as it is met; a slice's spare places count too). A statement '..UptoSaid' is the law's where the arguments, and the package variables that the reading takes, are together of bulk at most 1048576: NARROWER than '..Said'. Prove '..Said' where nothing that the law and all that it calls make is longer than what came in: it says more and counts as full. Else prove '..UptoSaid'. A law counts once. -/
mutual
def uptoBulk {H : Type} : DataW H → Nat
  | .lit (.string bytes) => bytes.length + 1
  | .lit _ => 1
  | .nil => 1
  | .ptr d => uptoBulk d + 1
  | .slice elems spare => uptoBulkAll elems + uptoBulkAll spare + 1
  | .agg parts => uptoBulkAll parts + 1
  | .iface _ d => uptoBulk d + 1
  | .map entries => uptoBulkEntries entries + 1
  | .held _ => 1
def uptoBulkAll {H : Type} : List (DataW H) → Nat
  | [] => 0
  | d :: r => uptoBulk d + uptoBulkAll r
def uptoBulkEntries {H : Type} : List (Lit × DataW H) → Nat
  | [] => 0
  | x :: r => uptoBulkEntry x + uptoBulkEntries r
def uptoBulkEntry {H : Type} : Lit × DataW H → Nat
  | (.string bytes, d) => bytes.length + uptoBulk d + 1
  | (_, d) => uptoBulk d + 1
 end
def uptoSmall : (H : Type) → List (DataW H) → Bool := fun _ ds => decide (uptoBulkAll ds ≤ 1048576)
def OpenSpec.upto (s : _root_.Go.ChangeSpec) : _root_.Go.OpenSpec := { _root_.Go.OpenSpec.ofChange s with cond := some uptoSmall }

/-- 'spindlelaw17.JudgeFollows', WHERE WHAT IT READS IS OF BULK AT MOST 1048576: true; the input reads as it did. -/
def judgeFollowsUptoRow : OpenClaim := { program := "ytjkoambfecmglaa", sum := "c2fd4d32cd48eaaf3a238e2b5d50f471669cb23d605b1e3350903abcff8ce38e", func := "spindle/spindlelaw17.JudgeFollows", spec := "judgeFollows", unfollowed := true, recurses := true, plainKeys := false, apart := false, narrowed := true }
def JudgeFollowsUptoSaid : Prop := judgeFollowsUptoRow.holds Try.pinned (OpenSpec.upto judgeFollowsSpec)

/-- 'spindlelaw17.JudgeOrders', WHERE WHAT IT READS IS OF BULK AT MOST 1048576: true; the input reads as it did. -/
def judgeOrdersUptoRow : OpenClaim := { program := "ytjkoambfecmglaa", sum := "c2fd4d32cd48eaaf3a238e2b5d50f471669cb23d605b1e3350903abcff8ce38e", func := "spindle/spindlelaw17.JudgeOrders", spec := "judgeOrders", unfollowed := true, recurses := true, plainKeys := false, apart := false, narrowed := true }
def JudgeOrdersUptoSaid : Prop := judgeOrdersUptoRow.holds Try.pinned (OpenSpec.upto judgeOrdersSpec)

/-- 'spindlelaw17.JudgeSurvives', WHERE WHAT IT READS IS OF BULK AT MOST 1048576: true; the input reads as it did. -/
def judgeSurvivesUptoRow : OpenClaim := { program := "ytjkoambfecmglaa", sum := "c2fd4d32cd48eaaf3a238e2b5d50f471669cb23d605b1e3350903abcff8ce38e", func := "spindle/spindlelaw17.JudgeSurvives", spec := "judgeSurvives", unfollowed := true, recurses := true, plainKeys := false, apart := false, narrowed := true }
def JudgeSurvivesUptoSaid : Prop := judgeSurvivesUptoRow.holds Try.pinned (OpenSpec.upto judgeSurvivesSpec)

/-- 'spindlelaw17.JudgeFinds', WHERE WHAT IT READS IS OF BULK AT MOST 1048576: true; the input reads as it did. -/
def judgeFindsUptoRow : OpenClaim := { program := "ytjkoambfecmglaa", sum := "c2fd4d32cd48eaaf3a238e2b5d50f471669cb23d605b1e3350903abcff8ce38e", func := "spindle/spindlelaw17.JudgeFinds", spec := "judgeFinds", unfollowed := true, recurses := true, plainKeys := false, apart := false, narrowed := true }
def JudgeFindsUptoSaid : Prop := judgeFindsUptoRow.holds Try.pinned (OpenSpec.upto judgeFindsSpec)

/-- 'spindlelaw17.JudgeReal', WHERE WHAT IT READS IS OF BULK AT MOST 1048576: true; the input reads as it did. -/
def judgeRealUptoRow : OpenClaim := { program := "ytjkoambfecmglaa", sum := "c2fd4d32cd48eaaf3a238e2b5d50f471669cb23d605b1e3350903abcff8ce38e", func := "spindle/spindlelaw17.JudgeReal", spec := "judgeReal", unfollowed := true, recurses := true, plainKeys := false, apart := false, narrowed := true }
def JudgeRealUptoSaid : Prop := judgeRealUptoRow.holds Try.pinned (OpenSpec.upto judgeRealSpec)

/-- 'spindlelaw17.JudgeMixes', WHERE WHAT IT READS IS OF BULK AT MOST 1048576: true; the input reads as it did. -/
def judgeMixesUptoRow : OpenClaim := { program := "ytjkoambfecmglaa", sum := "c2fd4d32cd48eaaf3a238e2b5d50f471669cb23d605b1e3350903abcff8ce38e", func := "spindle/spindlelaw17.JudgeMixes", spec := "judgeMixes", unfollowed := true, recurses := true, plainKeys := false, apart := false, narrowed := true }
def JudgeMixesUptoSaid : Prop := judgeMixesUptoRow.holds Try.pinned (OpenSpec.upto judgeMixesSpec)

end Rows
end Go.Proofs.Ytjkoambfecmglaa
