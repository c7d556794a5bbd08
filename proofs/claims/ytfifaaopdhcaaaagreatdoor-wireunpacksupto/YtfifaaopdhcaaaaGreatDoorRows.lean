/-
  NARROWER THAN 'FOR EVERY INPUT', by the rows' own cells (each row's printed sentence says how): WireUnpacks: laid.
  DERIVED. THE GIVEN ROWS OF THIS SEAT. 1 by the template 'for every input the law returns true; each argument reads behind the call as it read before'; 0 by the template 'total and deterministic' (their statements: YtfifaaopdhcaaaaGreatDoorTotals.lean).
  GIVEN WITH THE SEED: the statements are not yours to turn. If you find one false, say at which input.
  Laid BY PROGRAM, IN A SANDBOX (cutbox-rows.mjs): the forced cells as the released guide's own fill.sh prints them over the translation a74b3befe97aad4e… (all of the seat's roots in one cut). By AI agents, Wed Nov 11 2026. No macro, syntax, notation, axiom, sorry.
-/
import Derived.Test.YtfifaaopdhcaaaaGreatDoorChecked
import GoSem.PinnedTables
import GoSem.Claim
import GoSem.ClaimJoined
import GoSem.ClaimMapViews
import Derived.JoinedTies
import Derived.KernelRfl
namespace Go.Proofs.YtfifaaopdhcaaaaGreatDoor
/- THE CELL 'sum', in the pinned program and in every row, IS THE sha256 OF THE DUMP (.gsa) THAT YtfifaaopdhcaaaaGreatDoorProg.lean LOADS. Nothing in Lean hashes anything: it is a label: what it is worth is what the hold of that sum in a sandbox is worth. -/
noncomputable def Tryz.pinned : Pinned := { name := "ytfifaaopdhcaaaagreatdoor", sum := "a74b3befe97aad4ea8d95aa2723c342b880aba0a8c7b9869055e99dc8e97d106", checked := Tryz.checked }
namespace Rows
def none {H : Type} : Left H := { results := [], args := [] }

/- WHAT THE LISTED PACKAGE-LEVEL VARIABLES READ AS WHEN THE CALL BEGINS. Each datum BY PROGRAM (the guide's laid-datum.mjs) off the statement by which the dump's own 'gosem.cut.vars' lays the variable. In a bare row this is a premise. The card (YtfifaaopdhcaaaaGreatDoorCards.lean) ties it to the program's text. -/
def laid_unicode_utf8_acceptRanges {H : Type} : DataW H := .agg [.agg [.lit (.int .u8 128), .lit (.int .u8 191)], .agg [.lit (.int .u8 160), .lit (.int .u8 191)], .agg [.lit (.int .u8 128), .lit (.int .u8 159)], .agg [.lit (.int .u8 144), .lit (.int .u8 191)], .agg [.lit (.int .u8 128), .lit (.int .u8 143)], .agg [.lit (.int .u8 0), .lit (.int .u8 0)], .agg [.lit (.int .u8 0), .lit (.int .u8 0)], .agg [.lit (.int .u8 0), .lit (.int .u8 0)], .agg [.lit (.int .u8 0), .lit (.int .u8 0)], .agg [.lit (.int .u8 0), .lit (.int .u8 0)], .agg [.lit (.int .u8 0), .lit (.int .u8 0)], .agg [.lit (.int .u8 0), .lit (.int .u8 0)], .agg [.lit (.int .u8 0), .lit (.int .u8 0)], .agg [.lit (.int .u8 0), .lit (.int .u8 0)], .agg [.lit (.int .u8 0), .lit (.int .u8 0)], .agg [.lit (.int .u8 0), .lit (.int .u8 0)]]
def laid_spindle_wire_haggled {H : Type} : DataW H := .agg [.agg [.lit (.int .i64 1), .lit (.int .u32 1), .lit (.string [101, 120, 112, 111, 114, 116, 45, 110, 97, 109, 101])], .agg [.lit (.int .i64 1), .lit (.int .u32 2), .lit (.string [97, 98, 111, 114, 116])], .agg [.lit (.int .i64 1), .lit (.int .u32 3), .lit (.string [108, 105, 115, 116])], .agg [.lit (.int .i64 1), .lit (.int .u32 5), .lit (.string [115, 116, 97, 114, 116, 116, 108, 115])], .agg [.lit (.int .i64 1), .lit (.int .u32 6), .lit (.string [105, 110, 102, 111])], .agg [.lit (.int .i64 1), .lit (.int .u32 7), .lit (.string [103, 111])], .agg [.lit (.int .i64 1), .lit (.int .u32 8), .lit (.string [115, 116, 114, 117, 99, 116, 117, 114, 101, 100, 45, 114, 101, 112, 108, 121])], .agg [.lit (.int .i64 1), .lit (.int .u32 9), .lit (.string [108, 105, 115, 116, 45, 109, 101, 116, 97, 45, 99, 111, 110, 116, 101, 120, 116])], .agg [.lit (.int .i64 1), .lit (.int .u32 10), .lit (.string [115, 101, 116, 45, 109, 101, 116, 97, 45, 99, 111, 110, 116, 101, 120, 116])], .agg [.lit (.int .i64 1), .lit (.int .u32 11), .lit (.string [101, 120, 116, 101, 110, 100, 101, 100, 45, 104, 101, 97, 100, 101, 114, 115])], .agg [.lit (.int .i64 2), .lit (.int .u32 1), .lit (.string [97, 99, 107])], .agg [.lit (.int .i64 2), .lit (.int .u32 2), .lit (.string [115, 101, 114, 118, 101, 114])], .agg [.lit (.int .i64 2), .lit (.int .u32 3), .lit (.string [105, 110, 102, 111])], .agg [.lit (.int .i64 2), .lit (.int .u32 4), .lit (.string [109, 101, 116, 97, 45, 99, 111, 110, 116, 101, 120, 116])], .agg [.lit (.int .i64 2), .lit (.int .u32 2147483649), .lit (.string [117, 110, 115, 117, 112])], .agg [.lit (.int .i64 2), .lit (.int .u32 2147483650), .lit (.string [112, 111, 108, 105, 99, 121])], .agg [.lit (.int .i64 2), .lit (.int .u32 2147483651), .lit (.string [105, 110, 118, 97, 108, 105, 100])], .agg [.lit (.int .i64 2), .lit (.int .u32 2147483652), .lit (.string [112, 108, 97, 116, 102, 111, 114, 109])], .agg [.lit (.int .i64 2), .lit (.int .u32 2147483653), .lit (.string [116, 108, 115, 45, 114, 101, 113, 100])], .agg [.lit (.int .i64 2), .lit (.int .u32 2147483654), .lit (.string [117, 110, 107, 110, 111, 119, 110])], .agg [.lit (.int .i64 2), .lit (.int .u32 2147483655), .lit (.string [115, 104, 117, 116, 100, 111, 119, 110])], .agg [.lit (.int .i64 2), .lit (.int .u32 2147483656), .lit (.string [98, 108, 111, 99, 107, 45, 115, 105, 122, 101, 45, 114, 101, 113, 100])], .agg [.lit (.int .i64 2), .lit (.int .u32 2147483657), .lit (.string [116, 111, 111, 45, 98, 105, 103])], .agg [.lit (.int .i64 2), .lit (.int .u32 2147483658), .lit (.string [101, 120, 116, 45, 104, 101, 97, 100, 101, 114, 45, 114, 101, 113, 100])], .agg [.lit (.int .i64 3), .lit (.int .u32 0), .lit (.string [101, 120, 112, 111, 114, 116])], .agg [.lit (.int .i64 3), .lit (.int .u32 1), .lit (.string [110, 97, 109, 101])], .agg [.lit (.int .i64 3), .lit (.int .u32 2), .lit (.string [100, 101, 115, 99, 114, 105, 112, 116, 105, 111, 110])], .agg [.lit (.int .i64 3), .lit (.int .u32 3), .lit (.string [98, 108, 111, 99, 107, 45, 115, 105, 122, 101])]]
def laid_spindle_wire_transmitted {H : Type} : DataW H := .agg [.agg [.lit (.int .i64 4), .lit (.int .u32 0), .lit (.string [114, 101, 97, 100])], .agg [.lit (.int .i64 4), .lit (.int .u32 1), .lit (.string [119, 114, 105, 116, 101])], .agg [.lit (.int .i64 4), .lit (.int .u32 2), .lit (.string [100, 105, 115, 99])], .agg [.lit (.int .i64 4), .lit (.int .u32 3), .lit (.string [102, 108, 117, 115, 104])], .agg [.lit (.int .i64 4), .lit (.int .u32 4), .lit (.string [116, 114, 105, 109])], .agg [.lit (.int .i64 4), .lit (.int .u32 5), .lit (.string [99, 97, 99, 104, 101])], .agg [.lit (.int .i64 4), .lit (.int .u32 6), .lit (.string [119, 114, 105, 116, 101, 45, 122, 101, 114, 111, 101, 115])], .agg [.lit (.int .i64 4), .lit (.int .u32 7), .lit (.string [98, 108, 111, 99, 107, 45, 115, 116, 97, 116, 117, 115])], .agg [.lit (.int .i64 5), .lit (.int .u32 0), .lit (.string [110, 111, 110, 101])], .agg [.lit (.int .i64 5), .lit (.int .u32 1), .lit (.string [100, 97, 116, 97])], .agg [.lit (.int .i64 5), .lit (.int .u32 2), .lit (.string [104, 111, 108, 101])], .agg [.lit (.int .i64 5), .lit (.int .u32 5), .lit (.string [115, 116, 97, 116, 117, 115])], .agg [.lit (.int .i64 5), .lit (.int .u32 6), .lit (.string [115, 116, 97, 116, 117, 115, 45, 54, 52])], .agg [.lit (.int .i64 5), .lit (.int .u32 32769), .lit (.string [101, 114, 114, 111, 114])], .agg [.lit (.int .i64 5), .lit (.int .u32 32770), .lit (.string [101, 114, 114, 111, 114, 45, 97, 116])], .agg [.lit (.int .i64 6), .lit (.int .u32 0), .lit (.string [111, 107])], .agg [.lit (.int .i64 6), .lit (.int .u32 1), .lit (.string [101, 112, 101, 114, 109])], .agg [.lit (.int .i64 6), .lit (.int .u32 5), .lit (.string [101, 105, 111])], .agg [.lit (.int .i64 6), .lit (.int .u32 12), .lit (.string [101, 110, 111, 109, 101, 109])], .agg [.lit (.int .i64 6), .lit (.int .u32 22), .lit (.string [101, 105, 110, 118, 97, 108])], .agg [.lit (.int .i64 6), .lit (.int .u32 28), .lit (.string [101, 110, 111, 115, 112, 99])], .agg [.lit (.int .i64 6), .lit (.int .u32 75), .lit (.string [101, 111, 118, 101, 114, 102, 108, 111, 119])], .agg [.lit (.int .i64 6), .lit (.int .u32 95), .lit (.string [101, 110, 111, 116, 115, 117, 112])], .agg [.lit (.int .i64 6), .lit (.int .u32 108), .lit (.string [101, 115, 104, 117, 116, 100, 111, 119, 110])], .agg [.lit (.int .i64 7), .lit (.int .u32 1), .lit (.string [98, 97, 115, 101, 58, 97, 108, 108, 111, 99, 97, 116, 105, 111, 110])], .agg [.lit (.int .i64 7), .lit (.int .u32 2), .lit (.string [115, 112, 105, 110, 100, 108, 101, 58, 117, 110, 115, 97, 118, 101, 100])], .agg [.lit (.int .i64 7), .lit (.int .u32 3), .lit (.string [115, 112, 105, 110, 100, 108, 101, 58, 100, 105, 114, 116, 121])]]
/-- One of Go's own tables, pinned by name: the form's constant. -/
def laid_unicode_utf8_first : DataW Unit := Go.Pinned.utf8First

/-- 'spindlelaw08.WireUnpacks': WHATEVER THE INPUT: true; the input reads as it did. -/
def wireUnpacksSpec : ChangeSpec := { name := "wireUnpacks", fn := fun _ => fun
  | [d1, d2] => { results := [.lit (.bool true)], args := [d1, d2] }
  | _ => none }
def wireUnpacksRow : OpenClaim := { program := "ytfifaaopdhcaaaagreatdoor", sum := "a74b3befe97aad4ea8d95aa2723c342b880aba0a8c7b9869055e99dc8e97d106", func := "spindle/spindlelaw08.WireUnpacks", spec := "wireUnpacks", inPlace := ["internal/bytealg.IndexByteString"], unfollowed := true, recurses := true, named := ["unicode/utf8.first", "unicode/utf8.acceptRanges", "spindle/wire.haggled", "spindle/wire.transmitted"], apart := false, laid := [("unicode/utf8.acceptRanges", laid_unicode_utf8_acceptRanges), ("spindle/wire.haggled", laid_spindle_wire_haggled), ("spindle/wire.transmitted", laid_spindle_wire_transmitted), ("unicode/utf8.first", laid_unicode_utf8_first)] }
def WireUnpacksSaid : Prop := wireUnpacksRow.holds Tryz.pinned (OpenSpec.ofChange wireUnpacksSpec)

/-- ITS FALSE NEIGHBOUR: 'it returns false'. Refute it at one input. -/
def wireUnpacksWrong : ChangeSpec := { name := "wireUnpacks", fn := fun _ => fun
  | [d1, d2] => { results := [.lit (.bool false)], args := [d1, d2] }
  | _ => none }
def WireUnpacksWrongFalsely : Prop := wireUnpacksRow.holds Tryz.pinned (OpenSpec.ofChange wireUnpacksWrong)

/- THE SECOND FORM. 'bulk': how many values and letters a reading holds, each counted each time it is reached (what is shared counts as often as it is met; a slice's spare places count too). A statement '..UptoSaid' is the law's where the arguments, and the package variables that the reading takes, are together of bulk at most 1048576: NARROWER than '..Said'. Prove '..Said' where nothing that the law and all that it calls make is longer than what came in: it says more and counts as full. Else prove '..UptoSaid'. A law counts once. -/
mutual
def uptoBulk {H : Type} : DataW H → Nat
  | .lit (.string bytes) => bytes.length + 1
  | .lit _ => 1
  | .nil => 1
  | .ptr d => uptoBulk d + 1
  | .slice elems spare => uptoBulkAll elems + uptoBulkAll spare + 1
  | .agg parts => uptoBulkAll parts + 1
  | .iface _ d => uptoBulk d + 1
  | .map entries => uptoBulkEntries entries + 1
  | .held _ => 1
def uptoBulkAll {H : Type} : List (DataW H) → Nat
  | [] => 0
  | d :: r => uptoBulk d + uptoBulkAll r
def uptoBulkEntries {H : Type} : List (Lit × DataW H) → Nat
  | [] => 0
  | x :: r => uptoBulkEntry x + uptoBulkEntries r
def uptoBulkEntry {H : Type} : Lit × DataW H → Nat
  | (.string bytes, d) => bytes.length + uptoBulk d + 1
  | (_, d) => uptoBulk d + 1
 end
def uptoSmall : (H : Type) → List (DataW H) → Bool := fun _ ds => decide (uptoBulkAll ds ≤ 1048576)
def OpenSpec.upto (s : _root_.Go.ChangeSpec) : _root_.Go.OpenSpec := { _root_.Go.OpenSpec.ofChange s with cond := some uptoSmall }

/-- 'spindlelaw08.WireUnpacks', WHERE WHAT IT READS IS OF BULK AT MOST 1048576: true; the input reads as it did. -/
def wireUnpacksUptoRow : OpenClaim := { program := "ytfifaaopdhcaaaagreatdoor", sum := "a74b3befe97aad4ea8d95aa2723c342b880aba0a8c7b9869055e99dc8e97d106", func := "spindle/spindlelaw08.WireUnpacks", spec := "wireUnpacks", inPlace := ["internal/bytealg.IndexByteString"], unfollowed := true, recurses := true, named := ["unicode/utf8.first", "unicode/utf8.acceptRanges", "spindle/wire.haggled", "spindle/wire.transmitted"], apart := false, laid := [("unicode/utf8.acceptRanges", laid_unicode_utf8_acceptRanges), ("spindle/wire.haggled", laid_spindle_wire_haggled), ("spindle/wire.transmitted", laid_spindle_wire_transmitted), ("unicode/utf8.first", laid_unicode_utf8_first)], narrowed := true }
def WireUnpacksUptoSaid : Prop := wireUnpacksUptoRow.holds Tryz.pinned (OpenSpec.upto wireUnpacksSpec)

end Rows
end Go.Proofs.YtfifaaopdhcaaaaGreatDoor
