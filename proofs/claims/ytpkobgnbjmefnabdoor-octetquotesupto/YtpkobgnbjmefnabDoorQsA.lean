import Derived.Test.YtpkobgnbjmefnabDoorQuoteW
import Derived.Test.YtpkobgnbjmefnabDoorUnqW
import Derived.Test.YtpkobgnbjmefnabDoorUnescW
import Derived.Test.YtpkobgnbjmefnabDoorQsL
namespace Go.Proofs.YtpkobgnbjmefnabDoor
open Go.RowKit
set_option linter.unusedVariables false

theorem fbE_fbF (r : Option (Nat × Nat)) : fbE r = fbF r := by
  cases r with
  | none => rfl
  | some x => rfl
theorem quotes_any (s t : ByteArray) (w : World) (hs : s.size ≤ 16777216) (ht : t.size ≤ 16777216) (hT : Tabs w) :
    Calls Tryd.prog 4 #[.string s, .string t] w fun e w' => e = .returned (.bool true) ∧ Below w.heap.size w w' :=
  quotes_of s t w hs ht
    (fun s W h => unescape_any s W h (fun t wr h0 h1 => (firstB_any t wr h0 h1).mono fun e w' hh => ⟨hh.1.trans (fbE_fbF _), hh.2⟩))
    (fun s W h hW => quote_any s W h (hT.later hW))
end Go.Proofs.YtpkobgnbjmefnabDoor
