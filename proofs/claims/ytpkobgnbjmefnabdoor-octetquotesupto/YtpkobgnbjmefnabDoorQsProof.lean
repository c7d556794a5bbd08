import Derived.Test.YtpkobgnbjmefnabDoorQsF
import Derived.Test.YtpkobgnbjmefnabDoorQsA
namespace Go.Proofs.YtpkobgnbjmefnabDoor
theorem octetQuotes_proved : Rows.OctetQuotesUptoCardSaid :=
  Claim7.holds_tied_plain_at .later [] _ _ _ _ (octetQuotes.said quotes_any) (fun _ h => by cases h) (by kernel_rfl) (fun _ h => by cases h) octetQuotesUpto_row_tie rfl ⟨rfl, rfl⟩ (by kernel_rfl) rfl octetQuotes.plain (by kernel_rfl)
#print axioms octetQuotes_proved
end Go.Proofs.YtpkobgnbjmefnabDoor
