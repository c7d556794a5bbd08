import Derived.Test.YtpkobgnbjmefnabDoorQbF
import Derived.Test.YtpkobgnbjmefnabDoorQbA
namespace Go.Proofs.YtpkobgnbjmefnabDoor
theorem octetQuoteBack_proved : Rows.OctetQuoteBackUptoCardSaid :=
  Claim7.holds_tied_plain_at .later [] _ _ _ _ (octetQuoteBack.said quoteBack_any) (fun _ h => by cases h) (by kernel_rfl) (fun _ h => by cases h) octetQuoteBackUpto_row_tie rfl ⟨rfl, rfl⟩ (by kernel_rfl) rfl octetQuoteBack.plain (by kernel_rfl)
#print axioms octetQuoteBack_proved
end Go.Proofs.YtpkobgnbjmefnabDoor
