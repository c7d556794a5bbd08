import Derived.Test.YtfifaaopdhcaaaaGreatDoorY19
import Derived.Test.YtfifaaopdhcaaaaGreatDoorY27
import Derived.Test.YtfifaaopdhcaaaaGreatDoorY13
import Derived.Deep.RegionHeld3
namespace Go.Proofs.YtfifaaopdhcaaaaGreatDoor
open Go.RowKit
set_option linter.unusedVariables false
set_option linter.unusedSimpArgs false
set_option maxRecDepth 100000
theorem runs_own {W : World} {B n vc : Nat} {vo : Option Addr} {ks : List (Nat × Nat)} (h : W.ownsRow B 116 2 (.slice vo n vc) n (ks.flatMap (fun x : Nat × Nat => [Value.int .u64 (x.1 : Int), Value.int .u64 (x.2 : Int)]))) (hl : ∀ x ∈ ks, x.1 < 18446744073709551616 ∧ x.2 < 18446744073709551616) : Runs W vo ks := by
  refine ⟨hl, fun hne => ?_⟩
  obtain ⟨g, cp, hv, hc⟩ := owns_at h (by cases ks with | nil => exact absurd rfl hne | cons x t => simp)
  injection hv with h1 h2 h3
  subst h1
  refine ⟨g, 0, rfl, fun j hj => ⟨?_, ?_⟩⟩
  · exact hc (j * 2) _ (pair_at0 _ j hj)
  · have h5 := hc (j * 2 + 1) _ (pair_at1 _ j hj)
    rw [← Nat.add_assoc] at h5
    exact h5
end Go.Proofs.YtfifaaopdhcaaaaGreatDoor
