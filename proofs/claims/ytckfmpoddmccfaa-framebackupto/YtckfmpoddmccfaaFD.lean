import Derived.Test.YtckfmpoddmccfaaNE
namespace Go.Proofs.Ytckfmpoddmccfaa
open Go.RowKit
set_option linter.unusedVariables false
set_option linter.unusedSimpArgs false
set_option maxRecDepth 100000
theorem optD_n (most : Nat) (l : List Nat) (h : (optD most l).2.2 = 0) : (optD most l).2.1 ≤ l.length := by
  unfold optD at h ⊢
  by_cases h1 : l.length < 16
  · rw [if_pos h1] at h; simp at h
  rw [if_neg h1] at h ⊢
  by_cases h2 : vl l 0 8 ≠ mHave
  · rw [if_pos h2] at h; simp at h
  rw [if_neg h2] at h ⊢
  by_cases h3 : most < vl l 12 4
  · rw [if_pos h3] at h; simp at h
  rw [if_neg h3] at h ⊢
  by_cases h4 : l.length < 16 + vl l 12 4
  · rw [if_pos h4] at h; simp at h
  rw [if_neg h4]
  simp only
  omega
end Go.Proofs.Ytckfmpoddmccfaa
