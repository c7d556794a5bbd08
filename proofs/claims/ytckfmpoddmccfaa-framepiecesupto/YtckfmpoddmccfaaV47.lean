import Derived.Test.YtckfmpoddmccfaaV46
namespace Go.Proofs.Ytckfmpoddmccfaa
open Go.RowKit
set_option linter.unusedVariables false
set_option linter.unusedSimpArgs false
set_option maxRecDepth 100000
theorem vl_app {l : List Nat} (t : List Nat) {a k : Nat} (h : a + k ≤ l.length) : vl (l ++ t) a k = vl l a k := by
  unfold vl
  rw [List.drop_append_of_le_length (by omega), List.take_append_of_le_length (by rw [List.length_drop]; omega)]
theorem part_app {l : List Nat} (t : List Nat) {a k : Nat} (h : a + k ≤ l.length) : ((l ++ t).drop a).take k = (l.drop a).take k := by
  rw [List.drop_append_of_le_length (by omega), List.take_append_of_le_length (by rw [List.length_drop]; omega)]
theorem greD_piece (l t : List Nat) (h : (greD l).2.2 ≠ 10) : greD (l ++ t) = greD l := by
  unfold greD at h ⊢
  by_cases h0 : l.length < 18
  · rw [if_pos h0] at h; simp at h
  rw [if_neg h0] at h ⊢
  rw [if_neg (show ¬ (l ++ t).length < 18 by rw [List.length_append]; omega)]
  simp only [vl_app (l := l) t (show 0 + 8 ≤ l.length by omega), vl_app (l := l) t (show 8 + 8 ≤ l.length by omega), vl_app (l := l) t (show 16 + 2 ≤ l.length by omega)]
theorem flaD_piece (l t : List Nat) (h : (flaD l).2.2 ≠ 10) : flaD (l ++ t) = flaD l := by
  unfold flaD at h ⊢
  by_cases h0 : l.length < 4
  · rw [if_pos h0] at h; simp at h
  rw [if_neg h0] at h ⊢
  rw [if_neg (show ¬ (l ++ t).length < 4 by rw [List.length_append]; omega)]
  simp only [vl_app (l := l) t (show 0 + 4 ≤ l.length by omega)]
theorem simD_piece (l t : List Nat) (h : (simD l).2.2 ≠ 10) : simD (l ++ t) = simD l := by
  unfold simD at h ⊢
  by_cases h0 : l.length < 16
  · rw [if_pos h0] at h; simp at h
  rw [if_neg h0] at h ⊢
  rw [if_neg (show ¬ (l ++ t).length < 16 by rw [List.length_append]; omega)]
  simp only [vl_app (l := l) t (show 0 + 4 ≤ l.length by omega), vl_app (l := l) t (show 4 + 4 ≤ l.length by omega), vl_app (l := l) t (show 8 + 8 ≤ l.length by omega)]
theorem repD_piece (most : Nat) (l t : List Nat) (h : (repD most l).2.2 ≠ 10) : repD most (l ++ t) = repD most l := by
  unfold repD at h ⊢
  by_cases h0 : l.length < 20
  · rw [if_pos h0] at h; simp at h
  rw [if_neg h0] at h ⊢
  rw [if_neg (show ¬ (l ++ t).length < 20 by rw [List.length_append]; omega)]
  simp only [vl_app (l := l) t (show 0 + 8 ≤ l.length by omega), vl_app (l := l) t (show 8 + 4 ≤ l.length by omega), vl_app (l := l) t (show 12 + 4 ≤ l.length by omega), vl_app (l := l) t (show 16 + 4 ≤ l.length by omega)]
  by_cases g0 : vl l 0 8 ≠ mReply
  · rw [if_pos g0, if_pos g0]
  rw [if_neg g0] at h
  rw [if_neg g0, if_neg g0]
  by_cases g1 : most < vl l 16 4
  · rw [if_pos g1, if_pos g1]
  rw [if_neg g1] at h
  rw [if_neg g1, if_neg g1]
  by_cases g2 : l.length < 20 + vl l 16 4
  · rw [if_pos g2] at h; simp at h
  rw [if_neg g2, if_neg (show ¬ (l ++ t).length < 20 + vl l 16 4 by rw [List.length_append]; omega), part_app t (by omega)]
theorem optD_piece (most : Nat) (l t : List Nat) (h : (optD most l).2.2 ≠ 10) : optD most (l ++ t) = optD most l := by
  unfold optD at h ⊢
  by_cases h0 : l.length < 16
  · rw [if_pos h0] at h; simp at h
  rw [if_neg h0] at h ⊢
  rw [if_neg (show ¬ (l ++ t).length < 16 by rw [List.length_append]; omega)]
  simp only [vl_app (l := l) t (show 0 + 8 ≤ l.length by omega), vl_app (l := l) t (show 8 + 4 ≤ l.length by omega), vl_app (l := l) t (show 12 + 4 ≤ l.length by omega)]
  by_cases g0 : vl l 0 8 ≠ mHave
  · rw [if_pos g0, if_pos g0]
  rw [if_neg g0] at h
  rw [if_neg g0, if_neg g0]
  by_cases g1 : most < vl l 12 4
  · rw [if_pos g1, if_pos g1]
  rw [if_neg g1] at h
  rw [if_neg g1, if_neg g1]
  by_cases g2 : l.length < 16 + vl l 12 4
  · rw [if_pos g2] at h; simp at h
  rw [if_neg g2, if_neg (show ¬ (l ++ t).length < 16 + vl l 12 4 by rw [List.length_append]; omega), part_app t (by omega)]
theorem reqD_piece (most : Nat) (ext : Bool) (l t : List Nat) (h : (reqD most ext l).2.2 ≠ 10) : reqD most ext (l ++ t) = reqD most ext l := by
  unfold reqD at h ⊢
  by_cases h0 : l.length < qz ext
  · rw [if_pos h0] at h; simp at h
  rw [if_neg h0] at h ⊢
  rw [if_neg (show ¬ (l ++ t).length < qz ext by rw [List.length_append]; omega)]
  have hq : 24 + qk ext ≤ qz ext ∧ 28 ≤ qz ext := by unfold qk qz; cases ext <;> simp
  simp only [vl_app (l := l) t (show 0 + 4 ≤ l.length by omega), vl_app (l := l) t (show 4 + 2 ≤ l.length by omega), vl_app (l := l) t (show 6 + 2 ≤ l.length by omega), vl_app (l := l) t (show 8 + 8 ≤ l.length by omega), vl_app (l := l) t (show 16 + 8 ≤ l.length by omega), vl_app (l := l) t (show 24 + qk ext ≤ l.length by omega)]
  by_cases g0 : vl l 0 4 ≠ qm ext
  · rw [if_pos g0, if_pos g0]
  rw [if_neg g0] at h
  rw [if_neg g0, if_neg g0]
  by_cases g1 : payB (vl l 4 2) (vl l 6 2) ext = false
  · rw [if_pos g1, if_pos g1]
  rw [if_neg g1] at h
  rw [if_neg g1, if_neg g1]
  by_cases g2 : most < vl l 24 (qk ext)
  · rw [if_pos g2, if_pos g2]
  rw [if_neg g2] at h
  rw [if_neg g2, if_neg g2]
  by_cases g3 : l.length < qz ext + vl l 24 (qk ext)
  · rw [if_pos g3] at h; simp at h
  rw [if_neg g3, if_neg (show ¬ (l ++ t).length < qz ext + vl l 24 (qk ext) by rw [List.length_append]; omega), part_app t (by omega)]
theorem chkD_piece (most : Nat) (ext : Bool) (l t : List Nat) (h : (chkD most ext l).2.2 ≠ 10) : chkD most ext (l ++ t) = chkD most ext l := by
  unfold chkD at h ⊢
  by_cases h0 : l.length < cz ext
  · rw [if_pos h0] at h; simp at h
  rw [if_neg h0] at h ⊢
  rw [if_neg (show ¬ (l ++ t).length < cz ext by rw [List.length_append]; omega)]
  have hq : 20 ≤ cz ext := by unfold cz; cases ext <;> simp
  have hn : cln ext (l ++ t) = cln ext l := by
    unfold cln; unfold cz at h0
    cases ext with
    | true => simp at h0 ⊢; rw [vl_app t (by omega)]
    | false => simp at h0 ⊢; rw [vl_app t (by omega)]
  have ho : cof ext (l ++ t) = cof ext l := by
    unfold cof; unfold cz at h0
    cases ext with
    | true => simp at h0 ⊢; rw [vl_app t (by omega)]
    | false => simp
  rw [hn, ho]
  simp only [vl_app (l := l) t (show 0 + 4 ≤ l.length by omega), vl_app (l := l) t (show 4 + 2 ≤ l.length by omega), vl_app (l := l) t (show 6 + 2 ≤ l.length by omega), vl_app (l := l) t (show 8 + 8 ≤ l.length by omega)]
  by_cases g0 : vl l 0 4 ≠ cm ext
  · rw [if_pos g0, if_pos g0]
  rw [if_neg g0] at h
  rw [if_neg g0, if_neg g0]
  by_cases g1 : most < cln ext l
  · rw [if_pos g1, if_pos g1]
  rw [if_neg g1] at h
  rw [if_neg g1, if_neg g1]
  by_cases g2 : l.length < cz ext + cln ext l
  · rw [if_pos g2] at h; simp at h
  rw [if_neg g2, if_neg (show ¬ (l ++ t).length < cz ext + cln ext l by rw [List.length_append]; omega), part_app t (by omega)]
theorem expD_piece (z : Bool) (l t : List Nat) (h : (expD z l).2.2 ≠ 10) : expD z (l ++ t) = expD z l := by
  have hx : 10 ≤ xz z := by unfold xz; cases z <;> simp
  unfold expD at h ⊢
  by_cases h0 : l.length < xz z
  · rw [if_pos h0] at h; simp at h
  rw [if_neg h0] at h ⊢
  rw [if_neg (show ¬ (l ++ t).length < xz z by rw [List.length_append]; omega)]
  have hs : xzs z (l ++ t) = xzs z l := by unfold xzs; rw [List.take_append_of_le_length (by omega)]
  rw [hs]
  simp only [vl_app (l := l) t (show 0 + 8 ≤ l.length by omega), vl_app (l := l) t (show 8 + 2 ≤ l.length by omega)]
theorem datD_piece (z : Int) (l t : List Nat) (h : (datD z l).2.2 ≠ 10) : datD z (l ++ t) = datD z l := by
  unfold datD at h ⊢
  by_cases h0 : z < 0
  · rw [if_pos h0, if_pos h0]
  rw [if_neg h0] at h ⊢
  rw [if_neg h0]
  by_cases h1 : (l.length : Int) < z
  · rw [if_pos h1] at h; simp at h
  rw [if_neg h1, if_neg (by rw [List.length_append]; omega), List.take_append_of_le_length (by omega)]
theorem ansD_piece (most : Nat) (ext : Bool) (l t : List Nat) (h : (ansD most ext l).2.2 ≠ 10) : ansD most ext (l ++ t) = ansD most ext l := by
  unfold ansD at h ⊢
  by_cases h0 : l.length < 4
  · rw [if_pos h0] at h; simp at h
  rw [if_neg h0] at h ⊢
  rw [if_neg (show ¬ (l ++ t).length < 4 by rw [List.length_append]; omega), vl_app (l := l) t (show 0 + 4 ≤ l.length by omega)]
  by_cases h1 : vl l 0 4 = cm ext
  · rw [if_pos h1] at h
    rw [if_pos h1, if_pos h1, chkD_piece most ext l t h]
  rw [if_neg h1] at h
  rw [if_neg h1, if_neg h1]
  by_cases h2 : ext = false ∧ vl l 0 4 = mSimple
  · rw [if_pos h2] at h
    rw [if_pos h2, if_pos h2, simD_piece l t h]
  rw [if_neg h2, if_neg h2]
theorem optF_piece (most : Nat) (l t : List Nat) (h : (optF most l).2.2 ≠ 10) : optF most (l ++ t) = optF most l := by
  have h' : (optD most l).2.2 ≠ 10 := by
    intro e
    unfold optF at h
    simp [e] at h
  unfold optF
  rw [optD_piece most l t h']
end Go.Proofs.Ytckfmpoddmccfaa
