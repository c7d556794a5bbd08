import Derived.Test.YtckfmpoddmccfaaFF
import Derived.Test.YtckfmpoddmccfaaFG
namespace Go.Proofs.Ytckfmpoddmccfaa
open Go.RowKit
set_option linter.unusedVariables false
set_option linter.unusedSimpArgs false
set_option maxRecDepth 100000

theorem val_at (x k : Nat) (pre tl : List Nat) (a : Nat) (ha : pre.length = a) (hx : x < 256 ^ k) : valB (((pre ++ (bigTo x k k ++ tl)).drop a).take k) = x := by
  rw [← ha, List.drop_left, List.take_append_of_le_length (by rw [bigTo_length]; omega), List.take_of_length_le (by rw [bigTo_length]; omega), valB_big x k hx]
/-- an option and a client's flags behind it -/
def LS (c : Nat) (d : List Nat) (nx : Nat) : List Nat := oL c d ++ bigTo nx 4 4
theorem LS_len (c : Nat) (d : List Nat) (nx : Nat) : (LS c d nx).length = 20 + d.length := by simp [LS, oL, bigTo_length]; omega
theorem LS_form (c : Nat) (d : List Nat) (nx : Nat) : LS c d nx = bigTo mHave 8 8 ++ (bigTo c 4 4 ++ (bigTo d.length 4 4 ++ (d ++ bigTo nx 4 4))) := by simp [LS, oL]
theorem LS_lt {c : Nat} {d : List Nat} {nx : Nat} (h : ∀ x ∈ d, x < 256) : ∀ x ∈ LS c d nx, x < 256 := by
  rw [LS_form]
  intro x hx
  simp only [List.mem_append] at hx
  rcases hx with h1 | h1 | h1 | h1 | h1
  · exact bigTo_lt _ _ _ x h1
  · exact bigTo_lt _ _ _ x h1
  · exact bigTo_lt _ _ _ x h1
  · exact h x h1
  · exact bigTo_lt _ _ _ x h1
theorem LS_vl (c : Nat) (d : List Nat) (nx a : Nat) (ha : 16 ≤ a) (hc : c < 4294967296) (hd : d.length < 4294967296) : vl ((LS c d nx).take a) 0 8 = mHave ∧ vl ((LS c d nx).take a) 8 4 = c ∧ vl ((LS c d nx).take a) 12 4 = d.length := by
  unfold vl
  rw [tk _ _ _ _ (by omega), tk _ _ _ _ (by omega), tk _ _ _ _ (by omega), LS_form]
  refine ⟨val_at mHave 8 [] _ 0 rfl (by decide), val_at c 4 (bigTo mHave 8 8) _ 8 (bigTo_length _ _ _) (by simpa using hc), ?_⟩
  rw [← List.append_assoc]
  exact val_at d.length 4 (bigTo mHave 8 8 ++ bigTo c 4 4) _ 12 (by simp [bigTo_length]) (by simpa using hd)
theorem LS_short (c : Nat) (d : List Nat) (nx a most : Nat) (ha : a < 16) : optC most 0 ((LS c d nx).take a) = ((0, 0, false, []), 0, 0, (LS c d nx).take a) := by
  have hl : ((LS c d nx).take a).length < 16 := by rw [List.length_take]; omega
  have h1 : optD most ((LS c d nx).take a) = ((0, 0, false, []), 16, 10) := by unfold optD; rw [if_pos hl]
  unfold optC optF cutOf
  rw [h1]
  simp
theorem LS_long (c : Nat) (d : List Nat) (nx a most : Nat) (ha : 16 ≤ a) (ha2 : a ≤ 20 + d.length) (hc : c < 4294967296) (hd : d.length < 4294967296) (hm : most < d.length) :
    optC most 0 ((LS c d nx).take a) = ((c, d.length, true, []), 1, 16 + d.length - a, ((LS c d nx).take a).drop (16 + d.length)) := by
  obtain ⟨v0, v1, v2⟩ := LS_vl c d nx a ha hc hd
  have hl : ((LS c d nx).take a).length = a := by rw [List.length_take, LS_len]; omega
  have h1 : optD most ((LS c d nx).take a) = ((c, d.length, true, []), 16, 12) := by
    unfold optD
    rw [hl, if_neg (by omega), v0, if_neg (by simp), v2, if_pos hm, v1]
  unfold optC optF cutOf
  rw [h1]
  simp only [if_true, Nat.lt_irrefl, if_false]
  have hl2 : (((LS c d nx).take a).drop 16).length = a - 16 := by rw [List.length_drop, hl]
  rw [hl2, List.drop_drop]
  have e1 : d.length - min (a - 16) d.length = 16 + d.length - a := by omega
  rw [e1]
  by_cases h : a - 16 ≤ d.length
  · rw [Nat.min_eq_left h, List.drop_eq_nil_of_le (by rw [hl]; omega), List.drop_eq_nil_of_le (by rw [hl]; omega)]
  · rw [Nat.min_eq_right (by omega)]
theorem LS_end (c : Nat) (d : List Nat) (nx : Nat) (hn : nx < 4294967296) : cutOf 0 0 (((LS c d nx).take (20 + d.length)).drop (16 + d.length)) (flaD (((LS c d nx).take (20 + d.length)).drop (16 + d.length))) = (nx, 1, []) := by
  have e : ((LS c d nx).take (20 + d.length)).drop (16 + d.length) = bigTo nx 4 4 := by
    rw [List.take_of_length_le (by rw [LS_len]; omega)]
    have : (oL c d).length = 16 + d.length := by simp [oL, bigTo_length]; omega
    rw [LS, ← this, List.drop_left]
  rw [e]
  unfold flaD cutOf
  have hl : (bigTo nx 4 4).length = 4 := bigTo_length _ _ _
  have hv : vl (bigTo nx 4 4) 0 4 = nx := by
    unfold vl
    have := val_at nx 4 [] [] 0 rfl (by simpa using hn)
    simpa using this
  rw [hl, hv]
  simp [hl]
theorem LS_feed_told (S : List Nat) (n at_ m : Nat) (hS : S.length = 20 + n) (ha : 16 ≤ at_) (hm : at_ + m ≤ 20 + n) :
    let ov := 16 + n - at_
    let hd := (S.take at_).drop (16 + n)
    min m ov + min (m - min m ov) (20 - hd.length) = m ∧ ov - min m ov = 16 + n - (at_ + m) ∧ hd ++ (((S.drop at_).take m).drop (min m ov)).take (min (m - min m ov) (20 - hd.length)) = (S.take (at_ + m)).drop (16 + n) := by
  intro ov hd
  have hl : hd.length = at_ - (16 + n) := by show ((S.take at_).drop (16 + n)).length = _; rw [List.length_drop, List.length_take]; omega
  have hov : ov = 16 + n - at_ := rfl
  have hk : min (m - min m ov) (20 - hd.length) = m - min m ov := by omega
  refine ⟨by omega, by omega, ?_⟩
  rw [hk]
  have h1 : (((S.drop at_).take m).drop (min m ov)).take (m - min m ov) = ((S.drop at_).take m).drop (min m ov) := List.take_of_length_le (by rw [List.length_drop, List.length_take, List.length_drop]; omega)
  have hla : (S.take at_).length = at_ := by rw [List.length_take]; omega
  have hlm : ((S.drop at_).take m).length = m := by rw [List.length_take, List.length_drop]; omega
  rw [h1, List.take_add, List.drop_append, hla]
  congr 1
  show _ = List.drop ov _
  by_cases h : ov ≤ m
  · rw [Nat.min_eq_right h]
  · rw [Nat.min_eq_left (by omega), List.drop_eq_nil_of_le (by omega), List.drop_eq_nil_of_le (by omega)]
theorem LS_feed_new (S : List Nat) (at_ m : Nat) (hm : at_ + m ≤ S.length) (ha : at_ < 16) :
    S.take at_ ++ ((((S.drop at_).take m).drop 0).take (min (m - 0) (20 - (S.take at_).length))) = S.take (at_ + min m (20 - at_)) := by
  have hl : (S.take at_).length = at_ := by rw [List.length_take]; omega
  rw [hl, List.drop_zero, List.take_take, Nat.sub_zero, Nat.min_eq_left (by omega : min m (20 - at_) ≤ m), List.take_add]
end Go.Proofs.Ytckfmpoddmccfaa
