import Derived.WalkKit
namespace Go.Proofs.Ytpchllepboolhaa
set_option linter.unusedVariables false

/-- each once, the first ones -/
def dd : List Int → List Int
  | [] => []
  | u :: R => u :: (dd R).filter (fun x => x != u)
/-- going back from the end -/
def heldR (n : Nat) : List Int → List Int → List Int
  | [], l => l
  | u :: R, l => if l.length < n then (if u ∈ l then heldR n R l else heldR n R (u :: l)) else l
theorem heldR_eq (n : Nat) : ∀ (R l : List Int), heldR n R l = (((dd R).filter (fun x => decide (x ∉ l))).take (n - l.length)).reverse ++ l
  | [], l => by simp [heldR, dd]
  | u :: R, l => by
    unfold heldR dd
    by_cases hl : l.length < n
    · rw [if_pos hl]
      by_cases hu : u ∈ l
      · rw [if_pos hu, heldR_eq n R l, List.filter_cons_of_neg (by simpa using hu), List.filter_filter]
        congr 3
        apply List.filter_congr
        intro x _
        by_cases hx : x ∈ l
        · simp [hx]
        · have : x ≠ u := fun e => hx (e ▸ hu)
          simp [hx, this]
      · rw [if_neg hu, heldR_eq n R (u :: l), List.filter_cons_of_pos (by simpa using hu), List.filter_filter]
        have e1 : n - l.length = (n - (u :: l).length) + 1 := by simp; omega
        rw [e1, List.take_succ_cons, List.reverse_cons, List.append_assoc, List.singleton_append]
        congr 3
        apply List.filter_congr
        intro x _
        by_cases hx : x = u <;> simp [hx]
    · rw [if_neg hl]
      have e1 : n - l.length = 0 := by omega
      rw [e1]; simp
/-- the keys that are held behind these uses, oldest first -/
def held (n : Nat) (us : List Int) : List Int := ((dd us.reverse).take n).reverse
theorem heldR_held (n : Nat) (us : List Int) : heldR n us.reverse [] = held n us := by
  rw [heldR_eq]
  have e : ∀ D : List Int, D.filter (fun x => decide (x ∉ ([] : List Int))) = D := fun D => List.filter_eq_self.2 (fun x _ => by simp)
  rw [e]; simp [held]
theorem dd_nodup : ∀ R : List Int, (dd R).Nodup
  | [] => by simp [dd]
  | u :: R => by
    unfold dd
    rw [List.nodup_cons]
    exact ⟨by simp, (dd_nodup R).filter _⟩
theorem held_nodup (n : Nat) (us : List Int) : (held n us).Nodup := by
  unfold held
  have h := (dd_nodup us.reverse).sublist (List.take_sublist n _)
  unfold List.Nodup at h ⊢
  rw [List.pairwise_reverse]
  exact h.imp (fun h => Ne.symm h)
theorem held_length (n : Nat) (us : List Int) : (held n us).length ≤ n := by
  unfold held
  rw [List.length_reverse, List.length_take]; omega
theorem held_length2 (n : Nat) (us : List Int) : (held n us).length ≤ us.length := by
  unfold held
  have : ∀ R : List Int, (dd R).length ≤ R.length := by
    intro R
    induction R with
    | nil => simp [dd]
    | cons u R ih => unfold dd; have := List.length_filter_le (fun x => x != u) (dd R); simp; omega
  have h := this us.reverse
  rw [List.length_reverse] at h
  rw [List.length_reverse, List.length_take]; omega
theorem held_snoc (n : Nat) (us : List Int) (u : Int) : held (n + 1) (us ++ [u]) = (((dd us.reverse).filter (fun x => x != u)).take n).reverse ++ [u] := by
  unfold held
  rw [List.reverse_append, List.reverse_singleton, List.singleton_append, dd, List.take_succ_cons, List.reverse_cons]
theorem take_filter_in : ∀ (n : Nat) (D : List Int) (u : Int), D.Nodup → u ∈ D.take (n + 1) → (D.filter (fun x => x != u)).take n = (D.take (n + 1)).filter (fun x => x != u)
  | n, [], u, _, h => by simp at h
  | n, d :: D, u, hn, h => by
    rw [List.take_succ_cons] at h ⊢
    rw [List.nodup_cons] at hn
    by_cases hd : d = u
    · subst hd
      rw [List.filter_cons_of_neg (by simp), List.filter_cons_of_neg (by simp)]
      have e : ∀ x ∈ D, (x != d) = true := fun x hx => by rw [bne_iff_ne]; rintro rfl; exact hn.1 hx
      rw [List.filter_eq_self.2 e, List.filter_eq_self.2 (fun x hx => e x (List.mem_of_mem_take hx))]
    · rw [List.filter_cons_of_pos (by simpa using hd), List.filter_cons_of_pos (by simpa using hd)]
      have h2 : u ∈ D.take n := by
        rcases List.mem_cons.1 h with rfl | h
        · exact absurd rfl hd
        · exact h
      cases n with
      | zero => simp at h2
      | succ n => rw [List.take_succ_cons, take_filter_in n D u hn.2 h2]
theorem take_filter_out : ∀ (n : Nat) (D : List Int) (u : Int), u ∉ D.take (n + 1) → (D.filter (fun x => x != u)).take n = D.take n
  | 0, D, u, h => by simp
  | n + 1, [], u, h => by simp
  | n + 1, d :: D, u, h => by
    rw [List.take_succ_cons] at h
    have hd : d ≠ u := fun e => h (by simp [e])
    have h2 : u ∉ D.take (n + 1) := fun e => h (by simp [e])
    rw [List.filter_cons_of_pos (by simpa using hd), List.take_succ_cons, List.take_succ_cons, take_filter_out n D u h2]
/-- a key that is held is used -/
theorem held_in {n : Nat} {us K1 K2 : List Int} {u : Int} (h : held n us = K1 ++ u :: K2) : held n (us ++ [u]) = K1 ++ K2 ++ [u] := by
  cases n with
  | zero => simp [held] at h
  | succ n =>
    have hu : u ∈ (dd us.reverse).take (n + 1) := by
      have : u ∈ held (n + 1) us := by rw [h]; simp
      unfold held at this
      simpa using this
    have hnd := held_nodup (n + 1) us
    rw [held_snoc, take_filter_in n _ u (dd_nodup _) hu, ← List.filter_reverse]
    have e : (List.take (n + 1) (dd us.reverse)).reverse = K1 ++ u :: K2 := h
    rw [e]
    rw [h, List.nodup_append, List.nodup_cons] at hnd
    rw [List.filter_append, List.filter_cons_of_neg (by simp)]
    rw [List.filter_eq_self.2 (fun x hx => by rw [bne_iff_ne]; exact hnd.2.2 x hx u (by simp)), List.filter_eq_self.2 (fun x hx => by rw [bne_iff_ne]; rintro rfl; exact hnd.2.1.1 hx)]
/-- a key that isn't held comes in, where there is room -/
theorem held_room {n : Nat} {us : List Int} {u : Int} (h : u ∉ held n us) (hl : (held n us).length < n) : held n (us ++ [u]) = held n us ++ [u] := by
  cases n with
  | zero => omega
  | succ n =>
    have hu : u ∉ (dd us.reverse).take (n + 1) := fun e => h (by unfold held; simpa using e)
    rw [held_snoc, take_filter_out n _ u hu]
    unfold held at hl ⊢
    rw [List.length_reverse, List.length_take] at hl
    rw [List.take_of_length_le (by omega), List.take_of_length_le (by omega)]
/-- .. where there is none, for the oldest one -/
theorem held_full {n : Nat} {us K : List Int} {u k : Int} (h : u ∉ held n us) (hl : n ≤ (held n us).length) (hk : held n us = k :: K) : held n (us ++ [u]) = K ++ [u] := by
  cases n with
  | zero => simp [held] at hk
  | succ n =>
    have hu : u ∉ (dd us.reverse).take (n + 1) := fun e => h (by unfold held; simpa using e)
    rw [held_snoc, take_filter_out n _ u hu]
    congr 1
    unfold held at hl hk
    rw [List.length_reverse, List.length_take] at hl
    have e1 : (dd us.reverse).take (n + 1) = K.reverse ++ [k] := by
      have := congrArg List.reverse hk
      simpa using this
    have e2 : (dd us.reverse).take n = ((dd us.reverse).take (n + 1)).take n := by rw [List.take_take]; congr 1; omega
    have hKl : K.length = n := by
      have := congrArg List.length hk
      rw [List.length_reverse, List.length_take] at this
      simp at this; omega
    rw [e2, e1, List.take_append_of_le_length (by simp; omega), List.take_of_length_le (by simp; omega)]
    simp
theorem held_nil (n : Nat) : held n [] = [] := by simp [held, dd]
end Go.Proofs.Ytpchllepboolhaa
