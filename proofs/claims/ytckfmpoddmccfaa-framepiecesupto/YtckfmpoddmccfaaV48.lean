import Derived.Test.YtckfmpoddmccfaaV47
namespace Go.Proofs.Ytckfmpoddmccfaa
open Go.RowKit
set_option linter.unusedVariables false
set_option linter.unusedSimpArgs false
set_option maxRecDepth 100000
/-- x has all the bytes, y lacks r yet -/
def Rel (r : List Nat) (ovx : Nat) (lx : List Nat) (ovy : Nat) (ly : List Nat) : Prop :=
  (0 < ovy → ly = []) ∧ lx = (ly ++ r).drop ovy ∧ ovx = ovy - (ly ++ r).length
theorem drop_two (l r : List Nat) (k p : Nat) (hp : p = min l.length k) : (l ++ r).drop k = (l.drop p ++ r).drop (k - p) := by
  have e : k = p + (k - p) := by omega
  rw [show (l ++ r).drop k = ((l ++ r).drop p).drop (k - p) by rw [List.drop_drop]; congr 1]
  rw [List.drop_append_of_le_length (by omega)]
theorem feed_rel {u r : List Nat} {ovx ovy : Nat} {lx ly : List Nat} (h : Rel (u ++ r) ovx lx ovy ly) : Rel r ovx lx (ovy - min u.length ovy) (ly ++ u.drop (min u.length ovy)) := by
  obtain ⟨h1, h2, h3⟩ := h
  by_cases h0 : ovy = 0
  · subst h0
    refine ⟨by simp, by rw [h2]; simp, by rw [h3]; simp⟩
  · have e := h1 (by omega)
    subst e
    refine ⟨fun hp => ?_, ?_, ?_⟩
    · rw [List.nil_append]; exact List.drop_eq_nil_of_le (by omega)
    · rw [h2, List.nil_append, List.nil_append]; exact drop_two u r ovy _ rfl
    · rw [h3]; simp only [List.nil_append, List.length_append, List.length_drop]; omega
theorem cutOf_rel {X : Type} (z : X) (D : List Nat → X × Nat × Nat) (hp : ∀ l t, (D l).2.2 ≠ 10 → D (l ++ t) = D l) (hn : ∀ l, (D l).2.2 = 0 → (D l).2.1 ≤ l.length) {r : List Nat} {ovx ovy : Nat} {lx ly : List Nat} (h : Rel r ovx lx ovy ly) :
    ((cutOf z ovy ly (D ly)).2.1 = 0 → cutOf z ovy ly (D ly) = (z, 0, ly)) ∧ ((cutOf z ovy ly (D ly)).2.1 ≠ 0 → ovy = 0 ∧ ovx = 0 ∧ (cutOf z ovx lx (D lx)).2.2 = (cutOf z ovy ly (D ly)).2.2 ++ r) ∧ (((cutOf z ovy ly (D ly)).2.1 ≠ 0 ∨ r = []) → (cutOf z ovx lx (D lx)).1 = (cutOf z ovy ly (D ly)).1 ∧ (cutOf z ovx lx (D lx)).2.1 = (cutOf z ovy ly (D ly)).2.1 ∧ Rel r ovx (cutOf z ovx lx (D lx)).2.2 ovy (cutOf z ovy ly (D ly)).2.2) := by
  have hh := h
  obtain ⟨h1, h2, h3⟩ := h
  by_cases h0 : 0 < ovy
  · have e : cutOf z ovy ly (D ly) = (z, 0, ly) := by unfold cutOf; rw [if_pos h0]
    rw [e]
    refine ⟨fun _ => rfl, fun h => absurd rfl h, fun hr => ?_⟩
    have hr' : r = [] := by rcases hr with h | h; exact absurd rfl h; exact h
    have e1 := h1 h0
    subst e1; subst hr'
    have hx : 0 < ovx := by rw [h3]; simpa using h0
    have e2 : cutOf z ovx lx (D lx) = (z, 0, lx) := by unfold cutOf; rw [if_pos hx]
    rw [e2]
    exact ⟨rfl, rfl, hh⟩
  · obtain rfl : ovy = 0 := by omega
    obtain rfl : ovx = 0 := by omega
    have hlx : lx = ly ++ r := by simpa using h2
    by_cases hs : (D ly).2.2 = 10
    · have e : cutOf z 0 ly (D ly) = (z, 0, ly) := by unfold cutOf; simp [hs]
      rw [e]
      refine ⟨fun _ => rfl, fun h => absurd rfl h, fun hr => ?_⟩
      have hr' : r = [] := by rcases hr with h | h; exact absurd rfl h; exact h
      subst hr'
      have hl : lx = ly := by simpa using hlx
      rw [hl, e]
      exact ⟨rfl, rfl, by simp [Rel]⟩
    · have hd : D lx = D ly := by rw [hlx]; exact hp ly r hs
      by_cases hz : (D ly).2.2 = 0
      · have e : cutOf z 0 ly (D ly) = ((D ly).1, 1, ly.drop (D ly).2.1) := by unfold cutOf; simp [hz]
        have e2 : cutOf z 0 lx (D lx) = ((D ly).1, 1, ly.drop (D ly).2.1 ++ r) := by
          rw [hd]; unfold cutOf; simp only [Nat.lt_irrefl, if_false, hz, if_true]
          rw [hlx, List.drop_append_of_le_length (hn ly hz)]
        rw [e, e2]
        exact ⟨fun h => absurd h (by simp), fun _ => ⟨rfl, rfl, rfl⟩, fun _ => ⟨rfl, rfl, by simp [Rel]⟩⟩
      · by_cases ht : (D ly).2.2 = 12
        · have e : cutOf z 0 ly (D ly) = (z, 3, ly) := by unfold cutOf; simp [ht]
          have e2 : cutOf z 0 lx (D lx) = (z, 3, lx) := by rw [hd]; unfold cutOf; simp [ht]
          rw [e, e2]
          exact ⟨fun h => absurd h (by simp), fun _ => ⟨rfl, rfl, hlx⟩, fun _ => ⟨rfl, rfl, hh⟩⟩
        · have e : cutOf z 0 ly (D ly) = (z, 2, ly) := by unfold cutOf; simp [hs, hz, ht]
          have e2 : cutOf z 0 lx (D lx) = (z, 2, lx) := by rw [hd]; unfold cutOf; simp [hs, hz, ht]
          rw [e, e2]
          exact ⟨fun h => absurd h (by simp), fun _ => ⟨rfl, rfl, hlx⟩, fun _ => ⟨rfl, rfl, hh⟩⟩
theorem cg2_rel (m : Nat) (z x : Bool) (a : Int) {r : List Nat} {ovx ovy : Nat} {lx ly : List Nat} (h : Rel r ovx lx ovy ly) : ((cg2 m z x a ovy ly).1.1 = 0 → (cg2 m z x a ovy ly).2 = (ovy, ly)) ∧ (((cg2 m z x a ovy ly).1.1 ≠ 0 ∨ r = []) → (cg2 m z x a ovx lx).1 = (cg2 m z x a ovy ly).1 ∧ Rel r (cg2 m z x a ovx lx).2.1 (cg2 m z x a ovx lx).2.2 (cg2 m z x a ovy ly).2.1 (cg2 m z x a ovy ly).2.2) := by
  obtain ⟨h1, _, h2⟩ := cutOf_rel 0 (greD ) (greD_piece ) (greD_n ) h
  unfold cg2
  simp only
  refine ⟨fun e => by rw [h1 e], fun e => ?_⟩
  obtain ⟨e1, e2, e3⟩ := h2 e
  rw [e1, e2]
  exact ⟨rfl, e3⟩
theorem cg3_rel (m : Nat) (z x : Bool) (a : Int) {r : List Nat} {ovx ovy : Nat} {lx ly : List Nat} (h : Rel r ovx lx ovy ly) : ((cg3 m z x a ovy ly).1.1 = 0 → (cg3 m z x a ovy ly).2 = (ovy, ly)) ∧ (((cg3 m z x a ovy ly).1.1 ≠ 0 ∨ r = []) → (cg3 m z x a ovx lx).1 = (cg3 m z x a ovy ly).1 ∧ Rel r (cg3 m z x a ovx lx).2.1 (cg3 m z x a ovx lx).2.2 (cg3 m z x a ovy ly).2.1 (cg3 m z x a ovy ly).2.2) := by
  obtain ⟨h1, _, h2⟩ := cutOf_rel 0 (flaD ) (flaD_piece ) (flaD_n ) h
  unfold cg3
  simp only
  refine ⟨fun e => by rw [h1 e], fun e => ?_⟩
  obtain ⟨e1, e2, e3⟩ := h2 e
  rw [e1, e2]
  exact ⟨rfl, e3⟩
theorem cg5_rel (m : Nat) (z x : Bool) (a : Int) {r : List Nat} {ovx ovy : Nat} {lx ly : List Nat} (h : Rel r ovx lx ovy ly) : ((cg5 m z x a ovy ly).1.1 = 0 → (cg5 m z x a ovy ly).2 = (ovy, ly)) ∧ (((cg5 m z x a ovy ly).1.1 ≠ 0 ∨ r = []) → (cg5 m z x a ovx lx).1 = (cg5 m z x a ovy ly).1 ∧ Rel r (cg5 m z x a ovx lx).2.1 (cg5 m z x a ovx lx).2.2 (cg5 m z x a ovy ly).2.1 (cg5 m z x a ovy ly).2.2) := by
  obtain ⟨h1, _, h2⟩ := cutOf_rel (0, 0, []) (repD m) (repD_piece m) (repD_n m) h
  unfold cg5
  simp only
  refine ⟨fun e => by rw [h1 e], fun e => ?_⟩
  obtain ⟨e1, e2, e3⟩ := h2 e
  rw [e1, e2]
  exact ⟨rfl, e3⟩
theorem cg6_rel (m : Nat) (z x : Bool) (a : Int) {r : List Nat} {ovx ovy : Nat} {lx ly : List Nat} (h : Rel r ovx lx ovy ly) : ((cg6 m z x a ovy ly).1.1 = 0 → (cg6 m z x a ovy ly).2 = (ovy, ly)) ∧ (((cg6 m z x a ovy ly).1.1 ≠ 0 ∨ r = []) → (cg6 m z x a ovx lx).1 = (cg6 m z x a ovy ly).1 ∧ Rel r (cg6 m z x a ovx lx).2.1 (cg6 m z x a ovx lx).2.2 (cg6 m z x a ovy ly).2.1 (cg6 m z x a ovy ly).2.2) := by
  obtain ⟨h1, _, h2⟩ := cutOf_rel (0, 0) (expD z) (expD_piece z) (expD_n z) h
  unfold cg6
  simp only
  refine ⟨fun e => by rw [h1 e], fun e => ?_⟩
  obtain ⟨e1, e2, e3⟩ := h2 e
  rw [e1, e2]
  exact ⟨rfl, e3⟩
theorem cg7_rel (m : Nat) (z x : Bool) (a : Int) {r : List Nat} {ovx ovy : Nat} {lx ly : List Nat} (h : Rel r ovx lx ovy ly) : ((cg7 m z x a ovy ly).1.1 = 0 → (cg7 m z x a ovy ly).2 = (ovy, ly)) ∧ (((cg7 m z x a ovy ly).1.1 ≠ 0 ∨ r = []) → (cg7 m z x a ovx lx).1 = (cg7 m z x a ovy ly).1 ∧ Rel r (cg7 m z x a ovx lx).2.1 (cg7 m z x a ovx lx).2.2 (cg7 m z x a ovy ly).2.1 (cg7 m z x a ovy ly).2.2) := by
  obtain ⟨h1, _, h2⟩ := cutOf_rel (0, 0, 0, 0, 0, []) (reqD m x) (reqD_piece m x) (reqD_n m x) h
  unfold cg7
  simp only
  refine ⟨fun e => by rw [h1 e], fun e => ?_⟩
  obtain ⟨e1, e2, e3⟩ := h2 e
  rw [e1, e2]
  exact ⟨rfl, e3⟩
theorem cg8_rel (m : Nat) (z x : Bool) (a : Int) {r : List Nat} {ovx ovy : Nat} {lx ly : List Nat} (h : Rel r ovx lx ovy ly) : ((cg8 m z x a ovy ly).1.1 = 0 → (cg8 m z x a ovy ly).2 = (ovy, ly)) ∧ (((cg8 m z x a ovy ly).1.1 ≠ 0 ∨ r = []) → (cg8 m z x a ovx lx).1 = (cg8 m z x a ovy ly).1 ∧ Rel r (cg8 m z x a ovx lx).2.1 (cg8 m z x a ovx lx).2.2 (cg8 m z x a ovy ly).2.1 (cg8 m z x a ovy ly).2.2) := by
  obtain ⟨h1, _, h2⟩ := cutOf_rel ansZ (ansD m x) (ansD_piece m x) (ansD_n m x) h
  unfold cg8
  simp only
  refine ⟨fun e => by rw [h1 e], fun e => ?_⟩
  obtain ⟨e1, e2, e3⟩ := h2 e
  rw [e1, e2]
  exact ⟨rfl, e3⟩
theorem cg9_rel (m : Nat) (z x : Bool) (a : Int) {r : List Nat} {ovx ovy : Nat} {lx ly : List Nat} (h : Rel r ovx lx ovy ly) : ((cg9 m z x a ovy ly).1.1 = 0 → (cg9 m z x a ovy ly).2 = (ovy, ly)) ∧ (((cg9 m z x a ovy ly).1.1 ≠ 0 ∨ r = []) → (cg9 m z x a ovx lx).1 = (cg9 m z x a ovy ly).1 ∧ Rel r (cg9 m z x a ovx lx).2.1 (cg9 m z x a ovx lx).2.2 (cg9 m z x a ovy ly).2.1 (cg9 m z x a ovy ly).2.2) := by
  obtain ⟨h1, _, h2⟩ := cutOf_rel [] (datD a) (datD_piece a) (datD_n a) h
  unfold cg9
  simp only
  refine ⟨fun e => by rw [h1 e], fun e => ?_⟩
  obtain ⟨e1, e2, e3⟩ := h2 e
  rw [e1, e2]
  exact ⟨rfl, e3⟩
theorem cg4_rel (m : Nat) (z x : Bool) (a : Int) {r : List Nat} {ovx ovy : Nat} {lx ly : List Nat} (h : Rel r ovx lx ovy ly) : ((cg4 m z x a ovy ly).1.1 = 0 → (cg4 m z x a ovy ly).2 = (ovy, ly)) ∧ (((cg4 m z x a ovy ly).1.1 ≠ 0 ∨ r = []) → (cg4 m z x a ovx lx).1 = (cg4 m z x a ovy ly).1 ∧ Rel r (cg4 m z x a ovx lx).2.1 (cg4 m z x a ovx lx).2.2 (cg4 m z x a ovy ly).2.1 (cg4 m z x a ovy ly).2.2) := by
  obtain ⟨h1, h0, h2⟩ := cutOf_rel (0, 0, false, []) (optF m) (optF_piece m) (optF_n m) h
  unfold cg4 optC
  simp only
  generalize cutOf (0, 0, false, []) ovy ly (optF m ly) = C at *
  generalize cutOf (0, 0, false, []) ovx lx (optF m lx) = A at *
  by_cases hz : C.2.1 = 0
  · have e := h1 hz
    subst e
    refine ⟨fun _ => rfl, fun e => ?_⟩
    obtain ⟨e1, e2, e3⟩ := h2 (by simpa using e)
    simp only at e1 e2 e3
    rw [e1]
    simp only [e2]
    exact ⟨rfl, e3⟩
  · obtain ⟨rfl, rfl, e0⟩ := h0 hz
    obtain ⟨e1, e2, e3⟩ := h2 (.inl hz)
    by_cases hl : C.1.2.2.1 = true
    · rw [e1]
      simp only [hl, if_true]
      refine ⟨fun e => absurd e hz, fun _ => ⟨by rw [e2], ?_⟩⟩
      rw [e0]
      refine ⟨fun hp => List.drop_eq_nil_of_le (by omega), ?_, ?_⟩
      · rw [← drop_two C.2.2 r C.1.2.1 _ rfl]
        by_cases hq : (C.2.2 ++ r).length ≤ C.1.2.1
        · rw [Nat.min_eq_left hq, List.drop_eq_nil_of_le (Nat.le_refl _), List.drop_eq_nil_of_le hq]
        · rw [Nat.min_eq_right (by omega)]
      · simp only [List.length_append, List.length_drop]; omega
    · rw [e1]
      simp only [hl, if_false]
      exact ⟨fun e => absurd e hz, fun _ => ⟨by rw [e2]; rfl, e3⟩⟩
theorem cgD_rel (kd : Int) (hk : 2 ≤ kd ∧ kd ≤ 9) (m : Nat) (z x : Bool) (a : Int) {r : List Nat} {ovx ovy : Nat} {lx ly : List Nat} (h : Rel r ovx lx ovy ly) : ((cgD kd m z x a ovy ly).1.1 = 0 → (cgD kd m z x a ovy ly).2 = (ovy, ly)) ∧ (((cgD kd m z x a ovy ly).1.1 ≠ 0 ∨ r = []) → (cgD kd m z x a ovx lx).1 = (cgD kd m z x a ovy ly).1 ∧ Rel r (cgD kd m z x a ovx lx).2.1 (cgD kd m z x a ovx lx).2.2 (cgD kd m z x a ovy ly).2.1 (cgD kd m z x a ovy ly).2.2) := by
  unfold cgD
  by_cases q2 : kd = 2
  · simp only [if_pos q2]; exact cg2_rel m z x a h
  simp only [if_neg q2]
  by_cases q3 : kd = 3
  · simp only [if_pos q3]; exact cg3_rel m z x a h
  simp only [if_neg q3]
  by_cases q4 : kd = 4
  · simp only [if_pos q4]; exact cg4_rel m z x a h
  simp only [if_neg q4]
  by_cases q5 : kd = 5
  · simp only [if_pos q5]; exact cg5_rel m z x a h
  simp only [if_neg q5]
  by_cases q6 : kd = 6
  · simp only [if_pos q6]; exact cg6_rel m z x a h
  simp only [if_neg q6]
  by_cases q7 : kd = 7
  · simp only [if_pos q7]; exact cg7_rel m z x a h
  simp only [if_neg q7]
  by_cases q8 : kd = 8
  · simp only [if_pos q8]; exact cg8_rel m z x a h
  simp only [if_neg q8]
  by_cases q9 : kd = 9
  · simp only [if_pos q9]; exact cg9_rel m z x a h
  simp only [if_neg q9]
  omega
end Go.Proofs.Ytckfmpoddmccfaa
