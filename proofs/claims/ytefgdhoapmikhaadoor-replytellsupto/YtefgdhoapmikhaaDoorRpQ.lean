import Derived.Test.YtefgdhoapmikhaaDoorRpW
namespace Go.Proofs.YtefgdhoapmikhaaDoor
open Go.RowKit
set_option linter.unusedVariables false
set_option linter.unusedSimpArgs false
set_option maxRecDepth 100000
/-- the last one is marked as the last -/
def doneK : List Ck → List Ck
  | [] => []
  | [c] => [{ c with fl := 1 }]
  | c :: c' :: t => c :: doneK (c' :: t)
abbrev Say := Nat × Nat × Nat × Nat × List Nat
def doneS : List Say → List Say
  | [] => []
  | [x] => [(1, x.2)]
  | x :: y :: t => x :: doneS (y :: t)
theorem doneK_say : ∀ L : List Ck, (doneK L).map Ck.say = doneS (L.map Ck.say)
  | [] => rfl
  | [c] => rfl
  | c :: c' :: t => by
    have := doneK_say (c' :: t)
    simp only [doneK, List.map_cons, doneS] at this ⊢
    rw [this]
theorem doneK_len : ∀ L : List Ck, (doneK L).length = L.length
  | [] => rfl
  | [c] => rfl
  | c :: c' :: t => by
    have := doneK_len (c' :: t)
    simp only [doneK, List.length_cons] at this ⊢
    rw [this]
theorem doneK_cells : ∀ L : List Ck, (doneK L).flatMap Ck.cells = (L.flatMap Ck.cells).set ((L.length - 1) * 5) (.int .u16 1)
  | [] => rfl
  | [c] => rfl
  | c :: c' :: t => by
    have ih := doneK_cells (c' :: t)
    have e2 : ((c :: c' :: t).length - 1) * 5 = c.cells.length + ((c' :: t).length - 1) * 5 := by rw [Ck.len]; simp only [List.length_cons]; omega
    have e3 : (c :: c' :: t).flatMap Ck.cells = c.cells ++ (c' :: t).flatMap Ck.cells := List.flatMap_cons
    have e4 : (doneK (c :: c' :: t)).flatMap Ck.cells = c.cells ++ (doneK (c' :: t)).flatMap Ck.cells := List.flatMap_cons
    rw [e3, e4, ih, e2]
    generalize (c' :: t).flatMap Ck.cells = X
    rw [List.set_append, if_neg (by omega), Nat.add_sub_cancel_left]
theorem doneK_mem : ∀ (L : List Ck) (c : Ck), c ∈ doneK L → ∃ c' ∈ L, c.ao = c'.ao ∧ c.cap = c'.cap ∧ c.d = c'.d
  | [], c, h => by simp [doneK] at h
  | [x], c, h => by
    simp [doneK] at h
    exact ⟨x, by simp, by rw [h], by rw [h], by rw [h]⟩
  | x :: y :: t, c, h => by
    simp only [doneK, List.mem_cons] at h
    rcases h with rfl | h
    · exact ⟨c, by simp, rfl, rfl, rfl⟩
    · obtain ⟨c', hc, e⟩ := doneK_mem (y :: t) c h
      exact ⟨c', List.mem_cons_of_mem _ hc, e⟩
theorem owns_set {W : World} {B e size n g cap j : Nat} {xs : List Value} (h : W.ownsRow B e size (.slice (some ⟨g, 0, none⟩) n cap) n xs) (x : Value) (hj : j < n * size) : (W.setCell ⟨g, j, none⟩ x).ownsRow B e size (.slice (some ⟨g, 0, none⟩) n cap) n (xs.set j x) := by
  refine ⟨by rw [List.length_set]; exact h.1, Or.inr ?_⟩
  rcases h.2 with ⟨h0, _⟩ | ⟨g', cap', cur, hv, hb, hc, h1, h2, h3, h4⟩
  · simp at h0
  · simp at hv
    obtain ⟨rfl, rfl⟩ := hv
    refine ⟨g, cap, cur.setIfInBounds j x, rfl, hb, heap_setCell_same W g j cur e x hc, h1, h2, by simpa using h3, ?_⟩
    rw [Array.toList_setIfInBounds, List.take_set, h4]
theorem Cks.done {w W : World} {g cap n : Nat} {L : List Ck} (h : Cks w W (.slice (some ⟨g, 0, none⟩) n cap) L) (hn : L.length = n) (h0 : 0 < n) : Cks w (W.setCell ⟨g, (n - 1) * 5, none⟩ (.int .u16 1)) (.slice (some ⟨g, 0, none⟩) n cap) (doneK L) := by
  subst hn
  refine ⟨?_, fun c hc => ?_⟩
  · rw [doneK_len, doneK_cells]
    exact owns_set h.own _ (by omega)
  · obtain ⟨c', hc', e1, e2, e3⟩ := doneK_mem L c hc
    rw [e1, e2, e3]
    refine ⟨owns_same (h.dat c' hc').1 (fun k hk => Below.heap_setCell _ _ _ _ (fun e => ?_)), (h.dat c' hc').2⟩
    obtain ⟨cur, h1⟩ := owns_type (h.dat c' hc').1 k hk
    obtain ⟨_, _, cur', h2⟩ := owns_ltK h.own g rfl
    rw [show k = g from e] at h1
    rw [h1] at h2
    simp at h2
theorem owns_monoK {w : World} {b b' : Nat} {e : TypeId} {size : Nat} {v : Value} {n : Nat} {xs : List Value} (h : w.ownsRow b e size v n xs) (hb : b' ≤ b) : w.ownsRow b' e size v n xs := by
  refine ⟨h.1, ?_⟩
  rcases h.2 with h0 | ⟨g, cap, cur, hv, h1, h2⟩
  · exact Or.inl h0
  · exact Or.inr ⟨g, cap, cur, hv, Nat.le_trans hb h1, h2⟩
theorem cks_form {w W : World} {v : Value} {L : List Ck} (h : Cks w W v L) (h0 : 0 < L.length) : ∃ g cap, v = .slice (some ⟨g, 0, none⟩) L.length cap ∧ w.heap.size ≤ g ∧ g < W.heap.size ∧ L.length ≤ cap ∧ cap ≤ 9223372036854775807 ∧ W.frozen? ⟨g, (L.length - 1) * 5, none⟩ = false ∧ ∃ u, W.cell? ⟨g, (L.length - 1) * 5, none⟩ = some (.int .u16 u) := by
  rcases h.own.2 with ⟨_, h1⟩ | ⟨g, cap, cur, hv, hb, hc, h1, h2, h3, h4⟩
  · omega
  · have hm : maxLen = 9223372036854775807 := by decide
    refine ⟨g, cap, hv, hb, block_lt hc, h1, by omega, blk_free hc _, ?_⟩
    have hlast : (L.flatMap Ck.cells)[(L.length - 1) * 5]? = some (.int .u16 ((L[L.length - 1]'(by omega)).fl : Int)) := by
      have e := cks_len (L.take (L.length - 1))
      rw [List.length_take, Nat.min_eq_left (by omega)] at e
      have hs : L = L.take (L.length - 1) ++ [L[L.length - 1]'(by omega)] := by
        have := List.take_succ_eq_append_getElem (l := L) (i := L.length - 1) (by omega)
        rw [show L.length - 1 + 1 = L.length by omega, List.take_length] at this
        exact this
      have : L.flatMap Ck.cells = (L.take (L.length - 1)).flatMap Ck.cells ++ (L[L.length - 1]'(by omega)).cells := by
        rw [congrArg (·.flatMap Ck.cells) hs, List.flatMap_append]; simp
      rw [this, List.getElem?_append_right (by rw [e]; omega), e, Nat.sub_self]
      rfl
    refine ⟨((L[L.length - 1]'(by omega)).fl : Int), ?_⟩
    rw [blk_at hc, ← Array.getElem?_toList]
    rw [← h4, List.getElem?_take_of_lt (by omega)] at hlast
    exact hlast
end Go.Proofs.YtefgdhoapmikhaaDoor
