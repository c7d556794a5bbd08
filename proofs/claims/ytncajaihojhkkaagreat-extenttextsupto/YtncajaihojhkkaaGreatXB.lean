import Derived.Test.YtncajaihojhkkaaGreatXS
import Derived.Test.YtncajaihojhkkaaGreatXL
namespace Go.Proofs.YtncajaihojhkkaaGreat
open Go.RowKit Go.Sort
set_option linter.unusedVariables false
set_option linter.unusedSimpArgs false

/-- a world that has come of another by draws and new blocks alone -/
theorem grow_of_below {w w' : World} (h : Below w.heap.size w w') (hd : w.drawn ≤ w'.drawn) : ∃ q os, w' = grow (w.drewN q) os := by
  refine ⟨w'.drawn - w.drawn, w'.heap.extract w.heap.size w'.heap.size, ?_⟩
  obtain ⟨heap, tape, drawn, os, output⟩ := w
  obtain ⟨heap', tape', drawn', os', output'⟩ := w'
  obtain ⟨h1, h2, h3, h4, h5⟩ := h
  simp only at h1 h2 h3 h4 h5 hd
  subst h1; subst h2; subst h3
  simp only [grow, World.drewN]
  congr 1
  · apply Array.ext_getElem?
    intro k
    by_cases hk : k < heap.size
    · rw [Array.getElem?_append_left hk]; exact h5 k hk
    · rw [Array.getElem?_append_right (by omega), Array.getElem?_extract]
      by_cases hk' : k < heap'.size
      · rw [if_pos (by omega)]; congr 1; omega
      · rw [if_neg (by omega), Array.getElem?_eq_none (by omega)]
  · omega
theorem below_of_grow (B : Nat) (w : World) (q : Nat) (os : Array Obj) (h : B ≤ w.heap.size) : Below B w (grow (w.drewN q) os) := below_grown_sl B w q os h

section
variable {α : Type} (enc : α → Value)
/-- a run's cells -/
def rcell (r : Rn α) : List Value := [.int .i64 r.lo, .int .i64 r.hi, enc r.v]
def rcells (rs : List (Rn α)) : List Value := rs.flatMap (rcell enc)
theorem rcells_nil : rcells enc [] = [] := rfl
theorem rcells_cons (r : Rn α) (rs : List (Rn α)) : rcells enc (r :: rs) = rcell enc r ++ rcells enc rs := by simp [rcells]
theorem rcells_append (a b : List (Rn α)) : rcells enc (a ++ b) = rcells enc a ++ rcells enc b := by simp [rcells]
theorem rcells_length (rs : List (Rn α)) : (rcells enc rs).length = rs.length * 3 := by
  induction rs with
  | nil => rfl
  | cons r rs ih => rw [rcells_cons, List.length_append, ih]; simp [rcell]; omega
theorem rcells_take (rs : List (Rn α)) (n : Nat) : (rcells enc rs).take (n * 3) = rcells enc (rs.take n) := by
  induction rs generalizing n with
  | nil => simp [rcells]
  | cons r rs ih =>
    cases n with
    | zero => simp [rcells]
    | succ n =>
      rw [rcells_cons, List.take_succ_cons, rcells_cons, ← ih n, show (n + 1) * 3 = 3 + n * 3 by omega]
      exact List.take_length_add_append (l₁ := rcell enc r) (n * 3)
theorem rcells_drop (rs : List (Rn α)) (n : Nat) : (rcells enc rs).drop (n * 3) = rcells enc (rs.drop n) := by
  induction rs generalizing n with
  | nil => simp [rcells]
  | cons r rs ih =>
    cases n with
    | zero => simp
    | succ n =>
      rw [rcells_cons, List.drop_succ_cons, ← ih n, show (n + 1) * 3 = 3 + n * 3 by omega]
      exact List.drop_length_add_append (l₁ := rcell enc r) (n * 3)
theorem rcells_get (rs : List (Rn α)) (k : Nat) (r : Rn α) (h : rs[k]? = some r) (j : Nat) (hj : j < 3) : (rcells enc rs)[k * 3 + j]? = (rcell enc r)[j]? := by
  have hk := (List.getElem?_eq_some_iff.1 h).1
  have e : rs = rs.take k ++ r :: rs.drop (k + 1) := by
    have := List.take_append_drop k rs
    rw [List.drop_eq_getElem_cons hk, (List.getElem?_eq_some_iff.1 h).2] at this
    exact this.symm
  conv => lhs; rw [e]
  rw [rcells_append, rcells_cons, List.getElem?_append_right (by rw [rcells_length, List.length_take]; omega), rcells_length, List.length_take, show min k rs.length = k by omega, List.getElem?_append_left (by simp [rcell]; omega)]
  congr 1; omega
end
end Go.Proofs.YtncajaihojhkkaaGreat
