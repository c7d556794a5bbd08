import Derived.Test.YtijafckdbhklmaaWAn
import Derived.RangeFuncCalls
namespace Go.Proofs.Ytijafckdbhklmaa
open Go
set_option linter.unusedVariables false
set_option linter.unusedSimpArgs false

theorem getD_set (l : Array Bool) (i j : Nat) : (l.setIfInBounds i true).getD j true = (decide (i = j) || l.getD j true) := by
  by_cases e : i = j
  · subst e
    simp only [decide_true, Bool.true_or]
    rw [Array.getD_eq_getD_getElem?, Array.getElem?_setIfInBounds_self]
    split <;> rfl
  · simp only [e, decide_false, Bool.false_or]
    rw [Array.getD_eq_getD_getElem?, Array.getElem?_setIfInBounds_ne e, ← Array.getD_eq_getD_getElem?]
theorem count_zero {l : Array Bool} (h : l.toList.count false = 0) (i : Nat) : l.getD i true = true := by
  rw [Array.getD_eq_getD_getElem?]
  cases hi : l[i]? with
  | none => rfl
  | some b =>
    cases b
    · have hm : false ∈ l.toList := List.mem_of_getElem? (i := i) (by simpa using hi)
      have := List.count_pos_iff.2 hm
      omega
    · rfl
theorem count_less {l : Array Bool} {i : Nat} (h : l.getD i true = false) : (l.setIfInBounds i true).toList.count false < l.toList.count false := by
  rw [Array.getD_eq_getD_getElem?] at h
  cases hi : l[i]? with
  | none => rw [hi] at h; cases h
  | some b =>
    rw [hi] at h
    simp at h
    subst h
    have hlt := (Array.getElem?_eq_some_iff.1 hi).1
    have hm : false ∈ l.toList := List.mem_of_getElem? (i := i) (by simpa using hi)
    have hp := List.count_pos_iff.2 hm
    have e1 : l.toList[i]? = some false := by simpa using hi
    rw [Array.toList_setIfInBounds, List.count_set (by simpa using hlt)]
    have e2 : l.toList[i]'(by simpa using hlt) = false := by
      rw [List.getElem?_eq_some_iff] at e1
      exact e1.2
    rw [e2]
    have e3 : ((true : Bool) == false) = false := rfl
    have e4 : ((false : Bool) == false) = true := rfl
    rw [e3, e4]
    simp only [if_true, Bool.false_eq_true, if_false]
    omega
section
variable {F : Fence} {n : Nat} {P : Program} {md : Region.Mode} {ops : Array Oper} {Q : Exit → Act → World → Prop}
/-- a region that draws its order, by an invariant over what has been listed -/
theorem wpAnyIn_by (I : Array Bool → Act → World → Prop)
    (hdone : ∀ l a w, I l a w → Region.ready md ops l = [] → Q .normal a w)
    (hstep : ∀ l a w i, I l a w → i ∈ Region.ready md ops l → wpOpIn F n P ops Q i (fun a' w' => I (l.setIfInBounds i true) a' w') a w) :
    ∀ (fuel : Nat) (l : Array Bool) (a : Act) (w : World), l.toList.count false ≤ fuel → I l a w → wpAnyIn F n P md ops Q fuel l a w :=
  wpAnyIn_inv I (fun l => l.toList.count false) (fun l a w hi h0 => by
    cases hr : Region.ready md ops l with
    | nil => rfl
    | cons i t =>
      have hm : i ∈ Region.ready md ops l := by rw [hr]; simp
      have h1 := (mem_ready.1 hm).1
      rw [count_zero h0] at h1
      cases h1)
    (fun l a w i hi hm => count_less (mem_ready.1 hm).1) hdone hstep
end
end Go.Proofs.Ytijafckdbhklmaa
