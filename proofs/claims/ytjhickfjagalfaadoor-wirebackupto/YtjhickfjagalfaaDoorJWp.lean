import Derived.Orders
namespace Go.Proofs.YtjhickfjagalfaaDoor
open Go
set_option linter.unusedVariables false
set_option linter.unusedSimpArgs false

theorem getD_set (l : Array Bool) (i j : Nat) : (l.setIfInBounds i true).getD j true = (decide (i = j) || l.getD j true) := by
  by_cases e : i = j
  · subst e
    simp only [decide_true, Bool.true_or]
    rw [Array.getD_eq_getD_getElem?, Array.getElem?_setIfInBounds_self]
    split <;> rfl
  · simp only [e, decide_false, Bool.false_or]
    rw [Array.getD_eq_getD_getElem?, Array.getElem?_setIfInBounds_ne e, ← Array.getD_eq_getD_getElem?]
theorem count_zero {l : Array Bool} (h : l.toList.count false = 0) (i : Nat) : l.getD i true = true := by
  rw [Array.getD_eq_getD_getElem?]
  cases hi : l[i]? with
  | none => rfl
  | some b =>
    cases b
    · have hm : false ∈ l.toList := List.mem_of_getElem? (i := i) (by simpa using hi)
      have := List.count_pos_iff.2 hm
      omega
    · rfl
theorem count_less {l : Array Bool} {i : Nat} (h : l.getD i true = false) : (l.setIfInBounds i true).toList.count false < l.toList.count false := by
  rw [Array.getD_eq_getD_getElem?] at h
  cases hi : l[i]? with
  | none => rw [hi] at h; cases h
  | some b =>
    rw [hi] at h
    simp at h
    subst h
    have hlt := (Array.getElem?_eq_some_iff.1 hi).1
    have hm : false ∈ l.toList := List.mem_of_getElem? (i := i) (by simpa using hi)
    have hp := List.count_pos_iff.2 hm
    have e1 : l.toList[i]? = some false := by simpa using hi
    rw [Array.toList_setIfInBounds, List.count_set (by simpa using hlt)]
    have e2 : l.toList[i]'(by simpa using hlt) = false := by
      rw [List.getElem?_eq_some_iff] at e1
      exact e1.2
    rw [e2]
    have e3 : ((true : Bool) == false) = false := rfl
    have e4 : ((false : Bool) == false) = true := rfl
    rw [e3, e4]
    simp only [if_true, Bool.false_eq_true, if_false]
    omega
theorem getD_tt {l : Array Bool} {j : Nat} (h : l.getD j false = true) : l.getD j true = true := by
  rw [Array.getD_eq_getD_getElem?] at h ⊢
  cases hj : l[j]? with
  | none => rfl
  | some b => rw [hj] at h; exact h
/-- each operation comes behind those that bind, of those that it leans on -/
def topoB (md : Region.Mode) (ops : Array Oper) : Bool := (List.range ops.size).all fun j => match ops[j]? with
  | some o => o.after.all fun e => (!Region.binds md e || decide (e.on < j))
  | none => true
theorem ready_allB {md : Region.Mode} {ops : Array Oper} {l : Array Bool} (ht : topoB md ops = true) (hs : l.size = ops.size) (h : Region.ready md ops l = []) : ∀ j, l.getD j true = true := by
  intro j
  induction j using Nat.strongRecOn with
  | _ j ih =>
    cases hb : l.getD j true with
    | true => rfl
    | false =>
      have hj : j < ops.size := by
        rcases Nat.lt_or_ge j ops.size with h1 | h1
        · exact h1
        · rw [Array.getD_eq_getD_getElem?, Array.getElem?_eq_none (by omega)] at hb; cases hb
      have ho : ops[j]? = some ops[j] := Array.getElem?_eq_getElem hj
      have ht1 := List.all_eq_true.1 ht j (List.mem_range.2 hj)
      rw [ho] at ht1
      simp only [Array.all_eq_true'] at ht1
      have hm : j ∈ Region.ready md ops l := mem_ready.2 ⟨hb, _, ho, fun e he hb2 => by
        have hlt : e.on < j := by simpa [hb2] using ht1 e he
        have h1 := ih e.on hlt
        rw [Array.getD_eq_getD_getElem?, Array.getElem?_eq_getElem (by omega)] at h1 ⊢
        exact h1⟩
      rw [h] at hm
      cases hm
theorem wpOp_want {P : Program} {ops : Array Oper} {Q : Exit → Act → World → Prop} {i : Nat} {o : Oper} {K : Act → World → Prop} {a : Act} {w : World} (ho : ops[i]? = some o) (hg : o.guard = none) (h : ∀ K' : Act → World → Prop, (∀ a w, K a w → K' a w) → o.wp P a w K' Q) : wpOp P ops Q i K a w := by
  unfold wpOp
  simp only [ho]
  rw [if_pos (by simp [Region.wanted, hg])]
  exact .inl (h K (fun _ _ h => h))
section
variable {P : Program} {md : Region.Mode} {ops : Array Oper} {Q : Exit → Act → World → Prop}
/-- A region that draws its order, in the plain walk: an invariant over what has been listed. -/
theorem wpAny_inv (I : Array Bool → Act → World → Prop) (left : Array Bool → Nat) (hl0 : ∀ l a w, I l a w → left l = 0 → Region.ready md ops l = [])
    (hls : ∀ l a w i, I l a w → i ∈ Region.ready md ops l → left (l.setIfInBounds i true) < left l)
    (hdone : ∀ l a w, I l a w → Region.ready md ops l = [] → Q .normal a w)
    (hstep : ∀ l a w i, I l a w → i ∈ Region.ready md ops l → wpOp P ops Q i (fun a' w' => I (l.setIfInBounds i true) a' w') a w) :
    ∀ (fuel : Nat) (l : Array Bool) (a : Act) (w : World), left l ≤ fuel → I l a w → wpAny P md ops Q fuel l a w := by
  intro fuel
  induction fuel with
  | zero => intro l a w hf hi; exact ⟨hl0 l a w hi (by omega), hdone l a w hi (hl0 l a w hi (by omega))⟩
  | succ fuel ih =>
    intro l a w hf hi
    refine ⟨fun h => hdone l a w hi h, fun i hr => ?_⟩
    have h1 := hls l a w i hi hr
    exact wpOp_mono (fun a' w' h => ih _ a' w' (by omega) h) (hstep l a w i hi hr)
theorem wpAny_by (I : Array Bool → Act → World → Prop)
    (hdone : ∀ l a w, I l a w → Region.ready md ops l = [] → Q .normal a w)
    (hstep : ∀ l a w i, I l a w → i ∈ Region.ready md ops l → wpOp P ops Q i (fun a' w' => I (l.setIfInBounds i true) a' w') a w) :
    ∀ (fuel : Nat) (l : Array Bool) (a : Act) (w : World), l.toList.count false ≤ fuel → I l a w → wpAny P md ops Q fuel l a w :=
  wpAny_inv I (fun l => l.toList.count false) (fun l a w hi h0 => by
    cases hr : Region.ready md ops l with
    | nil => rfl
    | cons i t =>
      have hm : i ∈ Region.ready md ops l := by rw [hr]; simp
      have h1 := (mem_ready.1 hm).1
      rw [count_zero h0] at h1
      cases h1)
    (fun l a w i hi hm => count_less (mem_ready.1 hm).1) hdone hstep
end
end Go.Proofs.YtjhickfjagalfaaDoor
