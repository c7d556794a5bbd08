import Derived.OrdersIn
namespace Go.Proofs.Ytijafckdbhklmaa
open Go
set_option linter.unusedVariables false

section
variable {F : Fence} {n : Nat} {P : Program} {md : Region.Mode} {ops : Array Oper} {Q : Exit → Act → World → Prop}
theorem wpOpIn_mono {i : Nat} {K K' : Act → World → Prop} {a : Act} {w : World} (h : ∀ a w, K a w → K' a w) (hh : wpOpIn F n P ops Q i K a w) : wpOpIn F n P ops Q i K' a w := by
  unfold wpOpIn at hh ⊢
  split at hh
  · exact h _ _ hh
  · split at hh
    · rename_i e1; rw [if_pos e1]; exact Oper.wpIn_mono h hh
    · rename_i e1; rw [if_neg e1]; exact ⟨hh.1, h _ _ hh.2⟩
/-- A region that draws its order, in a fence with rounds or without: an invariant over what has been listed. 'left': how many are still to come, at most. -/
theorem wpAnyIn_inv (I : Array Bool → Act → World → Prop) (left : Array Bool → Nat) (hl0 : ∀ l a w, I l a w → left l = 0 → Region.ready md ops l = [])
    (hls : ∀ l a w i, I l a w → i ∈ Region.ready md ops l → left (l.setIfInBounds i true) < left l)
    (hdone : ∀ l a w, I l a w → Region.ready md ops l = [] → Q .normal a w)
    (hstep : ∀ l a w i, I l a w → i ∈ Region.ready md ops l → wpOpIn F n P ops Q i (fun a' w' => I (l.setIfInBounds i true) a' w') a w) :
    ∀ (fuel : Nat) (l : Array Bool) (a : Act) (w : World), left l ≤ fuel → I l a w → wpAnyIn F n P md ops Q fuel l a w := by
  intro fuel
  induction fuel with
  | zero => intro l a w hf hi; exact ⟨hl0 l a w hi (by omega), hdone l a w hi (hl0 l a w hi (by omega))⟩
  | succ fuel ih =>
    intro l a w hf hi
    refine ⟨fun h => hdone l a w hi h, fun i hr => ?_⟩
    have h1 := hls l a w i hi hr
    exact wpOpIn_mono (fun a' w' h => ih _ a' w' (by omega) h) (hstep l a w i hi hr)
end
end Go.Proofs.Ytijafckdbhklmaa
