import Derived.WalkKit
namespace Go.Proofs.Ytpchllepboolhaa.D
set_option linter.unusedVariables false

abbrev It := Int × Nat
/-- the keys, each with its pins -/
def pinsOf (k : Int) : List It → Option Nat
  | [] => none
  | x :: r => if x.1 = k then some x.2 else pinsOf k r
def rm (k : Int) : List It → List It
  | [] => []
  | x :: r => if x.1 = k then r else x :: rm k r
def setP (k : Int) (m : Nat) : List It → List It
  | [] => []
  | x :: r => if x.1 = k then (k, m) :: r else x :: setP k m r
theorem split_or (k : Int) : ∀ A : List It, (∀ x ∈ A, x.1 ≠ k) ∨ ∃ A1 p A2, A = A1 ++ (k, p) :: A2 ∧ ∀ x ∈ A1, x.1 ≠ k
  | [] => .inl (by simp)
  | x :: r => by
    by_cases h : x.1 = k
    · exact .inr ⟨[], x.2, r, by rw [← h]; rfl, by simp⟩
    · rcases split_or k r with h1 | ⟨A1, p, A2, rfl, h2⟩
      · exact .inl fun y hy => (List.mem_cons.1 hy).elim (fun e => e ▸ h) (h1 y)
      · exact .inr ⟨x :: A1, p, A2, rfl, fun y hy => (List.mem_cons.1 hy).elim (fun e => e ▸ h) (h2 y)⟩
theorem pinsOf_no {k : Int} : ∀ {A : List It}, (∀ x ∈ A, x.1 ≠ k) → pinsOf k A = none
  | [], _ => rfl
  | x :: r, h => by unfold pinsOf; rw [if_neg (h x (by simp))]; exact pinsOf_no fun y hy => h y (by simp [hy])
theorem pinsOf_at {k : Int} {p : Nat} {A2 : List It} : ∀ {A1 : List It}, (∀ x ∈ A1, x.1 ≠ k) → pinsOf k (A1 ++ (k, p) :: A2) = some p
  | [], _ => by simp [pinsOf]
  | x :: r, h => by simp only [List.cons_append]; unfold pinsOf; rw [if_neg (h x (by simp))]; exact pinsOf_at fun y hy => h y (by simp [hy])
theorem rm_at {k : Int} {p : Nat} {A2 : List It} : ∀ {A1 : List It}, (∀ x ∈ A1, x.1 ≠ k) → rm k (A1 ++ (k, p) :: A2) = A1 ++ A2
  | [], _ => by simp [rm]
  | x :: r, h => by simp only [List.cons_append]; unfold rm; rw [if_neg (h x (by simp)), rm_at fun y hy => h y (by simp [hy])]
theorem setP_at {k : Int} {p m : Nat} {A2 : List It} : ∀ {A1 : List It}, (∀ x ∈ A1, x.1 ≠ k) → setP k m (A1 ++ (k, p) :: A2) = A1 ++ (k, m) :: A2
  | [], _ => by simp [setP]
  | x :: r, h => by simp only [List.cons_append]; unfold setP; rw [if_neg (h x (by simp)), setP_at fun y hy => h y (by simp [hy])]
/-- one call -/
def stp (kind k : Int) (A : List It) : List It :=
  if kind = 1 then (match pinsOf k A with | some _ => A | none => A ++ [(k, 0)])
  else if kind = 2 then (match pinsOf k A with | some p => rm k A ++ [(k, p)] | none => A)
  else if kind = 3 then rm k A
  else if kind = 4 then (match pinsOf k A with | some p => if p < 2147483647 then setP k (p + 1) A else A | none => A)
  else if kind = 5 then (match pinsOf k A with | some p => if p = 0 then A else setP k (p - 1) A | none => A)
  else A
theorem rm_no {k : Int} : ∀ {A : List It}, (∀ x ∈ A, x.1 ≠ k) → rm k A = A
  | [], _ => rfl
  | x :: r, h => by unfold rm; rw [if_neg (h x (by simp)), rm_no fun y hy => h y (by simp [hy])]
theorem stp_length (kind k : Int) (A : List It) : (stp kind k A).length ≤ A.length + 1 := by
  unfold stp
  rcases split_or k A with h | ⟨A1, p, A2, rfl, h⟩
  · rw [pinsOf_no h, rm_no h]
    split
    · simp
    · split
      · simp only; omega
      · split
        · omega
        · split
          · simp only; omega
          · split
            · simp only; omega
            · omega
  · rw [pinsOf_at h, rm_at h]
    split
    · simp
    · split
      · simp only; simp
      · split
        · simp; omega
        · split
          · simp only; split
            · rw [setP_at h]; simp
            · simp
          · split
            · simp only; split
              · simp
              · rw [setP_at h]; simp
            · simp
def keysOf (A : List It) : List Int := A.map (·.1)
def freeOf (A : List It) : List Int := (A.filter (fun x => decide (x.2 = 0))).map (·.1)
def oldOf (A : List It) : Option Int := (freeOf A).head?
/-- cells of items -/
def icell (x : It) : List Value := [.int .i64 x.1, .int .i64 x.2]
def icells (l : List It) : List Value := l.flatMap icell
theorem icells_length (l : List It) : (icells l).length = l.length * 2 := by
  induction l with
  | nil => rfl
  | cons a t ih => simp [icells, icell] at ih ⊢; omega
theorem icells_append (a b : List It) : icells (a ++ b) = icells a ++ icells b := by simp [icells]
theorem icells_one (l : List It) : ∀ u ∈ icells l, u.oneCell' = true := by
  intro u hu
  obtain ⟨r, _, hr⟩ := List.mem_flatMap.1 hu
  simp only [icell, List.mem_cons, List.not_mem_nil, or_false] at hr
  rcases hr with rfl | rfl <;> rfl
theorem icells_get (l : List It) (k : Nat) (p : It) (h : l[k]? = some p) : (icells l)[k * 2]? = some (.int .i64 p.1) ∧ (icells l)[k * 2 + 1]? = some (.int .i64 p.2) := by
  induction l generalizing k with
  | nil => simp at h
  | cons a t ih =>
    cases k with
    | zero => simp at h; subst h; simp [icells, icell]
    | succ k =>
      simp at h
      have := ih k h
      have e : icells (a :: t) = icell a ++ icells t := by simp [icells]
      rw [e, List.getElem?_append_right (by simp [icell]; omega), List.getElem?_append_right (by simp [icell]; omega)]
      simp only [icell, List.length_cons, List.length_nil]
      rw [show (k + 1) * 2 - (0 + 1 + 1) = k * 2 by omega, show (k + 1) * 2 + 1 - (0 + 1 + 1) = k * 2 + 1 by omega]
      exact this
end Go.Proofs.Ytpchllepboolhaa.D
