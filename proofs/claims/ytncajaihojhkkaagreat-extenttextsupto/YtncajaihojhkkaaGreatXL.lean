import Derived.Test.YtncajaihojhkkaaGreatXM
namespace Go.Proofs.YtncajaihojhkkaaGreat
set_option linter.unusedVariables false
set_option linter.unusedSimpArgs false
set_option linter.unusedSectionVars false
variable {α : Type} [DecidableEq α]

theorem snoc_of_last {l : List (Rn α)} {q : Rn α} (h : l.getLast? = some q) : l = l.dropLast ++ [q] := by
  cases l with
  | nil => cases h
  | cons x t =>
    rw [List.getLast?_eq_some_getLast (by simp)] at h
    cases h
    exact (List.dropLast_concat_getLast (by simp)).symm
theorem tiles_snoc {a b : Int} {l : List (Rn α)} {q : Rn α} : Tiles a b (l ++ [q]) ↔ Tiles a q.lo l ∧ q.lo < q.hi ∧ q.hi = b := by
  rw [tiles_append]
  constructor
  · rintro ⟨m, h1, h2, h3, h4⟩
    simp only [Tiles] at h4
    subst h2
    exact ⟨h1, h3, h4⟩
  · rintro ⟨h1, h2, h3⟩
    exact ⟨q.lo, h1, rfl, h2, h3⟩
/-- one more piece -/
theorem joinStep_spec {a b : Int} {l : List (Rn α)} {p : Rn α} (h1 : Tiles a b l) (h2 : Alt l) (hp : p.lo = b) (hle : b ≤ p.hi) :
    Tiles a p.hi (joinStep l p) ∧ Alt (joinStep l p) ∧ (∀ i u, Has (joinStep l p) i u ↔ Has l i u ∨ (p.lo ≤ i ∧ i < p.hi ∧ p.v = u)) ∧
      (∀ q, (joinStep l p).getLast? = some q → p.lo < p.hi → q.v = p.v) ∧
      (∀ q, (joinStep l p).head? = some q → match l.head? with | some x => q.v = x.v | none => q.v = p.v) := by
  unfold joinStep
  by_cases e : p.lo = p.hi
  · rw [if_pos e]
    have e' : b = p.hi := by omega
    refine ⟨e' ▸ h1, h2, fun i u => ⟨.inl, ?_⟩, fun q hq hlt => by omega, fun q hq => ?_⟩
    · rintro (h | h)
      · exact h
      · omega
    · rw [hq]
  · rw [if_neg e]
    cases hl : l.getLast? with
    | none =>
      have : l = [] := by simpa using hl
      subst this
      simp only [Tiles] at h1
      subst h1
      refine ⟨⟨hp, by omega, rfl⟩, trivial, fun i u => ?_, fun q hq _ => ?_, fun q hq => ?_⟩
      · simp [has_cons, has_nil]
      · cases hq; rfl
      · cases hq; rfl
    | some q =>
      have hs := snoc_of_last hl
      rw [hs] at h1 h2
      obtain ⟨t1, t2, t3⟩ := tiles_snoc.1 h1
      have hall : ∀ i u, Has l i u ↔ Has (l.dropLast) i u ∨ (q.lo ≤ i ∧ i < q.hi ∧ q.v = u) := fun i u => by
        rw [hs, has_append, has_cons]; simp [has_nil]
      by_cases ev : q.v = p.v
      · simp only [if_pos ev]
        refine ⟨tiles_snoc.2 ⟨t1, by simp; omega, rfl⟩, ?_, fun i u => ?_, fun x hx _ => ?_, fun x hx => ?_⟩
        · exact alt_append h2.left trivial (fun x y hx hy => by cases hy; exact h2.meet x q hx rfl)
        · rw [hall, has_append, has_cons]
          simp only [has_nil, or_false]
          constructor
          · rintro (h | ⟨h1, h2, h3⟩)
            · exact .inl (.inl h)
            · by_cases c : i < q.hi
              · exact .inl (.inr ⟨h1, c, h3⟩)
              · exact .inr ⟨by omega, h2, ev ▸ h3⟩
          · rintro ((h | ⟨h1, h2, h3⟩) | ⟨h1, h2, h3⟩)
            · exact .inl h
            · exact .inr ⟨h1, by omega, h3⟩
            · exact .inr ⟨by omega, h2, ev.trans h3⟩
        · simp at hx; subst hx; exact ev
        · cases hd : l.dropLast with
          | nil =>
            rw [hd] at hs hx
            simp only [List.nil_append] at hs hx
            rw [hs]; simp at hx; subst hx; rfl
          | cons y t =>
            rw [hd] at hs hx
            rw [hs]; simp at hx; subst hx; rfl
      · simp only [if_neg ev]
        refine ⟨?_, ?_, fun i u => ?_, fun x hx _ => ?_, fun x hx => ?_⟩
        · rw [hs]; exact tiles_append.2 ⟨b, tiles_snoc.2 ⟨t1, t2, t3⟩, hp, by omega, rfl⟩
        · rw [hs]; exact alt_append h2 trivial (fun x y hx hy => by cases hy; simp at hx; subst hx; exact ev)
        · rw [has_append, has_cons]; simp [has_nil]
        · simp at hx; subst hx; rfl
        · cases hd : l with
          | nil => rw [hd] at hl; cases hl
          | cons y t => rw [hd] at hx; simp at hx; subst hx; rfl

/-- what joined makes of three pieces that touch, the middle one with a place -/
theorem joined3 (a b c d : Int) (x y z : α) (h1 : a ≤ b) (h2 : b < c) (h3 : c ≤ d) :
    Tiles a d (joined [⟨a, b, x⟩, ⟨b, c, y⟩, ⟨c, d, z⟩]) ∧ Alt (joined [⟨a, b, x⟩, ⟨b, c, y⟩, ⟨c, d, z⟩]) ∧
      (∀ i u, Has (joined [⟨a, b, x⟩, ⟨b, c, y⟩, ⟨c, d, z⟩]) i u ↔ (a ≤ i ∧ i < b ∧ x = u) ∨ (b ≤ i ∧ i < c ∧ y = u) ∨ (c ≤ i ∧ i < d ∧ z = u)) ∧
      (∀ q, (joined [⟨a, b, x⟩, ⟨b, c, y⟩, ⟨c, d, z⟩]).head? = some q → a < b → q.v = x) ∧ (∀ q, (joined [⟨a, b, x⟩, ⟨b, c, y⟩, ⟨c, d, z⟩]).getLast? = some q → c < d → q.v = z) := by
  obtain ⟨a1, a2, a3, a4, a5⟩ := joinStep_spec (a := a) (b := a) (l := []) (p := (⟨a, b, x⟩ : Rn α)) rfl trivial rfl h1
  obtain ⟨b1, b2, b3, b4, b5⟩ := joinStep_spec (p := (⟨b, c, y⟩ : Rn α)) a1 a2 rfl (by show b ≤ c; omega)
  obtain ⟨c1, c2, c3, c4, c5⟩ := joinStep_spec (p := (⟨c, d, z⟩ : Rn α)) b1 b2 rfl h3
  have hJ : joined [⟨a, b, x⟩, ⟨b, c, y⟩, ⟨c, d, z⟩] = joinStep (joinStep (joinStep [] ⟨a, b, x⟩) ⟨b, c, y⟩) ⟨c, d, z⟩ := rfl
  rw [hJ]
  refine ⟨c1, c2, fun i u => ?_, fun q hq hlt => ?_, fun q hq hlt => ?_⟩
  · rw [c3, b3, a3]
    simp only [has_nil, false_or, or_assoc]
  · have e1 : joinStep [] (⟨a, b, x⟩ : Rn α) = [⟨a, b, x⟩] := by unfold joinStep; rw [if_neg (by show ¬ a = b; omega)]; rfl
    rw [e1] at b5 c5 hq
    have k := c5 q hq
    cases hh : (joinStep [⟨a, b, x⟩] (⟨b, c, y⟩ : Rn α)).head? with
    | none =>
      have hn : joinStep [⟨a, b, x⟩] (⟨b, c, y⟩ : Rn α) = [] := by simpa using hh
      rw [e1, hn] at b1
      simp only [Tiles] at b1
      omega
    | some q' =>
      rw [hh] at k
      have k' := b5 q' hh
      exact k.trans k'
  · have k := c4 q hq
    exact k hlt

/-- the runs of a map behind a Set -/
def lay (size : Int) (rs : List (Rn α)) (r : Rn α) : List (Rn α) :=
  rs.take (find rs (max (r.lo - 1) 0)) ++
    joined [{ (rs[find rs (max (r.lo - 1) 0)]?.getD r) with hi := r.lo }, r, { (rs[find rs (min r.hi (size - 1))]?.getD r) with lo := r.hi }] ++
    rs.drop (find rs (min r.hi (size - 1)) + 1)

theorem split_get {rs A B : List (Rn α)} {x : Rn α} {n : Nat} (e : rs = A ++ x :: B) (hl : A.length = n) (d : Rn α) : rs.take n = A ∧ rs[n]?.getD d = x ∧ rs.drop (n + 1) = B := by
  subst e; subst hl
  refine ⟨by simp, by simp, ?_⟩
  rw [List.drop_append, List.drop_eq_nil_of_le (by omega)]
  simp

theorem lay_spec {size : Int} {rs : List (Rn α)} {r : Rn α} (ht : Tiles 0 size rs) (ha : Alt rs) (h0 : 0 ≤ r.lo) (h1 : r.lo < r.hi) (h2 : r.hi ≤ size) :
    Tiles 0 size (lay size rs r) ∧ Alt (lay size rs r) ∧ ∀ i u, Has (lay size rs r) i u ↔ (r.lo ≤ i ∧ i < r.hi ∧ r.v = u) ∨ (¬ (r.lo ≤ i ∧ i < r.hi) ∧ Has rs i u) := by
  obtain ⟨A, x, A', e1, l1, x1, x2, x3, x4⟩ := find_split ht (i := max (r.lo - 1) 0) (by omega) (by omega)
  obtain ⟨B', y, B, e2, l2, y1, y2, y3, y4⟩ := find_split ht (i := min r.hi (size - 1)) (by omega) (by omega)
  obtain ⟨p1, p2, _⟩ := split_get e1 l1 r
  obtain ⟨_, q2, q3⟩ := split_get e2 l2 r
  have hL : lay size rs r = A ++ joined [⟨x.lo, r.lo, x.v⟩, ⟨r.lo, r.hi, r.v⟩, ⟨r.hi, y.hi, y.v⟩] ++ B := by
    unfold lay; rw [p1, p2, q2, q3]
  obtain ⟨j1, j2, j3, j4, j5⟩ := joined3 x.lo r.lo r.hi y.hi x.v r.v y.v (by omega) h1 (by omega)
  have hA : Alt (A ++ (x :: A')) := e1 ▸ ha
  have hB : Alt (B' ++ [y] ++ B) := by rw [List.append_assoc]; exact e2 ▸ ha
  rw [hL]
  refine ⟨tiles_append.2 ⟨y.hi, tiles_append.2 ⟨x.lo, x3, j1⟩, y4⟩, ?_, fun i u => ?_⟩
  · refine alt_append (alt_append hA.left j2 (fun p q hp hq => ?_)) hB.right (fun p q hp hq => ?_)
    · by_cases c : x.lo < r.lo
      · rw [j4 q hq c]; exact hA.meet p x hp rfl
      · have : x.lo = 0 := by omega
        rw [this] at x3
        rw [x3.empty] at hp; cases hp
    · by_cases c : r.hi < y.hi
      · have hp' : (joined [⟨x.lo, r.lo, x.v⟩, ⟨r.lo, r.hi, r.v⟩, ⟨r.hi, y.hi, y.v⟩]).getLast? = some p := by
          rw [List.getLast?_append] at hp
          cases hj : (joined [⟨x.lo, r.lo, x.v⟩, ⟨r.lo, r.hi, r.v⟩, ⟨r.hi, y.hi, y.v⟩]).getLast? with
          | none =>
            have : joined [⟨x.lo, r.lo, x.v⟩, ⟨r.lo, r.hi, r.v⟩, ⟨r.hi, y.hi, y.v⟩] = [] := by simpa using hj
            rw [this] at j1; simp only [Tiles] at j1; omega
          | some z => rw [hj] at hp; exact hp
        rw [j5 p hp' c]
        exact hB.meet y q (by simp) hq
      · have : y.hi = size := by have := y4.le; omega
        rw [this] at y4
        rw [y4.empty] at hq; cases hq
  · rw [has_append, has_append, j3]
    have k1 : Has rs i u ↔ Has A i u ∨ (x.lo ≤ i ∧ i < x.hi ∧ x.v = u) ∨ Has A' i u := by rw [e1, has_append, has_cons]
    have k2 : Has rs i u ↔ Has B' i u ∨ (y.lo ≤ i ∧ i < y.hi ∧ y.v = u) ∨ Has B i u := by rw [e2, has_append, has_cons]
    constructor
    · rintro ((h | ⟨h, h', h''⟩ | h | ⟨h, h', h''⟩) | h)
      · have := x3.inside h; exact .inr ⟨by omega, k1.2 (.inl h)⟩
      · exact .inr ⟨by omega, k1.2 (.inr (.inl ⟨h, by omega, h''⟩))⟩
      · exact .inl h
      · exact .inr ⟨by omega, k2.2 (.inr (.inl ⟨by omega, h', h''⟩))⟩
      · have := y4.inside h; exact .inr ⟨by omega, k2.2 (.inr (.inr h))⟩
    · rintro (h | ⟨h, h'⟩)
      · exact .inl (.inr (.inr (.inl h)))
      · by_cases c : i < r.lo
        · rcases k1.1 h' with k | ⟨k, k', k''⟩ | k
          · exact .inl (.inl k)
          · exact .inl (.inr (.inl ⟨k, c, k''⟩))
          · have := x4.inside k; omega
        · rcases k2.1 h' with k | ⟨k, k', k''⟩ | k
          · have := y3.inside k; omega
          · exact .inl (.inr (.inr (.inr ⟨by omega, k', k''⟩)))
          · exact .inr k
end Go.Proofs.YtncajaihojhkkaaGreat
