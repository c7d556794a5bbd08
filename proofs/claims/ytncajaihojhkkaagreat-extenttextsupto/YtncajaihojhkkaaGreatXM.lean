namespace Go.Proofs.YtncajaihojhkkaaGreat
set_option linter.unusedVariables false
set_option linter.unusedSimpArgs false

/-- a run: its places, its value -/
structure Rn (α : Type) where
  lo : Int
  hi : Int
  v : α

variable {α : Type}

/-- runs that lie end to end from lo to hi, each with a place -/
def Tiles : Int → Int → List (Rn α) → Prop
  | lo, hi, [] => lo = hi
  | lo, hi, r :: rs => r.lo = lo ∧ lo < r.hi ∧ Tiles r.hi hi rs
/-- neighbours have different values -/
def Alt : List (Rn α) → Prop
  | [] => True
  | [_] => True
  | x :: y :: r => x.v ≠ y.v ∧ Alt (y :: r)
/-- the place i has the value v -/
def Has (rs : List (Rn α)) (i : Int) (v : α) : Prop := ∃ r, r ∈ rs ∧ r.lo ≤ i ∧ i < r.hi ∧ r.v = v

theorem Tiles.le {lo hi : Int} : ∀ {rs : List (Rn α)}, Tiles lo hi rs → lo ≤ hi
  | [], h => by simp only [Tiles] at h; omega
  | r :: rs, ⟨h1, h2, h3⟩ => by have := Tiles.le h3; omega
theorem tiles_append {lo hi : Int} : ∀ {A B : List (Rn α)}, Tiles lo hi (A ++ B) ↔ ∃ m, Tiles lo m A ∧ Tiles m hi B
  | [], B => ⟨fun h => ⟨lo, rfl, h⟩, fun ⟨m, e, h⟩ => by simp only [Tiles] at e; subst e; exact h⟩
  | r :: A, B => by
    simp only [List.cons_append, Tiles, tiles_append (A := A)]
    constructor
    · rintro ⟨h1, h2, m, h3, h4⟩; exact ⟨m, ⟨h1, h2, h3⟩, h4⟩
    · rintro ⟨m, ⟨h1, h2, h3⟩, h4⟩; exact ⟨h1, h2, m, h3, h4⟩
theorem Tiles.empty {lo : Int} : ∀ {rs : List (Rn α)}, Tiles lo lo rs → rs = []
  | [], _ => rfl
  | r :: rs, ⟨h1, h2, h3⟩ => by have := h3.le; omega
theorem Tiles.length {lo hi : Int} : ∀ {rs : List (Rn α)}, Tiles lo hi rs → (rs.length : Int) ≤ hi - lo
  | [], h => by simp only [Tiles] at h; simp; omega
  | r :: rs, ⟨h1, h2, h3⟩ => by have := Tiles.length h3; simp; omega
theorem has_append {A B : List (Rn α)} {i : Int} {v : α} : Has (A ++ B) i v ↔ Has A i v ∨ Has B i v := by
  constructor
  · rintro ⟨r, hr, h⟩
    rcases List.mem_append.1 hr with h1 | h1
    · exact .inl ⟨r, h1, h⟩
    · exact .inr ⟨r, h1, h⟩
  · rintro (⟨r, h1, h⟩ | ⟨r, h1, h⟩)
    · exact ⟨r, List.mem_append_left _ h1, h⟩
    · exact ⟨r, List.mem_append_right _ h1, h⟩
theorem has_cons {r : Rn α} {B : List (Rn α)} {i : Int} {v : α} : Has (r :: B) i v ↔ (r.lo ≤ i ∧ i < r.hi ∧ r.v = v) ∨ Has B i v := by
  constructor
  · rintro ⟨q, hq, h⟩
    rcases List.mem_cons.1 hq with rfl | h1
    · exact .inl h
    · exact .inr ⟨q, h1, h⟩
  · rintro (h | ⟨q, h1, h⟩)
    · exact ⟨r, List.mem_cons_self .., h⟩
    · exact ⟨q, List.mem_cons_of_mem _ h1, h⟩
theorem has_nil {i : Int} {v : α} : ¬ Has ([] : List (Rn α)) i v := by rintro ⟨r, hr, _⟩; cases hr
theorem Tiles.inside {lo hi : Int} : ∀ {rs : List (Rn α)}, Tiles lo hi rs → ∀ {i : Int} {v : α}, Has rs i v → lo ≤ i ∧ i < hi
  | [], _, i, v, h => (has_nil h).elim
  | r :: rs, ⟨h1, h2, h3⟩, i, v, h => by
    rcases has_cons.1 h with ⟨a, b, _⟩ | h
    · have := h3.le; omega
    · have := Tiles.inside h3 h; omega
theorem Tiles.covers {lo hi : Int} : ∀ {rs : List (Rn α)}, Tiles lo hi rs → ∀ {i : Int}, lo ≤ i → i < hi → ∃ v, Has rs i v
  | [], h, i, a, b => by simp only [Tiles] at h; omega
  | r :: rs, ⟨h1, h2, h3⟩, i, a, b => by
    by_cases c : i < r.hi
    · exact ⟨r.v, has_cons.2 (.inl ⟨by omega, c, rfl⟩)⟩
    · obtain ⟨v, hv⟩ := Tiles.covers h3 (i := i) (by omega) b
      exact ⟨v, has_cons.2 (.inr hv)⟩
theorem Tiles.one {lo hi : Int} : ∀ {rs : List (Rn α)}, Tiles lo hi rs → ∀ {i : Int} {v u : α}, Has rs i v → Has rs i u → v = u
  | [], _, i, v, u, h, _ => (has_nil h).elim
  | r :: rs, ⟨h1, h2, h3⟩, i, v, u, h, k => by
    rcases has_cons.1 h with ⟨a, b, c⟩ | h
    · rcases has_cons.1 k with ⟨a', b', c'⟩ | k
      · exact c.symm.trans c'
      · have := h3.inside k; omega
    · rcases has_cons.1 k with ⟨a', b', c'⟩ | k
      · have := h3.inside h; omega
      · exact Tiles.one h3 h k

theorem Alt.tail {r : Rn α} {rs : List (Rn α)} (h : Alt (r :: rs)) : Alt rs := by
  cases rs with
  | nil => trivial
  | cons y t => exact h.2
theorem Alt.next {r y : Rn α} {rs : List (Rn α)} (h : Alt (r :: y :: rs)) : r.v ≠ y.v := h.1
theorem alt_append : ∀ {A B : List (Rn α)}, Alt A → Alt B → (∀ x y, A.getLast? = some x → B.head? = some y → x.v ≠ y.v) → Alt (A ++ B)
  | [], B, _, h, _ => h
  | [x], [], _, _, _ => trivial
  | [x], y :: B, _, h, k => ⟨k x y rfl rfl, h⟩
  | x :: z :: A, B, h1, h2, k => ⟨h1.1, alt_append (A := z :: A) h1.2 h2 (fun p q hp hq => k p q (by rw [List.getLast?_cons_cons]; exact hp) hq)⟩
theorem Alt.left : ∀ {A B : List (Rn α)}, Alt (A ++ B) → Alt A
  | [], B, _ => trivial
  | [x], B, _ => trivial
  | x :: z :: A, B, h => ⟨h.1, Alt.left (A := z :: A) (B := B) h.2⟩
theorem Alt.right : ∀ {A B : List (Rn α)}, Alt (A ++ B) → Alt B
  | [], B, h => h
  | x :: A, B, h => Alt.right (A := A) (Alt.tail h)
theorem Alt.meet : ∀ {A B : List (Rn α)}, Alt (A ++ B) → ∀ x y, A.getLast? = some x → B.head? = some y → x.v ≠ y.v
  | [], B, h, x, y, e, _ => by cases e
  | [x], B, h, x', y, e, e' => by
    cases B with
    | nil => cases e'
    | cons z B => cases e; cases e'; exact h.1
  | x :: z :: A, B, h, p, q, e, e' => Alt.meet (A := z :: A) (B := B) h.2 p q (by rw [List.getLast?_cons_cons] at e; exact e) e'

/-- runs that lie end to end and alternate are told by their values -/
theorem runs_unique {hi : Int} : ∀ {lo : Int} {A B : List (Rn α)}, Tiles lo hi A → Alt A → Tiles lo hi B → Alt B → (∀ i v, Has A i v ↔ Has B i v) → A = B
  | lo, [], B, h1, _, h2, _, _ => by simp only [Tiles] at h1; subst h1; exact h2.empty.symm
  | lo, x :: A, [], h1, _, h2, _, _ => by simp only [Tiles] at h2; subst h2; have := Tiles.empty h1; cases this
  | lo, x :: A, y :: B, ⟨x1, x2, x3⟩, ax, ⟨y1, y2, y3⟩, ay, h => by
    have hv : x.v = y.v := by
      have hx : Has (x :: A) lo x.v := has_cons.2 (.inl ⟨by omega, x2, rfl⟩)
      rcases has_cons.1 ((h _ _).1 hx) with ⟨_, _, c⟩ | k
      · exact c.symm
      · have := y3.inside k; omega
    have key : ∀ {p q : Rn α} {P Q : List (Rn α)}, p.lo = lo → lo < p.hi → Tiles p.hi hi P → Alt (p :: P) → q.lo = lo → Tiles q.hi hi Q → p.v = q.v → (∀ i v, Has (p :: P) i v ↔ Has (q :: Q) i v) → ¬ p.hi < q.hi := by
      intro p q P Q p1 p2 p3 ap q1 q3 e hh hlt
      have hq : Has (q :: Q) p.hi q.v := has_cons.2 (.inl ⟨by omega, hlt, rfl⟩)
      rcases has_cons.1 ((hh _ _).2 hq) with ⟨_, c, _⟩ | k
      · omega
      · cases P with
        | nil => exact has_nil k
        | cons z P =>
          obtain ⟨z1, z2, z3⟩ := p3
          rcases has_cons.1 k with ⟨_, _, c⟩ | k
          · exact ap.1 (e.trans c.symm)
          · have := z3.inside k; omega
    have e1 := key x1 x2 x3 ax y1 y3 hv h
    have e2 := key y1 y2 y3 ay x1 x3 hv.symm (fun i v => (h i v).symm)
    have he : x.hi = y.hi := by omega
    have hxy : x = y := by
      cases x; cases y; simp only at x1 y1 hv he; subst x1; subst y1; subst hv; subst he; rfl
    subst hxy
    rw [runs_unique x3 ax.tail y3 ay.tail (fun i v => ?_)]
    constructor
    · intro k
      have := x3.inside k
      rcases has_cons.1 ((h i v).1 (has_cons.2 (.inr k))) with ⟨_, c, _⟩ | k'
      · omega
      · exact k'
    · intro k
      have := y3.inside k
      rcases has_cons.1 ((h i v).2 (has_cons.2 (.inr k))) with ⟨_, c, _⟩ | k'
      · omega
      · exact k'

/-- one more piece, behind the last -/
def joinStep [DecidableEq α] (l : List (Rn α)) (p : Rn α) : List (Rn α) :=
  if p.lo = p.hi then l
  else match l.getLast? with
    | some q => if q.v = p.v then l.dropLast ++ [{ q with hi := p.hi }] else l ++ [p]
    | none => l ++ [p]
def joined [DecidableEq α] (ps : List (Rn α)) : List (Rn α) := ps.foldl joinStep []
/-- the number of the run in which a place lies -/
def find (rs : List (Rn α)) (i : Int) : Nat := rs.countP (fun r => decide (r.hi ≤ i))

/-- a place splits the runs at the run that has it -/
theorem find_split {lo hi : Int} : ∀ {rs : List (Rn α)}, Tiles lo hi rs → ∀ {i : Int}, lo ≤ i → i < hi → ∃ A x B, rs = A ++ x :: B ∧ A.length = find rs i ∧ x.lo ≤ i ∧ i < x.hi ∧ Tiles lo x.lo A ∧ Tiles x.hi hi B
  | [], h, i, a, b => by simp only [Tiles] at h; omega
  | r :: rs, ⟨h1, h2, h3⟩, i, a, b => by
    by_cases c : i < r.hi
    · refine ⟨[], r, rs, rfl, ?_, by omega, c, by rw [h1]; rfl, h3⟩
      have : ∀ {lo : Int} {l : List (Rn α)}, Tiles lo hi l → i < lo → find l i = 0 := by
        intro lo l
        induction l generalizing lo with
        | nil => intros; rfl
        | cons q l ih =>
          rintro ⟨q1, q2, q3⟩ hl
          unfold find
          rw [List.countP_cons_of_neg (by simp; omega)]
          exact ih q3 (by omega)
      unfold find
      rw [List.countP_cons_of_neg (by simp; omega)]
      exact (this h3 c).symm
    · obtain ⟨A, x, B, e, hl, k1, k2, k3, k4⟩ := find_split h3 (i := i) (by omega) b
      refine ⟨r :: A, x, B, by rw [e]; rfl, ?_, k1, k2, ⟨h1, h2, k3⟩, k4⟩
      unfold find
      rw [List.countP_cons_of_pos (by simp; omega), List.length_cons, hl]
      rfl
theorem find_mono {lo hi : Int} {rs : List (Rn α)} (h : Tiles lo hi rs) (i : Int) {a b : Nat} (hab : a ≤ b) (hb : b < rs.length) : i < (rs[a]'(by omega)).hi → i < (rs[b]'hb).hi := by
  intro ha
  have : ∀ {lo : Int} {l : List (Rn α)}, Tiles lo hi l → ∀ (a b : Nat) (hb : b < l.length) (hab : a ≤ b), (l[a]'(by omega)).hi ≤ (l[b]'hb).hi := by
    intro lo l
    induction l generalizing lo with
    | nil => intro _ a b hb; simp at hb
    | cons q l ih =>
      rintro ⟨q1, q2, q3⟩ a b hb hab
      cases b with
      | zero => obtain rfl : a = 0 := by omega
                exact Int.le_refl _
      | succ b =>
        cases a with
        | succ a => exact ih q3 a b (by simpa using hb) (by omega)
        | zero =>
          have hb' : b < l.length := by simpa using hb
          have h0 : 0 < l.length := by omega
          have := ih q3 0 b hb' (by omega)
          obtain ⟨z, l', rfl⟩ : ∃ z l', l = z :: l' := by cases l with
            | nil => simp at h0
            | cons z l' => exact ⟨z, l', rfl⟩
          obtain ⟨z1, z2, z3⟩ := q3
          simp at this ⊢
          omega
  have := this h a b hb hab
  omega
end Go.Proofs.YtncajaihojhkkaaGreat
