import Derived.Test.YtijafckdbhklmabZE
namespace Go.Proofs.Ytijafckdbhklmab.B
set_option linter.unusedVariables false
set_option linter.unusedSimpArgs false
set_option maxRecDepth 100000
theorem putL_mem : ∀ (l : List Int) (x y : Int), y ∈ putL l x ↔ y = x ∨ y ∈ l
  | [], x, y => by simp [putL]
  | z :: t, x, y => by
    unfold putL
    by_cases h1 : x ≤ z
    · rw [if_pos h1]
      by_cases h2 : x < z
      · rw [if_pos h2]; simp
      · rw [if_neg h2]
        have : x = z := by omega
        subst this
        simp
    · rw [if_neg h1, List.mem_cons, putL_mem t x y, List.mem_cons]
      constructor
      · rintro (h | h | h)
        · exact .inr (.inl h)
        · exact .inl h
        · exact .inr (.inr h)
      · rintro (h | h | h)
        · exact .inr (.inl h)
        · exact .inl h
        · exact .inr (.inr h)
abbrev Rising (l : List Int) : Prop := l.Pairwise (· < ·)
theorem putL_rising : ∀ (l : List Int) (x : Int), Rising l → Rising (putL l x)
  | [], x, _ => by simp [putL, Rising]
  | z :: t, x, h => by
    have h0 := List.pairwise_cons.1 h
    unfold putL
    by_cases h1 : x ≤ z
    · rw [if_pos h1]
      by_cases h2 : x < z
      · rw [if_pos h2]
        refine List.pairwise_cons.2 ⟨fun y hy => ?_, h⟩
        rcases List.mem_cons.1 hy with rfl | hy
        · exact h2
        · have := h0.1 y hy; omega
      · rw [if_neg h2]; exact h
    · rw [if_neg h1]
      refine List.pairwise_cons.2 ⟨fun y hy => ?_, putL_rising t x h0.2⟩
      rcases (putL_mem t x y).1 hy with rfl | hy
      · omega
      · exact h0.1 y hy
theorem putIf_rising (c : List Int) (e : Int) (h : Rising c) : Rising (putIf c e) := by
  unfold putIf
  split
  · exact putL_rising c e h
  · exact h
theorem putIf_mem (c : List Int) (e y : Int) : y ∈ putIf c e ↔ y ∈ c ∨ (y = e ∧ 0 < e ∧ e < 1099511627776) := by
  unfold putIf
  split
  · rename_i h
    rw [putL_mem]
    constructor
    · rintro (h' | h')
      · exact .inr ⟨h', h⟩
      · exact .inl h'
    · rintro (h' | h')
      · exact .inr h'
      · exact .inl h'.1
  · rename_i h
    exact ⟨.inl, fun h' => h'.elim id (fun g => absurd g.2 h)⟩
theorem endsL_rising (l : List (Int × Int)) (c : List Int) (h : Rising c) : Rising (endsL l c) := by
  refine snoc_ind (P := fun l => Rising (endsL l c)) h ?_ l
  intro t q ih
  rw [endsL_snoc]
  exact putIf_rising _ _ (putIf_rising _ _ ih)
theorem endsL_mem (l : List (Int × Int)) (c : List Int) (y : Int) : y ∈ endsL l c ↔ y ∈ c ∨ (0 < y ∧ y < 1099511627776 ∧ ∃ q ∈ l, y = q.1 ∨ y = q.2) := by
  refine snoc_ind (P := fun l => y ∈ endsL l c ↔ y ∈ c ∨ (0 < y ∧ y < 1099511627776 ∧ ∃ q ∈ l, y = q.1 ∨ y = q.2)) (by simp [endsL]) ?_ l
  intro t q ih
  rw [endsL_snoc, putIf_mem, putIf_mem, ih]
  constructor
  · rintro (((h | ⟨h1, h2, p, hp, h3⟩) | ⟨rfl, h⟩) | ⟨rfl, h⟩)
    · exact .inl h
    · exact .inr ⟨h1, h2, p, List.mem_append_left _ hp, h3⟩
    · exact .inr ⟨h.1, h.2, q, by simp, .inl rfl⟩
    · exact .inr ⟨h.1, h.2, q, by simp, .inr rfl⟩
  · rintro (h | ⟨h1, h2, p, hp, h3⟩)
    · exact .inl (.inl (.inl h))
    · rcases List.mem_append.1 hp with hp | hp
      · exact .inl (.inl (.inr ⟨h1, h2, p, hp, h3⟩))
      · simp at hp
        subst hp
        rcases h3 with rfl | rfl
        · exact .inl (.inr ⟨rfl, h1, h2⟩)
        · exact .inr ⟨rfl, h1, h2⟩
/-- the cuts of two lists -/
def cutsL (la lb : List (Int × Int)) : List Int := endsL lb (endsL la [0, 1099511627776])
theorem cutsL_rising (la lb : List (Int × Int)) : Rising (cutsL la lb) := endsL_rising _ _ (endsL_rising _ _ (by simp [Rising]))
theorem cutsL_mem (la lb : List (Int × Int)) (y : Int) : y ∈ cutsL la lb ↔ y = 0 ∨ y = 1099511627776 ∨ (0 < y ∧ y < 1099511627776 ∧ ((∃ q ∈ la, y = q.1 ∨ y = q.2) ∨ ∃ q ∈ lb, y = q.1 ∨ y = q.2)) := by
  unfold cutsL
  rw [endsL_mem, endsL_mem]
  simp only [List.mem_cons, List.not_mem_nil, or_false]
  constructor
  · rintro (((h | h) | ⟨h1, h2, h⟩) | ⟨h1, h2, h⟩)
    · exact .inl h
    · exact .inr (.inl h)
    · exact .inr (.inr ⟨h1, h2, .inl h⟩)
    · exact .inr (.inr ⟨h1, h2, .inr h⟩)
  · rintro (h | h | ⟨h1, h2, h | h⟩)
    · exact .inl (.inl (.inl h))
    · exact .inl (.inl (.inr h))
    · exact .inl (.inr ⟨h1, h2, h⟩)
    · exact .inr ⟨h1, h2, h⟩
theorem cutsL_bounds {la lb : List (Int × Int)} {y : Int} (h : y ∈ cutsL la lb) : 0 ≤ y ∧ y ≤ 1099511627776 := by
  rcases (cutsL_mem la lb y).1 h with rfl | rfl | h
  · omega
  · omega
  · omega
theorem rising_get {C : List Int} (h : Rising C) {i j : Nat} (hij : i < j) (hj : j < C.length) : C[i]'(by omega) < C[j] := List.pairwise_iff_getElem.1 h i j (by omega) hj hij
/-- the runs of the first segments -/
def segR (C : List Int) (f : Int → Bool) : Nat → List (Rn Bool)
  | 0 => []
  | k + 1 => joinStep (segR C f k) ⟨C.getD k 0, C.getD (k + 1) 0, f (C.getD k 0)⟩
theorem segR_spec {C : List Int} (hC : Rising C) (f : Int → Bool) : ∀ k, k < C.length → Tiles (C.getD 0 0) (C.getD k 0) (segR C f k) ∧ Alt (segR C f k) ∧ ∀ i v, Has (segR C f k) i v ↔ ∃ j, j < k ∧ C.getD j 0 ≤ i ∧ i < C.getD (j + 1) 0 ∧ f (C.getD j 0) = v
  | 0, _ => ⟨rfl, trivial, fun i v => ⟨fun h => absurd h has_nil, fun ⟨j, hj, _⟩ => by omega⟩⟩
  | k + 1, hk => by
    obtain ⟨t, a, hh⟩ := segR_spec hC f k (by omega)
    have hlt : C.getD k 0 < C.getD (k + 1) 0 := by
      have := rising_get hC (i := k) (j := k + 1) (by omega) hk
      simpa [List.getD_eq_getElem?_getD, List.getElem?_eq_getElem hk, List.getElem?_eq_getElem (show k < C.length by omega)] using this
    obtain ⟨t2, a2, h2, _, _⟩ := joinStep_spec (p := ⟨C.getD k 0, C.getD (k + 1) 0, f (C.getD k 0)⟩) t a rfl (by simp only; omega)
    refine ⟨t2, a2, fun i v => ?_⟩
    show Has (joinStep (segR C f k) _) i v ↔ _
    rw [h2, hh]
    simp only
    constructor
    · rintro (⟨j, hj, h⟩ | h)
      · exact ⟨j, by omega, h⟩
      · exact ⟨k, by omega, h⟩
    · rintro ⟨j, hj, h⟩
      by_cases e : j = k
      · subst e; exact .inr h
      · exact .inl ⟨j, by omega, h⟩
theorem lst_join_false {a c c' : Int} {R : List (Rn Bool)} (t : Tiles a c R) (h : c < c') : lst (joinStep R ⟨c, c', false⟩) = lst R := by
  unfold joinStep
  rw [if_neg (by simp only; omega)]
  cases hq : R.getLast? with
  | none => simp [lst]
  | some q =>
    have hs := snoc_of_last hq
    simp only
    split
    · rename_i hv
      conv => rhs; rw [hs]
      simp [lst, hv]
    · simp [lst]
theorem lst_join_true {a c c' : Int} {R : List (Rn Bool)} (t : Tiles a c R) (ha : Alt R) (h : c < c') :
    (∃ O p, lst R = O ++ [p] ∧ p.2 = c ∧ lst (joinStep R ⟨c, c', true⟩) = O ++ [(p.1, c')]) ∨ ((∀ p, (lst R).getLast? = some p → p.2 ≠ c) ∧ lst (joinStep R ⟨c, c', true⟩) = lst R ++ [(c, c')]) := by
  unfold joinStep
  rw [if_neg (by simp only; omega)]
  cases hq : R.getLast? with
  | none =>
    have : R = [] := by simpa using hq
    subst this
    exact .inr ⟨fun p hp => by simp [lst] at hp, by simp [lst]⟩
  | some q =>
    have hs := snoc_of_last hq
    rw [hs] at t
    obtain ⟨t1, t2, t3⟩ := tiles_snoc.1 t
    simp only
    cases hv : q.v with
    | true =>
      rw [if_pos rfl]
      refine .inl ⟨lst R.dropLast, (q.lo, q.hi), ?_, t3, ?_⟩
      · conv => lhs; rw [hs]
        simp [lst, hv]
      · simp [lst, hv]
    | false =>
      rw [if_neg (by decide)]
      refine .inr ⟨fun p hp e => ?_, by simp [lst]⟩
      have el : lst R = lst R.dropLast := by
        conv => lhs; rw [hs]
        simp [lst, hv]
      rw [el] at hp
      have hm := List.mem_of_getLast? hp
      obtain ⟨r, hr, rfl⟩ := List.mem_map.1 hm
      obtain ⟨hr, _⟩ := List.mem_filter.1 hr
      obtain ⟨A, B, e3⟩ := List.append_of_mem hr
      rw [e3] at t1
      obtain ⟨m, g1, g2⟩ := tiles_append.1 t1
      have := g2.2.2.le
      simp only at e
      omega
/-- between two cuts nothing turns -/
theorem cut_same {la lb l : List (Int × Int)} (hl : ∀ q ∈ l, ∀ y, (y = q.1 ∨ y = q.2) → 0 < y → y < 1099511627776 → y ∈ cutsL la lb) {k : Nat} (hk : k + 1 < (cutsL la lb).length) {i : Int} (h1 : (cutsL la lb).getD k 0 ≤ i) (h2 : i < (cutsL la lb).getD (k + 1) 0) : inL l ((cutsL la lb).getD k 0) ↔ inL l i := by
  have hr := cutsL_rising la lb
  have e1 : (cutsL la lb).getD k 0 = (cutsL la lb)[k]'(by omega) := by simp [List.getD_eq_getElem?_getD, List.getElem?_eq_getElem (show k < (cutsL la lb).length by omega)]
  have e2 : (cutsL la lb).getD (k + 1) 0 = (cutsL la lb)[k + 1] := by simp [List.getD_eq_getElem?_getD, List.getElem?_eq_getElem hk]
  have b1 := cutsL_bounds (List.getElem_mem (show k < (cutsL la lb).length by omega))
  have b2 := cutsL_bounds (List.getElem_mem hk)
  rw [← e1] at b1
  rw [← e2] at b2
  have key : ∀ y, y ∈ cutsL la lb → ¬ ((cutsL la lb).getD k 0 < y ∧ y < (cutsL la lb).getD (k + 1) 0) := by
    rintro y hy ⟨g1, g2⟩
    obtain ⟨m, hm, rfl⟩ := List.getElem_of_mem hy
    rw [e1] at g1
    rw [e2] at g2
    rcases Nat.lt_trichotomy m k with c | c | c
    · have := rising_get hr c (show k < _ by omega); omega
    · subst c; omega
    · rcases Nat.lt_trichotomy m (k + 1) with c2 | c2 | c2
      · omega
      · subst c2; omega
      · have := rising_get hr c2 hm; omega
  constructor
  · rintro ⟨q, hq, g1, g2⟩
    refine ⟨q, hq, by omega, ?_⟩
    by_cases g3 : i < q.2
    · exact g3
    · exact absurd ⟨g2, by omega⟩ (key q.2 (hl q hq q.2 (.inr rfl) (by omega) (by omega)))
  · rintro ⟨q, hq, g1, g2⟩
    refine ⟨q, hq, ?_, by omega⟩
    by_cases g3 : q.1 ≤ (cutsL la lb).getD k 0
    · exact g3
    · exact absurd ⟨by omega, by omega⟩ (key q.1 (hl q hq q.1 (.inl rfl) (by omega) (by omega)))
theorem cutsL_ends (la lb : List (Int × Int)) : 2 ≤ (cutsL la lb).length ∧ (cutsL la lb).getD 0 0 = 0 ∧ (cutsL la lb).getD ((cutsL la lb).length - 1) 0 = 1099511627776 := by
  have hr := cutsL_rising la lb
  have m0 : (0 : Int) ∈ cutsL la lb := (cutsL_mem la lb 0).2 (.inl rfl)
  have m1 : (1099511627776 : Int) ∈ cutsL la lb := (cutsL_mem la lb _).2 (.inr (.inl rfl))
  obtain ⟨i, hi, e0⟩ := List.getElem_of_mem m0
  obtain ⟨j, hj, e1⟩ := List.getElem_of_mem m1
  have i0 : i = 0 := by
    rcases Nat.eq_zero_or_pos i with h | h
    · exact h
    · have := rising_get hr (i := 0) (j := i) h hi
      have := (cutsL_bounds (List.getElem_mem (show 0 < (cutsL la lb).length by omega))).1
      omega
  have jl : j = (cutsL la lb).length - 1 := by
    by_cases h : j = (cutsL la lb).length - 1
    · exact h
    · have := rising_get hr (i := j) (j := (cutsL la lb).length - 1) (by omega) (by omega)
      have := (cutsL_bounds (List.getElem_mem (show (cutsL la lb).length - 1 < (cutsL la lb).length by omega))).2
      omega
  subst i0
  have hne : j ≠ 0 := by
    rintro rfl
    omega
  refine ⟨by omega, by simp [List.getD_eq_getElem?_getD, List.getElem?_eq_getElem hi, e0], ?_⟩
  rw [← jl]
  simp [List.getD_eq_getElem?_getD, List.getElem?_eq_getElem hj, e1]
theorem segR_norm (la lb : List (Int × Int)) (g : Bool → Bool → Bool) : Norm (lst (segR (cutsL la lb) (fun x => g (hasB la x) (hasB lb x)) ((cutsL la lb).length - 1))) (fun i => ∃ x y, (x = true ↔ inL la i) ∧ (y = true ↔ inL lb i) ∧ g x y = true) := by
  obtain ⟨hl, e0, e1⟩ := cutsL_ends la lb
  obtain ⟨t, a, hh⟩ := segR_spec (cutsL_rising la lb) (fun x => g (hasB la x) (hasB lb x)) ((cutsL la lb).length - 1) (by omega)
  rw [e0, e1] at t
  refine ⟨_, t, a, fun i h0 h1 => ?_, rfl⟩
  have kA : ∀ {k : Nat}, k + 1 < (cutsL la lb).length → (cutsL la lb).getD k 0 ≤ i → i < (cutsL la lb).getD (k + 1) 0 → (hasB la ((cutsL la lb).getD k 0) = true ↔ inL la i) ∧ (hasB lb ((cutsL la lb).getD k 0) = true ↔ inL lb i) := by
    intro k hk g1 g2
    have b1 : 0 ≤ (cutsL la lb).getD k 0 ∧ (cutsL la lb).getD k 0 ≤ 1099511627776 := by
      have e : (cutsL la lb).getD k 0 = (cutsL la lb)[k]'(by omega) := by simp [List.getD_eq_getElem?_getD, List.getElem?_eq_getElem (show k < (cutsL la lb).length by omega)]
      rw [e]; exact cutsL_bounds (List.getElem_mem _)
    have sA := cut_same (la := la) (lb := lb) (l := la) (fun q hq y hy u1 u2 => (cutsL_mem la lb y).2 (.inr (.inr ⟨u1, u2, .inl ⟨q, hq, hy⟩⟩))) hk g1 g2
    have sB := cut_same (la := la) (lb := lb) (l := lb) (fun q hq y hy u1 u2 => (cutsL_mem la lb y).2 (.inr (.inr ⟨u1, u2, .inr ⟨q, hq, hy⟩⟩))) hk g1 g2
    rw [hasB_iff, hasB_iff]
    exact ⟨⟨fun h => sA.1 h.2.2, fun h => ⟨b1.1, by omega, sA.2 h⟩⟩, ⟨fun h => sB.1 h.2.2, fun h => ⟨b1.1, by omega, sB.2 h⟩⟩⟩
  constructor
  · intro h
    obtain ⟨k, hk, g1, g2, g3⟩ := (hh i true).1 h
    obtain ⟨x1, x2⟩ := kA (k := k) (by omega) g1 g2
    exact ⟨_, _, x1, x2, g3⟩
  · rintro ⟨x, y, hx, hy, hg⟩
    obtain ⟨v, hv⟩ := t.covers h0 h1
    obtain ⟨k, hk, g1, g2, g3⟩ := (hh i v).1 hv
    obtain ⟨x1, x2⟩ := kA (k := k) (by omega) g1 g2
    have ex : hasB la ((cutsL la lb).getD k 0) = x := by
      have : hasB la ((cutsL la lb).getD k 0) = true ↔ x = true := x1.trans hx.symm
      cases x <;> cases hb : hasB la ((cutsL la lb).getD k 0) <;> simp_all
    have ey : hasB lb ((cutsL la lb).getD k 0) = y := by
      have : hasB lb ((cutsL la lb).getD k 0) = true ↔ y = true := x2.trans hy.symm
      cases y <;> cases hb : hasB lb ((cutsL la lb).getD k 0) <;> simp_all
    rw [ex, ey, hg] at g3
    rw [← g3] at hv
    exact hv
end Go.Proofs.Ytijafckdbhklmab.B
