import Derived.Test.YtijafckdbhklmaaYQI
namespace Go.Proofs.Ytijafckdbhklmaa.I
set_option linter.unusedVariables false
set_option linter.unusedSimpArgs false
set_option maxRecDepth 100000

theorem setLo_spec {a b lo : Int} {x : Rn Int} {t : List (Rn Int)} (h : Tiles a b (x :: t)) (h1 : a ≤ lo) (h2 : lo < x.hi) : Tiles lo b (setLo (x :: t) lo) ∧ ∀ i v, Has (setLo (x :: t) lo) i v ↔ (lo ≤ i ∧ Has (x :: t) i v) := by
  obtain ⟨e, h3, h4⟩ := h
  refine ⟨⟨rfl, h2, h4⟩, fun i v => ?_⟩
  simp only [setLo, has_cons]
  constructor
  · rintro (⟨h5, h6, h7⟩ | h5)
    · exact ⟨h5, .inl ⟨by omega, h6, h7⟩⟩
    · have := (h4.inside h5).1
      exact ⟨by omega, .inr h5⟩
  · rintro ⟨h5, ⟨_, h6, h7⟩ | h6⟩
    · exact .inl ⟨h5, h6, h7⟩
    · exact .inr h6
theorem setHi_spec {a b hi : Int} {y : Rn Int} {t : List (Rn Int)} (h : Tiles a b (t ++ [y])) (h1 : hi ≤ b) (h2 : y.lo < hi) : Tiles a hi (setHi (t ++ [y]) hi) ∧ ∀ i v, Has (setHi (t ++ [y]) hi) i v ↔ (i < hi ∧ Has (t ++ [y]) i v) := by
  obtain ⟨e1, e2, e3⟩ := tiles_snoc.1 h
  have e : setHi (t ++ [y]) hi = t ++ [{ y with hi := hi }] := by simp [setHi]
  rw [e]
  refine ⟨tiles_snoc.2 ⟨e1, h2, rfl⟩, fun i v => ?_⟩
  simp only [has_append, has_cons, has_nil, or_false]
  constructor
  · rintro (h5 | ⟨h5, h6, h7⟩)
    · have := (e1.inside h5).2
      exact ⟨by omega, .inl h5⟩
    · exact ⟨h6, .inr ⟨h5, by omega, h7⟩⟩
  · rintro ⟨h5, h6 | ⟨h6, h7, h8⟩⟩
    · exact .inl h6
    · exact .inr ⟨h6, h5, h8⟩
/-- the runs of a part: its places, its values -/
theorem cut_spec {size : Int} {rs : List (Rn Int)} (h : Tiles 0 size rs) {lo hi : Int} (h0 : 0 ≤ lo) (h1 : lo < hi) (h2 : hi ≤ size) : Tiles lo hi (cut rs lo hi) ∧ ∀ i v, Has (cut rs lo hi) i v ↔ (lo ≤ i ∧ i < hi ∧ Has rs i v) := by
  obtain ⟨A, x, A', s1, l1, x1, x2, x3, x4⟩ := find_split h (i := lo) h0 (by omega)
  obtain ⟨B', y, B2, s2, l2, y1, y2, y3, y4⟩ := find_split h (i := hi - 1) (by omega) (by omega)
  have hab : find rs lo ≤ find rs (hi - 1) := by
    unfold find
    refine List.countP_mono_left ?_
    intro r _ hr
    simp at hr ⊢; omega
  unfold cut
  obtain ⟨sub, hsub⟩ : ∃ sub, sub = (rs.drop (find rs lo)).take (find rs (hi - 1) + 1 - find rs lo) := ⟨_, rfl⟩
  rw [← hsub]
  -- the part's head is x, its last is y
  have e1 : sub = x :: (A'.take (find rs (hi - 1) - find rs lo)) := by
    rw [hsub]
    have : rs.drop (find rs lo) = x :: A' := by
      rw [← l1]; conv => lhs; rw [s1]
      simp
    rw [this, show find rs (hi - 1) + 1 - find rs lo = (find rs (hi - 1) - find rs lo) + 1 by omega, List.take_succ_cons]
  have e2 : sub = (B'.drop (find rs lo)) ++ [y] := by
    rw [hsub]
    have : rs.take (find rs (hi - 1) + 1) = B' ++ [y] := by
      rw [← l2]; conv => lhs; rw [s2]
      rw [List.take_append, List.take_of_length_le (by omega)]
      simp
    rw [← List.drop_take, this, List.drop_append_of_le_length (by omega)]
  have e3 : rs = A ++ (sub ++ B2) := by
    have k1 : rs.take (find rs lo) = A := by
      rw [← l1]; conv => lhs; rw [s1]
      simp
    have k2 : rs.drop (find rs (hi - 1) + 1) = B2 := by
      rw [← l2]; conv => lhs; rw [s2]
      rw [List.drop_append, List.drop_of_length_le (by omega)]
      simp
    conv => lhs; rw [← List.take_append_drop (find rs lo) rs, k1, ← List.take_append_drop (find rs (hi - 1) + 1 - find rs lo) (rs.drop (find rs lo)), ← hsub, List.drop_drop]
    rw [show find rs lo + (find rs (hi - 1) + 1 - find rs lo) = find rs (hi - 1) + 1 by omega, k2]
  have ht : Tiles x.lo y.hi sub := by
    rw [e3] at h
    obtain ⟨m, q1, q2⟩ := tiles_append.1 h
    obtain ⟨m2, q3, q4⟩ := tiles_append.1 q2
    have r1 : x.lo = m := by rw [e1] at q3; exact q3.1
    have r2 : y.hi = m2 := by rw [e2] at q3; exact (tiles_snoc.1 q3).2.2
    rw [r1, r2]; exact q3
  have hhas : ∀ i v, x.lo ≤ i → i < y.hi → (Has rs i v ↔ Has sub i v) := by
    intro i v g1 g2
    have hh := h
    rw [e3] at hh ⊢
    obtain ⟨m, q1, q2⟩ := tiles_append.1 hh
    obtain ⟨m2, q3, q4⟩ := tiles_append.1 q2
    have r1 : x.lo = m := by rw [e1] at q3; exact q3.1
    have r2 : y.hi = m2 := by rw [e2] at q3; exact (tiles_snoc.1 q3).2.2
    rw [has_append, has_append]
    constructor
    · rintro (k | k | k)
      · have := (q1.inside k).2; omega
      · exact k
      · have := (q4.inside k).1; omega
    · exact fun k => .inr (.inl k)
  obtain ⟨t1, t2⟩ := setLo_spec (a := x.lo) (b := y.hi) (lo := lo) (x := x) (t := A'.take (find rs (hi - 1) - find rs lo)) (by rw [← e1]; exact ht) x1 x2
  rw [← e1] at t1 t2
  obtain ⟨z, u, e4, e5⟩ : ∃ z u, setLo sub lo = u ++ [z] ∧ z.lo < hi := by
    cases hd : B'.drop (find rs lo) with
    | nil =>
      rw [hd] at e2
      exact ⟨{ y with lo := lo }, [], by rw [e2]; rfl, h1⟩
    | cons c d =>
      rw [hd] at e2
      exact ⟨y, { c with lo := lo } :: d, by rw [e2]; rfl, by omega⟩
  rw [e4] at t1
  obtain ⟨t3, t4⟩ := setHi_spec t1 (hi := hi) (by omega) e5
  rw [← e4] at t3 t4
  refine ⟨t3, fun i v => (t4 i v).trans ?_⟩
  rw [t2]
  constructor
  · rintro ⟨g1, g2, g3⟩
    exact ⟨g2, g1, (hhas i v (by omega) (by omega)).2 g3⟩
  · rintro ⟨g1, g2, g3⟩
    exact ⟨g2, g1, (hhas i v (by omega) (by omega)).1 g3⟩
/-- a stretch: its places, the one value, the other -/
abbrev St := Int × Int × Int × Int
def strs (rb : List (Rn Int)) (r : Rn Int) : List St := (cut rb r.lo r.hi).map (fun s => (s.lo, s.hi, r.v, s.v))
/-- two maps side by side -/
def side (ra rb : List (Rn Int)) : List St := ra.flatMap (strs rb)
theorem side_nil (rb : List (Rn Int)) : side [] rb = [] := rfl
theorem side_snoc (ra rb : List (Rn Int)) (r : Rn Int) : side (ra ++ [r]) rb = side ra rb ++ strs rb r := by simp [side]
theorem side_append (ra ra' rb : List (Rn Int)) : side (ra ++ ra') rb = side ra rb ++ side ra' rb := by simp [side]
/-- a run within a row -/
def Within (size : Int) (r : Rn Int) : Prop := 0 ≤ r.lo ∧ r.lo < r.hi ∧ r.hi ≤ size
theorem tiles_within {a size : Int} : ∀ {rs : List (Rn Int)} {lo : Int}, 0 ≤ lo → Tiles lo size rs → ∀ r ∈ rs, Within size r
  | [], _, _, _, r, hr => by cases hr
  | x :: t, lo, h0, ⟨e, h1, h2⟩, r, hr => by
    have h3 := h2.le
    rcases List.mem_cons.1 hr with rfl | hr
    · exact ⟨by omega, by omega, h3⟩
    · exact tiles_within (a := a) (by omega) h2 r hr
theorem within_list {size : Int} : ∀ (rs : List (Rn Int)), (∀ r ∈ rs, Within size r) → ∃ ys : List { r : Rn Int // Within size r }, ys.map Subtype.val = rs
  | [], _ => ⟨[], rfl⟩
  | x :: t, h => by
    obtain ⟨ys, e⟩ := within_list t (fun r hr => h r (List.mem_cons_of_mem _ hr))
    exact ⟨⟨x, h x (List.mem_cons_self ..)⟩ :: ys, by simp [e]⟩
theorem strs_mem {size : Int} {rb : List (Rn Int)} (hb : Tiles 0 size rb) {r : Rn Int} (hr : Within size r) {i : Int} (h1 : r.lo ≤ i) (h2 : i < r.hi) : ∃ u, Has rb i u ∧ ∃ lo hi, (lo, hi, r.v, u) ∈ strs rb r ∧ lo ≤ i ∧ i < hi := by
  obtain ⟨t, hh⟩ := cut_spec hb hr.1 hr.2.1 hr.2.2
  obtain ⟨u, hu⟩ := t.covers h1 h2
  have := ((hh i u).1 hu).2.2
  obtain ⟨s, hs, s1, s2, rfl⟩ := hu
  exact ⟨_, this, s.lo, s.hi, List.mem_map.2 ⟨s, hs, rfl⟩, s1, s2⟩
theorem strs_has {size : Int} {rb : List (Rn Int)} (hb : Tiles 0 size rb) {r : Rn Int} (hr : Within size r) {lo hi : Int} {x y : Int} (h : (lo, hi, x, y) ∈ strs rb r) : x = r.v ∧ r.lo ≤ lo ∧ lo < hi ∧ hi ≤ r.hi ∧ ∀ i, lo ≤ i → i < hi → Has rb i y := by
  obtain ⟨t, hh⟩ := cut_spec hb hr.1 hr.2.1 hr.2.2
  obtain ⟨s, hs, e⟩ := List.mem_map.1 h
  simp only [Prod.mk.injEq] at e
  obtain ⟨rfl, rfl, rfl, rfl⟩ := e
  obtain ⟨A, B, e⟩ := List.append_of_mem hs
  rw [e] at t
  obtain ⟨m, t1, t2⟩ := tiles_append.1 t
  obtain ⟨t3, t4, t5⟩ := t2
  have := t1.le
  have := t5.le
  exact ⟨rfl, by omega, by omega, by omega, fun i g1 g2 => ((hh i s.v).1 ⟨s, hs, g1, g2, rfl⟩).2.2⟩
theorem side_same {size : Int} {ra rb : List (Rn Int)} (ta : Tiles 0 size ra) (aa : Alt ra) (tb : Tiles 0 size rb) (ab : Alt rb) (h : ∀ st ∈ side ra rb, st.2.2.1 = st.2.2.2) : ra = rb := by
  have key : ∀ i v, Has ra i v → Has rb i v := by
    rintro i v ⟨r, hr, h1, h2, rfl⟩
    obtain ⟨u, hu, lo, hi, hm, _⟩ := strs_mem tb (tiles_within (a := 0) (Int.le_refl 0) ta r hr) h1 h2
    have := h _ (List.mem_flatMap.2 ⟨r, hr, hm⟩)
    simp only at this
    rw [this]; exact hu
  refine runs_unique ta aa tb ab (fun i v => ⟨key i v, fun hv => ?_⟩)
  obtain ⟨u, hu⟩ := ta.covers (tb.inside hv).1 (tb.inside hv).2
  have := tb.one hv (key i u hu)
  rw [this]; exact hu
theorem side_diff {size : Int} {ra rb : List (Rn Int)} (ta : Tiles 0 size ra) (tb : Tiles 0 size rb) {st : St} (hm : st ∈ side ra rb) (hn : st.2.2.1 ≠ st.2.2.2) : ra ≠ rb := by
  obtain ⟨r, hr, hm⟩ := List.mem_flatMap.1 hm
  obtain ⟨lo, hi, x, y⟩ := st
  have hw := tiles_within (a := 0) (Int.le_refl 0) ta r hr
  obtain ⟨rfl, h1, h2, h3, h4⟩ := strs_has tb hw hm
  intro e
  have q1 := h4 lo (Int.le_refl _) h2
  have q2 : Has ra lo r.v := ⟨r, hr, h1, by omega, rfl⟩
  rw [e] at q2
  exact hn (tb.one q2 q1)
theorem cutA_all {size : Int} {rs : List (Rn Int)} (h : Tiles 0 size rs) : cutA rs size 0 size = rs := by
  have := h.le
  unfold cutA
  by_cases hp : 0 < size
  · rw [if_pos (by omega), show max (0 : Int) 0 = 0 by omega, show min size size = size by omega, cut_full h hp]
  · rw [if_neg (by omega)]
    have : size = 0 := by omega
    subst this
    exact h.empty.symm
theorem cutA_within {size : Int} {rs : List (Rn Int)} {r : Rn Int} (h : Within size r) : cutA rs size r.lo r.hi = cut rs r.lo r.hi := by
  obtain ⟨h1, h2, h3⟩ := h
  unfold cutA
  rw [show max r.lo 0 = r.lo by omega, show min r.hi size = r.hi by omega, if_pos h2]
end Go.Proofs.Ytijafckdbhklmaa.I
