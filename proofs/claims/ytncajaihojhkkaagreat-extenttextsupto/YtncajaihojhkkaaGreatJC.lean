import Derived.Test.YtncajaihojhkkaaGreatET4
namespace Go.Proofs.YtncajaihojhkkaaGreat.I
open Go.RowKit Go.Sort Go.Lib Go.Shelf
set_option linter.unusedVariables false
set_option linter.unusedSimpArgs false

theorem putL_mem : ∀ (l : List Int) (x y : Int), y ∈ putL l x ↔ y = x ∨ y ∈ l
  | [], x, y => by simp [putL]
  | z :: t, x, y => by
    unfold putL
    by_cases h1 : x ≤ z
    · rw [if_pos h1]
      by_cases h2 : x < z
      · rw [if_pos h2]; simp
      · rw [if_neg h2]
        have e : x = z := by omega
        subst e; simp
    · rw [if_neg h1, List.mem_cons, putL_mem t x y, List.mem_cons]
      constructor
      · rintro (h | h | h) <;> simp [h]
      · rintro (h | h | h) <;> simp [h]
theorem putL_rise : ∀ (l : List Int) (x : Int), l.Pairwise (· < ·) → (putL l x).Pairwise (· < ·)
  | [], x, _ => by simp [putL]
  | z :: t, x, h => by
    rw [List.pairwise_cons] at h
    unfold putL
    by_cases h1 : x ≤ z
    · rw [if_pos h1]
      by_cases h2 : x < z
      · rw [if_pos h2, List.pairwise_cons, List.pairwise_cons]
        exact ⟨fun y hy => by
          rcases List.mem_cons.1 hy with rfl | hy
          · exact h2
          · have := h.1 y hy; omega, h⟩
      · rw [if_neg h2, List.pairwise_cons]; exact h
    · rw [if_neg h1, List.pairwise_cons]
      refine ⟨fun y hy => ?_, putL_rise t x h.2⟩
      rcases (putL_mem t x y).1 hy with rfl | hy
      · omega
      · exact h.1 y hy
theorem cut1_mem (lo hi : Int) (l : List Int) (x y : Int) : y ∈ cut1 lo hi l x ↔ y ∈ l ∨ (y = x ∧ lo < y ∧ y < hi) := by
  unfold cut1
  by_cases h : lo < x ∧ x < hi
  · rw [if_pos h, putL_mem]
    constructor
    · rintro (rfl | h1)
      · exact .inr ⟨rfl, h.1, h.2⟩
      · exact .inl h1
    · rintro (h1 | h1)
      · exact .inr h1
      · exact .inl h1.1
  · rw [if_neg h]
    constructor
    · exact .inl
    · rintro (h1 | ⟨rfl, h2, h3⟩)
      · exact h1
      · exact absurd ⟨h2, h3⟩ h
theorem cut1_rise (lo hi : Int) (l : List Int) (x : Int) (h : l.Pairwise (· < ·)) : (cut1 lo hi l x).Pairwise (· < ·) := by
  unfold cut1
  split
  · exact putL_rise _ _ h
  · exact h
theorem cutsG_mem (lo hi : Int) : ∀ (S : List Put) (l : List Int) (y : Int), y ∈ S.foldl (cut2 lo hi) l ↔ y ∈ l ∨ (lo < y ∧ y < hi ∧ ∃ q ∈ S, y = q.1 ∨ y = q.2.1)
  | [], l, y => by simp
  | q :: S, l, y => by
    rw [List.foldl_cons, cutsG_mem lo hi S, cut2, cut1_mem, cut1_mem]
    constructor
    · rintro (((h | ⟨h1, h2⟩) | ⟨h1, h2⟩) | ⟨h1, h2, r, hr, h3⟩)
      · exact .inl h
      · exact .inr ⟨h2.1, h2.2, q, by simp, .inl h1⟩
      · exact .inr ⟨h2.1, h2.2, q, by simp, .inr h1⟩
      · exact .inr ⟨h1, h2, r, by simp [hr], h3⟩
    · rintro (h | ⟨h1, h2, r, hr, h3⟩)
      · exact .inl (.inl (.inl h))
      · rcases List.mem_cons.1 hr with rfl | hr
        · rcases h3 with h3 | h3
          · exact .inl (.inl (.inr ⟨h3, h1, h2⟩))
          · exact .inl (.inr ⟨h3, h1, h2⟩)
        · exact .inr ⟨h1, h2, r, hr, h3⟩
theorem cutsG_rise (lo hi : Int) : ∀ (S : List Put) (l : List Int), l.Pairwise (· < ·) → (S.foldl (cut2 lo hi) l).Pairwise (· < ·)
  | [], l, h => h
  | q :: S, l, h => cutsG_rise lo hi S _ (cut1_rise _ _ _ _ (cut1_rise _ _ _ _ h))
theorem cutsL_rise (S : List Put) (lo hi : Int) : (cutsL S lo hi).Pairwise (· < ·) := cutsG_rise lo hi S _ (putL_rise _ _ (putL_rise _ _ List.Pairwise.nil))
theorem cutsL_mem (S : List Put) (lo hi y : Int) : y ∈ cutsL S lo hi ↔ (y = lo ∨ y = hi) ∨ (lo < y ∧ y < hi ∧ ∃ q ∈ S, y = q.1 ∨ y = q.2.1) := by
  unfold cutsL
  rw [cutsG_mem, putL_mem, putL_mem]
  simp only [List.not_mem_nil, or_false]
  constructor
  · rintro (h | h)
    · exact .inl h.symm
    · exact .inr h
  · rintro (h | h)
    · exact .inl h.symm
    · exact .inr h
/-- the pieces between neighbours -/
def pcs (f : Int → Int) : List Int → List (Rn Int)
  | [] => []
  | [_] => []
  | x :: y :: t => ⟨x, y, f x⟩ :: pcs f (y :: t)
/-- no entry turns between two places -/
theorem lastV_flat (size first : Int) : ∀ (S : List Put) (x i : Int), (∀ q ∈ S, (q.1 ≤ i ∧ i < q.2.1) ↔ (q.1 ≤ x ∧ x < q.2.1)) → lastV size first S i = lastV size first S x := by
  intro S
  induction S generalizing first with
  | nil => intros; rfl
  | cons q S ih =>
    intro x i h
    have h1 := h q (by simp)
    show lastV size _ S i = lastV size _ S x
    have e : (if may size q.1 q.2.1 ∧ q.1 ≤ i ∧ i < q.2.1 then q.2.2 else first) = (if may size q.1 q.2.1 ∧ q.1 ≤ x ∧ x < q.2.1 then q.2.2 else first) := by
      by_cases hm : may size q.1 q.2.1 ∧ q.1 ≤ i ∧ i < q.2.1
      · rw [if_pos hm, if_pos ⟨hm.1, h1.1 hm.2⟩]
      · rw [if_neg hm, if_neg (fun k => hm ⟨k.1, h1.2 k.2⟩)]
    simp only [lastV, List.foldl_cons] at *
    rw [e]
    exact ih _ x i (fun r hr => h r (by simp [hr]))
end Go.Proofs.YtncajaihojhkkaaGreat.I

namespace Go.Proofs.YtncajaihojhkkaaGreat.I
open Go.RowKit Go.Sort Go.Lib Go.Shelf
set_option linter.unusedVariables false
set_option linter.unusedSimpArgs false

/-- the last place of a list -/
def lastP (b : Int) (t : List Int) : Int := (b :: t).getLast (by simp)
theorem lastP_cons (b c : Int) (t : List Int) : lastP b (c :: t) = lastP c t := by simp [lastP]
theorem pcs_join (f : Int → Int) : ∀ (t : List Int) (b a : Int) (l : List (Rn Int)), Tiles a b l → Alt l → (b :: t).Pairwise (· < ·) →
    Tiles a (lastP b t) ((pcs f (b :: t)).foldl joinStep l) ∧ Alt ((pcs f (b :: t)).foldl joinStep l) ∧ ∀ i u, Has ((pcs f (b :: t)).foldl joinStep l) i u ↔ Has l i u ∨ Has (pcs f (b :: t)) i u
  | [], b, a, l, h1, h2, _ => ⟨h1, h2, fun i u => by simp [pcs, Has]⟩
  | c :: t, b, a, l, h1, h2, h3 => by
    rw [List.pairwise_cons] at h3
    have hbc := h3.1 c (by simp)
    obtain ⟨a1, a2, a3, _, _⟩ := joinStep_spec (p := (⟨b, c, f b⟩ : Rn Int)) h1 h2 rfl (by show b ≤ c; omega)
    obtain ⟨k1, k2, k3⟩ := pcs_join f t c a _ a1 a2 h3.2
    rw [lastP_cons]
    refine ⟨k1, k2, fun i u => ?_⟩
    show Has ((pcs f (c :: t)).foldl joinStep (joinStep l ⟨b, c, f b⟩)) i u ↔ Has l i u ∨ Has (⟨b, c, f b⟩ :: pcs f (c :: t)) i u
    rw [k3, a3, has_cons]
    constructor
    · rintro ((h | h) | h)
      · exact .inl h
      · exact .inr (.inl h)
      · exact .inr (.inr h)
    · rintro (h | h | h)
      · exact .inl (.inl h)
      · exact .inl (.inr h)
      · exact .inr h
theorem lastP_ge : ∀ (t : List Int) (b : Int), (b :: t).Pairwise (· < ·) → ∀ z ∈ b :: t, z ≤ lastP b t
  | [], b, _, z, hz => by simp at hz; rw [hz]; exact Int.le_refl _
  | c :: t, b, h, z, hz => by
    rw [List.pairwise_cons] at h
    rw [lastP_cons]
    rcases List.mem_cons.1 hz with rfl | hz
    · have h1 := h.1 c (by simp)
      have h2 := lastP_ge t c h.2 c (by simp)
      omega
    · exact lastP_ge t c h.2 z hz
theorem pcs_has (f : Int → Int) : ∀ (t : List Int) (b : Int), (b :: t).Pairwise (· < ·) → (∀ x i, x ∈ b :: t → x ≤ i → i < lastP b t → (∀ z ∈ b :: t, z ≤ x ∨ i < z) → f i = f x) → ∀ i u, Has (pcs f (b :: t)) i u ↔ (b ≤ i ∧ i < lastP b t ∧ f i = u)
  | [], b, _, _, i, u => by simp [pcs, Has, lastP]; omega
  | c :: t, b, h, H, i, u => by
    have hp := h
    rw [List.pairwise_cons] at h
    have hbc := h.1 c (by simp)
    have hge := lastP_ge t c h.2 c (by simp)
    have hmin : ∀ z ∈ c :: t, c ≤ z := fun z hz => by
      rcases List.mem_cons.1 hz with rfl | hz
      · exact Int.le_refl _
      · have := (List.pairwise_cons.1 h.2).1 z hz; omega
    show Has (⟨b, c, f b⟩ :: pcs f (c :: t)) i u ↔ _
    rw [has_cons, lastP_cons, pcs_has f t c h.2 (fun x j hx hj hjl hz => H x j (List.mem_cons_of_mem _ hx) hj (by rw [lastP_cons]; exact hjl) (fun z hz' => by
      rcases List.mem_cons.1 hz' with rfl | hz'
      · exact .inl (by have := hmin x hx; omega)
      · exact hz z hz')) i u]
    have key : b ≤ i → i < c → f i = f b := fun h1 h2 => H b i (by simp) h1 (by rw [lastP_cons]; omega) (fun z hz => by
      rcases List.mem_cons.1 hz with rfl | hz
      · exact .inl (Int.le_refl _)
      · exact .inr (by have := hmin z hz; omega))
    constructor
    · rintro (⟨h1, h2, h3⟩ | ⟨h1, h2, h3⟩)
      · have h1' : b ≤ i := h1
        have h2' : i < c := h2
        exact ⟨h1', by omega, (key h1' h2').trans h3⟩
      · exact ⟨by omega, h2, h3⟩
    · rintro ⟨h1, h2, h3⟩
      by_cases hic : i < c
      · exact .inl ⟨h1, hic, (key h1 hic).symm.trans h3⟩
      · exact .inr ⟨by omega, h2, h3⟩
theorem cutsL_form (S : List Put) {lo hi : Int} (h : lo < hi) : ∃ t, cutsL S lo hi = lo :: t ∧ lastP lo t = hi := by
  have hr := cutsL_rise S lo hi
  have hm := cutsL_mem S lo hi
  cases hL : cutsL S lo hi with
  | nil => have := (hm lo).2 (.inl (.inl rfl)); rw [hL] at this; cases this
  | cons x t =>
    rw [hL] at hr
    have hx : x = lo := by
      have h1 : lo ∈ x :: t := by rw [← hL]; exact (hm lo).2 (.inl (.inl rfl))
      have h2 := (hm x).1 (by rw [hL]; simp)
      rcases List.mem_cons.1 h1 with e | h1
      · exact e.symm
      · have := (List.pairwise_cons.1 hr).1 lo h1
        rcases h2 with (e | e) | h2
        · exact e
        · omega
        · omega
    subst hx
    refine ⟨t, rfl, ?_⟩
    have h1 := lastP_ge t x hr hi (by rw [← hL]; exact (hm hi).2 (.inl (.inr rfl)))
    have h2 := (hm (lastP x t)).1 (by rw [hL]; exact List.getLast_mem _)
    rcases h2 with (e | e) | h2
    · omega
    · exact e
    · omega
/-- what the document tells of a part -/
def docRuns (size first : Int) (S : List Put) (lo hi : Int) : List (Rn Int) := joined (pcs (lastV size first S) (cutsL S lo hi))
theorem docRuns_spec (size first : Int) (S : List Put) (h1 : 0 < size) : Tiles 0 size (docRuns size first S 0 size) ∧ Alt (docRuns size first S 0 size) ∧ ∀ i u, Has (docRuns size first S 0 size) i u ↔ (0 ≤ i ∧ i < size ∧ lastV size first S i = u) := by
  obtain ⟨t, eL, eP⟩ := cutsL_form S h1
  have hr := cutsL_rise S 0 size
  have hm := cutsL_mem S 0 size
  rw [eL] at hr hm
  obtain ⟨k1, k2, k3⟩ := pcs_join (lastV size first S) t 0 0 [] rfl trivial hr
  have hp := pcs_has (lastV size first S) t 0 hr (fun x i hx hxi hil hz => lastV_flat size first S x i (fun q hq => by
    have hxb : 0 ≤ x ∧ x ≤ size := by
      rcases (hm x).1 hx with (e | e) | e <;> omega
    have hhi := hz size ((hm size).2 (.inl (.inr rfl)))
    have a1 : ∀ y, (y = q.1 ∨ y = q.2.1) → x < y → y ≤ i → False := fun y hy hy1 hy2 => by
      by_cases hyh : y < size
      · have := hz y ((hm y).2 (.inr ⟨by omega, hyh, q, hq, hy⟩)); omega
      · rw [eP] at hil; omega
    constructor
    · rintro ⟨b1, b2⟩
      refine ⟨?_, by omega⟩
      by_cases hc : q.1 ≤ x
      · exact hc
      · exact (a1 q.1 (.inl rfl) (by omega) b1).elim
    · rintro ⟨b1, b2⟩
      refine ⟨by omega, ?_⟩
      by_cases hc : i < q.2.1
      · exact hc
      · exact (a1 q.2.1 (.inr rfl) b2 (by omega)).elim))
  unfold docRuns joined
  rw [eL]
  rw [eP] at k1 hp
  refine ⟨k1, k2, fun i u => ?_⟩
  rw [k3, hp]
  constructor
  · rintro (h | h)
    · obtain ⟨r, hr', _⟩ := h; cases hr'
    · exact h
  · exact .inr
end Go.Proofs.YtncajaihojhkkaaGreat.I
