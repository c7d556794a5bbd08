import Derived.Test.YtncajaihojhkkaaGreatXES
import Derived.Test.YtncajaihojhkkaaGreatXXS
namespace Go.Proofs.YtncajaihojhkkaaGreat.S
open Go.RowKit Go.Sort
set_option linter.unusedVariables false
set_option linter.unusedSimpArgs false
set_option maxRecDepth 100000

/-- lay, whatever is replaced -/
theorem lay_any {w : World} {B bm : Nat} {v : Value} {size : Int} {rs : List (Rn ByteArray)} (h : MO w B bm v size rs) (r : Rn ByteArray) (h0 : 0 ≤ r.lo) (h1 : r.lo < r.hi) (h2 : r.hi ≤ size) :
    Calls Tryz.prog 23 #[.pointer (some ⟨bm, 0, none⟩), .agg #[.int .i64 r.lo, .int .i64 r.hi, .string r.v]] w fun e w' => e = .returned (.tuple #[]) ∧ SetTo w B bm v size (lay size rs r) w' := by
  by_cases hlast : find rs (min r.hi (size - 1)) + 1 = rs.length
  · exact lay_end h r h0 h1 h2 hlast
  · refine lay_by h r h0 h1 h2 ?_
    intro g cap m js hv hm hm0 hm3 W gv c hrow hB hne hj
    obtain ⟨A, x, A', e1, l1, x1, x2, x3, x4⟩ := find_split h.tiles (i := max (r.lo - 1) 0) (by omega) (by omega)
    obtain ⟨B', y, B2, e2, l2, y1, y2, y3, y4⟩ := find_split h.tiles (i := min r.hi (size - 1)) (by omega) (by omega)
    have hfi := (split_some e1 l1).2
    have hla := (split_some e2 l2).2
    have hab : find rs (max (r.lo - 1) 0) ≤ find rs (min r.hi (size - 1)) := by
      unfold find
      refine List.countP_mono_left ?_
      intro q _ hq
      simp at hq ⊢; omega
    have hz : (((find rs (min r.hi (size - 1)) : Nat) : Int) + 1) = ((find rs (min r.hi (size - 1)) + 1 : Nat) : Int) := by omega
    rw [hz]
    generalize find rs (max (r.lo - 1) 0) = fi at *
    generalize find rs (min r.hi (size - 1)) = la at *
    have hlen := h.len
    have := replace_mid W B g rs.length cap fi (la + 1) (rs.length - (la + 1)) m (fi + m + (rs.length - (la + 1))) gv c (rcells E rs) (rcells E js) hrow (by omega) (by omega) rfl rfl hm0 hlen (by omega) hj hne (rcells_one js) (rcells_one rs) hB
    refine this.mono ?_
    rintro e w' ⟨ao, cap', rfl, ho, hg, hf⟩
    have hl : (rs.take fi ++ js ++ rs.drop (la + 1)).length = fi + m + (rs.length - (la + 1)) := by
      rw [List.length_append, List.length_append, List.length_take, List.length_drop, hm]; omega
    rw [rcells_take, rcells_drop, ← rcells_append, ← rcells_append] at ho
    rw [hl]
    exact ⟨ao, cap', rfl, ho, hg, hf⟩
/-- the runs behind a Set, whatever its range -/
def setR (size : Int) (rs : List (Rn ByteArray)) (lo hi : Int) (x : ByteArray) : List (Rn ByteArray) := if 0 ≤ lo ∧ lo < hi ∧ hi ≤ size then lay size rs ⟨lo, hi, x⟩ else rs
/-- what Set answers -/
def setE (size lo hi : Int) : Int := if 0 ≤ lo ∧ lo ≤ hi ∧ hi ≤ size then 0 else 21
theorem set_any {w : World} {B bm : Nat} {v : Value} {size : Int} {rs : List (Rn ByteArray)} (h : MO w B bm v size rs) (lo hi : Int) (x : ByteArray) :
    Calls Tryz.prog 10 #[.pointer (some ⟨bm, 0, none⟩), .int .i64 lo, .int .i64 hi, .string x] w fun e w' => e = .returned (.int .i64 (setE size lo hi)) ∧ SetTo w B bm v size (setR size rs lo hi x) w' := by
  by_cases h1 : 0 ≤ lo ∧ lo ≤ hi ∧ hi ≤ size
  · have e1 : setE size lo hi = 0 := by unfold setE; rw [if_pos h1]
    rw [e1]
    by_cases h2 : lo < hi
    · have e2 : setR size rs lo hi x = lay size rs ⟨lo, hi, x⟩ := by unfold setR; rw [if_pos ⟨h1.1, h2, h1.2.2⟩]
      rw [e2]
      exact set_by h lo hi x h1.1 h2 h1.2.2 (lay_any h ⟨lo, hi, x⟩ h1.1 h2 h1.2.2)
    · have e2 : setR size rs lo hi x = rs := by unfold setR; rw [if_neg (by omega)]
      obtain rfl : lo = hi := by omega
      rw [e2]
      refine (set_none h lo _ h1.1 h1.2.2).mono ?_
      rintro e w' ⟨rfl, rfl⟩
      exact ⟨rfl, v, h, KeptM.refl _ _ _⟩
  · have e1 : setE size lo hi = 21 := by unfold setE; rw [if_neg h1]
    have e2 : setR size rs lo hi x = rs := by unfold setR; rw [if_neg (by omega)]
    rw [e1, e2]
    refine (set_bad h lo hi _ (by omega)).mono ?_
    rintro e w' ⟨rfl, rfl⟩
    exact ⟨rfl, v, h, KeptM.refl _ _ _⟩
/-- the values behind a Set -/
theorem setR_spec {size : Int} {rs : List (Rn ByteArray)} (ht : Tiles 0 size rs) (ha : Alt rs) (lo hi : Int) (x : ByteArray) :
    Tiles 0 size (setR size rs lo hi x) ∧ Alt (setR size rs lo hi x) ∧ ∀ i u, Has (setR size rs lo hi x) i u ↔ if (0 ≤ lo ∧ lo ≤ hi ∧ hi ≤ size) ∧ lo ≤ i ∧ i < hi then x = u else Has rs i u := by
  unfold setR
  by_cases h1 : 0 ≤ lo ∧ lo < hi ∧ hi ≤ size
  · rw [if_pos h1]
    obtain ⟨a, b, c⟩ := lay_spec (r := ⟨lo, hi, x⟩) ht ha h1.1 h1.2.1 h1.2.2
    refine ⟨a, b, fun i u => ?_⟩
    rw [c]
    simp only
    by_cases h2 : lo ≤ i ∧ i < hi
    · rw [if_pos ⟨⟨h1.1, by omega, h1.2.2⟩, h2⟩]
      constructor
      · rintro (h | h)
        · exact h.2.2
        · exact absurd h2 h.1
      · intro h; exact .inl ⟨h2.1, h2.2, h⟩
    · rw [if_neg (by omega)]
      constructor
      · rintro (h | h)
        · exact absurd ⟨h.1, h.2.1⟩ h2
        · exact h.2
      · intro h; exact .inr ⟨h2, h⟩
  · rw [if_neg h1]
    refine ⟨ht, ha, fun i u => ?_⟩
    rw [if_neg (by omega)]
end Go.Proofs.YtncajaihojhkkaaGreat.S
