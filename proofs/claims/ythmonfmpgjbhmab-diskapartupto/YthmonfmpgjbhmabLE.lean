import Derived.Test.YthmonfmpgjbhmabLC
namespace Go.Proofs.Ythmonfmpgjbhmab.K
open Go.RowKit Go.Maps Go.Proofs.Ythmonfmpgjbhmab
set_option linter.unusedVariables false
set_option linter.unusedSimpArgs false
set_option maxRecDepth 100000

theorem row_set {W : World} {g T size n cap : Nat} {xs : List Value} {j : Nat} (v : Value) (h : W.ownsRow 0 T size (.slice (some ⟨g, 0, none⟩) n cap) n xs) (hj : j < xs.length) : (W.setCell ⟨g, j, none⟩ v).ownsRow 0 T size (.slice (some ⟨g, 0, none⟩) n cap) n (xs.set j v) := by
  refine ⟨by rw [List.length_set]; exact h.1, ?_⟩
  rcases h.2 with ⟨h0, _⟩ | ⟨g', cap', cur, hv, hbg, hg, hnc, hcm, hcs, htake⟩
  · cases h0
  · cases hv
    refine .inr ⟨g, cap, _, rfl, hbg, blk_set hg j v, hnc, hcm, by simpa using hcs, ?_⟩
    rw [Array.toList_setIfInBounds, List.take_set, htake]
theorem fcells_mid (A B : List Flt) (f : Flt) (j : Nat) (hj : j < 5) : (fcells (A ++ f :: B))[A.length * 5 + j]? = (fcell f)[j]? := by
  rw [fcells_append, List.getElem?_append_right (by rw [fcells_len]; omega), fcells_len, Nat.add_sub_cancel_left]
  show (fcell f ++ fcells B)[j]? = _
  rw [List.getElem?_append_left (by simp [fcell]; omega)]
theorem fcells_set (A B : List Flt) (f f' : Flt) (j : Nat) (v : Value) (hj : j < 5) (hf : (fcell f).set j v = fcell f') : (fcells (A ++ f :: B)).set (A.length * 5 + j) v = fcells (A ++ f' :: B) := by
  rw [fcells_append, fcells_append, List.set_append_right _ _ (by rw [fcells_len]; omega), fcells_len, Nat.add_sub_cancel_left]
  show fcells A ++ (fcell f ++ fcells B).set j v = fcells A ++ (fcell f' ++ fcells B)
  rw [List.set_append_left _ _ (by simp [fcell]; omega), hf]
/-- a fault's cells -/
theorem frow_cells {W : World} {g n cap : Nat} {A B : List Flt} {f : Flt} (h : W.ownsRow 0 TFa 5 (.slice (some ⟨g, 0, none⟩) n cap) n (fcells (A ++ f :: B))) : ∀ j, j < 5 → W.cell? ⟨g, A.length * 5 + j, none⟩ = (fcell f)[j]? ∧ W.frozen? ⟨g, A.length * 5 + j, none⟩ = false := fun j hj => by
  rcases h.2 with ⟨h0, _⟩ | ⟨g', cap', cur, hv, hbg, hg, hnc, hcm, hcs, htake⟩
  · cases h0
  · cases hv
    refine ⟨?_, frozen_of hg⟩
    have h1 := fcells_mid A B f j hj
    have h2 : (fcell f)[j]? ≠ none := by
      intro e
      rw [List.getElem?_eq_none_iff] at e
      simp [fcell] at e
      omega
    rw [← htake, List.getElem?_take] at h1
    split at h1
    · rw [cell_of hg, ← h1]; simp
    · exact absurd h1.symm h2
theorem frow_after {W : World} {g n cap : Nat} {A B : List Flt} {f : Flt} (h : W.ownsRow 0 TFa 5 (.slice (some ⟨g, 0, none⟩) n cap) n (fcells (A ++ f :: B))) (z : Int) : (W.setCell ⟨g, A.length * 5 + 2, none⟩ (.int .i64 z)).ownsRow 0 TFa 5 (.slice (some ⟨g, 0, none⟩) n cap) n (fcells (A ++ { f with after := z } :: B)) := by
  have h1 := row_set (j := A.length * 5 + 2) (.int .i64 z) h (by rw [fcells_len]; simp; omega)
  rw [fcells_set A B f { f with after := z } 2 _ (by decide) rfl] at h1
  exact h1
theorem frow_times {W : World} {g n cap : Nat} {A B : List Flt} {f : Flt} (h : W.ownsRow 0 TFa 5 (.slice (some ⟨g, 0, none⟩) n cap) n (fcells (A ++ f :: B))) (z : Int) : (W.setCell ⟨g, A.length * 5 + 3, none⟩ (.int .i64 z)).ownsRow 0 TFa 5 (.slice (some ⟨g, 0, none⟩) n cap) n (fcells (A ++ { f with times := z } :: B)) := by
  have h1 := row_set (j := A.length * 5 + 3) (.int .i64 z) h (by rw [fcells_len]; simp; omega)
  rw [fcells_set A B f { f with times := z } 3 _ (by decide) rfl] at h1
  exact h1
theorem fcells_del (A B : List Flt) (f : Flt) : (fcells (A ++ f :: B)).take (A.length * 5) ++ (fcells (A ++ f :: B)).drop ((A.length + 1) * 5) = fcells (A ++ B) := by
  have e1 : fcells (A ++ f :: B) = fcells A ++ (fcell f ++ fcells B) := by rw [fcells_append]; rfl
  have hl := fcells_len A
  rw [e1, fcells_append]
  congr 1
  · rw [← hl, List.take_left]
  · rw [show (A.length + 1) * 5 = (fcells A).length + (fcell f).length by rw [hl]; simp [fcell]; omega, ← List.drop_drop, List.drop_left, List.drop_left]
end Go.Proofs.Ythmonfmpgjbhmab.K
