import Derived.Test.YthmonfmpgjbhmaazLB
namespace Go.Proofs.Ythmonfmpgjbhmaa.K
open Go.RowKit Go.Maps Go.Proofs.Ythmonfmpgjbhmaa
attribute [local go_sem] Oper.semAt_some
set_option linter.unusedVariables false
set_option linter.unusedSimpArgs false
set_option maxRecDepth 100000

/-- an armed fault's numbers -/
structure FOk (f : Flt) : Prop where
  a0 : 0 ≤ f.after
  a1 : f.after ≤ 9223372036854775807
  t0 : 1 ≤ f.times
  t1 : f.times ≤ 9223372036854775807
/-- a fault that is passed by -/
def passed (k s : Int) (f : Flt) : Flt := if touch f k s = true then { f with after := f.after - 1 } else f
theorem failL_split (k s : Int) : ∀ (A B : List Flt), (∀ f ∈ A, touch f k s = true → 0 < f.after) → failL k s (A ++ B) = (A.map (passed k s) ++ (failL k s B).1, (failL k s B).2)
  | [], B, _ => by simp
  | f :: A, B, h => by
    have ih := failL_split k s A B (fun x hx => h x (List.mem_cons_of_mem _ hx))
    rw [List.cons_append, failL, ih]
    by_cases ht : touch f k s = true
    · rw [if_neg (by rw [ht]; simp), if_pos (h f (by simp) ht)]
      simp [passed, ht]
    · have ht' : touch f k s = false := by simpa using ht
      rw [if_pos ht']
      simp [passed, ht']
theorem passed_ok {k s : Int} {f : Flt} (h : FOk f) (ha : touch f k s = true → 0 < f.after) : FOk (passed k s f) := by
  unfold passed
  split
  · rename_i ht
    have := ha ht
    exact ⟨by show 0 ≤ f.after - 1; omega, by show f.after - 1 ≤ _; have := h.a1; omega, h.t0, h.t1⟩
  · exact h
theorem failL_ok (k s : Int) : ∀ {l : List Flt}, (∀ f ∈ l, FOk f) → ∀ f ∈ (failL k s l).1, FOk f
  | [], _ => by simp [failL]
  | f :: l, h => by
    have hf := h f (by simp)
    have ih := failL_ok k s (l := l) (fun x hx => h x (List.mem_cons_of_mem _ hx))
    unfold failL
    split
    · intro x hx
      simp at hx
      rcases hx with rfl | hx
      · exact hf
      · exact ih x hx
    · split
      · rename_i h1 h2
        intro x hx
        simp at hx
        rcases hx with rfl | hx
        · exact ⟨by show 0 ≤ f.after - 1; omega, by show f.after - 1 ≤ _; have := hf.a1; omega, hf.t0, hf.t1⟩
        · exact ih x hx
      · split
        · exact fun x hx => h x (List.mem_cons_of_mem _ hx)
        · rename_i h1 h2 h3
          intro x hx
          simp at hx
          rcases hx with rfl | hx
          · exact ⟨hf.a0, hf.a1, by show 1 ≤ f.times - 1; have := hf.t0; omega, by show f.times - 1 ≤ _; have := hf.t1; omega⟩
          · exact h x (List.mem_cons_of_mem _ hx)
theorem failL_len (k s : Int) : ∀ (l : List Flt), (failL k s l).1.length ≤ l.length
  | [] => by simp [failL]
  | f :: l => by
    have ih := failL_len k s l
    unfold failL
    split
    · simpa using ih
    · split
      · simpa using ih
      · split
        · simp
        · simp
theorem fcells_len (l : List Flt) : (fcells l).length = l.length * 5 := by
  induction l with
  | nil => rfl
  | cons f l ih => simp only [fcells, List.flatMap_cons, List.length_append] at ih ⊢; rw [ih]; simp [fcell]; omega
theorem fcells_append (a b : List Flt) : fcells (a ++ b) = fcells a ++ fcells b := by simp [fcells]
theorem fcells_one (l : List Flt) : ∀ u ∈ fcells l, u.oneCell' = true := fun u hu => by
  obtain ⟨f, _, hf⟩ := List.mem_flatMap.1 hu
  simp [fcell] at hf
  rcases hf with rfl | rfl | rfl | rfl | rfl <;> rfl
/-- the faults have changed -/
theorem RK.faulted {w w' : World} {lk : Int} {b ms ml : Nat} {qv : Value} {g n cap : Nat} {S : Dk} (h : RK w lk b ms ml qv (.slice (some ⟨g, 0, none⟩) n cap) S) {fs : List Flt} (hf : w'.ownsRow 0 TFa 5 (.slice (some ⟨g, 0, none⟩) n cap) fs.length (fcells fs)) (hk : Kp w w' [g]) :
    DAct w w' lk b ms ml ms ml qv (.slice (some ⟨g, 0, none⟩) n cap) qv (.slice (some ⟨g, 0, none⟩) n cap) { S with fs := fs } := by
  obtain ⟨a1, a2, a3, a4, a5, a6, a7, a8, a9⟩ := h.apart
  have hne : ∀ i, i ∈ [b, ms, ml] ∨ qv.ownBlock = some i → i ∉ [g] := fun i hi hm => by
    simp at hm
    subst hm
    rcases hi with hi | hi
    · simp at hi
      rcases hi with rfl | rfl | rfl
      · exact a4 rfl
      · exact a7 rfl
      · exact a8 rfl
    · exact a9 i hi rfl
  have hlt := h.lt
  obtain ⟨D, h1, h2⟩ := h.sm
  obtain ⟨D', h4, h5⟩ := h.lm
  refine ⟨⟨(hk.block b (hlt b (by simp [fp])) (hne b (.inl (by simp)))).trans h.blk, h.n0, h.n1, ⟨D, ownsMap_block h1 (hk.block ms (hlt ms (by simp [fp])) (hne ms (.inl (by simp)))), h2⟩, ⟨D', ownsMap_block h4 (hk.block ml (hlt ml (by simp [fp])) (hne ml (.inl (by simp)))), h5⟩, ownsRow_block h.qr (fun x hx => hk.block x (hlt x (by simp [fp, hx])) (hne x (.inr hx))), hf, h.ne, h.qok⟩, hk.sub (fun i hi => .inl (by simp at hi; subst hi; simp [fp, Value.ownBlock])), fun i hi => .inl hi⟩
end Go.Proofs.Ythmonfmpgjbhmaa.K

namespace Go.Proofs.Ythmonfmpgjbhmaa.K
open Go.RowKit Go.Maps Go.Proofs.Ythmonfmpgjbhmaa
set_option linter.unusedVariables false
set_option linter.unusedSimpArgs false
set_option maxRecDepth 100000

theorem row_set {W : World} {g T size n cap : Nat} {xs : List Value} {j : Nat} (v : Value) (h : W.ownsRow 0 T size (.slice (some ⟨g, 0, none⟩) n cap) n xs) (hj : j < xs.length) : (W.setCell ⟨g, j, none⟩ v).ownsRow 0 T size (.slice (some ⟨g, 0, none⟩) n cap) n (xs.set j v) := by
  refine ⟨by rw [List.length_set]; exact h.1, ?_⟩
  rcases h.2 with ⟨h0, _⟩ | ⟨g', cap', cur, hv, hbg, hg, hnc, hcm, hcs, htake⟩
  · cases h0
  · cases hv
    refine .inr ⟨g, cap, _, rfl, hbg, blk_set hg j v, hnc, hcm, by simpa using hcs, ?_⟩
    rw [Array.toList_setIfInBounds, List.take_set, htake]
theorem fcells_mid (A B : List Flt) (f : Flt) (j : Nat) (hj : j < 5) : (fcells (A ++ f :: B))[A.length * 5 + j]? = (fcell f)[j]? := by
  rw [fcells_append, List.getElem?_append_right (by rw [fcells_len]; omega), fcells_len, Nat.add_sub_cancel_left]
  show (fcell f ++ fcells B)[j]? = _
  rw [List.getElem?_append_left (by simp [fcell]; omega)]
theorem fcells_set (A B : List Flt) (f f' : Flt) (j : Nat) (v : Value) (hj : j < 5) (hf : (fcell f).set j v = fcell f') : (fcells (A ++ f :: B)).set (A.length * 5 + j) v = fcells (A ++ f' :: B) := by
  rw [fcells_append, fcells_append, List.set_append_right _ _ (by rw [fcells_len]; omega), fcells_len, Nat.add_sub_cancel_left]
  show fcells A ++ (fcell f ++ fcells B).set j v = fcells A ++ (fcell f' ++ fcells B)
  rw [List.set_append_left _ _ (by simp [fcell]; omega), hf]
/-- a fault's cells -/
theorem frow_cells {W : World} {g n cap : Nat} {A B : List Flt} {f : Flt} (h : W.ownsRow 0 TFa 5 (.slice (some ⟨g, 0, none⟩) n cap) n (fcells (A ++ f :: B))) : ∀ j, j < 5 → W.cell? ⟨g, A.length * 5 + j, none⟩ = (fcell f)[j]? ∧ W.frozen? ⟨g, A.length * 5 + j, none⟩ = false := fun j hj => by
  rcases h.2 with ⟨h0, _⟩ | ⟨g', cap', cur, hv, hbg, hg, hnc, hcm, hcs, htake⟩
  · cases h0
  · cases hv
    refine ⟨?_, frozen_of hg⟩
    have h1 := fcells_mid A B f j hj
    have h2 : (fcell f)[j]? ≠ none := by
      intro e
      rw [List.getElem?_eq_none_iff] at e
      simp [fcell] at e
      omega
    rw [← htake, List.getElem?_take] at h1
    split at h1
    · rw [cell_of hg, ← h1]; simp
    · exact absurd h1.symm h2
theorem frow_after {W : World} {g n cap : Nat} {A B : List Flt} {f : Flt} (h : W.ownsRow 0 TFa 5 (.slice (some ⟨g, 0, none⟩) n cap) n (fcells (A ++ f :: B))) (z : Int) : (W.setCell ⟨g, A.length * 5 + 2, none⟩ (.int .i64 z)).ownsRow 0 TFa 5 (.slice (some ⟨g, 0, none⟩) n cap) n (fcells (A ++ { f with after := z } :: B)) := by
  have h1 := row_set (j := A.length * 5 + 2) (.int .i64 z) h (by rw [fcells_len]; simp; omega)
  rw [fcells_set A B f { f with after := z } 2 _ (by decide) rfl] at h1
  exact h1
theorem frow_times {W : World} {g n cap : Nat} {A B : List Flt} {f : Flt} (h : W.ownsRow 0 TFa 5 (.slice (some ⟨g, 0, none⟩) n cap) n (fcells (A ++ f :: B))) (z : Int) : (W.setCell ⟨g, A.length * 5 + 3, none⟩ (.int .i64 z)).ownsRow 0 TFa 5 (.slice (some ⟨g, 0, none⟩) n cap) n (fcells (A ++ { f with times := z } :: B)) := by
  have h1 := row_set (j := A.length * 5 + 3) (.int .i64 z) h (by rw [fcells_len]; simp; omega)
  rw [fcells_set A B f { f with times := z } 3 _ (by decide) rfl] at h1
  exact h1
theorem fcells_del (A B : List Flt) (f : Flt) : (fcells (A ++ f :: B)).take (A.length * 5) ++ (fcells (A ++ f :: B)).drop ((A.length + 1) * 5) = fcells (A ++ B) := by
  have e1 : fcells (A ++ f :: B) = fcells A ++ (fcell f ++ fcells B) := by rw [fcells_append]; rfl
  have hl := fcells_len A
  rw [e1, fcells_append]
  congr 1
  · rw [← hl, List.take_left]
  · rw [show (A.length + 1) * 5 = (fcells A).length + (fcell f).length by rw [hl]; simp [fcell]; omega, ← List.drop_drop, List.drop_left, List.drop_left]
end Go.Proofs.Ythmonfmpgjbhmaa.K
