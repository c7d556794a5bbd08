import Derived.Test.YtoabigjajnikcaaTRe
namespace Go.Proofs.Ytoabigjajnikcaa.X
open Go.RowKit Go.Maps Go.Proofs.Ytoabigjajnikcaa
attribute [local go_sem] Oper.semAt_some
set_option linter.unusedVariables false
set_option linter.unusedSimpArgs false
set_option maxRecDepth 100000

section
variable {w W Z w1 : World} {B s0 : Nat} {vg v2 : Value} {pre : List Pe}
/-- what was gathered in the second ranging -/
def I2 (W2 W3 : World) (pre : List Pe) (W : World) : Prop := (∃ v, Boxed W W2.heap.size TEns v ∧ Tell W W2.heap.size v pre) ∧ (∀ y ∈ pre, W3.heap.size + 2 ≤ y.lo) ∧ Below W2.heap.size W2 W
theorem I2.ab {W2 W3 : World} (h : W2.heap.size ≤ W3.heap.size) : AbQ W3.heap.size (I2 W2 W3) := by
  refine ⟨fun s X Y hI hb => ?_, fun s X r r' hI hr => ?_⟩
  · obtain ⟨⟨v, hv, ht⟩, hl, hB⟩ := hI
    exact ⟨⟨v, (hb.block _ hv.lt).trans hv, ht.later hb⟩, hl, hB.trans (hb.mono hB.size)⟩
  · obtain ⟨⟨v, hv, ht⟩, hl, hB⟩ := hI
    have nc : ∀ cs t fr, X.heap[W3.heap.size + 1]? ≠ some (.cells cs t fr) := fun cs t fr h => by rw [hr] at h; cases h
    exact ⟨⟨v, (put_cells hv nc).trans hv, ht.same (by simp) (fun g cs t hc => put_cells hc nc)⟩, hl, hB.trans ⟨rfl, rfl, rfl, by simp, fun k hk => World.putObj_heap_other (by omega)⟩⟩
theorem tell_appended {tmp : Obj} (hv : Boxed Z B TEns vg) (ht : Tell Z B vg pre) (x : Pe) (hx : Ok1 Z x) (hlo : B ≤ x.lo) (hap : ∀ y ∈ pre, y.hi ≤ x.lo)
    (hD : Z.heap[s0]? = some (.deferred (some []))) (hL : ∃ r, Z.heap[s0 + 1]? = some (.loop r)) (hBs : B ≠ s0 ∧ B ≠ s0 + 1)
    (hown' : w1.ownsRow B TEn 9 v2 (pre.length + 1) (pre.flatMap pcl ++ pcl x)) (hgrow : (Z.alloc tmp).grownBy w1 vg.ownBlock) (hat : v2.ownBlock = vg.ownBlock ∨ v2.ownBlock = some (Z.heap.size + 1)) :
    Boxed w1 B TEns vg ∧ (Boxed (w1.setCell ⟨B, 0, none⟩ v2) B TEns v2 ∧ Tell (w1.setCell ⟨B, 0, none⟩ v2) B v2 (pre ++ [x])) ∧ KpE s0 B Z (w1.setCell ⟨B, 0, none⟩ v2) ∧ Two2 s0 Z (w1.setCell ⟨B, 0, none⟩ v2) ∧ Below B Z (w1.setCell ⟨B, 0, none⟩ v2) := by
  obtain ⟨hv1, hv2, hr2, hk2, hb2⟩ := hv.appended (by decide) ht.row (Nat.le_of_lt hv.lt) (Nat.le_refl B) hown' hgrow
  have hoth : ∀ k, k < Z.heap.size → vg.ownBlock ≠ some k → k ≠ B → (w1.setCell ⟨B, 0, none⟩ v2).heap[k]? = Z.heap[k]? := fun k h1 h2 h3 => (Below.heap_setCell _ _ _ _ h3).trans ((hgrow.block k (by rw [World.size_alloc]; omega) (fun e => h2 e.symm)).trans (Below.heap_alloc _ _ _ h1))
  have hsz := hb2.size
  have htyp : ∀ k cs t, Z.heap[k]? = some (.cells cs t (0, 0)) → t ≠ TEn → vg.ownBlock ≠ some k := fun k cs t hc ht' e => by
    obtain ⟨_, _, cs2, h9⟩ := row_typ ht.row k e
    rw [hc] at h9
    simp only [Option.some.injEq, Obj.cells.injEq] at h9
    exact ht' h9.2.1
  refine ⟨hv1, ⟨hv2, ⟨?_, fun y hy => ?_, fun y hy => ?_, ?_⟩⟩, ⟨hsz, fun g hfi => ?_⟩, ⟨?_, ?_⟩, hb2⟩
  · rw [List.length_append, List.flatMap_append]
    simpa using hr2
  · have hok : Ok1 Z y := by
      rcases List.mem_append.1 hy with hy | hy
      · exact ht.ok y hy
      · simp at hy; subst hy; exact hx
    refine hok.same hsz (fun g cs _ _ hc => hoth g (block_lt hc) (htyp g cs _ hc (by decide)) (fun e => ?_))
    rw [e, show Z.heap[B]? = _ from hv] at hc
    simp only [Option.some.injEq, Obj.cells.injEq] at hc
    exact absurd hc.2.1 (by decide)
  · rcases List.mem_append.1 hy with hy | hy
    · exact ht.lo y hy
    · simp at hy; subst hy; exact hlo
  · rw [List.pairwise_append]
    exact ⟨ht.ap, by simp, fun y hy z hz => by simp at hz; subst hz; exact hap y hy⟩
  · have h1 := hfi.2.2.2.2 vg hv
    refine ⟨hoth g hfi.1 h1 hfi.2.2.1, Nat.lt_of_lt_of_le hfi.1 hsz, Nat.lt_of_lt_of_le hfi.2.1 hsz, hfi.2.2.1, hfi.2.2.2.1, fun v3 hv3 e => ?_⟩
    have e2 : v3 = v2 := by
      have h3 := hv2
      unfold Boxed at h3 hv3
      rw [hv3] at h3
      simpa using h3
    rw [e2] at e
    rcases hat with h3 | h3
    · rw [h3] at e; exact h1 e
    · rw [h3] at e
      have := hfi.1
      simp at e; omega
  · refine hoth s0 (Array.getElem?_eq_some_iff.1 hD).1 (fun e => ?_) (fun e => hBs.1 e.symm)
    obtain ⟨_, _, cs2, h9⟩ := row_typ ht.row _ e
    rw [hD] at h9; cases h9
  · obtain ⟨r, hr⟩ := hL
    refine hoth (s0 + 1) (Array.getElem?_eq_some_iff.1 hr).1 (fun e => ?_) (fun e => hBs.2 e.symm)
    obtain ⟨_, _, cs2, h9⟩ := row_typ ht.row _ e
    rw [hr] at h9; cases h9
theorem fineE_new {W2 W3 X w1 : World} {k : Nat} (bO : Boxed W3 W2.heap.size TEns (.slice none 0 0)) (hs : W3.heap.size = W2.heap.size + 1) (hb : Below W3.heap.size W3 X) (hsz : W3.heap.size + 2 ≤ X.heap.size) (hb2 : Below X.heap.size X w1) (hk : X.heap.size ≤ k) (hk2 : k < w1.heap.size) : FineE W3.heap.size W2.heap.size k w1 := by
  have h1 := hb.size
  have h2 := hb2.size
  refine ⟨hk2, by omega, by omega, by omega, fun v hv => ?_⟩
  have e1 : w1.heap[W2.heap.size]? = W3.heap[W2.heap.size]? := (hb2.block _ (by omega)).trans (hb.block _ (by omega))
  unfold Boxed at hv bO
  rw [e1, bO] at hv
  cases hv
  simp [Value.ownBlock]
theorem fineE_old {W2 W3 X : World} {g : Nat} (bO : Boxed W3 W2.heap.size TEns (.slice none 0 0)) (hs : W3.heap.size = W2.heap.size + 1) (hg : g < W2.heap.size) (hb : Below W3.heap.size W3 X) (hsz : W3.heap.size + 2 ≤ X.heap.size) : FineE W3.heap.size W2.heap.size g X := by
  have h1 := hb.size
  refine ⟨by omega, by omega, by omega, by omega, fun v hv => ?_⟩
  have e1 : X.heap[W2.heap.size]? = W3.heap[W2.heap.size]? := hb.block _ (by omega)
  unfold Boxed at hv bO
  rw [e1, bO] at hv
  cases hv
  simp [Value.ownBlock]
end
end Go.Proofs.Ytoabigjajnikcaa.X
