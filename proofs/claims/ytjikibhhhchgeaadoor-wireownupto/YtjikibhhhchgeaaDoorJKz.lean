import Derived.Test.YtjikibhhhchgeaaDoorJK
namespace Go.Proofs.YtjikibhhhchgeaaDoor
open Go.RowKit
set_option linter.unusedVariables false
set_option linter.unusedSimpArgs false
set_option maxRecDepth 100000
theorem close3 {w Wx : World} {t : TypeId} {a0 a1 a2 : Value} {B e n : Nat} {v : Value} {xs : List Value} (hbox : Wx.heap[w.heap.size]? = some (.cells #[a0, a1, a2] t (0, 0))) (hbel : Below w.heap.size w Wx) (how : Wx.ownsRow B e 1 v n xs) (hB : w.heap.size < B) (v0 v1 v2 : Value) :
    ((((Wx.setCell ⟨w.heap.size, 0, none⟩ v0).setCell ⟨w.heap.size, 1, none⟩ v1).setCell ⟨w.heap.size, 2, none⟩ v2).drew).heap[w.heap.size]? = some (.cells #[v0, v1, v2] t (0, 0)) ∧ ((((Wx.setCell ⟨w.heap.size, 0, none⟩ v0).setCell ⟨w.heap.size, 1, none⟩ v1).setCell ⟨w.heap.size, 2, none⟩ v2).drew).ownsRow B e 1 v n xs ∧ Below w.heap.size w ((((Wx.setCell ⟨w.heap.size, 0, none⟩ v0).setCell ⟨w.heap.size, 1, none⟩ v1).setCell ⟨w.heap.size, 2, none⟩ v2).drew) := by
  have h0 := hbox
  have b0 := hbel
  have o0 := how
  have h1 : (Wx.setCell ⟨w.heap.size, 0, none⟩ v0).heap[w.heap.size]? = some (.cells #[v0, a1, a2] t (0, 0)) := put_box h0 0 v0 (by simp)
  have b1 : Below w.heap.size w (Wx.setCell ⟨w.heap.size, 0, none⟩ v0) := below_set b0 (Nat.le_refl _)
  have o1 : (Wx.setCell ⟨w.heap.size, 0, none⟩ v0).ownsRow B e 1 v n xs := owns_same o0 fun g hg => Below.heap_setCell _ _ _ _ (by have := (owns_lt o0 g hg).2; show g ≠ w.heap.size; omega)
  generalize (Wx.setCell ⟨w.heap.size, 0, none⟩ v0) = Y1 at h1 b1 o1 ⊢
  have h2 : (Y1.setCell ⟨w.heap.size, 1, none⟩ v1).heap[w.heap.size]? = some (.cells #[v0, v1, a2] t (0, 0)) := put_box h1 1 v1 (by simp)
  have b2 : Below w.heap.size w (Y1.setCell ⟨w.heap.size, 1, none⟩ v1) := below_set b1 (Nat.le_refl _)
  have o2 : (Y1.setCell ⟨w.heap.size, 1, none⟩ v1).ownsRow B e 1 v n xs := owns_same o1 fun g hg => Below.heap_setCell _ _ _ _ (by have := (owns_lt o1 g hg).2; show g ≠ w.heap.size; omega)
  generalize (Y1.setCell ⟨w.heap.size, 1, none⟩ v1) = Y2 at h2 b2 o2 ⊢
  have h3 : (Y2.setCell ⟨w.heap.size, 2, none⟩ v2).heap[w.heap.size]? = some (.cells #[v0, v1, v2] t (0, 0)) := put_box h2 2 v2 (by simp)
  have b3 : Below w.heap.size w (Y2.setCell ⟨w.heap.size, 2, none⟩ v2) := below_set b2 (Nat.le_refl _)
  have o3 : (Y2.setCell ⟨w.heap.size, 2, none⟩ v2).ownsRow B e 1 v n xs := owns_same o2 fun g hg => Below.heap_setCell _ _ _ _ (by have := (owns_lt o2 g hg).2; show g ≠ w.heap.size; omega)
  generalize (Y2.setCell ⟨w.heap.size, 2, none⟩ v2) = Y3 at h3 b3 o3 ⊢
  exact ⟨h3, owns_same o3 (fun _ _ => rfl), below_drew b3⟩
theorem close4 {w Wx : World} {t : TypeId} {a0 a1 a2 a3 : Value} {B e n : Nat} {v : Value} {xs : List Value} (hbox : Wx.heap[w.heap.size]? = some (.cells #[a0, a1, a2, a3] t (0, 0))) (hbel : Below w.heap.size w Wx) (how : Wx.ownsRow B e 1 v n xs) (hB : w.heap.size < B) (v0 v1 v2 v3 : Value) :
    (((((Wx.setCell ⟨w.heap.size, 0, none⟩ v0).setCell ⟨w.heap.size, 1, none⟩ v1).setCell ⟨w.heap.size, 2, none⟩ v2).setCell ⟨w.heap.size, 3, none⟩ v3).drew).heap[w.heap.size]? = some (.cells #[v0, v1, v2, v3] t (0, 0)) ∧ (((((Wx.setCell ⟨w.heap.size, 0, none⟩ v0).setCell ⟨w.heap.size, 1, none⟩ v1).setCell ⟨w.heap.size, 2, none⟩ v2).setCell ⟨w.heap.size, 3, none⟩ v3).drew).ownsRow B e 1 v n xs ∧ Below w.heap.size w (((((Wx.setCell ⟨w.heap.size, 0, none⟩ v0).setCell ⟨w.heap.size, 1, none⟩ v1).setCell ⟨w.heap.size, 2, none⟩ v2).setCell ⟨w.heap.size, 3, none⟩ v3).drew) := by
  have h0 := hbox
  have b0 := hbel
  have o0 := how
  have h1 : (Wx.setCell ⟨w.heap.size, 0, none⟩ v0).heap[w.heap.size]? = some (.cells #[v0, a1, a2, a3] t (0, 0)) := put_box h0 0 v0 (by simp)
  have b1 : Below w.heap.size w (Wx.setCell ⟨w.heap.size, 0, none⟩ v0) := below_set b0 (Nat.le_refl _)
  have o1 : (Wx.setCell ⟨w.heap.size, 0, none⟩ v0).ownsRow B e 1 v n xs := owns_same o0 fun g hg => Below.heap_setCell _ _ _ _ (by have := (owns_lt o0 g hg).2; show g ≠ w.heap.size; omega)
  generalize (Wx.setCell ⟨w.heap.size, 0, none⟩ v0) = Y1 at h1 b1 o1 ⊢
  have h2 : (Y1.setCell ⟨w.heap.size, 1, none⟩ v1).heap[w.heap.size]? = some (.cells #[v0, v1, a2, a3] t (0, 0)) := put_box h1 1 v1 (by simp)
  have b2 : Below w.heap.size w (Y1.setCell ⟨w.heap.size, 1, none⟩ v1) := below_set b1 (Nat.le_refl _)
  have o2 : (Y1.setCell ⟨w.heap.size, 1, none⟩ v1).ownsRow B e 1 v n xs := owns_same o1 fun g hg => Below.heap_setCell _ _ _ _ (by have := (owns_lt o1 g hg).2; show g ≠ w.heap.size; omega)
  generalize (Y1.setCell ⟨w.heap.size, 1, none⟩ v1) = Y2 at h2 b2 o2 ⊢
  have h3 : (Y2.setCell ⟨w.heap.size, 2, none⟩ v2).heap[w.heap.size]? = some (.cells #[v0, v1, v2, a3] t (0, 0)) := put_box h2 2 v2 (by simp)
  have b3 : Below w.heap.size w (Y2.setCell ⟨w.heap.size, 2, none⟩ v2) := below_set b2 (Nat.le_refl _)
  have o3 : (Y2.setCell ⟨w.heap.size, 2, none⟩ v2).ownsRow B e 1 v n xs := owns_same o2 fun g hg => Below.heap_setCell _ _ _ _ (by have := (owns_lt o2 g hg).2; show g ≠ w.heap.size; omega)
  generalize (Y2.setCell ⟨w.heap.size, 2, none⟩ v2) = Y3 at h3 b3 o3 ⊢
  have h4 : (Y3.setCell ⟨w.heap.size, 3, none⟩ v3).heap[w.heap.size]? = some (.cells #[v0, v1, v2, v3] t (0, 0)) := put_box h3 3 v3 (by simp)
  have b4 : Below w.heap.size w (Y3.setCell ⟨w.heap.size, 3, none⟩ v3) := below_set b3 (Nat.le_refl _)
  have o4 : (Y3.setCell ⟨w.heap.size, 3, none⟩ v3).ownsRow B e 1 v n xs := owns_same o3 fun g hg => Below.heap_setCell _ _ _ _ (by have := (owns_lt o3 g hg).2; show g ≠ w.heap.size; omega)
  generalize (Y3.setCell ⟨w.heap.size, 3, none⟩ v3) = Y4 at h4 b4 o4 ⊢
  exact ⟨h4, owns_same o4 (fun _ _ => rfl), below_drew b4⟩
theorem close5 {w Wx : World} {t : TypeId} {a0 a1 a2 a3 a4 : Value} {B e n : Nat} {v : Value} {xs : List Value} (hbox : Wx.heap[w.heap.size]? = some (.cells #[a0, a1, a2, a3, a4] t (0, 0))) (hbel : Below w.heap.size w Wx) (how : Wx.ownsRow B e 1 v n xs) (hB : w.heap.size < B) (v0 v1 v2 v3 v4 : Value) :
    ((((((Wx.setCell ⟨w.heap.size, 0, none⟩ v0).setCell ⟨w.heap.size, 1, none⟩ v1).setCell ⟨w.heap.size, 2, none⟩ v2).setCell ⟨w.heap.size, 3, none⟩ v3).setCell ⟨w.heap.size, 4, none⟩ v4).drew).heap[w.heap.size]? = some (.cells #[v0, v1, v2, v3, v4] t (0, 0)) ∧ ((((((Wx.setCell ⟨w.heap.size, 0, none⟩ v0).setCell ⟨w.heap.size, 1, none⟩ v1).setCell ⟨w.heap.size, 2, none⟩ v2).setCell ⟨w.heap.size, 3, none⟩ v3).setCell ⟨w.heap.size, 4, none⟩ v4).drew).ownsRow B e 1 v n xs ∧ Below w.heap.size w ((((((Wx.setCell ⟨w.heap.size, 0, none⟩ v0).setCell ⟨w.heap.size, 1, none⟩ v1).setCell ⟨w.heap.size, 2, none⟩ v2).setCell ⟨w.heap.size, 3, none⟩ v3).setCell ⟨w.heap.size, 4, none⟩ v4).drew) := by
  have h0 := hbox
  have b0 := hbel
  have o0 := how
  have h1 : (Wx.setCell ⟨w.heap.size, 0, none⟩ v0).heap[w.heap.size]? = some (.cells #[v0, a1, a2, a3, a4] t (0, 0)) := put_box h0 0 v0 (by simp)
  have b1 : Below w.heap.size w (Wx.setCell ⟨w.heap.size, 0, none⟩ v0) := below_set b0 (Nat.le_refl _)
  have o1 : (Wx.setCell ⟨w.heap.size, 0, none⟩ v0).ownsRow B e 1 v n xs := owns_same o0 fun g hg => Below.heap_setCell _ _ _ _ (by have := (owns_lt o0 g hg).2; show g ≠ w.heap.size; omega)
  generalize (Wx.setCell ⟨w.heap.size, 0, none⟩ v0) = Y1 at h1 b1 o1 ⊢
  have h2 : (Y1.setCell ⟨w.heap.size, 1, none⟩ v1).heap[w.heap.size]? = some (.cells #[v0, v1, a2, a3, a4] t (0, 0)) := put_box h1 1 v1 (by simp)
  have b2 : Below w.heap.size w (Y1.setCell ⟨w.heap.size, 1, none⟩ v1) := below_set b1 (Nat.le_refl _)
  have o2 : (Y1.setCell ⟨w.heap.size, 1, none⟩ v1).ownsRow B e 1 v n xs := owns_same o1 fun g hg => Below.heap_setCell _ _ _ _ (by have := (owns_lt o1 g hg).2; show g ≠ w.heap.size; omega)
  generalize (Y1.setCell ⟨w.heap.size, 1, none⟩ v1) = Y2 at h2 b2 o2 ⊢
  have h3 : (Y2.setCell ⟨w.heap.size, 2, none⟩ v2).heap[w.heap.size]? = some (.cells #[v0, v1, v2, a3, a4] t (0, 0)) := put_box h2 2 v2 (by simp)
  have b3 : Below w.heap.size w (Y2.setCell ⟨w.heap.size, 2, none⟩ v2) := below_set b2 (Nat.le_refl _)
  have o3 : (Y2.setCell ⟨w.heap.size, 2, none⟩ v2).ownsRow B e 1 v n xs := owns_same o2 fun g hg => Below.heap_setCell _ _ _ _ (by have := (owns_lt o2 g hg).2; show g ≠ w.heap.size; omega)
  generalize (Y2.setCell ⟨w.heap.size, 2, none⟩ v2) = Y3 at h3 b3 o3 ⊢
  have h4 : (Y3.setCell ⟨w.heap.size, 3, none⟩ v3).heap[w.heap.size]? = some (.cells #[v0, v1, v2, v3, a4] t (0, 0)) := put_box h3 3 v3 (by simp)
  have b4 : Below w.heap.size w (Y3.setCell ⟨w.heap.size, 3, none⟩ v3) := below_set b3 (Nat.le_refl _)
  have o4 : (Y3.setCell ⟨w.heap.size, 3, none⟩ v3).ownsRow B e 1 v n xs := owns_same o3 fun g hg => Below.heap_setCell _ _ _ _ (by have := (owns_lt o3 g hg).2; show g ≠ w.heap.size; omega)
  generalize (Y3.setCell ⟨w.heap.size, 3, none⟩ v3) = Y4 at h4 b4 o4 ⊢
  have h5 : (Y4.setCell ⟨w.heap.size, 4, none⟩ v4).heap[w.heap.size]? = some (.cells #[v0, v1, v2, v3, v4] t (0, 0)) := put_box h4 4 v4 (by simp)
  have b5 : Below w.heap.size w (Y4.setCell ⟨w.heap.size, 4, none⟩ v4) := below_set b4 (Nat.le_refl _)
  have o5 : (Y4.setCell ⟨w.heap.size, 4, none⟩ v4).ownsRow B e 1 v n xs := owns_same o4 fun g hg => Below.heap_setCell _ _ _ _ (by have := (owns_lt o4 g hg).2; show g ≠ w.heap.size; omega)
  generalize (Y4.setCell ⟨w.heap.size, 4, none⟩ v4) = Y5 at h5 b5 o5 ⊢
  exact ⟨h5, owns_same o5 (fun _ _ => rfl), below_drew b5⟩
theorem close6 {w Wx : World} {t : TypeId} {a0 a1 a2 a3 a4 a5 : Value} {B e n : Nat} {v : Value} {xs : List Value} (hbox : Wx.heap[w.heap.size]? = some (.cells #[a0, a1, a2, a3, a4, a5] t (0, 0))) (hbel : Below w.heap.size w Wx) (how : Wx.ownsRow B e 1 v n xs) (hB : w.heap.size < B) (v0 v1 v2 v3 v4 v5 : Value) :
    (((((((Wx.setCell ⟨w.heap.size, 0, none⟩ v0).setCell ⟨w.heap.size, 1, none⟩ v1).setCell ⟨w.heap.size, 2, none⟩ v2).setCell ⟨w.heap.size, 3, none⟩ v3).setCell ⟨w.heap.size, 4, none⟩ v4).setCell ⟨w.heap.size, 5, none⟩ v5).drew).heap[w.heap.size]? = some (.cells #[v0, v1, v2, v3, v4, v5] t (0, 0)) ∧ (((((((Wx.setCell ⟨w.heap.size, 0, none⟩ v0).setCell ⟨w.heap.size, 1, none⟩ v1).setCell ⟨w.heap.size, 2, none⟩ v2).setCell ⟨w.heap.size, 3, none⟩ v3).setCell ⟨w.heap.size, 4, none⟩ v4).setCell ⟨w.heap.size, 5, none⟩ v5).drew).ownsRow B e 1 v n xs ∧ Below w.heap.size w (((((((Wx.setCell ⟨w.heap.size, 0, none⟩ v0).setCell ⟨w.heap.size, 1, none⟩ v1).setCell ⟨w.heap.size, 2, none⟩ v2).setCell ⟨w.heap.size, 3, none⟩ v3).setCell ⟨w.heap.size, 4, none⟩ v4).setCell ⟨w.heap.size, 5, none⟩ v5).drew) := by
  have h0 := hbox
  have b0 := hbel
  have o0 := how
  have h1 : (Wx.setCell ⟨w.heap.size, 0, none⟩ v0).heap[w.heap.size]? = some (.cells #[v0, a1, a2, a3, a4, a5] t (0, 0)) := put_box h0 0 v0 (by simp)
  have b1 : Below w.heap.size w (Wx.setCell ⟨w.heap.size, 0, none⟩ v0) := below_set b0 (Nat.le_refl _)
  have o1 : (Wx.setCell ⟨w.heap.size, 0, none⟩ v0).ownsRow B e 1 v n xs := owns_same o0 fun g hg => Below.heap_setCell _ _ _ _ (by have := (owns_lt o0 g hg).2; show g ≠ w.heap.size; omega)
  generalize (Wx.setCell ⟨w.heap.size, 0, none⟩ v0) = Y1 at h1 b1 o1 ⊢
  have h2 : (Y1.setCell ⟨w.heap.size, 1, none⟩ v1).heap[w.heap.size]? = some (.cells #[v0, v1, a2, a3, a4, a5] t (0, 0)) := put_box h1 1 v1 (by simp)
  have b2 : Below w.heap.size w (Y1.setCell ⟨w.heap.size, 1, none⟩ v1) := below_set b1 (Nat.le_refl _)
  have o2 : (Y1.setCell ⟨w.heap.size, 1, none⟩ v1).ownsRow B e 1 v n xs := owns_same o1 fun g hg => Below.heap_setCell _ _ _ _ (by have := (owns_lt o1 g hg).2; show g ≠ w.heap.size; omega)
  generalize (Y1.setCell ⟨w.heap.size, 1, none⟩ v1) = Y2 at h2 b2 o2 ⊢
  have h3 : (Y2.setCell ⟨w.heap.size, 2, none⟩ v2).heap[w.heap.size]? = some (.cells #[v0, v1, v2, a3, a4, a5] t (0, 0)) := put_box h2 2 v2 (by simp)
  have b3 : Below w.heap.size w (Y2.setCell ⟨w.heap.size, 2, none⟩ v2) := below_set b2 (Nat.le_refl _)
  have o3 : (Y2.setCell ⟨w.heap.size, 2, none⟩ v2).ownsRow B e 1 v n xs := owns_same o2 fun g hg => Below.heap_setCell _ _ _ _ (by have := (owns_lt o2 g hg).2; show g ≠ w.heap.size; omega)
  generalize (Y2.setCell ⟨w.heap.size, 2, none⟩ v2) = Y3 at h3 b3 o3 ⊢
  have h4 : (Y3.setCell ⟨w.heap.size, 3, none⟩ v3).heap[w.heap.size]? = some (.cells #[v0, v1, v2, v3, a4, a5] t (0, 0)) := put_box h3 3 v3 (by simp)
  have b4 : Below w.heap.size w (Y3.setCell ⟨w.heap.size, 3, none⟩ v3) := below_set b3 (Nat.le_refl _)
  have o4 : (Y3.setCell ⟨w.heap.size, 3, none⟩ v3).ownsRow B e 1 v n xs := owns_same o3 fun g hg => Below.heap_setCell _ _ _ _ (by have := (owns_lt o3 g hg).2; show g ≠ w.heap.size; omega)
  generalize (Y3.setCell ⟨w.heap.size, 3, none⟩ v3) = Y4 at h4 b4 o4 ⊢
  have h5 : (Y4.setCell ⟨w.heap.size, 4, none⟩ v4).heap[w.heap.size]? = some (.cells #[v0, v1, v2, v3, v4, a5] t (0, 0)) := put_box h4 4 v4 (by simp)
  have b5 : Below w.heap.size w (Y4.setCell ⟨w.heap.size, 4, none⟩ v4) := below_set b4 (Nat.le_refl _)
  have o5 : (Y4.setCell ⟨w.heap.size, 4, none⟩ v4).ownsRow B e 1 v n xs := owns_same o4 fun g hg => Below.heap_setCell _ _ _ _ (by have := (owns_lt o4 g hg).2; show g ≠ w.heap.size; omega)
  generalize (Y4.setCell ⟨w.heap.size, 4, none⟩ v4) = Y5 at h5 b5 o5 ⊢
  have h6 : (Y5.setCell ⟨w.heap.size, 5, none⟩ v5).heap[w.heap.size]? = some (.cells #[v0, v1, v2, v3, v4, v5] t (0, 0)) := put_box h5 5 v5 (by simp)
  have b6 : Below w.heap.size w (Y5.setCell ⟨w.heap.size, 5, none⟩ v5) := below_set b5 (Nat.le_refl _)
  have o6 : (Y5.setCell ⟨w.heap.size, 5, none⟩ v5).ownsRow B e 1 v n xs := owns_same o5 fun g hg => Below.heap_setCell _ _ _ _ (by have := (owns_lt o5 g hg).2; show g ≠ w.heap.size; omega)
  generalize (Y5.setCell ⟨w.heap.size, 5, none⟩ v5) = Y6 at h6 b6 o6 ⊢
  exact ⟨h6, owns_same o6 (fun _ _ => rfl), below_drew b6⟩
end Go.Proofs.YtjikibhhhchgeaaDoor
