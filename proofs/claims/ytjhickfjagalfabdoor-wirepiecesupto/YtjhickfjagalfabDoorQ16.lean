import Derived.Test.YtjhickfjagalfabDoorQ11
import Derived.Test.YtjhickfjagalfabDoorQ15
import Derived.Test.YtjhickfjagalfabDoorQ13
namespace Go.Proofs.YtjhickfjagalfabDoor
open Go.RowKit
set_option linter.unusedVariables false
set_option linter.unusedSimpArgs false
set_option maxRecDepth 100000
/-- the box of the answer stands -/
structure Sb (w W : World) (o : Obj) : Prop where
  bel : Below w.heap.size w W
  b0 : W.heap[w.heap.size]? = some o
theorem Sb.next {w W W' : World} {o : Obj} (h : Sb w W o) (hb : Below W.heap.size W W') : Sb w W' o := ⟨h.bel.trans (hb.mono h.bel.size), (hb.block _ (block_lt h.b0)).trans h.b0⟩
theorem Sb.new (w : World) (cs : Array Value) (t : TypeId) : Sb w (w.alloc (.cells cs t)) (.cells cs t (0, 0)) := ⟨(Below.refl _ _).alloc (Nat.le_refl _) _, heap_new w _⟩
/-- and the box of what is read -/
structure Sx (w W : World) (o : Obj) (g : Nat) (cs : Array Value) (t : TypeId) : Prop where
  bel : Below w.heap.size w W
  b0 : W.heap[w.heap.size]? = some o
  b2 : W.heap[g]? = some (.cells cs t (0, 0))
  gl : w.heap.size < g
theorem Sx.next {w W W' : World} {o : Obj} {g : Nat} {cs : Array Value} {t : TypeId} (h : Sx w W o g cs t) (hb : Below W.heap.size W W') : Sx w W' o g cs t :=
  ⟨h.bel.trans (hb.mono h.bel.size), (hb.block _ (block_lt h.b0)).trans h.b0, (hb.block _ (block_lt h.b2)).trans h.b2, h.gl⟩
theorem Sb.box {w W : World} {o : Obj} (h : Sb w W o) (cs : Array Value) (t : TypeId) : Sx w (W.alloc (.cells cs t)) o W.heap.size cs t :=
  ⟨h.bel.alloc h.bel.size _, (Below.heap_alloc _ _ _ (block_lt h.b0)).trans h.b0, heap_new W _, block_lt h.b0⟩
theorem Sx.put {w W : World} {o : Obj} {g : Nat} {cs : Array Value} {t : TypeId} (h : Sx w W o g cs t) (j : Nat) (v : Value) {cs' : Array Value} (hcs : cs.setIfInBounds j v = cs') : Sx w (W.setCell ⟨g, j, none⟩ v) o g cs' t :=
  ⟨below_set h.bel (Nat.le_of_lt h.gl), (Below.heap_setCell _ _ _ _ (by have := h.gl; show w.heap.size ≠ g; omega)).trans h.b0, put_box h.b2 j v hcs, h.gl⟩
theorem Sx.sb {w W : World} {o : Obj} {g : Nat} {cs : Array Value} {t : TypeId} (h : Sx w W o g cs t) : Sb w W o := ⟨h.bel, h.b0⟩
theorem closenb1 {w Wx : World} {t : TypeId} {a0 : Value} (hbox : Wx.heap[w.heap.size]? = some (.cells #[a0] t (0, 0))) (hbel : Below w.heap.size w Wx) (v0 : Value) :
    ((Wx.setCell ⟨w.heap.size, 0, none⟩ v0)).heap[w.heap.size]? = some (.cells #[v0] t (0, 0)) ∧ Below w.heap.size w ((Wx.setCell ⟨w.heap.size, 0, none⟩ v0)) := by
  have h0 := hbox
  have b0 := hbel
  have h1 : (Wx.setCell ⟨w.heap.size, 0, none⟩ v0).heap[w.heap.size]? = some (.cells #[v0] t (0, 0)) := put_box h0 0 v0 (by simp)
  have b1 : Below w.heap.size w (Wx.setCell ⟨w.heap.size, 0, none⟩ v0) := below_set b0 (Nat.le_refl _)
  generalize (Wx.setCell ⟨w.heap.size, 0, none⟩ v0) = Y1 at h1 b1  ⊢
  exact ⟨h1, b1⟩
theorem closenb2 {w Wx : World} {t : TypeId} {a0 a1 : Value} (hbox : Wx.heap[w.heap.size]? = some (.cells #[a0, a1] t (0, 0))) (hbel : Below w.heap.size w Wx) (v0 v1 : Value) :
    (((Wx.setCell ⟨w.heap.size, 0, none⟩ v0).setCell ⟨w.heap.size, 1, none⟩ v1)).heap[w.heap.size]? = some (.cells #[v0, v1] t (0, 0)) ∧ Below w.heap.size w (((Wx.setCell ⟨w.heap.size, 0, none⟩ v0).setCell ⟨w.heap.size, 1, none⟩ v1)) := by
  have h0 := hbox
  have b0 := hbel
  have h1 : (Wx.setCell ⟨w.heap.size, 0, none⟩ v0).heap[w.heap.size]? = some (.cells #[v0, a1] t (0, 0)) := put_box h0 0 v0 (by simp)
  have b1 : Below w.heap.size w (Wx.setCell ⟨w.heap.size, 0, none⟩ v0) := below_set b0 (Nat.le_refl _)
  generalize (Wx.setCell ⟨w.heap.size, 0, none⟩ v0) = Y1 at h1 b1  ⊢
  have h2 : (Y1.setCell ⟨w.heap.size, 1, none⟩ v1).heap[w.heap.size]? = some (.cells #[v0, v1] t (0, 0)) := put_box h1 1 v1 (by simp)
  have b2 : Below w.heap.size w (Y1.setCell ⟨w.heap.size, 1, none⟩ v1) := below_set b1 (Nat.le_refl _)
  generalize (Y1.setCell ⟨w.heap.size, 1, none⟩ v1) = Y2 at h2 b2  ⊢
  exact ⟨h2, b2⟩
theorem closenb3 {w Wx : World} {t : TypeId} {a0 a1 a2 : Value} (hbox : Wx.heap[w.heap.size]? = some (.cells #[a0, a1, a2] t (0, 0))) (hbel : Below w.heap.size w Wx) (v0 v1 v2 : Value) :
    ((((Wx.setCell ⟨w.heap.size, 0, none⟩ v0).setCell ⟨w.heap.size, 1, none⟩ v1).setCell ⟨w.heap.size, 2, none⟩ v2)).heap[w.heap.size]? = some (.cells #[v0, v1, v2] t (0, 0)) ∧ Below w.heap.size w ((((Wx.setCell ⟨w.heap.size, 0, none⟩ v0).setCell ⟨w.heap.size, 1, none⟩ v1).setCell ⟨w.heap.size, 2, none⟩ v2)) := by
  have h0 := hbox
  have b0 := hbel
  have h1 : (Wx.setCell ⟨w.heap.size, 0, none⟩ v0).heap[w.heap.size]? = some (.cells #[v0, a1, a2] t (0, 0)) := put_box h0 0 v0 (by simp)
  have b1 : Below w.heap.size w (Wx.setCell ⟨w.heap.size, 0, none⟩ v0) := below_set b0 (Nat.le_refl _)
  generalize (Wx.setCell ⟨w.heap.size, 0, none⟩ v0) = Y1 at h1 b1  ⊢
  have h2 : (Y1.setCell ⟨w.heap.size, 1, none⟩ v1).heap[w.heap.size]? = some (.cells #[v0, v1, a2] t (0, 0)) := put_box h1 1 v1 (by simp)
  have b2 : Below w.heap.size w (Y1.setCell ⟨w.heap.size, 1, none⟩ v1) := below_set b1 (Nat.le_refl _)
  generalize (Y1.setCell ⟨w.heap.size, 1, none⟩ v1) = Y2 at h2 b2  ⊢
  have h3 : (Y2.setCell ⟨w.heap.size, 2, none⟩ v2).heap[w.heap.size]? = some (.cells #[v0, v1, v2] t (0, 0)) := put_box h2 2 v2 (by simp)
  have b3 : Below w.heap.size w (Y2.setCell ⟨w.heap.size, 2, none⟩ v2) := below_set b2 (Nat.le_refl _)
  generalize (Y2.setCell ⟨w.heap.size, 2, none⟩ v2) = Y3 at h3 b3  ⊢
  exact ⟨h3, b3⟩
theorem closenb4 {w Wx : World} {t : TypeId} {a0 a1 a2 a3 : Value} (hbox : Wx.heap[w.heap.size]? = some (.cells #[a0, a1, a2, a3] t (0, 0))) (hbel : Below w.heap.size w Wx) (v0 v1 v2 v3 : Value) :
    (((((Wx.setCell ⟨w.heap.size, 0, none⟩ v0).setCell ⟨w.heap.size, 1, none⟩ v1).setCell ⟨w.heap.size, 2, none⟩ v2).setCell ⟨w.heap.size, 3, none⟩ v3)).heap[w.heap.size]? = some (.cells #[v0, v1, v2, v3] t (0, 0)) ∧ Below w.heap.size w (((((Wx.setCell ⟨w.heap.size, 0, none⟩ v0).setCell ⟨w.heap.size, 1, none⟩ v1).setCell ⟨w.heap.size, 2, none⟩ v2).setCell ⟨w.heap.size, 3, none⟩ v3)) := by
  have h0 := hbox
  have b0 := hbel
  have h1 : (Wx.setCell ⟨w.heap.size, 0, none⟩ v0).heap[w.heap.size]? = some (.cells #[v0, a1, a2, a3] t (0, 0)) := put_box h0 0 v0 (by simp)
  have b1 : Below w.heap.size w (Wx.setCell ⟨w.heap.size, 0, none⟩ v0) := below_set b0 (Nat.le_refl _)
  generalize (Wx.setCell ⟨w.heap.size, 0, none⟩ v0) = Y1 at h1 b1  ⊢
  have h2 : (Y1.setCell ⟨w.heap.size, 1, none⟩ v1).heap[w.heap.size]? = some (.cells #[v0, v1, a2, a3] t (0, 0)) := put_box h1 1 v1 (by simp)
  have b2 : Below w.heap.size w (Y1.setCell ⟨w.heap.size, 1, none⟩ v1) := below_set b1 (Nat.le_refl _)
  generalize (Y1.setCell ⟨w.heap.size, 1, none⟩ v1) = Y2 at h2 b2  ⊢
  have h3 : (Y2.setCell ⟨w.heap.size, 2, none⟩ v2).heap[w.heap.size]? = some (.cells #[v0, v1, v2, a3] t (0, 0)) := put_box h2 2 v2 (by simp)
  have b3 : Below w.heap.size w (Y2.setCell ⟨w.heap.size, 2, none⟩ v2) := below_set b2 (Nat.le_refl _)
  generalize (Y2.setCell ⟨w.heap.size, 2, none⟩ v2) = Y3 at h3 b3  ⊢
  have h4 : (Y3.setCell ⟨w.heap.size, 3, none⟩ v3).heap[w.heap.size]? = some (.cells #[v0, v1, v2, v3] t (0, 0)) := put_box h3 3 v3 (by simp)
  have b4 : Below w.heap.size w (Y3.setCell ⟨w.heap.size, 3, none⟩ v3) := below_set b3 (Nat.le_refl _)
  generalize (Y3.setCell ⟨w.heap.size, 3, none⟩ v3) = Y4 at h4 b4  ⊢
  exact ⟨h4, b4⟩
theorem closenb5 {w Wx : World} {t : TypeId} {a0 a1 a2 a3 a4 : Value} (hbox : Wx.heap[w.heap.size]? = some (.cells #[a0, a1, a2, a3, a4] t (0, 0))) (hbel : Below w.heap.size w Wx) (v0 v1 v2 v3 v4 : Value) :
    ((((((Wx.setCell ⟨w.heap.size, 0, none⟩ v0).setCell ⟨w.heap.size, 1, none⟩ v1).setCell ⟨w.heap.size, 2, none⟩ v2).setCell ⟨w.heap.size, 3, none⟩ v3).setCell ⟨w.heap.size, 4, none⟩ v4)).heap[w.heap.size]? = some (.cells #[v0, v1, v2, v3, v4] t (0, 0)) ∧ Below w.heap.size w ((((((Wx.setCell ⟨w.heap.size, 0, none⟩ v0).setCell ⟨w.heap.size, 1, none⟩ v1).setCell ⟨w.heap.size, 2, none⟩ v2).setCell ⟨w.heap.size, 3, none⟩ v3).setCell ⟨w.heap.size, 4, none⟩ v4)) := by
  have h0 := hbox
  have b0 := hbel
  have h1 : (Wx.setCell ⟨w.heap.size, 0, none⟩ v0).heap[w.heap.size]? = some (.cells #[v0, a1, a2, a3, a4] t (0, 0)) := put_box h0 0 v0 (by simp)
  have b1 : Below w.heap.size w (Wx.setCell ⟨w.heap.size, 0, none⟩ v0) := below_set b0 (Nat.le_refl _)
  generalize (Wx.setCell ⟨w.heap.size, 0, none⟩ v0) = Y1 at h1 b1  ⊢
  have h2 : (Y1.setCell ⟨w.heap.size, 1, none⟩ v1).heap[w.heap.size]? = some (.cells #[v0, v1, a2, a3, a4] t (0, 0)) := put_box h1 1 v1 (by simp)
  have b2 : Below w.heap.size w (Y1.setCell ⟨w.heap.size, 1, none⟩ v1) := below_set b1 (Nat.le_refl _)
  generalize (Y1.setCell ⟨w.heap.size, 1, none⟩ v1) = Y2 at h2 b2  ⊢
  have h3 : (Y2.setCell ⟨w.heap.size, 2, none⟩ v2).heap[w.heap.size]? = some (.cells #[v0, v1, v2, a3, a4] t (0, 0)) := put_box h2 2 v2 (by simp)
  have b3 : Below w.heap.size w (Y2.setCell ⟨w.heap.size, 2, none⟩ v2) := below_set b2 (Nat.le_refl _)
  generalize (Y2.setCell ⟨w.heap.size, 2, none⟩ v2) = Y3 at h3 b3  ⊢
  have h4 : (Y3.setCell ⟨w.heap.size, 3, none⟩ v3).heap[w.heap.size]? = some (.cells #[v0, v1, v2, v3, a4] t (0, 0)) := put_box h3 3 v3 (by simp)
  have b4 : Below w.heap.size w (Y3.setCell ⟨w.heap.size, 3, none⟩ v3) := below_set b3 (Nat.le_refl _)
  generalize (Y3.setCell ⟨w.heap.size, 3, none⟩ v3) = Y4 at h4 b4  ⊢
  have h5 : (Y4.setCell ⟨w.heap.size, 4, none⟩ v4).heap[w.heap.size]? = some (.cells #[v0, v1, v2, v3, v4] t (0, 0)) := put_box h4 4 v4 (by simp)
  have b5 : Below w.heap.size w (Y4.setCell ⟨w.heap.size, 4, none⟩ v4) := below_set b4 (Nat.le_refl _)
  generalize (Y4.setCell ⟨w.heap.size, 4, none⟩ v4) = Y5 at h5 b5  ⊢
  exact ⟨h5, b5⟩
theorem closenb6 {w Wx : World} {t : TypeId} {a0 a1 a2 a3 a4 a5 : Value} (hbox : Wx.heap[w.heap.size]? = some (.cells #[a0, a1, a2, a3, a4, a5] t (0, 0))) (hbel : Below w.heap.size w Wx) (v0 v1 v2 v3 v4 v5 : Value) :
    (((((((Wx.setCell ⟨w.heap.size, 0, none⟩ v0).setCell ⟨w.heap.size, 1, none⟩ v1).setCell ⟨w.heap.size, 2, none⟩ v2).setCell ⟨w.heap.size, 3, none⟩ v3).setCell ⟨w.heap.size, 4, none⟩ v4).setCell ⟨w.heap.size, 5, none⟩ v5)).heap[w.heap.size]? = some (.cells #[v0, v1, v2, v3, v4, v5] t (0, 0)) ∧ Below w.heap.size w (((((((Wx.setCell ⟨w.heap.size, 0, none⟩ v0).setCell ⟨w.heap.size, 1, none⟩ v1).setCell ⟨w.heap.size, 2, none⟩ v2).setCell ⟨w.heap.size, 3, none⟩ v3).setCell ⟨w.heap.size, 4, none⟩ v4).setCell ⟨w.heap.size, 5, none⟩ v5)) := by
  have h0 := hbox
  have b0 := hbel
  have h1 : (Wx.setCell ⟨w.heap.size, 0, none⟩ v0).heap[w.heap.size]? = some (.cells #[v0, a1, a2, a3, a4, a5] t (0, 0)) := put_box h0 0 v0 (by simp)
  have b1 : Below w.heap.size w (Wx.setCell ⟨w.heap.size, 0, none⟩ v0) := below_set b0 (Nat.le_refl _)
  generalize (Wx.setCell ⟨w.heap.size, 0, none⟩ v0) = Y1 at h1 b1  ⊢
  have h2 : (Y1.setCell ⟨w.heap.size, 1, none⟩ v1).heap[w.heap.size]? = some (.cells #[v0, v1, a2, a3, a4, a5] t (0, 0)) := put_box h1 1 v1 (by simp)
  have b2 : Below w.heap.size w (Y1.setCell ⟨w.heap.size, 1, none⟩ v1) := below_set b1 (Nat.le_refl _)
  generalize (Y1.setCell ⟨w.heap.size, 1, none⟩ v1) = Y2 at h2 b2  ⊢
  have h3 : (Y2.setCell ⟨w.heap.size, 2, none⟩ v2).heap[w.heap.size]? = some (.cells #[v0, v1, v2, a3, a4, a5] t (0, 0)) := put_box h2 2 v2 (by simp)
  have b3 : Below w.heap.size w (Y2.setCell ⟨w.heap.size, 2, none⟩ v2) := below_set b2 (Nat.le_refl _)
  generalize (Y2.setCell ⟨w.heap.size, 2, none⟩ v2) = Y3 at h3 b3  ⊢
  have h4 : (Y3.setCell ⟨w.heap.size, 3, none⟩ v3).heap[w.heap.size]? = some (.cells #[v0, v1, v2, v3, a4, a5] t (0, 0)) := put_box h3 3 v3 (by simp)
  have b4 : Below w.heap.size w (Y3.setCell ⟨w.heap.size, 3, none⟩ v3) := below_set b3 (Nat.le_refl _)
  generalize (Y3.setCell ⟨w.heap.size, 3, none⟩ v3) = Y4 at h4 b4  ⊢
  have h5 : (Y4.setCell ⟨w.heap.size, 4, none⟩ v4).heap[w.heap.size]? = some (.cells #[v0, v1, v2, v3, v4, a5] t (0, 0)) := put_box h4 4 v4 (by simp)
  have b5 : Below w.heap.size w (Y4.setCell ⟨w.heap.size, 4, none⟩ v4) := below_set b4 (Nat.le_refl _)
  generalize (Y4.setCell ⟨w.heap.size, 4, none⟩ v4) = Y5 at h5 b5  ⊢
  have h6 : (Y5.setCell ⟨w.heap.size, 5, none⟩ v5).heap[w.heap.size]? = some (.cells #[v0, v1, v2, v3, v4, v5] t (0, 0)) := put_box h5 5 v5 (by simp)
  have b6 : Below w.heap.size w (Y5.setCell ⟨w.heap.size, 5, none⟩ v5) := below_set b5 (Nat.le_refl _)
  generalize (Y5.setCell ⟨w.heap.size, 5, none⟩ v5) = Y6 at h6 b6  ⊢
  exact ⟨h6, b6⟩
theorem closen3 {w Wx : World} {t : TypeId} {a0 a1 a2 : Value} {B e n : Nat} {v : Value} {xs : List Value} (hbox : Wx.heap[w.heap.size]? = some (.cells #[a0, a1, a2] t (0, 0))) (hbel : Below w.heap.size w Wx) (how : Wx.ownsRow B e 1 v n xs) (hB : w.heap.size < B) (v0 v1 v2 : Value) :
    ((((Wx.setCell ⟨w.heap.size, 0, none⟩ v0).setCell ⟨w.heap.size, 1, none⟩ v1).setCell ⟨w.heap.size, 2, none⟩ v2)).heap[w.heap.size]? = some (.cells #[v0, v1, v2] t (0, 0)) ∧ Below w.heap.size w ((((Wx.setCell ⟨w.heap.size, 0, none⟩ v0).setCell ⟨w.heap.size, 1, none⟩ v1).setCell ⟨w.heap.size, 2, none⟩ v2)) ∧ ((((Wx.setCell ⟨w.heap.size, 0, none⟩ v0).setCell ⟨w.heap.size, 1, none⟩ v1).setCell ⟨w.heap.size, 2, none⟩ v2)).ownsRow B e 1 v n xs := by
  have h0 := hbox
  have b0 := hbel
  have o0 := how
  have h1 : (Wx.setCell ⟨w.heap.size, 0, none⟩ v0).heap[w.heap.size]? = some (.cells #[v0, a1, a2] t (0, 0)) := put_box h0 0 v0 (by simp)
  have b1 : Below w.heap.size w (Wx.setCell ⟨w.heap.size, 0, none⟩ v0) := below_set b0 (Nat.le_refl _)
  have o1 : (Wx.setCell ⟨w.heap.size, 0, none⟩ v0).ownsRow B e 1 v n xs := owns_same o0 fun g hg => Below.heap_setCell _ _ _ _ (by have := (owns_lt o0 g hg).2; show g ≠ w.heap.size; omega)
  generalize (Wx.setCell ⟨w.heap.size, 0, none⟩ v0) = Y1 at h1 b1 o1 ⊢
  have h2 : (Y1.setCell ⟨w.heap.size, 1, none⟩ v1).heap[w.heap.size]? = some (.cells #[v0, v1, a2] t (0, 0)) := put_box h1 1 v1 (by simp)
  have b2 : Below w.heap.size w (Y1.setCell ⟨w.heap.size, 1, none⟩ v1) := below_set b1 (Nat.le_refl _)
  have o2 : (Y1.setCell ⟨w.heap.size, 1, none⟩ v1).ownsRow B e 1 v n xs := owns_same o1 fun g hg => Below.heap_setCell _ _ _ _ (by have := (owns_lt o1 g hg).2; show g ≠ w.heap.size; omega)
  generalize (Y1.setCell ⟨w.heap.size, 1, none⟩ v1) = Y2 at h2 b2 o2 ⊢
  have h3 : (Y2.setCell ⟨w.heap.size, 2, none⟩ v2).heap[w.heap.size]? = some (.cells #[v0, v1, v2] t (0, 0)) := put_box h2 2 v2 (by simp)
  have b3 : Below w.heap.size w (Y2.setCell ⟨w.heap.size, 2, none⟩ v2) := below_set b2 (Nat.le_refl _)
  have o3 : (Y2.setCell ⟨w.heap.size, 2, none⟩ v2).ownsRow B e 1 v n xs := owns_same o2 fun g hg => Below.heap_setCell _ _ _ _ (by have := (owns_lt o2 g hg).2; show g ≠ w.heap.size; omega)
  generalize (Y2.setCell ⟨w.heap.size, 2, none⟩ v2) = Y3 at h3 b3 o3 ⊢
  exact ⟨h3, b3, o3⟩
theorem closen4 {w Wx : World} {t : TypeId} {a0 a1 a2 a3 : Value} {B e n : Nat} {v : Value} {xs : List Value} (hbox : Wx.heap[w.heap.size]? = some (.cells #[a0, a1, a2, a3] t (0, 0))) (hbel : Below w.heap.size w Wx) (how : Wx.ownsRow B e 1 v n xs) (hB : w.heap.size < B) (v0 v1 v2 v3 : Value) :
    (((((Wx.setCell ⟨w.heap.size, 0, none⟩ v0).setCell ⟨w.heap.size, 1, none⟩ v1).setCell ⟨w.heap.size, 2, none⟩ v2).setCell ⟨w.heap.size, 3, none⟩ v3)).heap[w.heap.size]? = some (.cells #[v0, v1, v2, v3] t (0, 0)) ∧ Below w.heap.size w (((((Wx.setCell ⟨w.heap.size, 0, none⟩ v0).setCell ⟨w.heap.size, 1, none⟩ v1).setCell ⟨w.heap.size, 2, none⟩ v2).setCell ⟨w.heap.size, 3, none⟩ v3)) ∧ (((((Wx.setCell ⟨w.heap.size, 0, none⟩ v0).setCell ⟨w.heap.size, 1, none⟩ v1).setCell ⟨w.heap.size, 2, none⟩ v2).setCell ⟨w.heap.size, 3, none⟩ v3)).ownsRow B e 1 v n xs := by
  have h0 := hbox
  have b0 := hbel
  have o0 := how
  have h1 : (Wx.setCell ⟨w.heap.size, 0, none⟩ v0).heap[w.heap.size]? = some (.cells #[v0, a1, a2, a3] t (0, 0)) := put_box h0 0 v0 (by simp)
  have b1 : Below w.heap.size w (Wx.setCell ⟨w.heap.size, 0, none⟩ v0) := below_set b0 (Nat.le_refl _)
  have o1 : (Wx.setCell ⟨w.heap.size, 0, none⟩ v0).ownsRow B e 1 v n xs := owns_same o0 fun g hg => Below.heap_setCell _ _ _ _ (by have := (owns_lt o0 g hg).2; show g ≠ w.heap.size; omega)
  generalize (Wx.setCell ⟨w.heap.size, 0, none⟩ v0) = Y1 at h1 b1 o1 ⊢
  have h2 : (Y1.setCell ⟨w.heap.size, 1, none⟩ v1).heap[w.heap.size]? = some (.cells #[v0, v1, a2, a3] t (0, 0)) := put_box h1 1 v1 (by simp)
  have b2 : Below w.heap.size w (Y1.setCell ⟨w.heap.size, 1, none⟩ v1) := below_set b1 (Nat.le_refl _)
  have o2 : (Y1.setCell ⟨w.heap.size, 1, none⟩ v1).ownsRow B e 1 v n xs := owns_same o1 fun g hg => Below.heap_setCell _ _ _ _ (by have := (owns_lt o1 g hg).2; show g ≠ w.heap.size; omega)
  generalize (Y1.setCell ⟨w.heap.size, 1, none⟩ v1) = Y2 at h2 b2 o2 ⊢
  have h3 : (Y2.setCell ⟨w.heap.size, 2, none⟩ v2).heap[w.heap.size]? = some (.cells #[v0, v1, v2, a3] t (0, 0)) := put_box h2 2 v2 (by simp)
  have b3 : Below w.heap.size w (Y2.setCell ⟨w.heap.size, 2, none⟩ v2) := below_set b2 (Nat.le_refl _)
  have o3 : (Y2.setCell ⟨w.heap.size, 2, none⟩ v2).ownsRow B e 1 v n xs := owns_same o2 fun g hg => Below.heap_setCell _ _ _ _ (by have := (owns_lt o2 g hg).2; show g ≠ w.heap.size; omega)
  generalize (Y2.setCell ⟨w.heap.size, 2, none⟩ v2) = Y3 at h3 b3 o3 ⊢
  have h4 : (Y3.setCell ⟨w.heap.size, 3, none⟩ v3).heap[w.heap.size]? = some (.cells #[v0, v1, v2, v3] t (0, 0)) := put_box h3 3 v3 (by simp)
  have b4 : Below w.heap.size w (Y3.setCell ⟨w.heap.size, 3, none⟩ v3) := below_set b3 (Nat.le_refl _)
  have o4 : (Y3.setCell ⟨w.heap.size, 3, none⟩ v3).ownsRow B e 1 v n xs := owns_same o3 fun g hg => Below.heap_setCell _ _ _ _ (by have := (owns_lt o3 g hg).2; show g ≠ w.heap.size; omega)
  generalize (Y3.setCell ⟨w.heap.size, 3, none⟩ v3) = Y4 at h4 b4 o4 ⊢
  exact ⟨h4, b4, o4⟩
theorem closen5 {w Wx : World} {t : TypeId} {a0 a1 a2 a3 a4 : Value} {B e n : Nat} {v : Value} {xs : List Value} (hbox : Wx.heap[w.heap.size]? = some (.cells #[a0, a1, a2, a3, a4] t (0, 0))) (hbel : Below w.heap.size w Wx) (how : Wx.ownsRow B e 1 v n xs) (hB : w.heap.size < B) (v0 v1 v2 v3 v4 : Value) :
    ((((((Wx.setCell ⟨w.heap.size, 0, none⟩ v0).setCell ⟨w.heap.size, 1, none⟩ v1).setCell ⟨w.heap.size, 2, none⟩ v2).setCell ⟨w.heap.size, 3, none⟩ v3).setCell ⟨w.heap.size, 4, none⟩ v4)).heap[w.heap.size]? = some (.cells #[v0, v1, v2, v3, v4] t (0, 0)) ∧ Below w.heap.size w ((((((Wx.setCell ⟨w.heap.size, 0, none⟩ v0).setCell ⟨w.heap.size, 1, none⟩ v1).setCell ⟨w.heap.size, 2, none⟩ v2).setCell ⟨w.heap.size, 3, none⟩ v3).setCell ⟨w.heap.size, 4, none⟩ v4)) ∧ ((((((Wx.setCell ⟨w.heap.size, 0, none⟩ v0).setCell ⟨w.heap.size, 1, none⟩ v1).setCell ⟨w.heap.size, 2, none⟩ v2).setCell ⟨w.heap.size, 3, none⟩ v3).setCell ⟨w.heap.size, 4, none⟩ v4)).ownsRow B e 1 v n xs := by
  have h0 := hbox
  have b0 := hbel
  have o0 := how
  have h1 : (Wx.setCell ⟨w.heap.size, 0, none⟩ v0).heap[w.heap.size]? = some (.cells #[v0, a1, a2, a3, a4] t (0, 0)) := put_box h0 0 v0 (by simp)
  have b1 : Below w.heap.size w (Wx.setCell ⟨w.heap.size, 0, none⟩ v0) := below_set b0 (Nat.le_refl _)
  have o1 : (Wx.setCell ⟨w.heap.size, 0, none⟩ v0).ownsRow B e 1 v n xs := owns_same o0 fun g hg => Below.heap_setCell _ _ _ _ (by have := (owns_lt o0 g hg).2; show g ≠ w.heap.size; omega)
  generalize (Wx.setCell ⟨w.heap.size, 0, none⟩ v0) = Y1 at h1 b1 o1 ⊢
  have h2 : (Y1.setCell ⟨w.heap.size, 1, none⟩ v1).heap[w.heap.size]? = some (.cells #[v0, v1, a2, a3, a4] t (0, 0)) := put_box h1 1 v1 (by simp)
  have b2 : Below w.heap.size w (Y1.setCell ⟨w.heap.size, 1, none⟩ v1) := below_set b1 (Nat.le_refl _)
  have o2 : (Y1.setCell ⟨w.heap.size, 1, none⟩ v1).ownsRow B e 1 v n xs := owns_same o1 fun g hg => Below.heap_setCell _ _ _ _ (by have := (owns_lt o1 g hg).2; show g ≠ w.heap.size; omega)
  generalize (Y1.setCell ⟨w.heap.size, 1, none⟩ v1) = Y2 at h2 b2 o2 ⊢
  have h3 : (Y2.setCell ⟨w.heap.size, 2, none⟩ v2).heap[w.heap.size]? = some (.cells #[v0, v1, v2, a3, a4] t (0, 0)) := put_box h2 2 v2 (by simp)
  have b3 : Below w.heap.size w (Y2.setCell ⟨w.heap.size, 2, none⟩ v2) := below_set b2 (Nat.le_refl _)
  have o3 : (Y2.setCell ⟨w.heap.size, 2, none⟩ v2).ownsRow B e 1 v n xs := owns_same o2 fun g hg => Below.heap_setCell _ _ _ _ (by have := (owns_lt o2 g hg).2; show g ≠ w.heap.size; omega)
  generalize (Y2.setCell ⟨w.heap.size, 2, none⟩ v2) = Y3 at h3 b3 o3 ⊢
  have h4 : (Y3.setCell ⟨w.heap.size, 3, none⟩ v3).heap[w.heap.size]? = some (.cells #[v0, v1, v2, v3, a4] t (0, 0)) := put_box h3 3 v3 (by simp)
  have b4 : Below w.heap.size w (Y3.setCell ⟨w.heap.size, 3, none⟩ v3) := below_set b3 (Nat.le_refl _)
  have o4 : (Y3.setCell ⟨w.heap.size, 3, none⟩ v3).ownsRow B e 1 v n xs := owns_same o3 fun g hg => Below.heap_setCell _ _ _ _ (by have := (owns_lt o3 g hg).2; show g ≠ w.heap.size; omega)
  generalize (Y3.setCell ⟨w.heap.size, 3, none⟩ v3) = Y4 at h4 b4 o4 ⊢
  have h5 : (Y4.setCell ⟨w.heap.size, 4, none⟩ v4).heap[w.heap.size]? = some (.cells #[v0, v1, v2, v3, v4] t (0, 0)) := put_box h4 4 v4 (by simp)
  have b5 : Below w.heap.size w (Y4.setCell ⟨w.heap.size, 4, none⟩ v4) := below_set b4 (Nat.le_refl _)
  have o5 : (Y4.setCell ⟨w.heap.size, 4, none⟩ v4).ownsRow B e 1 v n xs := owns_same o4 fun g hg => Below.heap_setCell _ _ _ _ (by have := (owns_lt o4 g hg).2; show g ≠ w.heap.size; omega)
  generalize (Y4.setCell ⟨w.heap.size, 4, none⟩ v4) = Y5 at h5 b5 o5 ⊢
  exact ⟨h5, b5, o5⟩
theorem closen6 {w Wx : World} {t : TypeId} {a0 a1 a2 a3 a4 a5 : Value} {B e n : Nat} {v : Value} {xs : List Value} (hbox : Wx.heap[w.heap.size]? = some (.cells #[a0, a1, a2, a3, a4, a5] t (0, 0))) (hbel : Below w.heap.size w Wx) (how : Wx.ownsRow B e 1 v n xs) (hB : w.heap.size < B) (v0 v1 v2 v3 v4 v5 : Value) :
    (((((((Wx.setCell ⟨w.heap.size, 0, none⟩ v0).setCell ⟨w.heap.size, 1, none⟩ v1).setCell ⟨w.heap.size, 2, none⟩ v2).setCell ⟨w.heap.size, 3, none⟩ v3).setCell ⟨w.heap.size, 4, none⟩ v4).setCell ⟨w.heap.size, 5, none⟩ v5)).heap[w.heap.size]? = some (.cells #[v0, v1, v2, v3, v4, v5] t (0, 0)) ∧ Below w.heap.size w (((((((Wx.setCell ⟨w.heap.size, 0, none⟩ v0).setCell ⟨w.heap.size, 1, none⟩ v1).setCell ⟨w.heap.size, 2, none⟩ v2).setCell ⟨w.heap.size, 3, none⟩ v3).setCell ⟨w.heap.size, 4, none⟩ v4).setCell ⟨w.heap.size, 5, none⟩ v5)) ∧ (((((((Wx.setCell ⟨w.heap.size, 0, none⟩ v0).setCell ⟨w.heap.size, 1, none⟩ v1).setCell ⟨w.heap.size, 2, none⟩ v2).setCell ⟨w.heap.size, 3, none⟩ v3).setCell ⟨w.heap.size, 4, none⟩ v4).setCell ⟨w.heap.size, 5, none⟩ v5)).ownsRow B e 1 v n xs := by
  have h0 := hbox
  have b0 := hbel
  have o0 := how
  have h1 : (Wx.setCell ⟨w.heap.size, 0, none⟩ v0).heap[w.heap.size]? = some (.cells #[v0, a1, a2, a3, a4, a5] t (0, 0)) := put_box h0 0 v0 (by simp)
  have b1 : Below w.heap.size w (Wx.setCell ⟨w.heap.size, 0, none⟩ v0) := below_set b0 (Nat.le_refl _)
  have o1 : (Wx.setCell ⟨w.heap.size, 0, none⟩ v0).ownsRow B e 1 v n xs := owns_same o0 fun g hg => Below.heap_setCell _ _ _ _ (by have := (owns_lt o0 g hg).2; show g ≠ w.heap.size; omega)
  generalize (Wx.setCell ⟨w.heap.size, 0, none⟩ v0) = Y1 at h1 b1 o1 ⊢
  have h2 : (Y1.setCell ⟨w.heap.size, 1, none⟩ v1).heap[w.heap.size]? = some (.cells #[v0, v1, a2, a3, a4, a5] t (0, 0)) := put_box h1 1 v1 (by simp)
  have b2 : Below w.heap.size w (Y1.setCell ⟨w.heap.size, 1, none⟩ v1) := below_set b1 (Nat.le_refl _)
  have o2 : (Y1.setCell ⟨w.heap.size, 1, none⟩ v1).ownsRow B e 1 v n xs := owns_same o1 fun g hg => Below.heap_setCell _ _ _ _ (by have := (owns_lt o1 g hg).2; show g ≠ w.heap.size; omega)
  generalize (Y1.setCell ⟨w.heap.size, 1, none⟩ v1) = Y2 at h2 b2 o2 ⊢
  have h3 : (Y2.setCell ⟨w.heap.size, 2, none⟩ v2).heap[w.heap.size]? = some (.cells #[v0, v1, v2, a3, a4, a5] t (0, 0)) := put_box h2 2 v2 (by simp)
  have b3 : Below w.heap.size w (Y2.setCell ⟨w.heap.size, 2, none⟩ v2) := below_set b2 (Nat.le_refl _)
  have o3 : (Y2.setCell ⟨w.heap.size, 2, none⟩ v2).ownsRow B e 1 v n xs := owns_same o2 fun g hg => Below.heap_setCell _ _ _ _ (by have := (owns_lt o2 g hg).2; show g ≠ w.heap.size; omega)
  generalize (Y2.setCell ⟨w.heap.size, 2, none⟩ v2) = Y3 at h3 b3 o3 ⊢
  have h4 : (Y3.setCell ⟨w.heap.size, 3, none⟩ v3).heap[w.heap.size]? = some (.cells #[v0, v1, v2, v3, a4, a5] t (0, 0)) := put_box h3 3 v3 (by simp)
  have b4 : Below w.heap.size w (Y3.setCell ⟨w.heap.size, 3, none⟩ v3) := below_set b3 (Nat.le_refl _)
  have o4 : (Y3.setCell ⟨w.heap.size, 3, none⟩ v3).ownsRow B e 1 v n xs := owns_same o3 fun g hg => Below.heap_setCell _ _ _ _ (by have := (owns_lt o3 g hg).2; show g ≠ w.heap.size; omega)
  generalize (Y3.setCell ⟨w.heap.size, 3, none⟩ v3) = Y4 at h4 b4 o4 ⊢
  have h5 : (Y4.setCell ⟨w.heap.size, 4, none⟩ v4).heap[w.heap.size]? = some (.cells #[v0, v1, v2, v3, v4, a5] t (0, 0)) := put_box h4 4 v4 (by simp)
  have b5 : Below w.heap.size w (Y4.setCell ⟨w.heap.size, 4, none⟩ v4) := below_set b4 (Nat.le_refl _)
  have o5 : (Y4.setCell ⟨w.heap.size, 4, none⟩ v4).ownsRow B e 1 v n xs := owns_same o4 fun g hg => Below.heap_setCell _ _ _ _ (by have := (owns_lt o4 g hg).2; show g ≠ w.heap.size; omega)
  generalize (Y4.setCell ⟨w.heap.size, 4, none⟩ v4) = Y5 at h5 b5 o5 ⊢
  have h6 : (Y5.setCell ⟨w.heap.size, 5, none⟩ v5).heap[w.heap.size]? = some (.cells #[v0, v1, v2, v3, v4, v5] t (0, 0)) := put_box h5 5 v5 (by simp)
  have b6 : Below w.heap.size w (Y5.setCell ⟨w.heap.size, 5, none⟩ v5) := below_set b5 (Nat.le_refl _)
  have o6 : (Y5.setCell ⟨w.heap.size, 5, none⟩ v5).ownsRow B e 1 v n xs := owns_same o5 fun g hg => Below.heap_setCell _ _ _ _ (by have := (owns_lt o5 g hg).2; show g ≠ w.heap.size; omega)
  generalize (Y5.setCell ⟨w.heap.size, 5, none⟩ v5) = Y6 at h6 b6 o6 ⊢
  exact ⟨h6, b6, o6⟩
theorem results_cell_one {P : Program} {fn : Func} {p : Tmp} {ty : TypeId} (h : fn.results = #[.cell p ty]) (tmps : Array Value) (w : World) (g : Nat) (t : TypeId) (cs : Array Value) (fr : Nat × Nat) (d : TypeDesc)
    (hp : tmps.getD p undef = .pointer (some ⟨g, 0, none⟩)) (hg : w.heap[g]? = some (.cells cs t fr))
    (hu : P.underlying ty = some d) (hd : (match d with | .struct _ | .array _ _ => true | _ => false) = true) (hi : (P.info? ty).map (·.size) = some cs.size) :
    (results fn tmps).run P w = .ok (.agg cs) w := by
  have hp' : tmps[p]?.getD undef = .pointer (some ⟨g, 0, none⟩) := by simpa using hp
  simp [results, h, hp', asAddr, Sem.run_bind, Result.andThen, run_loadVar_row w g t ty cs fr d hg hu hd hi]
theorem infoT : (Tryd.prog.info? 25).map (·.size) = some 3 := by kernel_rfl
end Go.Proofs.YtjhickfjagalfabDoor

namespace Go.Proofs.YtjhickfjagalfabDoor
open Go.RowKit
set_option linter.unusedVariables false
set_option linter.unusedSimpArgs false
set_option maxRecDepth 100000
set_option maxHeartbeats 8000000 in
theorem decGreeting_ok (b off cap n : Nat) (l : List Nat) (f : Nat) (w : World) (h : CRow w (some ⟨b, off, none⟩) cap l) (HN : Hid (l.length = n)) (hs : 18 ≤ n) (HX0 : Hid (valB ((l.drop 0).take 8) = mInit)) (HX1 : Hid (valB ((l.drop 8).take 8) = mHave)) (HX2 : Hid (valB ((l.drop 16).take 2) = f)) :
    Calls Tryd.prog 30 #[.slice (some ⟨b, off, none⟩) n cap] w fun e w' => e = .returned (.tuple #[.agg #[.int .u16 (f : Int)], .int .i64 18, .int .i64 0]) ∧ Below w.heap.size w w' := by
  have hnl := h.row.len
  rw [HN.out] at hnl
  have hsl : 18 ≤ l.length := by rw [HN.out]; exact hs
  have HC : Hid (CRow w (some ⟨b, off, none⟩) cap l) := h
  obtain ⟨W0, hW0⟩ : ∃ W0, W0 = ((w.alloc (.cells #[.int .u16 0] 91)).alloc (.cells #[.int .u16 0] 91)) := ⟨_, rfl⟩
  have HO : Hid (Calls Tryd.prog 90 #[.slice (some ⟨b, off, none⟩) n cap, .int .i64 18] W0 fun e W' => ∃ r hh ao' cap' a2 c2, e = .returned (.pointer (some ⟨r, 0, none⟩)) ∧ Dec w W' (bx2 w 91 #[.int .u16 0] #[.int .u16 0]) W0.heap.size r hh ao' cap' (l.take 18) 0 (.slice (some a2) (n - 18) c2) 0 18 0 ∧ n - 18 ≤ c2 ∧ c2 ≤ 9223372036854775807 ∧ (n - 18 ≠ 0 → a2 = ⟨b, off + 18, none⟩)) := by
    rw [hW0]; exact open_ok b off cap n 18 l (bx2_bel w _ _) (bx2_new w _ _ _) (bx2_nd w _ _ _) (h.later (bx2_bel w _ _)) HN hs (by decide) (by decide)
  clear h
  go_enter Tryd.func30, Tryd.ntmps30
  go_wp2
  refine wp_scope_jumps 0 (fun _ _ => False) (fun _ _ => 0) rfl ?first ?pass
  case first =>
    go_wp2_with fail
    rw [← hW0]
    clear hW0
    refine HO.out.mono ?_
    rintro e W1 ⟨r, hh, ao', cap', a2, c2, rfl, h1, hc1, hc2, ha2⟩
    have H1 : Hid _ := h1
    have HA : Hid _ := ha2
    clear h1 HO ha2
    go_wp2_with fail
    refine (rx_u64 H1.out mInit HX0.out (by decide) hsl).mono ?_
    rintro e W2 ⟨rfl, hx⟩
    have H2 : Hid _ := hx
    clear hx H1
    go_wp2_with fail
    refine (magic_ok H2.out mInit).mono ?_
    rintro e W3 ⟨rfl, hx⟩
    have H3 : Hid _ := hx
    clear hx H2
    go_wp2_with fail
    refine (rx_u64 H3.out mHave HX1.out (by decide) hsl).mono ?_
    rintro e W4 ⟨rfl, hx⟩
    have H4 : Hid _ := hx
    clear hx H3
    go_wp2_with fail
    refine (magic_ok H4.out mHave).mono ?_
    rintro e W5 ⟨rfl, hx⟩
    have H5 : Hid _ := hx
    clear hx H4
    go_wp2_with fail
    refine (rx_u16 H5.out f HX2.out (by decide) hsl).mono ?_
    rintro e W6 ⟨rfl, hx⟩
    have H6 : Hid _ := hx
    clear hx H5
    obtain ⟨s0, u0⟩ := H6.out.b (.tail _ (.head _)) 0
    simp at s0
    go_wp2
    go_step3
    have HF : Hid _ := (H6.out.putO2 0 (.int .u16 (f : Int)) #[.int .u16 (f : Int)] rfl)
    clear H6 s0 u0
    generalize (W6.setCell ⟨w.heap.size + 1, 0, none⟩ (.int .u16 (f : Int))) = Wx at *
    have hn1 : ¬ (w.heap.size = r) := (HF.out.lb.box _ (.head _)).2.2
    have hn2 : ¬ (r = w.heap.size) := fun e => hn1 e.symm
    have r3 := HF.out.lb.cn
    have r4 := HF.out.lb.ce
    obtain ⟨c00, f00⟩ := HF.out.b (.head _) 0
    obtain ⟨c10, f10⟩ := HF.out.b (.tail _ (.head _)) 0
    simp at c00 c10
    go_wp2
    go_region
    all_goals
      go_wp2
      rw [jump_ret]
      exact bodyPost_ret (results_cell_tmp2 rfl _ _ w.heap.size 91 #[.int .u16 (f : Int)] (0, 0) _ rfl (put_box (HF.out.box _ (.head _)).1 0 (.int .u16 (f : Int)) rfl) Tryd.underlying91 rfl infoGre) rfl ⟨rfl, below_drew (setAll_below [(w.heap.size, 0, .int .u16 (f : Int))] Wx HF.out.bel (by simp))⟩
  case pass =>
    rintro a W hf
    exact hf.elim
set_option maxHeartbeats 8000000 in
theorem decSimple_ok (b off cap n : Nat) (l : List Nat) (c k : Nat) (w : World) (h : CRow w (some ⟨b, off, none⟩) cap l) (HN : Hid (l.length = n)) (hs : 16 ≤ n) (HX0 : Hid (valB ((l.drop 0).take 4) = mSimple)) (HX1 : Hid (valB ((l.drop 4).take 4) = c)) (HX2 : Hid (valB ((l.drop 8).take 8) = k)) :
    Calls Tryd.prog 36 #[.slice (some ⟨b, off, none⟩) n cap] w fun e w' => e = .returned (.tuple #[.agg #[.int .u32 (c : Int), .int .u64 (k : Int)], .int .i64 16, .int .i64 0]) ∧ Below w.heap.size w w' := by
  have hnl := h.row.len
  rw [HN.out] at hnl
  have hsl : 16 ≤ l.length := by rw [HN.out]; exact hs
  have HC : Hid (CRow w (some ⟨b, off, none⟩) cap l) := h
  obtain ⟨W0, hW0⟩ : ∃ W0, W0 = ((w.alloc (.cells #[.int .u32 0, .int .u64 0] 104)).alloc (.cells #[.int .u32 0, .int .u64 0] 104)) := ⟨_, rfl⟩
  have HO : Hid (Calls Tryd.prog 90 #[.slice (some ⟨b, off, none⟩) n cap, .int .i64 16] W0 fun e W' => ∃ r hh ao' cap' a2 c2, e = .returned (.pointer (some ⟨r, 0, none⟩)) ∧ Dec w W' (bx2 w 104 #[.int .u32 0, .int .u64 0] #[.int .u32 0, .int .u64 0]) W0.heap.size r hh ao' cap' (l.take 16) 0 (.slice (some a2) (n - 16) c2) 0 16 0 ∧ n - 16 ≤ c2 ∧ c2 ≤ 9223372036854775807 ∧ (n - 16 ≠ 0 → a2 = ⟨b, off + 16, none⟩)) := by
    rw [hW0]; exact open_ok b off cap n 16 l (bx2_bel w _ _) (bx2_new w _ _ _) (bx2_nd w _ _ _) (h.later (bx2_bel w _ _)) HN hs (by decide) (by decide)
  clear h
  go_enter Tryd.func36, Tryd.ntmps36
  go_wp2
  refine wp_scope_jumps 0 (fun _ _ => False) (fun _ _ => 0) rfl ?first ?pass
  case first =>
    go_wp2_with fail
    rw [← hW0]
    clear hW0
    refine HO.out.mono ?_
    rintro e W1 ⟨r, hh, ao', cap', a2, c2, rfl, h1, hc1, hc2, ha2⟩
    have H1 : Hid _ := h1
    have HA : Hid _ := ha2
    clear h1 HO ha2
    go_wp2_with fail
    refine (magic32_ok H1.out (by rw [List.length_take]; omega) mSimple (by rw [tk _ _ _ _ (by decide)]; exact HX0.out)).mono ?_
    rintro e W2 ⟨rfl, hx⟩
    have H2 : Hid _ := hx
    clear hx H1
    go_wp2_with fail
    refine (rx_u32 H2.out c HX1.out (by decide) hsl).mono ?_
    rintro e W3 ⟨rfl, hx⟩
    have H3 : Hid _ := hx
    clear hx H2
    go_wp2_with fail
    refine (rx_u64 H3.out k HX2.out (by decide) hsl).mono ?_
    rintro e W4 ⟨rfl, hx⟩
    have H4 : Hid _ := hx
    clear hx H3
    obtain ⟨s0, u0⟩ := H4.out.b (.tail _ (.head _)) 0
    simp at s0
    obtain ⟨s1, u1⟩ := H4.out.b (.tail _ (.head _)) 1
    simp at s1
    go_wp2
    go_step3
    have HF : Hid _ := ((H4.out.putO2 0 (.int .u32 (c : Int)) #[.int .u32 (c : Int), .int .u64 0] rfl).putO2 1 (.int .u64 (k : Int)) #[.int .u32 (c : Int), .int .u64 (k : Int)] rfl)
    clear H4 s0 u0 s1 u1
    generalize ((W4.setCell ⟨w.heap.size + 1, 0, none⟩ (.int .u32 (c : Int))).setCell ⟨w.heap.size + 1, 1, none⟩ (.int .u64 (k : Int))) = Wx at *
    have hn1 : ¬ (w.heap.size = r) := (HF.out.lb.box _ (.head _)).2.2
    have hn2 : ¬ (r = w.heap.size) := fun e => hn1 e.symm
    have r3 := HF.out.lb.cn
    have r4 := HF.out.lb.ce
    obtain ⟨c00, f00⟩ := HF.out.b (.head _) 0
    obtain ⟨c10, f10⟩ := HF.out.b (.tail _ (.head _)) 0
    obtain ⟨c01, f01⟩ := HF.out.b (.head _) 1
    obtain ⟨c11, f11⟩ := HF.out.b (.tail _ (.head _)) 1
    simp at c00 c10 c01 c11
    go_wp2
    go_region
    all_goals
      go_wp2
      rw [jump_ret]
      exact bodyPost_ret (results_cell_tmp2 rfl _ _ w.heap.size 104 #[.int .u32 (c : Int), .int .u64 (k : Int)] (0, 0) _ rfl (put_box (put_box (HF.out.box _ (.head _)).1 0 (.int .u32 (c : Int)) rfl) 1 (.int .u64 (k : Int)) rfl) Tryd.underlying104 rfl infoSim) rfl ⟨rfl, below_drew (setAll_below [(w.heap.size, 0, .int .u32 (c : Int)), (w.heap.size, 1, .int .u64 (k : Int))] Wx HF.out.bel (by simp))⟩
  case pass =>
    rintro a W hf
    exact hf.elim
end Go.Proofs.YtjhickfjagalfabDoor

namespace Go.Proofs.YtjhickfjagalfabDoor
open Go.RowKit
set_option linter.unusedVariables false
set_option linter.unusedSimpArgs false
set_option maxRecDepth 100000
set_option maxHeartbeats 4000000 in
theorem decFlags_ok (b off cap n : Nat) (l : List Nat) (f : Nat) (w : World) (h : CRow w (some ⟨b, off, none⟩) cap l) (HN : Hid (l.length = n)) (hs : 4 ≤ n) (HX0 : Hid (valB ((l.drop 0).take 4) = f)) :
    Calls Tryd.prog 32 #[.slice (some ⟨b, off, none⟩) n cap] w fun e w' => e = .returned (.tuple #[.int .u32 (f : Int), .int .i64 4, .int .i64 0]) ∧ Below w.heap.size w w' := by
  have hsl : 4 ≤ l.length := by rw [HN.out]; exact hs
  have HO : Hid (Calls Tryd.prog 90 #[.slice (some ⟨b, off, none⟩) n cap, .int .i64 4] w fun e W' => ∃ r hh ao' cap' a2 c2, e = .returned (.pointer (some ⟨r, 0, none⟩)) ∧ Dec w W' [] w.heap.size r hh ao' cap' (l.take 4) 0 (.slice (some a2) (n - 4) c2) 0 4 0 ∧ n - 4 ≤ c2 ∧ c2 ≤ 9223372036854775807 ∧ (n - 4 ≠ 0 → a2 = ⟨b, off + 4, none⟩)) := open_ok (bs := []) b off cap n 4 l (Below.refl _ _) (by simp) (by simp) h HN hs (by decide) (by decide)
  clear h
  go_enter Tryd.func32, Tryd.ntmps32
  go_wp2_with fail
  refine HO.out.mono ?_
  rintro e W1 ⟨r, hh, ao', cap', a2, c2, rfl, h1, _, _, _⟩
  have r3 := h1.lb.cn
  have r4 := h1.lb.ce
  have HU : Hid (∀ q, Calls Tryd.prog 95 #[.pointer (some ⟨r, 0, none⟩)] (W1.drewN q) fun e W' => e = .returned (.int .u32 (f : Int)) ∧ Dec w W' [] w.heap.size r hh ao' cap' (l.take 4) (0 + 4) (.slice (some a2) (n - 4) c2) 0 4 0) := fun q => rx_u32 (h1.drewN q) f HX0.out (by decide) hsl
  clear h1 HO HX0
  go_wp2
  go_region_with (go_at_call 95; refine (HU.out _).mono ?_; rintro e W2 ⟨rfl, h2⟩; have H2 : Hid _ := h2; have r3' := h2.lb.cn; have r4' := h2.lb.ce; clear h2)
  all_goals
    go_wp2
    go_ret3
    exact ⟨rfl, H2.out.bel⟩
set_option maxHeartbeats 1000000 in
theorem encFlags (f : Nat) (w : World) (hf : f < 4294967296) :
    Calls Tryd.prog 33 #[.int .u32 (f : Int)] w fun e w' => ∃ ao cap, e = .returned (.slice ao 4 cap) ∧ Row w w' ao cap (bigTo f 4 4) := by
  have h0 := wok_new w
  have hb0 : Below w.heap.size w (w.alloc (.cells #[.bool true, .slice none 0 0] 221)) := (Below.refl _ _).alloc (Nat.le_refl _) _
  go_enter Tryd.func33, Tryd.ntmps33
  go_wp2_with fail
  refine (newWriter_any w).mono ?_
  rintro e w1 ⟨rfl, rfl⟩
  generalize w.alloc (.cells #[.bool true, .slice none 0 0] 221) = W1 at *
  have H1 : Hid _ := h0
  have B1 : Hid (Below w.heap.size w W1) := hb0
  clear h0 hb0
  go_wp2_with fail
  refine (wu32_any w.heap.size w.heap.size f _ [] W1 H1.out hf (by simp) B1.out.size).mono ?_
  rintro e W2 ⟨rfl, v2, hp⟩
  have B2 : Hid (Below w.heap.size w W2) := B1.out.trans (hp.kept.below B1.out.size (by
    rintro g hg (e | e)
    · omega
    · simp [Value.ownBlock] at e))
  have H2 : Hid (WOk W2 w.heap.size w.heap.size v2 (bigTo f 4 4)) := hp.ok
  clear hp H1 B1
  go_wp2_with fail
  refine (wout_any w.heap.size w.heap.size v2 _ W2 H2.out (by simp [bigTo_length])).mono ?_
  rintro e W3 ⟨ao, cap, rfl, ho, hb⟩
  have H3 : Hid (Row w W3 ao cap (bigTo f 4 4)) := ⟨owns_mono ho B2.out.size, H2.out.lt, B2.out.trans (hb.mono B2.out.size)⟩
  clear ho hb H2
  rw [bigTo_length]
  go_wp2
  go_ret
  exact ⟨_, _, rfl, H3.out⟩
end Go.Proofs.YtjhickfjagalfabDoor

namespace Go.Proofs.YtjhickfjagalfabDoor
open Go.RowKit
set_option linter.unusedVariables false
set_option linter.unusedSimpArgs false
set_option maxRecDepth 100000
set_option maxHeartbeats 8000000 in
theorem decReply_long (b off cap n : Nat) (l : List Nat) (most : Nat) (c e0 k : Nat) (w : World) (h : CRow w (some ⟨b, off, none⟩) cap l) (HN : Hid (l.length = n)) (hs : 20 ≤ n) (HX : Hid (valB ((l.drop 0).take 8) = mReply)) (HX1 : Hid (valB ((l.drop 8).take 4) = c)) (HX2 : Hid (valB ((l.drop 12).take 4) = e0)) (HX3 : Hid (valB ((l.drop 16).take 4) = k)) (hc4 : c < 4294967296) (he4 : e0 < 4294967296) (hk4 : k < 4294967296) (hm4 : most < 4294967296) (hlong : most < k) :
    Calls Tryd.prog 40 #[.slice (some ⟨b, off, none⟩) n cap, .int .u32 (most : Int)] w fun e w' => ∃ ao2 cap2, e = .returned (.tuple #[.agg #[.int .u32 (c : Int), .int .u32 (e0 : Int), .slice ao2 0 cap2], .int .i64 20, .int .i64 12]) ∧ Row w w' ao2 cap2 [] := by
  obtain ⟨m, hm⟩ : ∃ m : List Nat, m = [] := ⟨_, rfl⟩
  have hnl := h.row.len
  rw [HN.out] at hnl
  have hsl : 20 ≤ l.length := by rw [HN.out]; exact hs
  have HC : Hid (CRow w (some ⟨b, off, none⟩) cap l) := h
  obtain ⟨W0, hW0⟩ : ∃ W0, W0 = (((w.alloc (.cells #[.int .u32 0, .int .u32 0, nilV] 115)).alloc (.cells #[.int .u32 0, .int .u32 0, nilV] 115)).alloc (.cells #[.int .u32 0, .int .u32 0, nilV] 115)) := ⟨_, rfl⟩
  have HO : Hid (Calls Tryd.prog 90 #[.slice (some ⟨b, off, none⟩) n cap, .int .i64 20] W0 fun e W' => ∃ r hh ao' cap' a2 c2, e = .returned (.pointer (some ⟨r, 0, none⟩)) ∧ Dec w W' (bx3 w 115 #[.int .u32 0, .int .u32 0, nilV] #[.int .u32 0, .int .u32 0, nilV] #[.int .u32 0, .int .u32 0, nilV]) W0.heap.size r hh ao' cap' (l.take 20) 0 (.slice (some a2) (n - 20) c2) 0 20 0 ∧ n - 20 ≤ c2 ∧ c2 ≤ 9223372036854775807 ∧ (n - 20 ≠ 0 → a2 = ⟨b, off + 20, none⟩)) := by
    rw [hW0]; exact open_ok b off cap n 20 l (bx3_bel w _ _ _) (bx3_new w _ _ _ _) (bx3_nd w _ _ _ _) (h.later (bx3_bel w _ _ _)) HN hs (by decide) (by decide)
  clear h
  go_enter Tryd.func40, Tryd.ntmps40
  go_wp2
  refine wp_scope_jumps 0 (fun _ _ => False) (fun _ _ => 0) rfl ?first ?pass
  case first =>
    go_wp2_with fail
    rw [← hW0]
    clear hW0
    refine HO.out.mono ?_
    rintro e W1 ⟨r, hh, ao', cap', a2, c2, rfl, h1, hc1, hc2, ha2⟩
    have H1 : Hid _ := h1
    have HA : Hid _ := ha2
    clear h1 HO ha2
    go_wp2_with fail
    refine (rx_u64 H1.out mReply HX.out (by decide) hsl).mono ?_
    rintro e W2 ⟨rfl, hx⟩
    have H2 : Hid _ := hx
    clear hx H1
    go_wp2_with fail
    refine (magic_ok H2.out mReply).mono ?_
    rintro e W3 ⟨rfl, hx⟩
    have H3 : Hid _ := hx
    clear hx H2
    go_wp2_with fail
    refine (rx_u32 H3.out c HX1.out (by decide) hsl).mono ?_
    rintro e W4 ⟨rfl, hx⟩
    have H4 : Hid _ := hx
    clear hx H3
    go_wp2_with fail
    refine (rx_u32 H4.out e0 HX2.out (by decide) hsl).mono ?_
    rintro e W5 ⟨rfl, hx⟩
    have H5 : Hid _ := hx
    clear hx H4
    obtain ⟨s0, u0⟩ := H5.out.b (.tail _ (.tail _ (.head _))) 0
    simp at s0
    obtain ⟨s1, u1⟩ := H5.out.b (.tail _ (.tail _ (.head _))) 1
    simp at s1
    go_wp2_with fail
    replace H5 : Hid _ := H5.out.putS 0 (.int .u32 (c : Int)) #[.int .u32 (c : Int), .int .u32 0, nilV] rfl
    replace H5 : Hid _ := H5.out.putS 1 (.int .u32 (e0 : Int)) #[.int .u32 (c : Int), .int .u32 (e0 : Int), nilV] rfl
    refine (rx_u32 H5.out k HX3.out (by decide) hsl).mono ?_
    rintro e W6 ⟨rfl, hx⟩
    have H6 : Hid _ := hx
    clear hx H5 s0 u0 s1 u1
    go_wp2_with fail
    refine (measure_long H6.out k most hm4 hlong (by omega)).mono ?_
    rintro e W7 ⟨rfl, hx⟩
    have H7 : Hid _ := hx
    clear hx H6
    have hml : m.length = 0 := by rw [hm]; rfl
    have hmt : ∀ x ∈ m, x < 256 := by rw [hm]; simp
    have HDt : Hid _ := data_any (len := 0) H7.out m hml hmt (by rw [hm]; simp) (by omega) hc1 (by omega) hc2
    have HB : Hid (w.heap.size + 1 + 1 < W7.heap.size) := by show _ < _; have h1 := block_lt H7.out.rd; have h2 := H7.out.hr; have h3 : w.heap.size + 1 + 1 < _ := (H7.out.box _ (.tail _ (.tail _ (.head _)))).2.2; omega
    have HMm : Hid (m = []) := hm
    clear hm
    clear H7 HX HX1 HX2 HX3 HN HC hml hmt HA
    go_wp2_with fail
    refine Calls.mono HDt.out ?_
    rintro e W8 ⟨ao2, cap2, rfl, ho, hb, h9⟩
    have H8 : Hid _ := h9
    have HR : Hid (W8.ownsRow W7.heap.size 5 1 (.slice ao2 0 cap2) 0 (m.map bv)) := ho
    clear h9 ho hb HDt
    obtain ⟨c10, f10⟩ := H8.out.b (.tail _ (.head _)) 0
    obtain ⟨c20, f20⟩ := H8.out.b (.tail _ (.tail _ (.head _))) 0
    obtain ⟨c11, f11⟩ := H8.out.b (.tail _ (.head _)) 1
    obtain ⟨c21, f21⟩ := H8.out.b (.tail _ (.tail _ (.head _))) 1
    obtain ⟨c12, f12⟩ := H8.out.b (.tail _ (.head _)) 2
    obtain ⟨c22, f22⟩ := H8.out.b (.tail _ (.tail _ (.head _))) 2
    simp at c10 c20 c11 c21 c12 c22
    go_wp2
    go_step3
    have HF : Hid _ := ((((H8.out.putS 2 (.slice ao2 0 cap2) #[.int .u32 (c : Int), .int .u32 (e0 : Int), .slice ao2 0 cap2] rfl).putO 0 (.int .u32 (c : Int)) #[.int .u32 (c : Int), .int .u32 0, nilV] rfl).putO 1 (.int .u32 (e0 : Int)) #[.int .u32 (c : Int), .int .u32 (e0 : Int), nilV] rfl).putO 2 (.slice ao2 0 cap2) #[.int .u32 (c : Int), .int .u32 (e0 : Int), .slice ao2 0 cap2] rfl)
    have HW : Hid ((((((W8.setCell ⟨w.heap.size + 1 + 1, 2, none⟩ (.slice ao2 0 cap2)).setCell ⟨w.heap.size + 1, 0, none⟩ (.int .u32 (c : Int))).setCell ⟨w.heap.size + 1, 1, none⟩ (.int .u32 (e0 : Int))).setCell ⟨w.heap.size + 1, 2, none⟩ (.slice ao2 0 cap2))).ownsRow W7.heap.size 5 1 (.slice ao2 0 cap2) 0 (m.map bv)) := setAll_owns [(w.heap.size + 1 + 1, 2, .slice ao2 0 cap2), (w.heap.size + 1, 0, .int .u32 (c : Int)), (w.heap.size + 1, 1, .int .u32 (e0 : Int)), (w.heap.size + 1, 2, .slice ao2 0 cap2)] W8 HR.out (by have := HB.out; simp; omega)
    clear HR H8 c10 f10 c20 f20 c11 f11 c21 f21 c12 f12 c22 f22
    generalize ((((W8.setCell ⟨w.heap.size + 1 + 1, 2, none⟩ (.slice ao2 0 cap2)).setCell ⟨w.heap.size + 1, 0, none⟩ (.int .u32 (c : Int))).setCell ⟨w.heap.size + 1, 1, none⟩ (.int .u32 (e0 : Int))).setCell ⟨w.heap.size + 1, 2, none⟩ (.slice ao2 0 cap2)) = Wx at *
    have hn1 : ¬ (w.heap.size = r) := (HF.out.lb.box _ (.head _)).2.2
    have hn2 : ¬ (r = w.heap.size) := fun e => hn1 e.symm
    have r3 := HF.out.lb.cn
    have r4 := HF.out.lb.ce
    obtain ⟨c00, f00⟩ := HF.out.b (.head _) 0
    obtain ⟨c10, f10⟩ := HF.out.b (.tail _ (.head _)) 0
    obtain ⟨c01, f01⟩ := HF.out.b (.head _) 1
    obtain ⟨c11, f11⟩ := HF.out.b (.tail _ (.head _)) 1
    obtain ⟨c02, f02⟩ := HF.out.b (.head _) 2
    obtain ⟨c12, f12⟩ := HF.out.b (.tail _ (.head _)) 2
    simp at c00 c10 c01 c11 c02 c12
    go_wp2
    go_region
    all_goals
      go_wp2
      rw [jump_ret]
      obtain ⟨HG, HW2, HB2⟩ := close3 (HF.out.box _ (.head _)).1 HF.out.bel HW.out (by have := HB.out; omega) (.int .u32 (c : Int)) (.int .u32 (e0 : Int)) (.slice ao2 0 cap2)
      clear HF HW
      generalize (((Wx.setCell ⟨w.heap.size, 0, none⟩ (.int .u32 (c : Int))).setCell ⟨w.heap.size, 1, none⟩ (.int .u32 (e0 : Int))).setCell ⟨w.heap.size, 2, none⟩ (.slice ao2 0 cap2)).drew = Wz at HG HW2 HB2 ⊢
      exact bodyPost_ret (results_cell_tmp2 rfl _ Wz w.heap.size 115 #[.int .u32 (c : Int), .int .u32 (e0 : Int), .slice ao2 0 cap2] (0, 0) _ rfl HG Tryd.underlying115 rfl infoRep) rfl ⟨_, _, rfl, by have e := HMm.out; rw [e] at HW2; exact owns_mono HW2 (by have := HB.out; omega), by simp, HB2⟩
  case pass =>
    rintro a W hf
    exact hf.elim
end Go.Proofs.YtjhickfjagalfabDoor

namespace Go.Proofs.YtjhickfjagalfabDoor
open Go.RowKit
set_option linter.unusedVariables false
set_option linter.unusedSimpArgs false
set_option maxRecDepth 100000
/-- a twin's bytes, with the marks in its spare room -/
def tw (l : List Nat) : List Nat := l ++ List.replicate 4 171
theorem tw_len (l : List Nat) : (tw l).length = l.length + 4 := by simp [tw]
theorem tw_lt {l : List Nat} (h : ∀ x ∈ l, x < 256) : ∀ x ∈ tw l, x < 256 := fun x hx => by
  rcases List.mem_append.1 hx with hx | hx
  · exact h x hx
  · rw [(List.mem_replicate.1 hx).2]; decide
set_option maxHeartbeats 4000000 in
theorem twin_any (ao : Option Addr) (cap n : Nat) (l : List Nat) (w : World) (h : BRow w ao cap l) (HN : Hid (l.length = n)) (hn : n ≤ 1099511627776) :
    Calls Tryd.prog 9 #[.slice ao n cap] w fun e w' => e = .returned (.slice (some ⟨w.heap.size, 0, none⟩) n (n + 4)) ∧ w'.heap[w.heap.size]? = some (.cells ((tw l).map bv).toArray 5 (0, 0)) ∧ Below w.heap.size w w' := by
  obtain ⟨i0, hi, hz0, hz1, hz2⟩ := info_parts Tryd.info5
  have HR : Hid (BRow w ao cap l) := h
  have hw4 : IntKind.i64.wrap ((n : Int) + 4) = ((n + 4 : Nat) : Int) := by rw [IntKind.wrap_i64]; omega
  have hc4 : ((n + 4 : Nat) : Int) = (n : Int) + 4 := by omega
  clear h
  obtain ⟨N, hN⟩ : ∃ N, N = n + 4 := ⟨_, rfl⟩
  go_enter Tryd.func9, Tryd.ntmps9
  go_wp2_with (at_make; refine wpList_make_full _ rfl _ _ 22 rfl w.heap.size 5 i0 (.int .u8 0) 1 Tryd.underlying22 hi hz0 hz1 .i64 .i64 ((n : Int) + 4) ((n : Int) + 4) (n + 4) rfl rfl (by omega) (by omega) (by rw [hz2]; omega) (by unfold maxLen; omega) (Nat.le_refl _) ?_; intro w1 hown1 hgrow1)
  have HB1 : Hid (Below w.heap.size w w1) := (Below.refl w.heap.size w).grown hgrow1 (Nat.le_refl _) (by simp)
  have HO1 : Hid (w1.ownsRow w.heap.size 5 1 (.slice (some ⟨w.heap.size, 0, none⟩) (n + 4) (n + 4)) (n + 4) ((List.replicate (n + 4) 0).map bv)) := by rw [← made_zeros]; exact hown1
  clear hown1 hgrow1 hN N
  go_wp2
  go_loopw [4] (fun i wr => ∃ k : Nat, k ≤ n + 4 ∧ i = .int .i64 (k : Int) ∧ ∃ C : List Nat, Hid (C.length = n + 4 ∧ wr.ownsRow w.heap.size 5 1 (.slice (some ⟨w.heap.size, 0, none⟩) (n + 4) (n + 4)) (n + 4) (C.map bv) ∧ (∀ j, j < k → C[j]? = (tw l)[j]?) ∧ Below w.heap.size w wr)) (fun i _ => n + 4 - (intOf i).toNat)
  case atStart => exact ⟨0, Nat.zero_le _, rfl, List.replicate (n + 4) 0, by simp, HO1.out, fun j hj => by omega, HB1.out⟩
  case round =>
    obtain ⟨k, hk, rfl, C, HCC⟩ := hrel
    by_cases hlt : k < n + 4
    · have hC := HCC.out.1
      have ho := HCC.out.2.1
      have hkz : (k : Int) < (n : Int) + 4 := by omega
      have hkz2 : (k : Int) < ((n + 4 : Nat) : Int) := by omega
      have hc0 : wr.cell? ⟨w.heap.size, k, none⟩ = some (.int .u8 ((C[k]?.getD 0 : Nat) : Int)) := by
        rw [ho.cellAt k (by omega)]; simp [bv, hC, hlt]
      have hf0 := ho.frozenAt k
      obtain ⟨hs1, hg1⟩ := ho.stored k (bv 171)
      have hc1 : (wr.setCell ⟨w.heap.size, k, none⟩ (.int .u8 171)).cell? ⟨w.heap.size, k, none⟩ = some (.int .u8 171) := by
        have := hs1.cellAt k (by omega)
        rw [show (Value.int .u8 171) = bv 171 from rfl, this]; simp [hC, hlt]
      have hf1 : (wr.setCell ⟨w.heap.size, k, none⟩ (.int .u8 171)).frozen? ⟨w.heap.size, k, none⟩ = false := hs1.frozenAt k
      have hb1 : Below w.heap.size w (wr.setCell ⟨w.heap.size, k, none⟩ (.int .u8 171)) := HCC.out.2.2.2.grown hg1 HCC.out.2.2.2.size (fun g hg => by simp at hg; omega)
      have hs1' : (wr.setCell ⟨w.heap.size, k, none⟩ (.int .u8 171)).ownsRow w.heap.size 5 1 (.slice (some ⟨w.heap.size, 0, none⟩) (n + 4) (n + 4)) (n + 4) ((C.set k 171).map bv) := by rw [List.map_set]; exact hs1
      by_cases hkn : k < n
      · obtain ⟨b, off, rfl, hrow⟩ := HR.out.at_ (by rintro rfl; have := HN.out; simp at this; omega)
        have hx := hrow k (by rw [HN.out]; exact hkn)
        have hxw : (wr.setCell ⟨w.heap.size, k, none⟩ (.int .u8 171)).cell? ⟨b, off + k, none⟩ = some (.int .u8 ((l[k]?.getD 0 : Nat) : Int)) := by
          rw [cell_later hb1 hx]; simp [bv, show k < l.length by rw [HN.out]; exact hkn]
        have hkn2 : (k : Int) < (n : Int) := by omega
        obtain ⟨hs2, hg2⟩ := hs1'.stored k (bv (l[k]?.getD 0))
        have H2 : Hid ((C.set k (l[k]?.getD 0)).length = n + 4 ∧ ((wr.setCell ⟨w.heap.size, k, none⟩ (.int .u8 171)).setCell ⟨w.heap.size, k, none⟩ (.int .u8 ((l[k]?.getD 0 : Nat) : Int))).ownsRow w.heap.size 5 1 (.slice (some ⟨w.heap.size, 0, none⟩) (n + 4) (n + 4)) (n + 4) ((C.set k (l[k]?.getD 0)).map bv) ∧ (∀ j, j < k + 1 → (C.set k (l[k]?.getD 0))[j]? = (tw l)[j]?) ∧ Below w.heap.size w ((wr.setCell ⟨w.heap.size, k, none⟩ (.int .u8 171)).setCell ⟨w.heap.size, k, none⟩ (.int .u8 ((l[k]?.getD 0 : Nat) : Int)))) := by
          refine ⟨by simp [hC], ?_, fun j hj => ?_, hb1.grown hg2 hb1.size (fun g hg => by simp at hg; omega)⟩
          · have := hs2
            rw [← List.map_set, List.set_set] at this
            exact this
          · by_cases e : j = k
            · subst e
              rw [List.getElem?_set_self (by omega), tw, List.getElem?_append_left (by rw [HN.out]; exact hkn)]
              simp [show j < l.length by rw [HN.out]; exact hkn]
            · rw [List.getElem?_set_ne (by omega)]
              exact HCC.out.2.2.1 j (by omega)
        clear hs1 hg1 hb1 hs1' hs2 hg2 hrow hx ho HCC
        generalize l[k]?.getD 0 = x at *
        go_wp2
        go_roundw
        case rel => exact ⟨k + 1, by omega, by go_num, _, H2⟩
        case measure => simp [intOf]; omega
      · have hkn2 : ¬ ((k : Int) < (n : Int)) := by omega
        have hkn3 : decide ((k : Int) < (n : Int)) = false := by simp; omega
        have H2 : Hid ((C.set k 171).length = n + 4 ∧ (wr.setCell ⟨w.heap.size, k, none⟩ (.int .u8 171)).ownsRow w.heap.size 5 1 (.slice (some ⟨w.heap.size, 0, none⟩) (n + 4) (n + 4)) (n + 4) ((C.set k 171).map bv) ∧ (∀ j, j < k + 1 → (C.set k 171)[j]? = (tw l)[j]?) ∧ Below w.heap.size w (wr.setCell ⟨w.heap.size, k, none⟩ (.int .u8 171))) := by
          refine ⟨by simp [hC], hs1', fun j hj => ?_, hb1⟩
          by_cases e : j = k
          · subst e
            have hl := HN.out
            rw [List.getElem?_set_self (by omega), tw, List.getElem?_append_right (by omega), List.getElem?_replicate, if_pos (by omega)]
          · rw [List.getElem?_set_ne (by omega)]
            exact HCC.out.2.2.1 j (by omega)
        clear hs1 hg1 hb1 hs1' ho HCC
        go_wp2
        go_roundw
        case rel => exact ⟨k + 1, by omega, by go_num, _, H2⟩
        case measure => simp [intOf]; omega
    · obtain rfl : k = n + 4 := by omega
      have HF : Hid (wr.heap[w.heap.size]? = some (.cells ((tw l).map bv).toArray 5 (0, 0)) ∧ Below w.heap.size w wr) := by
        obtain ⟨hC, ho, hj, hb⟩ := HCC.out
        have e : C = tw l := by
          apply List.ext_getElem?
          intro j
          by_cases h : j < n + 4
          · exact hj j h
          · rw [List.getElem?_eq_none (by omega), List.getElem?_eq_none (by rw [tw_len, HN.out]; omega)]
        subst e
        exact ⟨own_block ho (by rw [List.length_map]; exact hC), hb⟩
      clear HCC
      have hd : ¬ (((n + 4 : Nat) : Int) < (n : Int) + 4) := by omega
      go_wp2
      go_ret
      exact ⟨rfl, HF.out.1, HF.out.2⟩
theorem twin_brow {W : World} {g : Nat} {l : List Nat} (h : W.heap[g]? = some (.cells ((tw l).map bv).toArray 5 (0, 0))) (hlt : ∀ x ∈ l, x < 256) (hlen : l.length ≤ 140737488351232) (cap : Nat) : BRow W (some ⟨g, 0, none⟩) cap l := by
  refine ⟨hlt, hlen, fun h => by simp at h, fun _ => ⟨g, 0, rfl, fun k hk => ?_⟩⟩
  rw [Nat.zero_add, blk_cell h, List.getElem?_map, tw, List.getElem?_append_left hk, List.getElem?_eq_getElem hk]; rfl
end Go.Proofs.YtjhickfjagalfabDoor
