import Derived.Test.YtjhickfjagalfabDoorV11
import Derived.Test.YtjhickfjagalfabDoorV12
import Derived.Test.YtjhickfjagalfabDoorV9
import Derived.Test.YtjhickfjagalfabDoorV13
import Derived.Test.YtjhickfjagalfabDoorV6
import Derived.Test.YtjhickfjagalfabDoorV4
namespace Go.Proofs.YtjhickfjagalfabDoor
open Go.RowKit
set_option linter.unusedVariables false
set_option linter.unusedSimpArgs false
set_option maxRecDepth 100000
/-- the box of the answer stands -/
structure Sb (w W : World) (o : Obj) : Prop where
  bel : Below w.heap.size w W
  b0 : W.heap[w.heap.size]? = some o
theorem Sb.next {w W W' : World} {o : Obj} (h : Sb w W o) (hb : Below W.heap.size W W') : Sb w W' o := ⟨h.bel.trans (hb.mono h.bel.size), (hb.block _ (block_lt h.b0)).trans h.b0⟩
theorem Sb.new (w : World) (cs : Array Value) (t : TypeId) : Sb w (w.alloc (.cells cs t)) (.cells cs t (0, 0)) := ⟨(Below.refl _ _).alloc (Nat.le_refl _) _, heap_new w _⟩
/-- and the box of what is read -/
structure Sx (w W : World) (o : Obj) (g : Nat) (cs : Array Value) (t : TypeId) : Prop where
  bel : Below w.heap.size w W
  b0 : W.heap[w.heap.size]? = some o
  b2 : W.heap[g]? = some (.cells cs t (0, 0))
  gl : w.heap.size < g
theorem Sx.next {w W W' : World} {o : Obj} {g : Nat} {cs : Array Value} {t : TypeId} (h : Sx w W o g cs t) (hb : Below W.heap.size W W') : Sx w W' o g cs t :=
  ⟨h.bel.trans (hb.mono h.bel.size), (hb.block _ (block_lt h.b0)).trans h.b0, (hb.block _ (block_lt h.b2)).trans h.b2, h.gl⟩
theorem Sb.box {w W : World} {o : Obj} (h : Sb w W o) (cs : Array Value) (t : TypeId) : Sx w (W.alloc (.cells cs t)) o W.heap.size cs t :=
  ⟨h.bel.alloc h.bel.size _, (Below.heap_alloc _ _ _ (block_lt h.b0)).trans h.b0, heap_new W _, block_lt h.b0⟩
theorem Sx.put {w W : World} {o : Obj} {g : Nat} {cs : Array Value} {t : TypeId} (h : Sx w W o g cs t) (j : Nat) (v : Value) {cs' : Array Value} (hcs : cs.setIfInBounds j v = cs') : Sx w (W.setCell ⟨g, j, none⟩ v) o g cs' t :=
  ⟨below_set h.bel (Nat.le_of_lt h.gl), (Below.heap_setCell _ _ _ _ (by have := h.gl; show w.heap.size ≠ g; omega)).trans h.b0, put_box h.b2 j v hcs, h.gl⟩
theorem Sx.sb {w W : World} {o : Obj} {g : Nat} {cs : Array Value} {t : TypeId} (h : Sx w W o g cs t) : Sb w W o := ⟨h.bel, h.b0⟩
theorem closenb1 {w Wx : World} {t : TypeId} {a0 : Value} (hbox : Wx.heap[w.heap.size]? = some (.cells #[a0] t (0, 0))) (hbel : Below w.heap.size w Wx) (v0 : Value) :
    ((Wx.setCell ⟨w.heap.size, 0, none⟩ v0)).heap[w.heap.size]? = some (.cells #[v0] t (0, 0)) ∧ Below w.heap.size w ((Wx.setCell ⟨w.heap.size, 0, none⟩ v0)) := by
  have h0 := hbox
  have b0 := hbel
  have h1 : (Wx.setCell ⟨w.heap.size, 0, none⟩ v0).heap[w.heap.size]? = some (.cells #[v0] t (0, 0)) := put_box h0 0 v0 (by simp)
  have b1 : Below w.heap.size w (Wx.setCell ⟨w.heap.size, 0, none⟩ v0) := below_set b0 (Nat.le_refl _)
  generalize (Wx.setCell ⟨w.heap.size, 0, none⟩ v0) = Y1 at h1 b1  ⊢
  exact ⟨h1, b1⟩
theorem closenb2 {w Wx : World} {t : TypeId} {a0 a1 : Value} (hbox : Wx.heap[w.heap.size]? = some (.cells #[a0, a1] t (0, 0))) (hbel : Below w.heap.size w Wx) (v0 v1 : Value) :
    (((Wx.setCell ⟨w.heap.size, 0, none⟩ v0).setCell ⟨w.heap.size, 1, none⟩ v1)).heap[w.heap.size]? = some (.cells #[v0, v1] t (0, 0)) ∧ Below w.heap.size w (((Wx.setCell ⟨w.heap.size, 0, none⟩ v0).setCell ⟨w.heap.size, 1, none⟩ v1)) := by
  have h0 := hbox
  have b0 := hbel
  have h1 : (Wx.setCell ⟨w.heap.size, 0, none⟩ v0).heap[w.heap.size]? = some (.cells #[v0, a1] t (0, 0)) := put_box h0 0 v0 (by simp)
  have b1 : Below w.heap.size w (Wx.setCell ⟨w.heap.size, 0, none⟩ v0) := below_set b0 (Nat.le_refl _)
  generalize (Wx.setCell ⟨w.heap.size, 0, none⟩ v0) = Y1 at h1 b1  ⊢
  have h2 : (Y1.setCell ⟨w.heap.size, 1, none⟩ v1).heap[w.heap.size]? = some (.cells #[v0, v1] t (0, 0)) := put_box h1 1 v1 (by simp)
  have b2 : Below w.heap.size w (Y1.setCell ⟨w.heap.size, 1, none⟩ v1) := below_set b1 (Nat.le_refl _)
  generalize (Y1.setCell ⟨w.heap.size, 1, none⟩ v1) = Y2 at h2 b2  ⊢
  exact ⟨h2, b2⟩
theorem closenb3 {w Wx : World} {t : TypeId} {a0 a1 a2 : Value} (hbox : Wx.heap[w.heap.size]? = some (.cells #[a0, a1, a2] t (0, 0))) (hbel : Below w.heap.size w Wx) (v0 v1 v2 : Value) :
    ((((Wx.setCell ⟨w.heap.size, 0, none⟩ v0).setCell ⟨w.heap.size, 1, none⟩ v1).setCell ⟨w.heap.size, 2, none⟩ v2)).heap[w.heap.size]? = some (.cells #[v0, v1, v2] t (0, 0)) ∧ Below w.heap.size w ((((Wx.setCell ⟨w.heap.size, 0, none⟩ v0).setCell ⟨w.heap.size, 1, none⟩ v1).setCell ⟨w.heap.size, 2, none⟩ v2)) := by
  have h0 := hbox
  have b0 := hbel
  have h1 : (Wx.setCell ⟨w.heap.size, 0, none⟩ v0).heap[w.heap.size]? = some (.cells #[v0, a1, a2] t (0, 0)) := put_box h0 0 v0 (by simp)
  have b1 : Below w.heap.size w (Wx.setCell ⟨w.heap.size, 0, none⟩ v0) := below_set b0 (Nat.le_refl _)
  generalize (Wx.setCell ⟨w.heap.size, 0, none⟩ v0) = Y1 at h1 b1  ⊢
  have h2 : (Y1.setCell ⟨w.heap.size, 1, none⟩ v1).heap[w.heap.size]? = some (.cells #[v0, v1, a2] t (0, 0)) := put_box h1 1 v1 (by simp)
  have b2 : Below w.heap.size w (Y1.setCell ⟨w.heap.size, 1, none⟩ v1) := below_set b1 (Nat.le_refl _)
  generalize (Y1.setCell ⟨w.heap.size, 1, none⟩ v1) = Y2 at h2 b2  ⊢
  have h3 : (Y2.setCell ⟨w.heap.size, 2, none⟩ v2).heap[w.heap.size]? = some (.cells #[v0, v1, v2] t (0, 0)) := put_box h2 2 v2 (by simp)
  have b3 : Below w.heap.size w (Y2.setCell ⟨w.heap.size, 2, none⟩ v2) := below_set b2 (Nat.le_refl _)
  generalize (Y2.setCell ⟨w.heap.size, 2, none⟩ v2) = Y3 at h3 b3  ⊢
  exact ⟨h3, b3⟩
theorem closenb4 {w Wx : World} {t : TypeId} {a0 a1 a2 a3 : Value} (hbox : Wx.heap[w.heap.size]? = some (.cells #[a0, a1, a2, a3] t (0, 0))) (hbel : Below w.heap.size w Wx) (v0 v1 v2 v3 : Value) :
    (((((Wx.setCell ⟨w.heap.size, 0, none⟩ v0).setCell ⟨w.heap.size, 1, none⟩ v1).setCell ⟨w.heap.size, 2, none⟩ v2).setCell ⟨w.heap.size, 3, none⟩ v3)).heap[w.heap.size]? = some (.cells #[v0, v1, v2, v3] t (0, 0)) ∧ Below w.heap.size w (((((Wx.setCell ⟨w.heap.size, 0, none⟩ v0).setCell ⟨w.heap.size, 1, none⟩ v1).setCell ⟨w.heap.size, 2, none⟩ v2).setCell ⟨w.heap.size, 3, none⟩ v3)) := by
  have h0 := hbox
  have b0 := hbel
  have h1 : (Wx.setCell ⟨w.heap.size, 0, none⟩ v0).heap[w.heap.size]? = some (.cells #[v0, a1, a2, a3] t (0, 0)) := put_box h0 0 v0 (by simp)
  have b1 : Below w.heap.size w (Wx.setCell ⟨w.heap.size, 0, none⟩ v0) := below_set b0 (Nat.le_refl _)
  generalize (Wx.setCell ⟨w.heap.size, 0, none⟩ v0) = Y1 at h1 b1  ⊢
  have h2 : (Y1.setCell ⟨w.heap.size, 1, none⟩ v1).heap[w.heap.size]? = some (.cells #[v0, v1, a2, a3] t (0, 0)) := put_box h1 1 v1 (by simp)
  have b2 : Below w.heap.size w (Y1.setCell ⟨w.heap.size, 1, none⟩ v1) := below_set b1 (Nat.le_refl _)
  generalize (Y1.setCell ⟨w.heap.size, 1, none⟩ v1) = Y2 at h2 b2  ⊢
  have h3 : (Y2.setCell ⟨w.heap.size, 2, none⟩ v2).heap[w.heap.size]? = some (.cells #[v0, v1, v2, a3] t (0, 0)) := put_box h2 2 v2 (by simp)
  have b3 : Below w.heap.size w (Y2.setCell ⟨w.heap.size, 2, none⟩ v2) := below_set b2 (Nat.le_refl _)
  generalize (Y2.setCell ⟨w.heap.size, 2, none⟩ v2) = Y3 at h3 b3  ⊢
  have h4 : (Y3.setCell ⟨w.heap.size, 3, none⟩ v3).heap[w.heap.size]? = some (.cells #[v0, v1, v2, v3] t (0, 0)) := put_box h3 3 v3 (by simp)
  have b4 : Below w.heap.size w (Y3.setCell ⟨w.heap.size, 3, none⟩ v3) := below_set b3 (Nat.le_refl _)
  generalize (Y3.setCell ⟨w.heap.size, 3, none⟩ v3) = Y4 at h4 b4  ⊢
  exact ⟨h4, b4⟩
theorem closenb5 {w Wx : World} {t : TypeId} {a0 a1 a2 a3 a4 : Value} (hbox : Wx.heap[w.heap.size]? = some (.cells #[a0, a1, a2, a3, a4] t (0, 0))) (hbel : Below w.heap.size w Wx) (v0 v1 v2 v3 v4 : Value) :
    ((((((Wx.setCell ⟨w.heap.size, 0, none⟩ v0).setCell ⟨w.heap.size, 1, none⟩ v1).setCell ⟨w.heap.size, 2, none⟩ v2).setCell ⟨w.heap.size, 3, none⟩ v3).setCell ⟨w.heap.size, 4, none⟩ v4)).heap[w.heap.size]? = some (.cells #[v0, v1, v2, v3, v4] t (0, 0)) ∧ Below w.heap.size w ((((((Wx.setCell ⟨w.heap.size, 0, none⟩ v0).setCell ⟨w.heap.size, 1, none⟩ v1).setCell ⟨w.heap.size, 2, none⟩ v2).setCell ⟨w.heap.size, 3, none⟩ v3).setCell ⟨w.heap.size, 4, none⟩ v4)) := by
  have h0 := hbox
  have b0 := hbel
  have h1 : (Wx.setCell ⟨w.heap.size, 0, none⟩ v0).heap[w.heap.size]? = some (.cells #[v0, a1, a2, a3, a4] t (0, 0)) := put_box h0 0 v0 (by simp)
  have b1 : Below w.heap.size w (Wx.setCell ⟨w.heap.size, 0, none⟩ v0) := below_set b0 (Nat.le_refl _)
  generalize (Wx.setCell ⟨w.heap.size, 0, none⟩ v0) = Y1 at h1 b1  ⊢
  have h2 : (Y1.setCell ⟨w.heap.size, 1, none⟩ v1).heap[w.heap.size]? = some (.cells #[v0, v1, a2, a3, a4] t (0, 0)) := put_box h1 1 v1 (by simp)
  have b2 : Below w.heap.size w (Y1.setCell ⟨w.heap.size, 1, none⟩ v1) := below_set b1 (Nat.le_refl _)
  generalize (Y1.setCell ⟨w.heap.size, 1, none⟩ v1) = Y2 at h2 b2  ⊢
  have h3 : (Y2.setCell ⟨w.heap.size, 2, none⟩ v2).heap[w.heap.size]? = some (.cells #[v0, v1, v2, a3, a4] t (0, 0)) := put_box h2 2 v2 (by simp)
  have b3 : Below w.heap.size w (Y2.setCell ⟨w.heap.size, 2, none⟩ v2) := below_set b2 (Nat.le_refl _)
  generalize (Y2.setCell ⟨w.heap.size, 2, none⟩ v2) = Y3 at h3 b3  ⊢
  have h4 : (Y3.setCell ⟨w.heap.size, 3, none⟩ v3).heap[w.heap.size]? = some (.cells #[v0, v1, v2, v3, a4] t (0, 0)) := put_box h3 3 v3 (by simp)
  have b4 : Below w.heap.size w (Y3.setCell ⟨w.heap.size, 3, none⟩ v3) := below_set b3 (Nat.le_refl _)
  generalize (Y3.setCell ⟨w.heap.size, 3, none⟩ v3) = Y4 at h4 b4  ⊢
  have h5 : (Y4.setCell ⟨w.heap.size, 4, none⟩ v4).heap[w.heap.size]? = some (.cells #[v0, v1, v2, v3, v4] t (0, 0)) := put_box h4 4 v4 (by simp)
  have b5 : Below w.heap.size w (Y4.setCell ⟨w.heap.size, 4, none⟩ v4) := below_set b4 (Nat.le_refl _)
  generalize (Y4.setCell ⟨w.heap.size, 4, none⟩ v4) = Y5 at h5 b5  ⊢
  exact ⟨h5, b5⟩
theorem closenb6 {w Wx : World} {t : TypeId} {a0 a1 a2 a3 a4 a5 : Value} (hbox : Wx.heap[w.heap.size]? = some (.cells #[a0, a1, a2, a3, a4, a5] t (0, 0))) (hbel : Below w.heap.size w Wx) (v0 v1 v2 v3 v4 v5 : Value) :
    (((((((Wx.setCell ⟨w.heap.size, 0, none⟩ v0).setCell ⟨w.heap.size, 1, none⟩ v1).setCell ⟨w.heap.size, 2, none⟩ v2).setCell ⟨w.heap.size, 3, none⟩ v3).setCell ⟨w.heap.size, 4, none⟩ v4).setCell ⟨w.heap.size, 5, none⟩ v5)).heap[w.heap.size]? = some (.cells #[v0, v1, v2, v3, v4, v5] t (0, 0)) ∧ Below w.heap.size w (((((((Wx.setCell ⟨w.heap.size, 0, none⟩ v0).setCell ⟨w.heap.size, 1, none⟩ v1).setCell ⟨w.heap.size, 2, none⟩ v2).setCell ⟨w.heap.size, 3, none⟩ v3).setCell ⟨w.heap.size, 4, none⟩ v4).setCell ⟨w.heap.size, 5, none⟩ v5)) := by
  have h0 := hbox
  have b0 := hbel
  have h1 : (Wx.setCell ⟨w.heap.size, 0, none⟩ v0).heap[w.heap.size]? = some (.cells #[v0, a1, a2, a3, a4, a5] t (0, 0)) := put_box h0 0 v0 (by simp)
  have b1 : Below w.heap.size w (Wx.setCell ⟨w.heap.size, 0, none⟩ v0) := below_set b0 (Nat.le_refl _)
  generalize (Wx.setCell ⟨w.heap.size, 0, none⟩ v0) = Y1 at h1 b1  ⊢
  have h2 : (Y1.setCell ⟨w.heap.size, 1, none⟩ v1).heap[w.heap.size]? = some (.cells #[v0, v1, a2, a3, a4, a5] t (0, 0)) := put_box h1 1 v1 (by simp)
  have b2 : Below w.heap.size w (Y1.setCell ⟨w.heap.size, 1, none⟩ v1) := below_set b1 (Nat.le_refl _)
  generalize (Y1.setCell ⟨w.heap.size, 1, none⟩ v1) = Y2 at h2 b2  ⊢
  have h3 : (Y2.setCell ⟨w.heap.size, 2, none⟩ v2).heap[w.heap.size]? = some (.cells #[v0, v1, v2, a3, a4, a5] t (0, 0)) := put_box h2 2 v2 (by simp)
  have b3 : Below w.heap.size w (Y2.setCell ⟨w.heap.size, 2, none⟩ v2) := below_set b2 (Nat.le_refl _)
  generalize (Y2.setCell ⟨w.heap.size, 2, none⟩ v2) = Y3 at h3 b3  ⊢
  have h4 : (Y3.setCell ⟨w.heap.size, 3, none⟩ v3).heap[w.heap.size]? = some (.cells #[v0, v1, v2, v3, a4, a5] t (0, 0)) := put_box h3 3 v3 (by simp)
  have b4 : Below w.heap.size w (Y3.setCell ⟨w.heap.size, 3, none⟩ v3) := below_set b3 (Nat.le_refl _)
  generalize (Y3.setCell ⟨w.heap.size, 3, none⟩ v3) = Y4 at h4 b4  ⊢
  have h5 : (Y4.setCell ⟨w.heap.size, 4, none⟩ v4).heap[w.heap.size]? = some (.cells #[v0, v1, v2, v3, v4, a5] t (0, 0)) := put_box h4 4 v4 (by simp)
  have b5 : Below w.heap.size w (Y4.setCell ⟨w.heap.size, 4, none⟩ v4) := below_set b4 (Nat.le_refl _)
  generalize (Y4.setCell ⟨w.heap.size, 4, none⟩ v4) = Y5 at h5 b5  ⊢
  have h6 : (Y5.setCell ⟨w.heap.size, 5, none⟩ v5).heap[w.heap.size]? = some (.cells #[v0, v1, v2, v3, v4, v5] t (0, 0)) := put_box h5 5 v5 (by simp)
  have b6 : Below w.heap.size w (Y5.setCell ⟨w.heap.size, 5, none⟩ v5) := below_set b5 (Nat.le_refl _)
  generalize (Y5.setCell ⟨w.heap.size, 5, none⟩ v5) = Y6 at h6 b6  ⊢
  exact ⟨h6, b6⟩
theorem closen3 {w Wx : World} {t : TypeId} {a0 a1 a2 : Value} {B e n : Nat} {v : Value} {xs : List Value} (hbox : Wx.heap[w.heap.size]? = some (.cells #[a0, a1, a2] t (0, 0))) (hbel : Below w.heap.size w Wx) (how : Wx.ownsRow B e 1 v n xs) (hB : w.heap.size < B) (v0 v1 v2 : Value) :
    ((((Wx.setCell ⟨w.heap.size, 0, none⟩ v0).setCell ⟨w.heap.size, 1, none⟩ v1).setCell ⟨w.heap.size, 2, none⟩ v2)).heap[w.heap.size]? = some (.cells #[v0, v1, v2] t (0, 0)) ∧ Below w.heap.size w ((((Wx.setCell ⟨w.heap.size, 0, none⟩ v0).setCell ⟨w.heap.size, 1, none⟩ v1).setCell ⟨w.heap.size, 2, none⟩ v2)) ∧ ((((Wx.setCell ⟨w.heap.size, 0, none⟩ v0).setCell ⟨w.heap.size, 1, none⟩ v1).setCell ⟨w.heap.size, 2, none⟩ v2)).ownsRow B e 1 v n xs := by
  have h0 := hbox
  have b0 := hbel
  have o0 := how
  have h1 : (Wx.setCell ⟨w.heap.size, 0, none⟩ v0).heap[w.heap.size]? = some (.cells #[v0, a1, a2] t (0, 0)) := put_box h0 0 v0 (by simp)
  have b1 : Below w.heap.size w (Wx.setCell ⟨w.heap.size, 0, none⟩ v0) := below_set b0 (Nat.le_refl _)
  have o1 : (Wx.setCell ⟨w.heap.size, 0, none⟩ v0).ownsRow B e 1 v n xs := owns_same o0 fun g hg => Below.heap_setCell _ _ _ _ (by have := (owns_lt o0 g hg).2; show g ≠ w.heap.size; omega)
  generalize (Wx.setCell ⟨w.heap.size, 0, none⟩ v0) = Y1 at h1 b1 o1 ⊢
  have h2 : (Y1.setCell ⟨w.heap.size, 1, none⟩ v1).heap[w.heap.size]? = some (.cells #[v0, v1, a2] t (0, 0)) := put_box h1 1 v1 (by simp)
  have b2 : Below w.heap.size w (Y1.setCell ⟨w.heap.size, 1, none⟩ v1) := below_set b1 (Nat.le_refl _)
  have o2 : (Y1.setCell ⟨w.heap.size, 1, none⟩ v1).ownsRow B e 1 v n xs := owns_same o1 fun g hg => Below.heap_setCell _ _ _ _ (by have := (owns_lt o1 g hg).2; show g ≠ w.heap.size; omega)
  generalize (Y1.setCell ⟨w.heap.size, 1, none⟩ v1) = Y2 at h2 b2 o2 ⊢
  have h3 : (Y2.setCell ⟨w.heap.size, 2, none⟩ v2).heap[w.heap.size]? = some (.cells #[v0, v1, v2] t (0, 0)) := put_box h2 2 v2 (by simp)
  have b3 : Below w.heap.size w (Y2.setCell ⟨w.heap.size, 2, none⟩ v2) := below_set b2 (Nat.le_refl _)
  have o3 : (Y2.setCell ⟨w.heap.size, 2, none⟩ v2).ownsRow B e 1 v n xs := owns_same o2 fun g hg => Below.heap_setCell _ _ _ _ (by have := (owns_lt o2 g hg).2; show g ≠ w.heap.size; omega)
  generalize (Y2.setCell ⟨w.heap.size, 2, none⟩ v2) = Y3 at h3 b3 o3 ⊢
  exact ⟨h3, b3, o3⟩
theorem closen4 {w Wx : World} {t : TypeId} {a0 a1 a2 a3 : Value} {B e n : Nat} {v : Value} {xs : List Value} (hbox : Wx.heap[w.heap.size]? = some (.cells #[a0, a1, a2, a3] t (0, 0))) (hbel : Below w.heap.size w Wx) (how : Wx.ownsRow B e 1 v n xs) (hB : w.heap.size < B) (v0 v1 v2 v3 : Value) :
    (((((Wx.setCell ⟨w.heap.size, 0, none⟩ v0).setCell ⟨w.heap.size, 1, none⟩ v1).setCell ⟨w.heap.size, 2, none⟩ v2).setCell ⟨w.heap.size, 3, none⟩ v3)).heap[w.heap.size]? = some (.cells #[v0, v1, v2, v3] t (0, 0)) ∧ Below w.heap.size w (((((Wx.setCell ⟨w.heap.size, 0, none⟩ v0).setCell ⟨w.heap.size, 1, none⟩ v1).setCell ⟨w.heap.size, 2, none⟩ v2).setCell ⟨w.heap.size, 3, none⟩ v3)) ∧ (((((Wx.setCell ⟨w.heap.size, 0, none⟩ v0).setCell ⟨w.heap.size, 1, none⟩ v1).setCell ⟨w.heap.size, 2, none⟩ v2).setCell ⟨w.heap.size, 3, none⟩ v3)).ownsRow B e 1 v n xs := by
  have h0 := hbox
  have b0 := hbel
  have o0 := how
  have h1 : (Wx.setCell ⟨w.heap.size, 0, none⟩ v0).heap[w.heap.size]? = some (.cells #[v0, a1, a2, a3] t (0, 0)) := put_box h0 0 v0 (by simp)
  have b1 : Below w.heap.size w (Wx.setCell ⟨w.heap.size, 0, none⟩ v0) := below_set b0 (Nat.le_refl _)
  have o1 : (Wx.setCell ⟨w.heap.size, 0, none⟩ v0).ownsRow B e 1 v n xs := owns_same o0 fun g hg => Below.heap_setCell _ _ _ _ (by have := (owns_lt o0 g hg).2; show g ≠ w.heap.size; omega)
  generalize (Wx.setCell ⟨w.heap.size, 0, none⟩ v0) = Y1 at h1 b1 o1 ⊢
  have h2 : (Y1.setCell ⟨w.heap.size, 1, none⟩ v1).heap[w.heap.size]? = some (.cells #[v0, v1, a2, a3] t (0, 0)) := put_box h1 1 v1 (by simp)
  have b2 : Below w.heap.size w (Y1.setCell ⟨w.heap.size, 1, none⟩ v1) := below_set b1 (Nat.le_refl _)
  have o2 : (Y1.setCell ⟨w.heap.size, 1, none⟩ v1).ownsRow B e 1 v n xs := owns_same o1 fun g hg => Below.heap_setCell _ _ _ _ (by have := (owns_lt o1 g hg).2; show g ≠ w.heap.size; omega)
  generalize (Y1.setCell ⟨w.heap.size, 1, none⟩ v1) = Y2 at h2 b2 o2 ⊢
  have h3 : (Y2.setCell ⟨w.heap.size, 2, none⟩ v2).heap[w.heap.size]? = some (.cells #[v0, v1, v2, a3] t (0, 0)) := put_box h2 2 v2 (by simp)
  have b3 : Below w.heap.size w (Y2.setCell ⟨w.heap.size, 2, none⟩ v2) := below_set b2 (Nat.le_refl _)
  have o3 : (Y2.setCell ⟨w.heap.size, 2, none⟩ v2).ownsRow B e 1 v n xs := owns_same o2 fun g hg => Below.heap_setCell _ _ _ _ (by have := (owns_lt o2 g hg).2; show g ≠ w.heap.size; omega)
  generalize (Y2.setCell ⟨w.heap.size, 2, none⟩ v2) = Y3 at h3 b3 o3 ⊢
  have h4 : (Y3.setCell ⟨w.heap.size, 3, none⟩ v3).heap[w.heap.size]? = some (.cells #[v0, v1, v2, v3] t (0, 0)) := put_box h3 3 v3 (by simp)
  have b4 : Below w.heap.size w (Y3.setCell ⟨w.heap.size, 3, none⟩ v3) := below_set b3 (Nat.le_refl _)
  have o4 : (Y3.setCell ⟨w.heap.size, 3, none⟩ v3).ownsRow B e 1 v n xs := owns_same o3 fun g hg => Below.heap_setCell _ _ _ _ (by have := (owns_lt o3 g hg).2; show g ≠ w.heap.size; omega)
  generalize (Y3.setCell ⟨w.heap.size, 3, none⟩ v3) = Y4 at h4 b4 o4 ⊢
  exact ⟨h4, b4, o4⟩
theorem closen5 {w Wx : World} {t : TypeId} {a0 a1 a2 a3 a4 : Value} {B e n : Nat} {v : Value} {xs : List Value} (hbox : Wx.heap[w.heap.size]? = some (.cells #[a0, a1, a2, a3, a4] t (0, 0))) (hbel : Below w.heap.size w Wx) (how : Wx.ownsRow B e 1 v n xs) (hB : w.heap.size < B) (v0 v1 v2 v3 v4 : Value) :
    ((((((Wx.setCell ⟨w.heap.size, 0, none⟩ v0).setCell ⟨w.heap.size, 1, none⟩ v1).setCell ⟨w.heap.size, 2, none⟩ v2).setCell ⟨w.heap.size, 3, none⟩ v3).setCell ⟨w.heap.size, 4, none⟩ v4)).heap[w.heap.size]? = some (.cells #[v0, v1, v2, v3, v4] t (0, 0)) ∧ Below w.heap.size w ((((((Wx.setCell ⟨w.heap.size, 0, none⟩ v0).setCell ⟨w.heap.size, 1, none⟩ v1).setCell ⟨w.heap.size, 2, none⟩ v2).setCell ⟨w.heap.size, 3, none⟩ v3).setCell ⟨w.heap.size, 4, none⟩ v4)) ∧ ((((((Wx.setCell ⟨w.heap.size, 0, none⟩ v0).setCell ⟨w.heap.size, 1, none⟩ v1).setCell ⟨w.heap.size, 2, none⟩ v2).setCell ⟨w.heap.size, 3, none⟩ v3).setCell ⟨w.heap.size, 4, none⟩ v4)).ownsRow B e 1 v n xs := by
  have h0 := hbox
  have b0 := hbel
  have o0 := how
  have h1 : (Wx.setCell ⟨w.heap.size, 0, none⟩ v0).heap[w.heap.size]? = some (.cells #[v0, a1, a2, a3, a4] t (0, 0)) := put_box h0 0 v0 (by simp)
  have b1 : Below w.heap.size w (Wx.setCell ⟨w.heap.size, 0, none⟩ v0) := below_set b0 (Nat.le_refl _)
  have o1 : (Wx.setCell ⟨w.heap.size, 0, none⟩ v0).ownsRow B e 1 v n xs := owns_same o0 fun g hg => Below.heap_setCell _ _ _ _ (by have := (owns_lt o0 g hg).2; show g ≠ w.heap.size; omega)
  generalize (Wx.setCell ⟨w.heap.size, 0, none⟩ v0) = Y1 at h1 b1 o1 ⊢
  have h2 : (Y1.setCell ⟨w.heap.size, 1, none⟩ v1).heap[w.heap.size]? = some (.cells #[v0, v1, a2, a3, a4] t (0, 0)) := put_box h1 1 v1 (by simp)
  have b2 : Below w.heap.size w (Y1.setCell ⟨w.heap.size, 1, none⟩ v1) := below_set b1 (Nat.le_refl _)
  have o2 : (Y1.setCell ⟨w.heap.size, 1, none⟩ v1).ownsRow B e 1 v n xs := owns_same o1 fun g hg => Below.heap_setCell _ _ _ _ (by have := (owns_lt o1 g hg).2; show g ≠ w.heap.size; omega)
  generalize (Y1.setCell ⟨w.heap.size, 1, none⟩ v1) = Y2 at h2 b2 o2 ⊢
  have h3 : (Y2.setCell ⟨w.heap.size, 2, none⟩ v2).heap[w.heap.size]? = some (.cells #[v0, v1, v2, a3, a4] t (0, 0)) := put_box h2 2 v2 (by simp)
  have b3 : Below w.heap.size w (Y2.setCell ⟨w.heap.size, 2, none⟩ v2) := below_set b2 (Nat.le_refl _)
  have o3 : (Y2.setCell ⟨w.heap.size, 2, none⟩ v2).ownsRow B e 1 v n xs := owns_same o2 fun g hg => Below.heap_setCell _ _ _ _ (by have := (owns_lt o2 g hg).2; show g ≠ w.heap.size; omega)
  generalize (Y2.setCell ⟨w.heap.size, 2, none⟩ v2) = Y3 at h3 b3 o3 ⊢
  have h4 : (Y3.setCell ⟨w.heap.size, 3, none⟩ v3).heap[w.heap.size]? = some (.cells #[v0, v1, v2, v3, a4] t (0, 0)) := put_box h3 3 v3 (by simp)
  have b4 : Below w.heap.size w (Y3.setCell ⟨w.heap.size, 3, none⟩ v3) := below_set b3 (Nat.le_refl _)
  have o4 : (Y3.setCell ⟨w.heap.size, 3, none⟩ v3).ownsRow B e 1 v n xs := owns_same o3 fun g hg => Below.heap_setCell _ _ _ _ (by have := (owns_lt o3 g hg).2; show g ≠ w.heap.size; omega)
  generalize (Y3.setCell ⟨w.heap.size, 3, none⟩ v3) = Y4 at h4 b4 o4 ⊢
  have h5 : (Y4.setCell ⟨w.heap.size, 4, none⟩ v4).heap[w.heap.size]? = some (.cells #[v0, v1, v2, v3, v4] t (0, 0)) := put_box h4 4 v4 (by simp)
  have b5 : Below w.heap.size w (Y4.setCell ⟨w.heap.size, 4, none⟩ v4) := below_set b4 (Nat.le_refl _)
  have o5 : (Y4.setCell ⟨w.heap.size, 4, none⟩ v4).ownsRow B e 1 v n xs := owns_same o4 fun g hg => Below.heap_setCell _ _ _ _ (by have := (owns_lt o4 g hg).2; show g ≠ w.heap.size; omega)
  generalize (Y4.setCell ⟨w.heap.size, 4, none⟩ v4) = Y5 at h5 b5 o5 ⊢
  exact ⟨h5, b5, o5⟩
theorem closen6 {w Wx : World} {t : TypeId} {a0 a1 a2 a3 a4 a5 : Value} {B e n : Nat} {v : Value} {xs : List Value} (hbox : Wx.heap[w.heap.size]? = some (.cells #[a0, a1, a2, a3, a4, a5] t (0, 0))) (hbel : Below w.heap.size w Wx) (how : Wx.ownsRow B e 1 v n xs) (hB : w.heap.size < B) (v0 v1 v2 v3 v4 v5 : Value) :
    (((((((Wx.setCell ⟨w.heap.size, 0, none⟩ v0).setCell ⟨w.heap.size, 1, none⟩ v1).setCell ⟨w.heap.size, 2, none⟩ v2).setCell ⟨w.heap.size, 3, none⟩ v3).setCell ⟨w.heap.size, 4, none⟩ v4).setCell ⟨w.heap.size, 5, none⟩ v5)).heap[w.heap.size]? = some (.cells #[v0, v1, v2, v3, v4, v5] t (0, 0)) ∧ Below w.heap.size w (((((((Wx.setCell ⟨w.heap.size, 0, none⟩ v0).setCell ⟨w.heap.size, 1, none⟩ v1).setCell ⟨w.heap.size, 2, none⟩ v2).setCell ⟨w.heap.size, 3, none⟩ v3).setCell ⟨w.heap.size, 4, none⟩ v4).setCell ⟨w.heap.size, 5, none⟩ v5)) ∧ (((((((Wx.setCell ⟨w.heap.size, 0, none⟩ v0).setCell ⟨w.heap.size, 1, none⟩ v1).setCell ⟨w.heap.size, 2, none⟩ v2).setCell ⟨w.heap.size, 3, none⟩ v3).setCell ⟨w.heap.size, 4, none⟩ v4).setCell ⟨w.heap.size, 5, none⟩ v5)).ownsRow B e 1 v n xs := by
  have h0 := hbox
  have b0 := hbel
  have o0 := how
  have h1 : (Wx.setCell ⟨w.heap.size, 0, none⟩ v0).heap[w.heap.size]? = some (.cells #[v0, a1, a2, a3, a4, a5] t (0, 0)) := put_box h0 0 v0 (by simp)
  have b1 : Below w.heap.size w (Wx.setCell ⟨w.heap.size, 0, none⟩ v0) := below_set b0 (Nat.le_refl _)
  have o1 : (Wx.setCell ⟨w.heap.size, 0, none⟩ v0).ownsRow B e 1 v n xs := owns_same o0 fun g hg => Below.heap_setCell _ _ _ _ (by have := (owns_lt o0 g hg).2; show g ≠ w.heap.size; omega)
  generalize (Wx.setCell ⟨w.heap.size, 0, none⟩ v0) = Y1 at h1 b1 o1 ⊢
  have h2 : (Y1.setCell ⟨w.heap.size, 1, none⟩ v1).heap[w.heap.size]? = some (.cells #[v0, v1, a2, a3, a4, a5] t (0, 0)) := put_box h1 1 v1 (by simp)
  have b2 : Below w.heap.size w (Y1.setCell ⟨w.heap.size, 1, none⟩ v1) := below_set b1 (Nat.le_refl _)
  have o2 : (Y1.setCell ⟨w.heap.size, 1, none⟩ v1).ownsRow B e 1 v n xs := owns_same o1 fun g hg => Below.heap_setCell _ _ _ _ (by have := (owns_lt o1 g hg).2; show g ≠ w.heap.size; omega)
  generalize (Y1.setCell ⟨w.heap.size, 1, none⟩ v1) = Y2 at h2 b2 o2 ⊢
  have h3 : (Y2.setCell ⟨w.heap.size, 2, none⟩ v2).heap[w.heap.size]? = some (.cells #[v0, v1, v2, a3, a4, a5] t (0, 0)) := put_box h2 2 v2 (by simp)
  have b3 : Below w.heap.size w (Y2.setCell ⟨w.heap.size, 2, none⟩ v2) := below_set b2 (Nat.le_refl _)
  have o3 : (Y2.setCell ⟨w.heap.size, 2, none⟩ v2).ownsRow B e 1 v n xs := owns_same o2 fun g hg => Below.heap_setCell _ _ _ _ (by have := (owns_lt o2 g hg).2; show g ≠ w.heap.size; omega)
  generalize (Y2.setCell ⟨w.heap.size, 2, none⟩ v2) = Y3 at h3 b3 o3 ⊢
  have h4 : (Y3.setCell ⟨w.heap.size, 3, none⟩ v3).heap[w.heap.size]? = some (.cells #[v0, v1, v2, v3, a4, a5] t (0, 0)) := put_box h3 3 v3 (by simp)
  have b4 : Below w.heap.size w (Y3.setCell ⟨w.heap.size, 3, none⟩ v3) := below_set b3 (Nat.le_refl _)
  have o4 : (Y3.setCell ⟨w.heap.size, 3, none⟩ v3).ownsRow B e 1 v n xs := owns_same o3 fun g hg => Below.heap_setCell _ _ _ _ (by have := (owns_lt o3 g hg).2; show g ≠ w.heap.size; omega)
  generalize (Y3.setCell ⟨w.heap.size, 3, none⟩ v3) = Y4 at h4 b4 o4 ⊢
  have h5 : (Y4.setCell ⟨w.heap.size, 4, none⟩ v4).heap[w.heap.size]? = some (.cells #[v0, v1, v2, v3, v4, a5] t (0, 0)) := put_box h4 4 v4 (by simp)
  have b5 : Below w.heap.size w (Y4.setCell ⟨w.heap.size, 4, none⟩ v4) := below_set b4 (Nat.le_refl _)
  have o5 : (Y4.setCell ⟨w.heap.size, 4, none⟩ v4).ownsRow B e 1 v n xs := owns_same o4 fun g hg => Below.heap_setCell _ _ _ _ (by have := (owns_lt o4 g hg).2; show g ≠ w.heap.size; omega)
  generalize (Y4.setCell ⟨w.heap.size, 4, none⟩ v4) = Y5 at h5 b5 o5 ⊢
  have h6 : (Y5.setCell ⟨w.heap.size, 5, none⟩ v5).heap[w.heap.size]? = some (.cells #[v0, v1, v2, v3, v4, v5] t (0, 0)) := put_box h5 5 v5 (by simp)
  have b6 : Below w.heap.size w (Y5.setCell ⟨w.heap.size, 5, none⟩ v5) := below_set b5 (Nat.le_refl _)
  have o6 : (Y5.setCell ⟨w.heap.size, 5, none⟩ v5).ownsRow B e 1 v n xs := owns_same o5 fun g hg => Below.heap_setCell _ _ _ _ (by have := (owns_lt o5 g hg).2; show g ≠ w.heap.size; omega)
  generalize (Y5.setCell ⟨w.heap.size, 5, none⟩ v5) = Y6 at h6 b6 o6 ⊢
  exact ⟨h6, b6, o6⟩
theorem results_cell_one {P : Program} {fn : Func} {p : Tmp} {ty : TypeId} (h : fn.results = #[.cell p ty]) (tmps : Array Value) (w : World) (g : Nat) (t : TypeId) (cs : Array Value) (fr : Nat × Nat) (d : TypeDesc)
    (hp : tmps.getD p undef = .pointer (some ⟨g, 0, none⟩)) (hg : w.heap[g]? = some (.cells cs t fr))
    (hu : P.underlying ty = some d) (hd : (match d with | .struct _ | .array _ _ => true | _ => false) = true) (hi : (P.info? ty).map (·.size) = some cs.size) :
    (results fn tmps).run P w = .ok (.agg cs) w := by
  have hp' : tmps[p]?.getD undef = .pointer (some ⟨g, 0, none⟩) := by simpa using hp
  simp [results, h, hp', asAddr, Sem.run_bind, Result.andThen, run_loadVar_row w g t ty cs fr d hg hu hd hi]
theorem infoT : (Tryd.prog.info? 25).map (·.size) = some 3 := by kernel_rfl
end Go.Proofs.YtjhickfjagalfabDoor

namespace Go.Proofs.YtjhickfjagalfabDoor
open Go.RowKit
set_option linter.unusedVariables false
set_option linter.unusedSimpArgs false
set_option maxRecDepth 100000
/-- the number of k bytes at a place -/
def vl (l : List Nat) (a k : Nat) : Nat := valB ((l.drop a).take k)
theorem vl_lt {w : World} {ao : Option Addr} {cap : Nat} {l : List Nat} (h : CRow w ao cap l) (a k : Nat) : vl l a k < 256 ^ k := valB_bound l a k h.row.lt
def greD (l : List Nat) : Nat × Nat × Nat :=
  if l.length < 18 then (0, 18, 10) else if vl l 0 8 ≠ mInit then (0, 0, 80) else if vl l 8 8 ≠ mHave then (0, 0, 80) else (vl l 16 2, 18, 0)
def flaD (l : List Nat) : Nat × Nat × Nat := if l.length < 4 then (0, 4, 10) else (vl l 0 4, 4, 0)
/-- how many bytes an answer to EXPORT_NAME has -/
def xz (z : Bool) : Nat := if z = true then 134 else 10
/-- are the bytes behind the tenth zeros? -/
def xzs (z : Bool) (l : List Nat) : Bool := ((l.take (xz z)).drop 10).all (· == 0)
def expD (z : Bool) (l : List Nat) : (Nat × Nat) × Nat × Nat :=
  if l.length < xz z then ((0, 0), xz z, 10) else if xzs z l = false then ((0, 0), 0, 81) else ((vl l 0 8, vl l 8 2), xz z, 0)
def simD (l : List Nat) : (Nat × Nat) × Nat × Nat :=
  if l.length < 16 then ((0, 0), 16, 10) else if vl l 0 4 ≠ mSimple then ((0, 0), 0, 80) else ((vl l 4 4, vl l 8 8), 16, 0)
def optD (most : Nat) (l : List Nat) : (Nat × Nat × Bool × List Nat) × Nat × Nat :=
  if l.length < 16 then ((0, 0, false, []), 16, 10)
  else if vl l 0 8 ≠ mHave then ((0, 0, false, []), 0, 80)
  else if most < vl l 12 4 then ((vl l 8 4, vl l 12 4, true, []), 16, 12)
  else if l.length < 16 + vl l 12 4 then ((0, 0, false, []), 16 + vl l 12 4, 10)
  else ((vl l 8 4, vl l 12 4, false, (l.drop 16).take (vl l 12 4)), 16 + vl l 12 4, 0)
def repD (most : Nat) (l : List Nat) : (Nat × Nat × List Nat) × Nat × Nat :=
  if l.length < 20 then ((0, 0, []), 20, 10)
  else if vl l 0 8 ≠ mReply then ((0, 0, []), 0, 80)
  else if most < vl l 16 4 then ((vl l 8 4, vl l 12 4, []), 20, 12)
  else if l.length < 20 + vl l 16 4 then ((0, 0, []), 20 + vl l 16 4, 10)
  else ((vl l 8 4, vl l 12 4, (l.drop 20).take (vl l 16 4)), 20 + vl l 16 4, 0)
def qz (ext : Bool) : Nat := if ext = true then 32 else 28
def qm (ext : Bool) : Nat := if ext = true then mReq64 else mReq
def qk (ext : Bool) : Nat := if ext = true then 8 else 4
def reqD (most : Nat) (ext : Bool) (l : List Nat) : (Nat × Nat × Nat × Nat × Nat × List Nat) × Nat × Nat :=
  if l.length < qz ext then ((0, 0, 0, 0, 0, []), qz ext, 10)
  else if vl l 0 4 ≠ qm ext then ((0, 0, 0, 0, 0, []), 0, 80)
  else if payB (vl l 4 2) (vl l 6 2) ext = false then ((vl l 4 2, vl l 6 2, vl l 8 8, vl l 16 8, vl l 24 (qk ext), []), qz ext, 0)
  else if most < vl l 24 (qk ext) then ((vl l 4 2, vl l 6 2, vl l 8 8, vl l 16 8, vl l 24 (qk ext), []), qz ext, 12)
  else if l.length < qz ext + vl l 24 (qk ext) then ((0, 0, 0, 0, 0, []), qz ext + vl l 24 (qk ext), 10)
  else ((vl l 4 2, vl l 6 2, vl l 8 8, vl l 16 8, vl l 24 (qk ext), (l.drop (qz ext)).take (vl l 24 (qk ext))), qz ext + vl l 24 (qk ext), 0)
def cz (ext : Bool) : Nat := if ext = true then 32 else 20
def cm (ext : Bool) : Nat := if ext = true then mChunk64 else mChunk
def cof (ext : Bool) (l : List Nat) : Nat := if ext = true then vl l 16 8 else 0
def cln (ext : Bool) (l : List Nat) : Nat := if ext = true then vl l 24 8 else vl l 16 4
def chkD (most : Nat) (ext : Bool) (l : List Nat) : (Nat × Nat × Nat × Nat × List Nat) × Nat × Nat :=
  if l.length < cz ext then ((0, 0, 0, 0, []), cz ext, 10)
  else if vl l 0 4 ≠ cm ext then ((0, 0, 0, 0, []), 0, 80)
  else if most < cln ext l then ((vl l 4 2, vl l 6 2, vl l 8 8, cof ext l, []), cz ext, 12)
  else if l.length < cz ext + cln ext l then ((0, 0, 0, 0, []), cz ext + cln ext l, 10)
  else ((vl l 4 2, vl l 6 2, vl l 8 8, cof ext l, (l.drop (cz ext)).take (cln ext l)), cz ext + cln ext l, 0)
end Go.Proofs.YtjhickfjagalfabDoor

namespace Go.Proofs.YtjhickfjagalfabDoor
open Go.RowKit
set_option linter.unusedVariables false
set_option linter.unusedSimpArgs false
set_option maxRecDepth 100000
set_option maxHeartbeats 400000 in
theorem same8_true (ao bo : Option Addr) (cap cap' n : Nat) (l : List Nat) (w : World) (h : BRow w ao cap l) (h' : BRow w bo cap' l) (hn : l.length = n) :
    Calls Tryd.prog 10 #[.slice ao n cap, .slice bo n cap'] w fun e w' => e = .returned (.bool true) ∧ Below w.heap.size w w' := by
  have H1 : Hid (Calls Tryd.prog 109 #[.slice ao n cap, .slice bo n cap'] w fun e w' => e = .returned (.bool true) ∧ ∃ q, w' = w.drewN q) := by
    have := same_any ao bo cap cap' l l w h h'
    rw [hn] at this
    simp at this
    exact this
  clear h h'
  have H2 : Hid (Calls Tryd.prog 46 #[.slice ao n cap, .slice bo n cap'] w fun e w' => e = .returned (.bool true) ∧ ∃ q, w' = w.drewN q) := by
    show Calls _ _ _ _ _
    go_enter Tryd.func46, Tryd.ntmps46
    go_wp2_with fail
    refine H1.out.mono ?_
    rintro e w1 ⟨rfl, q, hw⟩
    rw [hw]; clear hw
    go_wp2
    go_ret
    exact ⟨rfl, q, rfl⟩
  clear H1
  go_enter Tryd.func10, Tryd.ntmps10
  go_wp2_with fail
  refine H2.out.mono ?_
  rintro e w1 ⟨rfl, q, hw⟩
  rw [hw]; clear hw
  go_wp2
  go_ret
  exact ⟨rfl, ⟨rfl, rfl, rfl, Nat.le_refl _, fun _ _ => rfl⟩⟩
/-- how many zeros an export has -/
def zn (z : Bool) : Nat := if z = true then 124 else 0
def XL (s f : Nat) (z : Bool) : List Nat := xL s f ++ List.replicate (zn z) 0
theorem XL_len (s f : Nat) (z : Bool) : (XL s f z).length = 10 + zn z := by simp [XL, xL, bigTo_length]; omega
theorem encExport (s f : Nat) (z : Bool) (w : World) (hs : s < 18446744073709551616) (hf : f < 65536) :
    Calls Tryd.prog 35 #[.agg #[.int .u64 (s : Int), .int .u16 (f : Int)], .bool z] w fun e w' => ∃ ao cap, e = .returned (.slice ao (10 + zn z) cap) ∧ Row w w' ao cap (XL s f z) := by
  rw [← XL_len s f z]
  cases z with
  | true => exact encExport1 s f w hs hf
  | false => exact encExport0 s f w hs hf
end Go.Proofs.YtjhickfjagalfabDoor

namespace Go.Proofs.YtjhickfjagalfabDoor
open Go.RowKit
set_option linter.unusedVariables false
set_option linter.unusedSimpArgs false
set_option maxRecDepth 100000
/-- what is laid down of an option, and the error -/
def oC (c k : Nat) (lg : Bool) (d : List Nat) : List Nat := if lg = false ∧ k = d.length then oL c d else []
def oE (k : Nat) (lg : Bool) (d : List Nat) : Nat := if lg = false ∧ k = d.length then 0 else 81
def qC (f t c o n : Nat) (d : List Nat) (ext : Bool) : List Nat := if fitB f t n d.length ext = true then qL f t c o n d ext else []
def qE (f t n : Nat) (d : List Nat) (ext : Bool) : Nat := if fitB f t n d.length ext = true then 0 else 81
def kC (f t c o : Nat) (d : List Nat) (ext : Bool) : List Nat := if ext = true then cL64 f t c o d else cL f t c d
theorem encOptionC (c k : Nat) (lg : Bool) (ao : Option Addr) (cap : Nat) (d : List Nat) (w : World) (hc : c < 4294967296) (hk : k < 4294967296) (hd : BRow w ao cap d) (hn : d.length < 4294967296) :
    Calls Tryd.prog 39 #[.agg #[.int .u32 (c : Int), .int .u32 (k : Int), .bool lg, .slice ao d.length cap]] w fun e w' => ∃ ao' cap', e = .returned (.tuple #[.slice ao' (oC c k lg d).length cap', .int .i64 (oE k lg d : Nat)]) ∧ Row w w' ao' cap' (oC c k lg d) := by
  by_cases h : lg = false ∧ k = d.length
  · unfold oC oE
    rw [if_pos h, if_pos h]
    obtain ⟨rfl, rfl⟩ := h
    exact encOption c ao cap d w hc hd (by omega) hn
  · unfold oC oE
    rw [if_neg h, if_neg h]
    refine (encOption_bad c k lg ao cap d w hk (by omega) (by cases lg <;> simp_all)).mono ?_
    rintro e w' ⟨rfl, hb⟩
    exact ⟨none, 0, rfl, row_nil w w' hb⟩
theorem encRequestC (f t c o n : Nat) (ao : Option Addr) (cap : Nat) (d : List Nat) (ext : Bool) (w : World) (hf : f < 65536) (ht : t < 65536) (hc : c < 18446744073709551616) (ho : o < 18446744073709551616) (hn64 : n < 18446744073709551616) (hd : BRow w ao cap d) (hn : d.length < 4294967296) :
    Calls Tryd.prog 43 #[.agg #[.int .u16 (f : Int), .int .u16 (t : Int), .int .u64 (c : Int), .int .u64 (o : Int), .int .u64 (n : Int), .slice ao d.length cap], .bool ext] w fun e w' => ∃ ao' cap', e = .returned (.tuple #[.slice ao' (qC f t c o n d ext).length cap', .int .i64 (qE f t n d ext : Nat)]) ∧ Row w w' ao' cap' (qC f t c o n d ext) := by
  cases ext with
  | true =>
    by_cases h : fitB f t n d.length true = true
    · unfold qC qE
      rw [if_pos h, if_pos h]
      exact encRequest_true f t c o n ao cap d w hf ht hc ho hn64 hd (by omega) h
    · unfold qC qE
      rw [if_neg h, if_neg h]
      refine (encRequest_bad f t c o n ao cap d true w hn64 (by omega) (by simpa using h)).mono ?_
      rintro e w' ⟨rfl, hb⟩
      exact ⟨none, 0, rfl, row_nil w w' hb⟩
  | false =>
    by_cases h : fitB f t n d.length false = true
    · unfold qC qE
      rw [if_pos h, if_pos h]
      exact encRequest_false f t c o n ao cap d w hf ht hc ho hn64 hd (by omega) h
    · unfold qC qE
      rw [if_neg h, if_neg h]
      refine (encRequest_bad f t c o n ao cap d false w hn64 (by omega) (by simpa using h)).mono ?_
      rintro e w' ⟨rfl, hb⟩
      exact ⟨none, 0, rfl, row_nil w w' hb⟩
theorem encChunkC (f t c o : Nat) (ao : Option Addr) (cap : Nat) (d : List Nat) (ext : Bool) (w : World) (hf : f < 65536) (ht : t < 65536) (hc : c < 18446744073709551616) (ho : o < 18446744073709551616) (hd : BRow w ao cap d) (hn : d.length < 4294967296) :
    Calls Tryd.prog 45 #[.agg #[.int .u16 (f : Int), .int .u16 (t : Int), .int .u64 (c : Int), .int .u64 (o : Int), .slice ao d.length cap], .bool ext] w fun e w' => ∃ ao' cap', e = .returned (.slice ao' (kC f t c o d ext).length cap') ∧ Row w w' ao' cap' (kC f t c o d ext) := by
  cases ext with
  | true => exact encChunk_true f t c o ao cap d w hf ht hc ho hd (by omega)
  | false => exact encChunk_false f t c o ao cap d w hf ht hc ho hd (by omega)
end Go.Proofs.YtjhickfjagalfabDoor

namespace Go.Proofs.YtjhickfjagalfabDoor
open Go.RowKit
set_option linter.unusedVariables false
set_option linter.unusedSimpArgs false
set_option maxRecDepth 100000
/-- what told says: how many bytes, the error, the message laid down again -/
def toD (k most : Nat) (l : List Nat) : Nat × Nat × List Nat :=
  match k with
  | 0 => ((greD l).2.1, (greD l).2.2, gL (greD l).1)
  | 1 => ((flaD l).2.1, (flaD l).2.2, bigTo (flaD l).1 4 4)
  | 2 => ((expD false l).2.1, (expD false l).2.2, XL (expD false l).1.1 (expD false l).1.2 false)
  | 3 => ((expD true l).2.1, (expD true l).2.2, XL (expD true l).1.1 (expD true l).1.2 true)
  | 4 => ((simD l).2.1, (simD l).2.2, sL (simD l).1.1 (simD l).1.2)
  | 5 => ((optD most l).2.1, (optD most l).2.2, oC (optD most l).1.1 (optD most l).1.2.1 (optD most l).1.2.2.1 (optD most l).1.2.2.2)
  | 6 => ((repD most l).2.1, (repD most l).2.2, rL (repD most l).1.1 (repD most l).1.2.1 (repD most l).1.2.2)
  | 7 => ((reqD most false l).2.1, (reqD most false l).2.2, qC (reqD most false l).1.1 (reqD most false l).1.2.1 (reqD most false l).1.2.2.1 (reqD most false l).1.2.2.2.1 (reqD most false l).1.2.2.2.2.1 (reqD most false l).1.2.2.2.2.2 false)
  | 8 => ((reqD most true l).2.1, (reqD most true l).2.2, qC (reqD most true l).1.1 (reqD most true l).1.2.1 (reqD most true l).1.2.2.1 (reqD most true l).1.2.2.2.1 (reqD most true l).1.2.2.2.2.1 (reqD most true l).1.2.2.2.2.2 true)
  | 9 => ((chkD most false l).2.1, (chkD most false l).2.2, kC (chkD most false l).1.1 (chkD most false l).1.2.1 (chkD most false l).1.2.2.1 (chkD most false l).1.2.2.2.1 (chkD most false l).1.2.2.2.2 false)
  | _ => ((chkD most true l).2.1, (chkD most true l).2.2, kC (chkD most true l).1.1 (chkD most true l).1.2.1 (chkD most true l).1.2.2.1 (chkD most true l).1.2.2.2.1 (chkD most true l).1.2.2.2.2 true)
theorem vlb {l : List Nat} (h : ∀ x ∈ l, x < 256) (a k : Nat) : vl l a k < 256 ^ k := valB_bound l a k h
theorem vl2 {l : List Nat} (h : ∀ x ∈ l, x < 256) (a : Nat) : vl l a 2 < 65536 := by simpa using vlb h a 2
theorem vl4 {l : List Nat} (h : ∀ x ∈ l, x < 256) (a : Nat) : vl l a 4 < 4294967296 := by simpa using vlb h a 4
theorem vl8 {l : List Nat} (h : ∀ x ∈ l, x < 256) (a : Nat) : vl l a 8 < 18446744073709551616 := by simpa using vlb h a 8
theorem greD_b {l : List Nat} (h : ∀ x ∈ l, x < 256) : (greD l).1 < 65536 := by
  have := vl2 h 16
  unfold greD; repeat' split
  all_goals simp <;> omega
theorem flaD_b {l : List Nat} (h : ∀ x ∈ l, x < 256) : (flaD l).1 < 4294967296 := by
  have := vl4 h 0
  unfold flaD; split
  all_goals simp <;> omega
theorem expD_b {l : List Nat} (h : ∀ x ∈ l, x < 256) (z : Bool) : (expD z l).1.1 < 18446744073709551616 ∧ (expD z l).1.2 < 65536 := by
  have := vl8 h 0
  have := vl2 h 8
  unfold expD; repeat' split
  all_goals simp <;> omega
theorem simD_b {l : List Nat} (h : ∀ x ∈ l, x < 256) : (simD l).1.1 < 4294967296 ∧ (simD l).1.2 < 18446744073709551616 := by
  have := vl4 h 4
  have := vl8 h 8
  unfold simD; repeat' split
  all_goals simp <;> omega
theorem optD_b {l : List Nat} (h : ∀ x ∈ l, x < 256) (most : Nat) : (optD most l).1.1 < 4294967296 ∧ (optD most l).1.2.1 < 4294967296 ∧ (optD most l).1.2.2.2.length ≤ l.length := by
  have := vl4 h 8
  have := vl4 h 12
  unfold optD; repeat' split
  all_goals simp <;> omega
theorem repD_b {l : List Nat} (h : ∀ x ∈ l, x < 256) (most : Nat) : (repD most l).1.1 < 4294967296 ∧ (repD most l).1.2.1 < 4294967296 ∧ (repD most l).1.2.2.length ≤ l.length := by
  have := vl4 h 8
  have := vl4 h 12
  unfold repD; repeat' split
  all_goals simp <;> omega
theorem qk_b {l : List Nat} (h : ∀ x ∈ l, x < 256) (ext : Bool) : vl l 24 (qk ext) < 18446744073709551616 := by
  cases ext with
  | false => exact Nat.lt_trans (vl4 h 24) (by decide)
  | true => exact vl8 h 24
theorem reqD_b {l : List Nat} (h : ∀ x ∈ l, x < 256) (most : Nat) (ext : Bool) : (reqD most ext l).1.1 < 65536 ∧ (reqD most ext l).1.2.1 < 65536 ∧ (reqD most ext l).1.2.2.1 < 18446744073709551616 ∧ (reqD most ext l).1.2.2.2.1 < 18446744073709551616 ∧ (reqD most ext l).1.2.2.2.2.1 < 18446744073709551616 ∧ (reqD most ext l).1.2.2.2.2.2.length ≤ l.length := by
  have := vl2 h 4
  have := vl2 h 6
  have := vl8 h 8
  have := vl8 h 16
  have := qk_b h ext
  unfold reqD; repeat' split
  all_goals simp <;> omega
theorem cof_b {l : List Nat} (h : ∀ x ∈ l, x < 256) (ext : Bool) : cof ext l < 18446744073709551616 := by
  cases ext with
  | false => show 0 < _; decide
  | true => exact vl8 h 16
theorem chkD_b {l : List Nat} (h : ∀ x ∈ l, x < 256) (most : Nat) (ext : Bool) : (chkD most ext l).1.1 < 65536 ∧ (chkD most ext l).1.2.1 < 65536 ∧ (chkD most ext l).1.2.2.1 < 18446744073709551616 ∧ (chkD most ext l).1.2.2.2.1 < 18446744073709551616 ∧ (chkD most ext l).1.2.2.2.2.length ≤ l.length := by
  have := vl2 h 4
  have := vl2 h 6
  have := vl8 h 8
  have := cof_b h ext
  unfold chkD; repeat' split
  all_goals simp <;> omega
end Go.Proofs.YtjhickfjagalfabDoor

namespace Go.Proofs.YtjhickfjagalfabDoor
open Go.RowKit
set_option linter.unusedVariables false
set_option linter.unusedSimpArgs false
set_option maxRecDepth 100000

theorem valB_inj : ∀ (n : Nat) (a b : List Nat), a.length = n → b.length = n → (∀ x ∈ a, x < 256) → (∀ x ∈ b, x < 256) → valB a = valB b → a = b
  | 0, a, b, ha, hb, _, _, _ => by rw [List.eq_nil_of_length_eq_zero ha, List.eq_nil_of_length_eq_zero hb]
  | n + 1, a, b, ha, hb, la, lb, h => by
    rcases List.eq_nil_or_concat a with rfl | ⟨a', x, rfl⟩
    · simp at ha
    rcases List.eq_nil_or_concat b with rfl | ⟨b', y, rfl⟩
    · simp at hb
    simp only [List.concat_eq_append] at *
    rw [valB_snoc, valB_snoc] at h
    have hx : x < 256 := la x (by simp)
    have hy : y < 256 := lb y (by simp)
    have e1 : x = y := by omega
    have e2 : valB a' = valB b' := by omega
    rw [valB_inj n a' b' (by simpa using ha) (by simpa using hb) (fun z hz => la z (by simp [hz])) (fun z hz => lb z (by simp [hz])) e2, e1]
theorem big_vl {l : List Nat} (h : ∀ x ∈ l, x < 256) (a k : Nat) (hk : a + k ≤ l.length) : bigTo (vl l a k) k k = (l.drop a).take k :=
  have hl : ((l.drop a).take k).length = k := by rw [List.length_take, List.length_drop]; omega
  have hb : ∀ x ∈ (l.drop a).take k, x < 256 := fun x hx => h x (List.mem_of_mem_drop (List.mem_of_mem_take hx))
  valB_inj k _ _ (bigTo_length _ _ _) hl (bigTo_lt _ _ _) hb (valB_big _ _ (by have := valB_lt _ hb; rw [hl] at this; exact this))
theorem pc (l : List Nat) (a b : Nat) : l.take a ++ (l.drop a).take b = l.take (a + b) := List.take_add.symm
theorem pc0 (l : List Nat) (a : Nat) : (l.drop 0).take a = l.take a := by simp
/-- right errors -/
def erOk (e : Nat) : Prop := e = 0 ∨ e = 10 ∨ e = 12 ∨ e = 80 ∨ e = 81
/-- what is said again -/
def Ag (l : List Nat) (t : Nat × Nat × List Nat) : Prop := erOk t.2.1 ∧ (t.2.1 = 0 → 1 ≤ t.1 ∧ t.1 ≤ l.length ∧ t.2.2 = l.take t.1)
theorem ag_er {l : List Nat} {t : Nat × Nat × List Nat} (h : t.2.1 = 10 ∨ t.2.1 = 12 ∨ t.2.1 = 80 ∨ t.2.1 = 81) : Ag l t :=
  ⟨.inr h, fun e => by omega⟩
theorem again0 {l : List Nat} (h : ∀ x ∈ l, x < 256) (most : Nat) : Ag l (toD 0 most l) := by
  unfold toD greD
  by_cases h1 : l.length < 18
  · rw [if_pos h1]; exact ag_er (by simp)
  rw [if_neg h1]
  by_cases h2 : vl l 0 8 ≠ mInit
  · rw [if_pos h2]; exact ag_er (by simp)
  rw [if_neg h2]
  by_cases h3 : vl l 8 8 ≠ mHave
  · rw [if_pos h3]; exact ag_er (by simp)
  rw [if_neg h3]
  have h2' : vl l 0 8 = mInit := Classical.byContradiction h2
  have h3' : vl l 8 8 = mHave := Classical.byContradiction h3
  refine ⟨.inl rfl, fun _ => ⟨(show (1 : Nat) ≤ 18 by omega), (show 18 ≤ l.length by omega), ?_⟩⟩
  simp only
  unfold gL
  rw [← h2', ← h3', big_vl h 0 8 (by omega), big_vl h 8 8 (by omega), big_vl h 16 2 (by omega), List.nil_append, pc0, pc, pc]
theorem again1 {l : List Nat} (h : ∀ x ∈ l, x < 256) (most : Nat) : Ag l (toD 1 most l) := by
  unfold toD flaD
  by_cases h1 : l.length < 4
  · rw [if_pos h1]; exact ag_er (by simp)
  rw [if_neg h1]
  refine ⟨.inl rfl, fun _ => ⟨(show (1 : Nat) ≤ 4 by omega), (show 4 ≤ l.length by omega), ?_⟩⟩
  simp only
  rw [big_vl h 0 4 (by omega), pc0]
theorem zeros_take {l : List Nat} {s : Nat} (hs : 10 ≤ s) (hl : s ≤ l.length) (hz : ((l.take s).drop 10).all (· == 0) = true) : l.take 10 ++ List.replicate (s - 10) 0 = l.take s := by
  have e1 : (l.take s).drop 10 = List.replicate (s - 10) 0 := by
    apply List.eq_replicate_iff.2
    refine ⟨by rw [List.length_drop, List.length_take]; omega, fun x hx => ?_⟩
    rw [List.all_eq_true] at hz
    simpa using hz x hx
  have e2 := List.take_append_drop 10 (l.take s)
  rw [e1, List.take_take, Nat.min_eq_left hs] at e2
  exact e2
theorem againx {l : List Nat} (h : ∀ x ∈ l, x < 256) (z : Bool) : Ag l ((expD z l).2.1, (expD z l).2.2, XL (expD z l).1.1 (expD z l).1.2 z) := by
  have hx : 10 ≤ xz z ∧ xz z = 10 + zn z := by cases z <;> decide
  unfold expD
  by_cases h1 : l.length < xz z
  · rw [if_pos h1]; exact ag_er (by simp)
  rw [if_neg h1]
  by_cases h2 : xzs z l = false
  · rw [if_pos h2]; exact ag_er (by simp)
  rw [if_neg h2]
  have h2' : xzs z l = true := by simpa using h2
  refine ⟨.inl rfl, fun _ => ⟨by simp only; omega, by simp only; omega, ?_⟩⟩
  simp only
  unfold XL xL
  rw [big_vl h 0 8 (by omega), big_vl h 8 2 (by omega), List.nil_append, pc0, pc]
  have := zeros_take (l := l) hx.1 (by omega) h2'
  rw [show xz z - 10 = zn z by omega] at this
  exact this
theorem again4 {l : List Nat} (h : ∀ x ∈ l, x < 256) (most : Nat) : Ag l (toD 4 most l) := by
  unfold toD simD
  by_cases h1 : l.length < 16
  · rw [if_pos h1]; exact ag_er (by simp)
  rw [if_neg h1]
  by_cases h2 : vl l 0 4 ≠ mSimple
  · rw [if_pos h2]; exact ag_er (by simp)
  rw [if_neg h2]
  have h2' : vl l 0 4 = mSimple := Classical.byContradiction h2
  refine ⟨.inl rfl, fun _ => ⟨(show (1 : Nat) ≤ 16 by omega), (show 16 ≤ l.length by omega), ?_⟩⟩
  simp only
  unfold sL
  rw [← h2', big_vl h 0 4 (by omega), big_vl h 4 4 (by omega), big_vl h 8 8 (by omega), List.nil_append, pc0, pc, pc]
theorem again5 {l : List Nat} (h : ∀ x ∈ l, x < 256) (most : Nat) : Ag l (toD 5 most l) := by
  unfold toD optD
  by_cases h1 : l.length < 16
  · rw [if_pos h1]; exact ag_er (by simp)
  rw [if_neg h1]
  by_cases h2 : vl l 0 8 ≠ mHave
  · rw [if_pos h2]; exact ag_er (by simp)
  rw [if_neg h2]
  have h2' : vl l 0 8 = mHave := Classical.byContradiction h2
  by_cases h3 : most < vl l 12 4
  · rw [if_pos h3]; exact ag_er (by simp)
  rw [if_neg h3]
  by_cases h4 : l.length < 16 + vl l 12 4
  · rw [if_pos h4]; exact ag_er (by simp)
  rw [if_neg h4]
  refine ⟨.inl rfl, fun _ => ⟨by simp only; omega, by simp only; omega, ?_⟩⟩
  simp only
  have hd : ((l.drop 16).take (vl l 12 4)).length = vl l 12 4 := by rw [List.length_take, List.length_drop]; omega
  unfold oC
  rw [if_pos ⟨rfl, hd.symm⟩]
  unfold oL
  rw [hd, ← h2', big_vl h 0 8 (by omega), big_vl h 8 4 (by omega), big_vl h 12 4 (by omega), List.nil_append, pc0, pc, pc, pc]
theorem again6 {l : List Nat} (h : ∀ x ∈ l, x < 256) (most : Nat) : Ag l (toD 6 most l) := by
  unfold toD repD
  by_cases h1 : l.length < 20
  · rw [if_pos h1]; exact ag_er (by simp)
  rw [if_neg h1]
  by_cases h2 : vl l 0 8 ≠ mReply
  · rw [if_pos h2]; exact ag_er (by simp)
  rw [if_neg h2]
  have h2' : vl l 0 8 = mReply := Classical.byContradiction h2
  by_cases h3 : most < vl l 16 4
  · rw [if_pos h3]; exact ag_er (by simp)
  rw [if_neg h3]
  by_cases h4 : l.length < 20 + vl l 16 4
  · rw [if_pos h4]; exact ag_er (by simp)
  rw [if_neg h4]
  refine ⟨.inl rfl, fun _ => ⟨by simp only; omega, by simp only; omega, ?_⟩⟩
  simp only
  have hd : ((l.drop 20).take (vl l 16 4)).length = vl l 16 4 := by rw [List.length_take, List.length_drop]; omega
  have hm : vl l 16 4 % 4294967296 = vl l 16 4 := Nat.mod_eq_of_lt (vl4 h 16)
  unfold rL
  rw [hd, hm, ← h2', big_vl h 0 8 (by omega), big_vl h 8 4 (by omega), big_vl h 12 4 (by omega), big_vl h 16 4 (by omega), List.nil_append, pc0, pc, pc, pc, pc]
theorem nL_vl {l : List Nat} (h : ∀ x ∈ l, x < 256) (a : Nat) (ext : Bool) (hl : a + qk ext ≤ l.length) : nL (vl l a (qk ext)) ext = (l.drop a).take (qk ext) := by
  cases ext with
  | true => exact big_vl h a 8 hl
  | false =>
    show bigTo (vl l a 4 % 4294967296) 4 4 = (l.drop a).take 4
    rw [Nat.mod_eq_of_lt (vl4 h a)]
    exact big_vl h a 4 hl
theorem qL_vl {l : List Nat} (h : ∀ x ∈ l, x < 256) (ext : Bool) (d : List Nat) (h1 : ¬ l.length < qz ext) (h2 : vl l 0 4 = qm ext) : qL (vl l 4 2) (vl l 6 2) (vl l 8 8) (vl l 16 8) (vl l 24 (qk ext)) d ext = l.take (qz ext) ++ d := by
  have hq : qz ext = 24 + qk ext := by cases ext <;> rfl
  unfold qL
  rw [show (if ext = true then mReq64 else mReq) = qm ext from rfl, ← h2, big_vl h 0 4 (by omega), big_vl h 4 2 (by omega), big_vl h 6 2 (by omega), big_vl h 8 8 (by omega), big_vl h 16 8 (by omega), nL_vl h 24 ext (by omega), List.nil_append, pc0, pc, pc, pc, pc, pc, hq]
theorem againq {l : List Nat} (h : ∀ x ∈ l, x < 256) (most : Nat) (ext : Bool) : Ag l ((reqD most ext l).2.1, (reqD most ext l).2.2, qC (reqD most ext l).1.1 (reqD most ext l).1.2.1 (reqD most ext l).1.2.2.1 (reqD most ext l).1.2.2.2.1 (reqD most ext l).1.2.2.2.2.1 (reqD most ext l).1.2.2.2.2.2 ext) := by
  have hq : qz ext = 24 + qk ext := by cases ext <;> rfl
  have hk : ext = true ∨ vl l 24 (qk ext) ≤ 4294967295 := by
    cases ext with
    | true => exact .inl rfl
    | false => exact .inr (by have := vl4 h 24; show vl l 24 4 ≤ _; omega)
  unfold reqD
  by_cases h1 : l.length < qz ext
  · rw [if_pos h1]; exact ag_er (by simp)
  rw [if_neg h1]
  by_cases h2 : vl l 0 4 ≠ qm ext
  · rw [if_pos h2]; exact ag_er (by simp)
  rw [if_neg h2]
  have h2' : vl l 0 4 = qm ext := Classical.byContradiction h2
  by_cases hp : payB (vl l 4 2) (vl l 6 2) ext = false
  · rw [if_pos hp]
    refine ⟨.inl rfl, fun _ => ⟨by simp only; omega, by simp only; omega, ?_⟩⟩
    simp only
    have hf : fitB (vl l 4 2) (vl l 6 2) (vl l 24 (qk ext)) ([] : List Nat).length ext = true := by
      unfold fitB
      rw [hp]
      rcases hk with e | e
      · simp [e]
      · simp [e]
    unfold qC
    rw [if_pos hf, qL_vl h ext [] h1 h2', List.append_nil]
  rw [if_neg hp]
  have hp' : payB (vl l 4 2) (vl l 6 2) ext = true := by simpa using hp
  by_cases h3 : most < vl l 24 (qk ext)
  · rw [if_pos h3]; exact ag_er (by simp)
  rw [if_neg h3]
  by_cases h4 : l.length < qz ext + vl l 24 (qk ext)
  · rw [if_pos h4]; exact ag_er (by simp)
  rw [if_neg h4]
  refine ⟨.inl rfl, fun _ => ⟨by simp only; omega, by simp only; omega, ?_⟩⟩
  simp only
  have hd : ((l.drop (qz ext)).take (vl l 24 (qk ext))).length = vl l 24 (qk ext) := by rw [List.length_take, List.length_drop]; omega
  have hf : fitB (vl l 4 2) (vl l 6 2) (vl l 24 (qk ext)) ((l.drop (qz ext)).take (vl l 24 (qk ext))).length ext = true := by
    unfold fitB
    rw [hp', hd]
    rcases hk with e | e
    · simp [e]
    · simp [e]
  unfold qC
  rw [if_pos hf, qL_vl h ext _ h1 h2', pc]
theorem againc {l : List Nat} (h : ∀ x ∈ l, x < 256) (most : Nat) (ext : Bool) : Ag l ((chkD most ext l).2.1, (chkD most ext l).2.2, kC (chkD most ext l).1.1 (chkD most ext l).1.2.1 (chkD most ext l).1.2.2.1 (chkD most ext l).1.2.2.2.1 (chkD most ext l).1.2.2.2.2 ext) := by
  have hc : 20 ≤ cz ext := by cases ext <;> decide
  unfold chkD
  by_cases h1 : l.length < cz ext
  · rw [if_pos h1]; exact ag_er (by simp)
  rw [if_neg h1]
  by_cases h2 : vl l 0 4 ≠ cm ext
  · rw [if_pos h2]; exact ag_er (by simp)
  rw [if_neg h2]
  have h2' : vl l 0 4 = cm ext := Classical.byContradiction h2
  by_cases h3 : most < cln ext l
  · rw [if_pos h3]; exact ag_er (by simp)
  rw [if_neg h3]
  by_cases h4 : l.length < cz ext + cln ext l
  · rw [if_pos h4]; exact ag_er (by simp)
  rw [if_neg h4]
  refine ⟨.inl rfl, fun _ => ⟨by simp only; omega, by simp only; omega, ?_⟩⟩
  simp only
  have hd : ((l.drop (cz ext)).take (cln ext l)).length = cln ext l := by rw [List.length_take, List.length_drop]; omega
  cases ext with
  | true =>
    have e1 : cz true = 32 := rfl
    have e2 : cln true l = vl l 24 8 := rfl
    have e3 : cof true l = vl l 16 8 := rfl
    have e4 : cm true = mChunk64 := rfl
    rw [e1] at h1
    rw [e1, e2] at h4 hd ⊢
    rw [e4] at h2'
    rw [e3]
    unfold kC
    rw [if_pos rfl]
    unfold cL64
    rw [hd, ← h2', show nL (vl l 24 8) true = bigTo (vl l 24 8) 8 8 from rfl, big_vl h 0 4 (by omega), big_vl h 4 2 (by omega), big_vl h 6 2 (by omega), big_vl h 8 8 (by omega), big_vl h 16 8 (by omega), big_vl h 24 8 (by omega), List.nil_append, pc0, pc, pc, pc, pc, pc, pc]
  | false =>
    have e1 : cz false = 20 := rfl
    have e2 : cln false l = vl l 16 4 := rfl
    have e4 : cm false = mChunk := rfl
    rw [e1] at h1
    rw [e1, e2] at h4 hd ⊢
    rw [e4] at h2'
    unfold kC
    rw [if_neg (by simp)]
    unfold cL
    rw [hd, ← h2', show nL (vl l 16 4) false = bigTo (vl l 16 4 % 4294967296) 4 4 from rfl, Nat.mod_eq_of_lt (vl4 h 16), big_vl h 0 4 (by omega), big_vl h 4 2 (by omega), big_vl h 6 2 (by omega), big_vl h 8 8 (by omega), big_vl h 16 4 (by omega), List.nil_append, pc0, pc, pc, pc, pc, pc]
theorem again_any {l : List Nat} (h : ∀ x ∈ l, x < 256) (k most : Nat) (hk : k < 11) : Ag l (toD k most l) := by
  have hc : k = 0 ∨ k = 1 ∨ k = 2 ∨ k = 3 ∨ k = 4 ∨ k = 5 ∨ k = 6 ∨ k = 7 ∨ k = 8 ∨ k = 9 ∨ k = 10 := by omega
  rcases hc with rfl | rfl | rfl | rfl | rfl | rfl | rfl | rfl | rfl | rfl | rfl
  · exact again0 h most
  · exact again1 h most
  · exact againx h false
  · exact againx h true
  · exact again4 h most
  · exact again5 h most
  · exact again6 h most
  · exact againq h most false
  · exact againq h most true
  · exact againc h most false
  · exact againc h most true
end Go.Proofs.YtjhickfjagalfabDoor

namespace Go.Proofs.YtjhickfjagalfabDoor
open Go.RowKit
set_option linter.unusedVariables false
set_option linter.unusedSimpArgs false
set_option maxRecDepth 100000
/-- a twin's bytes, with the marks in its spare room -/
def tw (l : List Nat) : List Nat := l ++ List.replicate 4 171
theorem tw_len (l : List Nat) : (tw l).length = l.length + 4 := by simp [tw]
theorem tw_lt {l : List Nat} (h : ∀ x ∈ l, x < 256) : ∀ x ∈ tw l, x < 256 := fun x hx => by
  rcases List.mem_append.1 hx with hx | hx
  · exact h x hx
  · rw [(List.mem_replicate.1 hx).2]; decide
set_option maxHeartbeats 4000000 in
theorem twin_any (ao : Option Addr) (cap n : Nat) (l : List Nat) (w : World) (h : BRow w ao cap l) (HN : Hid (l.length = n)) (hn : n ≤ 1099511627776) :
    Calls Tryd.prog 9 #[.slice ao n cap] w fun e w' => e = .returned (.slice (some ⟨w.heap.size, 0, none⟩) n (n + 4)) ∧ w'.heap[w.heap.size]? = some (.cells ((tw l).map bv).toArray 5 (0, 0)) ∧ Below w.heap.size w w' := by
  obtain ⟨i0, hi, hz0, hz1, hz2⟩ := info_parts Tryd.info5
  have HR : Hid (BRow w ao cap l) := h
  have hw4 : IntKind.i64.wrap ((n : Int) + 4) = ((n + 4 : Nat) : Int) := by rw [IntKind.wrap_i64]; omega
  have hc4 : ((n + 4 : Nat) : Int) = (n : Int) + 4 := by omega
  clear h
  obtain ⟨N, hN⟩ : ∃ N, N = n + 4 := ⟨_, rfl⟩
  go_enter Tryd.func9, Tryd.ntmps9
  go_wp2_with (at_make; refine wpList_make_full _ rfl _ _ 22 rfl w.heap.size 5 i0 (.int .u8 0) 1 Tryd.underlying22 hi hz0 hz1 .i64 .i64 ((n : Int) + 4) ((n : Int) + 4) (n + 4) rfl rfl (by omega) (by omega) (by rw [hz2]; omega) (by unfold maxLen; omega) (Nat.le_refl _) ?_; intro w1 hown1 hgrow1)
  have HB1 : Hid (Below w.heap.size w w1) := (Below.refl w.heap.size w).grown hgrow1 (Nat.le_refl _) (by simp)
  have HO1 : Hid (w1.ownsRow w.heap.size 5 1 (.slice (some ⟨w.heap.size, 0, none⟩) (n + 4) (n + 4)) (n + 4) ((List.replicate (n + 4) 0).map bv)) := by rw [← made_zeros]; exact hown1
  clear hown1 hgrow1 hN N
  go_wp2
  go_loopw [4] (fun i wr => ∃ k : Nat, k ≤ n + 4 ∧ i = .int .i64 (k : Int) ∧ ∃ C : List Nat, Hid (C.length = n + 4 ∧ wr.ownsRow w.heap.size 5 1 (.slice (some ⟨w.heap.size, 0, none⟩) (n + 4) (n + 4)) (n + 4) (C.map bv) ∧ (∀ j, j < k → C[j]? = (tw l)[j]?) ∧ Below w.heap.size w wr)) (fun i _ => n + 4 - (intOf i).toNat)
  case atStart => exact ⟨0, Nat.zero_le _, rfl, List.replicate (n + 4) 0, by simp, HO1.out, fun j hj => by omega, HB1.out⟩
  case round =>
    obtain ⟨k, hk, rfl, C, HCC⟩ := hrel
    by_cases hlt : k < n + 4
    · have hC := HCC.out.1
      have ho := HCC.out.2.1
      have hkz : (k : Int) < (n : Int) + 4 := by omega
      have hkz2 : (k : Int) < ((n + 4 : Nat) : Int) := by omega
      have hc0 : wr.cell? ⟨w.heap.size, k, none⟩ = some (.int .u8 ((C[k]?.getD 0 : Nat) : Int)) := by
        rw [ho.cellAt k (by omega)]; simp [bv, hC, hlt]
      have hf0 := ho.frozenAt k
      obtain ⟨hs1, hg1⟩ := ho.stored k (bv 171)
      have hc1 : (wr.setCell ⟨w.heap.size, k, none⟩ (.int .u8 171)).cell? ⟨w.heap.size, k, none⟩ = some (.int .u8 171) := by
        have := hs1.cellAt k (by omega)
        rw [show (Value.int .u8 171) = bv 171 from rfl, this]; simp [hC, hlt]
      have hf1 : (wr.setCell ⟨w.heap.size, k, none⟩ (.int .u8 171)).frozen? ⟨w.heap.size, k, none⟩ = false := hs1.frozenAt k
      have hb1 : Below w.heap.size w (wr.setCell ⟨w.heap.size, k, none⟩ (.int .u8 171)) := HCC.out.2.2.2.grown hg1 HCC.out.2.2.2.size (fun g hg => by simp at hg; omega)
      have hs1' : (wr.setCell ⟨w.heap.size, k, none⟩ (.int .u8 171)).ownsRow w.heap.size 5 1 (.slice (some ⟨w.heap.size, 0, none⟩) (n + 4) (n + 4)) (n + 4) ((C.set k 171).map bv) := by rw [List.map_set]; exact hs1
      by_cases hkn : k < n
      · obtain ⟨b, off, rfl, hrow⟩ := HR.out.at_ (by rintro rfl; have := HN.out; simp at this; omega)
        have hx := hrow k (by rw [HN.out]; exact hkn)
        have hxw : (wr.setCell ⟨w.heap.size, k, none⟩ (.int .u8 171)).cell? ⟨b, off + k, none⟩ = some (.int .u8 ((l[k]?.getD 0 : Nat) : Int)) := by
          rw [cell_later hb1 hx]; simp [bv, show k < l.length by rw [HN.out]; exact hkn]
        have hkn2 : (k : Int) < (n : Int) := by omega
        obtain ⟨hs2, hg2⟩ := hs1'.stored k (bv (l[k]?.getD 0))
        have H2 : Hid ((C.set k (l[k]?.getD 0)).length = n + 4 ∧ ((wr.setCell ⟨w.heap.size, k, none⟩ (.int .u8 171)).setCell ⟨w.heap.size, k, none⟩ (.int .u8 ((l[k]?.getD 0 : Nat) : Int))).ownsRow w.heap.size 5 1 (.slice (some ⟨w.heap.size, 0, none⟩) (n + 4) (n + 4)) (n + 4) ((C.set k (l[k]?.getD 0)).map bv) ∧ (∀ j, j < k + 1 → (C.set k (l[k]?.getD 0))[j]? = (tw l)[j]?) ∧ Below w.heap.size w ((wr.setCell ⟨w.heap.size, k, none⟩ (.int .u8 171)).setCell ⟨w.heap.size, k, none⟩ (.int .u8 ((l[k]?.getD 0 : Nat) : Int)))) := by
          refine ⟨by simp [hC], ?_, fun j hj => ?_, hb1.grown hg2 hb1.size (fun g hg => by simp at hg; omega)⟩
          · have := hs2
            rw [← List.map_set, List.set_set] at this
            exact this
          · by_cases e : j = k
            · subst e
              rw [List.getElem?_set_self (by omega), tw, List.getElem?_append_left (by rw [HN.out]; exact hkn)]
              simp [show j < l.length by rw [HN.out]; exact hkn]
            · rw [List.getElem?_set_ne (by omega)]
              exact HCC.out.2.2.1 j (by omega)
        clear hs1 hg1 hb1 hs1' hs2 hg2 hrow hx ho HCC
        generalize l[k]?.getD 0 = x at *
        go_wp2
        go_roundw
        case rel => exact ⟨k + 1, by omega, by go_num, _, H2⟩
        case measure => simp [intOf]; omega
      · have hkn2 : ¬ ((k : Int) < (n : Int)) := by omega
        have hkn3 : decide ((k : Int) < (n : Int)) = false := by simp; omega
        have H2 : Hid ((C.set k 171).length = n + 4 ∧ (wr.setCell ⟨w.heap.size, k, none⟩ (.int .u8 171)).ownsRow w.heap.size 5 1 (.slice (some ⟨w.heap.size, 0, none⟩) (n + 4) (n + 4)) (n + 4) ((C.set k 171).map bv) ∧ (∀ j, j < k + 1 → (C.set k 171)[j]? = (tw l)[j]?) ∧ Below w.heap.size w (wr.setCell ⟨w.heap.size, k, none⟩ (.int .u8 171))) := by
          refine ⟨by simp [hC], hs1', fun j hj => ?_, hb1⟩
          by_cases e : j = k
          · subst e
            have hl := HN.out
            rw [List.getElem?_set_self (by omega), tw, List.getElem?_append_right (by omega), List.getElem?_replicate, if_pos (by omega)]
          · rw [List.getElem?_set_ne (by omega)]
            exact HCC.out.2.2.1 j (by omega)
        clear hs1 hg1 hb1 hs1' ho HCC
        go_wp2
        go_roundw
        case rel => exact ⟨k + 1, by omega, by go_num, _, H2⟩
        case measure => simp [intOf]; omega
    · obtain rfl : k = n + 4 := by omega
      have HF : Hid (wr.heap[w.heap.size]? = some (.cells ((tw l).map bv).toArray 5 (0, 0)) ∧ Below w.heap.size w wr) := by
        obtain ⟨hC, ho, hj, hb⟩ := HCC.out
        have e : C = tw l := by
          apply List.ext_getElem?
          intro j
          by_cases h : j < n + 4
          · exact hj j h
          · rw [List.getElem?_eq_none (by omega), List.getElem?_eq_none (by rw [tw_len, HN.out]; omega)]
        subst e
        exact ⟨own_block ho (by rw [List.length_map]; exact hC), hb⟩
      clear HCC
      have hd : ¬ (((n + 4 : Nat) : Int) < (n : Int) + 4) := by omega
      go_wp2
      go_ret
      exact ⟨rfl, HF.out.1, HF.out.2⟩
theorem twin_brow {W : World} {g : Nat} {l : List Nat} (h : W.heap[g]? = some (.cells ((tw l).map bv).toArray 5 (0, 0))) (hlt : ∀ x ∈ l, x < 256) (hlen : l.length ≤ 140737488351232) (cap : Nat) : BRow W (some ⟨g, 0, none⟩) cap l := by
  refine ⟨hlt, hlen, fun h => by simp at h, fun _ => ⟨g, 0, rfl, fun k hk => ?_⟩⟩
  rw [Nat.zero_add, blk_cell h, List.getElem?_map, tw, List.getElem?_append_left hk, List.getElem?_eq_getElem hk]; rfl
end Go.Proofs.YtjhickfjagalfabDoor
