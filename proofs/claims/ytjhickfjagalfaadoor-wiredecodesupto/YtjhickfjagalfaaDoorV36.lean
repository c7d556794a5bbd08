import Derived.Test.YtjhickfjagalfaaDoorV35
import Derived.Test.YtjhickfjagalfaaDoorV9
namespace Go.Proofs.YtjhickfjagalfaaDoor
open Go.RowKit
set_option linter.unusedVariables false
set_option linter.unusedSimpArgs false
set_option maxRecDepth 100000
/-- the box of the answer stands -/
structure Sb (w W : World) (o : Obj) : Prop where
  bel : Below w.heap.size w W
  b0 : W.heap[w.heap.size]? = some o
theorem Sb.next {w W W' : World} {o : Obj} (h : Sb w W o) (hb : Below W.heap.size W W') : Sb w W' o := ⟨h.bel.trans (hb.mono h.bel.size), (hb.block _ (block_lt h.b0)).trans h.b0⟩
theorem Sb.new (w : World) (cs : Array Value) (t : TypeId) : Sb w (w.alloc (.cells cs t)) (.cells cs t (0, 0)) := ⟨(Below.refl _ _).alloc (Nat.le_refl _) _, heap_new w _⟩
/-- and the box of what is read -/
structure Sx (w W : World) (o : Obj) (g : Nat) (cs : Array Value) (t : TypeId) : Prop where
  bel : Below w.heap.size w W
  b0 : W.heap[w.heap.size]? = some o
  b2 : W.heap[g]? = some (.cells cs t (0, 0))
  gl : w.heap.size < g
theorem Sx.next {w W W' : World} {o : Obj} {g : Nat} {cs : Array Value} {t : TypeId} (h : Sx w W o g cs t) (hb : Below W.heap.size W W') : Sx w W' o g cs t :=
  ⟨h.bel.trans (hb.mono h.bel.size), (hb.block _ (block_lt h.b0)).trans h.b0, (hb.block _ (block_lt h.b2)).trans h.b2, h.gl⟩
theorem Sb.box {w W : World} {o : Obj} (h : Sb w W o) (cs : Array Value) (t : TypeId) : Sx w (W.alloc (.cells cs t)) o W.heap.size cs t :=
  ⟨h.bel.alloc h.bel.size _, (Below.heap_alloc _ _ _ (block_lt h.b0)).trans h.b0, heap_new W _, block_lt h.b0⟩
theorem Sx.put {w W : World} {o : Obj} {g : Nat} {cs : Array Value} {t : TypeId} (h : Sx w W o g cs t) (j : Nat) (v : Value) {cs' : Array Value} (hcs : cs.setIfInBounds j v = cs') : Sx w (W.setCell ⟨g, j, none⟩ v) o g cs' t :=
  ⟨below_set h.bel (Nat.le_of_lt h.gl), (Below.heap_setCell _ _ _ _ (by have := h.gl; show w.heap.size ≠ g; omega)).trans h.b0, put_box h.b2 j v hcs, h.gl⟩
theorem Sx.sb {w W : World} {o : Obj} {g : Nat} {cs : Array Value} {t : TypeId} (h : Sx w W o g cs t) : Sb w W o := ⟨h.bel, h.b0⟩
end Go.Proofs.YtjhickfjagalfaaDoor
