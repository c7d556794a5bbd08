import Derived.Test.YtjikibhhhchgeaaDoorY12
namespace Go.Proofs.YtjikibhhhchgeaaDoor
open Go.RowKit
set_option linter.unusedVariables false
set_option linter.unusedSimpArgs false
set_option maxRecDepth 100000
theorem below1 (w : World) (o : Obj) : Below w.heap.size w (w.alloc o) := (Below.refl _ _).alloc (Nat.le_refl _) o
theorem below2 (w : World) (o o' : Obj) : Below w.heap.size w ((w.alloc o).alloc o') := ((Below.refl _ w).alloc (Nat.le_refl _) o).alloc (by simp) o'
theorem box_later {W W' : World} {b t : Nat} {A : Array Value} (h : W.heap[b]? = some (.cells A t (0, 0))) (k : Below W.heap.size W W') : W'.heap[b]? = some (.cells A t (0, 0)) := by rw [k.block _ (block_lt h)]; exact h
/-- boxes that a call makes of what it is handed, at a letter behind them -/
structure Bx1 (w W : World) (A : Array Value) (tA : TypeId) : Prop where
  bel : Below w.heap.size w W
  a : W.heap[w.heap.size]? = some (.cells A tA (0, 0))
  size : w.heap.size + 1 ≤ W.heap.size
structure Bx2 (w W : World) (A B : Array Value) (tA tB : TypeId) : Prop where
  bel : Below w.heap.size w W
  a : W.heap[w.heap.size]? = some (.cells A tA (0, 0))
  b : W.heap[w.heap.size + 1]? = some (.cells B tB (0, 0))
  size : w.heap.size + 2 ≤ W.heap.size
structure Bx3 (w W : World) (A B C : Array Value) (tA tB tC : TypeId) : Prop where
  bel : Below w.heap.size w W
  a : W.heap[w.heap.size]? = some (.cells A tA (0, 0))
  b : W.heap[w.heap.size + 1]? = some (.cells B tB (0, 0))
  c : W.heap[w.heap.size + 1 + 1]? = some (.cells C tC (0, 0))
  size : w.heap.size + 3 ≤ W.heap.size
theorem size1 (w : World) (o : Obj) : (w.alloc o).heap.size = w.heap.size + 1 := by simp
theorem mkb1 (w : World) (A : Array Value) (tA : TypeId) : Bx1 w (w.alloc (.cells A tA)) A tA := ⟨below1 w _, heap_new w _, by rw [size1]; omega⟩
theorem mkb2 (w : World) (A B : Array Value) (tA tB : TypeId) : Bx2 w ((w.alloc (.cells A tA)).alloc (.cells B tB)) A B tA tB := by
  have h := mkb1 w A tA
  have k := below1 (w.alloc (.cells A tA)) (.cells B tB)
  refine ⟨h.bel.trans (k.mono (by rw [size1]; omega)), by rw [k.block _ (by rw [size1]; omega)]; exact h.a, ?_, by rw [size1, size1]; omega⟩
  have := heap_new (w.alloc (.cells A tA)) (.cells B tB)
  rwa [size1] at this
theorem mkb3 (w : World) (A B C : Array Value) (tA tB tC : TypeId) : Bx3 w (((w.alloc (.cells A tA)).alloc (.cells B tB)).alloc (.cells C tC)) A B C tA tB tC := by
  have h := mkb2 w A B tA tB
  have k := below1 ((w.alloc (.cells A tA)).alloc (.cells B tB)) (.cells C tC)
  refine ⟨h.bel.trans (k.mono (by rw [size1, size1]; omega)), by rw [k.block _ (by rw [size1, size1]; omega)]; exact h.a, by rw [k.block _ (by rw [size1, size1]; omega)]; exact h.b, ?_, by rw [size1, size1, size1]; omega⟩
  have := heap_new ((w.alloc (.cells A tA)).alloc (.cells B tB)) (.cells C tC)
  rwa [size1, size1] at this
theorem Bx1.later {w W W' : World} {A : Array Value} {tA : TypeId} (h : Bx1 w W A tA) (k : Below W.heap.size W W') : Bx1 w W' A tA :=
  ⟨h.bel.trans (k.mono h.bel.size), by rw [k.block _ (by have := h.size; omega)]; exact h.a, Nat.le_trans h.size k.size⟩
theorem Bx2.later {w W W' : World} {A B : Array Value} {tA tB : TypeId} (h : Bx2 w W A B tA tB) (k : Below W.heap.size W W') : Bx2 w W' A B tA tB :=
  ⟨h.bel.trans (k.mono h.bel.size), by rw [k.block _ (by have := h.size; omega)]; exact h.a, by rw [k.block _ (by have := h.size; omega)]; exact h.b, Nat.le_trans h.size k.size⟩
theorem Bx3.later {w W W' : World} {A B C : Array Value} {tA tB tC : TypeId} (h : Bx3 w W A B C tA tB tC) (k : Below W.heap.size W W') : Bx3 w W' A B C tA tB tC :=
  ⟨h.bel.trans (k.mono h.bel.size), by rw [k.block _ (by have := h.size; omega)]; exact h.a, by rw [k.block _ (by have := h.size; omega)]; exact h.b, by rw [k.block _ (by have := h.size; omega)]; exact h.c, Nat.le_trans h.size k.size⟩
theorem below_drewN (w : World) (q : Nat) : Below w.heap.size w (w.drewN q) := ⟨rfl, rfl, rfl, Nat.le_refl _, fun _ _ => rfl⟩
theorem Bx3.drewN {w W : World} {A B C : Array Value} {tA tB tC : TypeId} (h : Bx3 w W A B C tA tB tC) (q : Nat) : Bx3 w (W.drewN q) A B C tA tB tC := h.later (below_drewN W q)
theorem results_cell_one {P : Program} {fn : Func} {p : Tmp} {ty : TypeId} (h : fn.results = #[.cell p ty]) (tmps : Array Value) (w : World) (g : Nat) (t : TypeId) (cs : Array Value) (fr : Nat × Nat) (d : TypeDesc)
    (hp : tmps.getD p undef = .pointer (some ⟨g, 0, none⟩)) (hg : w.heap[g]? = some (.cells cs t fr))
    (hu : P.underlying ty = some d) (hd : (match d with | .struct _ | .array _ _ => true | _ => false) = true) (hi : (P.info? ty).map (·.size) = some cs.size) :
    (results fn tmps).run P w = .ok (.agg cs) w := by
  have hp' : tmps[p]?.getD undef = .pointer (some ⟨g, 0, none⟩) := by simpa using hp
  simp [results, h, hp', asAddr, Sem.run_bind, Result.andThen, run_loadVar_row w g t ty cs fr d hg hu hd hi]
theorem keptIn_set (W : World) (g j : Nat) (v : Value) : KeptIn (fun k => k = g) W (W.setCell ⟨g, j, none⟩ v) := ⟨rfl, rfl, rfl, Nat.le_of_eq (by simp), fun k _ hn => Below.heap_setCell _ _ _ _ hn⟩
theorem put_boxX {W : World} {b : Nat} {cs : Array Value} {t : TypeId} (h : W.heap[b]? = some (.cells cs t (0, 0))) (j : Nat) (v : Value) {cs' : Array Value} (hcs : cs.setIfInBounds j v = cs') : (W.setCell ⟨b, j, none⟩ v).heap[b]? = some (.cells cs' t (0, 0)) := by
  rw [heap_setCell_same W b j cs t v h, hcs]
theorem put5 {W : World} {g : Nat} {t : TypeId} {a0 a1 a2 a3 a4 : Value} (h : W.heap[g]? = some (.cells #[a0, a1, a2, a3, a4] t (0, 0))) (v0 v1 v2 v3 v4 : Value) :
    ((((((W.setCell ⟨g, 0, none⟩ v0).setCell ⟨g, 1, none⟩ v1).setCell ⟨g, 2, none⟩ v2).setCell ⟨g, 3, none⟩ v3).setCell ⟨g, 4, none⟩ v4)).heap[g]? = some (.cells #[v0, v1, v2, v3, v4] t (0, 0)) ∧ KeptIn (fun k => k = g) W ((((((W.setCell ⟨g, 0, none⟩ v0).setCell ⟨g, 1, none⟩ v1).setCell ⟨g, 2, none⟩ v2).setCell ⟨g, 3, none⟩ v3).setCell ⟨g, 4, none⟩ v4)) := by
  have h1 : ((W.setCell ⟨g, 0, none⟩ v0)).heap[g]? = some (.cells #[v0, a1, a2, a3, a4] t (0, 0)) := put_boxX h 0 v0 (by simp)
  have h2 : (((W.setCell ⟨g, 0, none⟩ v0).setCell ⟨g, 1, none⟩ v1)).heap[g]? = some (.cells #[v0, v1, a2, a3, a4] t (0, 0)) := put_boxX h1 1 v1 (by simp)
  have h3 : ((((W.setCell ⟨g, 0, none⟩ v0).setCell ⟨g, 1, none⟩ v1).setCell ⟨g, 2, none⟩ v2)).heap[g]? = some (.cells #[v0, v1, v2, a3, a4] t (0, 0)) := put_boxX h2 2 v2 (by simp)
  have h4 : (((((W.setCell ⟨g, 0, none⟩ v0).setCell ⟨g, 1, none⟩ v1).setCell ⟨g, 2, none⟩ v2).setCell ⟨g, 3, none⟩ v3)).heap[g]? = some (.cells #[v0, v1, v2, v3, a4] t (0, 0)) := put_boxX h3 3 v3 (by simp)
  have h5 : ((((((W.setCell ⟨g, 0, none⟩ v0).setCell ⟨g, 1, none⟩ v1).setCell ⟨g, 2, none⟩ v2).setCell ⟨g, 3, none⟩ v3).setCell ⟨g, 4, none⟩ v4)).heap[g]? = some (.cells #[v0, v1, v2, v3, v4] t (0, 0)) := put_boxX h4 4 v4 (by simp)
  exact ⟨h5, ((((keptIn_set _ _ _ _).trans (keptIn_set _ _ _ _) (fun _ _ hn => hn)).trans (keptIn_set _ _ _ _) (fun _ _ hn => hn)).trans (keptIn_set _ _ _ _) (fun _ _ hn => hn)).trans (keptIn_set _ _ _ _) (fun _ _ hn => hn)⟩
theorem results_cell_tmp1 {P : Program} {fn : Func} {p u : Tmp} {ty : TypeId} (h : fn.results = #[.cell p ty, .tmp u]) (tmps : Array Value) (w : World) (g : Nat) (t : TypeId) (cs : Array Value) (fr : Nat × Nat) (d : TypeDesc)
    (hp : tmps.getD p undef = .pointer (some ⟨g, 0, none⟩)) (hg : w.heap[g]? = some (.cells cs t fr))
    (hu : P.underlying ty = some d) (hd : (match d with | .struct _ | .array _ _ => true | _ => false) = true) (hi : (P.info? ty).map (·.size) = some cs.size) :
    (results fn tmps).run P w = .ok (.tuple #[.agg cs, tmps.getD u undef]) w := by
  have hp' : tmps[p]?.getD undef = .pointer (some ⟨g, 0, none⟩) := by simpa using hp
  simp [results, h, hp', asAddr, Sem.run_bind, Result.andThen, run_loadVar_row w g t ty cs fr d hg hu hd hi]
theorem put2 {W : World} {g : Nat} {t : TypeId} {a0 a1 : Value} (h : W.heap[g]? = some (.cells #[a0, a1] t (0, 0))) (v0 v1 : Value) :
    ((W.setCell ⟨g, 0, none⟩ v0).setCell ⟨g, 1, none⟩ v1).heap[g]? = some (.cells #[v0, v1] t (0, 0)) ∧ KeptIn (fun k => k = g) W ((W.setCell ⟨g, 0, none⟩ v0).setCell ⟨g, 1, none⟩ v1) :=
  ⟨put_boxX (put_boxX h 0 v0 (cs' := #[v0, a1]) (by simp)) 1 v1 (by simp), (keptIn_set _ _ _ _).trans (keptIn_set _ _ _ _) (fun _ _ hn => hn)⟩
end Go.Proofs.YtjikibhhhchgeaaDoor
