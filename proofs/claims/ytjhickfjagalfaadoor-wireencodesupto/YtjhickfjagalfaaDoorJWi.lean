import Derived.Test.YtjhickfjagalfaaDoorJWp
import Derived.Test.YtjhickfjagalfaaDoorJEc
namespace Go.Proofs.YtjhickfjagalfaaDoor
open Go.RowKit
set_option linter.unusedVariables false
set_option linter.unusedSimpArgs false
set_option maxRecDepth 100000

/-- a new box: where it is listed it lies at or above the start; its cells, before or behind the store -/
def EBx (W w : World) (on st : Bool) (x : Value) (ty : TypeId) (z v : Array Value) : Prop := on = true → ∃ p, x = .pointer (some ⟨p, 0, none⟩) ∧ W.heap.size ≤ p ∧ w.heap[p]? = some (.cells (if st = true then v else z) ty (0, 0))
structure EI (W : World) (v0 v1 v2 v3 z0 z1 z2 z3 : Array Value) (l : Array Bool) (x0 x1 x2 x3 y0 y1 y2 y3 : Value) (w : World) : Prop where
  sz : l.size = 12
  bel : Below W.heap.size W w
  h0 : l.getD 0 true = true → y0 = .agg v0
  h1 : l.getD 1 true = true → y1 = .agg v1
  h2 : l.getD 2 true = true → y2 = .agg v2
  h3 : l.getD 3 true = true → y3 = .agg v3
  b0 : EBx W w (l.getD 4 true) (l.getD 8 true) x0 55 z0 v0
  b1 : EBx W w (l.getD 5 true) (l.getD 9 true) x1 57 z1 v1
  b2 : EBx W w (l.getD 6 true) (l.getD 10 true) x2 59 z2 v2
  b3 : EBx W w (l.getD 7 true) (l.getD 11 true) x3 61 z3 v3
  o0 : l.getD 8 true = true → l.getD 4 true = true
  o1 : l.getD 9 true = true → l.getD 5 true = true
  o2 : l.getD 10 true = true → l.getD 6 true = true
  o3 : l.getD 11 true = true → l.getD 7 true = true
/-- all but one block is the same -/
structure SameB (p : Nat) (w w' : World) : Prop where
  os : w'.os = w.os
  tape : w'.tape = w.tape
  output : w'.output = w.output
  size : w'.heap.size = w.heap.size
  oth : ∀ k, k ≠ p → w'.heap[k]? = w.heap[k]?
theorem SameB.refl (p : Nat) (w : World) : SameB p w w := ⟨rfl, rfl, rfl, rfl, fun _ _ => rfl⟩
theorem SameB.set {p : Nat} {w w' : World} (h : SameB p w w') (j : Nat) (v : Value) : SameB p w (w'.setCell ⟨p, j, none⟩ v) :=
  ⟨h.os, h.tape, h.output, by rw [World.size_setCell]; exact h.size, fun k hk => (Below.heap_setCell _ _ _ _ hk).trans (h.oth k hk)⟩
theorem EBx.keep {W w w' : World} {on st : Bool} {x : Value} {ty : TypeId} {z v : Array Value} (h : EBx W w on st x ty z v) (hk : ∀ p : Nat, w.heap[p]? = some (Obj.cells (if st = true then v else z) ty (0, 0)) → w'.heap[p]? = w.heap[p]?) : EBx W w' on st x ty z v := fun e => by
  obtain ⟨p, h1, h2, h3⟩ := h e
  exact ⟨p, h1, h2, (hk p h3).trans h3⟩
theorem EI.load0 {W : World} {v0 v1 v2 v3 z0 z1 z2 z3 : Array Value} {l : Array Bool} {x0 x1 x2 x3 y0 y1 y2 y3 : Value} {w : World} (h : EI W v0 v1 v2 v3 z0 z1 z2 z3 l x0 x1 x2 x3 y0 y1 y2 y3 w) : EI W v0 v1 v2 v3 z0 z1 z2 z3 (l.setIfInBounds 0 true) x0 x1 x2 x3 (.agg v0) y1 y2 y3 w := by
  refine ⟨by rw [Array.size_setIfInBounds]; exact h.sz, h.bel, fun _ => rfl, fun e => h.h1 (by rw [getD_set] at e; simpa using e), fun e => h.h2 (by rw [getD_set] at e; simpa using e), fun e => h.h3 (by rw [getD_set] at e; simpa using e), ?_, ?_, ?_, ?_, ?_, ?_, ?_, ?_⟩
  · have e := h.b0
    rw [show (l.setIfInBounds 0 true).getD 4 true = l.getD 4 true by rw [getD_set]; simp, show (l.setIfInBounds 0 true).getD 8 true = l.getD 8 true by rw [getD_set]; simp]
    exact EBx.keep e (fun _ _ => rfl)
  · have e := h.b1
    rw [show (l.setIfInBounds 0 true).getD 5 true = l.getD 5 true by rw [getD_set]; simp, show (l.setIfInBounds 0 true).getD 9 true = l.getD 9 true by rw [getD_set]; simp]
    exact EBx.keep e (fun _ _ => rfl)
  · have e := h.b2
    rw [show (l.setIfInBounds 0 true).getD 6 true = l.getD 6 true by rw [getD_set]; simp, show (l.setIfInBounds 0 true).getD 10 true = l.getD 10 true by rw [getD_set]; simp]
    exact EBx.keep e (fun _ _ => rfl)
  · have e := h.b3
    rw [show (l.setIfInBounds 0 true).getD 7 true = l.getD 7 true by rw [getD_set]; simp, show (l.setIfInBounds 0 true).getD 11 true = l.getD 11 true by rw [getD_set]; simp]
    exact EBx.keep e (fun _ _ => rfl)
  · intro e; rw [getD_set] at e ⊢; have e2 : l.getD 8 true = true := (by simpa using e)
    have := h.o0 e2; simp [this]
  · intro e; rw [getD_set] at e ⊢; have e2 : l.getD 9 true = true := (by simpa using e)
    have := h.o1 e2; simp [this]
  · intro e; rw [getD_set] at e ⊢; have e2 : l.getD 10 true = true := (by simpa using e)
    have := h.o2 e2; simp [this]
  · intro e; rw [getD_set] at e ⊢; have e2 : l.getD 11 true = true := (by simpa using e)
    have := h.o3 e2; simp [this]
theorem EI.load1 {W : World} {v0 v1 v2 v3 z0 z1 z2 z3 : Array Value} {l : Array Bool} {x0 x1 x2 x3 y0 y1 y2 y3 : Value} {w : World} (h : EI W v0 v1 v2 v3 z0 z1 z2 z3 l x0 x1 x2 x3 y0 y1 y2 y3 w) : EI W v0 v1 v2 v3 z0 z1 z2 z3 (l.setIfInBounds 1 true) x0 x1 x2 x3 y0 (.agg v1) y2 y3 w := by
  refine ⟨by rw [Array.size_setIfInBounds]; exact h.sz, h.bel, fun e => h.h0 (by rw [getD_set] at e; simpa using e), fun _ => rfl, fun e => h.h2 (by rw [getD_set] at e; simpa using e), fun e => h.h3 (by rw [getD_set] at e; simpa using e), ?_, ?_, ?_, ?_, ?_, ?_, ?_, ?_⟩
  · have e := h.b0
    rw [show (l.setIfInBounds 1 true).getD 4 true = l.getD 4 true by rw [getD_set]; simp, show (l.setIfInBounds 1 true).getD 8 true = l.getD 8 true by rw [getD_set]; simp]
    exact EBx.keep e (fun _ _ => rfl)
  · have e := h.b1
    rw [show (l.setIfInBounds 1 true).getD 5 true = l.getD 5 true by rw [getD_set]; simp, show (l.setIfInBounds 1 true).getD 9 true = l.getD 9 true by rw [getD_set]; simp]
    exact EBx.keep e (fun _ _ => rfl)
  · have e := h.b2
    rw [show (l.setIfInBounds 1 true).getD 6 true = l.getD 6 true by rw [getD_set]; simp, show (l.setIfInBounds 1 true).getD 10 true = l.getD 10 true by rw [getD_set]; simp]
    exact EBx.keep e (fun _ _ => rfl)
  · have e := h.b3
    rw [show (l.setIfInBounds 1 true).getD 7 true = l.getD 7 true by rw [getD_set]; simp, show (l.setIfInBounds 1 true).getD 11 true = l.getD 11 true by rw [getD_set]; simp]
    exact EBx.keep e (fun _ _ => rfl)
  · intro e; rw [getD_set] at e ⊢; have e2 : l.getD 8 true = true := (by simpa using e)
    have := h.o0 e2; simp [this]
  · intro e; rw [getD_set] at e ⊢; have e2 : l.getD 9 true = true := (by simpa using e)
    have := h.o1 e2; simp [this]
  · intro e; rw [getD_set] at e ⊢; have e2 : l.getD 10 true = true := (by simpa using e)
    have := h.o2 e2; simp [this]
  · intro e; rw [getD_set] at e ⊢; have e2 : l.getD 11 true = true := (by simpa using e)
    have := h.o3 e2; simp [this]
theorem EI.load2 {W : World} {v0 v1 v2 v3 z0 z1 z2 z3 : Array Value} {l : Array Bool} {x0 x1 x2 x3 y0 y1 y2 y3 : Value} {w : World} (h : EI W v0 v1 v2 v3 z0 z1 z2 z3 l x0 x1 x2 x3 y0 y1 y2 y3 w) : EI W v0 v1 v2 v3 z0 z1 z2 z3 (l.setIfInBounds 2 true) x0 x1 x2 x3 y0 y1 (.agg v2) y3 w := by
  refine ⟨by rw [Array.size_setIfInBounds]; exact h.sz, h.bel, fun e => h.h0 (by rw [getD_set] at e; simpa using e), fun e => h.h1 (by rw [getD_set] at e; simpa using e), fun _ => rfl, fun e => h.h3 (by rw [getD_set] at e; simpa using e), ?_, ?_, ?_, ?_, ?_, ?_, ?_, ?_⟩
  · have e := h.b0
    rw [show (l.setIfInBounds 2 true).getD 4 true = l.getD 4 true by rw [getD_set]; simp, show (l.setIfInBounds 2 true).getD 8 true = l.getD 8 true by rw [getD_set]; simp]
    exact EBx.keep e (fun _ _ => rfl)
  · have e := h.b1
    rw [show (l.setIfInBounds 2 true).getD 5 true = l.getD 5 true by rw [getD_set]; simp, show (l.setIfInBounds 2 true).getD 9 true = l.getD 9 true by rw [getD_set]; simp]
    exact EBx.keep e (fun _ _ => rfl)
  · have e := h.b2
    rw [show (l.setIfInBounds 2 true).getD 6 true = l.getD 6 true by rw [getD_set]; simp, show (l.setIfInBounds 2 true).getD 10 true = l.getD 10 true by rw [getD_set]; simp]
    exact EBx.keep e (fun _ _ => rfl)
  · have e := h.b3
    rw [show (l.setIfInBounds 2 true).getD 7 true = l.getD 7 true by rw [getD_set]; simp, show (l.setIfInBounds 2 true).getD 11 true = l.getD 11 true by rw [getD_set]; simp]
    exact EBx.keep e (fun _ _ => rfl)
  · intro e; rw [getD_set] at e ⊢; have e2 : l.getD 8 true = true := (by simpa using e)
    have := h.o0 e2; simp [this]
  · intro e; rw [getD_set] at e ⊢; have e2 : l.getD 9 true = true := (by simpa using e)
    have := h.o1 e2; simp [this]
  · intro e; rw [getD_set] at e ⊢; have e2 : l.getD 10 true = true := (by simpa using e)
    have := h.o2 e2; simp [this]
  · intro e; rw [getD_set] at e ⊢; have e2 : l.getD 11 true = true := (by simpa using e)
    have := h.o3 e2; simp [this]
theorem EI.load3 {W : World} {v0 v1 v2 v3 z0 z1 z2 z3 : Array Value} {l : Array Bool} {x0 x1 x2 x3 y0 y1 y2 y3 : Value} {w : World} (h : EI W v0 v1 v2 v3 z0 z1 z2 z3 l x0 x1 x2 x3 y0 y1 y2 y3 w) : EI W v0 v1 v2 v3 z0 z1 z2 z3 (l.setIfInBounds 3 true) x0 x1 x2 x3 y0 y1 y2 (.agg v3) w := by
  refine ⟨by rw [Array.size_setIfInBounds]; exact h.sz, h.bel, fun e => h.h0 (by rw [getD_set] at e; simpa using e), fun e => h.h1 (by rw [getD_set] at e; simpa using e), fun e => h.h2 (by rw [getD_set] at e; simpa using e), fun _ => rfl, ?_, ?_, ?_, ?_, ?_, ?_, ?_, ?_⟩
  · have e := h.b0
    rw [show (l.setIfInBounds 3 true).getD 4 true = l.getD 4 true by rw [getD_set]; simp, show (l.setIfInBounds 3 true).getD 8 true = l.getD 8 true by rw [getD_set]; simp]
    exact EBx.keep e (fun _ _ => rfl)
  · have e := h.b1
    rw [show (l.setIfInBounds 3 true).getD 5 true = l.getD 5 true by rw [getD_set]; simp, show (l.setIfInBounds 3 true).getD 9 true = l.getD 9 true by rw [getD_set]; simp]
    exact EBx.keep e (fun _ _ => rfl)
  · have e := h.b2
    rw [show (l.setIfInBounds 3 true).getD 6 true = l.getD 6 true by rw [getD_set]; simp, show (l.setIfInBounds 3 true).getD 10 true = l.getD 10 true by rw [getD_set]; simp]
    exact EBx.keep e (fun _ _ => rfl)
  · have e := h.b3
    rw [show (l.setIfInBounds 3 true).getD 7 true = l.getD 7 true by rw [getD_set]; simp, show (l.setIfInBounds 3 true).getD 11 true = l.getD 11 true by rw [getD_set]; simp]
    exact EBx.keep e (fun _ _ => rfl)
  · intro e; rw [getD_set] at e ⊢; have e2 : l.getD 8 true = true := (by simpa using e)
    have := h.o0 e2; simp [this]
  · intro e; rw [getD_set] at e ⊢; have e2 : l.getD 9 true = true := (by simpa using e)
    have := h.o1 e2; simp [this]
  · intro e; rw [getD_set] at e ⊢; have e2 : l.getD 10 true = true := (by simpa using e)
    have := h.o2 e2; simp [this]
  · intro e; rw [getD_set] at e ⊢; have e2 : l.getD 11 true = true := (by simpa using e)
    have := h.o3 e2; simp [this]
theorem EI.alloc0 {W : World} {v0 v1 v2 v3 z0 z1 z2 z3 : Array Value} {l : Array Bool} {x0 x1 x2 x3 y0 y1 y2 y3 : Value} {w : World} (h : EI W v0 v1 v2 v3 z0 z1 z2 z3 l x0 x1 x2 x3 y0 y1 y2 y3 w) (hk : l.getD 4 true = false) : EI W v0 v1 v2 v3 z0 z1 z2 z3 (l.setIfInBounds 4 true) (.pointer (some ⟨w.heap.size, 0, none⟩)) x1 x2 x3 y0 y1 y2 y3 (w.alloc (.cells z0 55)) := by
  refine ⟨by rw [Array.size_setIfInBounds]; exact h.sz, h.bel.alloc h.bel.size _, fun e => h.h0 (by rw [getD_set] at e; simpa using e), fun e => h.h1 (by rw [getD_set] at e; simpa using e), fun e => h.h2 (by rw [getD_set] at e; simpa using e), fun e => h.h3 (by rw [getD_set] at e; simpa using e), ?_, ?_, ?_, ?_, ?_, ?_, ?_, ?_⟩
  · have e8 : l.getD 8 true = false := by
      cases e : l.getD 8 true with
      | false => rfl
      | true => have := h.o0 e; rw [hk] at this; cases this
    intro _
    rw [show (l.setIfInBounds 4 true).getD 8 true = l.getD 8 true by rw [getD_set]; simp, e8]
    exact ⟨_, rfl, h.bel.size, heap_new w _⟩
  · have e := h.b1
    rw [show (l.setIfInBounds 4 true).getD 5 true = l.getD 5 true by rw [getD_set]; simp, show (l.setIfInBounds 4 true).getD 9 true = l.getD 9 true by rw [getD_set]; simp]
    exact EBx.keep e (fun p hp => Below.heap_alloc _ _ _ (block_lt hp))
  · have e := h.b2
    rw [show (l.setIfInBounds 4 true).getD 6 true = l.getD 6 true by rw [getD_set]; simp, show (l.setIfInBounds 4 true).getD 10 true = l.getD 10 true by rw [getD_set]; simp]
    exact EBx.keep e (fun p hp => Below.heap_alloc _ _ _ (block_lt hp))
  · have e := h.b3
    rw [show (l.setIfInBounds 4 true).getD 7 true = l.getD 7 true by rw [getD_set]; simp, show (l.setIfInBounds 4 true).getD 11 true = l.getD 11 true by rw [getD_set]; simp]
    exact EBx.keep e (fun p hp => Below.heap_alloc _ _ _ (block_lt hp))
  · intro _; rw [getD_set]; simp
  · intro e; rw [getD_set] at e ⊢; have e2 : l.getD 9 true = true := (by simpa using e)
    have := h.o1 e2; simp [this]
  · intro e; rw [getD_set] at e ⊢; have e2 : l.getD 10 true = true := (by simpa using e)
    have := h.o2 e2; simp [this]
  · intro e; rw [getD_set] at e ⊢; have e2 : l.getD 11 true = true := (by simpa using e)
    have := h.o3 e2; simp [this]
theorem EI.alloc1 {W : World} {v0 v1 v2 v3 z0 z1 z2 z3 : Array Value} {l : Array Bool} {x0 x1 x2 x3 y0 y1 y2 y3 : Value} {w : World} (h : EI W v0 v1 v2 v3 z0 z1 z2 z3 l x0 x1 x2 x3 y0 y1 y2 y3 w) (hk : l.getD 5 true = false) : EI W v0 v1 v2 v3 z0 z1 z2 z3 (l.setIfInBounds 5 true) x0 (.pointer (some ⟨w.heap.size, 0, none⟩)) x2 x3 y0 y1 y2 y3 (w.alloc (.cells z1 57)) := by
  refine ⟨by rw [Array.size_setIfInBounds]; exact h.sz, h.bel.alloc h.bel.size _, fun e => h.h0 (by rw [getD_set] at e; simpa using e), fun e => h.h1 (by rw [getD_set] at e; simpa using e), fun e => h.h2 (by rw [getD_set] at e; simpa using e), fun e => h.h3 (by rw [getD_set] at e; simpa using e), ?_, ?_, ?_, ?_, ?_, ?_, ?_, ?_⟩
  · have e := h.b0
    rw [show (l.setIfInBounds 5 true).getD 4 true = l.getD 4 true by rw [getD_set]; simp, show (l.setIfInBounds 5 true).getD 8 true = l.getD 8 true by rw [getD_set]; simp]
    exact EBx.keep e (fun p hp => Below.heap_alloc _ _ _ (block_lt hp))
  · have e8 : l.getD 9 true = false := by
      cases e : l.getD 9 true with
      | false => rfl
      | true => have := h.o1 e; rw [hk] at this; cases this
    intro _
    rw [show (l.setIfInBounds 5 true).getD 9 true = l.getD 9 true by rw [getD_set]; simp, e8]
    exact ⟨_, rfl, h.bel.size, heap_new w _⟩
  · have e := h.b2
    rw [show (l.setIfInBounds 5 true).getD 6 true = l.getD 6 true by rw [getD_set]; simp, show (l.setIfInBounds 5 true).getD 10 true = l.getD 10 true by rw [getD_set]; simp]
    exact EBx.keep e (fun p hp => Below.heap_alloc _ _ _ (block_lt hp))
  · have e := h.b3
    rw [show (l.setIfInBounds 5 true).getD 7 true = l.getD 7 true by rw [getD_set]; simp, show (l.setIfInBounds 5 true).getD 11 true = l.getD 11 true by rw [getD_set]; simp]
    exact EBx.keep e (fun p hp => Below.heap_alloc _ _ _ (block_lt hp))
  · intro e; rw [getD_set] at e ⊢; have e2 : l.getD 8 true = true := (by simpa using e)
    have := h.o0 e2; simp [this]
  · intro _; rw [getD_set]; simp
  · intro e; rw [getD_set] at e ⊢; have e2 : l.getD 10 true = true := (by simpa using e)
    have := h.o2 e2; simp [this]
  · intro e; rw [getD_set] at e ⊢; have e2 : l.getD 11 true = true := (by simpa using e)
    have := h.o3 e2; simp [this]
theorem EI.alloc2 {W : World} {v0 v1 v2 v3 z0 z1 z2 z3 : Array Value} {l : Array Bool} {x0 x1 x2 x3 y0 y1 y2 y3 : Value} {w : World} (h : EI W v0 v1 v2 v3 z0 z1 z2 z3 l x0 x1 x2 x3 y0 y1 y2 y3 w) (hk : l.getD 6 true = false) : EI W v0 v1 v2 v3 z0 z1 z2 z3 (l.setIfInBounds 6 true) x0 x1 (.pointer (some ⟨w.heap.size, 0, none⟩)) x3 y0 y1 y2 y3 (w.alloc (.cells z2 59)) := by
  refine ⟨by rw [Array.size_setIfInBounds]; exact h.sz, h.bel.alloc h.bel.size _, fun e => h.h0 (by rw [getD_set] at e; simpa using e), fun e => h.h1 (by rw [getD_set] at e; simpa using e), fun e => h.h2 (by rw [getD_set] at e; simpa using e), fun e => h.h3 (by rw [getD_set] at e; simpa using e), ?_, ?_, ?_, ?_, ?_, ?_, ?_, ?_⟩
  · have e := h.b0
    rw [show (l.setIfInBounds 6 true).getD 4 true = l.getD 4 true by rw [getD_set]; simp, show (l.setIfInBounds 6 true).getD 8 true = l.getD 8 true by rw [getD_set]; simp]
    exact EBx.keep e (fun p hp => Below.heap_alloc _ _ _ (block_lt hp))
  · have e := h.b1
    rw [show (l.setIfInBounds 6 true).getD 5 true = l.getD 5 true by rw [getD_set]; simp, show (l.setIfInBounds 6 true).getD 9 true = l.getD 9 true by rw [getD_set]; simp]
    exact EBx.keep e (fun p hp => Below.heap_alloc _ _ _ (block_lt hp))
  · have e8 : l.getD 10 true = false := by
      cases e : l.getD 10 true with
      | false => rfl
      | true => have := h.o2 e; rw [hk] at this; cases this
    intro _
    rw [show (l.setIfInBounds 6 true).getD 10 true = l.getD 10 true by rw [getD_set]; simp, e8]
    exact ⟨_, rfl, h.bel.size, heap_new w _⟩
  · have e := h.b3
    rw [show (l.setIfInBounds 6 true).getD 7 true = l.getD 7 true by rw [getD_set]; simp, show (l.setIfInBounds 6 true).getD 11 true = l.getD 11 true by rw [getD_set]; simp]
    exact EBx.keep e (fun p hp => Below.heap_alloc _ _ _ (block_lt hp))
  · intro e; rw [getD_set] at e ⊢; have e2 : l.getD 8 true = true := (by simpa using e)
    have := h.o0 e2; simp [this]
  · intro e; rw [getD_set] at e ⊢; have e2 : l.getD 9 true = true := (by simpa using e)
    have := h.o1 e2; simp [this]
  · intro _; rw [getD_set]; simp
  · intro e; rw [getD_set] at e ⊢; have e2 : l.getD 11 true = true := (by simpa using e)
    have := h.o3 e2; simp [this]
theorem EI.alloc3 {W : World} {v0 v1 v2 v3 z0 z1 z2 z3 : Array Value} {l : Array Bool} {x0 x1 x2 x3 y0 y1 y2 y3 : Value} {w : World} (h : EI W v0 v1 v2 v3 z0 z1 z2 z3 l x0 x1 x2 x3 y0 y1 y2 y3 w) (hk : l.getD 7 true = false) : EI W v0 v1 v2 v3 z0 z1 z2 z3 (l.setIfInBounds 7 true) x0 x1 x2 (.pointer (some ⟨w.heap.size, 0, none⟩)) y0 y1 y2 y3 (w.alloc (.cells z3 61)) := by
  refine ⟨by rw [Array.size_setIfInBounds]; exact h.sz, h.bel.alloc h.bel.size _, fun e => h.h0 (by rw [getD_set] at e; simpa using e), fun e => h.h1 (by rw [getD_set] at e; simpa using e), fun e => h.h2 (by rw [getD_set] at e; simpa using e), fun e => h.h3 (by rw [getD_set] at e; simpa using e), ?_, ?_, ?_, ?_, ?_, ?_, ?_, ?_⟩
  · have e := h.b0
    rw [show (l.setIfInBounds 7 true).getD 4 true = l.getD 4 true by rw [getD_set]; simp, show (l.setIfInBounds 7 true).getD 8 true = l.getD 8 true by rw [getD_set]; simp]
    exact EBx.keep e (fun p hp => Below.heap_alloc _ _ _ (block_lt hp))
  · have e := h.b1
    rw [show (l.setIfInBounds 7 true).getD 5 true = l.getD 5 true by rw [getD_set]; simp, show (l.setIfInBounds 7 true).getD 9 true = l.getD 9 true by rw [getD_set]; simp]
    exact EBx.keep e (fun p hp => Below.heap_alloc _ _ _ (block_lt hp))
  · have e := h.b2
    rw [show (l.setIfInBounds 7 true).getD 6 true = l.getD 6 true by rw [getD_set]; simp, show (l.setIfInBounds 7 true).getD 10 true = l.getD 10 true by rw [getD_set]; simp]
    exact EBx.keep e (fun p hp => Below.heap_alloc _ _ _ (block_lt hp))
  · have e8 : l.getD 11 true = false := by
      cases e : l.getD 11 true with
      | false => rfl
      | true => have := h.o3 e; rw [hk] at this; cases this
    intro _
    rw [show (l.setIfInBounds 7 true).getD 11 true = l.getD 11 true by rw [getD_set]; simp, e8]
    exact ⟨_, rfl, h.bel.size, heap_new w _⟩
  · intro e; rw [getD_set] at e ⊢; have e2 : l.getD 8 true = true := (by simpa using e)
    have := h.o0 e2; simp [this]
  · intro e; rw [getD_set] at e ⊢; have e2 : l.getD 9 true = true := (by simpa using e)
    have := h.o1 e2; simp [this]
  · intro e; rw [getD_set] at e ⊢; have e2 : l.getD 10 true = true := (by simpa using e)
    have := h.o2 e2; simp [this]
  · intro _; rw [getD_set]; simp
theorem EI.store0 {W : World} {v0 v1 v2 v3 z0 z1 z2 z3 : Array Value} {l : Array Bool} {p : Nat} {x1 x2 x3 y0 y1 y2 y3 : Value} {w : World} (h : EI W v0 v1 v2 v3 z0 z1 z2 z3 l (.pointer (some ⟨p, 0, none⟩)) x1 x2 x3 y0 y1 y2 y3 w) (he : l.getD 4 true = true) (hp0 : W.heap.size ≤ p) {zz : Array Value} (hz : w.heap[p]? = some (.cells zz 55 (0, 0))) {w' : World} (ho : SameB p w w') (hw : w'.heap[p]? = some (.cells v0 55 (0, 0))) : EI W v0 v1 v2 v3 z0 z1 z2 z3 (l.setIfInBounds 8 true) (.pointer (some ⟨p, 0, none⟩)) x1 x2 x3 y0 y1 y2 y3 w' := by
  refine ⟨by rw [Array.size_setIfInBounds]; exact h.sz, h.bel.trans ⟨ho.os, ho.tape, ho.output, Nat.le_of_eq ho.size.symm, fun k hk => ho.oth k (by omega)⟩, fun e => h.h0 (by rw [getD_set] at e; simpa using e), fun e => h.h1 (by rw [getD_set] at e; simpa using e), fun e => h.h2 (by rw [getD_set] at e; simpa using e), fun e => h.h3 (by rw [getD_set] at e; simpa using e), ?_, ?_, ?_, ?_, ?_, ?_, ?_, ?_⟩
  · intro _
    rw [show (l.setIfInBounds 8 true).getD 8 true = true by rw [getD_set]; simp]
    exact ⟨_, rfl, hp0, hw⟩
  · have e := h.b1
    rw [show (l.setIfInBounds 8 true).getD 5 true = l.getD 5 true by rw [getD_set]; simp, show (l.setIfInBounds 8 true).getD 9 true = l.getD 9 true by rw [getD_set]; simp]
    exact EBx.keep e (fun q hq => ho.oth q (fun e => by rw [e, hz] at hq; simp at hq))
  · have e := h.b2
    rw [show (l.setIfInBounds 8 true).getD 6 true = l.getD 6 true by rw [getD_set]; simp, show (l.setIfInBounds 8 true).getD 10 true = l.getD 10 true by rw [getD_set]; simp]
    exact EBx.keep e (fun q hq => ho.oth q (fun e => by rw [e, hz] at hq; simp at hq))
  · have e := h.b3
    rw [show (l.setIfInBounds 8 true).getD 7 true = l.getD 7 true by rw [getD_set]; simp, show (l.setIfInBounds 8 true).getD 11 true = l.getD 11 true by rw [getD_set]; simp]
    exact EBx.keep e (fun q hq => ho.oth q (fun e => by rw [e, hz] at hq; simp at hq))
  · intro _; rw [getD_set]; simp [he]
  · intro e; rw [getD_set] at e ⊢; have e2 : l.getD 9 true = true := (by simpa using e)
    have := h.o1 e2; simp [this]
  · intro e; rw [getD_set] at e ⊢; have e2 : l.getD 10 true = true := (by simpa using e)
    have := h.o2 e2; simp [this]
  · intro e; rw [getD_set] at e ⊢; have e2 : l.getD 11 true = true := (by simpa using e)
    have := h.o3 e2; simp [this]
theorem EI.store1 {W : World} {v0 v1 v2 v3 z0 z1 z2 z3 : Array Value} {l : Array Bool} {p : Nat} {x0 x2 x3 y0 y1 y2 y3 : Value} {w : World} (h : EI W v0 v1 v2 v3 z0 z1 z2 z3 l x0 (.pointer (some ⟨p, 0, none⟩)) x2 x3 y0 y1 y2 y3 w) (he : l.getD 5 true = true) (hp0 : W.heap.size ≤ p) {zz : Array Value} (hz : w.heap[p]? = some (.cells zz 57 (0, 0))) {w' : World} (ho : SameB p w w') (hw : w'.heap[p]? = some (.cells v1 57 (0, 0))) : EI W v0 v1 v2 v3 z0 z1 z2 z3 (l.setIfInBounds 9 true) x0 (.pointer (some ⟨p, 0, none⟩)) x2 x3 y0 y1 y2 y3 w' := by
  refine ⟨by rw [Array.size_setIfInBounds]; exact h.sz, h.bel.trans ⟨ho.os, ho.tape, ho.output, Nat.le_of_eq ho.size.symm, fun k hk => ho.oth k (by omega)⟩, fun e => h.h0 (by rw [getD_set] at e; simpa using e), fun e => h.h1 (by rw [getD_set] at e; simpa using e), fun e => h.h2 (by rw [getD_set] at e; simpa using e), fun e => h.h3 (by rw [getD_set] at e; simpa using e), ?_, ?_, ?_, ?_, ?_, ?_, ?_, ?_⟩
  · have e := h.b0
    rw [show (l.setIfInBounds 9 true).getD 4 true = l.getD 4 true by rw [getD_set]; simp, show (l.setIfInBounds 9 true).getD 8 true = l.getD 8 true by rw [getD_set]; simp]
    exact EBx.keep e (fun q hq => ho.oth q (fun e => by rw [e, hz] at hq; simp at hq))
  · intro _
    rw [show (l.setIfInBounds 9 true).getD 9 true = true by rw [getD_set]; simp]
    exact ⟨_, rfl, hp0, hw⟩
  · have e := h.b2
    rw [show (l.setIfInBounds 9 true).getD 6 true = l.getD 6 true by rw [getD_set]; simp, show (l.setIfInBounds 9 true).getD 10 true = l.getD 10 true by rw [getD_set]; simp]
    exact EBx.keep e (fun q hq => ho.oth q (fun e => by rw [e, hz] at hq; simp at hq))
  · have e := h.b3
    rw [show (l.setIfInBounds 9 true).getD 7 true = l.getD 7 true by rw [getD_set]; simp, show (l.setIfInBounds 9 true).getD 11 true = l.getD 11 true by rw [getD_set]; simp]
    exact EBx.keep e (fun q hq => ho.oth q (fun e => by rw [e, hz] at hq; simp at hq))
  · intro e; rw [getD_set] at e ⊢; have e2 : l.getD 8 true = true := (by simpa using e)
    have := h.o0 e2; simp [this]
  · intro _; rw [getD_set]; simp [he]
  · intro e; rw [getD_set] at e ⊢; have e2 : l.getD 10 true = true := (by simpa using e)
    have := h.o2 e2; simp [this]
  · intro e; rw [getD_set] at e ⊢; have e2 : l.getD 11 true = true := (by simpa using e)
    have := h.o3 e2; simp [this]
theorem EI.store2 {W : World} {v0 v1 v2 v3 z0 z1 z2 z3 : Array Value} {l : Array Bool} {p : Nat} {x0 x1 x3 y0 y1 y2 y3 : Value} {w : World} (h : EI W v0 v1 v2 v3 z0 z1 z2 z3 l x0 x1 (.pointer (some ⟨p, 0, none⟩)) x3 y0 y1 y2 y3 w) (he : l.getD 6 true = true) (hp0 : W.heap.size ≤ p) {zz : Array Value} (hz : w.heap[p]? = some (.cells zz 59 (0, 0))) {w' : World} (ho : SameB p w w') (hw : w'.heap[p]? = some (.cells v2 59 (0, 0))) : EI W v0 v1 v2 v3 z0 z1 z2 z3 (l.setIfInBounds 10 true) x0 x1 (.pointer (some ⟨p, 0, none⟩)) x3 y0 y1 y2 y3 w' := by
  refine ⟨by rw [Array.size_setIfInBounds]; exact h.sz, h.bel.trans ⟨ho.os, ho.tape, ho.output, Nat.le_of_eq ho.size.symm, fun k hk => ho.oth k (by omega)⟩, fun e => h.h0 (by rw [getD_set] at e; simpa using e), fun e => h.h1 (by rw [getD_set] at e; simpa using e), fun e => h.h2 (by rw [getD_set] at e; simpa using e), fun e => h.h3 (by rw [getD_set] at e; simpa using e), ?_, ?_, ?_, ?_, ?_, ?_, ?_, ?_⟩
  · have e := h.b0
    rw [show (l.setIfInBounds 10 true).getD 4 true = l.getD 4 true by rw [getD_set]; simp, show (l.setIfInBounds 10 true).getD 8 true = l.getD 8 true by rw [getD_set]; simp]
    exact EBx.keep e (fun q hq => ho.oth q (fun e => by rw [e, hz] at hq; simp at hq))
  · have e := h.b1
    rw [show (l.setIfInBounds 10 true).getD 5 true = l.getD 5 true by rw [getD_set]; simp, show (l.setIfInBounds 10 true).getD 9 true = l.getD 9 true by rw [getD_set]; simp]
    exact EBx.keep e (fun q hq => ho.oth q (fun e => by rw [e, hz] at hq; simp at hq))
  · intro _
    rw [show (l.setIfInBounds 10 true).getD 10 true = true by rw [getD_set]; simp]
    exact ⟨_, rfl, hp0, hw⟩
  · have e := h.b3
    rw [show (l.setIfInBounds 10 true).getD 7 true = l.getD 7 true by rw [getD_set]; simp, show (l.setIfInBounds 10 true).getD 11 true = l.getD 11 true by rw [getD_set]; simp]
    exact EBx.keep e (fun q hq => ho.oth q (fun e => by rw [e, hz] at hq; simp at hq))
  · intro e; rw [getD_set] at e ⊢; have e2 : l.getD 8 true = true := (by simpa using e)
    have := h.o0 e2; simp [this]
  · intro e; rw [getD_set] at e ⊢; have e2 : l.getD 9 true = true := (by simpa using e)
    have := h.o1 e2; simp [this]
  · intro _; rw [getD_set]; simp [he]
  · intro e; rw [getD_set] at e ⊢; have e2 : l.getD 11 true = true := (by simpa using e)
    have := h.o3 e2; simp [this]
theorem EI.store3 {W : World} {v0 v1 v2 v3 z0 z1 z2 z3 : Array Value} {l : Array Bool} {p : Nat} {x0 x1 x2 y0 y1 y2 y3 : Value} {w : World} (h : EI W v0 v1 v2 v3 z0 z1 z2 z3 l x0 x1 x2 (.pointer (some ⟨p, 0, none⟩)) y0 y1 y2 y3 w) (he : l.getD 7 true = true) (hp0 : W.heap.size ≤ p) {zz : Array Value} (hz : w.heap[p]? = some (.cells zz 61 (0, 0))) {w' : World} (ho : SameB p w w') (hw : w'.heap[p]? = some (.cells v3 61 (0, 0))) : EI W v0 v1 v2 v3 z0 z1 z2 z3 (l.setIfInBounds 11 true) x0 x1 x2 (.pointer (some ⟨p, 0, none⟩)) y0 y1 y2 y3 w' := by
  refine ⟨by rw [Array.size_setIfInBounds]; exact h.sz, h.bel.trans ⟨ho.os, ho.tape, ho.output, Nat.le_of_eq ho.size.symm, fun k hk => ho.oth k (by omega)⟩, fun e => h.h0 (by rw [getD_set] at e; simpa using e), fun e => h.h1 (by rw [getD_set] at e; simpa using e), fun e => h.h2 (by rw [getD_set] at e; simpa using e), fun e => h.h3 (by rw [getD_set] at e; simpa using e), ?_, ?_, ?_, ?_, ?_, ?_, ?_, ?_⟩
  · have e := h.b0
    rw [show (l.setIfInBounds 11 true).getD 4 true = l.getD 4 true by rw [getD_set]; simp, show (l.setIfInBounds 11 true).getD 8 true = l.getD 8 true by rw [getD_set]; simp]
    exact EBx.keep e (fun q hq => ho.oth q (fun e => by rw [e, hz] at hq; simp at hq))
  · have e := h.b1
    rw [show (l.setIfInBounds 11 true).getD 5 true = l.getD 5 true by rw [getD_set]; simp, show (l.setIfInBounds 11 true).getD 9 true = l.getD 9 true by rw [getD_set]; simp]
    exact EBx.keep e (fun q hq => ho.oth q (fun e => by rw [e, hz] at hq; simp at hq))
  · have e := h.b2
    rw [show (l.setIfInBounds 11 true).getD 6 true = l.getD 6 true by rw [getD_set]; simp, show (l.setIfInBounds 11 true).getD 10 true = l.getD 10 true by rw [getD_set]; simp]
    exact EBx.keep e (fun q hq => ho.oth q (fun e => by rw [e, hz] at hq; simp at hq))
  · intro _
    rw [show (l.setIfInBounds 11 true).getD 11 true = true by rw [getD_set]; simp]
    exact ⟨_, rfl, hp0, hw⟩
  · intro e; rw [getD_set] at e ⊢; have e2 : l.getD 8 true = true := (by simpa using e)
    have := h.o0 e2; simp [this]
  · intro e; rw [getD_set] at e ⊢; have e2 : l.getD 9 true = true := (by simpa using e)
    have := h.o1 e2; simp [this]
  · intro e; rw [getD_set] at e ⊢; have e2 : l.getD 10 true = true := (by simpa using e)
    have := h.o2 e2; simp [this]
  · intro _; rw [getD_set]; simp [he]
/-- the frame at region 2 -/
abbrev eact (H : Nat) (v0 v1 v2 v3 : Array Value) (ext : Bool) (s0 s1 s2 s3 x0 x1 x2 x3 y0 y1 y2 y3 : Value) : Act := { tmps := #[.agg v0, .agg v1, .agg v2, .agg v3, .bool ext, .pointer (some ⟨H, 0, none⟩), .pointer (some ⟨H + 1, 0, none⟩), .pointer (some ⟨H + 1 + 1, 0, none⟩), .pointer (some ⟨H + 1 + 1 + 1, 0, none⟩), undef, .bool false, .pointer (some ⟨H + 1 + 1 + 1 + 1, 0, none⟩), x0, x1, x2, x3, undef, undef, undef, undef, undef, undef, undef, undef, undef, undef, .pointer (some ⟨H, 3, none⟩), s0, .pointer (some ⟨H + 1, 2, none⟩), s1, .pointer (some ⟨H + 1 + 1, 5, none⟩), s2, .pointer (some ⟨H + 1 + 1 + 1, 4, none⟩), s3, .agg #[s0, s1, s2, s3], y0, y1, y2, y3, undef, undef, undef, undef, undef, undef, undef, undef, undef, undef, undef, undef, undef, undef, undef, undef, undef, undef, undef, undef, undef, undef, undef, undef, undef, undef, undef, undef, undef, undef, undef, undef, undef, undef, undef, undef, undef, undef, undef, undef, undef, undef, undef, undef, undef, undef, undef, undef, undef, undef, undef, undef, undef, undef, undef, undef, undef, undef, undef, undef, undef, undef, undef, undef, undef, undef, undef, undef, undef, undef, undef, undef, undef, undef, undef, undef, undef, undef, undef, undef, undef, undef, undef, undef, undef, undef, undef, undef, undef, undef, undef, undef, undef, undef, undef, undef, undef, undef, undef, undef, undef, undef, undef, undef, undef, undef, undef, undef, undef], defers := [] }
end Go.Proofs.YtjhickfjagalfaaDoor
