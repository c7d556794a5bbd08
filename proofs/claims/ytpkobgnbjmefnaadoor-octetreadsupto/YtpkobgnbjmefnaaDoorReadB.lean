import Derived.Test.YtpkobgnbjmefnaaDoorReadA
import Derived.Test.YtpkobgnbjmefnaaDoorBackL
import Derived.Test.YtpkobgnbjmefnaaDoorOwnW
namespace Go.Proofs.YtpkobgnbjmefnaaDoor
open Go.RowKit
set_option linter.unusedVariables false
set_option maxRecDepth 100000

/-- the reader and the answer's reader, over the same bytes -/
structure Both (w0 w : World) (r : Nat) (ao1 : Option Addr) (cap1 p : Nat) (ao2 : Option Addr) (cap2 : Nat) (l : List Nat) (a b : Nat) : Prop where
  r : ROk w w0.heap.size r ao1 cap1 l a
  p : POk w w0.heap.size p ao2 cap2 l b
  bel : Below w0.heap.size w0 w
variable {w0 w w' : World} {r : Nat} {ao1 : Option Addr} {cap1 p : Nat} {ao2 : Option Addr} {cap2 : Nat} {l : List Nat} {a b : Nat}
theorem Both.ne (h : Both w0 w r ao1 cap1 p ao2 cap2 l a b) : r ≠ p ∧ (Value.slice ao1 l.length cap1).ownBlock ≠ some p ∧ (Value.slice ao2 l.length cap2).ownBlock ≠ some r := by
  refine ⟨fun e => ?_, fun e => ?_, fun e => ?_⟩
  · have h1 := h.r.blk
    rw [e, h.p.blk] at h1; simp at h1
  · obtain ⟨cur, hc⟩ := owns_type h.r.own p e
    rw [h.p.blk] at hc; simp at hc
  · obtain ⟨cur, hc⟩ := owns_type h.p.own r e
    rw [h.r.blk] at hc; simp at hc
theorem Both.afterR (h : Both w0 w r ao1 cap1 p ao2 cap2 l a b) {a' : Nat} (k : RPost w w' w0.heap.size r ao1 cap1 l a') : Both w0 w' r ao1 cap1 p ao2 cap2 l a' b := by
  obtain ⟨h1, h2, h3⟩ := h.ne
  refine ⟨k.ok, h.p.later k.kept (fun e => h1 e.symm) (fun g hg e => h3 (by rw [hg]; exact congrArg some e)), h.bel.trans (k.kept.below h.bel.size (fun g hg e => ?_))⟩
  have := h.r.hr
  omega
theorem Both.afterP (h : Both w0 w r ao1 cap1 p ao2 cap2 l a b) {b' : Nat} (k : PPost w w' w0.heap.size p ao2 cap2 l b') : Both w0 w' r ao1 cap1 p ao2 cap2 l a b' := by
  obtain ⟨h1, h2, h3⟩ := h.ne
  refine ⟨h.r.later k.kept (fun e => h1 e) (fun g hg e => h2 (by rw [hg]; exact congrArg some e)), k.ok, h.bel.trans (k.kept.below h.bel.size (fun g hg e => ?_))⟩
  have := h.p.hp
  omega
theorem Both.later {w1 : World} (h1 : Both w0 w1 r ao1 cap1 p ao2 cap2 l a b) {a' b' : Nat} (h : Both w0 w r ao1 cap1 p ao2 cap2 l a' b') {S : Nat → Prop} (k : KeptIn S w w') (hS : ∀ g, S g → w1.heap.size ≤ g) : Both w0 w' r ao1 cap1 p ao2 cap2 l a' b' := by
  refine ⟨h.r.later k (fun e => ?_) (fun g hg e => ?_), h.p.later k (fun e => ?_) (fun g hg e => ?_), h.bel.trans (k.below h.bel.size (fun g hg e => ?_))⟩
  · have := hS _ e; have := block_lt h1.r.blk; omega
  · have := hS _ e; have := (owns_lt h1.r.own g hg).1; omega
  · have := hS _ e; have := block_lt h1.p.blk; omega
  · have := hS _ e; have := (owns_lt h1.p.own g hg).1; omega
  · have := hS _ e; have := h1.bel.size; omega
theorem Both.below (h : Both w0 w r ao1 cap1 p ao2 cap2 l a b) (k : Below w.heap.size w w') : Both w0 w' r ao1 cap1 p ao2 cap2 l a b :=
  h.later h (S := fun _ => False) (KeptIn.ofBelow k) (fun _ h => absurd h id)
theorem Both.locR {o : Obj} (h : Both w0 w r ao1 cap1 p ao2 cap2 l a b) {a' : Nat} (k : RPost (w.alloc o) w' w0.heap.size r ao1 cap1 l a') : w'.heap[w.heap.size]? = some o := by
  rw [k.kept.block _ (by simp) (fun e => by have := block_lt h.r.blk; omega)]; exact heap_new w o
theorem Both.locP {w2 : World} {o : Obj} {a' b' : Nat} (h : Both w0 w r ao1 cap1 p ao2 cap2 l a b) (k : PPost w' w2 w0.heap.size p ao2 cap2 l b') (hl : w'.heap[w.heap.size]? = some o) : w2.heap[w.heap.size]? = some o := by
  rw [k.kept.block _ (block_lt hl) (fun e => by have := block_lt h.p.blk; omega)]; exact hl
theorem below_drew0 (w : World) (q : Nat) : Below w.heap.size w (w.drewN q) := ⟨rfl, rfl, rfl, Nat.le_refl _, fun _ _ => rfl⟩
theorem Both.drewN (h : Both w0 w r ao1 cap1 p ao2 cap2 l a b) (q : Nat) : Both w0 (w.drewN q) r ao1 cap1 p ao2 cap2 l a b := h.below (below_drew0 w q)
end Go.Proofs.YtpkobgnbjmefnaaDoor
