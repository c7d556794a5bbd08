import Derived.Test.YtpkobgnbjmefnabDoorReadA
import Derived.Test.YtpkobgnbjmefnabDoorBackL
import Derived.Test.YtpkobgnbjmefnabDoorOwnW
namespace Go.Proofs.YtpkobgnbjmefnabDoor
open Go.RowKit
set_option linter.unusedVariables false
set_option maxRecDepth 100000

/-- the reader and the answer's reader, over the same bytes -/
structure Bth (B : Nat) (w0 w : World) (rr : Nat) (ao1 : Option Addr) (cap1 pp : Nat) (ao2 : Option Addr) (cap2 : Nat) (l : List Nat) (a b : Nat) : Prop where
  r : ROk w B rr ao1 cap1 l a
  p : POk w B pp ao2 cap2 l b
  bel : KeptIn (fun g => g = rr ∨ g = pp) w0 w
  base : B ≤ w0.heap.size
variable {B : Nat} {w0 w w' : World} {r : Nat} {ao1 : Option Addr} {cap1 p : Nat} {ao2 : Option Addr} {cap2 : Nat} {l : List Nat} {a b : Nat}
theorem Bth.ne (h : Bth B w0 w r ao1 cap1 p ao2 cap2 l a b) : r ≠ p ∧ (Value.slice ao1 l.length cap1).ownBlock ≠ some p ∧ (Value.slice ao2 l.length cap2).ownBlock ≠ some r := by
  refine ⟨fun e => ?_, fun e => ?_, fun e => ?_⟩
  · have h1 := h.r.blk
    rw [e, h.p.blk] at h1; simp at h1
  · obtain ⟨cur, hc⟩ := owns_type h.r.own p e
    rw [h.p.blk] at hc; simp at hc
  · obtain ⟨cur, hc⟩ := owns_type h.p.own r e
    rw [h.r.blk] at hc; simp at hc
theorem Bth.afterR (h : Bth B w0 w r ao1 cap1 p ao2 cap2 l a b) {a' : Nat} (k : RPost w w' B r ao1 cap1 l a') : Bth B w0 w' r ao1 cap1 p ao2 cap2 l a' b := by
  obtain ⟨h1, h2, h3⟩ := h.ne
  exact ⟨k.ok, h.p.later k.kept (fun e => h1 e.symm) (fun g hg e => h3 (by rw [hg]; exact congrArg some e)), h.bel.trans k.kept (fun g _ hS e => hS (.inl e)), h.base⟩
theorem Bth.afterP (h : Bth B w0 w r ao1 cap1 p ao2 cap2 l a b) {b' : Nat} (k : PPost w w' B p ao2 cap2 l b') : Bth B w0 w' r ao1 cap1 p ao2 cap2 l a b' := by
  obtain ⟨h1, h2, h3⟩ := h.ne
  exact ⟨h.r.later k.kept (fun e => h1 e) (fun g hg e => h2 (by rw [hg]; exact congrArg some e)), k.ok, h.bel.trans k.kept (fun g _ hS e => hS (.inr e)), h.base⟩
theorem Bth.later {w1 : World} (h1 : Bth B w0 w1 r ao1 cap1 p ao2 cap2 l a b) {a' b' : Nat} (h : Bth B w0 w r ao1 cap1 p ao2 cap2 l a' b') {S : Nat → Prop} (k : KeptIn S w w') (hS : ∀ g, S g → w1.heap.size ≤ g) : Bth B w0 w' r ao1 cap1 p ao2 cap2 l a' b' := by
  refine ⟨h.r.later k (fun e => ?_) (fun g hg e => ?_), h.p.later k (fun e => ?_) (fun g hg e => ?_), h.bel.trans k (fun g hg _ e => ?_), h.base⟩
  · have := hS _ e; have := block_lt h1.r.blk; omega
  · have := hS _ e; have := (owns_lt h1.r.own g hg).1; omega
  · have := hS _ e; have := block_lt h1.p.blk; omega
  · have := hS _ e; have := (owns_lt h1.p.own g hg).1; omega
  · have := hS _ e; have := h1.bel.size; omega
theorem Bth.below (h : Bth B w0 w r ao1 cap1 p ao2 cap2 l a b) (k : Below w.heap.size w w') : Bth B w0 w' r ao1 cap1 p ao2 cap2 l a b :=
  h.later h (S := fun _ => False) (KeptIn.ofBelow k) (fun _ h => absurd h id)
theorem Bth.locR {o : Obj} (h : Bth B w0 w r ao1 cap1 p ao2 cap2 l a b) {a' : Nat} (k : RPost (w.alloc o) w' B r ao1 cap1 l a') : w'.heap[w.heap.size]? = some o := by
  rw [k.kept.block _ (by simp) (fun e => by have := block_lt h.r.blk; omega)]; exact heap_new w o
theorem Bth.locP {w2 : World} {o : Obj} {a' b' : Nat} (h : Bth B w0 w r ao1 cap1 p ao2 cap2 l a b) (k : PPost w' w2 B p ao2 cap2 l b') (hl : w'.heap[w.heap.size]? = some o) : w2.heap[w.heap.size]? = some o := by
  rw [k.kept.block _ (block_lt hl) (fun e => by have := block_lt h.p.blk; omega)]; exact hl
theorem below_drew0 (w : World) (q : Nat) : Below w.heap.size w (w.drewN q) := ⟨rfl, rfl, rfl, Nat.le_refl _, fun _ _ => rfl⟩
theorem Bth.drewN (h : Bth B w0 w r ao1 cap1 p ao2 cap2 l a b) (q : Nat) : Bth B w0 (w.drewN q) r ao1 cap1 p ao2 cap2 l a b := h.below (below_drew0 w q)
end Go.Proofs.YtpkobgnbjmefnabDoor
