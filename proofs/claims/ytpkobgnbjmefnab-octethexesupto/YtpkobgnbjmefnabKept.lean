import Derived.Test.YtpkobgnbjmefnabOwnStep
import Derived.Test.YtpkobgnbjmefnabLend
namespace Go.Proofs.Ytpkobgnbjmefnab
open Go.RowKit
set_option linter.unusedVariables false
set_option maxRecDepth 100000

/-- but for the blocks in S the world is as it was -/
structure KeptIn (S : Nat → Prop) (w w' : World) : Prop where
  os : w'.os = w.os
  tape : w'.tape = w.tape
  output : w'.output = w.output
  size : w.heap.size ≤ w'.heap.size
  block : ∀ g, g < w.heap.size → ¬ S g → w'.heap[g]? = w.heap[g]?
theorem KeptIn.refl (S : Nat → Prop) (w : World) : KeptIn S w w := ⟨rfl, rfl, rfl, Nat.le_refl _, fun _ _ _ => rfl⟩
theorem KeptIn.trans {S T : Nat → Prop} {a b c : World} (h : KeptIn S a b) (k : KeptIn T b c) (hT : ∀ g, g < a.heap.size → ¬ S g → ¬ T g) : KeptIn S a c :=
  ⟨k.os.trans h.os, k.tape.trans h.tape, k.output.trans h.output, Nat.le_trans h.size k.size, fun g hg hS => (k.block g (Nat.lt_of_lt_of_le hg h.size) (hT g hg hS)).trans (h.block g hg hS)⟩
theorem KeptIn.mono {S T : Nat → Prop} {a b : World} (h : KeptIn S a b) (hT : ∀ g, g < a.heap.size → S g → T g) : KeptIn T a b :=
  ⟨h.os, h.tape, h.output, h.size, fun g hg hn => h.block g hg (fun hs => hn (hT g hg hs))⟩
theorem KeptIn.below {S : Nat → Prop} {a b : World} {B : Nat} (h : KeptIn S a b) (hB : B ≤ a.heap.size) (hS : ∀ g, g < B → ¬ S g) : Below B a b :=
  ⟨h.os, h.tape, h.output, h.size, fun g hg => h.block g (by omega) (hS g hg)⟩
theorem Below.keptIn {B : Nat} {a b : World} (h : Below B a b) : KeptIn (fun g => B ≤ g) a b :=
  ⟨h.os, h.tape, h.output, h.size, fun g hg hS => h.block g (by omega)⟩
theorem KeptIn.ofBelow {S : Nat → Prop} {a b : World} (h : Below a.heap.size a b) : KeptIn S a b := ⟨h.os, h.tape, h.output, h.size, fun g hg _ => h.block g hg⟩

theorem block_lt {w : World} {g : Nat} {o : Obj} (h : w.heap[g]? = some o) : g < w.heap.size := by
  rcases Nat.lt_or_ge g w.heap.size with h' | h'
  · exact h'
  · rw [Array.getElem?_eq_none h'] at h; simp at h
theorem owns_lt {w : World} {base e n : Nat} {v : Value} {xs : List Value} (h : w.ownsRow base e 1 v n xs) (g : Nat) (hg : v.ownBlock = some g) : g < w.heap.size ∧ base ≤ g := by
  rcases h.2 with ⟨hv, _⟩ | ⟨g', cap, cur, hv, hb, hh, _⟩
  · subst hv; simp [Value.ownBlock] at hg
  · subst hv; simp [Value.ownBlock] at hg; subst hg; exact ⟨block_lt hh, hb⟩
theorem owns_type {w : World} {base e n : Nat} {v : Value} {xs : List Value} (h : w.ownsRow base e 1 v n xs) (g : Nat) (hg : v.ownBlock = some g) : ∃ cur, w.heap[g]? = some (.cells cur e (0, 0)) := by
  rcases h.2 with ⟨hv, _⟩ | ⟨g', cap, cur, hv, hb, hh, _⟩
  · subst hv; simp [Value.ownBlock] at hg
  · subst hv; simp [Value.ownBlock] at hg; subst hg; exact ⟨cur, hh⟩
theorem owns_same {w w' : World} {base e n : Nat} {v : Value} {xs : List Value} (h : w.ownsRow base e 1 v n xs) (hs : ∀ g, v.ownBlock = some g → w'.heap[g]? = w.heap[g]?) : w'.ownsRow base e 1 v n xs := by
  refine ⟨h.1, ?_⟩
  rcases h.2 with h2 | ⟨g, cap, cur, hv, hb, hh, r⟩
  · exact .inl h2
  · subst hv; exact .inr ⟨g, cap, cur, rfl, hb, by rw [hs g rfl]; exact hh, r⟩
theorem blk_at {w : World} {p : Nat} {cs : Array Value} {t : TypeId} {fr : Nat × Nat} (h : w.heap[p]? = some (.cells cs t fr)) (j : Nat) : w.cell? ⟨p, j, none⟩ = cs[j]? := by
  unfold World.cell?; rw [h]; simp
theorem blk_free {w : World} {p : Nat} {cs : Array Value} {t : TypeId} (h : w.heap[p]? = some (.cells cs t (0, 0))) (j : Nat) : w.frozen? ⟨p, j, none⟩ = false := frozen_of_row w p j cs t h
theorem heap_new (w : World) (o : Obj) : (w.alloc o).heap[w.heap.size]? = some o := by
  show (w.heap.push o)[w.heap.size]? = _
  simp
end Go.Proofs.Ytpkobgnbjmefnab
