import Derived.Test.YtjikibhhhchgeaaDoorPBd
namespace Go.Proofs.YtjikibhhhchgeaaDoor
open Go.RowKit
set_option linter.unusedVariables false
set_option linter.unusedSimpArgs false
set_option maxRecDepth 100000
theorem Bg.keep {w W : World} {c r : Nat} {ao : Option Addr} {cap : Nat} {l : List Nat} {at_ er : Nat} {W' : World} {ge : Nat} {A : Array Value} {t : TypeId} (h : Bg w W c r ao cap l at_ er) (eb : W.heap[ge]? = some (.cells A t (0, 0))) (h1 : t ≠ 176) (h2 : t ≠ 197) (k : KeptIn (two c r) W W') : W'.heap[ge]? = some (.cells A t (0, 0)) := by
  rw [k.block ge (block_lt eb) ?_]
  · exact eb
  · rintro (e | e)
    · subst e; have := h.rd.blk; rw [eb] at this; simp at this; exact h2 this.2
    · subst e; have := h.bd; rw [eb] at this; simp at this; exact h1 this.2
theorem Bg.put {w W : World} {c r : Nat} {ao : Option Addr} {cap : Nat} {l : List Nat} {at_ er : Nat} {ge : Nat} {A : Array Value} {t : TypeId} (h : Bg w W c r ao cap l at_ er) (eb : W.heap[ge]? = some (.cells A t (0, 0))) (h1 : t ≠ 176) (h2 : t ≠ 197) (h3 : t ≠ 5) (hge : w.heap.size ≤ ge) (j : Nat) (v : Value) : Bg w (W.setCell ⟨ge, j, none⟩ v) c r ao cap l at_ er := by
  have k := keptIn_set W ge j v
  have n1 : c ≠ ge := by rintro rfl; have := h.bd; rw [eb] at this; simp at this; exact h1 this.2
  have n2 : r ≠ ge := by rintro rfl; have := h.rd.blk; rw [eb] at this; simp at this; exact h2 this.2
  refine ⟨h.bel.trans (k.below h.bel.size (fun g hg e => by omega)), by rw [k.block c (block_lt h.bd) n1]; exact h.bd, h.hc, h.rd.later k n2 (fun g hg e => ?_)⟩
  obtain ⟨cur, e1⟩ := owns_type h.rd.own g hg
  rw [e, eb] at e1
  simp at e1
  exact h3 e1.2
/-- a row that was made behind the body's making stays -/
theorem Bg.row {w W : World} {c r : Nat} {ao : Option Addr} {cap : Nat} {l : List Nat} {at_ er : Nat} {W' : World} {B n : Nat} {v : Value} {xs : List Value} (h : Bg w W c r ao cap l at_ er) (ho : W.ownsRow B 5 1 v n xs) (hB : c < B ∧ r < B) (k : KeptIn (two c r) W W') : W'.ownsRow B 5 1 v n xs :=
  owns_same ho (fun g hg => k.block g (owns_lt ho g hg).1 (fun e => by have := (owns_lt ho g hg).2; rcases e with e | e <;> omega))
end Go.Proofs.YtjikibhhhchgeaaDoor
