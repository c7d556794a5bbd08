import Derived.Test.YtfifaaopdhcaaaaGreatDoorY21
namespace Go.Proofs.YtfifaaopdhcaaaaGreatDoor
open Go.RowKit
set_option linter.unusedVariables false
set_option linter.unusedSimpArgs false
set_option maxRecDepth 100000
theorem u16L_lt (l : List Nat) : ∀ x ∈ u16L l, x < 256 := by
  intro x hx
  obtain ⟨y, _, hy⟩ := List.mem_flatMap.1 hx
  exact bigTo_lt _ _ _ x hy
end Go.Proofs.YtfifaaopdhcaaaaGreatDoor

namespace Go.Proofs.YtfifaaopdhcaaaaGreatDoor
open Go.RowKit
set_option linter.unusedVariables false
set_option linter.unusedSimpArgs false
set_option maxRecDepth 100000
/-- texts in memory -/
structure Strs (w : World) (ao : Option Addr) (l : List ByteArray) : Prop where
  sz : ∀ x ∈ l, x.size ≤ 9223372036854775807
  at_ : l ≠ [] → ∃ b off, ao = some ⟨b, off, none⟩ ∧ ∀ k (hk : k < l.length), w.cell? ⟨b, off + k, none⟩ = some (.string l[k])
theorem Strs.later {w w' : World} {ao : Option Addr} {l : List ByteArray} (h : Strs w ao l) (hb : Below w.heap.size w w') : Strs w' ao l :=
  ⟨h.sz, fun hl => by obtain ⟨b, off, e, hc⟩ := h.at_ hl; exact ⟨b, off, e, fun k hk => cell_later hb (hc k hk)⟩⟩
def txs (l : List ByteArray) : Bool := l.all tx
theorem txs_take {l : List ByteArray} {j : Nat} (h : txs (l.take j) = true) (hj : j < l.length) (ht : tx l[j] = true) : txs (l.take (j + 1)) = true := by
  rw [List.take_add_one, List.getElem?_eq_getElem hj]
  simp only [txs, List.all_append, Option.toList, List.all_cons, List.all_nil, Bool.and_true, Bool.and_eq_true] at h ⊢
  exact ⟨h, ht⟩
theorem txs_bad {l : List ByteArray} {j : Nat} (hj : j < l.length) (ht : tx l[j] = false) : txs l = false := by
  rw [txs, List.all_eq_false]
  exact ⟨l[j], List.getElem_mem hj, by rw [ht]; simp⟩
end Go.Proofs.YtfifaaopdhcaaaaGreatDoor
