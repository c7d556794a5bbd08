import Derived.Test.YtpkobgnbjmefnabDoorNumM
import Derived.Test.YtpkobgnbjmefnabDoorSame
import Derived.Test.YtpkobgnbjmefnabDoorOwn
import Derived.Test.YtpkobgnbjmefnabDoorReaderT
namespace Go.Proofs.YtpkobgnbjmefnabDoor
open Go.RowKit
set_option linter.unusedVariables false
set_option maxRecDepth 100000

def decN (u : Nat) : List Nat := (Lib.decDigits u).map UInt8.toNat
theorem decN_small {u : Nat} (h : u < 10) : decN u = [48 + u] := by
  unfold decN
  rw [Lib.decDigits, dif_pos h]
  show [(UInt8.ofNat (48 + u)).toNat] = _
  rw [(dg_of u h).2]
theorem decN_big {u : Nat} (h : ¬ u < 10) : decN u = decN (u / 10) ++ [48 + u % 10] := by
  unfold decN
  conv => lhs; rw [Lib.decDigits, dif_neg h]
  rw [List.map_append]
  show _ ++ [(UInt8.ofNat (48 + u % 10)).toNat] = _
  rw [(dg_of (u % 10) (by omega)).2]
theorem decN_lt (u : Nat) : ∀ x ∈ decN u, x < 256 := fun x hx => by
  obtain ⟨c, _, rfl⟩ := List.mem_map.1 hx
  exact UInt8.toNat_lt _
theorem decN_len (u : Nat) (h : u < 18446744073709551616) : (decN u).length ≤ 20 := by
  unfold decN
  rw [List.length_map, Lib.decDigits_length]
  rcases Nat.eq_zero_or_pos u with rfl | h1
  · rw [Lib.nDigits_small (by decide)]; decide
  · have := Lib.numDigits_eq u h1 h
    split at this <;> omega
/-- while a list is turned round -/
def turned (D : List Nat) (i : Nat) : List Nat := (List.range D.length).map fun j => if j < i ∨ D.length - i ≤ j then D[D.length - 1 - j]?.getD 0 else D[j]?.getD 0
theorem turned_len (D : List Nat) (i : Nat) : (turned D i).length = D.length := by simp [turned]
theorem turned_zero (D : List Nat) : turned D 0 = D := by
  apply List.ext_getElem?
  intro j
  unfold turned
  by_cases hj : j < D.length
  · simp [hj, show ¬ D.length ≤ j by omega]
  · simp [hj]
theorem turned_end (D : List Nat) (i : Nat) (h : D.length ≤ 2 * i + 1) : turned D i = D.reverse := by
  apply List.ext_getElem?
  intro j
  unfold turned
  by_cases hj : j < D.length
  · have hr : D.reverse[j]? = D[D.length - 1 - j]? := by rw [List.getElem?_reverse hj]
    rw [hr]
    simp only [List.getElem?_map, List.getElem?_range hj, Option.map_some]
    by_cases hc : j < i ∨ D.length - i ≤ j
    · rw [if_pos hc, List.getElem?_eq_getElem (by omega)]; simp
    · rw [if_neg hc, show D.length - 1 - j = j by omega, List.getElem?_eq_getElem hj]; simp
  · simp [hj]
theorem turned_step (D : List Nat) (i : Nat) (h : 2 * i + 1 < D.length) : ((turned D i).set i (D[D.length - 1 - i]?.getD 0)).set (D.length - 1 - i) (D[i]?.getD 0) = turned D (i + 1) := by
  apply List.ext_getElem?
  intro j
  by_cases hj : j < D.length
  · rw [List.getElem?_set, List.getElem?_set]
    simp only [turned, List.length_set, List.length_map, List.length_range, List.getElem?_map, List.getElem?_range hj, Option.map_some]
    by_cases h1 : D.length - 1 - i = j
    · subst h1
      rw [if_pos rfl, if_pos hj, if_pos (show D.length - 1 - i < i + 1 ∨ D.length - (i + 1) ≤ D.length - 1 - i by omega), show D.length - 1 - (D.length - 1 - i) = i by omega]
    · rw [if_neg h1]
      by_cases h2 : i = j
      · subst h2
        rw [if_pos rfl, if_pos hj, if_pos (show i < i + 1 ∨ _ by omega)]
      · rw [if_neg h2]
        by_cases hc : j < i ∨ D.length - i ≤ j
        · rw [if_pos hc, if_pos (show j < i + 1 ∨ D.length - (i + 1) ≤ j by omega)]
        · rw [if_neg hc, if_neg (show ¬ (j < i + 1 ∨ D.length - (i + 1) ≤ j) by omega)]
  · rw [List.getElem?_eq_none (by simp [turned_len]; omega), List.getElem?_eq_none (by rw [turned_len]; omega)]
end Go.Proofs.YtpkobgnbjmefnabDoor
