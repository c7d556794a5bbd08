import Derived.Test.YtpkobgnbjmefnabDoorBytes
import Derived.Lib.ItoaNum
import Derived.Lib.ParseIntB
namespace Go.Proofs.YtpkobgnbjmefnabDoor
open Go.RowKit Go.Lib
set_option linter.unusedVariables false

/-- a byte is a decimal digit -/
def isDg (c : UInt8) : Bool := decide (48 ≤ c.toNat) && decide (c.toNat ≤ 57)
/-- the form in which numbers are written -/
def formB (l : List UInt8) : Bool := !(l.isEmpty) && !(decide (l.head? = some 48) && decide (1 < l.length)) && l.all isDg
abbrev M64 : Nat := 18446744073709551615
/-- what a number's text comes to -/
def numV (l : List UInt8) : Nat × Nat := if formB l = true then (match parseUintM M64 0 l with | .ok u => (u, 0) | _ => (0, 12)) else (0, 14)

theorem parseM_append (M : Nat) : ∀ (l r : List UInt8) (a : Nat), parseUintM M a (l ++ r) = match parseUintM M a l with | .ok b => parseUintM M b r | e => e
  | [], r, a => rfl
  | c :: l, r, a => by
    simp only [List.cons_append, parseUintM]
    split
    · split
      · rfl
      · split
        · rfl
        · exact parseM_append M l r _
    · rfl
/-- one digit more -/
theorem parseM_one (a : Nat) (c : UInt8) (hc : isDg c = true) : parseUintM M64 a [c] = if M64 < a * 10 + (c.toNat - 48) then .range else .ok (a * 10 + (c.toNat - 48)) := by
  simp only [isDg, Bool.and_eq_true, decide_eq_true_eq] at hc
  simp only [parseUintM]
  rw [if_pos hc]
  by_cases h : 1844674407370955162 ≤ a
  · rw [if_pos h, if_pos (show M64 < a * 10 + (c.toNat - 48) by unfold M64; omega)]
  · rw [if_neg h]
theorem dg_of (d : Nat) (h : d < 10) : isDg (UInt8.ofNat (48 + d)) = true ∧ (UInt8.ofNat (48 + d)).toNat = 48 + d := by
  have e : (UInt8.ofNat (48 + d)).toNat = 48 + d := by rw [UInt8.toNat_ofNat']; omega
  exact ⟨by unfold isDg; rw [e]; simp; omega, e⟩
theorem dec_all (u : Nat) : (decDigits u).all isDg = true := by
  induction u using Nat.strongRecOn with
  | ind u ih =>
    rw [decDigits]
    split
    · rename_i h
      show (isDg _ && true) = true
      rw [(dg_of u h).1]; rfl
    · rename_i h
      rw [List.all_append, ih (u / 10) (by omega)]
      show (true && (isDg _ && true)) = true
      rw [(dg_of (u % 10) (by omega)).1]; rfl
theorem dec_ne (u : Nat) : decDigits u ≠ [] := fun h => by
  have := decDigits_length u
  rw [h] at this
  have := nDigits_pos u
  simp at *; omega
theorem head_app (l r : List UInt8) (h : l ≠ []) : (l ++ r).head? = l.head? := by
  cases l with
  | nil => exact absurd rfl h
  | cons _ _ => rfl
theorem snoc_cases (l : List UInt8) : l = [] ∨ ∃ l' c, l = l' ++ [c] := by
  induction l with
  | nil => exact .inl rfl
  | cons a l ih =>
    right
    rcases ih with rfl | ⟨l', c, rfl⟩
    · exact ⟨[], a, rfl⟩
    · exact ⟨a :: l', c, rfl⟩
theorem dec_head (u : Nat) (h : 1 ≤ u) : (decDigits u).head? ≠ some 48 := by
  induction u using Nat.strongRecOn with
  | ind u ih =>
    rw [decDigits]
    split
    · rename_i h'
      intro e
      simp only [List.head?_cons, Option.some.injEq] at e
      have := (dg_of u h').2
      rw [e] at this
      have : (48 : UInt8).toNat = 48 := rfl
      omega
    · rename_i h'
      rw [head_app _ _ (dec_ne _)]
      exact ih (u / 10) (by omega) (by omega)
theorem dec_form (u : Nat) : formB (decDigits u) = true := by
  unfold formB
  rw [dec_all u]
  have h1 : (decDigits u).isEmpty = false := by
    cases h : decDigits u with
    | nil => exact absurd h (dec_ne u)
    | cons _ _ => rfl
  rw [h1]
  by_cases h0 : u = 0
  · subst h0
    have : (decDigits 0).length = 1 := by rw [decDigits_length, nDigits_small (by decide)]
    simp [this]
  · have := dec_head u (by omega)
    simp [this]
theorem dec_parse (u : Nat) (h : u ≤ M64) : parseUintM M64 0 (decDigits u) = .ok u := by
  induction u using Nat.strongRecOn with
  | ind u ih =>
    rw [decDigits]
    split
    · rename_i h'
      rw [parseM_one 0 _ (dg_of u h').1, (dg_of u h').2]
      rw [if_neg (by omega)]
      congr 1; omega
    · rename_i h'
      rw [parseM_append, ih (u / 10) (by omega) (by omega)]
      show parseUintM M64 (u / 10) _ = _
      rw [parseM_one _ _ (dg_of (u % 10) (by omega)).1, (dg_of (u % 10) (by omega)).2]
      rw [if_neg (by omega)]
      congr 1; omega
theorem parse_dec_n (n : Nat) : ∀ (l : List UInt8), l.length = n → ∀ u, formB l = true → parseUintM M64 0 l = .ok u → decDigits u = l := by
  induction n with
  | zero =>
    intro l hl u h
    obtain rfl := List.eq_nil_of_length_eq_zero hl
    simp [formB] at h
  | succ n ih0 =>
    intro l hln
    rcases snoc_cases l with rfl | ⟨l, c, rfl⟩
    · simp at hln
    have ih := ih0 l (by simp at hln; omega)
    clear ih0 hln
    intro u hf hp
    have hf' := hf
    simp only [formB, Bool.and_eq_true, List.all_append, List.all_cons, List.all_nil, Bool.and_true] at hf'
    obtain ⟨⟨_, hz⟩, hal, hc⟩ := hf'
    have hcn : 48 ≤ c.toNat ∧ c.toNat ≤ 57 := by simpa [isDg] using hc
    rw [parseM_append] at hp
    by_cases hl : l = []
    · subst hl
      have hp' : parseUintM M64 0 [c] = .ok u := hp
      rw [parseM_one 0 c hc] at hp'
      split at hp'
      · cases hp'
      · cases hp'
        rw [decDigits, dif_pos (by omega)]
        show [UInt8.ofNat (48 + (0 * 10 + (c.toNat - 48)))] = [c]
        rw [show 48 + (0 * 10 + (c.toNat - 48)) = c.toNat by omega]
        simp
    · cases hpl : parseUintM M64 0 l with
      | range => rw [hpl] at hp; cases hp
      | ok a =>
        rw [hpl] at hp
        have hp' : parseUintM M64 a [c] = .ok u := hp
        rw [parseM_one a c hc] at hp'
        have hhd : l.head? ≠ some 48 := by
          intro e
          have h1 : (l ++ [c]).head? = some 48 := by rw [head_app _ _ hl]; exact e
          have h2 : 1 < (l ++ [c]).length := by
            have := List.length_pos_iff.2 hl
            simp; omega
          rw [decide_eq_true h1, decide_eq_true h2] at hz
          exact absurd hz (by decide)
        have hfl : formB l = true := by
          unfold formB
          rw [hal]
          have : l.isEmpty = false := by simpa using hl
          simp [this, hhd]
        have ha := ih a hfl hpl
        have ha0 : 1 ≤ a := by
          rcases Nat.eq_zero_or_pos a with h0 | h0
          · subst h0
            exfalso
            apply hhd
            rw [← ha, decDigits, dif_pos (by decide)]
            rfl
          · exact h0
        split at hp'
        · cases hp'
        · cases hp'
          rw [decDigits, dif_neg (by omega), show (a * 10 + (c.toNat - 48)) / 10 = a by omega, show (a * 10 + (c.toNat - 48)) % 10 = c.toNat - 48 by omega, ha, show 48 + (c.toNat - 48) = c.toNat by omega]
          simp
      | _ => rw [hpl] at hp; cases hp
theorem parse_dec (l : List UInt8) (u : Nat) (hf : formB l = true) (hp : parseUintM M64 0 l = .ok u) : decDigits u = l := parse_dec_n _ l rfl u hf hp
theorem parse_digits (l : List UInt8) (a : Nat) (h : l.all isDg = true) : (∃ u, parseUintM M64 a l = .ok u) ∨ parseUintM M64 a l = .range := by
  induction l generalizing a with
  | nil => exact Or.inl ⟨a, rfl⟩
  | cons c l ih =>
    simp only [List.all_cons, Bool.and_eq_true] at h
    have hc := h.1
    simp only [isDg, Bool.and_eq_true, decide_eq_true_eq] at hc
    simp only [parseUintM]
    rw [if_pos hc]
    split
    · exact Or.inr rfl
    · split
      · exact Or.inr rfl
      · exact ih _ h.2
theorem numV_le (l : List UInt8) : (numV l).2 ≤ 15 := by
  unfold numV
  split
  · split <;> simp
  · simp
end Go.Proofs.YtpkobgnbjmefnabDoor
