import Derived.Test.YtpkobgnbjmefnabDoorHexM
import Derived.Lib.MapLaws
import Derived.Lib.TrimUEq
import Derived.Lib.TrimAscii
import Derived.Lib.TrimU
namespace Go.Proofs.YtpkobgnbjmefnabDoor
open Go.RowKit
set_option linter.unusedVariables false

/-- two digits of a byte -/
def hx2 (c : UInt8) : List UInt8 := [UInt8.ofNat (dig (c.toNat / 16)), UInt8.ofNat (dig (c.toNat % 16))]
/-- a byte is written by its digits -/
def badB (l : List UInt8) : Bool := decide ((Lib.decodeL l).1 < 32 ∨ (Lib.decodeL l).1 = 127 ∨ ((Lib.decodeL l).1 = 65533 ∧ (Lib.decodeL l).2 = 1))
abbrev bad (l : List UInt8) : Prop := badB l = true
theorem bad_iff (l : List UInt8) : bad l ↔ ((Lib.decodeL l).1 < 32 ∨ (Lib.decodeL l).1 = 127 ∨ ((Lib.decodeL l).1 = 65533 ∧ (Lib.decodeL l).2 = 1)) := by unfold bad badB; exact decide_eq_true_iff
/-- what is written for the first rune -/
def piece (l : List UInt8) : List UInt8 :=
  if (Lib.decodeL l).1 = 34 ∨ (Lib.decodeL l).1 = 92 then [92, UInt8.ofNat (Lib.decodeL l).1]
  else if (Lib.decodeL l).1 = 10 then [92, 110]
  else if bad l then 92 :: 120 :: hx2 (l.getD 0 0)
  else l.take (Lib.decodeL l).2
def qb : Nat → List UInt8 → List UInt8
  | 0, _ => []
  | n + 1, l => if l = [] then [] else piece l ++ qb n (l.drop (Lib.decodeL l).2)
def qbody (l : List UInt8) : List UInt8 := qb l.length l
def quoteL (l : List UInt8) : List UInt8 := 34 :: (qbody l ++ [34])
theorem qb_more (n : Nat) : ∀ (l : List UInt8), l.length ≤ n → qb n l = qb l.length l := by
  induction n using Nat.strongRecOn with
  | ind n ih =>
    intro l hl
    cases l with
    | nil => cases n <;> simp [qb]
    | cons c t =>
      cases n with
      | zero => simp at hl
      | succ m =>
        have hw := Lib.decodeL_width (c :: t)
        have hd : ((c :: t).drop (Lib.decodeL (c :: t)).2).length ≤ t.length := by
          rw [List.length_drop]; simp only [List.length_cons]; omega
        show qb (m + 1) (c :: t) = qb (t.length + 1) (c :: t)
        simp only [qb]
        rw [if_neg (by simp), if_neg (by simp)]
        congr 1
        have e1 := ih m (by omega) _ (Nat.le_trans hd (by simpa using hl))
        by_cases ht : t.length = m
        · rw [ht]
        · have e2 := ih t.length (by simp at hl; omega) _ hd
          rw [e1, e2]
theorem qbody_nil : qbody [] = [] := rfl
theorem qbody_step (l : List UInt8) (h : l ≠ []) : qbody l = piece l ++ qbody (l.drop (Lib.decodeL l).2) := by
  cases l with
  | nil => exact absurd rfl h
  | cons c t =>
    have hw := Lib.decodeL_width (c :: t)
    show qb (t.length + 1) (c :: t) = _
    simp only [qb]
    rw [if_neg (by simp), qb_more t.length _ (by rw [List.length_drop]; simp only [List.length_cons]; omega)]
    rfl
theorem head_get (l : List UInt8) (h : l ≠ []) : l = l.getD 0 0 :: l.tail := by
  cases l with
  | nil => exact absurd rfl h
  | cons c t => rfl
/-- a rune below 128 is the first byte, alone -/
theorem low_rune (l : List UInt8) (h : l ≠ []) (hr : (Lib.decodeL l).1 < 128) : (l.getD 0 0).toNat = (Lib.decodeL l).1 ∧ (Lib.decodeL l).2 = 1 := by
  by_cases ha : (l.getD 0 0).toNat < 128
  · have := Lib.decodeL_ascii (l.getD 0 0) l.tail ha
    rw [← head_get l h] at this
    rw [this]; exact ⟨rfl, rfl⟩
  · exfalso
    have h2 := decode_high ⟨l.toArray⟩ 0 (by show 0 < l.toArray.size; simp; exact List.length_pos_iff.2 h) (by
      have : (⟨l.toArray⟩ : ByteArray)[0]'(by show 0 < l.toArray.size; simp; exact List.length_pos_iff.2 h) = l.getD 0 0 := by
        rw [show ((⟨l.toArray⟩ : ByteArray)[0]'(by show 0 < l.toArray.size; simp; exact List.length_pos_iff.2 h)) = l.toArray[0]'(by simp; exact List.length_pos_iff.2 h) from rfl]
        cases l with
        | nil => exact absurd rfl h
        | cons c t => simp
      rw [this]; omega)
    have : (Lib.decodeL l).1 = (Utf8.decode ⟨l.toArray⟩ 0).1 := rfl
    omega
theorem enc_high (r : Int) (h : 128 ≤ r) : ∀ x ∈ Lib.encodeRuneZ r, 128 ≤ x := by
  intro x hx
  by_cases h2 : r ≤ 2047
  · rw [Lib.encodeRuneZ_two h h2] at hx
    simp at hx; omega
  by_cases h3 : (2048 ≤ r ∧ r < 55296) ∨ (57343 < r ∧ r ≤ 65535)
  · rw [Lib.encodeRuneZ_three h3] at hx
    simp at hx; omega
  by_cases h4 : 65536 ≤ r ∧ r ≤ 1114111
  · rw [Lib.encodeRuneZ_four h4.1 h4.2] at hx
    simp at hx; omega
  · rw [Lib.encodeRuneZ_bad (by omega)] at hx
    simp at hx; omega
/-- what is written as it is has no backslash -/
theorem plain_piece (l : List UInt8) (h : l ≠ []) (h1 : (Lib.decodeL l).1 ≠ 92) (hb : ¬ bad l) : ∀ c ∈ l.take (Lib.decodeL l).2, c ≠ 92 := by
  intro c hc e
  by_cases hr : (Lib.decodeL l).1 < 128
  · obtain ⟨e1, e2⟩ := low_rune l h hr
    rw [e2] at hc
    rw [head_get l h, List.take_succ_cons, List.take_zero, List.mem_singleton] at hc
    rw [← hc, e] at e1
    have : (92 : UInt8).toNat = 92 := rfl
    omega
  · have hv : ¬ ((Lib.decodeL l).1 = 65533 ∧ (Lib.decodeL l).2 = 1) := fun hh => hb ((bad_iff l).2 (.inr (.inr hh)))
    rw [← Lib.encode_decode l h hv] at hc
    unfold Lib.encodeRune at hc
    obtain ⟨x, hx, rfl⟩ := List.mem_map.1 hc
    have h1 := enc_high _ (by omega) x hx
    have h2 := Lib.encodeRuneZ_byte _ x hx
    have : (x.toNat.toUInt8).toNat = x.toNat := by
      show (UInt8.ofNat x.toNat).toNat = _
      rw [UInt8.toNat_ofNat']; omega
    rw [e] at this
    have : (92 : UInt8).toNat = 92 := rfl
    omega
theorem piece_len (l : List UInt8) (h : l ≠ []) : (Lib.decodeL l).2 ≤ (piece l).length := by
  have hle := Lib.decodeL_le l h
  unfold piece
  split
  · rename_i h1
    have := low_rune l h (by omega)
    simp; omega
  split
  · have := low_rune l h (by omega)
    simp; omega
  split
  · rename_i hb
    have : (Lib.decodeL l).2 = 1 := by
      rcases (bad_iff l).1 hb with hb | hb | hb
      · exact (low_rune l h (by omega)).2
      · exact (low_rune l h (by omega)).2
      · exact hb.2
    simp; omega
  · rw [List.length_take]; omega
theorem qbody_len_n (n : Nat) : ∀ l : List UInt8, l.length ≤ n → l.length ≤ (qbody l).length := by
  induction n with
  | zero => intro l hl; omega
  | succ n ih =>
    intro l hl
    by_cases h : l = []
    · subst h; simp
    · have hw := Lib.decodeL_width l
      have hle := Lib.decodeL_le l h
      have := ih (l.drop (Lib.decodeL l).2) (by rw [List.length_drop]; omega)
      have hp := piece_len l h
      rw [qbody_step l h, List.length_append]
      rw [List.length_drop] at this
      omega
theorem qbody_len (l : List UInt8) : l.length ≤ (qbody l).length := qbody_len_n _ l (Nat.le_refl _)
end Go.Proofs.YtpkobgnbjmefnabDoor
