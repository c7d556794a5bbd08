import Derived.Test.YtjikibhhhchgeaaDoorRuneW
import Derived.Lib.DecodeNEq
import Derived.Lib.ValidLaws
import Derived.Lib.TrimUEq
import Derived.Lib.Bytealg
namespace Go.Proofs.YtjikibhhhchgeaaDoor
open Go.RowKit
set_option linter.unusedVariables false

theorem contOk_two (lo hi : Nat) (B : Nat → Nat) : contOk lo hi B 2 = true ↔ (lo ≤ B 1 ∧ B 1 ≤ hi) ∧ 128 ≤ B 2 ∧ B 2 ≤ 191 := by
  rw [cont_more lo hi 0 B, cont_one]; simp
theorem contOk_three (lo hi : Nat) (B : Nat → Nat) : contOk lo hi B 3 = true ↔ ((lo ≤ B 1 ∧ B 1 ≤ hi) ∧ 128 ≤ B 2 ∧ B 2 ≤ 191) ∧ 128 ≤ B 3 ∧ B 3 ≤ 191 := by
  rw [cont_more lo hi 1 B, Bool.and_eq_true, contOk_two]; simp
theorem contOk_one (lo hi : Nat) (B : Nat → Nat) : contOk lo hi B 1 = true ↔ lo ≤ B 1 ∧ B 1 ≤ hi := by
  rw [cont_one]; simp
/-- the decoder's step, by the class of the lead byte -/
theorem slow_class (n sz lo hi : Nat) (B : Nat → Nat) (hsz : sz = 2 ∨ sz = 3 ∨ sz = 4) :
    ((Lib.slowN n (B 0) (B 1) (B 2) (B 3) sz lo hi).1 = 65533 ∧ (Lib.slowN n (B 0) (B 1) (B 2) (B 3) sz lo hi).2 = 1 ↔ (n < sz ∨ contOk lo hi B (sz - 1) ≠ true)) ∧
    (¬ (n < sz ∨ contOk lo hi B (sz - 1) ≠ true) → (Lib.slowN n (B 0) (B 1) (B 2) (B 3) sz lo hi).2 = sz) := by
  unfold Lib.slowN
  rcases hsz with rfl | rfl | rfl
  · rw [show 2 - 1 = 1 from rfl, ne_eq, contOk_one]
    repeat' split
    all_goals simp
    all_goals omega
  · rw [show 3 - 1 = 2 from rfl, ne_eq, contOk_two]
    repeat' split
    all_goals simp
    all_goals omega
  · rw [show 4 - 1 = 3 from rfl, ne_eq, contOk_three]
    repeat' split
    all_goals simp
    all_goals omega
/-- the document's rune and the decoder's step -/
theorem rune_decode (n : Nat) (B : Nat → Nat) (hn : 1 ≤ n) (h0 : B 0 < 256) (h1 : B 1 < 256) (h2 : B 2 < 256) (h3 : B 3 < 256) :
    ((Lib.decodeN n (B 0) (B 1) (B 2) (B 3)).1 = 65533 ∧ (Lib.decodeN n (B 0) (B 1) (B 2) (B 3)).2 = 1 ↔ runeF n B = 0) ∧
    (runeF n B ≠ 0 → (Lib.decodeN n (B 0) (B 1) (B 2) (B 3)).2 = runeF n B) := by
  have key : ∀ sz lo hi, (sz = 2 ∨ sz = 3 ∨ sz = 4) → 128 ≤ B 0 → cls (B 0) = (sz, lo, hi) → Lib.slowN n (B 0) (B 1) (B 2) (B 3) sz lo hi = Lib.decodeN n (B 0) (B 1) (B 2) (B 3) →
      ((Lib.decodeN n (B 0) (B 1) (B 2) (B 3)).1 = 65533 ∧ (Lib.decodeN n (B 0) (B 1) (B 2) (B 3)).2 = 1 ↔ runeF n B = 0) ∧
      (runeF n B ≠ 0 → (Lib.decodeN n (B 0) (B 1) (B 2) (B 3)).2 = runeF n B) := by
    intro sz lo hi hsz h128 hc he
    obtain ⟨k1, k2⟩ := slow_class n sz lo hi B hsz
    rw [he] at k1 k2
    have hr : runeF n B = if n < sz ∨ contOk lo hi B (sz - 1) ≠ true then 0 else sz := by
      unfold runeF
      rw [if_neg (by omega), hc]
      simp only
      by_cases ha : n < sz
      · rw [if_pos (.inr ha), if_pos (.inl ha)]
      · rw [if_neg (by omega)]
        by_cases hb : contOk lo hi B (sz - 1) = true
        · rw [if_pos hb, if_neg (by simp [ha, hb])]
        · rw [if_neg hb, if_pos (.inr hb)]
    rw [hr]
    by_cases hbad : n < sz ∨ contOk lo hi B (sz - 1) ≠ true
    · rw [if_pos hbad]; exact ⟨⟨fun _ => rfl, fun _ => k1.2 hbad⟩, fun h => absurd rfl h⟩
    · rw [if_neg hbad]
      exact ⟨⟨fun h => absurd (k1.1 h) hbad, fun h => by omega⟩, fun _ => k2 hbad⟩
  rcases (show B 0 < 128 ∨ (128 ≤ B 0 ∧ B 0 < 194) ∨ (245 ≤ B 0 ∧ B 0 < 256) ∨ (194 ≤ B 0 ∧ B 0 < 224) ∨ B 0 = 224 ∨
      ((225 ≤ B 0 ∧ B 0 < 237) ∨ (238 ≤ B 0 ∧ B 0 < 240)) ∨ B 0 = 237 ∨ B 0 = 240 ∨ (241 ≤ B 0 ∧ B 0 < 244) ∨ B 0 = 244 by omega) with h | h | h | h | h | h | h | h | h | h
  · rw [runeF_one n B h]; unfold Lib.decodeN; rw [if_pos h]; exact ⟨⟨fun hh => by simp only at hh; omega, fun hh => by omega⟩, fun _ => rfl⟩
  · rw [runeF_none n B h.1 (by unfold cls; rw [if_pos h.2])]
    refine ⟨⟨fun _ => rfl, fun _ => ?_⟩, fun hh => absurd rfl hh⟩
    unfold Lib.decodeN
    repeat' split
    all_goals first | exact ⟨rfl, rfl⟩ | (exfalso; omega)
  · rw [runeF_none n B (by omega) (by unfold cls; repeat (first | rw [if_pos (by omega)] | rw [if_neg (by omega)]))]
    refine ⟨⟨fun _ => rfl, fun _ => ?_⟩, fun hh => absurd rfl hh⟩
    unfold Lib.decodeN
    repeat' split
    all_goals first | exact ⟨rfl, rfl⟩ | (exfalso; omega)
  · exact key 2 128 191 (by omega) (by omega) (by unfold cls; repeat (first | rw [if_pos (by omega)] | rw [if_neg (by omega)])) (Lib.slow_C2 _ _ _ _ _ hn h1 h2 h3 h)
  · exact key 3 160 191 (by omega) (by omega) (by unfold cls; repeat (first | rw [if_pos (by omega)] | rw [if_neg (by omega)])) (Lib.slow_E0 _ _ _ _ _ hn h1 h2 h3 h)
  · exact key 3 128 191 (by omega) (by omega) (by unfold cls; repeat (first | rw [if_pos (by omega)] | rw [if_neg (by omega)])) (Lib.slow_E1 _ _ _ _ _ hn h1 h2 h3 h)
  · exact key 3 128 159 (by omega) (by omega) (by unfold cls; repeat (first | rw [if_pos (by omega)] | rw [if_neg (by omega)])) (Lib.slow_ED _ _ _ _ _ hn h1 h2 h3 h)
  · exact key 4 144 191 (by omega) (by omega) (by unfold cls; repeat (first | rw [if_pos (by omega)] | rw [if_neg (by omega)])) (Lib.slow_F0 _ _ _ _ _ hn h1 h2 h3 h)
  · exact key 4 128 191 (by omega) (by omega) (by unfold cls; repeat (first | rw [if_pos (by omega)] | rw [if_neg (by omega)])) (Lib.slow_F1 _ _ _ _ _ hn h1 h2 h3 h)
  · exact key 4 128 143 (by omega) (by omega) (by unfold cls; repeat (first | rw [if_pos (by omega)] | rw [if_neg (by omega)])) (Lib.slow_F4 _ _ _ _ _ hn h1 h2 h3 h)

/-- a text: valid, and no byte 0 -/
def plainB (l : List UInt8) : Bool := Lib.validD l && decide (Lib.indexByte l 0 < 0)

theorem byt_lt (s : ByteArray) (i k : Nat) : byt s i k < 256 := UInt8.toNat_lt _
theorem step_at (s : ByteArray) (i : Nat) (hi : i < s.size) :
    ((Lib.decodeL (s.data.toList.drop i)).1 = 65533 ∧ (Lib.decodeL (s.data.toList.drop i)).2 = 1 ↔ runeF (s.size - i) (byt s i) = 0) ∧
    (runeF (s.size - i) (byt s i) ≠ 0 → (Lib.decodeL (s.data.toList.drop i)).2 = runeF (s.size - i) (byt s i)) := by
  rw [Lib.decodeL_drop, Lib.decode_at]
  exact rune_decode (s.size - i) (byt s i) (by omega) (byt_lt s i 0) (byt_lt s i 1) (byt_lt s i 2) (byt_lt s i 3)
end Go.Proofs.YtjikibhhhchgeaaDoor
