import Derived.Test.YtpkobgnbjmefnabDoorQuoteW
import Derived.Test.YtpkobgnbjmefnabDoorUnqE
namespace Go.Proofs.YtpkobgnbjmefnabDoor
open Go.RowKit
set_option linter.unusedVariables false

def qn (s : ByteArray) (i : Nat) : List Nat := (qbody (s.data.toList.drop i)).map UInt8.toNat
theorem byt0 (s : ByteArray) (i : Nat) : byt s i 0 = (s.get! i).toNat := rfl
theorem asc_at (s : ByteArray) (i : Nat) (hi : i < s.size) (h : byt s i 0 < 128) : Lib.decodeL (s.data.toList.drop i) = (byt s i 0, 1) := by
  rw [Lib.decodeL_drop, Lib.decode_at]
  unfold Lib.decodeN
  rw [if_pos (show (s.get! i).toNat < 128 from h)]
  rfl
theorem high_at (s : ByteArray) (i : Nat) (hi : i < s.size) (h : 128 ≤ byt s i 0) : 128 ≤ (Lib.decodeL (s.data.toList.drop i)).1 := by
  by_cases hl : (Lib.decodeL (s.data.toList.drop i)).1 < 128
  · have := (low_rune _ (drop_ne s i hi) hl).1
    rw [getD_drop s i hi, ← byt0] at this
    omega
  · omega
theorem qn_step (s : ByteArray) (i : Nat) (hi : i < s.size) : qn s i = (piece (s.data.toList.drop i)).map UInt8.toNat ++ qn s (i + (Lib.decodeL (s.data.toList.drop i)).2) := by
  unfold qn
  have := qbody_step _ (drop_ne s i hi)
  rw [List.drop_drop] at this
  rw [this, List.map_append]
theorem qn_end (s : ByteArray) : qn s s.size = [] := by unfold qn; rw [List.drop_of_length_le (by simp), qbody_nil]; rfl
theorem hx2_nat (c : UInt8) : (hx2 c).map UInt8.toNat = [dig (c.toNat / 16), dig (c.toNat % 16)] := by
  have hc := UInt8.toNat_lt c
  have l1 := dig_lt (c.toNat / 16) (by omega)
  have l2 := dig_lt (c.toNat % 16) (by omega)
  unfold hx2
  rw [List.map_cons, List.map_cons, List.map_nil, map_toNat_ofNat _ (by omega), map_toNat_ofNat _ (by omega)]
theorem rq_esc (s : ByteArray) (i : Nat) (hi : i < s.size) (h : byt s i 0 = 34 ∨ byt s i 0 = 92) : qn s i = [92, byt s i 0] ++ qn s (i + 1) := by
  have ha := asc_at s i hi (by omega)
  rw [qn_step s i hi]
  unfold piece
  rw [ha]
  dsimp only
  rw [if_pos h, List.map_cons, List.map_cons, List.map_nil, map_toNat_ofNat _ (by omega)]
  rfl
theorem rq_nl (s : ByteArray) (i : Nat) (hi : i < s.size) (h : byt s i 0 = 10) : qn s i = [92, 110] ++ qn s (i + 1) := by
  have ha := asc_at s i hi (by omega)
  rw [qn_step s i hi]
  unfold piece
  rw [ha]
  dsimp only
  rw [if_neg (by omega), if_pos h]
  rfl
theorem rq_hex (s : ByteArray) (i : Nat) (hi : i < s.size) (h : (byt s i 0 < 32 ∧ byt s i 0 ≠ 10) ∨ byt s i 0 = 127 ∨ runeF (s.size - i) (byt s i) = 0) : qn s i = [92, 120, dig (byt s i 0 / 16), dig (byt s i 0 % 16)] ++ qn s (i + 1) := by
  have hw : (Lib.decodeL (s.data.toList.drop i)).2 = 1 ∧ bad (s.data.toList.drop i) ∧ ¬ ((Lib.decodeL (s.data.toList.drop i)).1 = 34 ∨ (Lib.decodeL (s.data.toList.drop i)).1 = 92) ∧ (Lib.decodeL (s.data.toList.drop i)).1 ≠ 10 := by
    by_cases hc : byt s i 0 < 128
    · have ha := asc_at s i hi hc
      have hr := runeF_one (s.size - i) (byt s i) hc
      rw [bad_iff]
      rw [ha]
      dsimp only
      refine ⟨rfl, ?_, ?_, ?_⟩ <;> omega
    · have hh := high_at s i hi (by omega)
      have h0 := (step_at s i hi).1.2 (by omega)
      exact ⟨h0.2, (bad_iff _).2 (.inr (.inr h0)), by omega, by omega⟩
  rw [qn_step s i hi, hw.1]
  unfold piece
  rw [if_neg hw.2.2.1, if_neg hw.2.2.2, if_pos hw.2.1, List.map_cons, List.map_cons, hx2_nat, getD_drop s i hi]
  rfl
theorem rq_plain (s : ByteArray) (i : Nat) (hi : i < s.size) (h34 : byt s i 0 ≠ 34) (h92 : byt s i 0 ≠ 92) (h32 : 32 ≤ byt s i 0) (h127 : byt s i 0 ≠ 127) (hr : runeF (s.size - i) (byt s i) ≠ 0) :
    qn s i = sbytes (s.extract i (i + runeF (s.size - i) (byt s i))) ++ qn s (i + runeF (s.size - i) (byt s i)) ∧ i + runeF (s.size - i) (byt s i) ≤ s.size := by
  have hst := (step_at s i hi).2 hr
  have hnb := fun h => hr ((step_at s i hi).1.1 h)
  have hle := (runeF_spec _ _ (by omega) hr).1
  have hp : piece (s.data.toList.drop i) = (s.data.toList.drop i).take (Lib.decodeL (s.data.toList.drop i)).2 := by
    have hx : 32 ≤ (Lib.decodeL (s.data.toList.drop i)).1 ∧ (Lib.decodeL (s.data.toList.drop i)).1 ≠ 34 ∧ (Lib.decodeL (s.data.toList.drop i)).1 ≠ 92 ∧ (Lib.decodeL (s.data.toList.drop i)).1 ≠ 127 := by
      by_cases hc : byt s i 0 < 128
      · have ha := asc_at s i hi hc
        rw [ha]
        dsimp only
        omega
      · have hh := high_at s i hi (by omega)
        omega
    have hb : ¬ bad (s.data.toList.drop i) := by
      rw [bad_iff]
      intro hb
      rcases hb with hb | hb | hb
      · omega
      · omega
      · exact hnb hb
    unfold piece
    rw [if_neg (by omega), if_neg (by omega), if_neg hb]
  refine ⟨?_, by omega⟩
  rw [qn_step s i hi, hp, hst]
  congr 1
  unfold sbytes
  congr 1
  rw [ByteArray.data_extract]
  simp
end Go.Proofs.YtpkobgnbjmefnabDoor
