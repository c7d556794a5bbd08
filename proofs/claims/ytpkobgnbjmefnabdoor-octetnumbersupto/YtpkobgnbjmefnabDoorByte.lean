import Derived.Test.YtpkobgnbjmefnabDoorRows
import Derived.Test.YtpkobgnbjmefnabDoorMath
import Derived.WalkKit
import Derived.WalkSpells
import Derived.WalkLawsBesides
namespace Go.Proofs.YtpkobgnbjmefnabDoor
open Go.RowKit

theorem Crc.stepN_succ (k c : Nat) : Crc.stepN (k + 1) c = Crc.step (Crc.stepN k c) := by
  rw [Crc.stepN_add k 1]; rfl
theorem Crc.step_odd (x : Nat) (h : x % 2 = 1) : Crc.step x = x / 2 ^^^ 2197175160 := by unfold Crc.step Crc.poly; rw [h, Nat.one_mul]
theorem Crc.step_even (x : Nat) (h : x % 2 = 0) : Crc.step x = x / 2 := by unfold Crc.step; rw [h]; simp
theorem and_one_nat (x : Nat) (hx : x < 4294967296) : bits .and .u32 (x : Int) 1 = ((x % 2 : Nat) : Int) := by
  have := u32_and_nat x 1 hx (by decide); rw [nat_mask1] at this; exact this
theorem xor_poly (x : Nat) (hx : x < 4294967296) : bits .xor .u32 ((x : Int) / 2) 2197175160 = ((x / 2 ^^^ 2197175160 : Nat) : Int) := u32_xor_nat (x / 2) 2197175160 (by omega) (by decide)
theorem val_u32 {a b : Int} (h : a = b) : Value.int .u32 a = .int .u32 b := by rw [h]
theorem ret_u32 {a b : Int} (h : a = b) : Ending.returned (.int .u32 a) = .returned (.int .u32 b) := by rw [h]

set_option maxHeartbeats 400000 in
theorem crcByte_any (c : Nat) (w : World) (hc : c < 4294967296) :
    Calls Tryd.prog 84 #[.int .u32 (c : Int)] w fun e w' => e = .returned (.int .u32 (Crc.stepN 8 c : Nat)) ∧ w' = w := by
  go_enter Tryd.func84, Tryd.ntmps84
  go_wp2
  go_loop [0, 4] (fun r i => ∃ k : Nat, k ≤ 8 ∧ i = .int .i64 k ∧ r = .int .u32 (Crc.stepN k c : Nat)) (fun _ i => 8 - (intOf i).toNat)
  case atStart => exact ⟨0, Nat.zero_le _, rfl, rfl⟩
  case round =>
    obtain ⟨k, hk, rfl, rfl⟩ := hrel
    by_cases hlt : k < 8
    · have hx := Crc.stepN_lt k c hc
      have HS : Hid (Crc.stepN (k + 1) c = Crc.step (Crc.stepN k c)) := Crc.stepN_succ k c
      generalize Crc.stepN k c = x at *
      have hand := and_one_nat x hx
      have HX : Hid (bits .xor .u32 ((x : Int) / 2) 2197175160 = ((x / 2 ^^^ 2197175160 : Nat) : Int)) := xor_poly x hx
      rcases Nat.mod_two_eq_zero_or_one x with ho | ho
      · rw [ho] at hand
        go_wp2
        go_round
        case rel => exact ⟨k + 1, by omega, by go_num, val_u32 (by rw [HS.out, Crc.step_even x ho]; omega)⟩
        case measure => simp [intOf]; omega
      · rw [ho] at hand
        go_wp2
        go_round
        case rel => exact ⟨k + 1, by omega, by go_num, val_u32 (by rw [HS.out, Crc.step_odd x ho]; exact HX.out)⟩
        case measure => simp [intOf]; omega
    · have e8 : k = 8 := by omega
      subst e8
      go_wp2
      go_ret
      exact ⟨rfl, rfl⟩
end Go.Proofs.YtpkobgnbjmefnabDoor
