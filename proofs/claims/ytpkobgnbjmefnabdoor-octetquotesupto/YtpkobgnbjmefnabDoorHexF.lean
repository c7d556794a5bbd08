import Derived.Test.YtpkobgnbjmefnabDoorHexM
namespace Go.Proofs.YtpkobgnbjmefnabDoor
open Go.RowKit
set_option linter.unusedVariables false
set_option maxRecDepth 100000

set_option maxHeartbeats 400000 in
theorem digit_any (v : Nat) (w : World) (hv : v < 16) : Calls Tryd.prog 39 #[.int .u8 (v : Int)] w fun e w' => e = .returned (.int .u8 ((dig v : Nat) : Int)) ∧ w' = w := by
  by_cases h : v < 10
  · have hd : dig v = 48 + v := by unfold dig; rw [if_pos h]
    rw [hd]; clear hd
    go_enter Tryd.func39, Tryd.ntmps39
    go_wp2
    go_ret
    exact ⟨rfl, rfl⟩
  · have hd : dig v = 87 + v := by unfold dig; rw [if_neg h]
    rw [hd]; clear hd
    go_enter Tryd.func39, Tryd.ntmps39
    go_wp2
    go_ret
    exact ⟨by show Ending.returned (.int .u8 (97 + (v : Int) - 10)) = _; congr 2; omega, rfl⟩

def halfV (c : Nat) : Int := match hv c with | some x => (x : Int) | none => -1
set_option maxHeartbeats 400000 in
theorem half_any (c : Nat) (w : World) (hc : c < 256) : Calls Tryd.prog 37 #[.int .u8 (c : Int)] w fun e w' => e = .returned (.int .i64 (halfV c)) ∧ w' = w := by
  by_cases h : 48 ≤ c ∧ c ≤ 57
  · have hd : halfV c = (c : Int) - 48 := by
      unfold halfV hv; rw [if_pos h]; show ((c - 48 : Nat) : Int) = _; omega
    rw [hd]; clear hd
    obtain ⟨h1, h2⟩ := h
    go_enter Tryd.func37, Tryd.ntmps37
    go_wp2
    go_ret
    exact ⟨rfl, rfl⟩
  · by_cases h2 : 97 ≤ c ∧ c ≤ 102
    · have hd : halfV c = (c : Int) - 87 := by
        unfold halfV hv; rw [if_neg h, if_pos h2]; show ((c - 87 : Nat) : Int) = _; omega
      rw [hd]; clear hd
      obtain ⟨h1, h2⟩ := h2
      have t1 : decide ((c : Int) ≤ 57) = false := by simp; omega
      go_enter Tryd.func37, Tryd.ntmps37
      go_wp2
      go_ret
      exact ⟨by show Ending.returned (.int .i64 ((c : Int) - 97 + 10)) = _; congr 2; omega, rfl⟩
    · have hd : halfV c = -1 := by
        unfold halfV hv; rw [if_neg h, if_neg h2]
      rw [hd]; clear hd
      by_cases a1 : 48 ≤ c
      · by_cases a2 : 97 ≤ c
        · have t1 : decide ((c : Int) ≤ 57) = false := by simp; omega
          have t2 : decide ((c : Int) ≤ 102) = false := by simp; omega
          go_enter Tryd.func37, Tryd.ntmps37
          go_wp2
          go_ret
          exact ⟨rfl, rfl⟩
        · have t1 : decide ((c : Int) ≤ 57) = false := by simp; omega
          go_enter Tryd.func37, Tryd.ntmps37
          go_wp2
          go_ret
          exact ⟨rfl, rfl⟩
      · have t1 : decide (48 ≤ (c : Int)) = false := by simp; omega
        have t2 : decide (97 ≤ (c : Int)) = false := by simp; omega
        go_enter Tryd.func37, Tryd.ntmps37
        go_wp2
        go_ret
        exact ⟨rfl, rfl⟩

def isDec (c : Nat) : Bool := decide (48 ≤ c) && decide (c ≤ 57)
set_option maxHeartbeats 400000 in
theorem isDec_any (c : Nat) (w : World) (hc : c < 256) : Calls Tryd.prog 71 #[.int .u8 (c : Int)] w fun e w' => e = .returned (.bool (isDec c)) ∧ w' = w := by
  by_cases h1 : 48 ≤ c
  · by_cases h2 : c ≤ 57
    · have hd : isDec c = true := by simp [isDec, h1, h2]
      rw [hd]; clear hd
      go_enter Tryd.func71, Tryd.ntmps71
      go_wp2
      go_ret
      exact ⟨by congr 2; simp; omega, rfl⟩
    · have hd : isDec c = false := by simp [isDec, h2]
      rw [hd]; clear hd
      go_enter Tryd.func71, Tryd.ntmps71
      go_wp2
      go_ret
      exact ⟨by congr 2; simp; omega, rfl⟩
  · have hd : isDec c = false := by simp [isDec, h1]
    rw [hd]; clear hd
    have t1 : decide (48 ≤ (c : Int)) = false := by simp; omega
    go_enter Tryd.func71, Tryd.ntmps71
    go_wp2
    go_ret
    exact ⟨rfl, rfl⟩

set_option maxHeartbeats 400000 in
theorem hexValue_any (c : Nat) (w : World) (hc : c < 256) : Calls Tryd.prog 109 #[.int .u8 (c : Int)] w fun e w' => e = .returned (.tuple #[.int .u8 (((hv c).getD 0 : Nat) : Int), .bool (hv c).isSome]) ∧ w' = w := by
  have HD : Hid (Calls Tryd.prog 71 #[.int .u8 (c : Int)] w fun e w' => e = .returned (.bool (isDec c)) ∧ w' = w) := isDec_any c w hc
  by_cases h : 48 ≤ c ∧ c ≤ 57
  · have hd : hv c = some (c - 48) := by unfold hv; rw [if_pos h]
    have hi : isDec c = true := by simp [isDec, h.1, h.2]
    rw [hi] at HD
    rw [hd]; clear hd hi
    obtain ⟨h1, h2⟩ := h
    go_enter Tryd.func109, Tryd.ntmps109
    go_wp2_with fail
    refine HD.out.mono ?_
    rintro e w1 ⟨rfl, hw⟩
    rw [hw]; clear hw
    go_wp2
    go_ret2
    exact ⟨by simp; omega, rfl⟩
  · have hi : isDec c = false := by
      simp only [isDec, Bool.and_eq_false_iff, decide_eq_false_iff_not]; omega
    rw [hi] at HD
    clear hi
    by_cases h2 : 97 ≤ c ∧ c ≤ 102
    · have hd : hv c = some (c - 87) := by unfold hv; rw [if_neg h, if_pos h2]
      rw [hd]; clear hd
      obtain ⟨h1, h2⟩ := h2
      go_enter Tryd.func109, Tryd.ntmps109
      go_wp2_with fail
      refine HD.out.mono ?_
      rintro e w1 ⟨rfl, hw⟩
      rw [hw]; clear hw
      go_wp2
      go_ret2
      exact ⟨by simp; omega, rfl⟩
    · have hd : hv c = none := by unfold hv; rw [if_neg h, if_neg h2]
      rw [hd]; clear hd
      by_cases a2 : 97 ≤ c
      · have t2 : decide ((c : Int) ≤ 102) = false := by simp; omega
        go_enter Tryd.func109, Tryd.ntmps109
        go_wp2_with fail
        refine HD.out.mono ?_
        rintro e w1 ⟨rfl, hw⟩
        rw [hw]; clear hw
        go_wp2
        go_ret2
        exact ⟨rfl, rfl⟩
      · have t2 : decide (97 ≤ (c : Int)) = false := by simp; omega
        go_enter Tryd.func109, Tryd.ntmps109
        go_wp2_with fail
        refine HD.out.mono ?_
        rintro e w1 ⟨rfl, hw⟩
        rw [hw]; clear hw
        go_wp2
        go_ret2
        exact ⟨rfl, rfl⟩
end Go.Proofs.YtpkobgnbjmefnabDoor
