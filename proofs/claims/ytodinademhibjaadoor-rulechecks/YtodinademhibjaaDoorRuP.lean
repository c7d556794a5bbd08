import Derived.Test.YtodinademhibjaaDoorRuO
namespace Go.Proofs.YtodinademhibjaaDoor
open Go.RowKit
set_option linter.unusedVariables false
set_option linter.unusedSimpArgs false
set_option maxRecDepth 100000

set_option maxHeartbeats 2000000 in
theorem ruleCommands_any (c : Nat) (hc : c < 65536) (w : World) (hT : Tb w) : Calls Tryd.prog 3 #[.int .u16 (c : Int)] w fun e w' => e = .returned (.bool true) ∧ Below w.heap.size w w' := by
  have H1 : Hid (∀ w, Calls Tryd.prog 8 #[.int .u16 (c : Int)] w fun e w' => e = .returned (.bool (decide (c < 8))) ∧ w' = w) := known_any c hc
  have H2 : Hid (∀ w, Calls Tryd.prog 9 #[.int .u16 (c : Int)] w fun e w' => e = .returned (.bool (decide (c < 8))) ∧ w' = w) := rknown_any c hc
  have H3 : Hid (Calls Tryd.prog 10 #[.int .u16 (c : Int)] w fun e w' => e = .returned (.int .u16 (flOf c : Int)) ∧ w' = w) := allowed_any c hc w hT
  have H4 : Hid (∀ w, Calls Tryd.prog 11 #[.int .u16 (c : Int)] w fun e w' => e = .returned (.int .u16 (flOf c : Int)) ∧ w' = w) := rallowed_any c hc
  have H5 : Hid (Calls Tryd.prog 12 #[.int .u16 (c : Int)] w fun e w' => e = .returned (.bool (chOf c)) ∧ w' = w) := changes_any c hc w hT
  have H6 : Hid (∀ w, Calls Tryd.prog 13 #[.int .u16 (c : Int)] w fun e w' => e = .returned (.bool (chOf c)) ∧ w' = w) := rchanges_any c hc
  have H7 : Hid (∀ w, Calls Tryd.prog 8 #[.int .u16 0] w fun e w' => e = .returned (.bool true) ∧ w' = w) := known_any 0 (by decide)
  have H8 : Hid (Calls Tryd.prog 12 #[.int .u16 1] w fun e w' => e = .returned (.bool true) ∧ w' = w) := changes_any 1 (by decide) w hT
  have H9 : Hid (Calls Tryd.prog 10 #[.int .u16 6] w fun e w' => e = .returned (.int .u16 19) ∧ w' = w) := allowed_any 6 (by decide) w hT
  clear hT
  generalize decide (c < 8) = k at *
  generalize flOf c = g at *
  generalize chOf c = h at *
  have ek : (k == k) = true := by cases k <;> rfl
  have eh : (h == h) = true := by cases h <;> rfl
  go_enter Tryd.func3, Tryd.ntmps3
  go_wp2_with fail
  refine (H1.out _).mono ?_
  rintro e w1 ⟨rfl, hw⟩
  rw [hw]; clear hw
  go_wp2_with fail
  refine (H2.out _).mono ?_
  rintro e w1 ⟨rfl, hw⟩
  rw [hw]; clear hw
  go_wp2_with fail
  refine H3.out.mono ?_
  rintro e w1 ⟨rfl, hw⟩
  rw [hw]; clear hw
  go_wp2_with fail
  refine (H4.out _).mono ?_
  rintro e w1 ⟨rfl, hw⟩
  rw [hw]; clear hw
  go_wp2_with fail
  refine H5.out.mono ?_
  rintro e w1 ⟨rfl, hw⟩
  rw [hw]; clear hw
  go_wp2_with fail
  refine (H6.out _).mono ?_
  rintro e w1 ⟨rfl, hw⟩
  rw [hw]; clear hw
  go_wp2_with fail
  refine (H7.out _).mono ?_
  rintro e w1 ⟨rfl, hw⟩
  rw [hw]; clear hw
  go_wp2_with fail
  refine H8.out.mono ?_
  rintro e w1 ⟨rfl, hw⟩
  rw [hw]; clear hw
  go_wp2_with fail
  refine H9.out.mono ?_
  rintro e w1 ⟨rfl, hw⟩
  rw [hw]; clear hw
  go_wp2
  go_ret
  exact ⟨rfl, Below.refl _ _⟩
end Go.Proofs.YtodinademhibjaaDoor
