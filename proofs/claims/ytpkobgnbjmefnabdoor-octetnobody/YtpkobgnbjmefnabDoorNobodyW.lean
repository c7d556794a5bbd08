import Derived.Test.YtpkobgnbjmefnabDoorHeadsW
namespace Go.Proofs.YtpkobgnbjmefnabDoor
open Go.RowKit
set_option linter.unusedVariables false
set_option maxRecDepth 100000

set_option maxHeartbeats 400000 in
theorem usable_nil (w : World) : Calls Tryd.prog 67 #[.pointer none] w fun e w' => e = .returned (.bool false) ∧ w' = w := by
  go_enter Tryd.func67, Tryd.ntmps67
  go_wp2
  go_ret
  exact ⟨rfl, rfl⟩
set_option maxHeartbeats 400000 in
theorem usable_zero (p : Nat) (w : World) (h0 : w.cell? ⟨p, 0, none⟩ = some (.bool false)) : Calls Tryd.prog 67 #[.pointer (some ⟨p, 0, none⟩)] w fun e w' => e = .returned (.bool false) ∧ w' = w := by
  go_enter Tryd.func67, Tryd.ntmps67
  go_wp2
  go_ret
  exact ⟨rfl, rfl⟩
set_option maxHeartbeats 400000 in
theorem rusable_nil (w : World) : Calls Tryd.prog 83 #[.pointer none] w fun e w' => e = .returned (.bool false) ∧ w' = w := by
  go_enter Tryd.func83, Tryd.ntmps83
  go_wp2
  go_ret
  exact ⟨rfl, rfl⟩
set_option maxHeartbeats 400000 in
theorem rusable_zero (p : Nat) (w : World) (h0 : w.cell? ⟨p, 0, none⟩ = some (.bool false)) : Calls Tryd.prog 83 #[.pointer (some ⟨p, 0, none⟩)] w fun e w' => e = .returned (.bool false) ∧ w' = w := by
  go_enter Tryd.func83, Tryd.ntmps83
  go_wp2
  go_ret
  exact ⟨rfl, rfl⟩


/-- a writer that no call made, in the world w -/
def NoW (P : Value) (w : World) : Prop := Calls Tryd.prog 67 #[P] w fun e w' => e = .returned (.bool false) ∧ w' = w
def NoR (P : Value) (w : World) : Prop := Calls Tryd.prog 83 #[P] w fun e w' => e = .returned (.bool false) ∧ w' = w
set_option maxHeartbeats 400000 in
theorem wnum_no (P x y : Value) (w : World) (H : NoW P w) : Calls Tryd.prog 78 #[P, x, y] w fun e w' => e = .returned (.tuple #[]) ∧ w' = w := by
  go_enter Tryd.func78, Tryd.ntmps78
  go_wp2_with fail
  refine H.mono ?_
  rintro e w1 ⟨rfl, hw⟩
  rw [hw]; clear hw
  go_wp2
  exact bodyPost_ret (results_none rfl _ _ _) rfl ⟨rfl, rfl⟩
set_option maxHeartbeats 400000 in
theorem wu8_no (P : Value) (x : Int) (w : World) (H : NoW P w) : Calls Tryd.prog 41 #[P, .int .u8 x] w fun e w' => e = .returned (.tuple #[]) ∧ w' = w := by
  go_enter Tryd.func41, Tryd.ntmps41
  go_wp2_with fail
  refine (wnum_no _ _ _ _ H).mono ?_
  rintro e w1 ⟨rfl, hw⟩
  rw [hw]; clear hw
  go_wp2
  go_end0
  exact ⟨rfl, rfl⟩
set_option maxHeartbeats 400000 in
theorem wu16_no (P : Value) (x : Int) (w : World) (H : NoW P w) : Calls Tryd.prog 43 #[P, .int .u16 x] w fun e w' => e = .returned (.tuple #[]) ∧ w' = w := by
  go_enter Tryd.func43, Tryd.ntmps43
  go_wp2_with fail
  refine (wnum_no _ _ _ _ H).mono ?_
  rintro e w1 ⟨rfl, hw⟩
  rw [hw]; clear hw
  go_wp2
  go_end0
  exact ⟨rfl, rfl⟩
set_option maxHeartbeats 400000 in
theorem wu32_no (P : Value) (x : Int) (w : World) (H : NoW P w) : Calls Tryd.prog 44 #[P, .int .u32 x] w fun e w' => e = .returned (.tuple #[]) ∧ w' = w := by
  go_enter Tryd.func44, Tryd.ntmps44
  go_wp2_with fail
  refine (wnum_no _ _ _ _ H).mono ?_
  rintro e w1 ⟨rfl, hw⟩
  rw [hw]; clear hw
  go_wp2
  go_end0
  exact ⟨rfl, rfl⟩
set_option maxHeartbeats 400000 in
theorem wu64_no (P : Value) (x : Int) (w : World) (H : NoW P w) : Calls Tryd.prog 45 #[P, .int .u64 x] w fun e w' => e = .returned (.tuple #[]) ∧ w' = w := by
  go_enter Tryd.func45, Tryd.ntmps45
  go_wp2_with fail
  refine (wnum_no _ _ _ _ H).mono ?_
  rintro e w1 ⟨rfl, hw⟩
  rw [hw]; clear hw
  go_wp2
  go_end0
  exact ⟨rfl, rfl⟩
set_option maxHeartbeats 400000 in
theorem wraw_no (P b : Value) (w : World) (H : NoW P w) : Calls Tryd.prog 47 #[P, b] w fun e w' => e = .returned (.tuple #[]) ∧ w' = w := by
  go_enter Tryd.func47, Tryd.ntmps47
  go_wp2_with fail
  refine H.mono ?_
  rintro e w1 ⟨rfl, hw⟩
  rw [hw]; clear hw
  go_wp2
  go_end0
  exact ⟨rfl, rfl⟩
set_option maxHeartbeats 2000000 in
theorem nobW_any (P c0 c3 : Value) (v : Nat) (n : Int) (s : ByteArray) (w : World) (hv : v < 18446744073709551616)
    (HU : Hid (∀ o, NoW P (w.alloc o))) :
    Calls Tryd.prog 24 #[P, .agg #[c0, .int .u64 (v : Int), .int .i64 n, c3, .string s]] w fun e w' => e = .returned (.bool true) ∧ Below w.heap.size w w' := by
  go_enter Tryd.func24, Tryd.ntmps24
  go_wp2_with (first | (go_at_call 41; refine (wu8_no _ _ _ (HU.out _)).mono ?_; rintro e w' ⟨rfl, rfl⟩) | (go_at_call 43; refine (wu16_no _ _ _ (HU.out _)).mono ?_; rintro e w' ⟨rfl, rfl⟩) | (go_at_call 44; refine (wu32_no _ _ _ (HU.out _)).mono ?_; rintro e w' ⟨rfl, rfl⟩) | (go_at_call 45; refine (wu64_no _ _ _ (HU.out _)).mono ?_; rintro e w' ⟨rfl, rfl⟩) | (go_at_call 47; refine (wraw_no _ _ _ (HU.out _)).mono ?_; rintro e w' ⟨rfl, rfl⟩) | (go_at_call 67; refine (HU.out _).mono ?_; rintro e w' ⟨rfl, rfl⟩) | go_in)
  go_ret
  exact ⟨rfl, (Below.refl _ _).alloc (Nat.le_refl _) _⟩
set_option maxHeartbeats 4000000 in
theorem nobR_any (P c0 : Value) (n : Int) (w : World) (HU : Hid (∀ o, NoR P (w.alloc o))) :
    Calls Tryd.prog 25 #[P, .agg #[c0, .int .i64 n]] w fun e w' => e = .returned (.bool true) ∧ Below w.heap.size w w' := by
  go_enter Tryd.func25, Tryd.ntmps25
  go_wp2_with (first | (go_at_call 83; refine (HU.out _).mono ?_; rintro e w' ⟨rfl, rfl⟩) | go_in)
  go_ret
  exact ⟨rfl, (Below.refl _ _).alloc (Nat.le_refl _) _⟩
end Go.Proofs.YtpkobgnbjmefnabDoor
