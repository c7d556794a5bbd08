import Derived.Test.YtfifaaopdhcaaaaGreatDoorY4
import Derived.Deep.RegionWith
namespace Go.Proofs.YtfifaaopdhcaaaaGreatDoor
open Go.RowKit
set_option linter.unusedVariables false
set_option maxRecDepth 100000
set_option maxHeartbeats 1000000 in
theorem rraw_short (B r : Nat) (ao : Option Addr) (cap : Nat) (l : List Nat) (at_ n N : Nat) (w : World) (h : ROk w B r ao cap l at_) (HN : Hid (l.length = n)) (hsh : n < at_ + N) :
    Calls Tryz.prog 68 #[.pointer (some ⟨r, 0, none⟩), .int .i64 (N : Int)] w fun e w' => e = .returned (.tuple #[.slice none 0 0, .int .i64 10]) ∧ ∃ q, w' = w.drewN q := by
  have HU : Hid (Calls Tryz.prog 93 #[.pointer (some ⟨r, 0, none⟩)] w fun e w' => e = .returned (.bool true) ∧ w' = w) := rusable_true r w h.c0
  have HLf : Hid (Calls Tryz.prog 66 #[.pointer (some ⟨r, 0, none⟩)] w fun e w' => e = .returned (.int .i64 ((n : Int) - (at_ : Int))) ∧ ∃ q, w' = w.drewN q) := rleft_any B r _ cap l at_ n w h HN
  have t0 : decide ((N : Int) < 0) = false := by simp
  have t1 : decide ((n : Int) - (at_ : Int) < (N : Int)) = true := by simp; omega
  clear h
  go_enter Tryz.func68, Tryz.ntmps68
  go_wp2_with fail
  refine HU.out.mono ?_
  rintro e w1 ⟨rfl, hw⟩
  rw [hw]; clear hw
  go_wp2_with fail
  refine HLf.out.mono ?_
  rintro e w1 ⟨rfl, q, hw⟩
  rw [hw]; clear hw
  go_wp2
  go_ret2
  exact ⟨rfl, _, rfl⟩
set_option maxHeartbeats 1000000 in
theorem rend_tail (B r : Nat) (ao : Option Addr) (cap : Nat) (l : List Nat) (at_ n : Nat) (w : World) (h : ROk w B r ao cap l at_) (HN : Hid (l.length = n)) (hlt : at_ < n) :
    Calls Tryz.prog 69 #[.pointer (some ⟨r, 0, none⟩)] w fun e w' => e = .returned (.int .i64 11) ∧ ∃ q, w' = w.drewN q := by
  have HU : Hid (Calls Tryz.prog 93 #[.pointer (some ⟨r, 0, none⟩)] w fun e w' => e = .returned (.bool true) ∧ w' = w) := rusable_true r w h.c0
  have HLf : Hid (Calls Tryz.prog 66 #[.pointer (some ⟨r, 0, none⟩)] w fun e w' => e = .returned (.int .i64 ((n : Int) - (at_ : Int))) ∧ ∃ q, w' = w.drewN q) := rleft_any B r _ cap l at_ n w h HN
  have t1 : decide (0 < (n : Int) - (at_ : Int)) = true := by simp; omega
  clear h
  go_enter Tryz.func69, Tryz.ntmps69
  go_wp2_with fail
  refine HU.out.mono ?_
  rintro e w1 ⟨rfl, hw⟩
  rw [hw]; clear hw
  go_wp2_with fail
  refine HLf.out.mono ?_
  rintro e w1 ⟨rfl, q, hw⟩
  rw [hw]; clear hw
  go_wp2
  go_ret
  exact ⟨rfl, _, rfl⟩

set_option maxHeartbeats 400000 in
theorem rend_any (B r : Nat) (ao : Option Addr) (cap : Nat) (l : List Nat) (w : World) (h : ROk w B r ao cap l l.length) :
    Calls Tryz.prog 69 #[.pointer (some ⟨r, 0, none⟩)] w fun e w' => e = .returned (.int .i64 0) ∧ ∃ q, w' = w.drewN q := by
  have HU : Hid (Calls Tryz.prog 93 #[.pointer (some ⟨r, 0, none⟩)] w fun e w' => e = .returned (.bool true) ∧ w' = w) := rusable_true r w h.c0
  have HLf : Hid (Calls Tryz.prog 66 #[.pointer (some ⟨r, 0, none⟩)] w fun e w' => e = .returned (.int .i64 0) ∧ ∃ q, w' = w.drewN q) := by
    have := rleft_any B r ao cap l l.length l.length w h rfl
    rwa [Int.sub_self] at this
  clear h
  go_enter Tryz.func69, Tryz.ntmps69
  go_wp2_with fail
  refine HU.out.mono ?_
  rintro e w1 ⟨rfl, hw⟩
  rw [hw]; clear hw
  go_wp2_with fail
  refine HLf.out.mono ?_
  rintro e w1 ⟨rfl, q, hw⟩
  rw [hw]; clear hw
  go_wp2
  go_ret
  exact ⟨rfl, _, rfl⟩
end Go.Proofs.YtfifaaopdhcaaaaGreatDoor
