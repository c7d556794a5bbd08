import Derived.Test.YtjikibhhhchgeaaDoorRows
import Derived.WalkKit
import Derived.WalkSpells
import Derived.WalkLawsBesides
import Derived.Lib.DecodeNEq
import Derived.Lib.ValidLaws
import Derived.Lib.TrimUEq
import Derived.Lib.Bytealg
import Derived.Shelf.Small.Strs
import Derived.Shelf.Strings.Search1
import Derived.Shelf.Unicode.ValidAny
import Derived.Test.YtjikibhhhchgeaaDoorProg
import Derived.Ground.NamesProg
import Derived.Test.YtjikibhhhchgeaaDoorY1
import Derived.Test.YtjikibhhhchgeaaDoorY3
import Derived.RangeFuncNested
import Derived.RangeFuncBound
import Derived.RangeFuncCalls
import Derived.RangeFuncLeaves
import Derived.Shelf.Abstract
import Derived.Shelf.RegionOpen
import Derived.OwnWalkIn
import Derived.TacticsInMore
import Derived.LoopNIn
import Derived.LoopIn
import Derived.Maps.OwnIn
import Derived.Test.YtjikibhhhchgeaaDoorCards
import Derived.Test.YtjikibhhhchgeaaDoorTie
import Derived.ProofKit
import Derived.OpenShut
import Derived.ShutString
import Derived.ChangeOld
import Derived.SizedLaws
import Derived.JoinedCond
import Derived.Deep.DeepHandedRow
import Derived.Lib.LaidTab
import Derived.Lib.LaidIn
import Derived.Lib.LaidU8
import Derived.Lib.LaidU8T
import Derived.PinnedBridge
import Derived.Deep.DeepWitnessRowRef
import Derived.Deep.Slices
namespace Go.Proofs.YtjikibhhhchgeaaDoor
open Go.RowKit
set_option linter.unusedVariables false

/-- a lead byte's class: how many bytes, and the bounds of the second -/
def cls (c : Nat) : Nat × Nat × Nat :=
  if c < 194 then (0, 128, 191) else if c < 224 then (2, 128, 191) else if c = 224 then (3, 160, 191) else if c = 237 then (3, 128, 159)
  else if c < 240 then (3, 128, 191) else if c = 240 then (4, 144, 191) else if c < 244 then (4, 128, 191) else if c = 244 then (4, 128, 143) else (0, 128, 191)
/-- the k bytes behind the first are as they must be -/
def contOk (lo hi : Nat) (B : Nat → Nat) : Nat → Bool
  | 0 => true
  | 1 => decide (lo ≤ B 1) && decide (B 1 ≤ hi)
  | k + 2 => contOk lo hi B (k + 1) && (decide (128 ≤ B (k + 2)) && decide (B (k + 2) ≤ 191))
/-- how many bytes the valid rune has; 0: none -/
def runeF (n : Nat) (B : Nat → Nat) : Nat :=
  if B 0 < 128 then 1 else if (cls (B 0)).1 = 0 ∨ n < (cls (B 0)).1 then 0 else if contOk (cls (B 0)).2.1 (cls (B 0)).2.2 B ((cls (B 0)).1 - 1) = true then (cls (B 0)).1 else 0
def byt (s : ByteArray) (i k : Nat) : Nat := (s.get! (i + k)).toNat

theorem byt_at (s : ByteArray) (i k : Nat) (h : i + k < s.size) : byt s i k = (s[i + k]).toNat := by
  unfold byt
  have : s.get! (i + k) = s[i + k] := by
    show s.data[i + k]! = s.data[i + k]
    exact getElem!_pos s.data (i + k) h
  rw [this]
theorem contOk_le (lo hi : Nat) (B : Nat → Nat) (j m : Nat) (hm : j ≤ m) (h : contOk lo hi B m = true) : contOk lo hi B j = true := by
  induction m with
  | zero => rw [show j = 0 by omega]; exact h
  | succ m ih =>
    by_cases e : j = m + 1
    · rw [e]; exact h
    · cases m with
      | zero => rw [show j = 0 by omega]; rfl
      | succ m => exact ih (by omega) (by rw [contOk, Bool.and_eq_true] at h; exact h.1)
theorem runeF_one (n : Nat) (B : Nat → Nat) (h : B 0 < 128) : runeF n B = 1 := by unfold runeF; rw [if_pos h]
theorem runeF_none (n : Nat) (B : Nat → Nat) (h : 128 ≤ B 0) (hc : (cls (B 0)).1 = 0) : runeF n B = 0 := by unfold runeF; rw [if_neg (by omega), if_pos (.inl hc)]
theorem runeF_short (n : Nat) (B : Nat → Nat) (h : 128 ≤ B 0) (hc : n < (cls (B 0)).1) : runeF n B = 0 := by unfold runeF; rw [if_neg (by omega), if_pos (.inr hc)]
theorem runeF_ok (n sz lo hi : Nat) (B : Nat → Nat) (h : 128 ≤ B 0) (hc : cls (B 0) = (sz, lo, hi)) (h0 : sz ≠ 0) (hn : sz ≤ n) (hk : contOk lo hi B (sz - 1) = true) : runeF n B = sz := by
  unfold runeF; rw [hc]; rw [if_neg (by omega), if_neg (by simp; omega), if_pos hk]
theorem runeF_bad (n sz lo hi j : Nat) (B : Nat → Nat) (h : 128 ≤ B 0) (hc : cls (B 0) = (sz, lo, hi)) (hj : j ≤ sz - 1) (hk : contOk lo hi B j = false) : runeF n B = 0 := by
  unfold runeF; rw [hc]; rw [if_neg (by omega)]
  split
  · rfl
  · rw [if_neg]
    intro h'
    rw [contOk_le lo hi B j (sz - 1) hj h'] at hk
    exact absurd hk (by decide)
theorem ret_i64R {a b : Int} (h : a = b) : Ending.returned (.int .i64 a) = .returned (.int .i64 b) := by rw [h]
theorem cont_one (lo hi : Nat) (B : Nat → Nat) : contOk lo hi B 1 = (decide (lo ≤ B 1) && decide (B 1 ≤ hi)) := rfl
theorem cont_more (lo hi k : Nat) (B : Nat → Nat) : contOk lo hi B (k + 2) = (contOk lo hi B (k + 1) && (decide (128 ≤ B (k + 2)) && decide (B (k + 2) ≤ 191))) := rfl

set_option maxRecDepth 100000 in
set_option maxHeartbeats 1000000 in
theorem rune_ascii (s : ByteArray) (i : Nat) (w : World) (hi : i < s.size) (hs : s.size ≤ 9223372036854775807) (h : (s[i]).toNat < 128) :
    Calls Tryd.prog 122 #[.string s, .int .i64 i] w fun e w' => e = .returned (.int .i64 (runeF (s.size - i) (byt s i) : Nat)) ∧ w' = w := by
  have h1 : decide ((i : Int) < 0) = false := by simp
  have h2 : decide ((s.size : Int) ≤ (i : Int)) = false := by simp; omega
  have h2n : decide (s.size ≤ i) = false := by simp; omega
  have HB : Hid (byt s i 0 = (s[i]).toNat) := byt_at s i 0 hi
  have lt128 : decide (((s[i]).toNat : Int) < 128) = true := by simp; omega
  have g194 : decide ((194 : Int) ≤ ((s[i]).toNat : Int)) = false := by simp; omega
  have l223 : decide (((s[i]).toNat : Int) ≤ 223) = true := by simp; omega
  have g224 : decide ((224 : Int) ≤ ((s[i]).toNat : Int)) = false := by simp; omega
  have l239 : decide (((s[i]).toNat : Int) ≤ 239) = true := by simp; omega
  have g240 : decide ((240 : Int) ≤ ((s[i]).toNat : Int)) = false := by simp; omega
  have l244 : decide (((s[i]).toNat : Int) ≤ 244) = true := by simp; omega
  have e224 : (((s[i]).toNat : Int) == 224) = false := by rw [beq_eq_false_iff_ne]; omega
  have e237 : (((s[i]).toNat : Int) == 237) = false := by rw [beq_eq_false_iff_ne]; omega
  have e240 : (((s[i]).toNat : Int) == 240) = false := by rw [beq_eq_false_iff_ne]; omega
  have e244 : (((s[i]).toNat : Int) == 244) = false := by rw [beq_eq_false_iff_ne]; omega
  have HR : Hid (runeF (s.size - i) (byt s i) = 1) := runeF_one _ _ (by rw [HB.out]; omega)
  clear h
  go_enter Tryd.func122, Tryd.ntmps122
  go_wp2
  go_ret
  exact ⟨ret_i64R (by rw [HR.out]; rfl), rfl⟩

set_option maxRecDepth 100000 in
set_option maxHeartbeats 1000000 in
theorem rune_lowbad (s : ByteArray) (i : Nat) (w : World) (hi : i < s.size) (hs : s.size ≤ 9223372036854775807) (h : 128 ≤ (s[i]).toNat ∧ (s[i]).toNat < 194) :
    Calls Tryd.prog 122 #[.string s, .int .i64 i] w fun e w' => e = .returned (.int .i64 (runeF (s.size - i) (byt s i) : Nat)) ∧ w' = w := by
  have h1 : decide ((i : Int) < 0) = false := by simp
  have h2 : decide ((s.size : Int) ≤ (i : Int)) = false := by simp; omega
  have h2n : decide (s.size ≤ i) = false := by simp; omega
  have HB : Hid (byt s i 0 = (s[i]).toNat) := byt_at s i 0 hi
  have lt128 : decide (((s[i]).toNat : Int) < 128) = false := by simp; omega
  have g194 : decide ((194 : Int) ≤ ((s[i]).toNat : Int)) = false := by simp; omega
  have l223 : decide (((s[i]).toNat : Int) ≤ 223) = true := by simp; omega
  have g224 : decide ((224 : Int) ≤ ((s[i]).toNat : Int)) = false := by simp; omega
  have l239 : decide (((s[i]).toNat : Int) ≤ 239) = true := by simp; omega
  have g240 : decide ((240 : Int) ≤ ((s[i]).toNat : Int)) = false := by simp; omega
  have l244 : decide (((s[i]).toNat : Int) ≤ 244) = true := by simp; omega
  have e224 : (((s[i]).toNat : Int) == 224) = false := by rw [beq_eq_false_iff_ne]; omega
  have e237 : (((s[i]).toNat : Int) == 237) = false := by rw [beq_eq_false_iff_ne]; omega
  have e240 : (((s[i]).toNat : Int) == 240) = false := by rw [beq_eq_false_iff_ne]; omega
  have e244 : (((s[i]).toNat : Int) == 244) = false := by rw [beq_eq_false_iff_ne]; omega
  have HCl : Hid (cls (byt s i 0) = (0, 128, 191)) := by
    show cls (byt s i 0) = _
    rw [HB.out]; unfold cls; repeat (first | rw [if_pos (by omega)] | rw [if_neg (by omega)])
  have H128 : Hid (128 ≤ byt s i 0) := by show 128 ≤ byt s i 0; rw [HB.out]; omega
  have HR : Hid (runeF (s.size - i) (byt s i) = 0) := runeF_none _ _ H128.out (by rw [HCl.out])
  clear h
  go_enter Tryd.func122, Tryd.ntmps122
  go_wp2
  go_ret
  exact ⟨ret_i64R (by rw [HR.out]; rfl), rfl⟩

set_option maxRecDepth 100000 in
set_option maxHeartbeats 1000000 in
theorem rune_highbad (s : ByteArray) (i : Nat) (w : World) (hi : i < s.size) (hs : s.size ≤ 9223372036854775807) (h : 245 ≤ (s[i]).toNat ∧ (s[i]).toNat < 256) :
    Calls Tryd.prog 122 #[.string s, .int .i64 i] w fun e w' => e = .returned (.int .i64 (runeF (s.size - i) (byt s i) : Nat)) ∧ w' = w := by
  have h1 : decide ((i : Int) < 0) = false := by simp
  have h2 : decide ((s.size : Int) ≤ (i : Int)) = false := by simp; omega
  have h2n : decide (s.size ≤ i) = false := by simp; omega
  have HB : Hid (byt s i 0 = (s[i]).toNat) := byt_at s i 0 hi
  have lt128 : decide (((s[i]).toNat : Int) < 128) = false := by simp; omega
  have g194 : decide ((194 : Int) ≤ ((s[i]).toNat : Int)) = true := by simp; omega
  have l223 : decide (((s[i]).toNat : Int) ≤ 223) = false := by simp; omega
  have g224 : decide ((224 : Int) ≤ ((s[i]).toNat : Int)) = true := by simp; omega
  have l239 : decide (((s[i]).toNat : Int) ≤ 239) = false := by simp; omega
  have g240 : decide ((240 : Int) ≤ ((s[i]).toNat : Int)) = true := by simp; omega
  have l244 : decide (((s[i]).toNat : Int) ≤ 244) = false := by simp; omega
  have e224 : (((s[i]).toNat : Int) == 224) = false := by rw [beq_eq_false_iff_ne]; omega
  have e237 : (((s[i]).toNat : Int) == 237) = false := by rw [beq_eq_false_iff_ne]; omega
  have e240 : (((s[i]).toNat : Int) == 240) = false := by rw [beq_eq_false_iff_ne]; omega
  have e244 : (((s[i]).toNat : Int) == 244) = false := by rw [beq_eq_false_iff_ne]; omega
  have HCl : Hid (cls (byt s i 0) = (0, 128, 191)) := by
    show cls (byt s i 0) = _
    rw [HB.out]; unfold cls; repeat (first | rw [if_pos (by omega)] | rw [if_neg (by omega)])
  have H128 : Hid (128 ≤ byt s i 0) := by show 128 ≤ byt s i 0; rw [HB.out]; omega
  have HR : Hid (runeF (s.size - i) (byt s i) = 0) := runeF_none _ _ H128.out (by rw [HCl.out])
  clear h
  go_enter Tryd.func122, Tryd.ntmps122
  go_wp2
  go_ret
  exact ⟨ret_i64R (by rw [HR.out]; rfl), rfl⟩

set_option maxRecDepth 100000 in
set_option maxHeartbeats 1000000 in
theorem rune_two (s : ByteArray) (i : Nat) (w : World) (hi : i < s.size) (hs : s.size ≤ 9223372036854775807) (h : 194 ≤ (s[i]).toNat ∧ (s[i]).toNat < 224) :
    Calls Tryd.prog 122 #[.string s, .int .i64 i] w fun e w' => e = .returned (.int .i64 (runeF (s.size - i) (byt s i) : Nat)) ∧ w' = w := by
  have h1 : decide ((i : Int) < 0) = false := by simp
  have h2 : decide ((s.size : Int) ≤ (i : Int)) = false := by simp; omega
  have h2n : decide (s.size ≤ i) = false := by simp; omega
  have HB : Hid (byt s i 0 = (s[i]).toNat) := byt_at s i 0 hi
  have lt128 : decide (((s[i]).toNat : Int) < 128) = false := by simp; omega
  have g194 : decide ((194 : Int) ≤ ((s[i]).toNat : Int)) = true := by simp; omega
  have l223 : decide (((s[i]).toNat : Int) ≤ 223) = true := by simp; omega
  have g224 : decide ((224 : Int) ≤ ((s[i]).toNat : Int)) = false := by simp; omega
  have l239 : decide (((s[i]).toNat : Int) ≤ 239) = true := by simp; omega
  have g240 : decide ((240 : Int) ≤ ((s[i]).toNat : Int)) = false := by simp; omega
  have l244 : decide (((s[i]).toNat : Int) ≤ 244) = true := by simp; omega
  have e224 : (((s[i]).toNat : Int) == 224) = false := by rw [beq_eq_false_iff_ne]; omega
  have e237 : (((s[i]).toNat : Int) == 237) = false := by rw [beq_eq_false_iff_ne]; omega
  have e240 : (((s[i]).toNat : Int) == 240) = false := by rw [beq_eq_false_iff_ne]; omega
  have e244 : (((s[i]).toNat : Int) == 244) = false := by rw [beq_eq_false_iff_ne]; omega
  have HCl : Hid (cls (byt s i 0) = (2, 128, 191)) := by
    show cls (byt s i 0) = _
    rw [HB.out]; unfold cls; repeat (first | rw [if_pos (by omega)] | rw [if_neg (by omega)])
  have H128 : Hid (128 ≤ byt s i 0) := by show 128 ≤ byt s i 0; rw [HB.out]; omega
  clear h
  by_cases hn : s.size - i < 2
  · have hsz : decide ((s.size : Int) - (i : Int) < 2) = true := by simp; omega
    have HR : Hid (runeF (s.size - i) (byt s i) = 0) := runeF_short _ _ H128.out (by rw [HCl.out]; exact hn)
    go_enter Tryd.func122, Tryd.ntmps122
    go_wp2
    go_ret
    exact ⟨ret_i64R (by rw [HR.out]; rfl), rfl⟩
  · have hsz : decide ((s.size : Int) - (i : Int) < 2) = false := by simp; omega
    go_enter Tryd.func122, Tryd.ntmps122
    go_wp2
    go_loop [7, 8, 9] (fun a b k => ∃ j : Nat, 1 ≤ j ∧ j ≤ 2 ∧ k = .int .i64 j ∧ a = .int .u8 (if j = 1 then 128 else 128) ∧ b = .int .u8 (if j = 1 then 191 else 191) ∧ contOk 128 191 (byt s i) (j - 1) = true) (fun _ _ k => 2 - (intOf k).toNat)
    case atStart => exact ⟨1, by omega, by omega, rfl, rfl, rfl, rfl⟩
    case round =>
      obtain ⟨j, hj1, hj2, rfl, rfl, rfl, hok⟩ := hrel
      have HO : Hid (contOk 128 191 (byt s i) (j - 1) = true) := hok
      clear hok
      rcases (show j = 1 ∨ j = 2 by omega) with rfl | rfl
      · have hb : i + 1 < s.size := by omega
        have HBk : Hid (byt s i 1 = (s[i + 1]).toNat) := byt_at s i 1 hb
        by_cases hbad : 128 ≤ (s[i + 1]).toNat ∧ (s[i + 1]).toNat ≤ 191
        · have t1 : decide (((s[i + 1]).toNat : Int) < 128) = false := by simp; omega
          have t2 : decide ((191 : Int) < ((s[i + 1]).toNat : Int)) = false := by simp; omega
          have HN : Hid (contOk 128 191 (byt s i) 1 = true) := by show contOk 128 191 (byt s i) 1 = true; rw [cont_one, HBk.out]; simp; omega
          clear hbad
          go_wp2
          go_round
          case rel => exact ⟨2, by omega, by omega, by go_num, by simp, by simp, HN.out⟩
          case measure => simp [intOf]
        · have HN : Hid (contOk 128 191 (byt s i) 1 = false) := by
            show contOk 128 191 (byt s i) 1 = false; rw [cont_one, HBk.out, Bool.eq_false_iff]; simp; omega
          have HR : Hid (runeF (s.size - i) (byt s i) = 0) := runeF_bad _ 2 128 191 1 _ H128.out HCl.out (by omega) HN.out
          by_cases hlo : (s[i + 1]).toNat < 128
          · have t1 : decide (((s[i + 1]).toNat : Int) < 128) = true := by simp; omega
            clear hbad
            go_wp2
            go_ret
            exact ⟨ret_i64R (by rw [HR.out]; rfl), rfl⟩
          · have t1 : decide (((s[i + 1]).toNat : Int) < 128) = false := by simp; omega
            have t2 : decide ((191 : Int) < ((s[i + 1]).toNat : Int)) = true := by simp; omega
            clear hbad
            go_wp2
            go_ret
            exact ⟨ret_i64R (by rw [HR.out]; rfl), rfl⟩
      · have HR : Hid (runeF (s.size - i) (byt s i) = 2) := runeF_ok _ 2 128 191 _ H128.out HCl.out (by decide) (by omega) HO.out
        go_wp2
        go_ret
        exact ⟨ret_i64R (by rw [HR.out]; rfl), rfl⟩

set_option maxRecDepth 100000 in
set_option maxHeartbeats 1000000 in
theorem rune_e0 (s : ByteArray) (i : Nat) (w : World) (hi : i < s.size) (hs : s.size ≤ 9223372036854775807) (h : (s[i]).toNat = 224) :
    Calls Tryd.prog 122 #[.string s, .int .i64 i] w fun e w' => e = .returned (.int .i64 (runeF (s.size - i) (byt s i) : Nat)) ∧ w' = w := by
  have h1 : decide ((i : Int) < 0) = false := by simp
  have h2 : decide ((s.size : Int) ≤ (i : Int)) = false := by simp; omega
  have h2n : decide (s.size ≤ i) = false := by simp; omega
  have HB : Hid (byt s i 0 = (s[i]).toNat) := byt_at s i 0 hi
  have lt128 : decide (((s[i]).toNat : Int) < 128) = false := by simp; omega
  have g194 : decide ((194 : Int) ≤ ((s[i]).toNat : Int)) = true := by simp; omega
  have l223 : decide (((s[i]).toNat : Int) ≤ 223) = false := by simp; omega
  have g224 : decide ((224 : Int) ≤ ((s[i]).toNat : Int)) = true := by simp; omega
  have l239 : decide (((s[i]).toNat : Int) ≤ 239) = true := by simp; omega
  have g240 : decide ((240 : Int) ≤ ((s[i]).toNat : Int)) = false := by simp; omega
  have l244 : decide (((s[i]).toNat : Int) ≤ 244) = true := by simp; omega
  have e224 : (((s[i]).toNat : Int) == 224) = true := by rw [beq_iff_eq]; omega
  have e237 : (((s[i]).toNat : Int) == 237) = false := by rw [beq_eq_false_iff_ne]; omega
  have e240 : (((s[i]).toNat : Int) == 240) = false := by rw [beq_eq_false_iff_ne]; omega
  have e244 : (((s[i]).toNat : Int) == 244) = false := by rw [beq_eq_false_iff_ne]; omega
  have HCl : Hid (cls (byt s i 0) = (3, 160, 191)) := by
    show cls (byt s i 0) = _
    rw [HB.out]; unfold cls; repeat (first | rw [if_pos (by omega)] | rw [if_neg (by omega)])
  have H128 : Hid (128 ≤ byt s i 0) := by show 128 ≤ byt s i 0; rw [HB.out]; omega
  clear h
  by_cases hn : s.size - i < 3
  · have hsz : decide ((s.size : Int) - (i : Int) < 3) = true := by simp; omega
    have HR : Hid (runeF (s.size - i) (byt s i) = 0) := runeF_short _ _ H128.out (by rw [HCl.out]; exact hn)
    go_enter Tryd.func122, Tryd.ntmps122
    go_wp2
    go_ret
    exact ⟨ret_i64R (by rw [HR.out]; rfl), rfl⟩
  · have hsz : decide ((s.size : Int) - (i : Int) < 3) = false := by simp; omega
    go_enter Tryd.func122, Tryd.ntmps122
    go_wp2
    go_loop [7, 8, 9] (fun a b k => ∃ j : Nat, 1 ≤ j ∧ j ≤ 3 ∧ k = .int .i64 j ∧ a = .int .u8 (if j = 1 then 160 else 128) ∧ b = .int .u8 (if j = 1 then 191 else 191) ∧ contOk 160 191 (byt s i) (j - 1) = true) (fun _ _ k => 3 - (intOf k).toNat)
    case atStart => exact ⟨1, by omega, by omega, rfl, rfl, rfl, rfl⟩
    case round =>
      obtain ⟨j, hj1, hj2, rfl, rfl, rfl, hok⟩ := hrel
      have HO : Hid (contOk 160 191 (byt s i) (j - 1) = true) := hok
      clear hok
      rcases (show j = 1 ∨ j = 2 ∨ j = 3 by omega) with rfl | rfl | rfl
      · have hb : i + 1 < s.size := by omega
        have HBk : Hid (byt s i 1 = (s[i + 1]).toNat) := byt_at s i 1 hb
        by_cases hbad : 160 ≤ (s[i + 1]).toNat ∧ (s[i + 1]).toNat ≤ 191
        · have t1 : decide (((s[i + 1]).toNat : Int) < 160) = false := by simp; omega
          have t2 : decide ((191 : Int) < ((s[i + 1]).toNat : Int)) = false := by simp; omega
          have HN : Hid (contOk 160 191 (byt s i) 1 = true) := by show contOk 160 191 (byt s i) 1 = true; rw [cont_one, HBk.out]; simp; omega
          clear hbad
          go_wp2
          go_round
          case rel => exact ⟨2, by omega, by omega, by go_num, by simp, by simp, HN.out⟩
          case measure => simp [intOf]
        · have HN : Hid (contOk 160 191 (byt s i) 1 = false) := by
            show contOk 160 191 (byt s i) 1 = false; rw [cont_one, HBk.out, Bool.eq_false_iff]; simp; omega
          have HR : Hid (runeF (s.size - i) (byt s i) = 0) := runeF_bad _ 3 160 191 1 _ H128.out HCl.out (by omega) HN.out
          by_cases hlo : (s[i + 1]).toNat < 160
          · have t1 : decide (((s[i + 1]).toNat : Int) < 160) = true := by simp; omega
            clear hbad
            go_wp2
            go_ret
            exact ⟨ret_i64R (by rw [HR.out]; rfl), rfl⟩
          · have t1 : decide (((s[i + 1]).toNat : Int) < 160) = false := by simp; omega
            have t2 : decide ((191 : Int) < ((s[i + 1]).toNat : Int)) = true := by simp; omega
            clear hbad
            go_wp2
            go_ret
            exact ⟨ret_i64R (by rw [HR.out]; rfl), rfl⟩
      · have hb : i + 2 < s.size := by omega
        have HBk : Hid (byt s i 2 = (s[i + 2]).toNat) := byt_at s i 2 hb
        by_cases hbad : 128 ≤ (s[i + 2]).toNat ∧ (s[i + 2]).toNat ≤ 191
        · have t1 : decide (((s[i + 2]).toNat : Int) < 128) = false := by simp; omega
          have t2 : decide ((191 : Int) < ((s[i + 2]).toNat : Int)) = false := by simp; omega
          have HN : Hid (contOk 160 191 (byt s i) 2 = true) := by show contOk 160 191 (byt s i) 2 = true; rw [cont_more, HBk.out]; have := HO.out; simp at this; simp [this]; omega
          clear hbad
          go_wp2
          go_round
          case rel => exact ⟨3, by omega, by omega, by go_num, by simp, by simp, HN.out⟩
          case measure => simp [intOf]
        · have HN : Hid (contOk 160 191 (byt s i) 2 = false) := by
            show contOk 160 191 (byt s i) 2 = false; rw [cont_more, HBk.out, Bool.eq_false_iff]; simp; omega
          have HR : Hid (runeF (s.size - i) (byt s i) = 0) := runeF_bad _ 3 160 191 2 _ H128.out HCl.out (by omega) HN.out
          by_cases hlo : (s[i + 2]).toNat < 128
          · have t1 : decide (((s[i + 2]).toNat : Int) < 128) = true := by simp; omega
            clear hbad
            go_wp2
            go_ret
            exact ⟨ret_i64R (by rw [HR.out]; rfl), rfl⟩
          · have t1 : decide (((s[i + 2]).toNat : Int) < 128) = false := by simp; omega
            have t2 : decide ((191 : Int) < ((s[i + 2]).toNat : Int)) = true := by simp; omega
            clear hbad
            go_wp2
            go_ret
            exact ⟨ret_i64R (by rw [HR.out]; rfl), rfl⟩
      · have HR : Hid (runeF (s.size - i) (byt s i) = 3) := runeF_ok _ 3 160 191 _ H128.out HCl.out (by decide) (by omega) HO.out
        go_wp2
        go_ret
        exact ⟨ret_i64R (by rw [HR.out]; rfl), rfl⟩

set_option maxRecDepth 100000 in
set_option maxHeartbeats 1000000 in
theorem rune_three (s : ByteArray) (i : Nat) (w : World) (hi : i < s.size) (hs : s.size ≤ 9223372036854775807) (h : 224 < (s[i]).toNat ∧ (s[i]).toNat < 240 ∧ (s[i]).toNat ≠ 237) :
    Calls Tryd.prog 122 #[.string s, .int .i64 i] w fun e w' => e = .returned (.int .i64 (runeF (s.size - i) (byt s i) : Nat)) ∧ w' = w := by
  have h1 : decide ((i : Int) < 0) = false := by simp
  have h2 : decide ((s.size : Int) ≤ (i : Int)) = false := by simp; omega
  have h2n : decide (s.size ≤ i) = false := by simp; omega
  have HB : Hid (byt s i 0 = (s[i]).toNat) := byt_at s i 0 hi
  have lt128 : decide (((s[i]).toNat : Int) < 128) = false := by simp; omega
  have g194 : decide ((194 : Int) ≤ ((s[i]).toNat : Int)) = true := by simp; omega
  have l223 : decide (((s[i]).toNat : Int) ≤ 223) = false := by simp; omega
  have g224 : decide ((224 : Int) ≤ ((s[i]).toNat : Int)) = true := by simp; omega
  have l239 : decide (((s[i]).toNat : Int) ≤ 239) = true := by simp; omega
  have g240 : decide ((240 : Int) ≤ ((s[i]).toNat : Int)) = false := by simp; omega
  have l244 : decide (((s[i]).toNat : Int) ≤ 244) = true := by simp; omega
  have e224 : (((s[i]).toNat : Int) == 224) = false := by rw [beq_eq_false_iff_ne]; omega
  have e237 : (((s[i]).toNat : Int) == 237) = false := by rw [beq_eq_false_iff_ne]; omega
  have e240 : (((s[i]).toNat : Int) == 240) = false := by rw [beq_eq_false_iff_ne]; omega
  have e244 : (((s[i]).toNat : Int) == 244) = false := by rw [beq_eq_false_iff_ne]; omega
  have HCl : Hid (cls (byt s i 0) = (3, 128, 191)) := by
    show cls (byt s i 0) = _
    rw [HB.out]; unfold cls; repeat (first | rw [if_pos (by omega)] | rw [if_neg (by omega)])
  have H128 : Hid (128 ≤ byt s i 0) := by show 128 ≤ byt s i 0; rw [HB.out]; omega
  clear h
  by_cases hn : s.size - i < 3
  · have hsz : decide ((s.size : Int) - (i : Int) < 3) = true := by simp; omega
    have HR : Hid (runeF (s.size - i) (byt s i) = 0) := runeF_short _ _ H128.out (by rw [HCl.out]; exact hn)
    go_enter Tryd.func122, Tryd.ntmps122
    go_wp2
    go_ret
    exact ⟨ret_i64R (by rw [HR.out]; rfl), rfl⟩
  · have hsz : decide ((s.size : Int) - (i : Int) < 3) = false := by simp; omega
    go_enter Tryd.func122, Tryd.ntmps122
    go_wp2
    go_loop [7, 8, 9] (fun a b k => ∃ j : Nat, 1 ≤ j ∧ j ≤ 3 ∧ k = .int .i64 j ∧ a = .int .u8 (if j = 1 then 128 else 128) ∧ b = .int .u8 (if j = 1 then 191 else 191) ∧ contOk 128 191 (byt s i) (j - 1) = true) (fun _ _ k => 3 - (intOf k).toNat)
    case atStart => exact ⟨1, by omega, by omega, rfl, rfl, rfl, rfl⟩
    case round =>
      obtain ⟨j, hj1, hj2, rfl, rfl, rfl, hok⟩ := hrel
      have HO : Hid (contOk 128 191 (byt s i) (j - 1) = true) := hok
      clear hok
      rcases (show j = 1 ∨ j = 2 ∨ j = 3 by omega) with rfl | rfl | rfl
      · have hb : i + 1 < s.size := by omega
        have HBk : Hid (byt s i 1 = (s[i + 1]).toNat) := byt_at s i 1 hb
        by_cases hbad : 128 ≤ (s[i + 1]).toNat ∧ (s[i + 1]).toNat ≤ 191
        · have t1 : decide (((s[i + 1]).toNat : Int) < 128) = false := by simp; omega
          have t2 : decide ((191 : Int) < ((s[i + 1]).toNat : Int)) = false := by simp; omega
          have HN : Hid (contOk 128 191 (byt s i) 1 = true) := by show contOk 128 191 (byt s i) 1 = true; rw [cont_one, HBk.out]; simp; omega
          clear hbad
          go_wp2
          go_round
          case rel => exact ⟨2, by omega, by omega, by go_num, by simp, by simp, HN.out⟩
          case measure => simp [intOf]
        · have HN : Hid (contOk 128 191 (byt s i) 1 = false) := by
            show contOk 128 191 (byt s i) 1 = false; rw [cont_one, HBk.out, Bool.eq_false_iff]; simp; omega
          have HR : Hid (runeF (s.size - i) (byt s i) = 0) := runeF_bad _ 3 128 191 1 _ H128.out HCl.out (by omega) HN.out
          by_cases hlo : (s[i + 1]).toNat < 128
          · have t1 : decide (((s[i + 1]).toNat : Int) < 128) = true := by simp; omega
            clear hbad
            go_wp2
            go_ret
            exact ⟨ret_i64R (by rw [HR.out]; rfl), rfl⟩
          · have t1 : decide (((s[i + 1]).toNat : Int) < 128) = false := by simp; omega
            have t2 : decide ((191 : Int) < ((s[i + 1]).toNat : Int)) = true := by simp; omega
            clear hbad
            go_wp2
            go_ret
            exact ⟨ret_i64R (by rw [HR.out]; rfl), rfl⟩
      · have hb : i + 2 < s.size := by omega
        have HBk : Hid (byt s i 2 = (s[i + 2]).toNat) := byt_at s i 2 hb
        by_cases hbad : 128 ≤ (s[i + 2]).toNat ∧ (s[i + 2]).toNat ≤ 191
        · have t1 : decide (((s[i + 2]).toNat : Int) < 128) = false := by simp; omega
          have t2 : decide ((191 : Int) < ((s[i + 2]).toNat : Int)) = false := by simp; omega
          have HN : Hid (contOk 128 191 (byt s i) 2 = true) := by show contOk 128 191 (byt s i) 2 = true; rw [cont_more, HBk.out]; have := HO.out; simp at this; simp [this]; omega
          clear hbad
          go_wp2
          go_round
          case rel => exact ⟨3, by omega, by omega, by go_num, by simp, by simp, HN.out⟩
          case measure => simp [intOf]
        · have HN : Hid (contOk 128 191 (byt s i) 2 = false) := by
            show contOk 128 191 (byt s i) 2 = false; rw [cont_more, HBk.out, Bool.eq_false_iff]; simp; omega
          have HR : Hid (runeF (s.size - i) (byt s i) = 0) := runeF_bad _ 3 128 191 2 _ H128.out HCl.out (by omega) HN.out
          by_cases hlo : (s[i + 2]).toNat < 128
          · have t1 : decide (((s[i + 2]).toNat : Int) < 128) = true := by simp; omega
            clear hbad
            go_wp2
            go_ret
            exact ⟨ret_i64R (by rw [HR.out]; rfl), rfl⟩
          · have t1 : decide (((s[i + 2]).toNat : Int) < 128) = false := by simp; omega
            have t2 : decide ((191 : Int) < ((s[i + 2]).toNat : Int)) = true := by simp; omega
            clear hbad
            go_wp2
            go_ret
            exact ⟨ret_i64R (by rw [HR.out]; rfl), rfl⟩
      · have HR : Hid (runeF (s.size - i) (byt s i) = 3) := runeF_ok _ 3 128 191 _ H128.out HCl.out (by decide) (by omega) HO.out
        go_wp2
        go_ret
        exact ⟨ret_i64R (by rw [HR.out]; rfl), rfl⟩

set_option maxRecDepth 100000 in
set_option maxHeartbeats 1000000 in
theorem rune_ed (s : ByteArray) (i : Nat) (w : World) (hi : i < s.size) (hs : s.size ≤ 9223372036854775807) (h : (s[i]).toNat = 237) :
    Calls Tryd.prog 122 #[.string s, .int .i64 i] w fun e w' => e = .returned (.int .i64 (runeF (s.size - i) (byt s i) : Nat)) ∧ w' = w := by
  have h1 : decide ((i : Int) < 0) = false := by simp
  have h2 : decide ((s.size : Int) ≤ (i : Int)) = false := by simp; omega
  have h2n : decide (s.size ≤ i) = false := by simp; omega
  have HB : Hid (byt s i 0 = (s[i]).toNat) := byt_at s i 0 hi
  have lt128 : decide (((s[i]).toNat : Int) < 128) = false := by simp; omega
  have g194 : decide ((194 : Int) ≤ ((s[i]).toNat : Int)) = true := by simp; omega
  have l223 : decide (((s[i]).toNat : Int) ≤ 223) = false := by simp; omega
  have g224 : decide ((224 : Int) ≤ ((s[i]).toNat : Int)) = true := by simp; omega
  have l239 : decide (((s[i]).toNat : Int) ≤ 239) = true := by simp; omega
  have g240 : decide ((240 : Int) ≤ ((s[i]).toNat : Int)) = false := by simp; omega
  have l244 : decide (((s[i]).toNat : Int) ≤ 244) = true := by simp; omega
  have e224 : (((s[i]).toNat : Int) == 224) = false := by rw [beq_eq_false_iff_ne]; omega
  have e237 : (((s[i]).toNat : Int) == 237) = true := by rw [beq_iff_eq]; omega
  have e240 : (((s[i]).toNat : Int) == 240) = false := by rw [beq_eq_false_iff_ne]; omega
  have e244 : (((s[i]).toNat : Int) == 244) = false := by rw [beq_eq_false_iff_ne]; omega
  have HCl : Hid (cls (byt s i 0) = (3, 128, 159)) := by
    show cls (byt s i 0) = _
    rw [HB.out]; unfold cls; repeat (first | rw [if_pos (by omega)] | rw [if_neg (by omega)])
  have H128 : Hid (128 ≤ byt s i 0) := by show 128 ≤ byt s i 0; rw [HB.out]; omega
  clear h
  by_cases hn : s.size - i < 3
  · have hsz : decide ((s.size : Int) - (i : Int) < 3) = true := by simp; omega
    have HR : Hid (runeF (s.size - i) (byt s i) = 0) := runeF_short _ _ H128.out (by rw [HCl.out]; exact hn)
    go_enter Tryd.func122, Tryd.ntmps122
    go_wp2
    go_ret
    exact ⟨ret_i64R (by rw [HR.out]; rfl), rfl⟩
  · have hsz : decide ((s.size : Int) - (i : Int) < 3) = false := by simp; omega
    go_enter Tryd.func122, Tryd.ntmps122
    go_wp2
    go_loop [7, 8, 9] (fun a b k => ∃ j : Nat, 1 ≤ j ∧ j ≤ 3 ∧ k = .int .i64 j ∧ a = .int .u8 (if j = 1 then 128 else 128) ∧ b = .int .u8 (if j = 1 then 159 else 191) ∧ contOk 128 159 (byt s i) (j - 1) = true) (fun _ _ k => 3 - (intOf k).toNat)
    case atStart => exact ⟨1, by omega, by omega, rfl, rfl, rfl, rfl⟩
    case round =>
      obtain ⟨j, hj1, hj2, rfl, rfl, rfl, hok⟩ := hrel
      have HO : Hid (contOk 128 159 (byt s i) (j - 1) = true) := hok
      clear hok
      rcases (show j = 1 ∨ j = 2 ∨ j = 3 by omega) with rfl | rfl | rfl
      · have hb : i + 1 < s.size := by omega
        have HBk : Hid (byt s i 1 = (s[i + 1]).toNat) := byt_at s i 1 hb
        by_cases hbad : 128 ≤ (s[i + 1]).toNat ∧ (s[i + 1]).toNat ≤ 159
        · have t1 : decide (((s[i + 1]).toNat : Int) < 128) = false := by simp; omega
          have t2 : decide ((159 : Int) < ((s[i + 1]).toNat : Int)) = false := by simp; omega
          have HN : Hid (contOk 128 159 (byt s i) 1 = true) := by show contOk 128 159 (byt s i) 1 = true; rw [cont_one, HBk.out]; simp; omega
          clear hbad
          go_wp2
          go_round
          case rel => exact ⟨2, by omega, by omega, by go_num, by simp, by simp, HN.out⟩
          case measure => simp [intOf]
        · have HN : Hid (contOk 128 159 (byt s i) 1 = false) := by
            show contOk 128 159 (byt s i) 1 = false; rw [cont_one, HBk.out, Bool.eq_false_iff]; simp; omega
          have HR : Hid (runeF (s.size - i) (byt s i) = 0) := runeF_bad _ 3 128 159 1 _ H128.out HCl.out (by omega) HN.out
          by_cases hlo : (s[i + 1]).toNat < 128
          · have t1 : decide (((s[i + 1]).toNat : Int) < 128) = true := by simp; omega
            clear hbad
            go_wp2
            go_ret
            exact ⟨ret_i64R (by rw [HR.out]; rfl), rfl⟩
          · have t1 : decide (((s[i + 1]).toNat : Int) < 128) = false := by simp; omega
            have t2 : decide ((159 : Int) < ((s[i + 1]).toNat : Int)) = true := by simp; omega
            clear hbad
            go_wp2
            go_ret
            exact ⟨ret_i64R (by rw [HR.out]; rfl), rfl⟩
      · have hb : i + 2 < s.size := by omega
        have HBk : Hid (byt s i 2 = (s[i + 2]).toNat) := byt_at s i 2 hb
        by_cases hbad : 128 ≤ (s[i + 2]).toNat ∧ (s[i + 2]).toNat ≤ 191
        · have t1 : decide (((s[i + 2]).toNat : Int) < 128) = false := by simp; omega
          have t2 : decide ((191 : Int) < ((s[i + 2]).toNat : Int)) = false := by simp; omega
          have HN : Hid (contOk 128 159 (byt s i) 2 = true) := by show contOk 128 159 (byt s i) 2 = true; rw [cont_more, HBk.out]; have := HO.out; simp at this; simp [this]; omega
          clear hbad
          go_wp2
          go_round
          case rel => exact ⟨3, by omega, by omega, by go_num, by simp, by simp, HN.out⟩
          case measure => simp [intOf]
        · have HN : Hid (contOk 128 159 (byt s i) 2 = false) := by
            show contOk 128 159 (byt s i) 2 = false; rw [cont_more, HBk.out, Bool.eq_false_iff]; simp; omega
          have HR : Hid (runeF (s.size - i) (byt s i) = 0) := runeF_bad _ 3 128 159 2 _ H128.out HCl.out (by omega) HN.out
          by_cases hlo : (s[i + 2]).toNat < 128
          · have t1 : decide (((s[i + 2]).toNat : Int) < 128) = true := by simp; omega
            clear hbad
            go_wp2
            go_ret
            exact ⟨ret_i64R (by rw [HR.out]; rfl), rfl⟩
          · have t1 : decide (((s[i + 2]).toNat : Int) < 128) = false := by simp; omega
            have t2 : decide ((191 : Int) < ((s[i + 2]).toNat : Int)) = true := by simp; omega
            clear hbad
            go_wp2
            go_ret
            exact ⟨ret_i64R (by rw [HR.out]; rfl), rfl⟩
      · have HR : Hid (runeF (s.size - i) (byt s i) = 3) := runeF_ok _ 3 128 159 _ H128.out HCl.out (by decide) (by omega) HO.out
        go_wp2
        go_ret
        exact ⟨ret_i64R (by rw [HR.out]; rfl), rfl⟩

set_option maxRecDepth 100000 in
set_option maxHeartbeats 1000000 in
theorem rune_f0 (s : ByteArray) (i : Nat) (w : World) (hi : i < s.size) (hs : s.size ≤ 9223372036854775807) (h : (s[i]).toNat = 240) :
    Calls Tryd.prog 122 #[.string s, .int .i64 i] w fun e w' => e = .returned (.int .i64 (runeF (s.size - i) (byt s i) : Nat)) ∧ w' = w := by
  have h1 : decide ((i : Int) < 0) = false := by simp
  have h2 : decide ((s.size : Int) ≤ (i : Int)) = false := by simp; omega
  have h2n : decide (s.size ≤ i) = false := by simp; omega
  have HB : Hid (byt s i 0 = (s[i]).toNat) := byt_at s i 0 hi
  have lt128 : decide (((s[i]).toNat : Int) < 128) = false := by simp; omega
  have g194 : decide ((194 : Int) ≤ ((s[i]).toNat : Int)) = true := by simp; omega
  have l223 : decide (((s[i]).toNat : Int) ≤ 223) = false := by simp; omega
  have g224 : decide ((224 : Int) ≤ ((s[i]).toNat : Int)) = true := by simp; omega
  have l239 : decide (((s[i]).toNat : Int) ≤ 239) = false := by simp; omega
  have g240 : decide ((240 : Int) ≤ ((s[i]).toNat : Int)) = true := by simp; omega
  have l244 : decide (((s[i]).toNat : Int) ≤ 244) = true := by simp; omega
  have e224 : (((s[i]).toNat : Int) == 224) = false := by rw [beq_eq_false_iff_ne]; omega
  have e237 : (((s[i]).toNat : Int) == 237) = false := by rw [beq_eq_false_iff_ne]; omega
  have e240 : (((s[i]).toNat : Int) == 240) = true := by rw [beq_iff_eq]; omega
  have e244 : (((s[i]).toNat : Int) == 244) = false := by rw [beq_eq_false_iff_ne]; omega
  have HCl : Hid (cls (byt s i 0) = (4, 144, 191)) := by
    show cls (byt s i 0) = _
    rw [HB.out]; unfold cls; repeat (first | rw [if_pos (by omega)] | rw [if_neg (by omega)])
  have H128 : Hid (128 ≤ byt s i 0) := by show 128 ≤ byt s i 0; rw [HB.out]; omega
  clear h
  by_cases hn : s.size - i < 4
  · have hsz : decide ((s.size : Int) - (i : Int) < 4) = true := by simp; omega
    have HR : Hid (runeF (s.size - i) (byt s i) = 0) := runeF_short _ _ H128.out (by rw [HCl.out]; exact hn)
    go_enter Tryd.func122, Tryd.ntmps122
    go_wp2
    go_ret
    exact ⟨ret_i64R (by rw [HR.out]; rfl), rfl⟩
  · have hsz : decide ((s.size : Int) - (i : Int) < 4) = false := by simp; omega
    go_enter Tryd.func122, Tryd.ntmps122
    go_wp2
    go_loop [7, 8, 9] (fun a b k => ∃ j : Nat, 1 ≤ j ∧ j ≤ 4 ∧ k = .int .i64 j ∧ a = .int .u8 (if j = 1 then 144 else 128) ∧ b = .int .u8 (if j = 1 then 191 else 191) ∧ contOk 144 191 (byt s i) (j - 1) = true) (fun _ _ k => 4 - (intOf k).toNat)
    case atStart => exact ⟨1, by omega, by omega, rfl, rfl, rfl, rfl⟩
    case round =>
      obtain ⟨j, hj1, hj2, rfl, rfl, rfl, hok⟩ := hrel
      have HO : Hid (contOk 144 191 (byt s i) (j - 1) = true) := hok
      clear hok
      rcases (show j = 1 ∨ j = 2 ∨ j = 3 ∨ j = 4 by omega) with rfl | rfl | rfl | rfl
      · have hb : i + 1 < s.size := by omega
        have HBk : Hid (byt s i 1 = (s[i + 1]).toNat) := byt_at s i 1 hb
        by_cases hbad : 144 ≤ (s[i + 1]).toNat ∧ (s[i + 1]).toNat ≤ 191
        · have t1 : decide (((s[i + 1]).toNat : Int) < 144) = false := by simp; omega
          have t2 : decide ((191 : Int) < ((s[i + 1]).toNat : Int)) = false := by simp; omega
          have HN : Hid (contOk 144 191 (byt s i) 1 = true) := by show contOk 144 191 (byt s i) 1 = true; rw [cont_one, HBk.out]; simp; omega
          clear hbad
          go_wp2
          go_round
          case rel => exact ⟨2, by omega, by omega, by go_num, by simp, by simp, HN.out⟩
          case measure => simp [intOf]
        · have HN : Hid (contOk 144 191 (byt s i) 1 = false) := by
            show contOk 144 191 (byt s i) 1 = false; rw [cont_one, HBk.out, Bool.eq_false_iff]; simp; omega
          have HR : Hid (runeF (s.size - i) (byt s i) = 0) := runeF_bad _ 4 144 191 1 _ H128.out HCl.out (by omega) HN.out
          by_cases hlo : (s[i + 1]).toNat < 144
          · have t1 : decide (((s[i + 1]).toNat : Int) < 144) = true := by simp; omega
            clear hbad
            go_wp2
            go_ret
            exact ⟨ret_i64R (by rw [HR.out]; rfl), rfl⟩
          · have t1 : decide (((s[i + 1]).toNat : Int) < 144) = false := by simp; omega
            have t2 : decide ((191 : Int) < ((s[i + 1]).toNat : Int)) = true := by simp; omega
            clear hbad
            go_wp2
            go_ret
            exact ⟨ret_i64R (by rw [HR.out]; rfl), rfl⟩
      · have hb : i + 2 < s.size := by omega
        have HBk : Hid (byt s i 2 = (s[i + 2]).toNat) := byt_at s i 2 hb
        by_cases hbad : 128 ≤ (s[i + 2]).toNat ∧ (s[i + 2]).toNat ≤ 191
        · have t1 : decide (((s[i + 2]).toNat : Int) < 128) = false := by simp; omega
          have t2 : decide ((191 : Int) < ((s[i + 2]).toNat : Int)) = false := by simp; omega
          have HN : Hid (contOk 144 191 (byt s i) 2 = true) := by show contOk 144 191 (byt s i) 2 = true; rw [cont_more, HBk.out]; have := HO.out; simp at this; simp [this]; omega
          clear hbad
          go_wp2
          go_round
          case rel => exact ⟨3, by omega, by omega, by go_num, by simp, by simp, HN.out⟩
          case measure => simp [intOf]
        · have HN : Hid (contOk 144 191 (byt s i) 2 = false) := by
            show contOk 144 191 (byt s i) 2 = false; rw [cont_more, HBk.out, Bool.eq_false_iff]; simp; omega
          have HR : Hid (runeF (s.size - i) (byt s i) = 0) := runeF_bad _ 4 144 191 2 _ H128.out HCl.out (by omega) HN.out
          by_cases hlo : (s[i + 2]).toNat < 128
          · have t1 : decide (((s[i + 2]).toNat : Int) < 128) = true := by simp; omega
            clear hbad
            go_wp2
            go_ret
            exact ⟨ret_i64R (by rw [HR.out]; rfl), rfl⟩
          · have t1 : decide (((s[i + 2]).toNat : Int) < 128) = false := by simp; omega
            have t2 : decide ((191 : Int) < ((s[i + 2]).toNat : Int)) = true := by simp; omega
            clear hbad
            go_wp2
            go_ret
            exact ⟨ret_i64R (by rw [HR.out]; rfl), rfl⟩
      · have hb : i + 3 < s.size := by omega
        have HBk : Hid (byt s i 3 = (s[i + 3]).toNat) := byt_at s i 3 hb
        by_cases hbad : 128 ≤ (s[i + 3]).toNat ∧ (s[i + 3]).toNat ≤ 191
        · have t1 : decide (((s[i + 3]).toNat : Int) < 128) = false := by simp; omega
          have t2 : decide ((191 : Int) < ((s[i + 3]).toNat : Int)) = false := by simp; omega
          have HN : Hid (contOk 144 191 (byt s i) 3 = true) := by show contOk 144 191 (byt s i) 3 = true; rw [cont_more, HBk.out]; have := HO.out; simp at this; simp [this]; omega
          clear hbad
          go_wp2
          go_round
          case rel => exact ⟨4, by omega, by omega, by go_num, by simp, by simp, HN.out⟩
          case measure => simp [intOf]
        · have HN : Hid (contOk 144 191 (byt s i) 3 = false) := by
            show contOk 144 191 (byt s i) 3 = false; rw [cont_more, HBk.out, Bool.eq_false_iff]; simp; omega
          have HR : Hid (runeF (s.size - i) (byt s i) = 0) := runeF_bad _ 4 144 191 3 _ H128.out HCl.out (by omega) HN.out
          by_cases hlo : (s[i + 3]).toNat < 128
          · have t1 : decide (((s[i + 3]).toNat : Int) < 128) = true := by simp; omega
            clear hbad
            go_wp2
            go_ret
            exact ⟨ret_i64R (by rw [HR.out]; rfl), rfl⟩
          · have t1 : decide (((s[i + 3]).toNat : Int) < 128) = false := by simp; omega
            have t2 : decide ((191 : Int) < ((s[i + 3]).toNat : Int)) = true := by simp; omega
            clear hbad
            go_wp2
            go_ret
            exact ⟨ret_i64R (by rw [HR.out]; rfl), rfl⟩
      · have HR : Hid (runeF (s.size - i) (byt s i) = 4) := runeF_ok _ 4 144 191 _ H128.out HCl.out (by decide) (by omega) HO.out
        go_wp2
        go_ret
        exact ⟨ret_i64R (by rw [HR.out]; rfl), rfl⟩

set_option maxRecDepth 100000 in
set_option maxHeartbeats 1000000 in
theorem rune_four (s : ByteArray) (i : Nat) (w : World) (hi : i < s.size) (hs : s.size ≤ 9223372036854775807) (h : 240 < (s[i]).toNat ∧ (s[i]).toNat < 244) :
    Calls Tryd.prog 122 #[.string s, .int .i64 i] w fun e w' => e = .returned (.int .i64 (runeF (s.size - i) (byt s i) : Nat)) ∧ w' = w := by
  have h1 : decide ((i : Int) < 0) = false := by simp
  have h2 : decide ((s.size : Int) ≤ (i : Int)) = false := by simp; omega
  have h2n : decide (s.size ≤ i) = false := by simp; omega
  have HB : Hid (byt s i 0 = (s[i]).toNat) := byt_at s i 0 hi
  have lt128 : decide (((s[i]).toNat : Int) < 128) = false := by simp; omega
  have g194 : decide ((194 : Int) ≤ ((s[i]).toNat : Int)) = true := by simp; omega
  have l223 : decide (((s[i]).toNat : Int) ≤ 223) = false := by simp; omega
  have g224 : decide ((224 : Int) ≤ ((s[i]).toNat : Int)) = true := by simp; omega
  have l239 : decide (((s[i]).toNat : Int) ≤ 239) = false := by simp; omega
  have g240 : decide ((240 : Int) ≤ ((s[i]).toNat : Int)) = true := by simp; omega
  have l244 : decide (((s[i]).toNat : Int) ≤ 244) = true := by simp; omega
  have e224 : (((s[i]).toNat : Int) == 224) = false := by rw [beq_eq_false_iff_ne]; omega
  have e237 : (((s[i]).toNat : Int) == 237) = false := by rw [beq_eq_false_iff_ne]; omega
  have e240 : (((s[i]).toNat : Int) == 240) = false := by rw [beq_eq_false_iff_ne]; omega
  have e244 : (((s[i]).toNat : Int) == 244) = false := by rw [beq_eq_false_iff_ne]; omega
  have HCl : Hid (cls (byt s i 0) = (4, 128, 191)) := by
    show cls (byt s i 0) = _
    rw [HB.out]; unfold cls; repeat (first | rw [if_pos (by omega)] | rw [if_neg (by omega)])
  have H128 : Hid (128 ≤ byt s i 0) := by show 128 ≤ byt s i 0; rw [HB.out]; omega
  clear h
  by_cases hn : s.size - i < 4
  · have hsz : decide ((s.size : Int) - (i : Int) < 4) = true := by simp; omega
    have HR : Hid (runeF (s.size - i) (byt s i) = 0) := runeF_short _ _ H128.out (by rw [HCl.out]; exact hn)
    go_enter Tryd.func122, Tryd.ntmps122
    go_wp2
    go_ret
    exact ⟨ret_i64R (by rw [HR.out]; rfl), rfl⟩
  · have hsz : decide ((s.size : Int) - (i : Int) < 4) = false := by simp; omega
    go_enter Tryd.func122, Tryd.ntmps122
    go_wp2
    go_loop [7, 8, 9] (fun a b k => ∃ j : Nat, 1 ≤ j ∧ j ≤ 4 ∧ k = .int .i64 j ∧ a = .int .u8 (if j = 1 then 128 else 128) ∧ b = .int .u8 (if j = 1 then 191 else 191) ∧ contOk 128 191 (byt s i) (j - 1) = true) (fun _ _ k => 4 - (intOf k).toNat)
    case atStart => exact ⟨1, by omega, by omega, rfl, rfl, rfl, rfl⟩
    case round =>
      obtain ⟨j, hj1, hj2, rfl, rfl, rfl, hok⟩ := hrel
      have HO : Hid (contOk 128 191 (byt s i) (j - 1) = true) := hok
      clear hok
      rcases (show j = 1 ∨ j = 2 ∨ j = 3 ∨ j = 4 by omega) with rfl | rfl | rfl | rfl
      · have hb : i + 1 < s.size := by omega
        have HBk : Hid (byt s i 1 = (s[i + 1]).toNat) := byt_at s i 1 hb
        by_cases hbad : 128 ≤ (s[i + 1]).toNat ∧ (s[i + 1]).toNat ≤ 191
        · have t1 : decide (((s[i + 1]).toNat : Int) < 128) = false := by simp; omega
          have t2 : decide ((191 : Int) < ((s[i + 1]).toNat : Int)) = false := by simp; omega
          have HN : Hid (contOk 128 191 (byt s i) 1 = true) := by show contOk 128 191 (byt s i) 1 = true; rw [cont_one, HBk.out]; simp; omega
          clear hbad
          go_wp2
          go_round
          case rel => exact ⟨2, by omega, by omega, by go_num, by simp, by simp, HN.out⟩
          case measure => simp [intOf]
        · have HN : Hid (contOk 128 191 (byt s i) 1 = false) := by
            show contOk 128 191 (byt s i) 1 = false; rw [cont_one, HBk.out, Bool.eq_false_iff]; simp; omega
          have HR : Hid (runeF (s.size - i) (byt s i) = 0) := runeF_bad _ 4 128 191 1 _ H128.out HCl.out (by omega) HN.out
          by_cases hlo : (s[i + 1]).toNat < 128
          · have t1 : decide (((s[i + 1]).toNat : Int) < 128) = true := by simp; omega
            clear hbad
            go_wp2
            go_ret
            exact ⟨ret_i64R (by rw [HR.out]; rfl), rfl⟩
          · have t1 : decide (((s[i + 1]).toNat : Int) < 128) = false := by simp; omega
            have t2 : decide ((191 : Int) < ((s[i + 1]).toNat : Int)) = true := by simp; omega
            clear hbad
            go_wp2
            go_ret
            exact ⟨ret_i64R (by rw [HR.out]; rfl), rfl⟩
      · have hb : i + 2 < s.size := by omega
        have HBk : Hid (byt s i 2 = (s[i + 2]).toNat) := byt_at s i 2 hb
        by_cases hbad : 128 ≤ (s[i + 2]).toNat ∧ (s[i + 2]).toNat ≤ 191
        · have t1 : decide (((s[i + 2]).toNat : Int) < 128) = false := by simp; omega
          have t2 : decide ((191 : Int) < ((s[i + 2]).toNat : Int)) = false := by simp; omega
          have HN : Hid (contOk 128 191 (byt s i) 2 = true) := by show contOk 128 191 (byt s i) 2 = true; rw [cont_more, HBk.out]; have := HO.out; simp at this; simp [this]; omega
          clear hbad
          go_wp2
          go_round
          case rel => exact ⟨3, by omega, by omega, by go_num, by simp, by simp, HN.out⟩
          case measure => simp [intOf]
        · have HN : Hid (contOk 128 191 (byt s i) 2 = false) := by
            show contOk 128 191 (byt s i) 2 = false; rw [cont_more, HBk.out, Bool.eq_false_iff]; simp; omega
          have HR : Hid (runeF (s.size - i) (byt s i) = 0) := runeF_bad _ 4 128 191 2 _ H128.out HCl.out (by omega) HN.out
          by_cases hlo : (s[i + 2]).toNat < 128
          · have t1 : decide (((s[i + 2]).toNat : Int) < 128) = true := by simp; omega
            clear hbad
            go_wp2
            go_ret
            exact ⟨ret_i64R (by rw [HR.out]; rfl), rfl⟩
          · have t1 : decide (((s[i + 2]).toNat : Int) < 128) = false := by simp; omega
            have t2 : decide ((191 : Int) < ((s[i + 2]).toNat : Int)) = true := by simp; omega
            clear hbad
            go_wp2
            go_ret
            exact ⟨ret_i64R (by rw [HR.out]; rfl), rfl⟩
      · have hb : i + 3 < s.size := by omega
        have HBk : Hid (byt s i 3 = (s[i + 3]).toNat) := byt_at s i 3 hb
        by_cases hbad : 128 ≤ (s[i + 3]).toNat ∧ (s[i + 3]).toNat ≤ 191
        · have t1 : decide (((s[i + 3]).toNat : Int) < 128) = false := by simp; omega
          have t2 : decide ((191 : Int) < ((s[i + 3]).toNat : Int)) = false := by simp; omega
          have HN : Hid (contOk 128 191 (byt s i) 3 = true) := by show contOk 128 191 (byt s i) 3 = true; rw [cont_more, HBk.out]; have := HO.out; simp at this; simp [this]; omega
          clear hbad
          go_wp2
          go_round
          case rel => exact ⟨4, by omega, by omega, by go_num, by simp, by simp, HN.out⟩
          case measure => simp [intOf]
        · have HN : Hid (contOk 128 191 (byt s i) 3 = false) := by
            show contOk 128 191 (byt s i) 3 = false; rw [cont_more, HBk.out, Bool.eq_false_iff]; simp; omega
          have HR : Hid (runeF (s.size - i) (byt s i) = 0) := runeF_bad _ 4 128 191 3 _ H128.out HCl.out (by omega) HN.out
          by_cases hlo : (s[i + 3]).toNat < 128
          · have t1 : decide (((s[i + 3]).toNat : Int) < 128) = true := by simp; omega
            clear hbad
            go_wp2
            go_ret
            exact ⟨ret_i64R (by rw [HR.out]; rfl), rfl⟩
          · have t1 : decide (((s[i + 3]).toNat : Int) < 128) = false := by simp; omega
            have t2 : decide ((191 : Int) < ((s[i + 3]).toNat : Int)) = true := by simp; omega
            clear hbad
            go_wp2
            go_ret
            exact ⟨ret_i64R (by rw [HR.out]; rfl), rfl⟩
      · have HR : Hid (runeF (s.size - i) (byt s i) = 4) := runeF_ok _ 4 128 191 _ H128.out HCl.out (by decide) (by omega) HO.out
        go_wp2
        go_ret
        exact ⟨ret_i64R (by rw [HR.out]; rfl), rfl⟩

set_option maxRecDepth 100000 in
set_option maxHeartbeats 1000000 in
theorem rune_f4 (s : ByteArray) (i : Nat) (w : World) (hi : i < s.size) (hs : s.size ≤ 9223372036854775807) (h : (s[i]).toNat = 244) :
    Calls Tryd.prog 122 #[.string s, .int .i64 i] w fun e w' => e = .returned (.int .i64 (runeF (s.size - i) (byt s i) : Nat)) ∧ w' = w := by
  have h1 : decide ((i : Int) < 0) = false := by simp
  have h2 : decide ((s.size : Int) ≤ (i : Int)) = false := by simp; omega
  have h2n : decide (s.size ≤ i) = false := by simp; omega
  have HB : Hid (byt s i 0 = (s[i]).toNat) := byt_at s i 0 hi
  have lt128 : decide (((s[i]).toNat : Int) < 128) = false := by simp; omega
  have g194 : decide ((194 : Int) ≤ ((s[i]).toNat : Int)) = true := by simp; omega
  have l223 : decide (((s[i]).toNat : Int) ≤ 223) = false := by simp; omega
  have g224 : decide ((224 : Int) ≤ ((s[i]).toNat : Int)) = true := by simp; omega
  have l239 : decide (((s[i]).toNat : Int) ≤ 239) = false := by simp; omega
  have g240 : decide ((240 : Int) ≤ ((s[i]).toNat : Int)) = true := by simp; omega
  have l244 : decide (((s[i]).toNat : Int) ≤ 244) = true := by simp; omega
  have e224 : (((s[i]).toNat : Int) == 224) = false := by rw [beq_eq_false_iff_ne]; omega
  have e237 : (((s[i]).toNat : Int) == 237) = false := by rw [beq_eq_false_iff_ne]; omega
  have e240 : (((s[i]).toNat : Int) == 240) = false := by rw [beq_eq_false_iff_ne]; omega
  have e244 : (((s[i]).toNat : Int) == 244) = true := by rw [beq_iff_eq]; omega
  have HCl : Hid (cls (byt s i 0) = (4, 128, 143)) := by
    show cls (byt s i 0) = _
    rw [HB.out]; unfold cls; repeat (first | rw [if_pos (by omega)] | rw [if_neg (by omega)])
  have H128 : Hid (128 ≤ byt s i 0) := by show 128 ≤ byt s i 0; rw [HB.out]; omega
  clear h
  by_cases hn : s.size - i < 4
  · have hsz : decide ((s.size : Int) - (i : Int) < 4) = true := by simp; omega
    have HR : Hid (runeF (s.size - i) (byt s i) = 0) := runeF_short _ _ H128.out (by rw [HCl.out]; exact hn)
    go_enter Tryd.func122, Tryd.ntmps122
    go_wp2
    go_ret
    exact ⟨ret_i64R (by rw [HR.out]; rfl), rfl⟩
  · have hsz : decide ((s.size : Int) - (i : Int) < 4) = false := by simp; omega
    go_enter Tryd.func122, Tryd.ntmps122
    go_wp2
    go_loop [7, 8, 9] (fun a b k => ∃ j : Nat, 1 ≤ j ∧ j ≤ 4 ∧ k = .int .i64 j ∧ a = .int .u8 (if j = 1 then 128 else 128) ∧ b = .int .u8 (if j = 1 then 143 else 191) ∧ contOk 128 143 (byt s i) (j - 1) = true) (fun _ _ k => 4 - (intOf k).toNat)
    case atStart => exact ⟨1, by omega, by omega, rfl, rfl, rfl, rfl⟩
    case round =>
      obtain ⟨j, hj1, hj2, rfl, rfl, rfl, hok⟩ := hrel
      have HO : Hid (contOk 128 143 (byt s i) (j - 1) = true) := hok
      clear hok
      rcases (show j = 1 ∨ j = 2 ∨ j = 3 ∨ j = 4 by omega) with rfl | rfl | rfl | rfl
      · have hb : i + 1 < s.size := by omega
        have HBk : Hid (byt s i 1 = (s[i + 1]).toNat) := byt_at s i 1 hb
        by_cases hbad : 128 ≤ (s[i + 1]).toNat ∧ (s[i + 1]).toNat ≤ 143
        · have t1 : decide (((s[i + 1]).toNat : Int) < 128) = false := by simp; omega
          have t2 : decide ((143 : Int) < ((s[i + 1]).toNat : Int)) = false := by simp; omega
          have HN : Hid (contOk 128 143 (byt s i) 1 = true) := by show contOk 128 143 (byt s i) 1 = true; rw [cont_one, HBk.out]; simp; omega
          clear hbad
          go_wp2
          go_round
          case rel => exact ⟨2, by omega, by omega, by go_num, by simp, by simp, HN.out⟩
          case measure => simp [intOf]
        · have HN : Hid (contOk 128 143 (byt s i) 1 = false) := by
            show contOk 128 143 (byt s i) 1 = false; rw [cont_one, HBk.out, Bool.eq_false_iff]; simp; omega
          have HR : Hid (runeF (s.size - i) (byt s i) = 0) := runeF_bad _ 4 128 143 1 _ H128.out HCl.out (by omega) HN.out
          by_cases hlo : (s[i + 1]).toNat < 128
          · have t1 : decide (((s[i + 1]).toNat : Int) < 128) = true := by simp; omega
            clear hbad
            go_wp2
            go_ret
            exact ⟨ret_i64R (by rw [HR.out]; rfl), rfl⟩
          · have t1 : decide (((s[i + 1]).toNat : Int) < 128) = false := by simp; omega
            have t2 : decide ((143 : Int) < ((s[i + 1]).toNat : Int)) = true := by simp; omega
            clear hbad
            go_wp2
            go_ret
            exact ⟨ret_i64R (by rw [HR.out]; rfl), rfl⟩
      · have hb : i + 2 < s.size := by omega
        have HBk : Hid (byt s i 2 = (s[i + 2]).toNat) := byt_at s i 2 hb
        by_cases hbad : 128 ≤ (s[i + 2]).toNat ∧ (s[i + 2]).toNat ≤ 191
        · have t1 : decide (((s[i + 2]).toNat : Int) < 128) = false := by simp; omega
          have t2 : decide ((191 : Int) < ((s[i + 2]).toNat : Int)) = false := by simp; omega
          have HN : Hid (contOk 128 143 (byt s i) 2 = true) := by show contOk 128 143 (byt s i) 2 = true; rw [cont_more, HBk.out]; have := HO.out; simp at this; simp [this]; omega
          clear hbad
          go_wp2
          go_round
          case rel => exact ⟨3, by omega, by omega, by go_num, by simp, by simp, HN.out⟩
          case measure => simp [intOf]
        · have HN : Hid (contOk 128 143 (byt s i) 2 = false) := by
            show contOk 128 143 (byt s i) 2 = false; rw [cont_more, HBk.out, Bool.eq_false_iff]; simp; omega
          have HR : Hid (runeF (s.size - i) (byt s i) = 0) := runeF_bad _ 4 128 143 2 _ H128.out HCl.out (by omega) HN.out
          by_cases hlo : (s[i + 2]).toNat < 128
          · have t1 : decide (((s[i + 2]).toNat : Int) < 128) = true := by simp; omega
            clear hbad
            go_wp2
            go_ret
            exact ⟨ret_i64R (by rw [HR.out]; rfl), rfl⟩
          · have t1 : decide (((s[i + 2]).toNat : Int) < 128) = false := by simp; omega
            have t2 : decide ((191 : Int) < ((s[i + 2]).toNat : Int)) = true := by simp; omega
            clear hbad
            go_wp2
            go_ret
            exact ⟨ret_i64R (by rw [HR.out]; rfl), rfl⟩
      · have hb : i + 3 < s.size := by omega
        have HBk : Hid (byt s i 3 = (s[i + 3]).toNat) := byt_at s i 3 hb
        by_cases hbad : 128 ≤ (s[i + 3]).toNat ∧ (s[i + 3]).toNat ≤ 191
        · have t1 : decide (((s[i + 3]).toNat : Int) < 128) = false := by simp; omega
          have t2 : decide ((191 : Int) < ((s[i + 3]).toNat : Int)) = false := by simp; omega
          have HN : Hid (contOk 128 143 (byt s i) 3 = true) := by show contOk 128 143 (byt s i) 3 = true; rw [cont_more, HBk.out]; have := HO.out; simp at this; simp [this]; omega
          clear hbad
          go_wp2
          go_round
          case rel => exact ⟨4, by omega, by omega, by go_num, by simp, by simp, HN.out⟩
          case measure => simp [intOf]
        · have HN : Hid (contOk 128 143 (byt s i) 3 = false) := by
            show contOk 128 143 (byt s i) 3 = false; rw [cont_more, HBk.out, Bool.eq_false_iff]; simp; omega
          have HR : Hid (runeF (s.size - i) (byt s i) = 0) := runeF_bad _ 4 128 143 3 _ H128.out HCl.out (by omega) HN.out
          by_cases hlo : (s[i + 3]).toNat < 128
          · have t1 : decide (((s[i + 3]).toNat : Int) < 128) = true := by simp; omega
            clear hbad
            go_wp2
            go_ret
            exact ⟨ret_i64R (by rw [HR.out]; rfl), rfl⟩
          · have t1 : decide (((s[i + 3]).toNat : Int) < 128) = false := by simp; omega
            have t2 : decide ((191 : Int) < ((s[i + 3]).toNat : Int)) = true := by simp; omega
            clear hbad
            go_wp2
            go_ret
            exact ⟨ret_i64R (by rw [HR.out]; rfl), rfl⟩
      · have HR : Hid (runeF (s.size - i) (byt s i) = 4) := runeF_ok _ 4 128 143 _ H128.out HCl.out (by decide) (by omega) HO.out
        go_wp2
        go_ret
        exact ⟨ret_i64R (by rw [HR.out]; rfl), rfl⟩

theorem rune_any (s : ByteArray) (i : Nat) (w : World) (hi : i < s.size) (hs : s.size ≤ 9223372036854775807) :
    Calls Tryd.prog 122 #[.string s, .int .i64 i] w fun e w' => e = .returned (.int .i64 (runeF (s.size - i) (byt s i) : Nat)) ∧ w' = w := by
  have hlt : (s[i]).toNat < 256 := UInt8.toNat_lt _
  rcases (show (s[i]).toNat < 128 ∨ (128 ≤ (s[i]).toNat ∧ (s[i]).toNat < 194) ∨ (245 ≤ (s[i]).toNat ∧ (s[i]).toNat < 256) ∨ (194 ≤ (s[i]).toNat ∧ (s[i]).toNat < 224) ∨ (s[i]).toNat = 224 ∨
      (224 < (s[i]).toNat ∧ (s[i]).toNat < 240 ∧ (s[i]).toNat ≠ 237) ∨ (s[i]).toNat = 237 ∨ (s[i]).toNat = 240 ∨ (240 < (s[i]).toNat ∧ (s[i]).toNat < 244) ∨ (s[i]).toNat = 244 by omega) with h | h | h | h | h | h | h | h | h | h
  · exact rune_ascii s i w hi hs h
  · exact rune_lowbad s i w hi hs h
  · exact rune_highbad s i w hi hs h
  · exact rune_two s i w hi hs h
  · exact rune_e0 s i w hi hs h
  · exact rune_three s i w hi hs h
  · exact rune_ed s i w hi hs h
  · exact rune_f0 s i w hi hs h
  · exact rune_four s i w hi hs h
  · exact rune_f4 s i w hi hs h
end Go.Proofs.YtjikibhhhchgeaaDoor

namespace Go.Proofs.YtjikibhhhchgeaaDoor
open Go.RowKit
set_option linter.unusedVariables false

theorem contOk_two (lo hi : Nat) (B : Nat → Nat) : contOk lo hi B 2 = true ↔ (lo ≤ B 1 ∧ B 1 ≤ hi) ∧ 128 ≤ B 2 ∧ B 2 ≤ 191 := by
  rw [cont_more lo hi 0 B, cont_one]; simp
theorem contOk_three (lo hi : Nat) (B : Nat → Nat) : contOk lo hi B 3 = true ↔ ((lo ≤ B 1 ∧ B 1 ≤ hi) ∧ 128 ≤ B 2 ∧ B 2 ≤ 191) ∧ 128 ≤ B 3 ∧ B 3 ≤ 191 := by
  rw [cont_more lo hi 1 B, Bool.and_eq_true, contOk_two]; simp
theorem contOk_one (lo hi : Nat) (B : Nat → Nat) : contOk lo hi B 1 = true ↔ lo ≤ B 1 ∧ B 1 ≤ hi := by
  rw [cont_one]; simp
/-- the decoder's step, by the class of the lead byte -/
theorem slow_class (n sz lo hi : Nat) (B : Nat → Nat) (hsz : sz = 2 ∨ sz = 3 ∨ sz = 4) :
    ((Lib.slowN n (B 0) (B 1) (B 2) (B 3) sz lo hi).1 = 65533 ∧ (Lib.slowN n (B 0) (B 1) (B 2) (B 3) sz lo hi).2 = 1 ↔ (n < sz ∨ contOk lo hi B (sz - 1) ≠ true)) ∧
    (¬ (n < sz ∨ contOk lo hi B (sz - 1) ≠ true) → (Lib.slowN n (B 0) (B 1) (B 2) (B 3) sz lo hi).2 = sz) := by
  unfold Lib.slowN
  rcases hsz with rfl | rfl | rfl
  · rw [show 2 - 1 = 1 from rfl, ne_eq, contOk_one]
    repeat' split
    all_goals simp
    all_goals omega
  · rw [show 3 - 1 = 2 from rfl, ne_eq, contOk_two]
    repeat' split
    all_goals simp
    all_goals omega
  · rw [show 4 - 1 = 3 from rfl, ne_eq, contOk_three]
    repeat' split
    all_goals simp
    all_goals omega
/-- the document's rune and the decoder's step -/
theorem rune_decode (n : Nat) (B : Nat → Nat) (hn : 1 ≤ n) (h0 : B 0 < 256) (h1 : B 1 < 256) (h2 : B 2 < 256) (h3 : B 3 < 256) :
    ((Lib.decodeN n (B 0) (B 1) (B 2) (B 3)).1 = 65533 ∧ (Lib.decodeN n (B 0) (B 1) (B 2) (B 3)).2 = 1 ↔ runeF n B = 0) ∧
    (runeF n B ≠ 0 → (Lib.decodeN n (B 0) (B 1) (B 2) (B 3)).2 = runeF n B) := by
  have key : ∀ sz lo hi, (sz = 2 ∨ sz = 3 ∨ sz = 4) → 128 ≤ B 0 → cls (B 0) = (sz, lo, hi) → Lib.slowN n (B 0) (B 1) (B 2) (B 3) sz lo hi = Lib.decodeN n (B 0) (B 1) (B 2) (B 3) →
      ((Lib.decodeN n (B 0) (B 1) (B 2) (B 3)).1 = 65533 ∧ (Lib.decodeN n (B 0) (B 1) (B 2) (B 3)).2 = 1 ↔ runeF n B = 0) ∧
      (runeF n B ≠ 0 → (Lib.decodeN n (B 0) (B 1) (B 2) (B 3)).2 = runeF n B) := by
    intro sz lo hi hsz h128 hc he
    obtain ⟨k1, k2⟩ := slow_class n sz lo hi B hsz
    rw [he] at k1 k2
    have hr : runeF n B = if n < sz ∨ contOk lo hi B (sz - 1) ≠ true then 0 else sz := by
      unfold runeF
      rw [if_neg (by omega), hc]
      simp only
      by_cases ha : n < sz
      · rw [if_pos (.inr ha), if_pos (.inl ha)]
      · rw [if_neg (by omega)]
        by_cases hb : contOk lo hi B (sz - 1) = true
        · rw [if_pos hb, if_neg (by simp [ha, hb])]
        · rw [if_neg hb, if_pos (.inr hb)]
    rw [hr]
    by_cases hbad : n < sz ∨ contOk lo hi B (sz - 1) ≠ true
    · rw [if_pos hbad]; exact ⟨⟨fun _ => rfl, fun _ => k1.2 hbad⟩, fun h => absurd rfl h⟩
    · rw [if_neg hbad]
      exact ⟨⟨fun h => absurd (k1.1 h) hbad, fun h => by omega⟩, fun _ => k2 hbad⟩
  rcases (show B 0 < 128 ∨ (128 ≤ B 0 ∧ B 0 < 194) ∨ (245 ≤ B 0 ∧ B 0 < 256) ∨ (194 ≤ B 0 ∧ B 0 < 224) ∨ B 0 = 224 ∨
      ((225 ≤ B 0 ∧ B 0 < 237) ∨ (238 ≤ B 0 ∧ B 0 < 240)) ∨ B 0 = 237 ∨ B 0 = 240 ∨ (241 ≤ B 0 ∧ B 0 < 244) ∨ B 0 = 244 by omega) with h | h | h | h | h | h | h | h | h | h
  · rw [runeF_one n B h]; unfold Lib.decodeN; rw [if_pos h]; exact ⟨⟨fun hh => by simp only at hh; omega, fun hh => by omega⟩, fun _ => rfl⟩
  · rw [runeF_none n B h.1 (by unfold cls; rw [if_pos h.2])]
    refine ⟨⟨fun _ => rfl, fun _ => ?_⟩, fun hh => absurd rfl hh⟩
    unfold Lib.decodeN
    repeat' split
    all_goals first | exact ⟨rfl, rfl⟩ | (exfalso; omega)
  · rw [runeF_none n B (by omega) (by unfold cls; repeat (first | rw [if_pos (by omega)] | rw [if_neg (by omega)]))]
    refine ⟨⟨fun _ => rfl, fun _ => ?_⟩, fun hh => absurd rfl hh⟩
    unfold Lib.decodeN
    repeat' split
    all_goals first | exact ⟨rfl, rfl⟩ | (exfalso; omega)
  · exact key 2 128 191 (by omega) (by omega) (by unfold cls; repeat (first | rw [if_pos (by omega)] | rw [if_neg (by omega)])) (Lib.slow_C2 _ _ _ _ _ hn h1 h2 h3 h)
  · exact key 3 160 191 (by omega) (by omega) (by unfold cls; repeat (first | rw [if_pos (by omega)] | rw [if_neg (by omega)])) (Lib.slow_E0 _ _ _ _ _ hn h1 h2 h3 h)
  · exact key 3 128 191 (by omega) (by omega) (by unfold cls; repeat (first | rw [if_pos (by omega)] | rw [if_neg (by omega)])) (Lib.slow_E1 _ _ _ _ _ hn h1 h2 h3 h)
  · exact key 3 128 159 (by omega) (by omega) (by unfold cls; repeat (first | rw [if_pos (by omega)] | rw [if_neg (by omega)])) (Lib.slow_ED _ _ _ _ _ hn h1 h2 h3 h)
  · exact key 4 144 191 (by omega) (by omega) (by unfold cls; repeat (first | rw [if_pos (by omega)] | rw [if_neg (by omega)])) (Lib.slow_F0 _ _ _ _ _ hn h1 h2 h3 h)
  · exact key 4 128 191 (by omega) (by omega) (by unfold cls; repeat (first | rw [if_pos (by omega)] | rw [if_neg (by omega)])) (Lib.slow_F1 _ _ _ _ _ hn h1 h2 h3 h)
  · exact key 4 128 143 (by omega) (by omega) (by unfold cls; repeat (first | rw [if_pos (by omega)] | rw [if_neg (by omega)])) (Lib.slow_F4 _ _ _ _ _ hn h1 h2 h3 h)

/-- a text: valid, and no byte 0 -/
def plainB (l : List UInt8) : Bool := Lib.validD l && decide (Lib.indexByte l 0 < 0)

theorem byt_lt (s : ByteArray) (i k : Nat) : byt s i k < 256 := UInt8.toNat_lt _
theorem step_at (s : ByteArray) (i : Nat) (hi : i < s.size) :
    ((Lib.decodeL (s.data.toList.drop i)).1 = 65533 ∧ (Lib.decodeL (s.data.toList.drop i)).2 = 1 ↔ runeF (s.size - i) (byt s i) = 0) ∧
    (runeF (s.size - i) (byt s i) ≠ 0 → (Lib.decodeL (s.data.toList.drop i)).2 = runeF (s.size - i) (byt s i)) := by
  rw [Lib.decodeL_drop, Lib.decode_at]
  exact rune_decode (s.size - i) (byt s i) (by omega) (byt_lt s i 0) (byt_lt s i 1) (byt_lt s i 2) (byt_lt s i 3)
end Go.Proofs.YtjikibhhhchgeaaDoor

namespace Go.Proofs.YtjikibhhhchgeaaDoor
open Go.RowKit
set_option linter.unusedVariables false

theorem index_neg (l : List UInt8) (c : UInt8) : Lib.indexByte l c < 0 ↔ c ∉ l := by
  induction l with
  | nil => simp [Lib.indexByte]
  | cons b l ih =>
    have hge := Lib.indexByte_ge l c
    simp only [Lib.indexByte]
    by_cases hb : b = c
    · subst hb; simp
    · rw [if_neg (by simpa using hb)]
      by_cases hi : Lib.indexByte l c = -1
      · rw [if_pos (by simpa using hi)]
        have : c ∉ l := ih.1 (by omega)
        simp [this, Ne.symm hb]
      · rw [if_neg (by simpa using hi)]
        have : ¬ c ∉ l := fun h => by have := ih.2 h; omega
        simp only [List.mem_cons, not_or]
        constructor
        · intro h; omega
        · intro h; exact absurd h.2 this
theorem plainB_eq (l : List UInt8) : plainB l = (Lib.validD l && decide ((0 : UInt8) ∉ l)) := by
  unfold plainB
  congr 1
  exact decide_eq_decide.2 (index_neg l 0)

theorem contOk_ge (lo hi : Nat) (B : Nat → Nat) (hlo : 128 ≤ lo) (k : Nat) (hk : 1 ≤ k) (h : contOk lo hi B k = true) : 128 ≤ B k := by
  match k, hk with
  | 1, _ => rw [cont_one] at h; simp at h; omega
  | k + 2, _ => rw [cont_more] at h; simp at h; omega
theorem cls_lo (c : Nat) : 128 ≤ (cls c).2.1 ∧ (cls c).1 ≤ 4 := by
  unfold cls; repeat' split
  all_goals simp
theorem ret_bool' {a b : Bool} (h : a = b) : Ending.returned (.bool a) = .returned (.bool b) := by rw [h]
theorem runeF_spec (n : Nat) (B : Nat → Nat) (hn : 1 ≤ n) (h : runeF n B ≠ 0) : runeF n B ≤ n ∧ ∀ j, 1 ≤ j → j < runeF n B → 128 ≤ B j := by
  unfold runeF at *
  by_cases h0 : B 0 < 128
  · rw [if_pos h0]; exact ⟨hn, fun j h1 h2 => by omega⟩
  · rw [if_neg h0] at h ⊢
    by_cases h1 : (cls (B 0)).1 = 0 ∨ n < (cls (B 0)).1
    · rw [if_pos h1] at h; exact absurd rfl h
    · rw [if_neg h1] at h ⊢
      by_cases h2 : contOk (cls (B 0)).2.1 (cls (B 0)).2.2 B ((cls (B 0)).1 - 1) = true
      · rw [if_pos h2]
        refine ⟨by omega, fun j hj1 hj2 => ?_⟩
        exact contOk_ge _ _ B (cls_lo _).1 j hj1 (contOk_le _ _ B j _ (by omega) h2)
      · rw [if_neg h2] at h; exact absurd rfl h

/-- what is left from place i on -/
def pl (s : ByteArray) (i : Nat) : Bool := plainB (s.data.toList.drop i)
theorem size_list (s : ByteArray) : s.data.toList.length = s.size := by simp
theorem drop_ne (s : ByteArray) (i : Nat) (hi : i < s.size) : s.data.toList.drop i ≠ [] := by
  intro h; have := congrArg List.length h; rw [List.length_drop, size_list] at this; simp at this; omega
theorem pl_end (s : ByteArray) (i : Nat) (hi : s.size ≤ i) : pl s i = true := by
  unfold pl; rw [List.drop_eq_nil_of_le (by rw [size_list]; exact hi)]; decide
theorem pl_bad (s : ByteArray) (i : Nat) (hi : i < s.size) (h : runeF (s.size - i) (byt s i) = 0) : pl s i = false := by
  unfold pl plainB
  rw [Lib.validD_step _ (drop_ne s i hi), if_pos ((step_at s i hi).1.2 h)]; rfl
theorem getElem_list (s : ByteArray) (i : Nat) (hi : i < s.size) : s.data.toList[i]'(by rw [size_list]; exact hi) = s[i] := by simp; rfl
theorem pl_zero (s : ByteArray) (i : Nat) (hi : i < s.size) (h : (s[i]).toNat = 0) : pl s i = false := by
  unfold pl
  rw [plainB_eq]
  have hz : s[i] = 0 := UInt8.toNat_inj.1 h
  have : (0 : UInt8) ∈ s.data.toList.drop i := by
    rw [List.drop_eq_getElem_cons (by rw [size_list]; exact hi), getElem_list s i hi, hz]; simp
  simp [this]
theorem pl_step (s : ByteArray) (i : Nat) (hi : i < s.size) (h : runeF (s.size - i) (byt s i) ≠ 0) (hz : (s[i]).toNat ≠ 0) : pl s i = pl s (i + runeF (s.size - i) (byt s i)) ∧ i + runeF (s.size - i) (byt s i) ≤ s.size := by
  obtain ⟨hle, hge⟩ := runeF_spec _ _ (by omega) h
  obtain ⟨k1, k2⟩ := step_at s i hi
  have k2 := k2 h
  generalize hr : runeF (s.size - i) (byt s i) = r at *
  refine ⟨?_, by omega⟩
  unfold pl
  rw [plainB_eq, plainB_eq, Lib.validD_step _ (drop_ne s i hi), if_neg (fun hh => h (k1.1 hh)), k2, List.drop_drop]
  congr 1
  apply decide_eq_decide.2
  have hsplit : s.data.toList.drop i = (s.data.toList.drop i).take r ++ s.data.toList.drop (i + r) := by
    rw [← List.drop_drop, List.take_append_drop]
  rw [hsplit, List.mem_append, not_or]
  constructor
  · exact fun hh => hh.2
  · refine fun hh => ⟨fun hm => ?_, hh⟩
    obtain ⟨j, hj, he⟩ := List.getElem_of_mem hm
    have hjr : j < r := by rw [List.length_take, List.length_drop, size_list] at hj; omega
    have hb : ((s.data.toList.drop i).take r)[j] = s[i + j]'(by omega) := by
      rw [List.getElem_take, List.getElem_drop, getElem_list s (i + j) (by omega)]
    rw [he] at hb
    by_cases hj0 : j = 0
    · subst hj0; exact hz (by rw [show s[i] = 0 from hb.symm]; rfl)
    · have := hge j (by omega) hjr
      rw [byt_at s i j (by omega), ← hb] at this
      simp at this

set_option maxRecDepth 100000 in
set_option maxHeartbeats 1000000 in
theorem refPlain_any (s : ByteArray) (w : World) (hs : s.size ≤ 9223372036854775807) :
    Calls Tryd.prog 116 #[.string s] w fun e w' => e = .returned (.bool (plainB s.data.toList)) ∧ w' = w := by
  have HP : Hid (pl s 0 = plainB s.data.toList) := by show pl s 0 = _; unfold pl; rw [List.drop_zero]
  go_enter Tryd.func116, Tryd.ntmps116
  go_wp2
  go_loop [3] (fun i => ∃ k : Nat, k ≤ s.size ∧ i = .int .i64 k ∧ pl s 0 = pl s k) (fun i => s.size - (intOf i).toNat)
  case atStart => exact ⟨0, Nat.zero_le _, rfl, rfl⟩
  case round =>
    obtain ⟨k, hk, rfl, hrel⟩ := hrel
    have HR : Hid (pl s 0 = pl s k) := hrel
    clear hrel
    by_cases hlt : k < s.size
    · have HC : Hid (Calls Tryd.prog 122 #[.string s, .int .i64 k] w fun e w' => e = .returned (.int .i64 (runeF (s.size - k) (byt s k) : Nat)) ∧ w' = w) := rune_any s k w hlt hs
      by_cases hr : runeF (s.size - k) (byt s k) = 0
      · have HF : Hid (pl s k = false) := pl_bad s k hlt hr
        rw [hr] at HC
        go_wp2_with fail
        refine HC.out.mono ?_
        rintro e w' ⟨rfl, hw⟩
        rw [hw]; clear hw
        go_wp2
        go_ret
        exact ⟨ret_bool' (by rw [← HP.out, HR.out, HF.out]), rfl⟩
      · by_cases hz : (s[k]).toNat = 0
        · have HF : Hid (pl s k = false) := pl_zero s k hlt hz
          have t1 : ((((runeF (s.size - k) (byt s k)) : Nat) : Int) == 0) = false := by rw [beq_eq_false_iff_ne]; omega
          have t2 : (((s[k]).toNat : Int) == 0) = true := by rw [beq_iff_eq]; omega
          clear hr hz
          generalize runeF (s.size - k) (byt s k) = r at *
          go_wp2_with fail
          refine HC.out.mono ?_
          rintro e w' ⟨rfl, hw⟩
          rw [hw]; clear hw
          go_wp2
          go_ret
          exact ⟨ret_bool' (by rw [← HP.out, HR.out, HF.out]), rfl⟩
        · have HF : Hid (pl s k = pl s (k + runeF (s.size - k) (byt s k)) ∧ k + runeF (s.size - k) (byt s k) ≤ s.size) := pl_step s k hlt hr hz
          have t1 : ((((runeF (s.size - k) (byt s k)) : Nat) : Int) == 0) = false := by rw [beq_eq_false_iff_ne]; omega
          have t2 : (((s[k]).toNat : Int) == 0) = false := by rw [beq_eq_false_iff_ne]; omega
          have hle := HF.out.2
          have hpos : 0 < runeF (s.size - k) (byt s k) := by omega
          clear hr hz
          generalize runeF (s.size - k) (byt s k) = r at *
          go_wp2_with fail
          refine HC.out.mono ?_
          rintro e w' ⟨rfl, hw⟩
          rw [hw]; clear hw
          go_wp2
          go_round
          case rel => exact ⟨k + r, hle, by go_num, HR.out.trans HF.out.1⟩
          case measure => simp [intOf]; omega
    · have HF : Hid (pl s k = true) := pl_end s k (by omega)
      go_wp2
      go_ret
      exact ⟨ret_bool' (by rw [← HP.out, HR.out, HF.out]), rfl⟩
end Go.Proofs.YtjikibhhhchgeaaDoor

namespace Go.Proofs
open Go.Shelf
def Tryd.lays137_ren : Go.Shelf.Ren := ⟨fun | 137 => 121 | 217 => 124 | 266 => 125 | n => n, fun | 9 => 9 | 5 => 5 | 3 => 3 | n => n, fun | n => n⟩
theorem Tryd.lays137 : Go.Proofs.Lays.n137 Tryd.prog Tryd.lays137_ren := {
  mixed := by kernel_rfl
  f137 := Tryd.func121.trans (congrArg some (by kernel_rfl))
  f217 := Tryd.func124.trans (congrArg some (by kernel_rfl))
  f266 := Tryd.func125.trans (congrArg some (by kernel_rfl))
  t3 := Tryd.underlying3
  a3 := Tryd.isAgg3
  z3 := Tryd.sizeOf3
  v3 := Tryd.zeroValue3
  t5 := Tryd.underlying5
  a5 := Tryd.isAgg5
  z5 := Tryd.sizeOf5
  v5 := Tryd.zeroValue5
  t9 := Tryd.underlying9
  a9 := Tryd.isAgg9
  z9 := Tryd.sizeOf9
  v9 := Tryd.zeroValue9 }
open Go.RowKit in
theorem Tryd.strings_IndexByte (s : ByteArray) (c : Int) (w : World) :
    Calls Tryd.prog 121 #[.string s, .int .u8 c] w fun e w' => e = .returned (.int .i64 (Lib.indexByte s.data.toList c.toNat.toUInt8)) ∧ w' = w := Any.strings_IndexByte Tryd.lays137 s c w
def Tryd.laysValid_ren : Go.Shelf.Ren := ⟨fun | 196 => 120 | 259 => 123 | n => n, fun | 9 => 9 | 4 => 4 | 3 => 3 | 5 => 5 | 12 => 12 | 119 => 202 | 0 => 0 | 46 => 141 | 139 => 205 | 138 => 204 | 53 => 23 | n => n, fun | 3 => 2 | 4 => 3 | n => n⟩
theorem Tryd.laysValid : Go.Proofs.Lays.n196 Tryd.prog Tryd.laysValid_ren := {
  mixed := by kernel_rfl
  f196 := Tryd.func120.trans (congrArg some (by kernel_rfl))
  f259 := Tryd.func123.trans (congrArg some (by kernel_rfl))
  t0 := Tryd.underlying0
  a0 := Tryd.isAgg0
  z0 := Tryd.sizeOf0
  v0 := Tryd.zeroValue0
  t3 := Tryd.underlying3
  a3 := Tryd.isAgg3
  z3 := Tryd.sizeOf3
  v3 := Tryd.zeroValue3
  t4 := Tryd.underlying4
  a4 := Tryd.isAgg4
  z4 := Tryd.sizeOf4
  v4 := Tryd.zeroValue4
  t5 := Tryd.underlying5
  a5 := Tryd.isAgg5
  z5 := Tryd.sizeOf5
  v5 := Tryd.zeroValue5
  t9 := Tryd.underlying9
  a9 := Tryd.isAgg9
  z9 := Tryd.sizeOf9
  v9 := Tryd.zeroValue9
  t12 := Tryd.underlying12
  a12 := Tryd.isAgg12
  z12 := Tryd.sizeOf12
  v12 := Tryd.zeroValue12
  t46 := Tryd.underlying141
  a46 := Tryd.isAgg141
  z46 := Tryd.sizeOf141
  v46 := Tryd.zeroValue141
  t53 := Tryd.underlying23
  a53 := Tryd.isAgg23
  z53 := Tryd.sizeOf23
  v53 := Tryd.zeroValue23
  t119 := Tryd.underlying202
  a119 := Tryd.isAgg202
  z119 := Tryd.sizeOf202
  t138 := Tryd.underlying204
  a138 := Tryd.isAgg204
  z138 := Tryd.sizeOf204
  v138 := Tryd.zeroValue204
  t139 := Tryd.underlying205
  a139 := Tryd.isAgg205
  z139 := Tryd.sizeOf205
  v139 := Tryd.zeroValue205
  g3 := by kernel_rfl
  g4 := by kernel_rfl }
end Go.Proofs

namespace Go.Proofs.YtjikibhhhchgeaaDoor
open Go.RowKit
set_option linter.unusedVariables false
set_option maxRecDepth 100000

def Tabs (w : World) : Prop := Lib.Utf8Tabs (Tryd.laysValid_ren.g 3) (Tryd.laysValid_ren.g 4) w
set_option maxRecDepth 100000 in
set_option maxHeartbeats 1000000 in
theorem plain_any (s : ByteArray) (w : World) (hs : s.size ≤ 9223372036854775807) (hT : Tabs w) :
    Calls Tryd.prog 114 #[.string s] w fun e w' => e = .returned (.bool (plainB s.data.toList)) ∧ Below w.heap.size w w' := by
  have HV : Hid (Calls Tryd.prog 120 #[.string s] w fun e w' => e = .returned (.bool (Lib.validD s.data.toList)) ∧ Below w.heap.size w w') := Any.utf8_ValidString Tryd.laysValid s w hs hT
  have HI : Hid (∀ w, Calls Tryd.prog 121 #[.string s, .int .u8 0] w fun e w' => e = .returned (.int .i64 (Lib.indexByte s.data.toList 0)) ∧ w' = w) := fun w => Tryd.strings_IndexByte s 0 w
  clear hT
  unfold plainB
  generalize Lib.indexByte s.data.toList 0 = x at *
  cases hv : Lib.validD s.data.toList with
  | true =>
    rw [hv] at HV
    clear hv
    go_enter Tryd.func114, Tryd.ntmps114
    go_wp2_with fail
    refine HV.out.mono ?_
    rintro e w1 ⟨rfl, hb⟩
    go_wp2_with fail
    refine (HI.out w1).mono ?_
    rintro e w2 ⟨rfl, hw⟩
    rw [hw]; clear hw
    go_wp2
    go_ret
    exact ⟨rfl, hb⟩
  | false =>
    rw [hv] at HV
    clear hv
    go_enter Tryd.func114, Tryd.ntmps114
    go_wp2_with fail
    refine HV.out.mono ?_
    rintro e w1 ⟨rfl, hb⟩
    go_wp2
    go_ret
    exact ⟨rfl, hb⟩
end Go.Proofs.YtjikibhhhchgeaaDoor

namespace Go.Proofs.YtjikibhhhchgeaaDoor
open Go.RowKit Go.Maps Go.Shelf
attribute [local go_sem] Oper.semAt_some
set_option linter.unusedVariables false
set_option linter.unusedSimpArgs false
set_option maxRecDepth 100000

/-- a row of the tables -/
structure Rw where
  t : Nat
  n : Nat
  s : List Nat
abbrev Rw.cells (x : Rw) : List Value := [.int .i64 (x.t : Int), .int .u32 (x.n : Int), .string (bstr x.s)]
def flat (l : List Rw) : List Value := l.flatMap Rw.cells
def hagL : List Rw := [⟨1, 1, [101, 120, 112, 111, 114, 116, 45, 110, 97, 109, 101]⟩, ⟨1, 2, [97, 98, 111, 114, 116]⟩, ⟨1, 3, [108, 105, 115, 116]⟩, ⟨1, 5, [115, 116, 97, 114, 116, 116, 108, 115]⟩, ⟨1, 6, [105, 110, 102, 111]⟩, ⟨1, 7, [103, 111]⟩, ⟨1, 8, [115, 116, 114, 117, 99, 116, 117, 114, 101, 100, 45, 114, 101, 112, 108, 121]⟩, ⟨1, 9, [108, 105, 115, 116, 45, 109, 101, 116, 97, 45, 99, 111, 110, 116, 101, 120, 116]⟩, ⟨1, 10, [115, 101, 116, 45, 109, 101, 116, 97, 45, 99, 111, 110, 116, 101, 120, 116]⟩, ⟨1, 11, [101, 120, 116, 101, 110, 100, 101, 100, 45, 104, 101, 97, 100, 101, 114, 115]⟩, ⟨2, 1, [97, 99, 107]⟩, ⟨2, 2, [115, 101, 114, 118, 101, 114]⟩, ⟨2, 3, [105, 110, 102, 111]⟩, ⟨2, 4, [109, 101, 116, 97, 45, 99, 111, 110, 116, 101, 120, 116]⟩, ⟨2, 2147483649, [117, 110, 115, 117, 112]⟩, ⟨2, 2147483650, [112, 111, 108, 105, 99, 121]⟩, ⟨2, 2147483651, [105, 110, 118, 97, 108, 105, 100]⟩, ⟨2, 2147483652, [112, 108, 97, 116, 102, 111, 114, 109]⟩, ⟨2, 2147483653, [116, 108, 115, 45, 114, 101, 113, 100]⟩, ⟨2, 2147483654, [117, 110, 107, 110, 111, 119, 110]⟩, ⟨2, 2147483655, [115, 104, 117, 116, 100, 111, 119, 110]⟩, ⟨2, 2147483656, [98, 108, 111, 99, 107, 45, 115, 105, 122, 101, 45, 114, 101, 113, 100]⟩, ⟨2, 2147483657, [116, 111, 111, 45, 98, 105, 103]⟩, ⟨2, 2147483658, [101, 120, 116, 45, 104, 101, 97, 100, 101, 114, 45, 114, 101, 113, 100]⟩, ⟨3, 0, [101, 120, 112, 111, 114, 116]⟩, ⟨3, 1, [110, 97, 109, 101]⟩, ⟨3, 2, [100, 101, 115, 99, 114, 105, 112, 116, 105, 111, 110]⟩, ⟨3, 3, [98, 108, 111, 99, 107, 45, 115, 105, 122, 101]⟩]
def traL : List Rw := [⟨4, 0, [114, 101, 97, 100]⟩, ⟨4, 1, [119, 114, 105, 116, 101]⟩, ⟨4, 2, [100, 105, 115, 99]⟩, ⟨4, 3, [102, 108, 117, 115, 104]⟩, ⟨4, 4, [116, 114, 105, 109]⟩, ⟨4, 5, [99, 97, 99, 104, 101]⟩, ⟨4, 6, [119, 114, 105, 116, 101, 45, 122, 101, 114, 111, 101, 115]⟩, ⟨4, 7, [98, 108, 111, 99, 107, 45, 115, 116, 97, 116, 117, 115]⟩, ⟨5, 0, [110, 111, 110, 101]⟩, ⟨5, 1, [100, 97, 116, 97]⟩, ⟨5, 2, [104, 111, 108, 101]⟩, ⟨5, 5, [115, 116, 97, 116, 117, 115]⟩, ⟨5, 6, [115, 116, 97, 116, 117, 115, 45, 54, 52]⟩, ⟨5, 32769, [101, 114, 114, 111, 114]⟩, ⟨5, 32770, [101, 114, 114, 111, 114, 45, 97, 116]⟩, ⟨6, 0, [111, 107]⟩, ⟨6, 1, [101, 112, 101, 114, 109]⟩, ⟨6, 5, [101, 105, 111]⟩, ⟨6, 12, [101, 110, 111, 109, 101, 109]⟩, ⟨6, 22, [101, 105, 110, 118, 97, 108]⟩, ⟨6, 28, [101, 110, 111, 115, 112, 99]⟩, ⟨6, 75, [101, 111, 118, 101, 114, 102, 108, 111, 119]⟩, ⟨6, 95, [101, 110, 111, 116, 115, 117, 112]⟩, ⟨6, 108, [101, 115, 104, 117, 116, 100, 111, 119, 110]⟩, ⟨7, 1, [98, 97, 115, 101, 58, 97, 108, 108, 111, 99, 97, 116, 105, 111, 110]⟩, ⟨7, 2, [115, 112, 105, 110, 100, 108, 101, 58, 117, 110, 115, 97, 118, 101, 100]⟩, ⟨7, 3, [115, 112, 105, 110, 100, 108, 101, 58, 100, 105, 114, 116, 121]⟩]
def allL : List Rw := hagL ++ traL
theorem flat_take : ∀ (l : List Rw) (k : Nat) (x : Rw), l[k]? = some x → ((flat l).drop (3 * k)).take 3 = x.cells
  | [], k, x, h => by simp at h
  | y :: l, 0, x, h => by simp at h; subst h; rfl
  | y :: l, k + 1, x, h => by
    have := flat_take l k x (by simpa using h)
    have e : (flat (y :: l)).drop (3 * (k + 1)) = (flat l).drop (3 * k) := by
      rw [show 3 * (k + 1) = 3 * k + 1 + 1 + 1 by omega]; rfl
    rw [e]; exact this
abbrev TRow : TypeId := 173
abbrev Rw.val (x : Rw) : Value := .agg #[.int .i64 (x.t : Int), .int .u32 (x.n : Int), .string (bstr x.s)]
theorem infoRow : (Tryd.prog.info? TRow).map (·.size) = some 3 := by kernel_rfl
theorem run_index_row {t : TypeId} {m : Nat} (ht : Tryd.prog.underlying t = some (.array m TRow)) (l : List Rw) (k : Nat) (x : Rw) (hx : l[k]? = some x) (hm : l.length = m) (w : World) :
    (Instr.index t (.agg (flat l).toArray) (.int .i64 (k : Int))).run Tryd.prog w = .ok x.val w := by
  have hk : k < m := by rw [← hm]; exact (List.getElem?_eq_some_iff.1 hx).1
  have h1 : (0 : Int) ≤ (k : Int) ∧ (k : Int) < (m : Int) := by omega
  have h2 := flat_take l k x hx
  cases hq : Tryd.prog.info? TRow with
  | none => have := infoRow; rw [hq] at this; simp at this
  | some i =>
    have hs : i.size = 3 := by have := infoRow; rw [hq] at this; simpa using this
    have hagg : (isAgg TRow).run Tryd.prog w = .ok true w := by
      unfold isAgg
      rw [Sem.run_bind, run_underlying Tryd.underlying173 w]
      rfl
    simp [Instr.index, run_underlying ht, asIntOf, h1.1, hk, part, hagg, sizeOf, typeInfo, hq, hs, Sem.run_bind]
    rw [Nat.mul_comm]; exact h2
/-- the two tables lie in memory -/
structure Tb (w : World) : Prop where
  h : ∃ t fr, w.heap[0]? = some (.cells (flat hagL).toArray t fr)
  t : ∃ t fr, w.heap[1]? = some (.cells (flat traL).toArray t fr)
theorem Tb.lt0 {w : World} (h : Tb w) : 0 < w.heap.size := by obtain ⟨t, fr, h⟩ := h.h; exact (Array.getElem?_eq_some_iff.1 h).1
theorem Tb.lt1 {w : World} (h : Tb w) : 1 < w.heap.size := by obtain ⟨t, fr, h⟩ := h.t; exact (Array.getElem?_eq_some_iff.1 h).1
theorem Tb.later {w w' : World} (h : Tb w) (hb : Below w.heap.size w w') : Tb w' := by
  have h0 := h.lt0
  have h1 := h.lt1
  obtain ⟨⟨t, fr, ha⟩, ⟨t', fr', hb'⟩⟩ := h
  exact ⟨⟨t, fr, (hb.block _ h0).trans ha⟩, ⟨t', fr', (hb.block _ h1).trans hb'⟩⟩
/-- what the ranging's body must leave: the second table -/
def KpT (W W' : World) : Prop := W'.heap[1]? = W.heap[1]?
theorem kpT_t {A B C : World} (h : KpT A B) (k : KpT B C) : KpT A C := Eq.trans k h
theorem hagL_len : hagL.length = 28 := rfl
theorem traL_len : traL.length = 27 := rfl
theorem infoHag : (Tryd.prog.info? 194).map (·.size) = some (flat hagL).toArray.size := by kernel_rfl
theorem infoTra : (Tryd.prog.info? 195).map (·.size) = some (flat traL).toArray.size := by kernel_rfl
theorem wpListIn_load_row {F : Fence} {nF : Nat} {P : Program} {ops : Array Oper} {rest : List Oper} {o : Oper} {a : Act} {w : World} {Q : Exit → Act → World → Prop} (hgd : o.guard = none) (ty : TypeId) (x : Operand) (ho : o.op = .load ty x)
    (g : Nat) (hx : a.eval x = .pointer (some ⟨g, 0, none⟩)) (t : TypeId) (cs : Array Value) (fr : Nat × Nat) (d : TypeDesc) (hg : w.heap[g]? = some (.cells cs t fr))
    (hu : P.underlying ty = some d) (hd : (match d with | .struct _ | .array _ _ => true | _ => false) = true) (hi : (P.info? ty).map (·.size) = some cs.size)
    (h : wpListIn F nF P ops Q rest (a.put o.dst (.agg cs)) w) : wpListIn F nF P ops Q (o :: rest) a w := by
  refine wpListIn_plain hgd fun K hK => ?_
  unfold Oper.wpIn
  refine ⟨by simp [Oper.about, ho], ?_⟩
  rw [Oper.semAt_plain F _ _ (by rw [ho]; intro c hc'; cases hc')]
  simp only [execOp, ho, hx, Instr.loadAt, Instr.sureAddr, Sem.run_bind, Sem.run_pure, Result.andThen_ok, run_loadVar_row w g t ty cs fr d hg hu hd hi]
  exact hK _ _ h
set_option maxHeartbeats 8000000 in
/-- what a ranging over the rows gives -/
theorem rows_seq (n : Nat) (hn : 2 ≤ n) {w : World} (hT : Tb w) :
    SeqStopsK Fence.wide n Tryd.prog 101 #[] (fun x : Rw => #[x.val]) KpT (fun xs => xs = allL) (fun pre => ∃ rest, allL = pre ++ rest) allL.length w := by
  intro l J Jx W hW hJ hJx hY h0
  obtain ⟨⟨th, frh, hh⟩, ⟨tt, frt, ht⟩⟩ := hT.later hW
  obtain ⟨CH, hCH⟩ : ∃ C, C = (flat hagL).toArray := ⟨_, rfl⟩
  obtain ⟨CT, hCT⟩ : ∃ C, C = (flat traL).toArray := ⟨_, rfl⟩
  have IH : Hid (∀ (k : Nat) (x : Rw), hagL[k]? = some x → ∀ w, (Instr.index 194 (.agg CH) (.int .i64 (k : Int))).run Tryd.prog w = .ok x.val w) := fun k x hx w => by rw [hCH]; exact run_index_row Tryd.underlying194 hagL k x hx rfl w
  have IT : Hid (∀ (k : Nat) (x : Rw), traL[k]? = some x → ∀ w, (Instr.index 195 (.agg CT) (.int .i64 (k : Int))).run Tryd.prog w = .ok x.val w) := fun k x hx w => by rw [hCT]; exact run_index_row Tryd.underlying195 traL k x hx rfl w
  have ZH : Hid ((Tryd.prog.info? 194).map (·.size) = some CH.size) := by rw [hCH]; exact infoHag
  have ZT : Hid ((Tryd.prog.info? 195).map (·.size) = some CT.size) := by rw [hCT]; exact infoTra
  rw [← hCH] at hh
  rw [← hCT] at ht
  have HH : Hid (W.heap[0]? = some (.cells CH th frh)) := hh
  have HT : Hid (W.heap[1]? = some (.cells CT tt frt)) := ht
  have HJ0 : Hid (J [] W) := h0
  have HJ : Hid (AbidesFrom W.heap.size J) := hJ
  have HYY : Hid _ := hY
  have hT1 : 1 < W.heap.size := (Array.getElem?_eq_some_iff.1 ht).1
  clear hh ht hCH hCT h0 hJ hT hJx hY
  have hf : Fence.wide.fn 101 := trivial
  refine callsIn_of_wp Tryd.func101 rfl hf ?_ rfl
  simp only [Tryd.ntmps101, List.size_toArray, List.length_cons, List.length_nil, Nat.reduceAdd, Nat.reduceSub, Array.replicate_succ, Array.replicate_zero, List.push_toArray, List.append_toArray, List.nil_append, List.cons_append, List.append_nil]
  have h1 : 1 ≤ n := by omega
  have h1' : 1 ≤ n - 1 := by omega
  gi_wp2_with (refine wpListIn_load_row rfl 194 _ rfl 0 rfl th CH frh _ HH.out Tryd.underlying194 rfl ZH.out ?_)
  gi_loopw [7] (fun i wr => ∃ (k : Nat), i = .int .i64 k ∧ k ≤ 28 ∧ Hid (wr.heap[1]? = some (.cells CT tt frt)) ∧ Hid (J (hagL.take k) wr)) (fun i _ => 28 - (intOf i).toNat)
  case atStart => exact ⟨0, rfl, Nat.zero_le _, HT, HJ0⟩
  case round =>
    obtain ⟨k, rfl, hk, HTk, HJk⟩ := hrel
    by_cases hlt : k < 28
    · obtain ⟨x, hx⟩ : ∃ x, hagL[k]? = some x := ⟨_, List.getElem?_eq_getElem (by rw [hagL_len]; omega)⟩
      have ix := IH.out k x hx
      have hkz : (k : Int) < 28 := by omega
      have HJ2 : J (hagL.take k) (wr.alloc (.cells #[.int .i64 (x.t : Int), .int .u32 (x.n : Int), .string (bstr x.s)] TRow)) := HJ.out (hagL.take k) wr _ none HJk.out ⟨rfl, rfl, rfl, by simp, fun g hg _ => Below.heap_alloc _ _ _ hg⟩ (fun r e => by cases e)
      have hlen : (hagL.take k).length < allL.length := by rw [List.length_take, hagL_len]; unfold allL; rw [List.length_append, hagL_len]; omega
      obtain ⟨fn, tmps, assign, body, hy, hR⟩ := HYY.out (hagL.take k) x _ HJ2 hlen
      have HE : Hid ((hagL.take k) ++ [x] = hagL.take (k + 1)) := by
        show _ = _
        rw [List.take_add_one, hx]; rfl
      rw [HE.out] at hR
      have HT2 : Hid ((wr.alloc (.cells #[.int .i64 (x.t : Int), .int .u32 (x.n : Int), .string (bstr x.s)] TRow)).heap[1]? = some (.cells CT tt frt)) := (Below.heap_alloc _ _ _ ((Array.getElem?_eq_some_iff.1 HTk.out).1)).trans HTk.out
      clear hx hlen HJ2
      gi_wp2
      refine hR.mono ?_
      rintro e W3 (⟨rfl, hJ3, hk3⟩ | ⟨rfl, hJx3⟩)
      · have HB3 : Hid (W3.heap[1]? = some (.cells CT tt frt)) := hk3.trans HT2.out
        have HJ3 : Hid _ := hJ3
        clear hJ3 hk3
        gi_wp2
        go_roundw
        case rel => exact ⟨k + 1, by go_num, by omega, HB3, HJ3⟩
        case measure => simp [intOf]; omega
      · have HX3 : Hid _ := hJx3
        clear hJx3
        gi_wp2
        refine bodyPost_ret (results_none rfl _ _ _) rfl ?_
        exact ⟨⟨_, rfl⟩, .inr ⟨_, ⟨hagL.drop (k + 1) ++ traL, by unfold allL; rw [← List.append_assoc, List.take_append_drop]⟩, HX3.out⟩⟩
    · obtain rfl : k = 28 := by omega
      have HE : Hid (hagL.take 28 = hagL) := rfl
      have HJh : Hid (J hagL wr) := by have := HJk.out; rw [HE.out] at this; exact this
      clear HJk HE
      gi_wp2_with (refine wpListIn_load_row rfl 195 _ rfl 1 rfl tt CT frt _ HTk.out Tryd.underlying195 rfl ZT.out ?_)
      gi_loopw [16] (fun i wr => ∃ (k : Nat), i = .int .i64 k ∧ k ≤ 27 ∧ Hid (wr.heap[1]? = some (.cells CT tt frt)) ∧ Hid (J (hagL ++ traL.take k) wr)) (fun i _ => 27 - (intOf i).toNat)
      case atStart => exact ⟨0, rfl, Nat.zero_le _, HTk, by simpa using HJh⟩
      case round =>
        clear HTk HJh
        obtain ⟨k, rfl, hk, HTk, HJk⟩ := hrel
        by_cases hlt : k < 27
        · obtain ⟨x, hx⟩ : ∃ x, traL[k]? = some x := ⟨_, List.getElem?_eq_getElem (by rw [traL_len]; omega)⟩
          have ix := IT.out k x hx
          have hkz : (k : Int) < 27 := by omega
          have HJ2 : J (hagL ++ traL.take k) (wr.alloc (.cells #[.int .i64 (x.t : Int), .int .u32 (x.n : Int), .string (bstr x.s)] TRow)) := HJ.out (hagL ++ traL.take k) wr _ none HJk.out ⟨rfl, rfl, rfl, by simp, fun g hg _ => Below.heap_alloc _ _ _ hg⟩ (fun r e => by cases e)
          have hlen : (hagL ++ traL.take k).length < allL.length := by unfold allL; rw [List.length_append, List.length_append, List.length_take, traL_len]; omega
          obtain ⟨fn, tmps, assign, body, hy, hR⟩ := HYY.out (hagL ++ traL.take k) x _ HJ2 hlen
          have HE : Hid ((hagL ++ traL.take k) ++ [x] = hagL ++ traL.take (k + 1)) := by
            show _ = _
            rw [List.append_assoc, List.take_add_one, hx]; rfl
          rw [HE.out] at hR
          have HT2 : Hid ((wr.alloc (.cells #[.int .i64 (x.t : Int), .int .u32 (x.n : Int), .string (bstr x.s)] TRow)).heap[1]? = some (.cells CT tt frt)) := (Below.heap_alloc _ _ _ ((Array.getElem?_eq_some_iff.1 HTk.out).1)).trans HTk.out
          clear hx hlen HJ2
          gi_wp2
          refine hR.mono ?_
          rintro e W3 (⟨rfl, hJ3, hk3⟩ | ⟨rfl, hJx3⟩)
          · have HB3 : Hid (W3.heap[1]? = some (.cells CT tt frt)) := hk3.trans HT2.out
            have HJ3 : Hid _ := hJ3
            clear hJ3 hk3
            gi_wp2
            go_roundw
            case rel => exact ⟨k + 1, by go_num, by omega, HB3, HJ3⟩
            case measure => simp [intOf]; omega
          · have HX3 : Hid _ := hJx3
            clear hJx3
            gi_wp2
            refine bodyPost_ret (results_none rfl _ _ _) rfl ?_
            exact ⟨⟨_, rfl⟩, .inr ⟨_, ⟨traL.drop (k + 1), by unfold allL; rw [List.append_assoc, List.take_append_drop]⟩, HX3.out⟩⟩
        · obtain rfl : k = 27 := by omega
          have HE : Hid (hagL ++ traL.take 27 = allL) := rfl
          have HJh : Hid (J allL wr) := by have := HJk.out; rw [HE.out] at this; exact this
          clear HJk HE
          gi_wp2
          go_end0
          exact ⟨⟨_, rfl⟩, .inl ⟨_, rfl, HJh.out⟩⟩
end Go.Proofs.YtjikibhhhchgeaaDoor

namespace Go.Proofs.YtjikibhhhchgeaaDoor
open Go.RowKit Go.Maps Go.Shelf
attribute [local go_sem] Oper.semAt_some
set_option linter.unusedVariables false
set_option linter.unusedSimpArgs false
set_option maxRecDepth 100000

theorem results_cell1 {fn : Func} {p : Tmp} {tp : TypeId} (h : fn.results = #[.cell p tp]) (tmps : Array Value) (P : Program) (w : World) :
    (results fn tmps).run P w = ((asAddr (tmps.getD p undef)).run P w).andThen fun a w₁ => (loadVar tp a).run P w₁ := by
  simp only [results, h]
  simp [Sem.run_bind, Result.andThen]
theorem results_cell2 {fn : Func} {p q : Tmp} {tp tq : TypeId} (h : fn.results = #[.cell p tp, .cell q tq]) (tmps : Array Value) (P : Program) (w : World) :
    (results fn tmps).run P w = ((asAddr (tmps.getD p undef)).run P w).andThen fun a w₁ => ((loadVar tp a).run P w₁).andThen fun v w₂ => ((asAddr (tmps.getD q undef)).run P w₂).andThen fun b w₃ => ((loadVar tq b).run P w₃).andThen fun u w₄ => .ok (.tuple #[v, u]) w₄ := by
  simp only [results, h]
  simp [Sem.run_bind, Result.andThen]
theorem load_str {w : World} {a : Addr} {x : ByteArray} (h : w.cell? a = some (.string x)) : (loadVar 9 a).run Tryd.prog w = .ok (.string x) w := by
  simp [loadVar, go_sem, h]
theorem load_u32 {w : World} {a : Addr} {x : Int} (h : w.cell? a = some (.int .u32 x)) : (loadVar 24 a).run Tryd.prog w = .ok (.int .u32 x) w := by
  simp [loadVar, go_sem, h]
theorem load_bool {w : World} {a : Addr} {x : Bool} (h : w.cell? a = some (.bool x)) : (loadVar 4 a).run Tryd.prog w = .ok (.bool x) w := by
  simp [loadVar, go_sem, h]
theorem bytes_ne {p q : ByteArray} (h : p ≠ q) : (p.toList == q.toList) = false := by
  cases hb : (p.toList == q.toList)
  · rfl
  · exfalso
    apply h
    have e : p.data.toList = q.data.toList := by rw [← ByteArray.toList_eq, ← ByteArray.toList_eq]; simpa using hb
    cases p; cases q
    simp only at e
    rw [Array.toList_inj] at e
    rw [e]
theorem asAddr_some {P : Program} (a : Addr) (w : World) : (asAddr (.pointer (some a))).run P w = .ok a w := rfl
/-- a box of cells stays -/
theorem cells_own {B b : Nat} {cs : Array Value} {t : TypeId} {fr : Nat × Nat} : OwnFrom B (fun (_ : Unit) W => W.heap[b]? = some (.cells cs t fr)) := fun s A A' row h hg hr => by
  have hlt := (Array.getElem?_eq_some_iff.1 h).1
  refine (hg.block b hlt ?_).trans h
  intro e
  obtain ⟨_, o, ho, hc⟩ := hr b e.symm
  rw [h] at ho
  cases ho
  simp [Obj.isCells] at hc
theorem kpT_b {w : World} (hT : 1 < w.heap.size) (W : World) (l : Nat) (o o' : Obj) (hl : w.heap.size ≤ l) (_ : W.heap[l]? = some o) (_ : o.isCells = false) (_ : o.isWalk = false) : KpT W (W.putObj l o') := World.putObj_heap_other (by omega)
/-- which row a name or a number is asked of -/
def hitN (T : Int) (n : Nat) (x : Rw) : Bool := decide ((x.t : Int) = T) && decide (x.n = n)
def hitS (T : Int) (s : ByteArray) (x : Rw) : Bool := decide ((x.t : Int) = T) && decide (bstr x.s = s)
def nameOf (T : Int) (n : Nat) : ByteArray := match allL.find? (hitN T n) with | some x => bstr x.s | none => ⟨#[]⟩
def numOf (T : Int) (s : ByteArray) : Nat × Bool := match allL.find? (hitS T s) with | some x => (x.n, true) | none => (0, false)
theorem find_at {α : Type} (p : α → Bool) : ∀ (pre : List α) (x : α) (rest : List α), (∀ y ∈ pre, p y = false) → p x = true → (pre ++ [x] ++ rest).find? p = some x
  | [], x, rest, _, h => by simp [h]
  | y :: pre, x, rest, h, hx => by
    have h1 := h y (.head _)
    have := find_at p pre x rest (fun z hz => h z (.tail _ hz)) hx
    simp only [List.cons_append, List.find?_cons, h1]
    exact this
theorem find_none {α : Type} (p : α → Bool) (l : List α) (h : ∀ y ∈ l, p y = false) : l.find? p = none := List.find?_eq_none.2 fun y hy => by rw [h y hy]; simp
theorem load_one {w : World} {a : Addr} {x : ByteArray} (h : w.cell? a = some (.string x)) :
    (((asAddr (.pointer (some a))).run Tryd.prog w).andThen fun a w₁ => (loadVar 9 a).run Tryd.prog w₁) = Result.ok (.string x) w := by
  rw [asAddr_some]
  simp only [Result.andThen]
  exact load_str h
theorem load_two {w : World} {a b : Addr} {x : Int} {y : Bool} (h : w.cell? a = some (.int .u32 x)) (h' : w.cell? b = some (.bool y)) :
    (((asAddr (.pointer (some a))).run Tryd.prog w).andThen fun a w₁ => ((loadVar 24 a).run Tryd.prog w₁).andThen fun v w₂ => ((asAddr (.pointer (some b))).run Tryd.prog w₂).andThen fun b w₃ => ((loadVar 4 b).run Tryd.prog w₃).andThen fun u w₄ => Result.ok (Value.tuple #[v, u]) w₄) = Result.ok (Value.tuple #[.int .u32 x, .bool y]) w := by
  rw [asAddr_some]
  simp only [Result.andThen]
  rw [load_u32 h]
  simp only
  rw [asAddr_some]
  simp only
  rw [load_bool h']
theorem put_boxed {W : World} {b : Nat} {t : TypeId} {v : Value} (h : Boxed W b t v) (u : Value) : (W.setCell ⟨b, 0, none⟩ u).heap[b]? = some (.cells #[u] t (0, 0)) := by
  have := heap_setCell_same W b 0 #[v] t u h
  simpa using this
theorem below_setN {w W : World} {b j : Nat} {v : Value} (h : Below w.heap.size w W) (hb : w.heap.size ≤ b) : Below w.heap.size w (W.setCell ⟨b, j, none⟩ v) :=
  h.trans ⟨rfl, rfl, rfl, by simp [World.setCell], fun g hg => Below.heap_setCell _ _ _ _ (by show g ≠ b; omega)⟩
theorem cell_of_block {w w' : World} {b j : Nat} (h : w'.heap[b]? = w.heap[b]?) : w'.cell? ⟨b, j, none⟩ = w.cell? ⟨b, j, none⟩ := World.cell?_of_block (w := w) (a := ⟨b, j, none⟩) h
set_option maxHeartbeats 8000000 in
theorem wname_any (T : Int) (n : Nat) (w : World) (hT : Tb w) :
    Calls Tryd.prog 51 #[.int .i64 T, .int .u32 (n : Int)] w fun e w' => e = .returned (.string (nameOf T n)) ∧ Below w.heap.size w w' := by
  refine (callsIn_wide (n := 4)).1 ?_
  have f0 : Fence.wide.fn 51 := trivial
  have f2 : Fence.wide.fn 101 := trivial
  obtain ⟨W0, hW0⟩ : ∃ W0, W0 = (((w.alloc (.cells #[.int .i64 T] 3)).alloc (.cells #[.int .u32 (n : Int)] 24)).alloc (.cells #[.string ⟨#[]⟩] 9)) := ⟨_, rfl⟩
  have hB0 : Below w.heap.size w W0 := by rw [hW0]; exact (((Below.refl _ w).alloc (Nat.le_refl _) _).alloc (by simp) _).alloc (by simp; omega) _
  have hs0 : W0.heap.size = w.heap.size + 3 := by rw [hW0]; simp
  have x0 : Boxed W0 (w.heap.size) 3 (.int .i64 T) := by
    have h := Boxed.new w 3 (.int .i64 T)
    rw [hW0]; exact ((h).alloc _).alloc _
  have x1 : Boxed W0 (w.heap.size + 1) 24 (.int .u32 (n : Int)) := by
    have h := Boxed.new (w.alloc (.cells #[.int .i64 T] 3)) 24 (.int .u32 (n : Int))
    rw [World.size_alloc] at h
    rw [hW0]; exact (h).alloc _
  have x2 : Boxed W0 (w.heap.size + 1 + 1) 9 (.string ⟨#[]⟩) := by
    have h := Boxed.new ((w.alloc (.cells #[.int .i64 T] 3)).alloc (.cells #[.int .u32 (n : Int)] 24)) 9 (.string ⟨#[]⟩)
    rw [World.size_alloc, World.size_alloc] at h
    rw [hW0]; exact h
  have hseq := rows_seq 3 (by omega) (hT.later hB0)
  have hT1 : 1 < W0.heap.size := (hT.later hB0).lt1
  have HX : Hid (∀ W, Below W0.heap.size W0 W → Boxed W (w.heap.size) 3 (.int .i64 T) ∧ Boxed W (w.heap.size + 1) 24 (.int .u32 (n : Int)) ∧ Boxed W (w.heap.size + 1 + 1) 9 (.string ⟨#[]⟩) ∧ Below w.heap.size w W) := fun W hb => ⟨(hb.block _ (by omega)).trans x0, (hb.block _ (by omega)).trans x1, (hb.block _ (by omega)).trans x2, hB0.trans (hb.mono hB0.size)⟩
  clear x0 x1 x2 hT hB0
  refine callsIn_of_wp_marks Tryd.func51 rfl f0 ?_ rfl
  simp only [Tryd.ntmps51, List.size_toArray, List.length_cons, List.length_nil, Nat.reduceAdd, Nat.reduceSub, Array.replicate_succ, Array.replicate_zero, List.push_toArray, List.append_toArray, List.nil_append, List.cons_append]
  gi_wp2
  rw [← hW0]
  clear hW0
  refine wpIn_rangeFunc_ownH rfl (by omega) (gf := 101) (lb := #[]) rfl f2 (enters_of Tryd.func101 (by kernel_rfl) rfl)
    hseq kpT_t (kpT_b (w := W0) hT1) (Below.refl _ _) (fun _ => rfl)
    (fun pre W => Below W0.heap.size W0 W ∧ ∀ x ∈ pre, hitN T n x = false)
    (fun c pre' W => c = .ret ∧ ∃ pre x, pre' = pre ++ [x] ∧ (∀ y ∈ pre, hitN T n y = false) ∧ hitN T n x = true ∧ W.heap[w.heap.size + 1 + 1]? = some (.cells #[.string (bstr x.s)] 9 (0, 0)) ∧ Below w.heap.size w W)
    (OwnFrom.and (ownFrom_below (Nat.le_refl _) (Nat.le_refl _)) (fun _ _ _ _ h _ _ => h))
    (fun c s X Y row hs hg hr => by
      obtain ⟨e1, pre, x, e2, e3, e4, g0, e7⟩ := hs
      exact ⟨e1, pre, x, e2, e3, e4, cells_own () X Y row g0 hg hr, ownFrom_below (β := Unit) (Nat.le_refl _) (by omega) () X Y row e7 hg hr⟩)
    ⟨Below.refl _ _, fun x hx => by cases hx⟩
    (fun x a' W => ∃ b, a' = { tmps := #[.int .i64 T, .int .u32 (n : Int), .pointer (some ⟨w.heap.size, 0, none⟩), .pointer (some ⟨w.heap.size + 1, 0, none⟩), .pointer (some ⟨w.heap.size + 1 + 1, 0, none⟩), .pointer (some ⟨b, 0, none⟩), x.val, undef, undef, undef, undef, undef, undef, undef, undef, undef, undef, undef, undef], defers := [] } ∧ W0.heap.size ≤ b ∧ W.heap[b]? = some (.cells #[.int .i64 (x.t : Int), .int .u32 (x.n : Int), .string (bstr x.s)] TRow (0, 0)))
    (fun x a' s X Y row hs hg hrow => by
      obtain ⟨b, h1, h2, h3⟩ := hs
      exact ⟨b, h1, h2, cells_own () X Y row h3 hg hrow⟩)
    ?assign ?body ?done ?stop
  case assign =>
    rintro l pre x W K ⟨hB, hpre⟩ hK
    have hb2 : Below W0.heap.size W0 (W.alloc (.cells #[.int .i64 (x.t : Int), .int .u32 (x.n : Int), .string (bstr x.s)] TRow)) := hB.alloc hB.size _
    have hlt : 1 < W.heap.size := Nat.lt_of_lt_of_le hT1 hB.size
    have hsz := hB.size
    have HK2 := hK { tmps := #[.int .i64 T, .int .u32 (n : Int), .pointer (some ⟨w.heap.size, 0, none⟩), .pointer (some ⟨w.heap.size + 1, 0, none⟩), .pointer (some ⟨w.heap.size + 1 + 1, 0, none⟩), .pointer (some ⟨W.heap.size, 0, none⟩), x.val, undef, undef, undef, undef, undef, undef, undef, undef, undef, undef, undef, undef], defers := [] } (W.alloc (.cells #[.int .i64 (x.t : Int), .int .u32 (x.n : Int), .string (bstr x.s)] TRow)) ⟨by simp, fun k o hk h _ => (Below.heap_alloc _ _ _ (Array.getElem?_eq_some_iff.1 h).1).trans h⟩ (Below.heap_alloc _ _ _ hlt) ⟨hb2, hpre⟩ ⟨W.heap.size, rfl, hsz, heap_new W _⟩
    have HK3 : Hid _ := HK2
    clear hK HK2 hb2 hB hpre HX hseq
    gi_wp2
    exact HK3.out
  case body =>
    rintro l pre x a' W hl ⟨r, hr⟩ ⟨hB, hpre⟩ ⟨b, rfl, hbw, hbx⟩ hlt
    obtain ⟨y0, y1, y2, hbe⟩ := HX.out W hB
    have d0 := y0.cell
    have d1 := y1.cell
    have z0 := blk_at hbx 0
    have z1 := blk_at hbx 1
    have z2 := blk_at hbx 2
    simp at z0 z1 z2
    have HY : Hid (Boxed W (w.heap.size + 1 + 1) 9 (.string ⟨#[]⟩) ∧ Below w.heap.size w W) := ⟨y2, hbe⟩
    have HPR : Hid (∀ y ∈ pre, hitN T n y = false) := hpre
    have HBW : Hid (Below W0.heap.size W0 W) := hB
    clear y0 y1 y2 hbe hpre hB HX hseq hbx
    by_cases h1 : (x.t : Int) = T
    · by_cases h2 : x.n = n
      · have e2 : (x.n : Int) = (n : Int) := by omega
        have HH : Hid (hitN T n x = true) := by show _ = _; simp [hitN, h1, h2]
        have q2 := HY.out.1
        have k2 := q2.cell
        have g2 := q2.frozen
        gi_wp2
        refine ⟨(KeepsOthers.setCell _ _ _).from _, rfl, pre, x, rfl, HPR.out, HH.out, put_boxed q2 _, below_setN HY.out.2 (by omega)⟩
      · have e2 : ¬ ((x.n : Int) = (n : Int)) := by omega
        have e3 : ((x.n : Int) == (n : Int)) = false := by simp; omega
        have HH : Hid (hitN T n x = false) := by show _ = _; simp [hitN, h2]
        gi_wp2
        exact ⟨KeepsFrom.refl _ _, rfl, HBW.out, fun y hy => by
          rcases List.mem_append.1 hy with hy | hy
          · exact HPR.out y hy
          · simp at hy; subst hy; exact HH.out⟩
    · have e1 : ((x.t : Int) == T) = false := by simpa using h1
      have HH : Hid (hitN T n x = false) := by show _ = _; simp [hitN, h1]
      gi_wp2
      exact ⟨KeepsFrom.refl _ _, rfl, HBW.out, fun y hy => by
        rcases List.mem_append.1 hy with hy | hy
        · exact HPR.out y hy
        · simp at hy; subst hy; exact HH.out⟩
  case done =>
    rintro D ys W hD rfl ⟨hB, hno⟩ hK
    obtain ⟨y0, y1, y2, hbe⟩ := HX.out W hB
    have k2 := y2.cell
    have g2 := y2.frozen
    have hne : D ≠ w.heap.size + 1 + 1 := by omega
    have r2 : ((W.setCell ⟨w.heap.size + 1 + 1, 0, none⟩ (.string ⟨#[]⟩)).putObj D (.deferred none)).cell? ⟨w.heap.size + 1 + 1, 0, none⟩ = some (.string ⟨#[]⟩) := by rw [cell_of_block (World.putObj_heap_other (Ne.symm hne))]; exact blk_at (put_boxed y2 _) 0
    have hK2 : (W.setCell ⟨w.heap.size + 1 + 1, 0, none⟩ (.string ⟨#[]⟩)).heap[D]? = some (.deferred (some [])) := (Below.heap_setCell _ _ _ _ hne).trans hK
    have HF : Hid (Below w.heap.size w (W.setCell ⟨w.heap.size + 1 + 1, 0, none⟩ (.string ⟨#[]⟩))) := below_setN hbe (by omega)
    have HNo : Hid (nameOf T n = ⟨#[]⟩) := by show _ = _; unfold nameOf; rw [find_none (hitN T n) allL hno]
    clear y0 y1 y2 hbe hB hno HX hseq
    gi_wp2
    refine ⟨by simp, .inl ⟨_, _, rfl, run_takeDeferred hK2, ?_⟩⟩
    refine ⟨_, by rw [results_cell1 (p := 4) (tp := 9) rfl]; exact load_one r2, by rw [HNo.out], HF.out.trans (belowK_b (w := w) (Nat.le_refl _) _ D _ _ (by omega) hK2 rfl rfl)⟩
  case stop =>
    rintro D c pre' W hD ⟨rest, hrest⟩ ⟨rfl, pre, x, rfl, h1, h2, g0, hbe⟩ hK
    have hne : D ≠ w.heap.size + 1 + 1 := by omega
    have r2 : (W.putObj D (.deferred none)).cell? ⟨w.heap.size + 1 + 1, 0, none⟩ = some (.string (bstr x.s)) := by rw [cell_of_block (World.putObj_heap_other (Ne.symm hne))]; exact blk_at g0 0
    have HNo : Hid (nameOf T n = bstr x.s) := by show _ = _; unfold nameOf; rw [hrest, find_at (hitN T n) pre x rest h1 h2]
    have HF : Hid (Below w.heap.size w W) := hbe
    clear hbe g0 h1 h2 hrest HX hseq
    gi_wp2
    refine ⟨by simp, .inl ⟨_, _, rfl, run_takeDeferred hK, ?_⟩⟩
    refine ⟨_, by rw [results_cell1 (p := 4) (tp := 9) rfl]; exact load_one r2, by rw [HNo.out], HF.out.trans (belowK_b (w := w) (Nat.le_refl _) _ D _ _ (by omega) hK rfl rfl)⟩
end Go.Proofs.YtjikibhhhchgeaaDoor

namespace Go.Proofs.YtjikibhhhchgeaaDoor
open Go.ChangeShapes Go.WideShapes Go.ChangeAt Go.RowKit Go.Lib
set_option linter.unusedVariables false
set_option linter.unusedSimpArgs false
set_option maxRecDepth 100000

theorem own : ownKnob Tryd.prog.godebug = none := by kernel_rfl
theorem laidOut : laidOutB Tryd.prog = true := by kernel_rfl
theorem bytes5 : Tryd.prog.bytesOf 5 = 1 := by kernel_rfl
abbrev theLaid := Rows.wirePacksRow.laid
def Rw.datum (x : Rw) : DataW Unit := .agg [.lit (.int .i64 (x.t : Int)), .lit (.int .u32 (x.n : Int)), .lit (.string (x.s.map UInt8.ofNat))]
theorem hag_eq : (Rows.laid_spindle_wire_haggled : DataW Unit) = .agg (hagL.map Rw.datum) := by kernel_rfl
theorem tra_eq : (Rows.laid_spindle_wire_transmitted : DataW Unit) = .agg (traL.map Rw.datum) := by kernel_rfl
theorem cells_row : Tryd.prog.cellsOf TRow = 3 := by kernel_rfl
theorem cells_i : Tryd.prog.cellsOf 3 = 1 := by kernel_rfl
theorem cells_u : Tryd.prog.cellsOf 24 = 1 := by kernel_rfl
theorem cells_s : Tryd.prog.cellsOf 9 = 1 := by kernel_rfl
theorem take1 {cs : List Value} {j : Nat} {v : Value} (h : (cs.drop j).take 1 = [v]) : cs[j]? = some v := by
  have := congrArg (·[0]?) h
  simpa [List.getElem?_take, List.getElem?_drop] using this
/-- what a row of a table reads as is what lies there -/
theorem row_cells {enc : TypeId × Value → Unit} {w : World} {base : Nat} {sp : Nat → Bool} {held : Bool} {fuel : Nat} {cs : List Value} {x : Rw} {p : List MemPlace}
    (h : DataW.trod enc Tryd.prog w base sp held fuel TRow cs = some (x.datum, p)) : cs = x.cells := by
  obtain ⟨xs, n, rfl, hx, hl, hxl, hall⟩ := DataW.trod_struct Tryd.underlying173 h
  rw [cells_row] at hl
  have h0 := hall 0 _ rfl
  have h1 := hall 1 _ rfl
  have h2 := hall 2 _ rfl
  obtain ⟨y0, hy0⟩ : ∃ y, xs[0]? = some y := ⟨_, List.getElem?_eq_getElem (by rw [hxl]; decide)⟩
  obtain ⟨y1, hy1⟩ : ∃ y, xs[1]? = some y := ⟨_, List.getElem?_eq_getElem (by rw [hxl]; decide)⟩
  obtain ⟨y2, hy2⟩ : ∃ y, xs[2]? = some y := ⟨_, List.getElem?_eq_getElem (by rw [hxl]; decide)⟩
  simp only [cells_i, cells_u, cells_s, hy0, hy1, hy2] at h0 h1 h2
  obtain ⟨a, e0, rfl, _⟩ := DataW.trod_int Tryd.underlying3 h0
  obtain ⟨b, e1, rfl, _⟩ := DataW.trod_int Tryd.underlying24 h1
  obtain ⟨s, e2, rfl, _⟩ := DataW.trod_string Tryd.underlying9 h2
  have hd : xs.map (·.1) = [.lit (.int .i64 (x.t : Int)), .lit (.int .u32 (x.n : Int)), .lit (.string (x.s.map UInt8.ofNat))] := by
    have := congrArg Prod.fst hx
    simp only [Rw.datum, DataW.agg.injEq] at this
    exact this.symm
  have d0 := congrArg (·[0]?) hd
  have d1 := congrArg (·[1]?) hd
  have d2 := congrArg (·[2]?) hd
  simp [hy0] at d0
  simp [hy1] at d1
  simp [hy2] at d2
  subst d0 d1
  have hs : s = bstr x.s := by
    apply ByteArray.ext
    show s.data = (x.s.map UInt8.ofNat).toArray
    rw [← d2]
  subst hs
  have c0 := take1 e0
  have c1 := take1 e1
  have c2 := take1 e2
  apply List.ext_getElem?
  intro i
  match i with
  | 0 => exact c0
  | 1 => exact c1
  | 2 => exact c2
  | i + 3 => rw [List.getElem?_eq_none (by omega)]; rfl
theorem flat_of : ∀ (l : List Rw) (cs : List Value), cs.length = 3 * l.length → (∀ i x, l[i]? = some x → (cs.drop (i * 3)).take 3 = x.cells) → cs = flat l
  | [], cs, h, _ => List.eq_nil_of_length_eq_zero (by simpa using h)
  | y :: l, cs, h, hc => by
    have h0 := hc 0 y rfl
    have ih := flat_of l (cs.drop 3) (by rw [List.length_drop, h, List.length_cons]; omega) (fun i x hx => by
      have := hc (i + 1) x (by simpa using hx)
      rw [List.drop_drop]
      rwa [show (i + 1) * 3 = 3 + i * 3 by omega] at this)
    rw [Nat.zero_mul, List.drop_zero] at h0
    rw [← List.take_append_drop 3 cs, h0, ih]; rfl
theorem arr_cells {enc : TypeId × Value → Unit} {w : World} {base : Nat} {sp : Nat → Bool} {held : Bool} {fuel : Nat} {t : TypeId} {m : Nat} {cs : List Value} {l : List Rw} {p : List MemPlace} (ht : Tryd.prog.underlying t = some (.array m TRow)) (hct : Tryd.prog.cellsOf t = m * 3) (hm : l.length = m)
    (h : DataW.trod enc Tryd.prog w base sp held fuel t cs = some (.agg (l.map Rw.datum), p)) : cs = flat l := by
  have hlen : cs.length = m * 3 := by
    cases fuel with
    | zero => simp [DataW.trod] at h
    | succ fuel =>
      have h' := h
      simp only [DataW.trod, ht, hct] at h'
      split at h'
      · rename_i hl
        first | exact hl | exact hl.1 | omega | simpa using hl
      · cases h'
  refine flat_of l cs (by rw [hlen, hm]; omega) (fun i x hx => ?_)
  obtain ⟨fuel', d, q, hd, he⟩ := array_elem ht h i (by rw [← hm]; exact (List.getElem?_eq_some_iff.1 hx).1)
  rw [List.getElem?_map, hx] at hd
  simp only [Option.map_some, Option.some.injEq] at hd
  subst hd
  rw [cells_row] at he
  exact row_cells he
theorem block_of {W : World} {name : String} {g : Nat} {cs : Array Value} (hg : Tryd.prog.globalNamed name = some g) (h : W.var? Tryd.prog name = some cs) : ∃ t fr, W.heap[g]? = some (.cells cs t fr) := by
  simp only [World.var?, hg, Option.bind_some] at h
  split at h
  · rename_i t fr hh
    cases h
    exact ⟨_, _, hh⟩
  · cases h
theorem tb_of {W : World} (hL : laidMetH Tryd.prog theLaid W) : Tb W := by
  have h1 := Lib.laidMet.reads hL (.tail _ (.head _))
  have h2 := Lib.laidMet.reads hL (.tail _ (.tail _ (.head _)))
  rw [hag_eq] at h1
  rw [tra_eq] at h2
  obtain ⟨g, t, cs, fuel, p, hg, hty, hvar, hd⟩ := h1
  obtain ⟨g', t', cs', fuel', p', hg', hty', hvar', hd'⟩ := h2
  obtain rfl : g = 0 := Option.some.inj (hg.symm.trans (by kernel_rfl))
  obtain rfl : g' = 1 := Option.some.inj (hg'.symm.trans (by kernel_rfl))
  obtain rfl : t = 194 := Option.some.inj (hty.symm.trans (by kernel_rfl))
  obtain rfl : t' = 195 := Option.some.inj (hty'.symm.trans (by kernel_rfl))
  have e1 := arr_cells Tryd.underlying194 (by kernel_rfl) (l := hagL) rfl hd
  have e2 := arr_cells Tryd.underlying195 (by kernel_rfl) (l := traL) rfl hd'
  have e1' : cs = (flat hagL).toArray := by apply Array.toList_inj.1; rw [e1]
  have e2' : cs' = (flat traL).toArray := by apply Array.toList_inj.1; rw [e2]
  subst e1' e2'
  exact ⟨block_of hg hvar, block_of hg' hvar'⟩

theorem accept_eq : (Rows.laid_unicode_utf8_acceptRanges : DataW Unit) = Lib.acceptData := by kernel_rfl
theorem first_eq : Rows.laid_unicode_utf8_first = Lib.firstData := Pinned.utf8First_eq
theorem tabs_of {W : World} (hL : laidMetH Tryd.prog theLaid W) : Tabs W := by
  have h1 := Lib.laidMet.reads hL (.head _)
  have h2 := Lib.laidMet.reads hL (.tail _ (.tail _ (.tail _ (.head _))))
  rw [accept_eq] at h1
  rw [first_eq] at h2
  exact utf8Tabs_of_readsT (U8Types.of196 Tryd.laysValid) ⟨by kernel_rfl, by kernel_rfl, by kernel_rfl, by kernel_rfl, by kernel_rfl, by kernel_rfl, by kernel_rfl⟩ h2 h1
/-- the world with the four tables laid -/
def putTabs (w0 : World) : World :=
  let put (h : Array Obj) (g : Nat) (cs : Array Value) : Array Obj := h.modify g fun
    | .cells _ t frozen => .cells cs t frozen
    | o => o
  let h1 := put w0.heap 0 (flat hagL).toArray
  let h2 := put h1 1 (flat traL).toArray
  let h3 := put h2 2 (Lib.firstTab.map fun z => Value.int .u8 z).toArray
  let h4 := put h3 3 ((List.range 16).flatMap fun i => [Value.int .u8 (Lib.accLo i), Value.int .u8 (Lib.accHi i)]).toArray
  { w0 with heap := h4 }
theorem laid_met (os : Os) (args : Array Value) : laidMet Tryd.prog theLaid ((putTabs (World.holding Tryd.prog os ⟨#[], #[], []⟩)).forCall (fun _ _ => 0) ⟨#[], args, []⟩).memory :=
  (LaidIn.of_run (l := theLaid) [3, 0, 1, 2] 8 (by kernel_rfl) (by kernel_rfl) (by kernel_rfl) (by kernel_rfl)).met
end Go.Proofs.YtjikibhhhchgeaaDoor

namespace Go.Proofs.YtjikibhhhchgeaaDoor
open _root_.Go.Proofs.YtjikibhhhchgeaaDoor.Rows (uptoBulk uptoBulkAll uptoSmall)

theorem bulk_pos {H : Type} (d : DataW H) : 0 < uptoBulk d := by
  rcases d with l | _ | _ | _ | _ | _ | _ | _
  · cases l <;> simp [uptoBulk]
  all_goals simp [uptoBulk]
theorem bulkAll_append {H : Type} : ∀ l r : List (DataW H), uptoBulkAll (l ++ r) = uptoBulkAll l + uptoBulkAll r
  | [], r => by simp [uptoBulkAll]
  | d :: l, r => by simp only [List.cons_append, uptoBulkAll]; rw [bulkAll_append l r]; omega
theorem bulk_le_all {H : Type} {d : DataW H} {l : List (DataW H)} (h : d ∈ l) : uptoBulk d ≤ uptoBulkAll l := by
  obtain ⟨a, b, rfl⟩ := List.append_of_mem h
  rw [bulkAll_append]; simp only [uptoBulkAll]; omega
theorem length_le_bulk {H : Type} : ∀ l : List (DataW H), l.length ≤ uptoBulkAll l
  | [] => Nat.zero_le _
  | d :: l => by have := length_le_bulk l; have := bulk_pos d; simp only [uptoBulkAll, List.length_cons]; omega
theorem bulk_slice {H : Type} (es sp : List (DataW H)) : uptoBulk (.slice es sp) = uptoBulkAll es + uptoBulkAll sp + 1 := by simp [uptoBulk]
theorem bulk_bound {H : Type} {l : List (DataW H)} (h : uptoSmall H l = true) : uptoBulkAll l ≤ 1048576 := of_decide_eq_true h
end Go.Proofs.YtjikibhhhchgeaaDoor

namespace Go.Proofs.YtjikibhhhchgeaaDoor
open Go.ChangeShapes Go.WideShapes Go.ChangeAt Go.RowKit Go.Lib
open Go.Deep
set_option linter.unusedVariables false
set_option linter.unusedSimpArgs false
set_option maxRecDepth 100000

theorem brow_ints (W : World) (x : Addr) (len cap : Nat) (zs : List Int) (hl : len ≤ zs.length) (hlen : len ≤ 140737488351232)
    (hcell : ∀ i, i < zs.length → W.cell? (x.add i) = some (.int .u8 (zs.getD i 0))) (hw : ∀ n ∈ zs, (Lit.int .u8 n).wf = true) :
    ∃ l : List Nat, l.length = len ∧ BRow W (some x) cap l := by
  have hb : ∀ i (hi : i < zs.length), 0 ≤ zs[i] ∧ zs[i] ≤ 255 := fun i hi => by
    have := bounds_u8 (hw _ (List.getElem_mem hi)); omega
  refine ⟨(zs.take len).map Int.toNat, by simp; omega, ⟨?_, by simp; omega, fun h => by simp at h, ?_⟩⟩
  · intro y hy
    obtain ⟨z, hz, rfl⟩ := List.mem_map.1 hy
    have hz' := List.mem_of_mem_take hz
    have := bounds_u8 (hw z hz'); omega
  · intro hne
    have hpos : 0 < len := by
      rcases Nat.eq_zero_or_pos len with h | h
      · subst h; simp at hne
      · exact h
    obtain ⟨b, off, rfl, hc⟩ := ints_at hcell (by omega)
    refine ⟨b, off, rfl, fun k hk => ?_⟩
    have hk' : k < len := by simp at hk; omega
    have h1 := hcell k (by omega)
    rw [add_plain] at h1
    rw [h1]
    have h2 := hb k (by omega)
    simp [bv, show k < zs.length by omega]
    omega

/-- a []byte that was read, in a slot or in a cell: its bytes -/
theorem open_bytes {H : Type} {enc : TypeId × Value → H} {W : World} {base fuel : Nat} {cs : List Value} {d : DataW H} {p : List MemPlace} (hf : DataW.trod enc Tryd.prog W base (fun _ => true) true fuel 25 cs = some (d, p)) (hb : Rows.uptoBulk d ≤ 1048576) :
    ∃ (ao : Option Addr) (cap : Nat) (l : List Nat), cs = [.slice ao l.length cap] ∧ BRow W ao cap l ∧ l.length + 1 ≤ Rows.uptoBulk d := by
  rcases open_ints Tryd.underlying25 Tryd.underlying5 (by kernel_rfl) hf with ⟨hcs, hx⟩ | ⟨x, l, c, zs, hcs, _, hl, hm, hz, hx, hcell, hwz⟩
  · have hd : d = .nil := (Prod.mk.inj hx).1
    exact ⟨none, 0, [], hcs, ⟨by simp, by simp, fun _ => ⟨rfl, rfl⟩, fun h => absurd rfl h⟩, by rw [hd]; simp [Rows.uptoBulk]⟩
  · have hd : d = .slice (lits .u8 (zs.take l)) (lits .u8 (zs.drop l)) := (Prod.mk.inj hx).1
    have hz' : zs.length = c := by simpa using hz
    have hsl := bulk_slice (lits (H := H) .u8 (zs.take l)) (lits .u8 (zs.drop l))
    have hs1 := length_le_bulk (lits (H := H) .u8 (zs.take l))
    have hs2 := length_le_bulk (lits (H := H) .u8 (zs.drop l))
    rw [← hd] at hsl
    simp only [lits, List.length_map, List.length_take, List.length_drop] at hsl hs1 hs2
    obtain ⟨m, hm1, hm2⟩ := brow_ints W x l c zs (by omega) (by omega) hcell hwz
    subst hm1
    exact ⟨some x, c, m, hcs, hm2, by omega⟩

end Go.Proofs.YtjikibhhhchgeaaDoor
