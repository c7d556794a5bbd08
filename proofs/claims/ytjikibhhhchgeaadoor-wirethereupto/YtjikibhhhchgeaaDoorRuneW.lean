import Derived.Test.YtjikibhhhchgeaaDoorRows
import Derived.WalkKit
import Derived.WalkSpells
import Derived.WalkLawsBesides
namespace Go.Proofs.YtjikibhhhchgeaaDoor
open Go.RowKit
set_option linter.unusedVariables false

/-- a lead byte's class: how many bytes, and the bounds of the second -/
def cls (c : Nat) : Nat × Nat × Nat :=
  if c < 194 then (0, 128, 191) else if c < 224 then (2, 128, 191) else if c = 224 then (3, 160, 191) else if c = 237 then (3, 128, 159)
  else if c < 240 then (3, 128, 191) else if c = 240 then (4, 144, 191) else if c < 244 then (4, 128, 191) else if c = 244 then (4, 128, 143) else (0, 128, 191)
/-- the k bytes behind the first are as they must be -/
def contOk (lo hi : Nat) (B : Nat → Nat) : Nat → Bool
  | 0 => true
  | 1 => decide (lo ≤ B 1) && decide (B 1 ≤ hi)
  | k + 2 => contOk lo hi B (k + 1) && (decide (128 ≤ B (k + 2)) && decide (B (k + 2) ≤ 191))
/-- how many bytes the valid rune has; 0: none -/
def runeF (n : Nat) (B : Nat → Nat) : Nat :=
  if B 0 < 128 then 1 else if (cls (B 0)).1 = 0 ∨ n < (cls (B 0)).1 then 0 else if contOk (cls (B 0)).2.1 (cls (B 0)).2.2 B ((cls (B 0)).1 - 1) = true then (cls (B 0)).1 else 0
def byt (s : ByteArray) (i k : Nat) : Nat := (s.get! (i + k)).toNat

theorem byt_at (s : ByteArray) (i k : Nat) (h : i + k < s.size) : byt s i k = (s[i + k]).toNat := by
  unfold byt
  have : s.get! (i + k) = s[i + k] := by
    show s.data[i + k]! = s.data[i + k]
    exact getElem!_pos s.data (i + k) h
  rw [this]
theorem contOk_le (lo hi : Nat) (B : Nat → Nat) (j m : Nat) (hm : j ≤ m) (h : contOk lo hi B m = true) : contOk lo hi B j = true := by
  induction m with
  | zero => rw [show j = 0 by omega]; exact h
  | succ m ih =>
    by_cases e : j = m + 1
    · rw [e]; exact h
    · cases m with
      | zero => rw [show j = 0 by omega]; rfl
      | succ m => exact ih (by omega) (by rw [contOk, Bool.and_eq_true] at h; exact h.1)
theorem runeF_one (n : Nat) (B : Nat → Nat) (h : B 0 < 128) : runeF n B = 1 := by unfold runeF; rw [if_pos h]
theorem runeF_none (n : Nat) (B : Nat → Nat) (h : 128 ≤ B 0) (hc : (cls (B 0)).1 = 0) : runeF n B = 0 := by unfold runeF; rw [if_neg (by omega), if_pos (.inl hc)]
theorem runeF_short (n : Nat) (B : Nat → Nat) (h : 128 ≤ B 0) (hc : n < (cls (B 0)).1) : runeF n B = 0 := by unfold runeF; rw [if_neg (by omega), if_pos (.inr hc)]
theorem runeF_ok (n sz lo hi : Nat) (B : Nat → Nat) (h : 128 ≤ B 0) (hc : cls (B 0) = (sz, lo, hi)) (h0 : sz ≠ 0) (hn : sz ≤ n) (hk : contOk lo hi B (sz - 1) = true) : runeF n B = sz := by
  unfold runeF; rw [hc]; rw [if_neg (by omega), if_neg (by simp; omega), if_pos hk]
theorem runeF_bad (n sz lo hi j : Nat) (B : Nat → Nat) (h : 128 ≤ B 0) (hc : cls (B 0) = (sz, lo, hi)) (hj : j ≤ sz - 1) (hk : contOk lo hi B j = false) : runeF n B = 0 := by
  unfold runeF; rw [hc]; rw [if_neg (by omega)]
  split
  · rfl
  · rw [if_neg]
    intro h'
    rw [contOk_le lo hi B j (sz - 1) hj h'] at hk
    exact absurd hk (by decide)
theorem ret_i64R {a b : Int} (h : a = b) : Ending.returned (.int .i64 a) = .returned (.int .i64 b) := by rw [h]
theorem cont_one (lo hi : Nat) (B : Nat → Nat) : contOk lo hi B 1 = (decide (lo ≤ B 1) && decide (B 1 ≤ hi)) := rfl
theorem cont_more (lo hi k : Nat) (B : Nat → Nat) : contOk lo hi B (k + 2) = (contOk lo hi B (k + 1) && (decide (128 ≤ B (k + 2)) && decide (B (k + 2) ≤ 191))) := rfl

set_option maxRecDepth 100000 in
set_option maxHeartbeats 1000000 in
theorem rune_ascii (s : ByteArray) (i : Nat) (w : World) (hi : i < s.size) (hs : s.size ≤ 9223372036854775807) (h : (s[i]).toNat < 128) :
    Calls Tryd.prog 122 #[.string s, .int .i64 i] w fun e w' => e = .returned (.int .i64 (runeF (s.size - i) (byt s i) : Nat)) ∧ w' = w := by
  have h1 : decide ((i : Int) < 0) = false := by simp
  have h2 : decide ((s.size : Int) ≤ (i : Int)) = false := by simp; omega
  have h2n : decide (s.size ≤ i) = false := by simp; omega
  have HB : Hid (byt s i 0 = (s[i]).toNat) := byt_at s i 0 hi
  have lt128 : decide (((s[i]).toNat : Int) < 128) = true := by simp; omega
  have g194 : decide ((194 : Int) ≤ ((s[i]).toNat : Int)) = false := by simp; omega
  have l223 : decide (((s[i]).toNat : Int) ≤ 223) = true := by simp; omega
  have g224 : decide ((224 : Int) ≤ ((s[i]).toNat : Int)) = false := by simp; omega
  have l239 : decide (((s[i]).toNat : Int) ≤ 239) = true := by simp; omega
  have g240 : decide ((240 : Int) ≤ ((s[i]).toNat : Int)) = false := by simp; omega
  have l244 : decide (((s[i]).toNat : Int) ≤ 244) = true := by simp; omega
  have e224 : (((s[i]).toNat : Int) == 224) = false := by rw [beq_eq_false_iff_ne]; omega
  have e237 : (((s[i]).toNat : Int) == 237) = false := by rw [beq_eq_false_iff_ne]; omega
  have e240 : (((s[i]).toNat : Int) == 240) = false := by rw [beq_eq_false_iff_ne]; omega
  have e244 : (((s[i]).toNat : Int) == 244) = false := by rw [beq_eq_false_iff_ne]; omega
  have HR : Hid (runeF (s.size - i) (byt s i) = 1) := runeF_one _ _ (by rw [HB.out]; omega)
  clear h
  go_enter Tryd.func122, Tryd.ntmps122
  go_wp2
  go_ret
  exact ⟨ret_i64R (by rw [HR.out]; rfl), rfl⟩

set_option maxRecDepth 100000 in
set_option maxHeartbeats 1000000 in
theorem rune_lowbad (s : ByteArray) (i : Nat) (w : World) (hi : i < s.size) (hs : s.size ≤ 9223372036854775807) (h : 128 ≤ (s[i]).toNat ∧ (s[i]).toNat < 194) :
    Calls Tryd.prog 122 #[.string s, .int .i64 i] w fun e w' => e = .returned (.int .i64 (runeF (s.size - i) (byt s i) : Nat)) ∧ w' = w := by
  have h1 : decide ((i : Int) < 0) = false := by simp
  have h2 : decide ((s.size : Int) ≤ (i : Int)) = false := by simp; omega
  have h2n : decide (s.size ≤ i) = false := by simp; omega
  have HB : Hid (byt s i 0 = (s[i]).toNat) := byt_at s i 0 hi
  have lt128 : decide (((s[i]).toNat : Int) < 128) = false := by simp; omega
  have g194 : decide ((194 : Int) ≤ ((s[i]).toNat : Int)) = false := by simp; omega
  have l223 : decide (((s[i]).toNat : Int) ≤ 223) = true := by simp; omega
  have g224 : decide ((224 : Int) ≤ ((s[i]).toNat : Int)) = false := by simp; omega
  have l239 : decide (((s[i]).toNat : Int) ≤ 239) = true := by simp; omega
  have g240 : decide ((240 : Int) ≤ ((s[i]).toNat : Int)) = false := by simp; omega
  have l244 : decide (((s[i]).toNat : Int) ≤ 244) = true := by simp; omega
  have e224 : (((s[i]).toNat : Int) == 224) = false := by rw [beq_eq_false_iff_ne]; omega
  have e237 : (((s[i]).toNat : Int) == 237) = false := by rw [beq_eq_false_iff_ne]; omega
  have e240 : (((s[i]).toNat : Int) == 240) = false := by rw [beq_eq_false_iff_ne]; omega
  have e244 : (((s[i]).toNat : Int) == 244) = false := by rw [beq_eq_false_iff_ne]; omega
  have HCl : Hid (cls (byt s i 0) = (0, 128, 191)) := by
    show cls (byt s i 0) = _
    rw [HB.out]; unfold cls; repeat (first | rw [if_pos (by omega)] | rw [if_neg (by omega)])
  have H128 : Hid (128 ≤ byt s i 0) := by show 128 ≤ byt s i 0; rw [HB.out]; omega
  have HR : Hid (runeF (s.size - i) (byt s i) = 0) := runeF_none _ _ H128.out (by rw [HCl.out])
  clear h
  go_enter Tryd.func122, Tryd.ntmps122
  go_wp2
  go_ret
  exact ⟨ret_i64R (by rw [HR.out]; rfl), rfl⟩

set_option maxRecDepth 100000 in
set_option maxHeartbeats 1000000 in
theorem rune_highbad (s : ByteArray) (i : Nat) (w : World) (hi : i < s.size) (hs : s.size ≤ 9223372036854775807) (h : 245 ≤ (s[i]).toNat ∧ (s[i]).toNat < 256) :
    Calls Tryd.prog 122 #[.string s, .int .i64 i] w fun e w' => e = .returned (.int .i64 (runeF (s.size - i) (byt s i) : Nat)) ∧ w' = w := by
  have h1 : decide ((i : Int) < 0) = false := by simp
  have h2 : decide ((s.size : Int) ≤ (i : Int)) = false := by simp; omega
  have h2n : decide (s.size ≤ i) = false := by simp; omega
  have HB : Hid (byt s i 0 = (s[i]).toNat) := byt_at s i 0 hi
  have lt128 : decide (((s[i]).toNat : Int) < 128) = false := by simp; omega
  have g194 : decide ((194 : Int) ≤ ((s[i]).toNat : Int)) = true := by simp; omega
  have l223 : decide (((s[i]).toNat : Int) ≤ 223) = false := by simp; omega
  have g224 : decide ((224 : Int) ≤ ((s[i]).toNat : Int)) = true := by simp; omega
  have l239 : decide (((s[i]).toNat : Int) ≤ 239) = false := by simp; omega
  have g240 : decide ((240 : Int) ≤ ((s[i]).toNat : Int)) = true := by simp; omega
  have l244 : decide (((s[i]).toNat : Int) ≤ 244) = false := by simp; omega
  have e224 : (((s[i]).toNat : Int) == 224) = false := by rw [beq_eq_false_iff_ne]; omega
  have e237 : (((s[i]).toNat : Int) == 237) = false := by rw [beq_eq_false_iff_ne]; omega
  have e240 : (((s[i]).toNat : Int) == 240) = false := by rw [beq_eq_false_iff_ne]; omega
  have e244 : (((s[i]).toNat : Int) == 244) = false := by rw [beq_eq_false_iff_ne]; omega
  have HCl : Hid (cls (byt s i 0) = (0, 128, 191)) := by
    show cls (byt s i 0) = _
    rw [HB.out]; unfold cls; repeat (first | rw [if_pos (by omega)] | rw [if_neg (by omega)])
  have H128 : Hid (128 ≤ byt s i 0) := by show 128 ≤ byt s i 0; rw [HB.out]; omega
  have HR : Hid (runeF (s.size - i) (byt s i) = 0) := runeF_none _ _ H128.out (by rw [HCl.out])
  clear h
  go_enter Tryd.func122, Tryd.ntmps122
  go_wp2
  go_ret
  exact ⟨ret_i64R (by rw [HR.out]; rfl), rfl⟩

set_option maxRecDepth 100000 in
set_option maxHeartbeats 1000000 in
theorem rune_two (s : ByteArray) (i : Nat) (w : World) (hi : i < s.size) (hs : s.size ≤ 9223372036854775807) (h : 194 ≤ (s[i]).toNat ∧ (s[i]).toNat < 224) :
    Calls Tryd.prog 122 #[.string s, .int .i64 i] w fun e w' => e = .returned (.int .i64 (runeF (s.size - i) (byt s i) : Nat)) ∧ w' = w := by
  have h1 : decide ((i : Int) < 0) = false := by simp
  have h2 : decide ((s.size : Int) ≤ (i : Int)) = false := by simp; omega
  have h2n : decide (s.size ≤ i) = false := by simp; omega
  have HB : Hid (byt s i 0 = (s[i]).toNat) := byt_at s i 0 hi
  have lt128 : decide (((s[i]).toNat : Int) < 128) = false := by simp; omega
  have g194 : decide ((194 : Int) ≤ ((s[i]).toNat : Int)) = true := by simp; omega
  have l223 : decide (((s[i]).toNat : Int) ≤ 223) = true := by simp; omega
  have g224 : decide ((224 : Int) ≤ ((s[i]).toNat : Int)) = false := by simp; omega
  have l239 : decide (((s[i]).toNat : Int) ≤ 239) = true := by simp; omega
  have g240 : decide ((240 : Int) ≤ ((s[i]).toNat : Int)) = false := by simp; omega
  have l244 : decide (((s[i]).toNat : Int) ≤ 244) = true := by simp; omega
  have e224 : (((s[i]).toNat : Int) == 224) = false := by rw [beq_eq_false_iff_ne]; omega
  have e237 : (((s[i]).toNat : Int) == 237) = false := by rw [beq_eq_false_iff_ne]; omega
  have e240 : (((s[i]).toNat : Int) == 240) = false := by rw [beq_eq_false_iff_ne]; omega
  have e244 : (((s[i]).toNat : Int) == 244) = false := by rw [beq_eq_false_iff_ne]; omega
  have HCl : Hid (cls (byt s i 0) = (2, 128, 191)) := by
    show cls (byt s i 0) = _
    rw [HB.out]; unfold cls; repeat (first | rw [if_pos (by omega)] | rw [if_neg (by omega)])
  have H128 : Hid (128 ≤ byt s i 0) := by show 128 ≤ byt s i 0; rw [HB.out]; omega
  clear h
  by_cases hn : s.size - i < 2
  · have hsz : decide ((s.size : Int) - (i : Int) < 2) = true := by simp; omega
    have HR : Hid (runeF (s.size - i) (byt s i) = 0) := runeF_short _ _ H128.out (by rw [HCl.out]; exact hn)
    go_enter Tryd.func122, Tryd.ntmps122
    go_wp2
    go_ret
    exact ⟨ret_i64R (by rw [HR.out]; rfl), rfl⟩
  · have hsz : decide ((s.size : Int) - (i : Int) < 2) = false := by simp; omega
    go_enter Tryd.func122, Tryd.ntmps122
    go_wp2
    go_loop [7, 8, 9] (fun a b k => ∃ j : Nat, 1 ≤ j ∧ j ≤ 2 ∧ k = .int .i64 j ∧ a = .int .u8 (if j = 1 then 128 else 128) ∧ b = .int .u8 (if j = 1 then 191 else 191) ∧ contOk 128 191 (byt s i) (j - 1) = true) (fun _ _ k => 2 - (intOf k).toNat)
    case atStart => exact ⟨1, by omega, by omega, rfl, rfl, rfl, rfl⟩
    case round =>
      obtain ⟨j, hj1, hj2, rfl, rfl, rfl, hok⟩ := hrel
      have HO : Hid (contOk 128 191 (byt s i) (j - 1) = true) := hok
      clear hok
      rcases (show j = 1 ∨ j = 2 by omega) with rfl | rfl
      · have hb : i + 1 < s.size := by omega
        have HBk : Hid (byt s i 1 = (s[i + 1]).toNat) := byt_at s i 1 hb
        by_cases hbad : 128 ≤ (s[i + 1]).toNat ∧ (s[i + 1]).toNat ≤ 191
        · have t1 : decide (((s[i + 1]).toNat : Int) < 128) = false := by simp; omega
          have t2 : decide ((191 : Int) < ((s[i + 1]).toNat : Int)) = false := by simp; omega
          have HN : Hid (contOk 128 191 (byt s i) 1 = true) := by show contOk 128 191 (byt s i) 1 = true; rw [cont_one, HBk.out]; simp; omega
          clear hbad
          go_wp2
          go_round
          case rel => exact ⟨2, by omega, by omega, by go_num, by simp, by simp, HN.out⟩
          case measure => simp [intOf]
        · have HN : Hid (contOk 128 191 (byt s i) 1 = false) := by
            show contOk 128 191 (byt s i) 1 = false; rw [cont_one, HBk.out, Bool.eq_false_iff]; simp; omega
          have HR : Hid (runeF (s.size - i) (byt s i) = 0) := runeF_bad _ 2 128 191 1 _ H128.out HCl.out (by omega) HN.out
          by_cases hlo : (s[i + 1]).toNat < 128
          · have t1 : decide (((s[i + 1]).toNat : Int) < 128) = true := by simp; omega
            clear hbad
            go_wp2
            go_ret
            exact ⟨ret_i64R (by rw [HR.out]; rfl), rfl⟩
          · have t1 : decide (((s[i + 1]).toNat : Int) < 128) = false := by simp; omega
            have t2 : decide ((191 : Int) < ((s[i + 1]).toNat : Int)) = true := by simp; omega
            clear hbad
            go_wp2
            go_ret
            exact ⟨ret_i64R (by rw [HR.out]; rfl), rfl⟩
      · have HR : Hid (runeF (s.size - i) (byt s i) = 2) := runeF_ok _ 2 128 191 _ H128.out HCl.out (by decide) (by omega) HO.out
        go_wp2
        go_ret
        exact ⟨ret_i64R (by rw [HR.out]; rfl), rfl⟩

set_option maxRecDepth 100000 in
set_option maxHeartbeats 1000000 in
theorem rune_e0 (s : ByteArray) (i : Nat) (w : World) (hi : i < s.size) (hs : s.size ≤ 9223372036854775807) (h : (s[i]).toNat = 224) :
    Calls Tryd.prog 122 #[.string s, .int .i64 i] w fun e w' => e = .returned (.int .i64 (runeF (s.size - i) (byt s i) : Nat)) ∧ w' = w := by
  have h1 : decide ((i : Int) < 0) = false := by simp
  have h2 : decide ((s.size : Int) ≤ (i : Int)) = false := by simp; omega
  have h2n : decide (s.size ≤ i) = false := by simp; omega
  have HB : Hid (byt s i 0 = (s[i]).toNat) := byt_at s i 0 hi
  have lt128 : decide (((s[i]).toNat : Int) < 128) = false := by simp; omega
  have g194 : decide ((194 : Int) ≤ ((s[i]).toNat : Int)) = true := by simp; omega
  have l223 : decide (((s[i]).toNat : Int) ≤ 223) = false := by simp; omega
  have g224 : decide ((224 : Int) ≤ ((s[i]).toNat : Int)) = true := by simp; omega
  have l239 : decide (((s[i]).toNat : Int) ≤ 239) = true := by simp; omega
  have g240 : decide ((240 : Int) ≤ ((s[i]).toNat : Int)) = false := by simp; omega
  have l244 : decide (((s[i]).toNat : Int) ≤ 244) = true := by simp; omega
  have e224 : (((s[i]).toNat : Int) == 224) = true := by rw [beq_iff_eq]; omega
  have e237 : (((s[i]).toNat : Int) == 237) = false := by rw [beq_eq_false_iff_ne]; omega
  have e240 : (((s[i]).toNat : Int) == 240) = false := by rw [beq_eq_false_iff_ne]; omega
  have e244 : (((s[i]).toNat : Int) == 244) = false := by rw [beq_eq_false_iff_ne]; omega
  have HCl : Hid (cls (byt s i 0) = (3, 160, 191)) := by
    show cls (byt s i 0) = _
    rw [HB.out]; unfold cls; repeat (first | rw [if_pos (by omega)] | rw [if_neg (by omega)])
  have H128 : Hid (128 ≤ byt s i 0) := by show 128 ≤ byt s i 0; rw [HB.out]; omega
  clear h
  by_cases hn : s.size - i < 3
  · have hsz : decide ((s.size : Int) - (i : Int) < 3) = true := by simp; omega
    have HR : Hid (runeF (s.size - i) (byt s i) = 0) := runeF_short _ _ H128.out (by rw [HCl.out]; exact hn)
    go_enter Tryd.func122, Tryd.ntmps122
    go_wp2
    go_ret
    exact ⟨ret_i64R (by rw [HR.out]; rfl), rfl⟩
  · have hsz : decide ((s.size : Int) - (i : Int) < 3) = false := by simp; omega
    go_enter Tryd.func122, Tryd.ntmps122
    go_wp2
    go_loop [7, 8, 9] (fun a b k => ∃ j : Nat, 1 ≤ j ∧ j ≤ 3 ∧ k = .int .i64 j ∧ a = .int .u8 (if j = 1 then 160 else 128) ∧ b = .int .u8 (if j = 1 then 191 else 191) ∧ contOk 160 191 (byt s i) (j - 1) = true) (fun _ _ k => 3 - (intOf k).toNat)
    case atStart => exact ⟨1, by omega, by omega, rfl, rfl, rfl, rfl⟩
    case round =>
      obtain ⟨j, hj1, hj2, rfl, rfl, rfl, hok⟩ := hrel
      have HO : Hid (contOk 160 191 (byt s i) (j - 1) = true) := hok
      clear hok
      rcases (show j = 1 ∨ j = 2 ∨ j = 3 by omega) with rfl | rfl | rfl
      · have hb : i + 1 < s.size := by omega
        have HBk : Hid (byt s i 1 = (s[i + 1]).toNat) := byt_at s i 1 hb
        by_cases hbad : 160 ≤ (s[i + 1]).toNat ∧ (s[i + 1]).toNat ≤ 191
        · have t1 : decide (((s[i + 1]).toNat : Int) < 160) = false := by simp; omega
          have t2 : decide ((191 : Int) < ((s[i + 1]).toNat : Int)) = false := by simp; omega
          have HN : Hid (contOk 160 191 (byt s i) 1 = true) := by show contOk 160 191 (byt s i) 1 = true; rw [cont_one, HBk.out]; simp; omega
          clear hbad
          go_wp2
          go_round
          case rel => exact ⟨2, by omega, by omega, by go_num, by simp, by simp, HN.out⟩
          case measure => simp [intOf]
        · have HN : Hid (contOk 160 191 (byt s i) 1 = false) := by
            show contOk 160 191 (byt s i) 1 = false; rw [cont_one, HBk.out, Bool.eq_false_iff]; simp; omega
          have HR : Hid (runeF (s.size - i) (byt s i) = 0) := runeF_bad _ 3 160 191 1 _ H128.out HCl.out (by omega) HN.out
          by_cases hlo : (s[i + 1]).toNat < 160
          · have t1 : decide (((s[i + 1]).toNat : Int) < 160) = true := by simp; omega
            clear hbad
            go_wp2
            go_ret
            exact ⟨ret_i64R (by rw [HR.out]; rfl), rfl⟩
          · have t1 : decide (((s[i + 1]).toNat : Int) < 160) = false := by simp; omega
            have t2 : decide ((191 : Int) < ((s[i + 1]).toNat : Int)) = true := by simp; omega
            clear hbad
            go_wp2
            go_ret
            exact ⟨ret_i64R (by rw [HR.out]; rfl), rfl⟩
      · have hb : i + 2 < s.size := by omega
        have HBk : Hid (byt s i 2 = (s[i + 2]).toNat) := byt_at s i 2 hb
        by_cases hbad : 128 ≤ (s[i + 2]).toNat ∧ (s[i + 2]).toNat ≤ 191
        · have t1 : decide (((s[i + 2]).toNat : Int) < 128) = false := by simp; omega
          have t2 : decide ((191 : Int) < ((s[i + 2]).toNat : Int)) = false := by simp; omega
          have HN : Hid (contOk 160 191 (byt s i) 2 = true) := by show contOk 160 191 (byt s i) 2 = true; rw [cont_more, HBk.out]; have := HO.out; simp at this; simp [this]; omega
          clear hbad
          go_wp2
          go_round
          case rel => exact ⟨3, by omega, by omega, by go_num, by simp, by simp, HN.out⟩
          case measure => simp [intOf]
        · have HN : Hid (contOk 160 191 (byt s i) 2 = false) := by
            show contOk 160 191 (byt s i) 2 = false; rw [cont_more, HBk.out, Bool.eq_false_iff]; simp; omega
          have HR : Hid (runeF (s.size - i) (byt s i) = 0) := runeF_bad _ 3 160 191 2 _ H128.out HCl.out (by omega) HN.out
          by_cases hlo : (s[i + 2]).toNat < 128
          · have t1 : decide (((s[i + 2]).toNat : Int) < 128) = true := by simp; omega
            clear hbad
            go_wp2
            go_ret
            exact ⟨ret_i64R (by rw [HR.out]; rfl), rfl⟩
          · have t1 : decide (((s[i + 2]).toNat : Int) < 128) = false := by simp; omega
            have t2 : decide ((191 : Int) < ((s[i + 2]).toNat : Int)) = true := by simp; omega
            clear hbad
            go_wp2
            go_ret
            exact ⟨ret_i64R (by rw [HR.out]; rfl), rfl⟩
      · have HR : Hid (runeF (s.size - i) (byt s i) = 3) := runeF_ok _ 3 160 191 _ H128.out HCl.out (by decide) (by omega) HO.out
        go_wp2
        go_ret
        exact ⟨ret_i64R (by rw [HR.out]; rfl), rfl⟩

set_option maxRecDepth 100000 in
set_option maxHeartbeats 1000000 in
theorem rune_three (s : ByteArray) (i : Nat) (w : World) (hi : i < s.size) (hs : s.size ≤ 9223372036854775807) (h : 224 < (s[i]).toNat ∧ (s[i]).toNat < 240 ∧ (s[i]).toNat ≠ 237) :
    Calls Tryd.prog 122 #[.string s, .int .i64 i] w fun e w' => e = .returned (.int .i64 (runeF (s.size - i) (byt s i) : Nat)) ∧ w' = w := by
  have h1 : decide ((i : Int) < 0) = false := by simp
  have h2 : decide ((s.size : Int) ≤ (i : Int)) = false := by simp; omega
  have h2n : decide (s.size ≤ i) = false := by simp; omega
  have HB : Hid (byt s i 0 = (s[i]).toNat) := byt_at s i 0 hi
  have lt128 : decide (((s[i]).toNat : Int) < 128) = false := by simp; omega
  have g194 : decide ((194 : Int) ≤ ((s[i]).toNat : Int)) = true := by simp; omega
  have l223 : decide (((s[i]).toNat : Int) ≤ 223) = false := by simp; omega
  have g224 : decide ((224 : Int) ≤ ((s[i]).toNat : Int)) = true := by simp; omega
  have l239 : decide (((s[i]).toNat : Int) ≤ 239) = true := by simp; omega
  have g240 : decide ((240 : Int) ≤ ((s[i]).toNat : Int)) = false := by simp; omega
  have l244 : decide (((s[i]).toNat : Int) ≤ 244) = true := by simp; omega
  have e224 : (((s[i]).toNat : Int) == 224) = false := by rw [beq_eq_false_iff_ne]; omega
  have e237 : (((s[i]).toNat : Int) == 237) = false := by rw [beq_eq_false_iff_ne]; omega
  have e240 : (((s[i]).toNat : Int) == 240) = false := by rw [beq_eq_false_iff_ne]; omega
  have e244 : (((s[i]).toNat : Int) == 244) = false := by rw [beq_eq_false_iff_ne]; omega
  have HCl : Hid (cls (byt s i 0) = (3, 128, 191)) := by
    show cls (byt s i 0) = _
    rw [HB.out]; unfold cls; repeat (first | rw [if_pos (by omega)] | rw [if_neg (by omega)])
  have H128 : Hid (128 ≤ byt s i 0) := by show 128 ≤ byt s i 0; rw [HB.out]; omega
  clear h
  by_cases hn : s.size - i < 3
  · have hsz : decide ((s.size : Int) - (i : Int) < 3) = true := by simp; omega
    have HR : Hid (runeF (s.size - i) (byt s i) = 0) := runeF_short _ _ H128.out (by rw [HCl.out]; exact hn)
    go_enter Tryd.func122, Tryd.ntmps122
    go_wp2
    go_ret
    exact ⟨ret_i64R (by rw [HR.out]; rfl), rfl⟩
  · have hsz : decide ((s.size : Int) - (i : Int) < 3) = false := by simp; omega
    go_enter Tryd.func122, Tryd.ntmps122
    go_wp2
    go_loop [7, 8, 9] (fun a b k => ∃ j : Nat, 1 ≤ j ∧ j ≤ 3 ∧ k = .int .i64 j ∧ a = .int .u8 (if j = 1 then 128 else 128) ∧ b = .int .u8 (if j = 1 then 191 else 191) ∧ contOk 128 191 (byt s i) (j - 1) = true) (fun _ _ k => 3 - (intOf k).toNat)
    case atStart => exact ⟨1, by omega, by omega, rfl, rfl, rfl, rfl⟩
    case round =>
      obtain ⟨j, hj1, hj2, rfl, rfl, rfl, hok⟩ := hrel
      have HO : Hid (contOk 128 191 (byt s i) (j - 1) = true) := hok
      clear hok
      rcases (show j = 1 ∨ j = 2 ∨ j = 3 by omega) with rfl | rfl | rfl
      · have hb : i + 1 < s.size := by omega
        have HBk : Hid (byt s i 1 = (s[i + 1]).toNat) := byt_at s i 1 hb
        by_cases hbad : 128 ≤ (s[i + 1]).toNat ∧ (s[i + 1]).toNat ≤ 191
        · have t1 : decide (((s[i + 1]).toNat : Int) < 128) = false := by simp; omega
          have t2 : decide ((191 : Int) < ((s[i + 1]).toNat : Int)) = false := by simp; omega
          have HN : Hid (contOk 128 191 (byt s i) 1 = true) := by show contOk 128 191 (byt s i) 1 = true; rw [cont_one, HBk.out]; simp; omega
          clear hbad
          go_wp2
          go_round
          case rel => exact ⟨2, by omega, by omega, by go_num, by simp, by simp, HN.out⟩
          case measure => simp [intOf]
        · have HN : Hid (contOk 128 191 (byt s i) 1 = false) := by
            show contOk 128 191 (byt s i) 1 = false; rw [cont_one, HBk.out, Bool.eq_false_iff]; simp; omega
          have HR : Hid (runeF (s.size - i) (byt s i) = 0) := runeF_bad _ 3 128 191 1 _ H128.out HCl.out (by omega) HN.out
          by_cases hlo : (s[i + 1]).toNat < 128
          · have t1 : decide (((s[i + 1]).toNat : Int) < 128) = true := by simp; omega
            clear hbad
            go_wp2
            go_ret
            exact ⟨ret_i64R (by rw [HR.out]; rfl), rfl⟩
          · have t1 : decide (((s[i + 1]).toNat : Int) < 128) = false := by simp; omega
            have t2 : decide ((191 : Int) < ((s[i + 1]).toNat : Int)) = true := by simp; omega
            clear hbad
            go_wp2
            go_ret
            exact ⟨ret_i64R (by rw [HR.out]; rfl), rfl⟩
      · have hb : i + 2 < s.size := by omega
        have HBk : Hid (byt s i 2 = (s[i + 2]).toNat) := byt_at s i 2 hb
        by_cases hbad : 128 ≤ (s[i + 2]).toNat ∧ (s[i + 2]).toNat ≤ 191
        · have t1 : decide (((s[i + 2]).toNat : Int) < 128) = false := by simp; omega
          have t2 : decide ((191 : Int) < ((s[i + 2]).toNat : Int)) = false := by simp; omega
          have HN : Hid (contOk 128 191 (byt s i) 2 = true) := by show contOk 128 191 (byt s i) 2 = true; rw [cont_more, HBk.out]; have := HO.out; simp at this; simp [this]; omega
          clear hbad
          go_wp2
          go_round
          case rel => exact ⟨3, by omega, by omega, by go_num, by simp, by simp, HN.out⟩
          case measure => simp [intOf]
        · have HN : Hid (contOk 128 191 (byt s i) 2 = false) := by
            show contOk 128 191 (byt s i) 2 = false; rw [cont_more, HBk.out, Bool.eq_false_iff]; simp; omega
          have HR : Hid (runeF (s.size - i) (byt s i) = 0) := runeF_bad _ 3 128 191 2 _ H128.out HCl.out (by omega) HN.out
          by_cases hlo : (s[i + 2]).toNat < 128
          · have t1 : decide (((s[i + 2]).toNat : Int) < 128) = true := by simp; omega
            clear hbad
            go_wp2
            go_ret
            exact ⟨ret_i64R (by rw [HR.out]; rfl), rfl⟩
          · have t1 : decide (((s[i + 2]).toNat : Int) < 128) = false := by simp; omega
            have t2 : decide ((191 : Int) < ((s[i + 2]).toNat : Int)) = true := by simp; omega
            clear hbad
            go_wp2
            go_ret
            exact ⟨ret_i64R (by rw [HR.out]; rfl), rfl⟩
      · have HR : Hid (runeF (s.size - i) (byt s i) = 3) := runeF_ok _ 3 128 191 _ H128.out HCl.out (by decide) (by omega) HO.out
        go_wp2
        go_ret
        exact ⟨ret_i64R (by rw [HR.out]; rfl), rfl⟩

set_option maxRecDepth 100000 in
set_option maxHeartbeats 1000000 in
theorem rune_ed (s : ByteArray) (i : Nat) (w : World) (hi : i < s.size) (hs : s.size ≤ 9223372036854775807) (h : (s[i]).toNat = 237) :
    Calls Tryd.prog 122 #[.string s, .int .i64 i] w fun e w' => e = .returned (.int .i64 (runeF (s.size - i) (byt s i) : Nat)) ∧ w' = w := by
  have h1 : decide ((i : Int) < 0) = false := by simp
  have h2 : decide ((s.size : Int) ≤ (i : Int)) = false := by simp; omega
  have h2n : decide (s.size ≤ i) = false := by simp; omega
  have HB : Hid (byt s i 0 = (s[i]).toNat) := byt_at s i 0 hi
  have lt128 : decide (((s[i]).toNat : Int) < 128) = false := by simp; omega
  have g194 : decide ((194 : Int) ≤ ((s[i]).toNat : Int)) = true := by simp; omega
  have l223 : decide (((s[i]).toNat : Int) ≤ 223) = false := by simp; omega
  have g224 : decide ((224 : Int) ≤ ((s[i]).toNat : Int)) = true := by simp; omega
  have l239 : decide (((s[i]).toNat : Int) ≤ 239) = true := by simp; omega
  have g240 : decide ((240 : Int) ≤ ((s[i]).toNat : Int)) = false := by simp; omega
  have l244 : decide (((s[i]).toNat : Int) ≤ 244) = true := by simp; omega
  have e224 : (((s[i]).toNat : Int) == 224) = false := by rw [beq_eq_false_iff_ne]; omega
  have e237 : (((s[i]).toNat : Int) == 237) = true := by rw [beq_iff_eq]; omega
  have e240 : (((s[i]).toNat : Int) == 240) = false := by rw [beq_eq_false_iff_ne]; omega
  have e244 : (((s[i]).toNat : Int) == 244) = false := by rw [beq_eq_false_iff_ne]; omega
  have HCl : Hid (cls (byt s i 0) = (3, 128, 159)) := by
    show cls (byt s i 0) = _
    rw [HB.out]; unfold cls; repeat (first | rw [if_pos (by omega)] | rw [if_neg (by omega)])
  have H128 : Hid (128 ≤ byt s i 0) := by show 128 ≤ byt s i 0; rw [HB.out]; omega
  clear h
  by_cases hn : s.size - i < 3
  · have hsz : decide ((s.size : Int) - (i : Int) < 3) = true := by simp; omega
    have HR : Hid (runeF (s.size - i) (byt s i) = 0) := runeF_short _ _ H128.out (by rw [HCl.out]; exact hn)
    go_enter Tryd.func122, Tryd.ntmps122
    go_wp2
    go_ret
    exact ⟨ret_i64R (by rw [HR.out]; rfl), rfl⟩
  · have hsz : decide ((s.size : Int) - (i : Int) < 3) = false := by simp; omega
    go_enter Tryd.func122, Tryd.ntmps122
    go_wp2
    go_loop [7, 8, 9] (fun a b k => ∃ j : Nat, 1 ≤ j ∧ j ≤ 3 ∧ k = .int .i64 j ∧ a = .int .u8 (if j = 1 then 128 else 128) ∧ b = .int .u8 (if j = 1 then 159 else 191) ∧ contOk 128 159 (byt s i) (j - 1) = true) (fun _ _ k => 3 - (intOf k).toNat)
    case atStart => exact ⟨1, by omega, by omega, rfl, rfl, rfl, rfl⟩
    case round =>
      obtain ⟨j, hj1, hj2, rfl, rfl, rfl, hok⟩ := hrel
      have HO : Hid (contOk 128 159 (byt s i) (j - 1) = true) := hok
      clear hok
      rcases (show j = 1 ∨ j = 2 ∨ j = 3 by omega) with rfl | rfl | rfl
      · have hb : i + 1 < s.size := by omega
        have HBk : Hid (byt s i 1 = (s[i + 1]).toNat) := byt_at s i 1 hb
        by_cases hbad : 128 ≤ (s[i + 1]).toNat ∧ (s[i + 1]).toNat ≤ 159
        · have t1 : decide (((s[i + 1]).toNat : Int) < 128) = false := by simp; omega
          have t2 : decide ((159 : Int) < ((s[i + 1]).toNat : Int)) = false := by simp; omega
          have HN : Hid (contOk 128 159 (byt s i) 1 = true) := by show contOk 128 159 (byt s i) 1 = true; rw [cont_one, HBk.out]; simp; omega
          clear hbad
          go_wp2
          go_round
          case rel => exact ⟨2, by omega, by omega, by go_num, by simp, by simp, HN.out⟩
          case measure => simp [intOf]
        · have HN : Hid (contOk 128 159 (byt s i) 1 = false) := by
            show contOk 128 159 (byt s i) 1 = false; rw [cont_one, HBk.out, Bool.eq_false_iff]; simp; omega
          have HR : Hid (runeF (s.size - i) (byt s i) = 0) := runeF_bad _ 3 128 159 1 _ H128.out HCl.out (by omega) HN.out
          by_cases hlo : (s[i + 1]).toNat < 128
          · have t1 : decide (((s[i + 1]).toNat : Int) < 128) = true := by simp; omega
            clear hbad
            go_wp2
            go_ret
            exact ⟨ret_i64R (by rw [HR.out]; rfl), rfl⟩
          · have t1 : decide (((s[i + 1]).toNat : Int) < 128) = false := by simp; omega
            have t2 : decide ((159 : Int) < ((s[i + 1]).toNat : Int)) = true := by simp; omega
            clear hbad
            go_wp2
            go_ret
            exact ⟨ret_i64R (by rw [HR.out]; rfl), rfl⟩
      · have hb : i + 2 < s.size := by omega
        have HBk : Hid (byt s i 2 = (s[i + 2]).toNat) := byt_at s i 2 hb
        by_cases hbad : 128 ≤ (s[i + 2]).toNat ∧ (s[i + 2]).toNat ≤ 191
        · have t1 : decide (((s[i + 2]).toNat : Int) < 128) = false := by simp; omega
          have t2 : decide ((191 : Int) < ((s[i + 2]).toNat : Int)) = false := by simp; omega
          have HN : Hid (contOk 128 159 (byt s i) 2 = true) := by show contOk 128 159 (byt s i) 2 = true; rw [cont_more, HBk.out]; have := HO.out; simp at this; simp [this]; omega
          clear hbad
          go_wp2
          go_round
          case rel => exact ⟨3, by omega, by omega, by go_num, by simp, by simp, HN.out⟩
          case measure => simp [intOf]
        · have HN : Hid (contOk 128 159 (byt s i) 2 = false) := by
            show contOk 128 159 (byt s i) 2 = false; rw [cont_more, HBk.out, Bool.eq_false_iff]; simp; omega
          have HR : Hid (runeF (s.size - i) (byt s i) = 0) := runeF_bad _ 3 128 159 2 _ H128.out HCl.out (by omega) HN.out
          by_cases hlo : (s[i + 2]).toNat < 128
          · have t1 : decide (((s[i + 2]).toNat : Int) < 128) = true := by simp; omega
            clear hbad
            go_wp2
            go_ret
            exact ⟨ret_i64R (by rw [HR.out]; rfl), rfl⟩
          · have t1 : decide (((s[i + 2]).toNat : Int) < 128) = false := by simp; omega
            have t2 : decide ((191 : Int) < ((s[i + 2]).toNat : Int)) = true := by simp; omega
            clear hbad
            go_wp2
            go_ret
            exact ⟨ret_i64R (by rw [HR.out]; rfl), rfl⟩
      · have HR : Hid (runeF (s.size - i) (byt s i) = 3) := runeF_ok _ 3 128 159 _ H128.out HCl.out (by decide) (by omega) HO.out
        go_wp2
        go_ret
        exact ⟨ret_i64R (by rw [HR.out]; rfl), rfl⟩

set_option maxRecDepth 100000 in
set_option maxHeartbeats 1000000 in
theorem rune_f0 (s : ByteArray) (i : Nat) (w : World) (hi : i < s.size) (hs : s.size ≤ 9223372036854775807) (h : (s[i]).toNat = 240) :
    Calls Tryd.prog 122 #[.string s, .int .i64 i] w fun e w' => e = .returned (.int .i64 (runeF (s.size - i) (byt s i) : Nat)) ∧ w' = w := by
  have h1 : decide ((i : Int) < 0) = false := by simp
  have h2 : decide ((s.size : Int) ≤ (i : Int)) = false := by simp; omega
  have h2n : decide (s.size ≤ i) = false := by simp; omega
  have HB : Hid (byt s i 0 = (s[i]).toNat) := byt_at s i 0 hi
  have lt128 : decide (((s[i]).toNat : Int) < 128) = false := by simp; omega
  have g194 : decide ((194 : Int) ≤ ((s[i]).toNat : Int)) = true := by simp; omega
  have l223 : decide (((s[i]).toNat : Int) ≤ 223) = false := by simp; omega
  have g224 : decide ((224 : Int) ≤ ((s[i]).toNat : Int)) = true := by simp; omega
  have l239 : decide (((s[i]).toNat : Int) ≤ 239) = false := by simp; omega
  have g240 : decide ((240 : Int) ≤ ((s[i]).toNat : Int)) = true := by simp; omega
  have l244 : decide (((s[i]).toNat : Int) ≤ 244) = true := by simp; omega
  have e224 : (((s[i]).toNat : Int) == 224) = false := by rw [beq_eq_false_iff_ne]; omega
  have e237 : (((s[i]).toNat : Int) == 237) = false := by rw [beq_eq_false_iff_ne]; omega
  have e240 : (((s[i]).toNat : Int) == 240) = true := by rw [beq_iff_eq]; omega
  have e244 : (((s[i]).toNat : Int) == 244) = false := by rw [beq_eq_false_iff_ne]; omega
  have HCl : Hid (cls (byt s i 0) = (4, 144, 191)) := by
    show cls (byt s i 0) = _
    rw [HB.out]; unfold cls; repeat (first | rw [if_pos (by omega)] | rw [if_neg (by omega)])
  have H128 : Hid (128 ≤ byt s i 0) := by show 128 ≤ byt s i 0; rw [HB.out]; omega
  clear h
  by_cases hn : s.size - i < 4
  · have hsz : decide ((s.size : Int) - (i : Int) < 4) = true := by simp; omega
    have HR : Hid (runeF (s.size - i) (byt s i) = 0) := runeF_short _ _ H128.out (by rw [HCl.out]; exact hn)
    go_enter Tryd.func122, Tryd.ntmps122
    go_wp2
    go_ret
    exact ⟨ret_i64R (by rw [HR.out]; rfl), rfl⟩
  · have hsz : decide ((s.size : Int) - (i : Int) < 4) = false := by simp; omega
    go_enter Tryd.func122, Tryd.ntmps122
    go_wp2
    go_loop [7, 8, 9] (fun a b k => ∃ j : Nat, 1 ≤ j ∧ j ≤ 4 ∧ k = .int .i64 j ∧ a = .int .u8 (if j = 1 then 144 else 128) ∧ b = .int .u8 (if j = 1 then 191 else 191) ∧ contOk 144 191 (byt s i) (j - 1) = true) (fun _ _ k => 4 - (intOf k).toNat)
    case atStart => exact ⟨1, by omega, by omega, rfl, rfl, rfl, rfl⟩
    case round =>
      obtain ⟨j, hj1, hj2, rfl, rfl, rfl, hok⟩ := hrel
      have HO : Hid (contOk 144 191 (byt s i) (j - 1) = true) := hok
      clear hok
      rcases (show j = 1 ∨ j = 2 ∨ j = 3 ∨ j = 4 by omega) with rfl | rfl | rfl | rfl
      · have hb : i + 1 < s.size := by omega
        have HBk : Hid (byt s i 1 = (s[i + 1]).toNat) := byt_at s i 1 hb
        by_cases hbad : 144 ≤ (s[i + 1]).toNat ∧ (s[i + 1]).toNat ≤ 191
        · have t1 : decide (((s[i + 1]).toNat : Int) < 144) = false := by simp; omega
          have t2 : decide ((191 : Int) < ((s[i + 1]).toNat : Int)) = false := by simp; omega
          have HN : Hid (contOk 144 191 (byt s i) 1 = true) := by show contOk 144 191 (byt s i) 1 = true; rw [cont_one, HBk.out]; simp; omega
          clear hbad
          go_wp2
          go_round
          case rel => exact ⟨2, by omega, by omega, by go_num, by simp, by simp, HN.out⟩
          case measure => simp [intOf]
        · have HN : Hid (contOk 144 191 (byt s i) 1 = false) := by
            show contOk 144 191 (byt s i) 1 = false; rw [cont_one, HBk.out, Bool.eq_false_iff]; simp; omega
          have HR : Hid (runeF (s.size - i) (byt s i) = 0) := runeF_bad _ 4 144 191 1 _ H128.out HCl.out (by omega) HN.out
          by_cases hlo : (s[i + 1]).toNat < 144
          · have t1 : decide (((s[i + 1]).toNat : Int) < 144) = true := by simp; omega
            clear hbad
            go_wp2
            go_ret
            exact ⟨ret_i64R (by rw [HR.out]; rfl), rfl⟩
          · have t1 : decide (((s[i + 1]).toNat : Int) < 144) = false := by simp; omega
            have t2 : decide ((191 : Int) < ((s[i + 1]).toNat : Int)) = true := by simp; omega
            clear hbad
            go_wp2
            go_ret
            exact ⟨ret_i64R (by rw [HR.out]; rfl), rfl⟩
      · have hb : i + 2 < s.size := by omega
        have HBk : Hid (byt s i 2 = (s[i + 2]).toNat) := byt_at s i 2 hb
        by_cases hbad : 128 ≤ (s[i + 2]).toNat ∧ (s[i + 2]).toNat ≤ 191
        · have t1 : decide (((s[i + 2]).toNat : Int) < 128) = false := by simp; omega
          have t2 : decide ((191 : Int) < ((s[i + 2]).toNat : Int)) = false := by simp; omega
          have HN : Hid (contOk 144 191 (byt s i) 2 = true) := by show contOk 144 191 (byt s i) 2 = true; rw [cont_more, HBk.out]; have := HO.out; simp at this; simp [this]; omega
          clear hbad
          go_wp2
          go_round
          case rel => exact ⟨3, by omega, by omega, by go_num, by simp, by simp, HN.out⟩
          case measure => simp [intOf]
        · have HN : Hid (contOk 144 191 (byt s i) 2 = false) := by
            show contOk 144 191 (byt s i) 2 = false; rw [cont_more, HBk.out, Bool.eq_false_iff]; simp; omega
          have HR : Hid (runeF (s.size - i) (byt s i) = 0) := runeF_bad _ 4 144 191 2 _ H128.out HCl.out (by omega) HN.out
          by_cases hlo : (s[i + 2]).toNat < 128
          · have t1 : decide (((s[i + 2]).toNat : Int) < 128) = true := by simp; omega
            clear hbad
            go_wp2
            go_ret
            exact ⟨ret_i64R (by rw [HR.out]; rfl), rfl⟩
          · have t1 : decide (((s[i + 2]).toNat : Int) < 128) = false := by simp; omega
            have t2 : decide ((191 : Int) < ((s[i + 2]).toNat : Int)) = true := by simp; omega
            clear hbad
            go_wp2
            go_ret
            exact ⟨ret_i64R (by rw [HR.out]; rfl), rfl⟩
      · have hb : i + 3 < s.size := by omega
        have HBk : Hid (byt s i 3 = (s[i + 3]).toNat) := byt_at s i 3 hb
        by_cases hbad : 128 ≤ (s[i + 3]).toNat ∧ (s[i + 3]).toNat ≤ 191
        · have t1 : decide (((s[i + 3]).toNat : Int) < 128) = false := by simp; omega
          have t2 : decide ((191 : Int) < ((s[i + 3]).toNat : Int)) = false := by simp; omega
          have HN : Hid (contOk 144 191 (byt s i) 3 = true) := by show contOk 144 191 (byt s i) 3 = true; rw [cont_more, HBk.out]; have := HO.out; simp at this; simp [this]; omega
          clear hbad
          go_wp2
          go_round
          case rel => exact ⟨4, by omega, by omega, by go_num, by simp, by simp, HN.out⟩
          case measure => simp [intOf]
        · have HN : Hid (contOk 144 191 (byt s i) 3 = false) := by
            show contOk 144 191 (byt s i) 3 = false; rw [cont_more, HBk.out, Bool.eq_false_iff]; simp; omega
          have HR : Hid (runeF (s.size - i) (byt s i) = 0) := runeF_bad _ 4 144 191 3 _ H128.out HCl.out (by omega) HN.out
          by_cases hlo : (s[i + 3]).toNat < 128
          · have t1 : decide (((s[i + 3]).toNat : Int) < 128) = true := by simp; omega
            clear hbad
            go_wp2
            go_ret
            exact ⟨ret_i64R (by rw [HR.out]; rfl), rfl⟩
          · have t1 : decide (((s[i + 3]).toNat : Int) < 128) = false := by simp; omega
            have t2 : decide ((191 : Int) < ((s[i + 3]).toNat : Int)) = true := by simp; omega
            clear hbad
            go_wp2
            go_ret
            exact ⟨ret_i64R (by rw [HR.out]; rfl), rfl⟩
      · have HR : Hid (runeF (s.size - i) (byt s i) = 4) := runeF_ok _ 4 144 191 _ H128.out HCl.out (by decide) (by omega) HO.out
        go_wp2
        go_ret
        exact ⟨ret_i64R (by rw [HR.out]; rfl), rfl⟩

set_option maxRecDepth 100000 in
set_option maxHeartbeats 1000000 in
theorem rune_four (s : ByteArray) (i : Nat) (w : World) (hi : i < s.size) (hs : s.size ≤ 9223372036854775807) (h : 240 < (s[i]).toNat ∧ (s[i]).toNat < 244) :
    Calls Tryd.prog 122 #[.string s, .int .i64 i] w fun e w' => e = .returned (.int .i64 (runeF (s.size - i) (byt s i) : Nat)) ∧ w' = w := by
  have h1 : decide ((i : Int) < 0) = false := by simp
  have h2 : decide ((s.size : Int) ≤ (i : Int)) = false := by simp; omega
  have h2n : decide (s.size ≤ i) = false := by simp; omega
  have HB : Hid (byt s i 0 = (s[i]).toNat) := byt_at s i 0 hi
  have lt128 : decide (((s[i]).toNat : Int) < 128) = false := by simp; omega
  have g194 : decide ((194 : Int) ≤ ((s[i]).toNat : Int)) = true := by simp; omega
  have l223 : decide (((s[i]).toNat : Int) ≤ 223) = false := by simp; omega
  have g224 : decide ((224 : Int) ≤ ((s[i]).toNat : Int)) = true := by simp; omega
  have l239 : decide (((s[i]).toNat : Int) ≤ 239) = false := by simp; omega
  have g240 : decide ((240 : Int) ≤ ((s[i]).toNat : Int)) = true := by simp; omega
  have l244 : decide (((s[i]).toNat : Int) ≤ 244) = true := by simp; omega
  have e224 : (((s[i]).toNat : Int) == 224) = false := by rw [beq_eq_false_iff_ne]; omega
  have e237 : (((s[i]).toNat : Int) == 237) = false := by rw [beq_eq_false_iff_ne]; omega
  have e240 : (((s[i]).toNat : Int) == 240) = false := by rw [beq_eq_false_iff_ne]; omega
  have e244 : (((s[i]).toNat : Int) == 244) = false := by rw [beq_eq_false_iff_ne]; omega
  have HCl : Hid (cls (byt s i 0) = (4, 128, 191)) := by
    show cls (byt s i 0) = _
    rw [HB.out]; unfold cls; repeat (first | rw [if_pos (by omega)] | rw [if_neg (by omega)])
  have H128 : Hid (128 ≤ byt s i 0) := by show 128 ≤ byt s i 0; rw [HB.out]; omega
  clear h
  by_cases hn : s.size - i < 4
  · have hsz : decide ((s.size : Int) - (i : Int) < 4) = true := by simp; omega
    have HR : Hid (runeF (s.size - i) (byt s i) = 0) := runeF_short _ _ H128.out (by rw [HCl.out]; exact hn)
    go_enter Tryd.func122, Tryd.ntmps122
    go_wp2
    go_ret
    exact ⟨ret_i64R (by rw [HR.out]; rfl), rfl⟩
  · have hsz : decide ((s.size : Int) - (i : Int) < 4) = false := by simp; omega
    go_enter Tryd.func122, Tryd.ntmps122
    go_wp2
    go_loop [7, 8, 9] (fun a b k => ∃ j : Nat, 1 ≤ j ∧ j ≤ 4 ∧ k = .int .i64 j ∧ a = .int .u8 (if j = 1 then 128 else 128) ∧ b = .int .u8 (if j = 1 then 191 else 191) ∧ contOk 128 191 (byt s i) (j - 1) = true) (fun _ _ k => 4 - (intOf k).toNat)
    case atStart => exact ⟨1, by omega, by omega, rfl, rfl, rfl, rfl⟩
    case round =>
      obtain ⟨j, hj1, hj2, rfl, rfl, rfl, hok⟩ := hrel
      have HO : Hid (contOk 128 191 (byt s i) (j - 1) = true) := hok
      clear hok
      rcases (show j = 1 ∨ j = 2 ∨ j = 3 ∨ j = 4 by omega) with rfl | rfl | rfl | rfl
      · have hb : i + 1 < s.size := by omega
        have HBk : Hid (byt s i 1 = (s[i + 1]).toNat) := byt_at s i 1 hb
        by_cases hbad : 128 ≤ (s[i + 1]).toNat ∧ (s[i + 1]).toNat ≤ 191
        · have t1 : decide (((s[i + 1]).toNat : Int) < 128) = false := by simp; omega
          have t2 : decide ((191 : Int) < ((s[i + 1]).toNat : Int)) = false := by simp; omega
          have HN : Hid (contOk 128 191 (byt s i) 1 = true) := by show contOk 128 191 (byt s i) 1 = true; rw [cont_one, HBk.out]; simp; omega
          clear hbad
          go_wp2
          go_round
          case rel => exact ⟨2, by omega, by omega, by go_num, by simp, by simp, HN.out⟩
          case measure => simp [intOf]
        · have HN : Hid (contOk 128 191 (byt s i) 1 = false) := by
            show contOk 128 191 (byt s i) 1 = false; rw [cont_one, HBk.out, Bool.eq_false_iff]; simp; omega
          have HR : Hid (runeF (s.size - i) (byt s i) = 0) := runeF_bad _ 4 128 191 1 _ H128.out HCl.out (by omega) HN.out
          by_cases hlo : (s[i + 1]).toNat < 128
          · have t1 : decide (((s[i + 1]).toNat : Int) < 128) = true := by simp; omega
            clear hbad
            go_wp2
            go_ret
            exact ⟨ret_i64R (by rw [HR.out]; rfl), rfl⟩
          · have t1 : decide (((s[i + 1]).toNat : Int) < 128) = false := by simp; omega
            have t2 : decide ((191 : Int) < ((s[i + 1]).toNat : Int)) = true := by simp; omega
            clear hbad
            go_wp2
            go_ret
            exact ⟨ret_i64R (by rw [HR.out]; rfl), rfl⟩
      · have hb : i + 2 < s.size := by omega
        have HBk : Hid (byt s i 2 = (s[i + 2]).toNat) := byt_at s i 2 hb
        by_cases hbad : 128 ≤ (s[i + 2]).toNat ∧ (s[i + 2]).toNat ≤ 191
        · have t1 : decide (((s[i + 2]).toNat : Int) < 128) = false := by simp; omega
          have t2 : decide ((191 : Int) < ((s[i + 2]).toNat : Int)) = false := by simp; omega
          have HN : Hid (contOk 128 191 (byt s i) 2 = true) := by show contOk 128 191 (byt s i) 2 = true; rw [cont_more, HBk.out]; have := HO.out; simp at this; simp [this]; omega
          clear hbad
          go_wp2
          go_round
          case rel => exact ⟨3, by omega, by omega, by go_num, by simp, by simp, HN.out⟩
          case measure => simp [intOf]
        · have HN : Hid (contOk 128 191 (byt s i) 2 = false) := by
            show contOk 128 191 (byt s i) 2 = false; rw [cont_more, HBk.out, Bool.eq_false_iff]; simp; omega
          have HR : Hid (runeF (s.size - i) (byt s i) = 0) := runeF_bad _ 4 128 191 2 _ H128.out HCl.out (by omega) HN.out
          by_cases hlo : (s[i + 2]).toNat < 128
          · have t1 : decide (((s[i + 2]).toNat : Int) < 128) = true := by simp; omega
            clear hbad
            go_wp2
            go_ret
            exact ⟨ret_i64R (by rw [HR.out]; rfl), rfl⟩
          · have t1 : decide (((s[i + 2]).toNat : Int) < 128) = false := by simp; omega
            have t2 : decide ((191 : Int) < ((s[i + 2]).toNat : Int)) = true := by simp; omega
            clear hbad
            go_wp2
            go_ret
            exact ⟨ret_i64R (by rw [HR.out]; rfl), rfl⟩
      · have hb : i + 3 < s.size := by omega
        have HBk : Hid (byt s i 3 = (s[i + 3]).toNat) := byt_at s i 3 hb
        by_cases hbad : 128 ≤ (s[i + 3]).toNat ∧ (s[i + 3]).toNat ≤ 191
        · have t1 : decide (((s[i + 3]).toNat : Int) < 128) = false := by simp; omega
          have t2 : decide ((191 : Int) < ((s[i + 3]).toNat : Int)) = false := by simp; omega
          have HN : Hid (contOk 128 191 (byt s i) 3 = true) := by show contOk 128 191 (byt s i) 3 = true; rw [cont_more, HBk.out]; have := HO.out; simp at this; simp [this]; omega
          clear hbad
          go_wp2
          go_round
          case rel => exact ⟨4, by omega, by omega, by go_num, by simp, by simp, HN.out⟩
          case measure => simp [intOf]
        · have HN : Hid (contOk 128 191 (byt s i) 3 = false) := by
            show contOk 128 191 (byt s i) 3 = false; rw [cont_more, HBk.out, Bool.eq_false_iff]; simp; omega
          have HR : Hid (runeF (s.size - i) (byt s i) = 0) := runeF_bad _ 4 128 191 3 _ H128.out HCl.out (by omega) HN.out
          by_cases hlo : (s[i + 3]).toNat < 128
          · have t1 : decide (((s[i + 3]).toNat : Int) < 128) = true := by simp; omega
            clear hbad
            go_wp2
            go_ret
            exact ⟨ret_i64R (by rw [HR.out]; rfl), rfl⟩
          · have t1 : decide (((s[i + 3]).toNat : Int) < 128) = false := by simp; omega
            have t2 : decide ((191 : Int) < ((s[i + 3]).toNat : Int)) = true := by simp; omega
            clear hbad
            go_wp2
            go_ret
            exact ⟨ret_i64R (by rw [HR.out]; rfl), rfl⟩
      · have HR : Hid (runeF (s.size - i) (byt s i) = 4) := runeF_ok _ 4 128 191 _ H128.out HCl.out (by decide) (by omega) HO.out
        go_wp2
        go_ret
        exact ⟨ret_i64R (by rw [HR.out]; rfl), rfl⟩

set_option maxRecDepth 100000 in
set_option maxHeartbeats 1000000 in
theorem rune_f4 (s : ByteArray) (i : Nat) (w : World) (hi : i < s.size) (hs : s.size ≤ 9223372036854775807) (h : (s[i]).toNat = 244) :
    Calls Tryd.prog 122 #[.string s, .int .i64 i] w fun e w' => e = .returned (.int .i64 (runeF (s.size - i) (byt s i) : Nat)) ∧ w' = w := by
  have h1 : decide ((i : Int) < 0) = false := by simp
  have h2 : decide ((s.size : Int) ≤ (i : Int)) = false := by simp; omega
  have h2n : decide (s.size ≤ i) = false := by simp; omega
  have HB : Hid (byt s i 0 = (s[i]).toNat) := byt_at s i 0 hi
  have lt128 : decide (((s[i]).toNat : Int) < 128) = false := by simp; omega
  have g194 : decide ((194 : Int) ≤ ((s[i]).toNat : Int)) = true := by simp; omega
  have l223 : decide (((s[i]).toNat : Int) ≤ 223) = false := by simp; omega
  have g224 : decide ((224 : Int) ≤ ((s[i]).toNat : Int)) = true := by simp; omega
  have l239 : decide (((s[i]).toNat : Int) ≤ 239) = false := by simp; omega
  have g240 : decide ((240 : Int) ≤ ((s[i]).toNat : Int)) = true := by simp; omega
  have l244 : decide (((s[i]).toNat : Int) ≤ 244) = true := by simp; omega
  have e224 : (((s[i]).toNat : Int) == 224) = false := by rw [beq_eq_false_iff_ne]; omega
  have e237 : (((s[i]).toNat : Int) == 237) = false := by rw [beq_eq_false_iff_ne]; omega
  have e240 : (((s[i]).toNat : Int) == 240) = false := by rw [beq_eq_false_iff_ne]; omega
  have e244 : (((s[i]).toNat : Int) == 244) = true := by rw [beq_iff_eq]; omega
  have HCl : Hid (cls (byt s i 0) = (4, 128, 143)) := by
    show cls (byt s i 0) = _
    rw [HB.out]; unfold cls; repeat (first | rw [if_pos (by omega)] | rw [if_neg (by omega)])
  have H128 : Hid (128 ≤ byt s i 0) := by show 128 ≤ byt s i 0; rw [HB.out]; omega
  clear h
  by_cases hn : s.size - i < 4
  · have hsz : decide ((s.size : Int) - (i : Int) < 4) = true := by simp; omega
    have HR : Hid (runeF (s.size - i) (byt s i) = 0) := runeF_short _ _ H128.out (by rw [HCl.out]; exact hn)
    go_enter Tryd.func122, Tryd.ntmps122
    go_wp2
    go_ret
    exact ⟨ret_i64R (by rw [HR.out]; rfl), rfl⟩
  · have hsz : decide ((s.size : Int) - (i : Int) < 4) = false := by simp; omega
    go_enter Tryd.func122, Tryd.ntmps122
    go_wp2
    go_loop [7, 8, 9] (fun a b k => ∃ j : Nat, 1 ≤ j ∧ j ≤ 4 ∧ k = .int .i64 j ∧ a = .int .u8 (if j = 1 then 128 else 128) ∧ b = .int .u8 (if j = 1 then 143 else 191) ∧ contOk 128 143 (byt s i) (j - 1) = true) (fun _ _ k => 4 - (intOf k).toNat)
    case atStart => exact ⟨1, by omega, by omega, rfl, rfl, rfl, rfl⟩
    case round =>
      obtain ⟨j, hj1, hj2, rfl, rfl, rfl, hok⟩ := hrel
      have HO : Hid (contOk 128 143 (byt s i) (j - 1) = true) := hok
      clear hok
      rcases (show j = 1 ∨ j = 2 ∨ j = 3 ∨ j = 4 by omega) with rfl | rfl | rfl | rfl
      · have hb : i + 1 < s.size := by omega
        have HBk : Hid (byt s i 1 = (s[i + 1]).toNat) := byt_at s i 1 hb
        by_cases hbad : 128 ≤ (s[i + 1]).toNat ∧ (s[i + 1]).toNat ≤ 143
        · have t1 : decide (((s[i + 1]).toNat : Int) < 128) = false := by simp; omega
          have t2 : decide ((143 : Int) < ((s[i + 1]).toNat : Int)) = false := by simp; omega
          have HN : Hid (contOk 128 143 (byt s i) 1 = true) := by show contOk 128 143 (byt s i) 1 = true; rw [cont_one, HBk.out]; simp; omega
          clear hbad
          go_wp2
          go_round
          case rel => exact ⟨2, by omega, by omega, by go_num, by simp, by simp, HN.out⟩
          case measure => simp [intOf]
        · have HN : Hid (contOk 128 143 (byt s i) 1 = false) := by
            show contOk 128 143 (byt s i) 1 = false; rw [cont_one, HBk.out, Bool.eq_false_iff]; simp; omega
          have HR : Hid (runeF (s.size - i) (byt s i) = 0) := runeF_bad _ 4 128 143 1 _ H128.out HCl.out (by omega) HN.out
          by_cases hlo : (s[i + 1]).toNat < 128
          · have t1 : decide (((s[i + 1]).toNat : Int) < 128) = true := by simp; omega
            clear hbad
            go_wp2
            go_ret
            exact ⟨ret_i64R (by rw [HR.out]; rfl), rfl⟩
          · have t1 : decide (((s[i + 1]).toNat : Int) < 128) = false := by simp; omega
            have t2 : decide ((143 : Int) < ((s[i + 1]).toNat : Int)) = true := by simp; omega
            clear hbad
            go_wp2
            go_ret
            exact ⟨ret_i64R (by rw [HR.out]; rfl), rfl⟩
      · have hb : i + 2 < s.size := by omega
        have HBk : Hid (byt s i 2 = (s[i + 2]).toNat) := byt_at s i 2 hb
        by_cases hbad : 128 ≤ (s[i + 2]).toNat ∧ (s[i + 2]).toNat ≤ 191
        · have t1 : decide (((s[i + 2]).toNat : Int) < 128) = false := by simp; omega
          have t2 : decide ((191 : Int) < ((s[i + 2]).toNat : Int)) = false := by simp; omega
          have HN : Hid (contOk 128 143 (byt s i) 2 = true) := by show contOk 128 143 (byt s i) 2 = true; rw [cont_more, HBk.out]; have := HO.out; simp at this; simp [this]; omega
          clear hbad
          go_wp2
          go_round
          case rel => exact ⟨3, by omega, by omega, by go_num, by simp, by simp, HN.out⟩
          case measure => simp [intOf]
        · have HN : Hid (contOk 128 143 (byt s i) 2 = false) := by
            show contOk 128 143 (byt s i) 2 = false; rw [cont_more, HBk.out, Bool.eq_false_iff]; simp; omega
          have HR : Hid (runeF (s.size - i) (byt s i) = 0) := runeF_bad _ 4 128 143 2 _ H128.out HCl.out (by omega) HN.out
          by_cases hlo : (s[i + 2]).toNat < 128
          · have t1 : decide (((s[i + 2]).toNat : Int) < 128) = true := by simp; omega
            clear hbad
            go_wp2
            go_ret
            exact ⟨ret_i64R (by rw [HR.out]; rfl), rfl⟩
          · have t1 : decide (((s[i + 2]).toNat : Int) < 128) = false := by simp; omega
            have t2 : decide ((191 : Int) < ((s[i + 2]).toNat : Int)) = true := by simp; omega
            clear hbad
            go_wp2
            go_ret
            exact ⟨ret_i64R (by rw [HR.out]; rfl), rfl⟩
      · have hb : i + 3 < s.size := by omega
        have HBk : Hid (byt s i 3 = (s[i + 3]).toNat) := byt_at s i 3 hb
        by_cases hbad : 128 ≤ (s[i + 3]).toNat ∧ (s[i + 3]).toNat ≤ 191
        · have t1 : decide (((s[i + 3]).toNat : Int) < 128) = false := by simp; omega
          have t2 : decide ((191 : Int) < ((s[i + 3]).toNat : Int)) = false := by simp; omega
          have HN : Hid (contOk 128 143 (byt s i) 3 = true) := by show contOk 128 143 (byt s i) 3 = true; rw [cont_more, HBk.out]; have := HO.out; simp at this; simp [this]; omega
          clear hbad
          go_wp2
          go_round
          case rel => exact ⟨4, by omega, by omega, by go_num, by simp, by simp, HN.out⟩
          case measure => simp [intOf]
        · have HN : Hid (contOk 128 143 (byt s i) 3 = false) := by
            show contOk 128 143 (byt s i) 3 = false; rw [cont_more, HBk.out, Bool.eq_false_iff]; simp; omega
          have HR : Hid (runeF (s.size - i) (byt s i) = 0) := runeF_bad _ 4 128 143 3 _ H128.out HCl.out (by omega) HN.out
          by_cases hlo : (s[i + 3]).toNat < 128
          · have t1 : decide (((s[i + 3]).toNat : Int) < 128) = true := by simp; omega
            clear hbad
            go_wp2
            go_ret
            exact ⟨ret_i64R (by rw [HR.out]; rfl), rfl⟩
          · have t1 : decide (((s[i + 3]).toNat : Int) < 128) = false := by simp; omega
            have t2 : decide ((191 : Int) < ((s[i + 3]).toNat : Int)) = true := by simp; omega
            clear hbad
            go_wp2
            go_ret
            exact ⟨ret_i64R (by rw [HR.out]; rfl), rfl⟩
      · have HR : Hid (runeF (s.size - i) (byt s i) = 4) := runeF_ok _ 4 128 143 _ H128.out HCl.out (by decide) (by omega) HO.out
        go_wp2
        go_ret
        exact ⟨ret_i64R (by rw [HR.out]; rfl), rfl⟩

theorem rune_any (s : ByteArray) (i : Nat) (w : World) (hi : i < s.size) (hs : s.size ≤ 9223372036854775807) :
    Calls Tryd.prog 122 #[.string s, .int .i64 i] w fun e w' => e = .returned (.int .i64 (runeF (s.size - i) (byt s i) : Nat)) ∧ w' = w := by
  have hlt : (s[i]).toNat < 256 := UInt8.toNat_lt _
  rcases (show (s[i]).toNat < 128 ∨ (128 ≤ (s[i]).toNat ∧ (s[i]).toNat < 194) ∨ (245 ≤ (s[i]).toNat ∧ (s[i]).toNat < 256) ∨ (194 ≤ (s[i]).toNat ∧ (s[i]).toNat < 224) ∨ (s[i]).toNat = 224 ∨
      (224 < (s[i]).toNat ∧ (s[i]).toNat < 240 ∧ (s[i]).toNat ≠ 237) ∨ (s[i]).toNat = 237 ∨ (s[i]).toNat = 240 ∨ (240 < (s[i]).toNat ∧ (s[i]).toNat < 244) ∨ (s[i]).toNat = 244 by omega) with h | h | h | h | h | h | h | h | h | h
  · exact rune_ascii s i w hi hs h
  · exact rune_lowbad s i w hi hs h
  · exact rune_highbad s i w hi hs h
  · exact rune_two s i w hi hs h
  · exact rune_e0 s i w hi hs h
  · exact rune_three s i w hi hs h
  · exact rune_ed s i w hi hs h
  · exact rune_f0 s i w hi hs h
  · exact rune_four s i w hi hs h
  · exact rune_f4 s i w hi hs h
end Go.Proofs.YtjikibhhhchgeaaDoor
