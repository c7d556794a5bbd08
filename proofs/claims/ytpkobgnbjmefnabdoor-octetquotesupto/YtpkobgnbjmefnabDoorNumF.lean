import Derived.Test.YtpkobgnbjmefnabDoorNumR
import Derived.Test.YtpkobgnbjmefnabDoorShelfN
import Derived.Lib.BufferOwn
namespace Go.Proofs.YtpkobgnbjmefnabDoor
open Go.RowKit Go.Lib
set_option linter.unusedVariables false
set_option maxRecDepth 100000

theorem isDecN_any (c : Nat) (w : World) (hc : c < 256) : Calls Tryd.prog 71 #[.int .u8 (c : Int)] w fun e w' => e = .returned (.bool (decide (48 ≤ c) && decide (c ≤ 57))) ∧ w' = w := by
  by_cases h1 : 48 ≤ c
  · by_cases h2 : c ≤ 57
    · have hd : (decide (48 ≤ c) && decide (c ≤ 57)) = true := by simp [h1, h2]
      rw [hd]; clear hd
      go_enter Tryd.func71, Tryd.ntmps71
      go_wp2
      go_ret
      exact ⟨by congr 2; simp; omega, rfl⟩
    · have hd : (decide (48 ≤ c) && decide (c ≤ 57)) = false := by simp [h2]
      rw [hd]; clear hd
      go_enter Tryd.func71, Tryd.ntmps71
      go_wp2
      go_ret
      exact ⟨by congr 2; simp; omega, rfl⟩
  · have hd : (decide (48 ≤ c) && decide (c ≤ 57)) = false := by simp [h1]
    rw [hd]; clear hd
    have t1 : decide (48 ≤ (c : Int)) = false := by simp; omega
    go_enter Tryd.func71, Tryd.ntmps71
    go_wp2
    go_ret
    exact ⟨rfl, rfl⟩

theorem loop_ne (b : ByteArray) : ∀ (n i : Nat) (r : List UInt8), b.size - i = n → r ≠ [] → ByteArray.toList.loop b i r ≠ [] := by
  intro n
  induction n with
  | zero =>
    intro i r h hr
    rw [ByteArray.toList.loop, if_neg (by omega)]
    simpa using hr
  | succ n ih =>
    intro i r h hr
    rw [ByteArray.toList.loop, if_pos (by omega)]
    exact ih (i + 1) _ (by omega) (by simp)
theorem toList_some (s : ByteArray) (h : 0 < s.size) : s.toList.isEmpty = false := by
  have : s.toList ≠ [] := by
    unfold ByteArray.toList
    rw [ByteArray.toList.loop, if_pos h]
    exact loop_ne s _ 1 _ rfl (by simp)
  simpa using this
set_option maxHeartbeats 4000000 in
theorem decForm_any (s : ByteArray) (w : World) (hs : s.size ≤ 16777216) :
    Calls Tryd.prog 27 #[.string s] w fun e w' => e = .returned (.bool (formB s.data.toList)) ∧ ∃ q, w' = w.drewN q := by
  have HL : Hid (s.data.toList.length = s.size) := by show _ = _; simp
  have g0 := sbn_elem s 0
  by_cases h0 : s.size = 0
  · have hse : s = ⟨#[]⟩ := by
      have : s.data.size = 0 := h0
      cases s with
      | mk d => congr 1; exact Array.eq_empty_of_size_eq_zero this
    subst hse
    go_enter Tryd.func27, Tryd.ntmps27
    go_wp2
    go_ret
    exact ⟨rfl, 0, rfl⟩
  · have hs0 : 0 < s.size := by omega
    have hemp : s.toList.isEmpty = false := toList_some s hs0
    have hhd := sbn_head s hs0 48 (by decide)
    by_cases hz : sbn s 0 = 48 ∧ 1 < s.size
    · have HE : Hid (formB s.data.toList = false) := formB_zero _ (hhd.2 hz.1) (by rw [HL.out]; exact hz.2)
      rw [HE.out]
      have t1 : ((sbn s 0 : Int) == 48) = true := by rw [beq_iff_eq]; omega
      have t2 : decide (1 < (s.size : Int)) = true := by simp; omega
      have h1 : 1 < s.size := hz.2
      clear hz hhd
      go_enter Tryd.func27, Tryd.ntmps27
      go_wp2
      go_ret
      exact ⟨rfl, 0, rfl⟩
    · have HZ : Hid (¬ (s.data.toList.head? = some 48 ∧ 1 < s.data.toList.length)) := fun h => hz ⟨hhd.1 h.1, by rw [← HL.out]; exact h.2⟩
      have HNe : Hid (s.data.toList ≠ []) := fun h => by have := HL.out; rw [h] at this; simp at this; omega
      have hz' : sbn s 0 ≠ 48 ∨ s.size = 1 := by omega
      clear hz hhd
      go_enter Tryd.func27, Tryd.ntmps27
      go_wp2
      all_goals
        go_loopw [18] (fun i wr => ∃ k q : Nat, k ≤ s.size ∧ i = .int .i64 k ∧ okN s k ∧ wr = w.drewN q) (fun i _ => s.size - (RowKit.intOf i).toNat)
        case atStart => exact ⟨0, 0, Nat.zero_le _, rfl, rfl, rfl⟩
        case round =>
          obtain ⟨k, q, hk, rfl, hok, rfl⟩ := hrel
          have HOk : Hid (okN s k) := hok
          clear hok
          by_cases hlt : k < s.size
          · have hlt' : k < s.data.toList.length := by rw [HL.out]; exact hlt
            have gk := sbn_elem s k
            have hsl := sbn_list s k hlt'
            have HD : Hid (∀ W : World, Calls Tryd.prog 71 #[.int .u8 ((sbn s k : Nat) : Int)] W fun e w' => e = .returned (.bool (isDg s.data.toList[k])) ∧ w' = W) := fun W => by
              have := isDecN_any (sbn s k) W (sbn_lt s k)
              rw [← hsl] at this ⊢
              exact this
            cases hdg : isDg s.data.toList[k] with
            | false =>
              rw [hdg] at HD
              have HE : Hid (formB s.data.toList = false) := formB_bad _ k hlt' hdg
              clear hsl hdg
              generalize sbn s k = c at *
              go_wp2_with fail
              refine (HD.out _).mono ?_
              rintro e w2 ⟨rfl, hw⟩
              rw [hw]; clear hw
              go_wp2
              go_ret
              exact ⟨by rw [HE.out]; rfl, _, rfl⟩
            | true =>
              rw [hdg] at HD
              have HO2 : Hid (okN s (k + 1)) := by
                show (s.data.toList.take (k + 1)).all isDg = true
                rw [all_take_succ _ k hlt', show (s.data.toList.take k).all isDg = true from HOk.out, hdg]; rfl
              clear hsl hdg
              generalize sbn s k = c at *
              go_wp2_with fail
              refine (HD.out _).mono ?_
              rintro e w2 ⟨rfl, hw⟩
              rw [hw]; clear hw
              go_wp2
              go_roundw
              case rel => exact ⟨k + 1, _, by omega, by go_num, HO2.out, rfl⟩
              case measure => simp [RowKit.intOf]; omega
          · obtain rfl : k = s.size := by omega
            have HE : Hid (formB s.data.toList = true) := by
              refine formB_good _ HNe.out HZ.out ?_
              have h1 : (s.data.toList.take s.size).all isDg = true := HOk.out
              rwa [List.take_of_length_le (by rw [HL.out]; exact Nat.le_refl _)] at h1
            go_wp2
            go_ret
            exact ⟨by rw [HE.out]; rfl, _, rfl⟩
end Go.Proofs.YtpkobgnbjmefnabDoor
