import Derived.Test.YtpkobgnbjmefnabDoorHexW
namespace Go.Proofs.YtpkobgnbjmefnabDoor
open Go.RowKit
set_option linter.unusedVariables false
set_option maxRecDepth 100000

theorem or16 (a b : Nat) (ha : a < 16) (hb : b < 16) : bits .or .u8 ((a : Int) * 16) (b : Int) = ((16 * a + b : Nat) : Int) := by
  have := u8_or_nat (a * 16) b (by omega) (by omega)
  rw [nat_join 4 (a * 16) b (by omega) (by omega)] at this
  rw [show (a : Int) * 16 = ((a * 16 : Nat) : Int) by omega, this]; omega
theorem hvD_lt (c : Nat) : (hv c).getD 0 < 16 := by
  cases h : hv c with
  | none => decide
  | some v => exact hv_lt c v h

theorem sb_elem (s : ByteArray) (j : Nat) (h : j < s.size) : (s[j]'h).toNat = sb s j := by
  unfold sb
  have : s.get! j = s[j]'h := by
    show s.data[j]! = s.data[j]
    exact getElem!_pos s.data j h
  rw [this]
/-- what reading of digits comes to -/
def UnRes (s : ByteArray) (w : World) (e : Ending) (w' : World) : Prop :=
  ((unhexR s = none ∧ e = .returned (.tuple #[.slice none 0 0, .int .i64 15])) ∨ ∃ l ao cap, unhexR s = some l ∧ e = .returned (.tuple #[.slice ao l.length cap, .int .i64 0]) ∧ w'.ownsRow w.heap.size 5 1 (.slice ao l.length cap) l.length (l.map bv)) ∧ Below w.heap.size w w'

set_option maxHeartbeats 2000000 in
theorem unhex_any (s : ByteArray) (w : World) (hs : s.size ≤ 16777216) : Calls Tryd.prog 98 #[.string s] w (UnRes s w) := by
  obtain ⟨i0, hi, hz0, hz1, hz2⟩ := info_parts Tryd.info5
  by_cases hodd : s.size % 2 = 0
  · have HOd : Hid (s.size % 2 = 0) := hodd
    have t0 : ((s.size : Int) % 2 != 0) = false := by rw [bne_eq_false_iff_eq]; omega
    obtain ⟨m, hm⟩ : ∃ m, s.size = 2 * m := ⟨s.size / 2, by omega⟩
    have hdiv : (s.size : Int) / 2 = (m : Int) := by omega
    have HM : Hid (s.size = 2 * m) := hm
    have hm' : m ≤ 16777216 := by omega
    clear hm hodd
    go_enter Tryd.func98, Tryd.ntmps98
    go_wp2_with (at_make; refine wpList_make_own _ rfl (.const (.int .i64 0)) (.tmp 16) 37 rfl w.heap.size 5 i0 (.int .u8 0) 1 Tryd.underlying37 hi hz0 hz1 .i64 .i64 _ m rfl rfl (by omega) (by rw [hz2]; omega) (by unfold maxLen; omega) (Nat.le_refl _) ?_; intro w1 hown1 hgrow1)
    have HB1 : Hid (Below w.heap.size w w1) := (Below.refl w.heap.size w).grown hgrow1 (Nat.le_refl _) (by simp)
    have HO1 : Hid (w1.ownsRow w.heap.size 5 1 (.slice (some ⟨w.heap.size, 0, none⟩) 0 m) 0 []) := hown1
    clear hown1 hgrow1
    go_wp2
    go_loopw [4, 5] (fun v i wr => ∃ k j : Nat, j = 2 * k ∧ k ≤ m ∧ i = .int .i64 (j : Int) ∧ okTo s k = true ∧ wr.ownsRow w.heap.size 5 1 v k ((decTo s k).map bv) ∧ Below w.heap.size w wr) (fun _ i _ => s.size - (intOf i).toNat)
    case atStart => exact ⟨0, 0, rfl, Nat.zero_le _, rfl, rfl, HO1.out, HB1.out⟩
    case round =>
      obtain ⟨k, j, hj, hk, rfl, hok, hown, hb⟩ := hrel
      obtain ⟨ao, cp, hv⟩ := owns_form hown
      subst hv
      have HJ : Hid (j = 2 * k) := hj
      have HOk : Hid (okTo s k = true) := hok
      have HO : Hid (wr.ownsRow w.heap.size 5 1 (.slice ao k cp) k ((decTo s k).map bv)) := hown
      have HB : Hid (Below w.heap.size w wr) := hb
      clear hj hok hown hb
      by_cases hlt : k < m
      · have hj1 : j < s.size := by have := HJ.out; have := HM.out; omega
        have hj2 : j + 1 < s.size := by have := HJ.out; have := HM.out; omega
        have HH : Hid (∀ W : World, Calls Tryd.prog 109 #[.int .u8 ((sb s j : Nat) : Int)] W fun e w' => e = .returned (.tuple #[.int .u8 (((hv (sb s j)).getD 0 : Nat) : Int), .bool (hv (sb s j)).isSome]) ∧ w' = W) := fun W => hexValue_any _ W (sb_lt s j)
        have HL : Hid (∀ W : World, Calls Tryd.prog 109 #[.int .u8 ((sb s (j + 1) : Nat) : Int)] W fun e w' => e = .returned (.tuple #[.int .u8 (((hv (sb s (j + 1))).getD 0 : Nat) : Int), .bool (hv (sb s (j + 1))).isSome]) ∧ w' = W) := fun W => hexValue_any _ W (sb_lt s (j + 1))
        have g1 := sb_elem s j
        have g2 := sb_elem s (j + 1)
        have HPk : Hid (pairOk s k = ((hv (sb s j)).isSome && (hv (sb s (j + 1))).isSome)) := by show _ = _; rw [HJ.out]; rfl
        have HPv : Hid (pairV s k = 16 * (hv (sb s j)).getD 0 + (hv (sb s (j + 1))).getD 0) := by show _ = _; rw [HJ.out]; rfl
        have ha := hvD_lt (sb s j)
        have hb := hvD_lt (sb s (j + 1))
        have hor := or16 _ _ ha hb
        generalize (hv (sb s j)).getD 0 = a at *
        generalize (hv (sb s (j + 1))).getD 0 = b at *
        have hwa : IntKind.u8.wrap ((a : Int) * 16) = (a : Int) * 16 := by rw [IntKind.wrap_u8]; omega
        cases h1 : (hv (sb s j)).isSome with
        | false =>
          rw [h1] at HH HPk
          have HBad : Hid (unhexR s = none) := unhexR_bad s k (by have := HM.out; omega) (by rw [HPk.out]; rfl)
          clear h1
          generalize (hv (sb s (j + 1))).isSome = b1 at *
          generalize sb s j = c1 at *
          generalize sb s (j + 1) = c2 at *
          go_wp2_with fail
          refine (HH.out _).mono ?_
          rintro e w2 ⟨rfl, hw⟩
          rw [hw]; clear hw
          go_wp2_with fail
          refine (HL.out _).mono ?_
          rintro e w2 ⟨rfl, hw⟩
          rw [hw]; clear hw
          go_wp2
          go_ret2
          exact ⟨.inl ⟨HBad.out, rfl⟩, HB.out⟩
        | true =>
          rw [h1] at HH HPk
          cases h2 : (hv (sb s (j + 1))).isSome with
          | false =>
            rw [h2] at HL HPk
            have HBad : Hid (unhexR s = none) := unhexR_bad s k (by have := HM.out; omega) (by rw [HPk.out]; rfl)
            clear h1 h2
            generalize sb s j = c1 at *
            generalize sb s (j + 1) = c2 at *
            go_wp2_with fail
            refine (HH.out _).mono ?_
            rintro e w2 ⟨rfl, hw⟩
            rw [hw]; clear hw
            go_wp2_with fail
            refine (HL.out _).mono ?_
            rintro e w2 ⟨rfl, hw⟩
            rw [hw]; clear hw
            go_wp2
            go_ret2
            exact ⟨.inl ⟨HBad.out, rfl⟩, HB.out⟩
          | true =>
            rw [h2] at HL HPk
            have HOk2 : Hid (okTo s (k + 1) = true) := by show _ = _; rw [okTo_succ, HOk.out, HPk.out]; rfl
            have HDe : Hid (decTo s (k + 1) = decTo s k ++ [16 * a + b]) := by show _ = _; rw [decTo_succ, HPv.out]
            clear h1 h2
            generalize sb s j = c1 at *
            generalize sb s (j + 1) = c2 at *
            go_wp2_with fail
            refine (HH.out _).mono ?_
            rintro e w2 ⟨rfl, hw⟩
            rw [hw]; clear hw
            go_wp2_with fail
            refine (HL.out _).mono ?_
            rintro e w2 ⟨rfl, hw⟩
            rw [hw]; clear hw
            go_wp2_with (at_builtin; refine wpList_append_two _ rfl (.tmp 45) (.tmp 50) 37 rfl w.heap.size 5 i0 (.int .u8 0) 1 Tryd.underlying37 hi hz0 hz1 hz2 rfl (.slice ao k cp) k ((decTo s k).map bv) rfl (HO.out.alloc _) (some ⟨wr.heap.size, 0, none⟩) 1 1 [.int .u8 ((16 * a + b : Nat) : Int)] rfl (by simp) rfl (news_one _ _ _) (by simp [Value.oneCell']) (by unfold maxLen; omega) (by omega) (by have := HB.out.size; simp; omega) ?_)
            intro v' w2 ho2 hg2 _
            have hgr := grow_row (ys := [16 * a + b]) HB.out HO.out ((Below.refl _ _).alloc (Nat.le_refl _) _) ho2 hg2 rfl
            rw [← HDe.out] at hgr
            have HR2 : Hid (w2.ownsRow w.heap.size 5 1 v' (k + 1) ((decTo s (k + 1)).map bv) ∧ Below w.heap.size w w2) := hgr
            clear hgr ho2 hg2
            go_wp2
            go_roundw
            case rel => exact ⟨k + 1, j + 2, by have := HJ.out; omega, by omega, by go_num, HOk2.out, HR2.out.1, HR2.out.2⟩
            case measure => simp [intOf]; omega
      · have ek : m = k := by omega
        subst ek
        have HE : Hid (unhexR s = some (decTo s m)) := by
          have h1 := unhexR_ok s (by have := HM.out; omega)
          have h2 : s.size / 2 = m := by have := HM.out; omega
          rw [h2] at h1
          exact h1 HOk.out
        have hj1 : ¬ j < s.size := by have := HJ.out; have := HM.out; omega
        go_wp2
        go_ret2
        exact ⟨.inr ⟨_, ao, cp, HE.out, by rw [decTo_length]; rfl, by rw [decTo_length]; exact HO.out⟩, HB.out⟩
  · have HN : Hid (unhexR s = none) := unhexR_odd s hodd
    have t0 : ((s.size : Int) % 2 != 0) = true := by rw [bne_iff_ne]; omega
    clear hodd
    go_enter Tryd.func98, Tryd.ntmps98
    go_wp2
    go_ret2
    exact ⟨.inl ⟨HN.out, rfl⟩, Below.refl _ _⟩
end Go.Proofs.YtpkobgnbjmefnabDoor
