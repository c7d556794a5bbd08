import Derived.Test.YtpkobgnbjmefnabDoorNumM
namespace Go.Proofs.YtpkobgnbjmefnabDoor
open Go.RowKit Go.Lib
set_option linter.unusedVariables false
set_option maxRecDepth 100000

def sbn (s : ByteArray) (i : Nat) : Nat := (s.get! i).toNat
theorem sbn_lt (s : ByteArray) (i : Nat) : sbn s i < 256 := UInt8.toNat_lt _
theorem sbn_elem (s : ByteArray) (j : Nat) (h : j < s.size) : (s[j]'h).toNat = sbn s j := by
  unfold sbn
  have : s.get! j = s[j]'h := by
    show s.data[j]! = s.data[j]
    exact getElem!_pos s.data j h
  rw [this]
theorem sbn_list (s : ByteArray) (k : Nat) (h : k < s.data.toList.length) : (s.data.toList[k]).toNat = sbn s k := by
  rw [← sbn_elem s k (by simpa using h)]; simp; rfl
theorem sbn_head (s : ByteArray) (h : 0 < s.size) (d : Nat) (hd : d < 256) : s.data.toList.head? = some (UInt8.ofNat d) ↔ sbn s 0 = d := by
  have hl : 0 < s.data.toList.length := by simpa using h
  rw [List.head?_eq_getElem?, List.getElem?_eq_getElem hl, Option.some.injEq, ← sbn_list s 0 hl]
  constructor
  · intro e; rw [e, UInt8.toNat_ofNat']; omega
  · intro e; rw [← e]; simp
theorem all_take_succ (l : List UInt8) (k : Nat) (h : k < l.length) : (l.take (k + 1)).all isDg = ((l.take k).all isDg && isDg l[k]) := by
  rw [List.take_succ_eq_append_getElem h, List.all_append]; simp
theorem formB_bad (l : List UInt8) (k : Nat) (h : k < l.length) (hb : isDg l[k] = false) : formB l = false := by
  unfold formB
  have : l.all isDg = false := by
    rw [List.all_eq_false]
    exact ⟨l[k], List.getElem_mem h, by rw [hb]; decide⟩
  rw [this]; simp
theorem isDg_lo (c : UInt8) (h : c.toNat < 48) : isDg c = false := by unfold isDg; simp; omega
theorem isDg_hi (c : UInt8) (h : 57 < c.toNat) : isDg c = false := by unfold isDg; simp; omega
theorem isDg_mid (c : UInt8) (h : 48 ≤ c.toNat) (h' : c.toNat ≤ 57) : isDg c = true := by unfold isDg; simp; omega
theorem numV_bad (l : List UInt8) (h : formB l = false) : numV l = (0, 14) := by unfold numV; rw [if_neg (by rw [h]; decide)]
theorem formB_nil : formB [] = false := rfl
theorem formB_zero (l : List UInt8) (h : l.head? = some 48) (h1 : 1 < l.length) : formB l = false := by unfold formB; simp [h, h1]
theorem formB_good (l : List UInt8) (h0 : l ≠ []) (h : ¬ (l.head? = some 48 ∧ 1 < l.length)) (ha : l.all isDg = true) : formB l = true := by
  unfold formB
  rw [ha]
  have e : l.isEmpty = false := by simpa using h0
  have e2 : (decide (l.head? = some 48) && decide (1 < l.length)) = false := by
    rw [Bool.eq_false_iff]
    intro hh
    simp only [Bool.and_eq_true, decide_eq_true_eq] at hh
    exact h hh
  rw [e, e2]; rfl
theorem drop_cons (l : List UInt8) (k : Nat) (h : k < l.length) : l.drop k = l[k] :: l.drop (k + 1) := by rw [List.drop_eq_getElem_cons h]
theorem parse_step (a : Nat) (c : UInt8) (r : List UInt8) (hc : isDg c = true) : parseUintM M64 a (c :: r) = if M64 < a * 10 + (c.toNat - 48) then .range else parseUintM M64 (a * 10 + (c.toNat - 48)) r := by
  have := parseM_append M64 [c] r a
  rw [parseM_one a c hc] at this
  rw [show [c] ++ r = c :: r from rfl] at this
  by_cases h : M64 < a * 10 + (c.toNat - 48)
  · rw [if_pos h] at this ⊢; exact this
  · rw [if_neg h] at this ⊢; exact this


/-- the first k are digits -/
def okN (s : ByteArray) (k : Nat) : Prop := (s.data.toList.take k).all isDg = true
set_option maxHeartbeats 4000000 in
theorem rnumber_text (s : ByteArray) (w : World) (hs : s.size ≤ 16777216) :
    Calls Tryd.prog 10 #[.string s] w fun e w' => e = .returned (.tuple #[.int .u64 ((numV s.data.toList).1 : Nat), .int .i64 ((numV s.data.toList).2 : Nat)]) ∧ ∃ q, w' = w.drewN q := by
  have HL : Hid (s.data.toList.length = s.size) := by show _ = _; simp
  have g0 := sbn_elem s 0
  by_cases h0 : s.size = 0
  · have HE : Hid (numV s.data.toList = (0, 14)) := numV_bad _ (by rw [List.eq_nil_of_length_eq_zero (HL.out.trans h0)]; rfl)
    rw [HE.out]
    have t0 : ((s.size : Int) == 0) = true := by rw [beq_iff_eq]; omega
    go_enter Tryd.func10, Tryd.ntmps10
    go_wp2
    go_ret2
    exact ⟨rfl, 0, rfl⟩
  · have t0 : ((s.size : Int) == 0) = false := by rw [beq_eq_false_iff_ne]; omega
    have hs0 : 0 < s.size := by omega
    have hhd := sbn_head s hs0 48 (by decide)
    by_cases hz : sbn s 0 = 48 ∧ 1 < s.size
    · have HE : Hid (numV s.data.toList = (0, 14)) := numV_bad _ (formB_zero _ (hhd.2 hz.1) (by rw [HL.out]; exact hz.2))
      rw [HE.out]
      have t1 : ((sbn s 0 : Int) == 48) = true := by rw [beq_iff_eq]; omega
      have t2 : decide (1 < (s.size : Int)) = true := by simp; omega
      have h1 : 1 < s.size := hz.2
      clear hz hhd
      go_enter Tryd.func10, Tryd.ntmps10
      go_wp2
      go_ret2
      exact ⟨rfl, 0, rfl⟩
    · have HZ : Hid (¬ (s.data.toList.head? = some 48 ∧ 1 < s.data.toList.length)) := fun h => hz ⟨hhd.1 h.1, by rw [← HL.out]; exact h.2⟩
      have HNe : Hid (s.data.toList ≠ []) := fun h => by have := HL.out; rw [h] at this; simp at this; omega
      have hz' : sbn s 0 ≠ 48 ∨ s.size = 1 := by omega
      clear hz hhd
      go_enter Tryd.func10, Tryd.ntmps10
      go_wp2
      all_goals
        go_loopw [4] (fun i wr => ∃ k q : Nat, k ≤ s.size ∧ i = .int .i64 k ∧ okN s k ∧ wr = w.drewN q) (fun i _ => s.size - (intOf i).toNat)
        case atStart => exact ⟨0, 0, Nat.zero_le _, rfl, rfl, rfl⟩
        case round =>
          obtain ⟨k, q, hk, rfl, hok, rfl⟩ := hrel
          have HOk : Hid (okN s k) := hok
          clear hok
          by_cases hlt : k < s.size
          · have hlt' : k < s.data.toList.length := by rw [HL.out]; exact hlt
            have gk := sbn_elem s k
            have hb := sbn_lt s k
            have hsl := sbn_list s k hlt'
            by_cases hlo : sbn s k < 48
            · have HE : Hid (numV s.data.toList = (0, 14)) := numV_bad _ (formB_bad _ k hlt' (isDg_lo _ (by omega)))
              have t1 : decide ((sbn s k : Int) < 48) = true := by simp; omega
              clear hsl
              go_wp2
              go_ret2
              exact ⟨by rw [HE.out]; rfl, _, rfl⟩
            by_cases hhi : 57 < sbn s k
            · have HE : Hid (numV s.data.toList = (0, 14)) := numV_bad _ (formB_bad _ k hlt' (isDg_hi _ (by omega)))
              have t1 : decide ((sbn s k : Int) < 48) = false := by simp; omega
              have t2 : decide ((57 : Int) < (sbn s k : Int)) = true := by simp; omega
              clear hsl
              go_wp2
              go_ret2
              exact ⟨by rw [HE.out]; rfl, _, rfl⟩
            · have HO2 : Hid (okN s (k + 1)) := by
                show (s.data.toList.take (k + 1)).all isDg = true
                rw [all_take_succ _ k hlt', show (s.data.toList.take k).all isDg = true from HOk.out, isDg_mid _ (by omega) (by omega)]; rfl
              have t1 : decide ((sbn s k : Int) < 48) = false := by simp; omega
              have t2 : decide ((57 : Int) < (sbn s k : Int)) = false := by simp; omega
              clear hsl
              go_wp2
              go_roundw
              case rel => exact ⟨k + 1, _, by omega, by go_num, HO2.out, rfl⟩
              case measure => simp [intOf]; omega
          · obtain rfl : k = s.size := by omega
            have HAll : Hid (s.data.toList.all isDg = true) := by
              have h1 : (s.data.toList.take s.size).all isDg = true := HOk.out
              rwa [List.take_of_length_le (by rw [HL.out]; exact Nat.le_refl _)] at h1
            have HF : Hid (formB s.data.toList = true) := formB_good _ HNe.out HZ.out HAll.out
            go_wp2
            go_loopw [5, 6] (fun x i wr => ∃ k v q : Nat, k ≤ s.size ∧ i = .int .i64 k ∧ x = .int .u64 (v : Int) ∧ v ≤ M64 ∧ parseUintM M64 0 s.data.toList = parseUintM M64 v (s.data.toList.drop k) ∧ wr = w.drewN q) (fun _ i _ => s.size - (intOf i).toNat)
            case atStart => exact ⟨0, 0, _, Nat.zero_le _, rfl, rfl, by decide, by simp, rfl⟩
            case round =>
              obtain ⟨k, v, q, hk, rfl, rfl, hv, hpa, rfl⟩ := hrel
              have HPa : Hid (parseUintM M64 0 s.data.toList = parseUintM M64 v (s.data.toList.drop k)) := hpa
              clear hpa
              have hv' : v ≤ 18446744073709551615 := hv
              by_cases hlt : k < s.size
              · have hlt' : k < s.data.toList.length := by rw [HL.out]; exact hlt
                have gk := sbn_elem s k
                have hsl := sbn_list s k hlt'
                have hdg : isDg s.data.toList[k] = true := List.all_eq_true.1 HAll.out _ (List.getElem_mem hlt')
                have hmid : 48 ≤ sbn s k ∧ sbn s k ≤ 57 := by rw [← hsl]; simpa [isDg] using hdg
                obtain ⟨hm1, hm2⟩ := hmid
                have HStep : Hid (parseUintM M64 0 s.data.toList = if M64 < v * 10 + (sbn s k - 48) then .range else parseUintM M64 (v * 10 + (sbn s k - 48)) (s.data.toList.drop (k + 1))) := by
                  show _ = _
                  rw [HPa.out, drop_cons _ k hlt', parse_step _ _ _ hdg, hsl]
                clear hsl hdg
                obtain ⟨d, hd⟩ : ∃ d, sbn s k = 48 + d := ⟨sbn s k - 48, by omega⟩
                have hwd : IntKind.u8.wrap ((sbn s k : Int) - 48) = (d : Int) := by rw [IntKind.wrap_u8]; omega
                rw [show sbn s k - 48 = d by omega] at HStep
                have hd9 : d ≤ 9 := by omega
                by_cases hgt : 18446744073709551615 < v * 10 + d
                · have HE : Hid (numV s.data.toList = (0, 12)) := by
                    show numV s.data.toList = _
                    unfold numV
                    rw [if_pos HF.out, HStep.out, if_pos hgt]
                  have t1 : decide (((18446744073709551615 : Int) - (d : Int)) / 10 < (v : Int)) = true := by simp; omega
                  have t1' : decide (((18446744073709551615 : Int) - (d : Int)).tdiv 10 < (v : Int)) = true := by rw [Int.tdiv_eq_ediv_of_nonneg (by omega)]; exact t1
                  clear hd
                  go_wp2
                  go_ret2
                  exact ⟨by rw [HE.out]; rfl, _, rfl⟩
                · have HN : Hid (parseUintM M64 0 s.data.toList = parseUintM M64 (v * 10 + d) (s.data.toList.drop (k + 1))) := by show _ = _; rw [HStep.out, if_neg hgt]
                  have t1 : decide (((18446744073709551615 : Int) - (d : Int)) / 10 < (v : Int)) = false := by simp; omega
                  have t1' : decide (((18446744073709551615 : Int) - (d : Int)).tdiv 10 < (v : Int)) = false := by rw [Int.tdiv_eq_ediv_of_nonneg (by omega)]; exact t1
                  have hw2 : IntKind.u64.wrap (10 * (v : Int) + (d : Int)) = ((v * 10 + d : Nat) : Int) := by rw [IntKind.wrap_u64]; omega
                  clear hd
                  go_wp2
                  go_roundw
                  case rel => exact ⟨k + 1, v * 10 + d, _, by omega, by go_num, congrArg (Value.int .u64) (by omega), by unfold M64; omega, HN.out, rfl⟩
                  case measure => simp [intOf]; omega
              · obtain rfl : k = s.size := by omega
                have HE : Hid (numV s.data.toList = (v, 0)) := by
                  show numV s.data.toList = _
                  unfold numV
                  rw [if_pos HF.out, HPa.out, List.drop_of_length_le (by rw [HL.out]; exact Nat.le_refl _)]
                  rfl
                go_wp2
                go_ret2
                exact ⟨by rw [HE.out]; rfl, _, rfl⟩
end Go.Proofs.YtpkobgnbjmefnabDoor
