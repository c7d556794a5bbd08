import Derived.Test.YthmonfmpgjbhmabBytes
namespace Go.Proofs.Ythmonfmpgjbhmab
open Go.RowKit
set_option linter.unusedVariables false
set_option maxRecDepth 100000

set_option maxHeartbeats 400000 in
theorem same_len (ao bo : Option Addr) (cap cap' : Nat) (n m : Nat) (w : World) (hn : n ≤ 140737488351232) (hm : m ≤ 140737488351232) (h : ((n : Int) != (m : Int)) = true) :
    Calls Try.prog 14 #[.slice ao n cap, .slice bo m cap'] w fun e w' => e = .returned (.bool false) ∧ w' = w := by
  go_enter Try.func14, Try.ntmps14
  go_wp2
  go_ret
  exact ⟨rfl, rfl⟩

set_option maxHeartbeats 400000 in
theorem same_nil (ao bo : Option Addr) (cap cap' : Nat) (w : World) :
    Calls Try.prog 14 #[.slice ao 0 cap, .slice bo 0 cap'] w fun e w' => e = .returned (.bool true) ∧ w' = w := by
  go_enter Try.func14, Try.ntmps14
  go_wp2
  refine wp_loop_rounds 1 ?_
  rw [rounds_succ]
  go_wp2
  go_ret
  exact ⟨rfl, rfl⟩

theorem take_ne (l m : List Nat) (k n : Nat) (hl : l.length = n) (hm : m.length = n) (hk : k < n) (h : (l[k]?.getD 0) ≠ (m[k]?.getD 0)) : ¬ l = m := by
  rintro rfl; exact h rfl
theorem take_eq (l m : List Nat) (k n : Nat) (hl : l.length = n) (hm : m.length = n) (hk : k < n) (h : l[k]?.getD 0 = m[k]?.getD 0) (ht : l.take k = m.take k) : l.take (k + 1) = m.take (k + 1) := by
  rw [List.take_succ_eq_append_getElem (by omega), List.take_succ_eq_append_getElem (by omega), ht]
  simp [show k < l.length by omega, show k < m.length by omega] at h
  rw [h]

set_option maxHeartbeats 400000 in
theorem same_some (b off cap b' off' cap' n : Nat) (l m : List Nat) (w : World) (hn : n ≤ 140737488351232) (HL : Hid (l.length = n)) (HM : Hid (m.length = n))
    (HC : Hid (∀ k, k < n → w.cell? ⟨b, off + k, none⟩ = some (.int .u8 ((l[k]?.getD 0 : Nat) : Int)))) (HD : Hid (∀ k, k < n → w.cell? ⟨b', off' + k, none⟩ = some (.int .u8 ((m[k]?.getD 0 : Nat) : Int)))) :
    Calls Try.prog 14 #[.slice (some ⟨b, off, none⟩) n cap, .slice (some ⟨b', off', none⟩) n cap'] w fun e w' => e = .returned (.bool (decide (l = m))) ∧ ∃ q, w' = w.drewN q := by
  go_enter Try.func14, Try.ntmps14
  go_wp2
  go_loopw [5] (fun i wr => ∃ k q : Nat, k ≤ n ∧ i = .int .i64 k ∧ wr = w.drewN q ∧ l.take k = m.take k) (fun i _ => n - (intOf i).toNat)
  case atStart => exact ⟨0, 0, Nat.zero_le _, rfl, rfl, rfl⟩
  case round =>
    obtain ⟨k, q, hk, rfl, rfl, ht⟩ := hrel
    have HT : Hid (l.take k = m.take k) := ht
    clear ht
    by_cases hlt : k < n
    · have hc := HC.out k hlt
      have hd := HD.out k hlt
      by_cases hx : l[k]?.getD 0 = m[k]?.getD 0
      · have HS : Hid (l.take (k + 1) = m.take (k + 1)) := take_eq l m k n HL.out HM.out hlt hx HT.out
        rw [← hx] at hd
        clear hx
        generalize l[k]?.getD 0 = x at *
        go_wp2
        go_quiet (fail)
        go_wp2
        go_roundw
        case rel => exact ⟨k + 1, _, by omega, by go_num, rfl, HS.out⟩
        case measure => simp [intOf]; omega
      · have HS : Hid (¬ l = m) := take_ne l m k n HL.out HM.out hlt hx
        have hne : (((l[k]?.getD 0 : Nat) : Int) != ((m[k]?.getD 0 : Nat) : Int)) = true := by rw [bne_iff_ne]; omega
        clear hx
        generalize l[k]?.getD 0 = x at *
        generalize m[k]?.getD 0 = y at *
        go_wp2
        go_quiet (fail)
        go_wp2
        go_ret
        exact ⟨ret_bool (by rw [decide_eq_false HS.out]), q + nq, by rw [World.drewN_drewN]⟩
    · have HE : Hid (l = m) := by
        have := HT.out
        rwa [List.take_of_length_le (by rw [HL.out]; omega), List.take_of_length_le (by rw [HM.out]; omega)] at this
      go_wp2
      go_ret
      exact ⟨ret_bool (by rw [decide_eq_true HE.out]), _, rfl⟩

theorem same_any (ao bo : Option Addr) (cap cap' : Nat) (l m : List Nat) (w : World) (h : BRow w ao cap l) (h' : BRow w bo cap' m) :
    Calls Try.prog 14 #[.slice ao l.length cap, .slice bo m.length cap'] w fun e w' => e = .returned (.bool (decide (l = m))) ∧ ∃ q, w' = w.drewN q := by
  by_cases hlen : l.length = m.length
  · by_cases hl : l = []
    · subst hl
      have hm : m = [] := List.eq_nil_of_length_eq_zero hlen.symm
      subst hm
      exact (same_nil ao bo cap cap' w).mono fun e w' hh => ⟨hh.1, 0, hh.2⟩
    · obtain ⟨b, off, rfl, hc⟩ := h.at_ hl
      obtain ⟨b', off', rfl, hc'⟩ := h'.at_ (by rintro rfl; exact hl (List.eq_nil_of_length_eq_zero hlen))
      rw [← hlen]
      refine same_some b off cap b' off' cap' l.length l m w h.len rfl hlen.symm ?_ ?_
      · intro k hk; rw [hc k hk]; simp [bv, hk]
      · intro k hk; rw [hc' k (by omega)]; simp [bv, show k < m.length by omega]
  · refine (same_len ao bo cap cap' _ _ w h.len h'.len (by rw [bne_iff_ne]; omega)).mono fun e w' hh => ⟨?_, 0, hh.2⟩
    rw [hh.1, decide_eq_false (by rintro rfl; exact hlen rfl)]
end Go.Proofs.Ythmonfmpgjbhmab
