import Derived.Test.YtpkobgnbjmefnaaLend
namespace Go.Proofs.Ytpkobgnbjmefnaa
open Go.RowKit
set_option linter.unusedVariables false

set_option maxHeartbeats 400000 in
theorem crc_nil (po : Option Addr) (pcap : Nat) (w : World) :
    Calls Try.prog 7 #[.slice po 0 pcap] w fun e w' => e = .returned (.int .u32 0) ∧ w' = w := by
  have hnot : bits .xor .u32 4294967295 4294967295 = 0 := not_u32 4294967295 (by decide)
  go_enter Try.func7, Try.ntmps7
  go_wp2
  refine wp_loop_rounds 1 ?_
  rw [rounds_succ]
  go_wp2
  go_ret
  exact ⟨rfl, rfl⟩

set_option maxHeartbeats 400000 in
theorem refCrc_nil (ao : Option Addr) (cap : Nat) (w : World) :
    Calls Try.prog 6 #[.slice ao 0 cap] w fun e w' => e = .returned (.int .u32 0) ∧ w' = w := by
  have hnot : bits .xor .u32 4294967295 4294967295 = 0 := not_u32 4294967295 (by decide)
  go_enter Try.func6, Try.ntmps6
  go_wp2
  refine wp_loop_rounds 1 ?_
  rw [rounds_succ]
  go_wp2
  go_ret
  exact ⟨rfl, rfl⟩

set_option maxHeartbeats 1000000 in
theorem refCrc_some (b off cap n : Nat) (l : List Nat) (w : World) (HN : Hid (l.length = n)) (hn : n ≤ 140737488351232) (H256 : Hid (∀ x ∈ l, x < 256))
    (HC : Hid (∀ j (hj : j < l.length), w.cell? ⟨b, off + j, none⟩ = some (bv l[j]))) :
    Calls Try.prog 6 #[.slice (some ⟨b, off, none⟩) n cap] w fun e w' => e = .returned (.int .u32 (crcOf l : Nat)) ∧ w' = w := by
  go_enter Try.func6, Try.ntmps6
  go_wp2
  go_loop [3, 4] (fun r i => ∃ k : Nat, k ≤ n ∧ i = .int .i64 k ∧ r = .int .u32 (Crc.crcL 4294967295 (l.take k) : Nat)) (fun _ i => n - (intOf i).toNat)
  case atStart => exact ⟨0, Nat.zero_le _, rfl, rfl⟩
  case round =>
    obtain ⟨k, hk, rfl, rfl⟩ := hrel
    have hcl := crcL_lt 4294967295 (l.take k) (by decide) (fun x hx => H256.out x (List.mem_of_mem_take hx))
    by_cases hlt : k < n
    · have hlt' : k < l.length := by have := HN.out; omega
      have hcx := HC.out k hlt'
      have hx := H256.out _ (List.getElem_mem hlt')
      have HS : Hid (Crc.crcL 4294967295 (l.take (k + 1)) = Crc.stepN 8 (Crc.crcL 4294967295 (l.take k) ^^^ l[k])) := crcL_take _ l k hlt'
      generalize Crc.crcL 4294967295 (l.take k) = r at *
      generalize l[k] = x at *
      have hxor := xor_byte r x hcl hx
      have hrx : r ^^^ x < 4294967296 := Nat.xor_lt_two_pow (n := 32) hcl (by omega)
      unfold bv at hcx
      clear hlt'
      go_wp2
      generalize r ^^^ x = c at *
      go_loop [3, 5] (fun r i => ∃ j : Nat, j ≤ 8 ∧ i = .int .i64 j ∧ r = .int .u32 (Crc.stepN j c : Nat)) (fun _ i => 8 - (intOf i).toNat)
      case atStart => exact ⟨0, Nat.zero_le _, rfl, rfl⟩
      case round =>
        obtain ⟨j, hj, rfl, rfl⟩ := hrel
        clear hxor hcx
        by_cases hj8 : j < 8
        · have hy := Crc.stepN_lt j c hrx
          have HS' : Hid (Crc.stepN (j + 1) c = Crc.step (Crc.stepN j c)) := Crc.stepN_succ j c
          generalize Crc.stepN j c = y at *
          have hand := and_one_nat y hy
          have HX : Hid (bits .xor .u32 ((y : Int) / 2) 2197175160 = ((y / 2 ^^^ 2197175160 : Nat) : Int)) := xor_poly y hy
          rcases Nat.mod_two_eq_zero_or_one y with ho | ho
          · rw [ho] at hand
            go_wp2
            go_round
            case rel => exact ⟨j + 1, by omega, by go_num, val_u32 (by rw [HS'.out, Crc.step_even y ho]; omega)⟩
            case measure => simp [intOf]; omega
          · rw [ho] at hand
            go_wp2
            go_round
            case rel => exact ⟨j + 1, by omega, by go_num, val_u32 (by rw [HS'.out, Crc.step_odd y ho]; exact HX.out)⟩
            case measure => simp [intOf]; omega
        · have e8 : j = 8 := by omega
          subst e8
          go_wp2
          go_round
          case rel => exact ⟨k + 1, by omega, by go_num, val_u32 (by rw [HS.out])⟩
          case measure => simp [intOf]; omega
    · have hnot := not_u32 _ hcl
      have HE : Hid (l.take k = l) := List.take_of_length_le (by have := HN.out; omega)
      go_wp2
      go_ret
      exact ⟨ret_u32 (hnot.trans (by rw [HE.out]; rfl)), rfl⟩

theorem crcOf_nil : crcOf [] = 0 := by decide +kernel
theorem refCrc_any (ao : Option Addr) (cap : Nat) (l : List Nat) (w : World) (h : BRow w ao cap l) :
    Calls Try.prog 6 #[.slice ao l.length cap] w fun e w' => e = .returned (.int .u32 (crcOf l : Nat)) ∧ w' = w := by
  by_cases hl : l = []
  · subst hl; rw [crcOf_nil]; exact refCrc_nil ao cap w
  · obtain ⟨b, off, rfl, hc⟩ := h.at_ hl
    exact refCrc_some b off cap l.length l w rfl h.len h.lt hc
end Go.Proofs.Ytpkobgnbjmefnaa
