import Derived.Test.YtpkobgnbjmefnabDoorWriterW
namespace Go.Proofs.YtpkobgnbjmefnabDoor
open Go.RowKit
set_option linter.unusedVariables false
set_option maxRecDepth 100000

theorem made_zeros (n : Nat) : (madeCells (Value.int .u8 0).cells (n * 1)).toList = (List.replicate n 0).map bv := by
  apply List.ext_getElem?
  intro i
  by_cases hi : i < n
  · simp [madeCells, Value.cells, hi, Nat.mod_one, bv]
  · simp [madeCells, Value.cells, hi]
theorem pow_step (v k : Nat) : v / 256 ^ k / 256 = v / 256 ^ (k + 1) := by rw [Nat.div_div_eq_div_mul, Nat.pow_succ]
theorem pow_eight (v k : Nat) : v / 2 ^ (8 * k) = v / 256 ^ k := by rw [Nat.pow_mul]
set_option maxHeartbeats 1000000 in
theorem rbig_any (v n : Nat) (w : World) (hv : v < 18446744073709551616) (hn : n ≤ 8) :
    Calls Tryd.prog 42 #[.int .u64 (v : Int), .int .i64 (n : Int)] w fun e w' => e = .returned (.slice (some ⟨w.heap.size, 0, none⟩) n n) ∧ w'.ownsRow w.heap.size 5 1 (.slice (some ⟨w.heap.size, 0, none⟩) n n) n ((bigTo v n n).map bv) ∧ Below w.heap.size w w' := by
  obtain ⟨i0, hi, hz0, hz1, hz2⟩ := info_parts Tryd.info5
  go_enter Tryd.func42, Tryd.ntmps42
  go_wp2_with (at_make; refine wpList_make_full _ rfl _ _ 37 rfl w.heap.size 5 i0 (.int .u8 0) 1 Tryd.underlying37 hi hz0 hz1 .i64 .i64 _ _ n rfl rfl rfl rfl (by rw [hz2]; omega) (by unfold maxLen; omega) (Nat.le_refl _) ?_; intro w1 hown1 hgrow1)
  have HB1 : Hid (Below w.heap.size w w1) := (Below.refl w.heap.size w).grown hgrow1 (Nat.le_refl _) (by simp)
  have HO1 : Hid (w1.ownsRow w.heap.size 5 1 (.slice (some ⟨w.heap.size, 0, none⟩) n n) n ((List.replicate n 0).map bv)) := by rw [← made_zeros]; exact hown1
  clear hown1 hgrow1
  go_wp2
  go_loopw [0, 6] (fun x i wr => ∃ k : Nat, k ≤ n ∧ i = .int .i64 ((n : Int) - 1 - k) ∧ x = .int .u64 ((v / 256 ^ k : Nat) : Int) ∧ ∃ C : List Nat, C.length = n ∧ wr.ownsRow w.heap.size 5 1 (.slice (some ⟨w.heap.size, 0, none⟩) n n) n (C.map bv) ∧ (∀ j, n - k ≤ j → j < n → C[j]? = some (v / 2 ^ (8 * (n - 1 - j)) % 256)) ∧ Below w.heap.size w wr) (fun _ i _ => ((intOf i) + 1).toNat)
  case atStart => exact ⟨0, Nat.zero_le _, by simp, by simp, _, by simp, HO1.out, fun j h1 h2 => by omega, HB1.out⟩
  case round =>
    obtain ⟨k, hk, rfl, rfl, C, hC, ho, hj, hb⟩ := hrel
    by_cases hlt : k < n
    · obtain ⟨d, hd⟩ : ∃ d, n = d + k + 1 := ⟨n - k - 1, by omega⟩
      have ei : (n : Int) - 1 - k = (d : Int) := by omega
      rw [ei]
      have hdn : d < n := by omega
      have hc0 : wr.cell? ⟨w.heap.size, d, none⟩ = some (.int .u8 ((C[d]?.getD 0 : Nat) : Int)) := by
        rw [ho.cellAt d (by omega)]; simp [bv, hC, hdn]
      have hf0 := ho.frozenAt d
      have HX : Hid (v / 256 ^ k / 256 = v / 256 ^ (k + 1)) := pow_step v k
      have hx64 : v / 256 ^ k < 18446744073709551616 := Nat.lt_of_le_of_lt (Nat.div_le_self _ _) hv
      obtain ⟨hs, hgr⟩ := ho.stored d (bv (v / 256 ^ k % 256))
      have HS : Hid (∃ C' : List Nat, C'.length = n ∧ (wr.setCell ⟨w.heap.size, d, none⟩ (bv (v / 256 ^ k % 256))).ownsRow w.heap.size 5 1 (.slice (some ⟨w.heap.size, 0, none⟩) n n) n (C'.map bv) ∧ (∀ j, n - (k + 1) ≤ j → j < n → C'[j]? = some (v / 2 ^ (8 * (n - 1 - j)) % 256)) ∧ Below w.heap.size w (wr.setCell ⟨w.heap.size, d, none⟩ (bv (v / 256 ^ k % 256)))) := by
        refine ⟨C.set d (v / 256 ^ k % 256), by simp [hC], by rw [List.map_set]; exact hs, fun j h1 h2 => ?_, hb.grown hgr hb.size (fun g hg => by simp at hg; omega)⟩
        by_cases e : j = d
        · subst e
          rw [List.getElem?_set_self (by omega), show n - 1 - j = k by omega, pow_eight]
        · rw [List.getElem?_set_ne (by omega)]
          exact hj j (by omega) h2
      clear ho hs hgr hj hb hC
      generalize v / 256 ^ k = x at *
      generalize C[d]?.getD 0 = y at *
      go_wp2
      go_roundw
      case rel => exact ⟨k + 1, by omega, by go_num, congrArg (Value.int .u64) (by rw [← HX.out]; omega), HS.out⟩
      case measure => simp [intOf]
    · obtain rfl : k = n := by omega
      have ei : (k : Int) - 1 - k = -1 := by omega
      rw [ei]
      have HE : Hid (C = bigTo v k k) := by
        show C = bigTo v k k
        apply List.ext_getElem?
        intro j
        by_cases hjk : j < k
        · rw [hj j (by omega) hjk]; simp [bigTo, hjk]
        · simp [bigTo, hjk, hC]
      have HO : Hid (wr.ownsRow w.heap.size 5 1 (.slice (some ⟨w.heap.size, 0, none⟩) k k) k (C.map bv)) := ho
      have HB : Hid (Below w.heap.size w wr) := hb
      clear ho hb hj hC
      go_wp2
      go_ret
      exact ⟨rfl, by rw [← HE.out]; exact HO.out, HB.out⟩

set_option maxHeartbeats 1000000 in
theorem rzeros_ok (n : Nat) (w : World) (hn : n ≤ 2097152) :
    Calls Tryd.prog 50 #[.int .i64 (n : Int)] w fun e w' => e = .returned (.tuple #[.slice (some ⟨w.heap.size, 0, none⟩) n n, .int .i64 0]) ∧ w'.ownsRow w.heap.size 5 1 (.slice (some ⟨w.heap.size, 0, none⟩) n n) n ((List.replicate n 0).map bv) ∧ Below w.heap.size w w' := by
  obtain ⟨i0, hi, hz0, hz1, hz2⟩ := info_parts Tryd.info5
  have t0 : decide ((n : Int) < 0) = false := by simp
  have t1 : decide ((2097152 : Int) < (n : Int)) = false := by simp; omega
  go_enter Tryd.func50, Tryd.ntmps50
  go_wp2_with (at_make; refine wpList_make_full _ rfl _ _ 37 rfl w.heap.size 5 i0 (.int .u8 0) 1 Tryd.underlying37 hi hz0 hz1 .i64 .i64 _ _ n rfl rfl rfl rfl (by rw [hz2]; omega) (by unfold maxLen; omega) (Nat.le_refl _) ?_; intro w1 hown1 hgrow1)
  have HB1 : Hid (Below w.heap.size w w1) := (Below.refl w.heap.size w).grown hgrow1 (Nat.le_refl _) (by simp)
  have HO1 : Hid (w1.ownsRow w.heap.size 5 1 (.slice (some ⟨w.heap.size, 0, none⟩) n n) n ((List.replicate n 0).map bv)) := by rw [← made_zeros]; exact hown1
  clear hown1 hgrow1
  go_wp2
  go_ret2
  exact ⟨rfl, HO1.out, HB1.out⟩
set_option maxHeartbeats 1000000 in
theorem rzeros_neg (n : Int) (w : World) (hn : n < 0) :
    Calls Tryd.prog 50 #[.int .i64 n] w fun e w' => e = .returned (.tuple #[.slice none 0 0, .int .i64 2]) ∧ w' = w := by
  have t0 : decide (n < 0) = true := by simp; omega
  go_enter Tryd.func50, Tryd.ntmps50
  go_wp2
  go_ret2
  exact ⟨rfl, rfl⟩
set_option maxHeartbeats 1000000 in
theorem rzeros_big (n : Int) (w : World) (hn : 2097152 < n) :
    Calls Tryd.prog 50 #[.int .i64 n] w fun e w' => e = .returned (.tuple #[.slice none 0 0, .int .i64 12]) ∧ w' = w := by
  have t0 : decide (n < 0) = false := by simp; omega
  have t1 : decide ((2097152 : Int) < n) = true := by simp; omega
  go_enter Tryd.func50, Tryd.ntmps50
  go_wp2
  go_ret2
  exact ⟨rfl, rfl⟩
end Go.Proofs.YtpkobgnbjmefnabDoor
