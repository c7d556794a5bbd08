import Derived.Test.YthmonfmpgjbhmabLJ
import Derived.Deep.RegionHeld3
import Derived.Deep.RegionLaw
import Derived.Deep.AppendLies
import Derived.Deep.DrawnRows
namespace Go.Proofs.Ythmonfmpgjbhmab.K
open Go.RowKit Go.Maps Go.Proofs.Ythmonfmpgjbhmab Go.MuLone
attribute [local go_sem] Oper.semAt_some
set_option linter.unusedVariables false
set_option linter.unusedSimpArgs false
set_option maxRecDepth 100000

def may (n : Nat) (f : Flt) : Bool := decide (1 ≤ f.kind ∧ f.kind ≤ 3) && (decide (f.sector = -1) || decide (0 ≤ f.sector ∧ f.sector < n)) && decide (0 ≤ f.after) && decide (1 ≤ f.times)
set_option maxHeartbeats 2000000 in
theorem mayArm_any {w : World} {lk : Int} {b ms ml : Nat} {qv fv : Value} {S : Dk} (h : RK w lk b ms ml qv fv S) (k s a t : Int) (ld : Bool) :
    Calls Try.prog 31 #[.pointer (some ⟨b, 0, none⟩), .agg #[.int .i64 k, .int .i64 s, .int .i64 a, .int .i64 t, .bool ld]] w fun r w' => r = .returned (.bool (may S.n ⟨k, s, a, t, ld⟩)) ∧ Below w.heap.size w w' := by
  have hB0 : Below w.heap.size w (w.alloc (.cells #[.int .i64 k, .int .i64 s, .int .i64 a, .int .i64 t, .bool ld] TFa)) := (Below.refl _ w).alloc (Nat.le_refl _) _
  have hha := has_any (h.later hB0) s
  have HB : Hid (Below w.heap.size w (w.alloc (.cells #[.int .i64 k, .int .i64 s, .int .i64 a, .int .i64 t, .bool ld] TFa))) := hB0
  have hM : may S.n ⟨k, s, a, t, ld⟩ = (decide (1 ≤ k ∧ k ≤ 3) && (decide (s = -1) || decide (0 ≤ s ∧ s < S.n)) && decide (0 ≤ a) && decide (1 ≤ t)) := rfl
  clear h hB0
  by_cases hk : 1 ≤ k ∧ k ≤ 3
  · by_cases hs : s = -1
    · by_cases ha : 0 ≤ a
      · by_cases ht : 1 ≤ t
        · have hv : may S.n ⟨k, s, a, t, ld⟩ = true := by rw [hM]; simp [hk, hs, ha, ht]; try omega
          rw [hv]
          clear hM hv
          have hk3 : k = 1 ∨ k = 2 ∨ k = 3 := by omega
          clear hk
          rcases hk3 with rfl | rfl | rfl
          all_goals go_enter Try.func31, Try.ntmps31
          all_goals go_wp2_with (go_at_call 28; refine hha.mono ?_; rintro e w9 ⟨rfl, hw9⟩; rw [hw9]; clear hw9 hha)
          all_goals go_ret
          all_goals first | exact ⟨rfl, (Below.refl _ w).alloc (Nat.le_refl _) _⟩ | (refine ⟨ret_bool ?_, (Below.refl _ w).alloc (Nat.le_refl _) _⟩; simp; omega)
        · have hv : may S.n ⟨k, s, a, t, ld⟩ = false := by rw [hM]; simp [hk, hs, ha, ht]; try omega
          rw [hv]
          clear hM hv
          have hk3 : k = 1 ∨ k = 2 ∨ k = 3 := by omega
          clear hk
          rcases hk3 with rfl | rfl | rfl
          all_goals go_enter Try.func31, Try.ntmps31
          all_goals go_wp2_with (go_at_call 28; refine hha.mono ?_; rintro e w9 ⟨rfl, hw9⟩; rw [hw9]; clear hw9 hha)
          all_goals go_ret
          all_goals first | exact ⟨rfl, (Below.refl _ w).alloc (Nat.le_refl _) _⟩ | (refine ⟨ret_bool ?_, (Below.refl _ w).alloc (Nat.le_refl _) _⟩; simp; omega)
      · have hv : may S.n ⟨k, s, a, t, ld⟩ = false := by rw [hM]; simp [hk, hs, ha]; try omega
        rw [hv]
        clear hM hv
        have hk3 : k = 1 ∨ k = 2 ∨ k = 3 := by omega
        clear hk
        rcases hk3 with rfl | rfl | rfl
        all_goals go_enter Try.func31, Try.ntmps31
        all_goals go_wp2_with (go_at_call 28; refine hha.mono ?_; rintro e w9 ⟨rfl, hw9⟩; rw [hw9]; clear hw9 hha)
        all_goals go_ret
        all_goals first | exact ⟨rfl, (Below.refl _ w).alloc (Nat.le_refl _) _⟩ | (refine ⟨ret_bool ?_, (Below.refl _ w).alloc (Nat.le_refl _) _⟩; simp; omega)
    · by_cases hr : 0 ≤ s ∧ s < S.n
      · rw [decide_eq_true hr] at hha
        by_cases ha : 0 ≤ a
        · by_cases ht : 1 ≤ t
          · have hv : may S.n ⟨k, s, a, t, ld⟩ = true := by rw [hM]; simp [hk, hs, hr, ha, ht]; try omega
            rw [hv]
            clear hM hv
            have hk3 : k = 1 ∨ k = 2 ∨ k = 3 := by omega
            clear hk
            rcases hk3 with rfl | rfl | rfl
            all_goals go_enter Try.func31, Try.ntmps31
            all_goals go_wp2_with (go_at_call 28; refine hha.mono ?_; rintro e w9 ⟨rfl, hw9⟩; rw [hw9]; clear hw9 hha)
            all_goals go_ret
            all_goals first | exact ⟨rfl, (Below.refl _ w).alloc (Nat.le_refl _) _⟩ | (refine ⟨ret_bool ?_, (Below.refl _ w).alloc (Nat.le_refl _) _⟩; simp; omega)
          · have hv : may S.n ⟨k, s, a, t, ld⟩ = false := by rw [hM]; simp [hk, hs, hr, ha, ht]; try omega
            rw [hv]
            clear hM hv
            have hk3 : k = 1 ∨ k = 2 ∨ k = 3 := by omega
            clear hk
            rcases hk3 with rfl | rfl | rfl
            all_goals go_enter Try.func31, Try.ntmps31
            all_goals go_wp2_with (go_at_call 28; refine hha.mono ?_; rintro e w9 ⟨rfl, hw9⟩; rw [hw9]; clear hw9 hha)
            all_goals go_ret
            all_goals first | exact ⟨rfl, (Below.refl _ w).alloc (Nat.le_refl _) _⟩ | (refine ⟨ret_bool ?_, (Below.refl _ w).alloc (Nat.le_refl _) _⟩; simp; omega)
        · have hv : may S.n ⟨k, s, a, t, ld⟩ = false := by rw [hM]; simp [hk, hs, hr, ha]; try omega
          rw [hv]
          clear hM hv
          have hk3 : k = 1 ∨ k = 2 ∨ k = 3 := by omega
          clear hk
          rcases hk3 with rfl | rfl | rfl
          all_goals go_enter Try.func31, Try.ntmps31
          all_goals go_wp2_with (go_at_call 28; refine hha.mono ?_; rintro e w9 ⟨rfl, hw9⟩; rw [hw9]; clear hw9 hha)
          all_goals go_ret
          all_goals first | exact ⟨rfl, (Below.refl _ w).alloc (Nat.le_refl _) _⟩ | (refine ⟨ret_bool ?_, (Below.refl _ w).alloc (Nat.le_refl _) _⟩; simp; omega)
      · rw [decide_eq_false hr] at hha
        have hv : may S.n ⟨k, s, a, t, ld⟩ = false := by rw [hM, decide_eq_false hr, decide_eq_false hs]; simp
        rw [hv]
        clear hM hv
        have hk3 : k = 1 ∨ k = 2 ∨ k = 3 := by omega
        clear hk
        rcases hk3 with rfl | rfl | rfl
        all_goals go_enter Try.func31, Try.ntmps31
        all_goals go_wp2_with (go_at_call 28; refine hha.mono ?_; rintro e w9 ⟨rfl, hw9⟩; rw [hw9]; clear hw9 hha)
        all_goals go_ret
        all_goals first | exact ⟨rfl, (Below.refl _ w).alloc (Nat.le_refl _) _⟩ | (refine ⟨ret_bool ?_, (Below.refl _ w).alloc (Nat.le_refl _) _⟩; simp; omega)
  · have hv : may S.n ⟨k, s, a, t, ld⟩ = false := by rw [hM, decide_eq_false hk]; simp
    rw [hv]
    clear hM hv
    have h1 : ¬ k = 1 := by omega
    have h2 : ¬ k = 2 := by omega
    have h3 : ¬ k = 3 := by omega
    go_enter Try.func31, Try.ntmps31
    go_wp2
    go_ret
    first | exact ⟨rfl, (Below.refl _ w).alloc (Nat.le_refl _) _⟩ | (refine ⟨ret_bool ?_, (Below.refl _ w).alloc (Nat.le_refl _) _⟩; simp; omega)
end Go.Proofs.Ythmonfmpgjbhmab.K
