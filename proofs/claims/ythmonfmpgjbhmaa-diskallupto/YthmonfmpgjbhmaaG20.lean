import Derived.Test.YthmonfmpgjbhmaaG19
import Derived.Deep.RegionHeld3
import Derived.Deep.RegionLaw
import Derived.Deep.AppendLies
import Derived.Deep.DrawnRows
namespace Go.Proofs.Ythmonfmpgjbhmaa.K
open Go.RowKit Go.Maps Go.Proofs.Ythmonfmpgjbhmaa Go.MuLone
attribute [local go_sem] Oper.semAt_some
set_option linter.unusedVariables false
set_option linter.unusedSimpArgs false
set_option maxRecDepth 100000

def may (n : Nat) (f : Flt) : Bool := decide (1 ≤ f.kind ∧ f.kind ≤ 3) && (decide (f.sector = -1) || decide (0 ≤ f.sector ∧ f.sector < n)) && decide (0 ≤ f.after) && decide (1 ≤ f.times)
set_option maxHeartbeats 2000000 in
theorem mayArm_any {w : World} {lk : Int} {b ms ml : Nat} {qv fv : Value} {S : Dk} (h : RK w lk b ms ml qv fv S) (k s a t : Int) (ld : Bool) :
    Calls Try.prog 56 #[.pointer (some ⟨b, 0, none⟩), .agg #[.int .i64 k, .int .i64 s, .int .i64 a, .int .i64 t, .bool ld]] w fun r w' => r = .returned (.bool (may S.n ⟨k, s, a, t, ld⟩)) ∧ Below w.heap.size w w' := by
  have hB0 : Below w.heap.size w (w.alloc (.cells #[.int .i64 k, .int .i64 s, .int .i64 a, .int .i64 t, .bool ld] TFa)) := (Below.refl _ w).alloc (Nat.le_refl _) _
  have hha := has_any (h.later hB0) s
  have HB : Hid (Below w.heap.size w (w.alloc (.cells #[.int .i64 k, .int .i64 s, .int .i64 a, .int .i64 t, .bool ld] TFa))) := hB0
  have hM : may S.n ⟨k, s, a, t, ld⟩ = (decide (1 ≤ k ∧ k ≤ 3) && (decide (s = -1) || decide (0 ≤ s ∧ s < S.n)) && decide (0 ≤ a) && decide (1 ≤ t)) := rfl
  clear h hB0
  by_cases hk : 1 ≤ k ∧ k ≤ 3
  · by_cases hs : s = -1
    · by_cases ha : 0 ≤ a
      · by_cases ht : 1 ≤ t
        · have hv : may S.n ⟨k, s, a, t, ld⟩ = true := by rw [hM]; simp [hk, hs, ha, ht]; try omega
          rw [hv]
          clear hM hv
          have hk3 : k = 1 ∨ k = 2 ∨ k = 3 := by omega
          clear hk
          rcases hk3 with rfl | rfl | rfl
          all_goals go_enter Try.func56, Try.ntmps56
          all_goals go_wp2_with (go_at_call 33; refine hha.mono ?_; rintro e w9 ⟨rfl, hw9⟩; rw [hw9]; clear hw9 hha)
          all_goals go_ret
          all_goals first | exact ⟨rfl, (Below.refl _ w).alloc (Nat.le_refl _) _⟩ | (refine ⟨ret_bool ?_, (Below.refl _ w).alloc (Nat.le_refl _) _⟩; simp; omega)
        · have hv : may S.n ⟨k, s, a, t, ld⟩ = false := by rw [hM]; simp [hk, hs, ha, ht]; try omega
          rw [hv]
          clear hM hv
          have hk3 : k = 1 ∨ k = 2 ∨ k = 3 := by omega
          clear hk
          rcases hk3 with rfl | rfl | rfl
          all_goals go_enter Try.func56, Try.ntmps56
          all_goals go_wp2_with (go_at_call 33; refine hha.mono ?_; rintro e w9 ⟨rfl, hw9⟩; rw [hw9]; clear hw9 hha)
          all_goals go_ret
          all_goals first | exact ⟨rfl, (Below.refl _ w).alloc (Nat.le_refl _) _⟩ | (refine ⟨ret_bool ?_, (Below.refl _ w).alloc (Nat.le_refl _) _⟩; simp; omega)
      · have hv : may S.n ⟨k, s, a, t, ld⟩ = false := by rw [hM]; simp [hk, hs, ha]; try omega
        rw [hv]
        clear hM hv
        have hk3 : k = 1 ∨ k = 2 ∨ k = 3 := by omega
        clear hk
        rcases hk3 with rfl | rfl | rfl
        all_goals go_enter Try.func56, Try.ntmps56
        all_goals go_wp2_with (go_at_call 33; refine hha.mono ?_; rintro e w9 ⟨rfl, hw9⟩; rw [hw9]; clear hw9 hha)
        all_goals go_ret
        all_goals first | exact ⟨rfl, (Below.refl _ w).alloc (Nat.le_refl _) _⟩ | (refine ⟨ret_bool ?_, (Below.refl _ w).alloc (Nat.le_refl _) _⟩; simp; omega)
    · by_cases hr : 0 ≤ s ∧ s < S.n
      · rw [decide_eq_true hr] at hha
        by_cases ha : 0 ≤ a
        · by_cases ht : 1 ≤ t
          · have hv : may S.n ⟨k, s, a, t, ld⟩ = true := by rw [hM]; simp [hk, hs, hr, ha, ht]; try omega
            rw [hv]
            clear hM hv
            have hk3 : k = 1 ∨ k = 2 ∨ k = 3 := by omega
            clear hk
            rcases hk3 with rfl | rfl | rfl
            all_goals go_enter Try.func56, Try.ntmps56
            all_goals go_wp2_with (go_at_call 33; refine hha.mono ?_; rintro e w9 ⟨rfl, hw9⟩; rw [hw9]; clear hw9 hha)
            all_goals go_ret
            all_goals first | exact ⟨rfl, (Below.refl _ w).alloc (Nat.le_refl _) _⟩ | (refine ⟨ret_bool ?_, (Below.refl _ w).alloc (Nat.le_refl _) _⟩; simp; omega)
          · have hv : may S.n ⟨k, s, a, t, ld⟩ = false := by rw [hM]; simp [hk, hs, hr, ha, ht]; try omega
            rw [hv]
            clear hM hv
            have hk3 : k = 1 ∨ k = 2 ∨ k = 3 := by omega
            clear hk
            rcases hk3 with rfl | rfl | rfl
            all_goals go_enter Try.func56, Try.ntmps56
            all_goals go_wp2_with (go_at_call 33; refine hha.mono ?_; rintro e w9 ⟨rfl, hw9⟩; rw [hw9]; clear hw9 hha)
            all_goals go_ret
            all_goals first | exact ⟨rfl, (Below.refl _ w).alloc (Nat.le_refl _) _⟩ | (refine ⟨ret_bool ?_, (Below.refl _ w).alloc (Nat.le_refl _) _⟩; simp; omega)
        · have hv : may S.n ⟨k, s, a, t, ld⟩ = false := by rw [hM]; simp [hk, hs, hr, ha]; try omega
          rw [hv]
          clear hM hv
          have hk3 : k = 1 ∨ k = 2 ∨ k = 3 := by omega
          clear hk
          rcases hk3 with rfl | rfl | rfl
          all_goals go_enter Try.func56, Try.ntmps56
          all_goals go_wp2_with (go_at_call 33; refine hha.mono ?_; rintro e w9 ⟨rfl, hw9⟩; rw [hw9]; clear hw9 hha)
          all_goals go_ret
          all_goals first | exact ⟨rfl, (Below.refl _ w).alloc (Nat.le_refl _) _⟩ | (refine ⟨ret_bool ?_, (Below.refl _ w).alloc (Nat.le_refl _) _⟩; simp; omega)
      · rw [decide_eq_false hr] at hha
        have hv : may S.n ⟨k, s, a, t, ld⟩ = false := by rw [hM, decide_eq_false hr, decide_eq_false hs]; simp
        rw [hv]
        clear hM hv
        have hk3 : k = 1 ∨ k = 2 ∨ k = 3 := by omega
        clear hk
        rcases hk3 with rfl | rfl | rfl
        all_goals go_enter Try.func56, Try.ntmps56
        all_goals go_wp2_with (go_at_call 33; refine hha.mono ?_; rintro e w9 ⟨rfl, hw9⟩; rw [hw9]; clear hw9 hha)
        all_goals go_ret
        all_goals first | exact ⟨rfl, (Below.refl _ w).alloc (Nat.le_refl _) _⟩ | (refine ⟨ret_bool ?_, (Below.refl _ w).alloc (Nat.le_refl _) _⟩; simp; omega)
  · have hv : may S.n ⟨k, s, a, t, ld⟩ = false := by rw [hM, decide_eq_false hk]; simp
    rw [hv]
    clear hM hv
    have h1 : ¬ k = 1 := by omega
    have h2 : ¬ k = 2 := by omega
    have h3 : ¬ k = 3 := by omega
    go_enter Try.func56, Try.ntmps56
    go_wp2
    go_ret
    first | exact ⟨rfl, (Below.refl _ w).alloc (Nat.le_refl _) _⟩ | (refine ⟨ret_bool ?_, (Below.refl _ w).alloc (Nat.le_refl _) _⟩; simp; omega)
end Go.Proofs.Ythmonfmpgjbhmaa.K

namespace Go.Proofs.Ythmonfmpgjbhmaa.K
open Go.RowKit Go.Maps Go.Proofs.Ythmonfmpgjbhmaa Go.MuLone
attribute [local go_sem] Oper.semAt_some
set_option linter.unusedVariables false
set_option linter.unusedSimpArgs false
set_option maxRecDepth 100000

set_option maxHeartbeats 4000000 in
theorem faults_any {w : World} {b ms ml : Nat} {qv fv : Value} {S : Dk} (h : RK w 0 b ms ml qv fv S) (hf : FsOk S.fs) :
    Calls Try.prog 73 #[.pointer (some ⟨b, 0, none⟩)] w fun r w' => ∃ v, r = .returned v ∧ w'.ownsRow w.heap.size TFa 5 v S.fs.length (fcells S.fs) ∧ DAct w w' 0 b ms ml ms ml qv fv qv fv S := by
  have hus := usable_any h
  have c0 : w.cell? ⟨b, 0, none⟩ = some (.int .i32 0) := h.c 0
  have z0 := h.fz 0
  have a1 := (DAct.refl h).put 0 (.int .i32 1) 1 S.st rfl
  obtain ⟨w1, hw1⟩ : ∃ w1, w1 = w.setCell ⟨b, 0, none⟩ (.int .i32 1) := ⟨_, rfl⟩
  rw [← hw1] at a1
  have c6 : w1.cell? ⟨b, 6, none⟩ = some fv := a1.rk.c 6
  have hcl := fclone_any a1.rk.fr (fcells_one _) (Nat.le_trans hf.le (by decide))
  have HA1 : Hid (DAct w w1 1 b ms ml ms ml qv fv qv fv S) := a1
  clear h a1 hf
  go_enter_defers Try.func73, Try.ntmps73
  go_wp2_with (first | (go_at_call 27; refine hus.mono ?_; rintro e w9 ⟨rfl, hw9⟩; rw [hw9]; clear hw9 hus) | (go_at_call 28; refine (lock_free Try.muLib ⟨b, 0, none⟩ _ c0 z0).mono ?_; rintro e w9 ⟨rfl, hw9⟩; rw [hw9, ← hw1]; clear hw9 hw1 c0 z0) | (go_at_call 55; refine hcl.mono ?_; rintro e w7 ⟨v, rfl, ho7, hb7⟩; clear hcl))
  have a7 := HA1.out.later hb7
  refine leaves_cons (f := 29) (args := #[.pointer (some ⟨b, 0, none⟩)]) (by simp) (by simp [go_sem]) ?_
  refine (unlock_deferred Try.muLib ⟨b, 0, none⟩ .returning _ (a7.rk.c 0) (a7.rk.fz 0)).mono ?_
  rintro e u' w'' ⟨rfl, rfl, rfl⟩
  refine ⟨_, results_tmp rfl _ _ _, v, rfl, ?_, a7.put 0 (.int .i32 0) 0 S.st rfl⟩
  have hk := HA1.out.kp.size
  have hbl := HA1.out.rk.lt b (by simp [fp])
  refine ownsRow_block (owns_mono ho7 hk) (fun g hg => Below.heap_setCell _ _ _ _ ?_)
  have := (ho7.lt g hg).1
  show g ≠ b
  omega
end Go.Proofs.Ythmonfmpgjbhmaa.K
