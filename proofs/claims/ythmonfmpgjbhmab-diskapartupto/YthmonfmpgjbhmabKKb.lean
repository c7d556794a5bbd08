import Derived.Test.YthmonfmpgjbhmabKH
namespace Go.Proofs.Ythmonfmpgjbhmab.K
open Go.RowKit Go.Maps Go.Proofs.Ythmonfmpgjbhmab Go.MuLone
attribute [local go_sem] Oper.semAt_some
set_option linter.unusedVariables false
set_option linter.unusedSimpArgs false
set_option maxRecDepth 100000

set_option maxHeartbeats 4000000 in
theorem read_out {w : World} {b ms ml : Nat} {qv fv : Value} {S : Dk} (h : RK w 0 b ms ml qv fv S) {s : Int} (hs : ¬ (0 ≤ s ∧ s < S.n)) :
    Calls Try.prog 22 #[.pointer (some ⟨b, 0, none⟩), .int .i64 s] w fun r w' => r = .returned (.tuple #[.slice none 0 0, .int .i64 31]) ∧ DAct w w' 0 b ms ml ms ml qv fv qv fv S := by
  have hus := usable_any h
  have c0 : w.cell? ⟨b, 0, none⟩ = some (.int .i32 0) := h.c 0
  have z0 := h.fz 0
  have a1 := (DAct.refl h).put 0 (.int .i32 1) 1 S.st rfl
  obtain ⟨w1, hw1⟩ : ∃ w1, w1 = w.setCell ⟨b, 0, none⟩ (.int .i32 1) := ⟨_, rfl⟩
  rw [← hw1] at a1
  have h1 : RK w1 1 b ms ml qv fv S := a1.rk
  have hha := has_any h1 s
  rw [decide_eq_false hs] at hha
  have HA1 : Hid (DAct w w1 1 b ms ml ms ml qv fv qv fv S) := a1
  clear h h1 a1 hs
  go_enter_defers Try.func22, Try.ntmps22
  go_wp2_with (first | (go_at_call 25; refine hus.mono ?_; rintro e w9 ⟨rfl, hw9⟩; rw [hw9]; clear hw9 hus) | (go_at_call 26; refine (lock_free Try.muLib ⟨b, 0, none⟩ _ c0 z0).mono ?_; rintro e w9 ⟨rfl, hw9⟩; rw [hw9, ← hw1]; clear hw9 hw1 c0 z0) | (go_at_call 28; refine hha.mono ?_; rintro e w9 ⟨rfl, hw9⟩; rw [hw9]; clear hw9 hha))
  have a7 := HA1.out
  refine leaves_cons (f := 27) (args := #[.pointer (some ⟨b, 0, none⟩)]) (by simp) (by simp [go_sem]) ?_
  refine (unlock_deferred Try.muLib ⟨b, 0, none⟩ .returning _ (a7.rk.c 0) (a7.rk.fz 0)).mono ?_
  rintro e u' w'' ⟨rfl, rfl, rfl⟩
  exact ⟨_, results_tmp2 rfl _ _ _, rfl, a7.put 0 (.int .i32 0) 0 S.st rfl⟩
set_option maxHeartbeats 4000000 in
theorem queue_none {w : World} {b ms ml : Nat} {fv : Value} {S : Dk} (h : RK w 0 b ms ml (.slice none 0 0) fv S) :
    Calls Try.prog 12 #[.pointer (some ⟨b, 0, none⟩)] w fun r w' => r = .returned (.slice none 0 0) ∧ DAct w w' 0 b ms ml ms ml (.slice none 0 0) fv (.slice none 0 0) fv S := by
  have hus := usable_any h
  have c0 : w.cell? ⟨b, 0, none⟩ = some (.int .i32 0) := h.c 0
  have z0 := h.fz 0
  have a1 := (DAct.refl h).put 0 (.int .i32 1) 1 S.st rfl
  obtain ⟨w1, hw1⟩ : ∃ w1, w1 = w.setCell ⟨b, 0, none⟩ (.int .i32 1) := ⟨_, rfl⟩
  rw [← hw1] at a1
  have c4 : w1.cell? ⟨b, 4, none⟩ = some (.slice none 0 0) := a1.rk.c 4
  have HA1 : Hid (DAct w w1 1 b ms ml ms ml (.slice none 0 0) fv (.slice none 0 0) fv S) := a1
  clear h a1
  go_enter_defers Try.func12, Try.ntmps12
  go_wp2_with (first | (go_at_call 25; refine hus.mono ?_; rintro e w9 ⟨rfl, hw9⟩; rw [hw9]; clear hw9 hus) | (go_at_call 26; refine (lock_free Try.muLib ⟨b, 0, none⟩ _ c0 z0).mono ?_; rintro e w9 ⟨rfl, hw9⟩; rw [hw9, ← hw1]; clear hw9 hw1 c0 z0))
  go_loopw [3, 21] (fun t i wr => t = .slice none 0 0 ∧ i = .int .i64 0 ∧ Hid (wr = w1)) (fun _ i _ => 0)
  case atStart => exact ⟨rfl, rfl, rfl⟩
  case round =>
    obtain ⟨rfl, rfl, HW⟩ := hrel
    go_wp2
    have a7 := HA1.out
    rw [← HW.out] at a7
    refine leaves_cons (f := 27) (args := #[.pointer (some ⟨b, 0, none⟩)]) (by simp) (by simp [go_sem]) ?_
    refine (unlock_deferred Try.muLib ⟨b, 0, none⟩ .returning _ (a7.rk.c 0) (a7.rk.fz 0)).mono ?_
    rintro e u' w'' ⟨rfl, rfl, rfl⟩
    exact ⟨_, results_tmp rfl _ _ _, rfl, a7.put 0 (.int .i32 0) 0 S.st rfl⟩
end Go.Proofs.Ythmonfmpgjbhmab.K
