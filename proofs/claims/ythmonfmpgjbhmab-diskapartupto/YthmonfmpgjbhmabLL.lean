import Derived.Test.YthmonfmpgjbhmabLK
namespace Go.Proofs.Ythmonfmpgjbhmab.K
open Go.RowKit Go.Maps Go.Proofs.Ythmonfmpgjbhmab Go.MuLone
attribute [local go_sem] Oper.semAt_some
set_option linter.unusedVariables false
set_option linter.unusedSimpArgs false
set_option maxRecDepth 100000

set_option maxHeartbeats 4000000 in
theorem faults_any {w : World} {b ms ml : Nat} {qv fv : Value} {S : Dk} (h : RK w 0 b ms ml qv fv S) (hf : FsOk S.fs) :
    Calls Try.prog 18 #[.pointer (some ⟨b, 0, none⟩)] w fun r w' => ∃ v, r = .returned v ∧ w'.ownsRow w.heap.size TFa 5 v S.fs.length (fcells S.fs) ∧ DAct w w' 0 b ms ml ms ml qv fv qv fv S := by
  have hus := usable_any h
  have c0 : w.cell? ⟨b, 0, none⟩ = some (.int .i32 0) := h.c 0
  have z0 := h.fz 0
  have a1 := (DAct.refl h).put 0 (.int .i32 1) 1 S.st rfl
  obtain ⟨w1, hw1⟩ : ∃ w1, w1 = w.setCell ⟨b, 0, none⟩ (.int .i32 1) := ⟨_, rfl⟩
  rw [← hw1] at a1
  have c6 : w1.cell? ⟨b, 6, none⟩ = some fv := a1.rk.c 6
  have hcl := fclone_any a1.rk.fr (fcells_one _) (Nat.le_trans hf.le (by decide))
  have HA1 : Hid (DAct w w1 1 b ms ml ms ml qv fv qv fv S) := a1
  clear h a1 hf
  go_enter_defers Try.func18, Try.ntmps18
  go_wp2_with (first | (go_at_call 25; refine hus.mono ?_; rintro e w9 ⟨rfl, hw9⟩; rw [hw9]; clear hw9 hus) | (go_at_call 26; refine (lock_free Try.muLib ⟨b, 0, none⟩ _ c0 z0).mono ?_; rintro e w9 ⟨rfl, hw9⟩; rw [hw9, ← hw1]; clear hw9 hw1 c0 z0) | (go_at_call 37; refine hcl.mono ?_; rintro e w7 ⟨v, rfl, ho7, hb7⟩; clear hcl))
  have a7 := HA1.out.later hb7
  refine leaves_cons (f := 27) (args := #[.pointer (some ⟨b, 0, none⟩)]) (by simp) (by simp [go_sem]) ?_
  refine (unlock_deferred Try.muLib ⟨b, 0, none⟩ .returning _ (a7.rk.c 0) (a7.rk.fz 0)).mono ?_
  rintro e u' w'' ⟨rfl, rfl, rfl⟩
  refine ⟨_, results_tmp rfl _ _ _, v, rfl, ?_, a7.put 0 (.int .i32 0) 0 S.st rfl⟩
  have hk := HA1.out.kp.size
  have hbl := HA1.out.rk.lt b (by simp [fp])
  refine ownsRow_block (owns_mono ho7 hk) (fun g hg => Below.heap_setCell _ _ _ _ ?_)
  have := (ho7.lt g hg).1
  show g ≠ b
  omega
end Go.Proofs.Ythmonfmpgjbhmab.K
