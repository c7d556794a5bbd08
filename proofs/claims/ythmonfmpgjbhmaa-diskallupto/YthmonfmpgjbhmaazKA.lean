import Derived.Test.YthmonfmpgjbhmaazKS
namespace Go.Proofs.Ythmonfmpgjbhmaa.K
open Go.RowKit Go.Maps Go.Proofs.Ythmonfmpgjbhmaa Go.MuLone
attribute [local go_sem] Oper.semAt_some
set_option linter.unusedVariables false
set_option linter.unusedSimpArgs false
set_option maxRecDepth 100000

theorem yes_any (w : World) (i : Nat) : Calls Try.prog 45 #[.int .i64 i] w fun r w' => r = .returned (.bool true) ∧ Below w.heap.size w w' := by
  go_enter Try.func45, Try.ntmps45
  go_wp2
  go_ret
  exact ⟨rfl, Below.refl _ _⟩
def barred (S : Dk) : Dk := settled (fun _ => true) { S with st := { S.st with bars := inc S.st.bars } }
set_option maxHeartbeats 4000000 in
theorem barrier_none {w : World} {b ms ml : Nat} {qv fv : Value} {S : Dk} (h : RK w 0 b ms ml qv fv S) (hf : S.fs = []) (hql : S.q.length ≤ 1048576) :
    Calls Try.prog 26 #[.pointer (some ⟨b, 0, none⟩)] w fun r w' => r = .returned (.int .i64 0) ∧ ∃ ml', DAct w w' 0 b ms ml ms ml' qv fv (.slice none 0 0) fv (barred S) := by
  have hus := usable_any h
  have c0 : w.cell? ⟨b, 0, none⟩ = some (.int .i32 0) := h.c 0
  have z0 := h.fz 0
  have a1 := (DAct.refl h).put 0 (.int .i32 1) 1 S.st rfl
  obtain ⟨w1, hw1⟩ : ∃ w1, w1 = w.setCell ⟨b, 0, none⟩ (.int .i32 1) := ⟨_, rfl⟩
  rw [← hw1] at a1
  have hfa := fail_none a1.rk hf 3 (-1)
  have HA1 : Hid (DAct w w1 1 b ms ml ms ml qv fv qv fv S) := a1
  have HQ : Hid (S.q.length ≤ 1048576) := hql
  clear h a1 hf hql
  go_enter_defers Try.func26, Try.ntmps26
  go_wp2_with (first | (go_at_call 27; refine hus.mono ?_; rintro e w9 ⟨rfl, hw9⟩; rw [hw9]; clear hw9 hus) | (go_at_call 28; refine (lock_free Try.muLib ⟨b, 0, none⟩ _ c0 z0).mono ?_; rintro e w9 ⟨rfl, hw9⟩; rw [hw9, ← hw1]; clear hw9 hw1 c0 z0) | (go_at_call 34; refine hfa.mono ?_; rintro e w2 ⟨rfl, hb2⟩; have a3 : DAct w (w2.alloc (.cells #[.int .i64 0, .int .i64 0, .int .i64 0, .int .i64 0, .bool false] TFa)) 1 b ms ml ms ml qv fv qv fv S := (HA1.out.later hb2).later ((Below.refl _ w2).alloc (Nat.le_refl _) _); have c9 : (w2.alloc (.cells #[.int .i64 0, .int .i64 0, .int .i64 0, .int .i64 0, .bool false] TFa)).cell? ⟨b, 9, none⟩ = some (.int .u64 S.st.bars) := a3.rk.c 9; have z9 := a3.rk.fz 9; have a4 := a3.put 9 (.int .u64 (inc S.st.bars)) 1 { S.st with bars := inc S.st.bars } rfl; have HA4 : Hid (DAct w ((w2.alloc (.cells #[.int .i64 0, .int .i64 0, .int .i64 0, .int .i64 0, .bool false] TFa)).setCell ⟨b, 9, none⟩ (.int .u64 (inc S.st.bars))) 1 b ms ml ms ml qv fv qv fv { S with st := { S.st with bars := inc S.st.bars } }) := a4; clear hb2 hfa a3 a4) | (go_at_call 44; refine (settle_any HA4.out.rk (fun _ => true) HQ.out (fun W i _ _ => yes_any W i)).mono ?_; rintro e w5 ⟨rfl, ml', h5⟩; have HA5 : Hid (DAct w w5 1 b ms ml ms ml' qv fv (.slice none 0 0) fv (barred S)) := HA4.out.trans h5; clear h5))
  refine leaves_cons (f := 29) (args := #[.pointer (some ⟨b, 0, none⟩)]) (by simp) (by simp [go_sem]) ?_
  refine (unlock_deferred Try.muLib ⟨b, 0, none⟩ .returning _ (HA5.out.rk.c 0) (HA5.out.rk.fz 0)).mono ?_
  rintro e u' w'' ⟨rfl, rfl, rfl⟩
  exact ⟨_, results_tmp rfl _ _ _, rfl, ml', HA5.out.put 0 (.int .i32 0) 0 (barred S).st rfl⟩
end Go.Proofs.Ythmonfmpgjbhmaa.K
