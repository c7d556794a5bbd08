import Derived.Test.YtbamjfnjenmdaaaGreatG12
import Derived.Deep.RegionHeld3
import Derived.Deep.RegionLaw
import Derived.Deep.AppendLies
import Derived.Deep.DrawnRows
namespace Go.Proofs.YtbamjfnjenmdaaaGreat.K
open Go.RowKit Go.Maps Go.Proofs.YtbamjfnjenmdaaaGreat Go.MuLone
attribute [local go_sem] Oper.semAt_some
set_option linter.unusedVariables false
set_option linter.unusedSimpArgs false
set_option maxRecDepth 100000

attribute [local go_sem ↓] putOf_eq rowOf_eq
set_option maxHeartbeats 4000000 in
theorem write_out {w : World} {b ms ml : Nat} {qv fv : Value} {S : Dk} (h : RK w 0 b ms ml qv fv S) {s : Int} (hs : ¬ (0 ≤ s ∧ s < S.n)) (m : Nat) (ao : Option Addr) (cap : Nat) :
    Calls Tryz.prog 64 #[.pointer (some ⟨b, 0, none⟩), .int .i64 s, .slice ao m cap] w fun r w' => r = .returned (.int .i64 31) ∧ DAct w w' 0 b ms ml ms ml qv fv qv fv S := by
  have hus := usable_any h
  have c0 : w.cell? ⟨b, 0, none⟩ = some (.int .i32 0) := h.c 0
  have z0 := h.fz 0
  have a1 := (DAct.refl h).put 0 (.int .i32 1) 1 S.st rfl
  obtain ⟨w1, hw1⟩ : ∃ w1, w1 = w.setCell ⟨b, 0, none⟩ (.int .i32 1) := ⟨_, rfl⟩
  rw [← hw1] at a1
  have h1 : RK w1 1 b ms ml qv fv S := a1.rk
  have hha := has_any h1 s
  rw [decide_eq_false hs] at hha
  have HA1 : Hid (DAct w w1 1 b ms ml ms ml qv fv qv fv S) := a1
  clear h h1 a1 hs
  go_enter_defers Tryz.func64, Tryz.ntmps64
  go_wp2_with (first | (go_at_call 44; refine hus.mono ?_; rintro e w9 ⟨rfl, hw9⟩; rw [hw9]; clear hw9 hus) | (go_at_call 45; refine (lock_free Tryz.muLib ⟨b, 0, none⟩ _ c0 z0).mono ?_; rintro e w9 ⟨rfl, hw9⟩; rw [hw9, ← hw1]; clear hw9 hw1 c0 z0) | (go_at_call 57; refine hha.mono ?_; rintro e w9 ⟨rfl, hw9⟩; rw [hw9]; clear hw9 hha))
  have a7 := HA1.out
  refine leaves_cons (f := 46) (args := #[.pointer (some ⟨b, 0, none⟩)]) (by simp) (by simp [go_sem]) ?_
  refine (unlock_deferred Tryz.muLib ⟨b, 0, none⟩ .returning _ (a7.rk.c 0) (a7.rk.fz 0)).mono ?_
  rintro e u' w'' ⟨rfl, rfl, rfl⟩
  exact ⟨_, results_tmp rfl _ _ _, rfl, a7.put 0 (.int .i32 0) 0 S.st rfl⟩
set_option maxHeartbeats 4000000 in
theorem write_len {w : World} {b ms ml : Nat} {qv fv : Value} {S : Dk} (h : RK w 0 b ms ml qv fv S) {s : Nat} (hs : s < S.n) {m : Nat} (hm : m ≠ 512) (hm1 : m ≤ 140737488351232) (ao : Option Addr) (cap : Nat) :
    Calls Tryz.prog 64 #[.pointer (some ⟨b, 0, none⟩), .int .i64 s, .slice ao m cap] w fun r w' => r = .returned (.int .i64 32) ∧ DAct w w' 0 b ms ml ms ml qv fv qv fv S := by
  have hus := usable_any h
  have c0 : w.cell? ⟨b, 0, none⟩ = some (.int .i32 0) := h.c 0
  have z0 := h.fz 0
  have a1 := (DAct.refl h).put 0 (.int .i32 1) 1 S.st rfl
  obtain ⟨w1, hw1⟩ : ∃ w1, w1 = w.setCell ⟨b, 0, none⟩ (.int .i32 1) := ⟨_, rfl⟩
  rw [← hw1] at a1
  have h1 : RK w1 1 b ms ml qv fv S := a1.rk
  have hha := has_any h1 s
  rw [decide_eq_true (show 0 ≤ (s : Int) ∧ (s : Int) < S.n by omega)] at hha
  have hmi : ¬ ((m : Int) = 512) := by omega
  have HA1 : Hid (DAct w w1 1 b ms ml ms ml qv fv qv fv S) := a1
  clear h h1 a1 hs hm
  go_enter_defers Tryz.func64, Tryz.ntmps64
  go_wp2_with (first | (go_at_call 44; refine hus.mono ?_; rintro e w9 ⟨rfl, hw9⟩; rw [hw9]; clear hw9 hus) | (go_at_call 45; refine (lock_free Tryz.muLib ⟨b, 0, none⟩ _ c0 z0).mono ?_; rintro e w9 ⟨rfl, hw9⟩; rw [hw9, ← hw1]; clear hw9 hw1 c0 z0) | (go_at_call 57; refine hha.mono ?_; rintro e w9 ⟨rfl, hw9⟩; rw [hw9]; clear hw9 hha))
  have a7 := HA1.out
  refine leaves_cons (f := 46) (args := #[.pointer (some ⟨b, 0, none⟩)]) (by simp) (by simp [go_sem]) ?_
  refine (unlock_deferred Tryz.muLib ⟨b, 0, none⟩ .returning _ (a7.rk.c 0) (a7.rk.fz 0)).mono ?_
  rintro e u' w'' ⟨rfl, rfl, rfl⟩
  exact ⟨_, results_tmp rfl _ _ _, rfl, a7.put 0 (.int .i32 0) 0 S.st rfl⟩
set_option maxHeartbeats 4000000 in
theorem write_lost {w : World} {b ms ml : Nat} {qv fv : Value} {S : Dk} (h : RK w 0 b ms ml qv fv S) (hf : FsOk S.fs) {s : Nat} (hs : s < S.n) (hh : hitF S.fs 2 s = true) (hld : landF S.fs 2 s = false) (ao : Option Addr) (cap : Nat) :
    Calls Tryz.prog 64 #[.pointer (some ⟨b, 0, none⟩), .int .i64 s, .slice ao 512 cap] w fun r w' => ∃ fv1, r = .returned (.int .i64 33) ∧ DAct w w' 0 b ms ml ms ml qv fv qv fv1 (failS S 2 s) := by
  have hus := usable_any h
  have c0 : w.cell? ⟨b, 0, none⟩ = some (.int .i32 0) := h.c 0
  have z0 := h.fz 0
  have a1 := (DAct.refl h).put 0 (.int .i32 1) 1 S.st rfl
  obtain ⟨w1, hw1⟩ : ∃ w1, w1 = w.setCell ⟨b, 0, none⟩ (.int .i32 1) := ⟨_, rfl⟩
  rw [← hw1] at a1
  have h1 : RK w1 1 b ms ml qv fv S := a1.rk
  have hha := has_any h1 s
  rw [decide_eq_true (show 0 ≤ (s : Int) ∧ (s : Int) < S.n by omega)] at hha
  have hfa := fail_gen h1 hf 2 s
  rw [hh, hld] at hfa
  obtain ⟨S1, hS1⟩ : ∃ S1, S1 = failS S 2 s := ⟨_, rfl⟩
  rw [← hS1] at hfa ⊢
  have HA1 : Hid (DAct w w1 1 b ms ml ms ml qv fv qv fv S) := a1
  clear h h1 a1 hs hf hh hld hS1
  go_enter_defers Tryz.func64, Tryz.ntmps64
  go_wp2_with (first | (go_at_call 44; refine hus.mono ?_; rintro e w9 ⟨rfl, hw9⟩; rw [hw9]; clear hw9 hus) | (go_at_call 45; refine (lock_free Tryz.muLib ⟨b, 0, none⟩ _ c0 z0).mono ?_; rintro e w9 ⟨rfl, hw9⟩; rw [hw9, ← hw1]; clear hw9 hw1 c0 z0) | (go_at_call 57; refine hha.mono ?_; rintro e w9 ⟨rfl, hw9⟩; rw [hw9]; clear hw9 hha) | (go_at_call 58; refine hfa.mono ?_; rintro e w2 ⟨a0, a1, a2, a3, fv1, rfl, d2⟩; have HA4 : Hid (DAct w (w2.alloc (.cells #[.int .i64 a0, .int .i64 a1, .int .i64 a2, .int .i64 a3, .bool false] TFa)) 1 b ms ml ms ml qv fv qv fv1 S1) := (HA1.out.trans d2).later ((Below.refl _ w2).alloc (Nat.le_refl _) _); clear d2 hfa))
  have a7 := HA4.out
  refine leaves_cons (f := 46) (args := #[.pointer (some ⟨b, 0, none⟩)]) (by simp) (by simp [go_sem]) ?_
  refine (unlock_deferred Tryz.muLib ⟨b, 0, none⟩ .returning _ (a7.rk.c 0) (a7.rk.fz 0)).mono ?_
  rintro e u' w'' ⟨rfl, rfl, rfl⟩
  exact ⟨_, results_tmp rfl _ _ _, fv1, rfl, a7.put 0 (.int .i32 0) 0 S1.st rfl⟩
end Go.Proofs.YtbamjfnjenmdaaaGreat.K

namespace Go.Proofs.YtbamjfnjenmdaaaGreat.K
open Go.RowKit Go.Maps Go.Proofs.YtbamjfnjenmdaaaGreat Go.MuLone
attribute [local go_sem] Oper.semAt_some
set_option linter.unusedVariables false
set_option linter.unusedSimpArgs false
set_option maxRecDepth 100000

set_option maxHeartbeats 4000000 in
theorem barrier_hitless {w : World} {b ms ml : Nat} {qv fv : Value} {S : Dk} (h : RK w 0 b ms ml qv fv S) (hf : FsOk S.fs) (hh : hitF S.fs 3 (-1) = false) (hql : S.q.length ≤ 1048576) :
    Calls Tryz.prog 60 #[.pointer (some ⟨b, 0, none⟩)] w fun r w' => ∃ ml' fv1, r = .returned (.int .i64 0) ∧ DAct w w' 0 b ms ml ms ml' qv fv (.slice none 0 0) fv1 (barred (failS S 3 (-1))) := by
  have hus := usable_any h
  have c0 : w.cell? ⟨b, 0, none⟩ = some (.int .i32 0) := h.c 0
  have z0 := h.fz 0
  have a1 := (DAct.refl h).put 0 (.int .i32 1) 1 S.st rfl
  obtain ⟨w1, hw1⟩ : ∃ w1, w1 = w.setCell ⟨b, 0, none⟩ (.int .i32 1) := ⟨_, rfl⟩
  rw [← hw1] at a1
  have hfa := fail_gen a1.rk hf 3 (-1)
  rw [hh] at hfa
  have HA1 : Hid (DAct w w1 1 b ms ml ms ml qv fv qv fv S) := a1
  have HQ : Hid ((failS S 3 (-1)).q.length ≤ 1048576) := by show _ ≤ _; rw [failS_q]; exact hql
  obtain ⟨S1, hS1⟩ : ∃ S1, S1 = failS S 3 (-1) := ⟨_, rfl⟩
  rw [← hS1] at hfa HQ ⊢
  generalize landF S.fs 3 (-1) = ld at hfa
  clear h a1 hf hql hh hS1
  go_enter_defers Tryz.func60, Tryz.ntmps60
  go_wp2_with (first | (go_at_call 44; refine hus.mono ?_; rintro e w9 ⟨rfl, hw9⟩; rw [hw9]; clear hw9 hus) | (go_at_call 45; refine (lock_free Tryz.muLib ⟨b, 0, none⟩ _ c0 z0).mono ?_; rintro e w9 ⟨rfl, hw9⟩; rw [hw9, ← hw1]; clear hw9 hw1 c0 z0) | (go_at_call 58; refine hfa.mono ?_; rintro e w2 ⟨a0, a1, a2, a3, fv1, rfl, d2⟩; have g3 : DAct w (w2.alloc (.cells #[.int .i64 a0, .int .i64 a1, .int .i64 a2, .int .i64 a3, .bool ld] TFa)) 1 b ms ml ms ml qv fv qv fv1 S1 := (HA1.out.trans d2).later ((Below.refl _ w2).alloc (Nat.le_refl _) _); have c9 : (w2.alloc (.cells #[.int .i64 a0, .int .i64 a1, .int .i64 a2, .int .i64 a3, .bool ld] TFa)).cell? ⟨b, 9, none⟩ = some (.int .u64 S1.st.bars) := g3.rk.c 9; have z9 := g3.rk.fz 9; have g4 := g3.put 9 (.int .u64 (inc S1.st.bars)) 1 { S1.st with bars := inc S1.st.bars } rfl; have HA4 : Hid (DAct w ((w2.alloc (.cells #[.int .i64 a0, .int .i64 a1, .int .i64 a2, .int .i64 a3, .bool ld] TFa)).setCell ⟨b, 9, none⟩ (.int .u64 (inc S1.st.bars))) 1 b ms ml ms ml qv fv qv fv1 { S1 with st := { S1.st with bars := inc S1.st.bars } }) := g4; clear d2 hfa g3 g4) | (go_at_call 79; refine (settle_any HA4.out.rk (fun _ => true) HQ.out (fun W i _ _ => yes_any W i)).mono ?_; rintro e w5 ⟨rfl, ml', h5⟩; have HA5 : Hid (DAct w w5 1 b ms ml ms ml' qv fv (.slice none 0 0) fv1 (barred S1)) := HA4.out.trans h5; clear h5))
  refine leaves_cons (f := 46) (args := #[.pointer (some ⟨b, 0, none⟩)]) (by simp) (by simp [go_sem]) ?_
  refine (unlock_deferred Tryz.muLib ⟨b, 0, none⟩ .returning _ (HA5.out.rk.c 0) (HA5.out.rk.fz 0)).mono ?_
  rintro e u' w'' ⟨rfl, rfl, rfl⟩
  exact ⟨_, results_tmp rfl _ _ _, ml', fv1, rfl, HA5.out.put 0 (.int .i32 0) 0 (barred S1).st rfl⟩
set_option maxHeartbeats 4000000 in
theorem barrier_hit {w : World} {b ms ml : Nat} {qv fv : Value} {S : Dk} (h : RK w 0 b ms ml qv fv S) (hf : FsOk S.fs) (hh : hitF S.fs 3 (-1) = true) :
    Calls Tryz.prog 60 #[.pointer (some ⟨b, 0, none⟩)] w fun r w' => ∃ fv1, r = .returned (.int .i64 33) ∧ DAct w w' 0 b ms ml ms ml qv fv qv fv1 (failS S 3 (-1)) := by
  have hus := usable_any h
  have c0 : w.cell? ⟨b, 0, none⟩ = some (.int .i32 0) := h.c 0
  have z0 := h.fz 0
  have a1 := (DAct.refl h).put 0 (.int .i32 1) 1 S.st rfl
  obtain ⟨w1, hw1⟩ : ∃ w1, w1 = w.setCell ⟨b, 0, none⟩ (.int .i32 1) := ⟨_, rfl⟩
  rw [← hw1] at a1
  have hfa := fail_gen a1.rk hf 3 (-1)
  rw [hh] at hfa
  have HA1 : Hid (DAct w w1 1 b ms ml ms ml qv fv qv fv S) := a1
  obtain ⟨S1, hS1⟩ : ∃ S1, S1 = failS S 3 (-1) := ⟨_, rfl⟩
  rw [← hS1] at hfa ⊢
  generalize landF S.fs 3 (-1) = ld at hfa
  clear h a1 hf hh hS1
  go_enter_defers Tryz.func60, Tryz.ntmps60
  go_wp2_with (first | (go_at_call 44; refine hus.mono ?_; rintro e w9 ⟨rfl, hw9⟩; rw [hw9]; clear hw9 hus) | (go_at_call 45; refine (lock_free Tryz.muLib ⟨b, 0, none⟩ _ c0 z0).mono ?_; rintro e w9 ⟨rfl, hw9⟩; rw [hw9, ← hw1]; clear hw9 hw1 c0 z0) | (go_at_call 58; refine hfa.mono ?_; rintro e w2 ⟨a0, a1, a2, a3, fv1, rfl, d2⟩; have HA4 : Hid (DAct w (w2.alloc (.cells #[.int .i64 a0, .int .i64 a1, .int .i64 a2, .int .i64 a3, .bool ld] TFa)) 1 b ms ml ms ml qv fv qv fv1 S1) := (HA1.out.trans d2).later ((Below.refl _ w2).alloc (Nat.le_refl _) _); clear d2 hfa))
  have a7 := HA4.out
  refine leaves_cons (f := 46) (args := #[.pointer (some ⟨b, 0, none⟩)]) (by simp) (by simp [go_sem]) ?_
  refine (unlock_deferred Tryz.muLib ⟨b, 0, none⟩ .returning _ (a7.rk.c 0) (a7.rk.fz 0)).mono ?_
  rintro e u' w'' ⟨rfl, rfl, rfl⟩
  exact ⟨_, results_tmp rfl _ _ _, fv1, rfl, a7.put 0 (.int .i32 0) 0 S1.st rfl⟩
end Go.Proofs.YtbamjfnjenmdaaaGreat.K

namespace Go.Proofs.YtbamjfnjenmdaaaGreat.K
open Go.RowKit Go.Maps Go.Proofs.YtbamjfnjenmdaaaGreat Go.MuLone
attribute [local go_sem] Oper.semAt_some
set_option linter.unusedVariables false
set_option linter.unusedSimpArgs false
set_option maxRecDepth 100000

/-- a list of bools that was handed in -/
structure BoRow (w : World) (ao : Option Addr) (cap : Nat) (l : List Bool) : Prop where
  len : l.length ≤ 1048576
  nil : ao = none → l = [] ∧ cap = 0
  at_ : l ≠ [] → ∃ b off, ao = some ⟨b, off, none⟩ ∧ ∀ k (x : Bool), l[k]? = some x → w.cell? ⟨b, off + k, none⟩ = some (.bool x)
theorem BoRow.same {w w' : World} {ao : Option Addr} {cap : Nat} {l : List Bool} (h : BoRow w ao cap l) (hs : ∀ ad, ao = some ad → w'.heap[ad.block]? = w.heap[ad.block]?) : BoRow w' ao cap l := by
  refine ⟨h.len, h.nil, fun hn => ?_⟩
  obtain ⟨b, off, e, hc⟩ := h.at_ hn
  refine ⟨b, off, e, fun k x hx => ?_⟩
  have := hs _ e
  exact (World.cell?_of_block (a := ⟨b, off + k, none⟩) this).trans (hc k x hx)
theorem BoRow.kept {w w' : World} {ao : Option Addr} {cap : Nat} {l : List Bool} {F : List Nat} (h : BoRow w ao cap l) (hk : Kp w w' F) (hap : ∀ ad, ao = some ad → l ≠ [] → ad.block ∉ F) : BoRow w' ao cap l := by
  refine ⟨h.len, h.nil, fun hn => ?_⟩
  obtain ⟨b, off, e, hc⟩ := h.at_ hn
  refine ⟨b, off, e, fun k x hx => ?_⟩
  have h1 := hc k x hx
  exact (World.cell?_of_block (a := ⟨b, off + k, none⟩) (hk.block b (cell_lt h1) (hap _ e hn))).trans h1
theorem DAct.nofaults {w W : World} {lk : Int} {b ms ml ms' ml' : Nat} {qv fv qv' fv' : Value} {S : Dk} (h : DAct w W lk b ms ml ms' ml' qv fv qv' fv' S) : DAct w (W.setCell ⟨b, 6, none⟩ (.slice none 0 0)) lk b ms ml ms' ml' qv fv qv' (.slice none 0 0) { S with fs := [] } := by
  obtain ⟨a1, a2, a3, a4, a5, a6, a7, a8, a9⟩ := h.rk.apart
  have hs : ∀ i, i ≠ b → (W.setCell ⟨b, 6, none⟩ (.slice none 0 0)).heap[i]? = W.heap[i]? := fun i hi => Below.heap_setCell _ _ _ _ hi
  obtain ⟨D, h1, h2⟩ := h.rk.sm
  obtain ⟨D', h4, h5⟩ := h.rk.lm
  refine ⟨⟨blk_set h.rk.blk 6 _, h.rk.n0, h.rk.n1, ⟨D, ownsMap_block h1 (hs ms' (Ne.symm a1)), h2⟩, ⟨D', ownsMap_block h4 (hs ml' (Ne.symm a2)), h5⟩, ownsRow_block h.rk.qr (fun x hx => hs x (fun e => a3 (by rw [← e]; exact hx))), World.ownsRow_nil _ _ _ _, h.rk.ne, h.rk.qok⟩, h.kp.set (.inl (by simp [fp])) 6 _, fun i hi => h.sub i ?_⟩
  simp only [fp, Value.ownBlock, List.mem_cons, List.mem_append, Option.mem_toList] at hi ⊢
  rcases hi with rfl | rfl | rfl | hi | hi
  · simp
  · simp
  · simp
  · simp [hi]
  · cases hi
def crashed (l : List Bool) (S : Dk) : Dk := { settled (fun i => l.getD i false) S with fs := [], st := { S.st with crashes := inc S.st.crashes } }
end Go.Proofs.YtbamjfnjenmdaaaGreat.K
