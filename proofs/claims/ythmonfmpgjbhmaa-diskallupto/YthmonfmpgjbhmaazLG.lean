import Derived.Test.YthmonfmpgjbhmaaG19
import Derived.Test.YthmonfmpgjbhmaaG22
namespace Go.Proofs.Ythmonfmpgjbhmaa.K
open Go.RowKit Go.Maps Go.Proofs.Ythmonfmpgjbhmaa Go.MuLone
attribute [local go_sem] Oper.semAt_some
set_option linter.unusedVariables false
set_option linter.unusedSimpArgs false
set_option maxRecDepth 100000

set_option maxHeartbeats 4000000 in
theorem read_hitless {w : World} {b ms ml : Nat} {qv fv : Value} {S : Dk} (h : RK w 0 b ms ml qv fv S) (hf : FsOk S.fs) {s : Nat} (hs : s < S.n) (hh : hitF S.fs 1 s = false) :
    Calls Try.prog 14 #[.pointer (some ⟨b, 0, none⟩), .int .i64 s] w fun r w' => ∃ v fv1, r = .returned (.tuple #[v, .int .i64 0]) ∧ w'.ownsRow w.heap.size 5 1 v 512 ((look S s).map bv) ∧ DAct w w' 0 b ms ml ms ml qv fv qv fv1 (readS (failS S 1 s)) := by
  have hus := usable_any h
  have c0 : w.cell? ⟨b, 0, none⟩ = some (.int .i32 0) := h.c 0
  have z0 := h.fz 0
  have a1 := (DAct.refl h).put 0 (.int .i32 1) 1 S.st rfl
  obtain ⟨w1, hw1⟩ : ∃ w1, w1 = w.setCell ⟨b, 0, none⟩ (.int .i32 1) := ⟨_, rfl⟩
  rw [← hw1] at a1
  have h1 : RK w1 1 b ms ml qv fv S := a1.rk
  have hha := has_any h1 s
  rw [decide_eq_true (show 0 ≤ (s : Int) ∧ (s : Int) < S.n by omega)] at hha
  have hfa := fail_gen h1 hf 1 s
  rw [hh] at hfa
  have hok := look_ok h hs
  have HA1 : Hid (DAct w w1 1 b ms ml ms ml qv fv qv fv S) := a1
  have HS : Hid (s < S.n) := hs
  have HL : Hid (OkB (look S s)) := hok
  have hz := zeroBl
  have HZ : Hid ((Try.prog.info? TBl).map (·.size) = some (Lc (look S s)).size) := by show _ = _; rw [Lc_size hok]; exact sizeBl
  generalize hlk : look S s = l at *
  have HE : Hid (look (readS (failS S 1 s)) s = l) := by show look (readS (failS S 1 s)) s = l; rw [← hlk]; unfold look readS; rw [show (failS S 1 s).q = S.q from failS_q S 1 s, show (failS S 1 s).safe = S.safe from failS_safe S 1 s]
  have HSF : Hid (s < (failS S 1 s).n) := by show _ < _; rw [failS_n]; exact hs
  obtain ⟨S1, hS1⟩ : ∃ S1, S1 = failS S 1 s := ⟨_, rfl⟩
  rw [← hS1] at hfa HE HSF ⊢
  generalize landF S.fs 1 s = ld at hfa
  clear h h1 a1 hs hf hok hlk hh hS1
  go_enter_defers Try.func14, Try.ntmps14
  go_wp2_with (first | (go_at_call 27; refine hus.mono ?_; rintro e w9 ⟨rfl, hw9⟩; rw [hw9]; clear hw9 hus) | (go_at_call 28; refine (lock_free Try.muLib ⟨b, 0, none⟩ _ c0 z0).mono ?_; rintro e w9 ⟨rfl, hw9⟩; rw [hw9, ← hw1]; clear hw9 hw1 c0 z0) | (go_at_call 33; refine hha.mono ?_; rintro e w9 ⟨rfl, hw9⟩; rw [hw9]; clear hw9 hha) | (go_at_call 34; refine hfa.mono ?_; rintro e w2 ⟨a0, a1, a2, a3, fv1, rfl, d2⟩; have g3 : DAct w (w2.alloc (.cells #[.int .i64 a0, .int .i64 a1, .int .i64 a2, .int .i64 a3, .bool ld] TFa)) 1 b ms ml ms ml qv fv qv fv1 S1 := (HA1.out.trans d2).later ((Below.refl _ w2).alloc (Nat.le_refl _) _); have c7 : (w2.alloc (.cells #[.int .i64 a0, .int .i64 a1, .int .i64 a2, .int .i64 a3, .bool ld] TFa)).cell? ⟨b, 7, none⟩ = some (.int .u64 S1.st.reads) := g3.rk.c 7; have z7 := g3.rk.fz 7; have g4 := g3.put 7 (.int .u64 (inc S1.st.reads)) 1 { S1.st with reads := inc S1.st.reads } rfl; have HA4 : Hid (DAct w ((w2.alloc (.cells #[.int .i64 a0, .int .i64 a1, .int .i64 a2, .int .i64 a3, .bool ld] TFa)).setCell ⟨b, 7, none⟩ (.int .u64 (inc S1.st.reads))) 1 b ms ml ms ml qv fv qv fv1 (readS S1)) := g4; clear d2 hfa g3 g4) | (go_at_call 35; refine (reads_any HA4.out.rk HSF.out).mono ?_; rintro e w5 ⟨rfl, hb5⟩; rw [HE.out]; have hg5 := heap_alloc_new w5 (.cells Zc TBl); have HT5 : Hid ((w5.alloc (.cells Zc TBl)).there w5.heap.size 0 (Lc l).size) := there_row hg5 (by rw [Lc_size HL.out, Zc_size]; decide); have he5 : (w5.alloc (.cells Zc TBl)).setCells w5.heap.size 0 (Lc l).toList = w5.alloc (.cells (Lc l) TBl) := ((setCells_row HL.out hg5 Zc_size).trans (World.setRow_alloc_new w5 Zc (Lc l) TBl)); have HE5 : Hid ((w5.alloc (.cells Zc TBl)).setCells w5.heap.size 0 (Lc l).toList = w5.alloc (.cells (Lc l) TBl)) := he5; have a6 : DAct w (w5.alloc (.cells (Lc l) TBl)) 1 b ms ml ms ml qv fv qv fv1 (readS S1) := (HA4.out.later hb5).later ((Below.refl _ w5).alloc (Nat.le_refl _) _); have HA6 : Hid (DAct w (w5.alloc (.cells (Lc l) TBl)) 1 b ms ml ms ml qv fv qv fv1 (readS S1)) := a6; have hcl := clone_some ⟨w5.heap.size, 0, none⟩ 512 512 l (w5.alloc (.cells (Lc l) TBl)) (brow_box HL.out (heap_alloc_new w5 _) 512) HL.out.len (by decide); clear hg5 he5 a6 hb5) | (refine wpList_store_mid rfl TBl _ _ rfl w5.heap.size 0 (Lc l) rfl rfl HT5.out HZ.out (Lc_one l) ?_; rw [HE5.out]) | (go_at_call 36; refine hcl.mono ?_; rintro e w7 ⟨v, rfl, ho7, hb7⟩))
  have a7 := HA6.out.later hb7
  refine leaves_cons (f := 29) (args := #[.pointer (some ⟨b, 0, none⟩)]) (by simp) (by simp [go_sem]) ?_
  refine (unlock_deferred Try.muLib ⟨b, 0, none⟩ .returning _ (a7.rk.c 0) (a7.rk.fz 0)).mono ?_
  rintro e u' w'' ⟨rfl, rfl, rfl⟩
  refine ⟨_, results_tmp2 rfl _ _ _, v, fv1, rfl, ?_, a7.put 0 (.int .i32 0) 0 (readS S1).st rfl⟩
  have hk := HA6.out.kp.size
  have hbl := HA6.out.rk.lt b (by simp [fp])
  refine ownsRow_block (owns_mono ho7 hk) (fun g hg => Below.heap_setCell _ _ _ _ ?_)
  have := (ho7.lt g hg).1
  show g ≠ b
  omega
set_option maxHeartbeats 4000000 in
theorem read_hit {w : World} {b ms ml : Nat} {qv fv : Value} {S : Dk} (h : RK w 0 b ms ml qv fv S) (hf : FsOk S.fs) {s : Nat} (hs : s < S.n) (hh : hitF S.fs 1 s = true) :
    Calls Try.prog 14 #[.pointer (some ⟨b, 0, none⟩), .int .i64 s] w fun r w' => ∃ fv1, r = .returned (.tuple #[.slice none 0 0, .int .i64 33]) ∧ DAct w w' 0 b ms ml ms ml qv fv qv fv1 (failS S 1 s) := by
  have hus := usable_any h
  have c0 : w.cell? ⟨b, 0, none⟩ = some (.int .i32 0) := h.c 0
  have z0 := h.fz 0
  have a1 := (DAct.refl h).put 0 (.int .i32 1) 1 S.st rfl
  obtain ⟨w1, hw1⟩ : ∃ w1, w1 = w.setCell ⟨b, 0, none⟩ (.int .i32 1) := ⟨_, rfl⟩
  rw [← hw1] at a1
  have h1 : RK w1 1 b ms ml qv fv S := a1.rk
  have hha := has_any h1 s
  rw [decide_eq_true (show 0 ≤ (s : Int) ∧ (s : Int) < S.n by omega)] at hha
  have hfa := fail_gen h1 hf 1 s
  rw [hh] at hfa
  have HA1 : Hid (DAct w w1 1 b ms ml ms ml qv fv qv fv S) := a1
  obtain ⟨S1, hS1⟩ : ∃ S1, S1 = failS S 1 s := ⟨_, rfl⟩
  rw [← hS1] at hfa ⊢
  generalize landF S.fs 1 s = ld at hfa
  clear h h1 a1 hs hf hh hS1
  go_enter_defers Try.func14, Try.ntmps14
  go_wp2_with (first | (go_at_call 27; refine hus.mono ?_; rintro e w9 ⟨rfl, hw9⟩; rw [hw9]; clear hw9 hus) | (go_at_call 28; refine (lock_free Try.muLib ⟨b, 0, none⟩ _ c0 z0).mono ?_; rintro e w9 ⟨rfl, hw9⟩; rw [hw9, ← hw1]; clear hw9 hw1 c0 z0) | (go_at_call 33; refine hha.mono ?_; rintro e w9 ⟨rfl, hw9⟩; rw [hw9]; clear hw9 hha) | (go_at_call 34; refine hfa.mono ?_; rintro e w2 ⟨a0, a1, a2, a3, fv1, rfl, d2⟩; have HA4 : Hid (DAct w (w2.alloc (.cells #[.int .i64 a0, .int .i64 a1, .int .i64 a2, .int .i64 a3, .bool ld] TFa)) 1 b ms ml ms ml qv fv qv fv1 S1) := (HA1.out.trans d2).later ((Below.refl _ w2).alloc (Nat.le_refl _) _); clear d2 hfa))
  have a7 := HA4.out
  refine leaves_cons (f := 29) (args := #[.pointer (some ⟨b, 0, none⟩)]) (by simp) (by simp [go_sem]) ?_
  refine (unlock_deferred Try.muLib ⟨b, 0, none⟩ .returning _ (a7.rk.c 0) (a7.rk.fz 0)).mono ?_
  rintro e u' w'' ⟨rfl, rfl, rfl⟩
  exact ⟨_, results_tmp2 rfl _ _ _, fv1, rfl, a7.put 0 (.int .i32 0) 0 S1.st rfl⟩
end Go.Proofs.Ythmonfmpgjbhmaa.K
