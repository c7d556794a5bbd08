import Derived.Test.YtijafckdbhklmaaPE8z
import Derived.Deep.RegionHeld3
namespace Go.Proofs.Ytijafckdbhklmaa.I
open Go.RowKit Go.Sort Go.Lib Go.Shelf Go.Proofs.Ytijafckdbhklmaa Classical
attribute [local go_sem] Oper.semAt_some
set_option linter.unusedVariables false
set_option linter.unusedSimpArgs false
set_option maxRecDepth 100000

set_option maxHeartbeats 8000000 in
theorem play_copy_false_0 {w0 w : World} {bp : Nat} {Z : Nat → Option Obj} {F : Nat → Nat → Prop} {m0 m1 d0 d1 : Value} {s t : Stt} (h : Pr w0 w bp Z 4 F m0 m1 d0 d1 s t s t) (On lo hi v : Int) (hOn : On.tmod 2 = 0) (hmk : madeS t = false) (hs : lenS s ≤ 1048576) (ht : lenS t ≤ 1048576) :
    Calls Try.prog 11 #[.pointer (some ⟨bp, 0, none⟩), .agg (actC 4 On lo hi v)] w fun e w' => e = .returned (.bool true) ∧ Pl w0 w' bp Z t t := by
  obtain ⟨H, hH⟩ : ∃ H, w.heap.size = H := ⟨_, rfl⟩
  have hP1 := h.start (actC 4 On lo hi v) 43
  have hZn := h.none_new
  rw [hH] at hP1 hZn
  obtain ⟨W1, hW1⟩ : ∃ W1, W1 = w.alloc (.cells (actC 4 On lo hi v) 43) := ⟨_, rfl⟩
  rw [← hW1] at hP1
  have x0 : W1.cell? ⟨H, 0, none⟩ = some (.int .i64 4) := hP1.z (zadd_eq _ _ _) 0
  have x1 : W1.cell? ⟨H, 1, none⟩ = some (.int .u8 On) := hP1.z (zadd_eq _ _ _) 1
  have x2 : W1.cell? ⟨H, 2, none⟩ = some (.int .i64 lo) := hP1.z (zadd_eq _ _ _) 2
  have x3 : W1.cell? ⟨H, 3, none⟩ = some (.int .i64 hi) := hP1.z (zadd_eq _ _ _) 3
  have x4 : W1.cell? ⟨H, 4, none⟩ = some (.int .i64 v) := hP1.z (zadd_eq _ _ _) 4
  have p0 : W1.cell? ⟨bp, 0, none⟩ = some m0 := hP1.p 0
  have p1 : W1.cell? ⟨bp, 1, none⟩ = some m1 := hP1.p 1
  have p2 : W1.cell? ⟨bp, 2, none⟩ = some d0 := hP1.p 2
  have p3 : W1.cell? ⟨bp, 3, none⟩ = some d1 := hP1.p 3
  have HP : Hid (Pr w0 W1.drew bp (zadd Z H (.cells (actC 4 On lo hi v) 43 (0, 0))) 4 F m0 m1 d0 d1 s t s t) := hP1.later (below_drew (Below.refl _ _))
  have HZC : Hid (∀ (W : World) (c : Nat) (F : Nat → Nat → Prop) (m0 m1 d0 d1 : Value) (s t s' t' : Stt), Pr w0 W bp (zadd Z H (.cells (actC 4 On lo hi v) 43 (0, 0))) c F m0 m1 d0 d1 s t s' t' → (W.cell? ⟨bp, 0, none⟩ = some m0 ∧ W.cell? ⟨bp, 1, none⟩ = some m1 ∧ W.cell? ⟨bp, 2, none⟩ = some d0 ∧ W.cell? ⟨bp, 3, none⟩ = some d1) ∧ (W.cell? ⟨H, 2, none⟩ = some (.int .i64 lo) ∧ W.cell? ⟨H, 3, none⟩ = some (.int .i64 hi) ∧ W.cell? ⟨H, 4, none⟩ = some (.int .i64 v))) := fun W c F m0 m1 d0 d1 s t s' t' h => ⟨⟨h.p 0, h.p 1, h.p 2, h.p 3⟩, h.z (zadd_eq _ _ _) 2, h.z (zadd_eq _ _ _) 3, h.z (zadd_eq _ _ _) 4⟩
  have HZD : Hid (∀ (W : World) (F : Nat → Nat → Prop) (m0 m1 d0 d1 : Value) (s t : Stt), Pr w0 W bp (zadd Z H (.cells (actC 4 On lo hi v) 43 (0, 0))) 4 F m0 m1 d0 d1 s t s t → Pl w0 W bp Z s t) := fun W F m0 m1 d0 d1 s t h => ⟨F, m0, m1, d0, d1, h.drop hZn⟩
  have w8 : IntKind.i64.wrap 0 = 0 := by decide
  have hM := pm_copy (HP.out.M1 (by decide)) HP.out.n0
  have wk : IntKind.i64.wrap 1 = 1 := by decide
  have y0 := x0
  have y1 := x1
  rw [hW1, ← hH] at y0 y1
  clear h hP1 hZn
  go_enter Try.func11, Try.ntmps11
  go_wp2
  rw [← hW1]
  clear y0 y1 hW1
  go_region_held3 (fun w' => w'.cell? ⟨bp, 1, none⟩ = some m1) (first | exact p1 | exact HY2.out | exact HY2s.out _ | go_keep) (first | (go_at_call 30; refine hM.mono ?_; rintro r W2 ⟨m', P', rfl, hP', hf, hb⟩; obtain rfl := hP'.ptrF hmk; have HP2 := hid (HP.out.later hb); have HY2 := hid (HP2.out.p 1); have HY2s := hid (fun v : Value => show (W2.setCell ⟨bp, 0, none⟩ v).cell? ⟨bp, 1, none⟩ = some m1 by unfold World.cell?; rw [blk_set HP2.out.blk 0 v]; rfl); have q3 := HP2.out.p 0; have q4 := HP2.out.fp 0; have HPP := hid hP'; have HF := hid hf; clear hM hb hP' hf))
  obtain ⟨F3, hP3, _⟩ := HP2.out.swap0 (c' := 4) HPP.out (fun k hk => ⟨fun j hF => by have := (HP.out.lt j k hF).2.1; have := (HF.out k hk).1; omega, by have := (HF.out k hk).1; have := HP.out.n0; omega, (HF.out k hk).2, by have := (HF.out k hk).1; have := HP.out.ltp; omega, by
    cases hz : (zadd Z H (.cells (actC 4 On lo hi v) 43 (0, 0))) k with
    | none => rfl
    | some o => have := HP.out.ltz hz; have := (HF.out k hk).1; omega⟩) (fun i _ hi => hi)
  have HP3 := hid (hP3.later (below_drew (Below.refl _ _)))
  have r3 := hP3.p 3
  have hD := pd_copy (HP3.out.D1 (by decide)) HP3.out.n0 (by omega)
  clear hP3 q3 q4
  obtain ⟨W3, hW3⟩ : ∃ W3, W3 = W2.setCell ⟨bp, 0, none⟩ (.pointer none) := ⟨_, rfl⟩
  rw [← hW3] at HP3 r3 hD ⊢
  clear hW3
  go_wp2
  go_region_held3 (fun w' => w'.cell? ⟨bp, 3, none⟩ = some d1) (first | exact r3 | exact HY4.out | exact HY4s.out _ | go_keep) (first | (go_at_call 31; refine hD.mono ?_; rintro r W4 ⟨d', P4, rfl, hP', hf, hb⟩; obtain ⟨bd', rfl, e0, _, _⟩ := hP'.cells; have HP4 := hid (HP3.out.later hb); have HY4 := hid (HP4.out.p 3); have HY4s := hid (fun v : Value => show (W4.setCell ⟨bp, 2, none⟩ v).cell? ⟨bp, 3, none⟩ = some d1 by unfold World.cell?; rw [blk_set HP4.out.blk 2 v]; rfl); have q3 := HP4.out.p 2; have q4 := HP4.out.fp 2; have HPP4 := hid hP'; have HF4 := hid hf; clear hD hb hP' hf e0))
  obtain ⟨F5, hP5, _⟩ := HP4.out.swap1 (c' := 4) HPP4.out (fun k hk => ⟨fun j hF => by have := (HP3.out.lt j k hF).2.1; have := (HF4.out k hk).1; omega, by have := (HF4.out k hk).1; have := HP3.out.n0; omega, (HF4.out k hk).2, by have := (HF4.out k hk).1; have := HP3.out.ltp; omega, by
    cases hz : (zadd Z H (.cells (actC 4 On lo hi v) 43 (0, 0))) k with
    | none => rfl
    | some o => have := HP3.out.ltz hz; have := (HF4.out k hk).1; omega⟩) (fun i _ hi => hi)
  have HP5 := hid (hP5.later (below_drew (Below.refl _ _)))
  have e1 := hP5.p 0
  have e2 := hP5.p 2
  obtain ⟨bd2, he2, e3, _, _⟩ := (hP5.D0 (by decide)).cells
  simp only [Value.pointer.injEq, Option.some.injEq, Addr.mk.injEq, and_true] at he2
  subst he2
  rw [hmk] at e3
  clear hP5 q3 q4
  obtain ⟨W5, hW5⟩ : ∃ W5, W5 = W4.setCell ⟨bp, 2, none⟩ (.pointer (some ⟨bd', 0, none⟩)) := ⟨_, rfl⟩
  rw [← hW5] at HP5 e1 e2 e3 ⊢
  clear hW5
  go_wp2
  go_region
  go_wp2
  go_ret
  exact ⟨rfl, HZD.out _ _ _ _ _ _ _ _ HP5.out⟩
set_option maxHeartbeats 8000000 in
theorem play_copy_true_0 {w0 w : World} {bp : Nat} {Z : Nat → Option Obj} {F : Nat → Nat → Prop} {m0 m1 d0 d1 : Value} {s t : Stt} (h : Pr w0 w bp Z 4 F m0 m1 d0 d1 s t s t) (On lo hi v : Int) (hOn : On.tmod 2 = 0) (hmk : madeS t = true) (hs : lenS s ≤ 1048576) (ht : lenS t ≤ 1048576) :
    Calls Try.prog 11 #[.pointer (some ⟨bp, 0, none⟩), .agg (actC 4 On lo hi v)] w fun e w' => e = .returned (.bool true) ∧ Pl w0 w' bp Z t t := by
  obtain ⟨H, hH⟩ : ∃ H, w.heap.size = H := ⟨_, rfl⟩
  have hP1 := h.start (actC 4 On lo hi v) 43
  have hZn := h.none_new
  rw [hH] at hP1 hZn
  obtain ⟨W1, hW1⟩ : ∃ W1, W1 = w.alloc (.cells (actC 4 On lo hi v) 43) := ⟨_, rfl⟩
  rw [← hW1] at hP1
  have x0 : W1.cell? ⟨H, 0, none⟩ = some (.int .i64 4) := hP1.z (zadd_eq _ _ _) 0
  have x1 : W1.cell? ⟨H, 1, none⟩ = some (.int .u8 On) := hP1.z (zadd_eq _ _ _) 1
  have x2 : W1.cell? ⟨H, 2, none⟩ = some (.int .i64 lo) := hP1.z (zadd_eq _ _ _) 2
  have x3 : W1.cell? ⟨H, 3, none⟩ = some (.int .i64 hi) := hP1.z (zadd_eq _ _ _) 3
  have x4 : W1.cell? ⟨H, 4, none⟩ = some (.int .i64 v) := hP1.z (zadd_eq _ _ _) 4
  have p0 : W1.cell? ⟨bp, 0, none⟩ = some m0 := hP1.p 0
  have p1 : W1.cell? ⟨bp, 1, none⟩ = some m1 := hP1.p 1
  have p2 : W1.cell? ⟨bp, 2, none⟩ = some d0 := hP1.p 2
  have p3 : W1.cell? ⟨bp, 3, none⟩ = some d1 := hP1.p 3
  have HP : Hid (Pr w0 W1.drew bp (zadd Z H (.cells (actC 4 On lo hi v) 43 (0, 0))) 4 F m0 m1 d0 d1 s t s t) := hP1.later (below_drew (Below.refl _ _))
  have HZC : Hid (∀ (W : World) (c : Nat) (F : Nat → Nat → Prop) (m0 m1 d0 d1 : Value) (s t s' t' : Stt), Pr w0 W bp (zadd Z H (.cells (actC 4 On lo hi v) 43 (0, 0))) c F m0 m1 d0 d1 s t s' t' → (W.cell? ⟨bp, 0, none⟩ = some m0 ∧ W.cell? ⟨bp, 1, none⟩ = some m1 ∧ W.cell? ⟨bp, 2, none⟩ = some d0 ∧ W.cell? ⟨bp, 3, none⟩ = some d1) ∧ (W.cell? ⟨H, 2, none⟩ = some (.int .i64 lo) ∧ W.cell? ⟨H, 3, none⟩ = some (.int .i64 hi) ∧ W.cell? ⟨H, 4, none⟩ = some (.int .i64 v))) := fun W c F m0 m1 d0 d1 s t s' t' h => ⟨⟨h.p 0, h.p 1, h.p 2, h.p 3⟩, h.z (zadd_eq _ _ _) 2, h.z (zadd_eq _ _ _) 3, h.z (zadd_eq _ _ _) 4⟩
  have HZD : Hid (∀ (W : World) (F : Nat → Nat → Prop) (m0 m1 d0 d1 : Value) (s t : Stt), Pr w0 W bp (zadd Z H (.cells (actC 4 On lo hi v) 43 (0, 0))) 4 F m0 m1 d0 d1 s t s t → Pl w0 W bp Z s t) := fun W F m0 m1 d0 d1 s t h => ⟨F, m0, m1, d0, d1, h.drop hZn⟩
  have w8 : IntKind.i64.wrap 0 = 0 := by decide
  have hM := pm_copy (HP.out.M1 (by decide)) HP.out.n0
  have wk : IntKind.i64.wrap 1 = 1 := by decide
  have y0 := x0
  have y1 := x1
  rw [hW1, ← hH] at y0 y1
  clear h hP1 hZn
  go_enter Try.func11, Try.ntmps11
  go_wp2
  rw [← hW1]
  clear y0 y1 hW1
  go_region_held3 (fun w' => w'.cell? ⟨bp, 1, none⟩ = some m1) (first | exact p1 | exact HY2.out | exact HY2s.out _ | go_keep) (first | (go_at_call 30; refine hM.mono ?_; rintro r W2 ⟨m', P', rfl, hP', hf, hb⟩; obtain ⟨bm, rfl⟩ := hP'.ptrT hmk; have HP2 := hid (HP.out.later hb); have HY2 := hid (HP2.out.p 1); have HY2s := hid (fun v : Value => show (W2.setCell ⟨bp, 0, none⟩ v).cell? ⟨bp, 1, none⟩ = some m1 by unfold World.cell?; rw [blk_set HP2.out.blk 0 v]; rfl); have q3 := HP2.out.p 0; have q4 := HP2.out.fp 0; have HPP := hid hP'; have HF := hid hf; clear hM hb hP' hf))
  obtain ⟨F3, hP3, _⟩ := HP2.out.swap0 (c' := 4) HPP.out (fun k hk => ⟨fun j hF => by have := (HP.out.lt j k hF).2.1; have := (HF.out k hk).1; omega, by have := (HF.out k hk).1; have := HP.out.n0; omega, (HF.out k hk).2, by have := (HF.out k hk).1; have := HP.out.ltp; omega, by
    cases hz : (zadd Z H (.cells (actC 4 On lo hi v) 43 (0, 0))) k with
    | none => rfl
    | some o => have := HP.out.ltz hz; have := (HF.out k hk).1; omega⟩) (fun i _ hi => hi)
  have HP3 := hid (hP3.later (below_drew (Below.refl _ _)))
  have r3 := hP3.p 3
  have hD := pd_copy (HP3.out.D1 (by decide)) HP3.out.n0 (by omega)
  clear hP3 q3 q4
  obtain ⟨W3, hW3⟩ : ∃ W3, W3 = W2.setCell ⟨bp, 0, none⟩ (.pointer (some ⟨bm, 0, none⟩)) := ⟨_, rfl⟩
  rw [← hW3] at HP3 r3 hD ⊢
  clear hW3
  go_wp2
  go_region_held3 (fun w' => w'.cell? ⟨bp, 3, none⟩ = some d1) (first | exact r3 | exact HY4.out | exact HY4s.out _ | go_keep) (first | (go_at_call 31; refine hD.mono ?_; rintro r W4 ⟨d', P4, rfl, hP', hf, hb⟩; obtain ⟨bd', rfl, e0, _, _⟩ := hP'.cells; have HP4 := hid (HP3.out.later hb); have HY4 := hid (HP4.out.p 3); have HY4s := hid (fun v : Value => show (W4.setCell ⟨bp, 2, none⟩ v).cell? ⟨bp, 3, none⟩ = some d1 by unfold World.cell?; rw [blk_set HP4.out.blk 2 v]; rfl); have q3 := HP4.out.p 2; have q4 := HP4.out.fp 2; have HPP4 := hid hP'; have HF4 := hid hf; clear hD hb hP' hf e0))
  obtain ⟨F5, hP5, _⟩ := HP4.out.swap1 (c' := 4) HPP4.out (fun k hk => ⟨fun j hF => by have := (HP3.out.lt j k hF).2.1; have := (HF4.out k hk).1; omega, by have := (HF4.out k hk).1; have := HP3.out.n0; omega, (HF4.out k hk).2, by have := (HF4.out k hk).1; have := HP3.out.ltp; omega, by
    cases hz : (zadd Z H (.cells (actC 4 On lo hi v) 43 (0, 0))) k with
    | none => rfl
    | some o => have := HP3.out.ltz hz; have := (HF4.out k hk).1; omega⟩) (fun i _ hi => hi)
  have HP5 := hid (hP5.later (below_drew (Below.refl _ _)))
  have e1 := hP5.p 0
  have e2 := hP5.p 2
  obtain ⟨bd2, he2, e3, _, _⟩ := (hP5.D0 (by decide)).cells
  simp only [Value.pointer.injEq, Option.some.injEq, Addr.mk.injEq, and_true] at he2
  subst he2
  rw [hmk] at e3
  clear hP5 q3 q4
  obtain ⟨W5, hW5⟩ : ∃ W5, W5 = W4.setCell ⟨bp, 2, none⟩ (.pointer (some ⟨bd', 0, none⟩)) := ⟨_, rfl⟩
  rw [← hW5] at HP5 e1 e2 e3 ⊢
  clear hW5
  go_wp2
  go_region
  go_wp2
  go_ret
  exact ⟨rfl, HZD.out _ _ _ _ _ _ _ _ HP5.out⟩
set_option maxHeartbeats 8000000 in
theorem play_copy_false_1 {w0 w : World} {bp : Nat} {Z : Nat → Option Obj} {F : Nat → Nat → Prop} {m0 m1 d0 d1 : Value} {s t : Stt} (h : Pr w0 w bp Z 4 F m0 m1 d0 d1 s t s t) (On lo hi v : Int) (hOn : On.tmod 2 = 1) (hmk : madeS s = false) (hs : lenS s ≤ 1048576) (ht : lenS t ≤ 1048576) :
    Calls Try.prog 11 #[.pointer (some ⟨bp, 0, none⟩), .agg (actC 4 On lo hi v)] w fun e w' => e = .returned (.bool true) ∧ Pl w0 w' bp Z s s := by
  obtain ⟨H, hH⟩ : ∃ H, w.heap.size = H := ⟨_, rfl⟩
  have hP1 := h.start (actC 4 On lo hi v) 43
  have hZn := h.none_new
  rw [hH] at hP1 hZn
  obtain ⟨W1, hW1⟩ : ∃ W1, W1 = w.alloc (.cells (actC 4 On lo hi v) 43) := ⟨_, rfl⟩
  rw [← hW1] at hP1
  have x0 : W1.cell? ⟨H, 0, none⟩ = some (.int .i64 4) := hP1.z (zadd_eq _ _ _) 0
  have x1 : W1.cell? ⟨H, 1, none⟩ = some (.int .u8 On) := hP1.z (zadd_eq _ _ _) 1
  have x2 : W1.cell? ⟨H, 2, none⟩ = some (.int .i64 lo) := hP1.z (zadd_eq _ _ _) 2
  have x3 : W1.cell? ⟨H, 3, none⟩ = some (.int .i64 hi) := hP1.z (zadd_eq _ _ _) 3
  have x4 : W1.cell? ⟨H, 4, none⟩ = some (.int .i64 v) := hP1.z (zadd_eq _ _ _) 4
  have p0 : W1.cell? ⟨bp, 0, none⟩ = some m0 := hP1.p 0
  have p1 : W1.cell? ⟨bp, 1, none⟩ = some m1 := hP1.p 1
  have p2 : W1.cell? ⟨bp, 2, none⟩ = some d0 := hP1.p 2
  have p3 : W1.cell? ⟨bp, 3, none⟩ = some d1 := hP1.p 3
  have HP : Hid (Pr w0 W1.drew bp (zadd Z H (.cells (actC 4 On lo hi v) 43 (0, 0))) 4 F m0 m1 d0 d1 s t s t) := hP1.later (below_drew (Below.refl _ _))
  have HZC : Hid (∀ (W : World) (c : Nat) (F : Nat → Nat → Prop) (m0 m1 d0 d1 : Value) (s t s' t' : Stt), Pr w0 W bp (zadd Z H (.cells (actC 4 On lo hi v) 43 (0, 0))) c F m0 m1 d0 d1 s t s' t' → (W.cell? ⟨bp, 0, none⟩ = some m0 ∧ W.cell? ⟨bp, 1, none⟩ = some m1 ∧ W.cell? ⟨bp, 2, none⟩ = some d0 ∧ W.cell? ⟨bp, 3, none⟩ = some d1) ∧ (W.cell? ⟨H, 2, none⟩ = some (.int .i64 lo) ∧ W.cell? ⟨H, 3, none⟩ = some (.int .i64 hi) ∧ W.cell? ⟨H, 4, none⟩ = some (.int .i64 v))) := fun W c F m0 m1 d0 d1 s t s' t' h => ⟨⟨h.p 0, h.p 1, h.p 2, h.p 3⟩, h.z (zadd_eq _ _ _) 2, h.z (zadd_eq _ _ _) 3, h.z (zadd_eq _ _ _) 4⟩
  have HZD : Hid (∀ (W : World) (F : Nat → Nat → Prop) (m0 m1 d0 d1 : Value) (s t : Stt), Pr w0 W bp (zadd Z H (.cells (actC 4 On lo hi v) 43 (0, 0))) 4 F m0 m1 d0 d1 s t s t → Pl w0 W bp Z s t) := fun W F m0 m1 d0 d1 s t h => ⟨F, m0, m1, d0, d1, h.drop hZn⟩
  have w8 : IntKind.i64.wrap 1 = 1 := by decide
  have hM := pm_copy (HP.out.M0 (by decide)) HP.out.n0
  have wk : IntKind.i64.wrap 0 = 0 := by decide
  have y0 := x0
  have y1 := x1
  rw [hW1, ← hH] at y0 y1
  clear h hP1 hZn
  go_enter Try.func11, Try.ntmps11
  go_wp2
  rw [← hW1]
  clear y0 y1 hW1
  go_region_held3 (fun w' => w'.cell? ⟨bp, 0, none⟩ = some m0) (first | exact p0 | exact HY2.out | exact HY2s.out _ | go_keep) (first | (go_at_call 30; refine hM.mono ?_; rintro r W2 ⟨m', P', rfl, hP', hf, hb⟩; obtain rfl := hP'.ptrF hmk; have HP2 := hid (HP.out.later hb); have HY2 := hid (HP2.out.p 0); have HY2s := hid (fun v : Value => show (W2.setCell ⟨bp, 1, none⟩ v).cell? ⟨bp, 0, none⟩ = some m0 by unfold World.cell?; rw [blk_set HP2.out.blk 1 v]; rfl); have q3 := HP2.out.p 1; have q4 := HP2.out.fp 1; have HPP := hid hP'; have HF := hid hf; clear hM hb hP' hf))
  obtain ⟨F3, hP3, _⟩ := HP2.out.swap2 (c' := 4) HPP.out (fun k hk => ⟨fun j hF => by have := (HP.out.lt j k hF).2.1; have := (HF.out k hk).1; omega, by have := (HF.out k hk).1; have := HP.out.n0; omega, (HF.out k hk).2, by have := (HF.out k hk).1; have := HP.out.ltp; omega, by
    cases hz : (zadd Z H (.cells (actC 4 On lo hi v) 43 (0, 0))) k with
    | none => rfl
    | some o => have := HP.out.ltz hz; have := (HF.out k hk).1; omega⟩) (fun i _ hi => hi)
  have HP3 := hid (hP3.later (below_drew (Below.refl _ _)))
  have r2 := hP3.p 2
  have hD := pd_copy (HP3.out.D0 (by decide)) HP3.out.n0 (by omega)
  clear hP3 q3 q4
  obtain ⟨W3, hW3⟩ : ∃ W3, W3 = W2.setCell ⟨bp, 1, none⟩ (.pointer none) := ⟨_, rfl⟩
  rw [← hW3] at HP3 r2 hD ⊢
  clear hW3
  go_wp2
  go_region_held3 (fun w' => w'.cell? ⟨bp, 2, none⟩ = some d0) (first | exact r2 | exact HY4.out | exact HY4s.out _ | go_keep) (first | (go_at_call 31; refine hD.mono ?_; rintro r W4 ⟨d', P4, rfl, hP', hf, hb⟩; obtain ⟨bd', rfl, e0, _, _⟩ := hP'.cells; have HP4 := hid (HP3.out.later hb); have HY4 := hid (HP4.out.p 2); have HY4s := hid (fun v : Value => show (W4.setCell ⟨bp, 3, none⟩ v).cell? ⟨bp, 2, none⟩ = some d0 by unfold World.cell?; rw [blk_set HP4.out.blk 3 v]; rfl); have q3 := HP4.out.p 3; have q4 := HP4.out.fp 3; have HPP4 := hid hP'; have HF4 := hid hf; clear hD hb hP' hf e0))
  obtain ⟨F5, hP5, _⟩ := HP4.out.swap3 (c' := 4) HPP4.out (fun k hk => ⟨fun j hF => by have := (HP3.out.lt j k hF).2.1; have := (HF4.out k hk).1; omega, by have := (HF4.out k hk).1; have := HP3.out.n0; omega, (HF4.out k hk).2, by have := (HF4.out k hk).1; have := HP3.out.ltp; omega, by
    cases hz : (zadd Z H (.cells (actC 4 On lo hi v) 43 (0, 0))) k with
    | none => rfl
    | some o => have := HP3.out.ltz hz; have := (HF4.out k hk).1; omega⟩) (fun i _ hi => hi)
  have HP5 := hid (hP5.later (below_drew (Below.refl _ _)))
  have e1 := hP5.p 1
  have e2 := hP5.p 3
  obtain ⟨bd2, he2, e3, _, _⟩ := (hP5.D1 (by decide)).cells
  simp only [Value.pointer.injEq, Option.some.injEq, Addr.mk.injEq, and_true] at he2
  subst he2
  rw [hmk] at e3
  clear hP5 q3 q4
  obtain ⟨W5, hW5⟩ : ∃ W5, W5 = W4.setCell ⟨bp, 3, none⟩ (.pointer (some ⟨bd', 0, none⟩)) := ⟨_, rfl⟩
  rw [← hW5] at HP5 e1 e2 e3 ⊢
  clear hW5
  go_wp2
  go_region
  go_wp2
  go_ret
  exact ⟨rfl, HZD.out _ _ _ _ _ _ _ _ HP5.out⟩
set_option maxHeartbeats 8000000 in
theorem play_copy_true_1 {w0 w : World} {bp : Nat} {Z : Nat → Option Obj} {F : Nat → Nat → Prop} {m0 m1 d0 d1 : Value} {s t : Stt} (h : Pr w0 w bp Z 4 F m0 m1 d0 d1 s t s t) (On lo hi v : Int) (hOn : On.tmod 2 = 1) (hmk : madeS s = true) (hs : lenS s ≤ 1048576) (ht : lenS t ≤ 1048576) :
    Calls Try.prog 11 #[.pointer (some ⟨bp, 0, none⟩), .agg (actC 4 On lo hi v)] w fun e w' => e = .returned (.bool true) ∧ Pl w0 w' bp Z s s := by
  obtain ⟨H, hH⟩ : ∃ H, w.heap.size = H := ⟨_, rfl⟩
  have hP1 := h.start (actC 4 On lo hi v) 43
  have hZn := h.none_new
  rw [hH] at hP1 hZn
  obtain ⟨W1, hW1⟩ : ∃ W1, W1 = w.alloc (.cells (actC 4 On lo hi v) 43) := ⟨_, rfl⟩
  rw [← hW1] at hP1
  have x0 : W1.cell? ⟨H, 0, none⟩ = some (.int .i64 4) := hP1.z (zadd_eq _ _ _) 0
  have x1 : W1.cell? ⟨H, 1, none⟩ = some (.int .u8 On) := hP1.z (zadd_eq _ _ _) 1
  have x2 : W1.cell? ⟨H, 2, none⟩ = some (.int .i64 lo) := hP1.z (zadd_eq _ _ _) 2
  have x3 : W1.cell? ⟨H, 3, none⟩ = some (.int .i64 hi) := hP1.z (zadd_eq _ _ _) 3
  have x4 : W1.cell? ⟨H, 4, none⟩ = some (.int .i64 v) := hP1.z (zadd_eq _ _ _) 4
  have p0 : W1.cell? ⟨bp, 0, none⟩ = some m0 := hP1.p 0
  have p1 : W1.cell? ⟨bp, 1, none⟩ = some m1 := hP1.p 1
  have p2 : W1.cell? ⟨bp, 2, none⟩ = some d0 := hP1.p 2
  have p3 : W1.cell? ⟨bp, 3, none⟩ = some d1 := hP1.p 3
  have HP : Hid (Pr w0 W1.drew bp (zadd Z H (.cells (actC 4 On lo hi v) 43 (0, 0))) 4 F m0 m1 d0 d1 s t s t) := hP1.later (below_drew (Below.refl _ _))
  have HZC : Hid (∀ (W : World) (c : Nat) (F : Nat → Nat → Prop) (m0 m1 d0 d1 : Value) (s t s' t' : Stt), Pr w0 W bp (zadd Z H (.cells (actC 4 On lo hi v) 43 (0, 0))) c F m0 m1 d0 d1 s t s' t' → (W.cell? ⟨bp, 0, none⟩ = some m0 ∧ W.cell? ⟨bp, 1, none⟩ = some m1 ∧ W.cell? ⟨bp, 2, none⟩ = some d0 ∧ W.cell? ⟨bp, 3, none⟩ = some d1) ∧ (W.cell? ⟨H, 2, none⟩ = some (.int .i64 lo) ∧ W.cell? ⟨H, 3, none⟩ = some (.int .i64 hi) ∧ W.cell? ⟨H, 4, none⟩ = some (.int .i64 v))) := fun W c F m0 m1 d0 d1 s t s' t' h => ⟨⟨h.p 0, h.p 1, h.p 2, h.p 3⟩, h.z (zadd_eq _ _ _) 2, h.z (zadd_eq _ _ _) 3, h.z (zadd_eq _ _ _) 4⟩
  have HZD : Hid (∀ (W : World) (F : Nat → Nat → Prop) (m0 m1 d0 d1 : Value) (s t : Stt), Pr w0 W bp (zadd Z H (.cells (actC 4 On lo hi v) 43 (0, 0))) 4 F m0 m1 d0 d1 s t s t → Pl w0 W bp Z s t) := fun W F m0 m1 d0 d1 s t h => ⟨F, m0, m1, d0, d1, h.drop hZn⟩
  have w8 : IntKind.i64.wrap 1 = 1 := by decide
  have hM := pm_copy (HP.out.M0 (by decide)) HP.out.n0
  have wk : IntKind.i64.wrap 0 = 0 := by decide
  have y0 := x0
  have y1 := x1
  rw [hW1, ← hH] at y0 y1
  clear h hP1 hZn
  go_enter Try.func11, Try.ntmps11
  go_wp2
  rw [← hW1]
  clear y0 y1 hW1
  go_region_held3 (fun w' => w'.cell? ⟨bp, 0, none⟩ = some m0) (first | exact p0 | exact HY2.out | exact HY2s.out _ | go_keep) (first | (go_at_call 30; refine hM.mono ?_; rintro r W2 ⟨m', P', rfl, hP', hf, hb⟩; obtain ⟨bm, rfl⟩ := hP'.ptrT hmk; have HP2 := hid (HP.out.later hb); have HY2 := hid (HP2.out.p 0); have HY2s := hid (fun v : Value => show (W2.setCell ⟨bp, 1, none⟩ v).cell? ⟨bp, 0, none⟩ = some m0 by unfold World.cell?; rw [blk_set HP2.out.blk 1 v]; rfl); have q3 := HP2.out.p 1; have q4 := HP2.out.fp 1; have HPP := hid hP'; have HF := hid hf; clear hM hb hP' hf))
  obtain ⟨F3, hP3, _⟩ := HP2.out.swap2 (c' := 4) HPP.out (fun k hk => ⟨fun j hF => by have := (HP.out.lt j k hF).2.1; have := (HF.out k hk).1; omega, by have := (HF.out k hk).1; have := HP.out.n0; omega, (HF.out k hk).2, by have := (HF.out k hk).1; have := HP.out.ltp; omega, by
    cases hz : (zadd Z H (.cells (actC 4 On lo hi v) 43 (0, 0))) k with
    | none => rfl
    | some o => have := HP.out.ltz hz; have := (HF.out k hk).1; omega⟩) (fun i _ hi => hi)
  have HP3 := hid (hP3.later (below_drew (Below.refl _ _)))
  have r2 := hP3.p 2
  have hD := pd_copy (HP3.out.D0 (by decide)) HP3.out.n0 (by omega)
  clear hP3 q3 q4
  obtain ⟨W3, hW3⟩ : ∃ W3, W3 = W2.setCell ⟨bp, 1, none⟩ (.pointer (some ⟨bm, 0, none⟩)) := ⟨_, rfl⟩
  rw [← hW3] at HP3 r2 hD ⊢
  clear hW3
  go_wp2
  go_region_held3 (fun w' => w'.cell? ⟨bp, 2, none⟩ = some d0) (first | exact r2 | exact HY4.out | exact HY4s.out _ | go_keep) (first | (go_at_call 31; refine hD.mono ?_; rintro r W4 ⟨d', P4, rfl, hP', hf, hb⟩; obtain ⟨bd', rfl, e0, _, _⟩ := hP'.cells; have HP4 := hid (HP3.out.later hb); have HY4 := hid (HP4.out.p 2); have HY4s := hid (fun v : Value => show (W4.setCell ⟨bp, 3, none⟩ v).cell? ⟨bp, 2, none⟩ = some d0 by unfold World.cell?; rw [blk_set HP4.out.blk 3 v]; rfl); have q3 := HP4.out.p 3; have q4 := HP4.out.fp 3; have HPP4 := hid hP'; have HF4 := hid hf; clear hD hb hP' hf e0))
  obtain ⟨F5, hP5, _⟩ := HP4.out.swap3 (c' := 4) HPP4.out (fun k hk => ⟨fun j hF => by have := (HP3.out.lt j k hF).2.1; have := (HF4.out k hk).1; omega, by have := (HF4.out k hk).1; have := HP3.out.n0; omega, (HF4.out k hk).2, by have := (HF4.out k hk).1; have := HP3.out.ltp; omega, by
    cases hz : (zadd Z H (.cells (actC 4 On lo hi v) 43 (0, 0))) k with
    | none => rfl
    | some o => have := HP3.out.ltz hz; have := (HF4.out k hk).1; omega⟩) (fun i _ hi => hi)
  have HP5 := hid (hP5.later (below_drew (Below.refl _ _)))
  have e1 := hP5.p 1
  have e2 := hP5.p 3
  obtain ⟨bd2, he2, e3, _, _⟩ := (hP5.D1 (by decide)).cells
  simp only [Value.pointer.injEq, Option.some.injEq, Addr.mk.injEq, and_true] at he2
  subst he2
  rw [hmk] at e3
  clear hP5 q3 q4
  obtain ⟨W5, hW5⟩ : ∃ W5, W5 = W4.setCell ⟨bp, 3, none⟩ (.pointer (some ⟨bd', 0, none⟩)) := ⟨_, rfl⟩
  rw [← hW5] at HP5 e1 e2 e3 ⊢
  clear hW5
  go_wp2
  go_region
  go_wp2
  go_ret
  exact ⟨rfl, HZD.out _ _ _ _ _ _ _ _ HP5.out⟩
end Go.Proofs.Ytijafckdbhklmaa.I
