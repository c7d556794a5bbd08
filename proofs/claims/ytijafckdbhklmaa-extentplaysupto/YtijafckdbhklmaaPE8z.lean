import Derived.Test.YtijafckdbhklmaaJD
import Derived.Deep.RegionHeld3
namespace Go.Proofs.Ytijafckdbhklmaa.I
open Go.RowKit Go.Sort Go.Lib Go.Shelf Go.Proofs.Ytijafckdbhklmaa Classical
attribute [local go_sem] Oper.semAt_some
set_option linter.unusedVariables false
set_option linter.unusedSimpArgs false
set_option maxRecDepth 100000

theorem hid {p : Prop} (h : p) : Hid p := h
/-- what a call of play leaves -/
def Pl (w0 w : World) (bp : Nat) (Z : Nat → Option Obj) (s t : Stt) : Prop := ∃ F m0 m1 d0 d1, Pr w0 w bp Z 4 F m0 m1 d0 d1 s t s t
abbrev actC (K On lo hi v : Int) : Array Value := #[.int .i64 K, .int .u8 On, .int .i64 lo, .int .i64 hi, .int .i64 v]
theorem lenS_set (s : Stt) (lo hi x : Int) : lenS (setS s lo hi x) ≤ lenS s + 1 := by
  match s with
  | none => exact Nat.zero_le _
  | some (z, f, S) =>
    rw [setS_some]
    split
    · simp [lenS]
    · simp [lenS]
/-- the walk's start: the call's box -/
theorem Pr.start {w0 w : World} {bp : Nat} {Z : Nat → Option Obj} {c : Nat} {F : Nat → Nat → Prop} {m0 m1 d0 d1 : Value} {s t s' t' : Stt} (h : Pr w0 w bp Z c F m0 m1 d0 d1 s t s' t') (cs : Array Value) (T : TypeId) : Pr w0 (w.alloc (.cells cs T)) bp (zadd Z w.heap.size (.cells cs T (0, 0))) c F m0 m1 d0 d1 s t s' t' :=
  (h.later ((Below.refl _ w).alloc (Nat.le_refl _) _)).add (heap_alloc_new w _) (fun i hk => by have := (h.lt i _ hk).2.1; omega) (by have := h.ltp; omega)
theorem Pr.none_new {w0 w : World} {bp : Nat} {Z : Nat → Option Obj} {c : Nat} {F : Nat → Nat → Prop} {m0 m1 d0 d1 : Value} {s t s' t' : Stt} (h : Pr w0 w bp Z c F m0 m1 d0 d1 s t s' t') : Z w.heap.size = none := by
  cases hz : Z w.heap.size with
  | none => rfl
  | some o => have := h.ltz hz; omega
theorem PM.ptrF {w : World} {P : Nat → Prop} {n0 : Nat} {m : Value} {s : Stt} (h : PM w P n0 m s) (hs : madeS s = false) : m = .pointer none := by
  rcases h.ptr with h | ⟨h, _⟩
  · exact h.2
  · rw [h] at hs; cases hs
theorem PM.ptrT {w : World} {P : Nat → Prop} {n0 : Nat} {m : Value} {s : Stt} (h : PM w P n0 m s) (hs : madeS s = true) : ∃ bm, m = .pointer (some ⟨bm, 0, none⟩) := by
  rcases h.ptr with ⟨h, _⟩ | ⟨_, bm, h⟩
  · rw [h] at hs; cases hs
  · exact ⟨bm, h⟩
set_option maxHeartbeats 8000000 in
theorem play_set0 {w0 w : World} {bp : Nat} {Z : Nat → Option Obj} {F : Nat → Nat → Prop} {m0 m1 d0 d1 : Value} {s t : Stt} (h : Pr w0 w bp Z 4 F m0 m1 d0 d1 s t s t) (On lo hi v : Int) (hOn : On.tmod 2 = 0) (hs : lenS s ≤ 1048576) (ht : lenS t ≤ 1048576) :
    Calls Try.prog 11 #[.pointer (some ⟨bp, 0, none⟩), .agg (actC 1 On lo hi v)] w fun e w' => e = .returned (.bool true) ∧ Pl w0 w' bp Z (setS s lo hi v) t := by
  obtain ⟨H, hH⟩ : ∃ H, w.heap.size = H := ⟨_, rfl⟩
  have hP1 := h.start (actC 1 On lo hi v) 43
  have hZn := h.none_new
  rw [hH] at hP1 hZn
  obtain ⟨W1, hW1⟩ : ∃ W1, W1 = w.alloc (.cells (actC 1 On lo hi v) 43) := ⟨_, rfl⟩
  rw [← hW1] at hP1
  have x0 : W1.cell? ⟨H, 0, none⟩ = some (.int .i64 1) := hP1.z (zadd_eq _ _ _) 0
  have x1 : W1.cell? ⟨H, 1, none⟩ = some (.int .u8 On) := hP1.z (zadd_eq _ _ _) 1
  have x2 : W1.cell? ⟨H, 2, none⟩ = some (.int .i64 lo) := hP1.z (zadd_eq _ _ _) 2
  have x3 : W1.cell? ⟨H, 3, none⟩ = some (.int .i64 hi) := hP1.z (zadd_eq _ _ _) 3
  have x4 : W1.cell? ⟨H, 4, none⟩ = some (.int .i64 v) := hP1.z (zadd_eq _ _ _) 4
  have p0 : W1.cell? ⟨bp, 0, none⟩ = some m0 := hP1.p 0
  have p1 : W1.cell? ⟨bp, 1, none⟩ = some m1 := hP1.p 1
  have p2 : W1.cell? ⟨bp, 2, none⟩ = some d0 := hP1.p 2
  have p3 : W1.cell? ⟨bp, 3, none⟩ = some d1 := hP1.p 3
  have HP : Hid (Pr w0 W1.drew bp (zadd Z H (.cells (actC 1 On lo hi v) 43 (0, 0))) 4 F m0 m1 d0 d1 s t s t) := hP1.later (below_drew (Below.refl _ _))
  have HZC : Hid (∀ (W : World) (c : Nat) (F : Nat → Nat → Prop) (m0 m1 d0 d1 : Value) (s t s' t' : Stt), Pr w0 W bp (zadd Z H (.cells (actC 1 On lo hi v) 43 (0, 0))) c F m0 m1 d0 d1 s t s' t' → (W.cell? ⟨bp, 0, none⟩ = some m0 ∧ W.cell? ⟨bp, 1, none⟩ = some m1 ∧ W.cell? ⟨bp, 2, none⟩ = some d0 ∧ W.cell? ⟨bp, 3, none⟩ = some d1) ∧ (W.cell? ⟨H, 2, none⟩ = some (.int .i64 lo) ∧ W.cell? ⟨H, 3, none⟩ = some (.int .i64 hi) ∧ W.cell? ⟨H, 4, none⟩ = some (.int .i64 v))) := fun W c F m0 m1 d0 d1 s t s' t' h => ⟨⟨h.p 0, h.p 1, h.p 2, h.p 3⟩, h.z (zadd_eq _ _ _) 2, h.z (zadd_eq _ _ _) 3, h.z (zadd_eq _ _ _) 4⟩
  have HZD : Hid (∀ (W : World) (F : Nat → Nat → Prop) (m0 m1 d0 d1 : Value) (s t : Stt), Pr w0 W bp (zadd Z H (.cells (actC 1 On lo hi v) 43 (0, 0))) 4 F m0 m1 d0 d1 s t s t → Pl w0 W bp Z s t) := fun W F m0 m1 d0 d1 s t h => ⟨F, m0, m1, d0, d1, h.drop hZn⟩
  have w8 : IntKind.i64.wrap 0 = 0 := by decide
  have hM := pm_set (HP.out.M0 (by decide)) lo hi v
  have y0 := x0
  have y1 := x1
  rw [hW1, ← hH] at y0 y1
  clear h hP1 hZn
  go_enter Try.func11, Try.ntmps11
  go_wp2
  rw [← hW1]
  clear y0 y1 hW1
  go_region_held3 (fun w' => (w'.cell? ⟨bp, 0, none⟩ = some m0 ∧ w'.cell? ⟨bp, 1, none⟩ = some m1 ∧ w'.cell? ⟨bp, 2, none⟩ = some d0 ∧ w'.cell? ⟨bp, 3, none⟩ = some d1) ∧ (w'.cell? ⟨H, 2, none⟩ = some (.int .i64 lo) ∧ w'.cell? ⟨H, 3, none⟩ = some (.int .i64 hi) ∧ w'.cell? ⟨H, 4, none⟩ = some (.int .i64 v))) (first | exact ⟨⟨p0, p1, p2, p3⟩, x2, x3, x4⟩ | exact HY2.out | exact HY3.out | go_keep) (first | (go_at_call 24; refine hM.mono ?_; rintro r W2 ⟨rfl, hc⟩; obtain ⟨F2, hP2⟩ := HP.out.ch0 hc; have HP2 := hid hP2; have HY2 := hid (HZC.out _ _ _ _ _ _ _ _ _ _ _ hP2); have hD := pd_set (hP2.D0 (by decide)) lo hi v (by omega); clear hM hc hP2) | (go_at_call 10; refine (num_any _ _).mono ?_; rintro r W9 ⟨rfl, hw9⟩; rw [hw9]; clear hw9) | (go_at_call 28; refine hD.mono ?_; rintro r W3 ⟨rfl, hc⟩; obtain ⟨F3, hP3⟩ := HP2.out.ch1 hc; have HP3 := hid hP3; have HY3 := hid (HZC.out _ _ _ _ _ _ _ _ _ _ _ hP3); clear hD hc hP3))
  go_wp2
  go_ret
  exact ⟨rfl, HZD.out _ _ _ _ _ _ _ _ HP3.out⟩
set_option maxHeartbeats 8000000 in
theorem play_set1 {w0 w : World} {bp : Nat} {Z : Nat → Option Obj} {F : Nat → Nat → Prop} {m0 m1 d0 d1 : Value} {s t : Stt} (h : Pr w0 w bp Z 4 F m0 m1 d0 d1 s t s t) (On lo hi v : Int) (hOn : On.tmod 2 = 1) (hs : lenS s ≤ 1048576) (ht : lenS t ≤ 1048576) :
    Calls Try.prog 11 #[.pointer (some ⟨bp, 0, none⟩), .agg (actC 1 On lo hi v)] w fun e w' => e = .returned (.bool true) ∧ Pl w0 w' bp Z s (setS t lo hi v) := by
  obtain ⟨H, hH⟩ : ∃ H, w.heap.size = H := ⟨_, rfl⟩
  have hP1 := h.start (actC 1 On lo hi v) 43
  have hZn := h.none_new
  rw [hH] at hP1 hZn
  obtain ⟨W1, hW1⟩ : ∃ W1, W1 = w.alloc (.cells (actC 1 On lo hi v) 43) := ⟨_, rfl⟩
  rw [← hW1] at hP1
  have x0 : W1.cell? ⟨H, 0, none⟩ = some (.int .i64 1) := hP1.z (zadd_eq _ _ _) 0
  have x1 : W1.cell? ⟨H, 1, none⟩ = some (.int .u8 On) := hP1.z (zadd_eq _ _ _) 1
  have x2 : W1.cell? ⟨H, 2, none⟩ = some (.int .i64 lo) := hP1.z (zadd_eq _ _ _) 2
  have x3 : W1.cell? ⟨H, 3, none⟩ = some (.int .i64 hi) := hP1.z (zadd_eq _ _ _) 3
  have x4 : W1.cell? ⟨H, 4, none⟩ = some (.int .i64 v) := hP1.z (zadd_eq _ _ _) 4
  have p0 : W1.cell? ⟨bp, 0, none⟩ = some m0 := hP1.p 0
  have p1 : W1.cell? ⟨bp, 1, none⟩ = some m1 := hP1.p 1
  have p2 : W1.cell? ⟨bp, 2, none⟩ = some d0 := hP1.p 2
  have p3 : W1.cell? ⟨bp, 3, none⟩ = some d1 := hP1.p 3
  have HP : Hid (Pr w0 W1.drew bp (zadd Z H (.cells (actC 1 On lo hi v) 43 (0, 0))) 4 F m0 m1 d0 d1 s t s t) := hP1.later (below_drew (Below.refl _ _))
  have HZC : Hid (∀ (W : World) (c : Nat) (F : Nat → Nat → Prop) (m0 m1 d0 d1 : Value) (s t s' t' : Stt), Pr w0 W bp (zadd Z H (.cells (actC 1 On lo hi v) 43 (0, 0))) c F m0 m1 d0 d1 s t s' t' → (W.cell? ⟨bp, 0, none⟩ = some m0 ∧ W.cell? ⟨bp, 1, none⟩ = some m1 ∧ W.cell? ⟨bp, 2, none⟩ = some d0 ∧ W.cell? ⟨bp, 3, none⟩ = some d1) ∧ (W.cell? ⟨H, 2, none⟩ = some (.int .i64 lo) ∧ W.cell? ⟨H, 3, none⟩ = some (.int .i64 hi) ∧ W.cell? ⟨H, 4, none⟩ = some (.int .i64 v))) := fun W c F m0 m1 d0 d1 s t s' t' h => ⟨⟨h.p 0, h.p 1, h.p 2, h.p 3⟩, h.z (zadd_eq _ _ _) 2, h.z (zadd_eq _ _ _) 3, h.z (zadd_eq _ _ _) 4⟩
  have HZD : Hid (∀ (W : World) (F : Nat → Nat → Prop) (m0 m1 d0 d1 : Value) (s t : Stt), Pr w0 W bp (zadd Z H (.cells (actC 1 On lo hi v) 43 (0, 0))) 4 F m0 m1 d0 d1 s t s t → Pl w0 W bp Z s t) := fun W F m0 m1 d0 d1 s t h => ⟨F, m0, m1, d0, d1, h.drop hZn⟩
  have w8 : IntKind.i64.wrap 1 = 1 := by decide
  have hM := pm_set (HP.out.M1 (by decide)) lo hi v
  have y0 := x0
  have y1 := x1
  rw [hW1, ← hH] at y0 y1
  clear h hP1 hZn
  go_enter Try.func11, Try.ntmps11
  go_wp2
  rw [← hW1]
  clear y0 y1 hW1
  go_region_held3 (fun w' => (w'.cell? ⟨bp, 0, none⟩ = some m0 ∧ w'.cell? ⟨bp, 1, none⟩ = some m1 ∧ w'.cell? ⟨bp, 2, none⟩ = some d0 ∧ w'.cell? ⟨bp, 3, none⟩ = some d1) ∧ (w'.cell? ⟨H, 2, none⟩ = some (.int .i64 lo) ∧ w'.cell? ⟨H, 3, none⟩ = some (.int .i64 hi) ∧ w'.cell? ⟨H, 4, none⟩ = some (.int .i64 v))) (first | exact ⟨⟨p0, p1, p2, p3⟩, x2, x3, x4⟩ | exact HY2.out | exact HY3.out | go_keep) (first | (go_at_call 24; refine hM.mono ?_; rintro r W2 ⟨rfl, hc⟩; obtain ⟨F2, hP2⟩ := HP.out.ch2 hc; have HP2 := hid hP2; have HY2 := hid (HZC.out _ _ _ _ _ _ _ _ _ _ _ hP2); have hD := pd_set (hP2.D1 (by decide)) lo hi v (by omega); clear hM hc hP2) | (go_at_call 10; refine (num_any _ _).mono ?_; rintro r W9 ⟨rfl, hw9⟩; rw [hw9]; clear hw9) | (go_at_call 28; refine hD.mono ?_; rintro r W3 ⟨rfl, hc⟩; obtain ⟨F3, hP3⟩ := HP2.out.ch3 hc; have HP3 := hid hP3; have HY3 := hid (HZC.out _ _ _ _ _ _ _ _ _ _ _ hP3); clear hD hc hP3))
  go_wp2
  go_ret
  exact ⟨rfl, HZD.out _ _ _ _ _ _ _ _ HP3.out⟩
end Go.Proofs.Ytijafckdbhklmaa.I
