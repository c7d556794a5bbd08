import Derived.Test.YtijafckdbhklmaaPE8z
import Derived.Deep.RegionHeld3
namespace Go.Proofs.Ytijafckdbhklmaa.I
open Go.RowKit Go.Sort Go.Lib Go.Shelf Go.Proofs.Ytijafckdbhklmaa Classical
attribute [local go_sem] Oper.semAt_some
set_option linter.unusedVariables false
set_option linter.unusedSimpArgs false
set_option maxRecDepth 100000

set_option maxHeartbeats 8000000 in
theorem play_same0 {w0 w : World} {bp : Nat} {Z : Nat → Option Obj} {F : Nat → Nat → Prop} {m0 m1 d0 d1 : Value} {s t : Stt} (h : Pr w0 w bp Z 4 F m0 m1 d0 d1 s t s t) (On lo hi v : Int) (hOn : On.tmod 2 = 0) (hs : lenS s ≤ 1048576) (ht : lenS t ≤ 1048576) :
    Calls Try.prog 11 #[.pointer (some ⟨bp, 0, none⟩), .agg (actC 5 On lo hi v)] w fun e w' => e = .returned (.bool true) ∧ Pl w0 w' bp Z s t := by
  obtain ⟨H, hH⟩ : ∃ H, w.heap.size = H := ⟨_, rfl⟩
  have hP1 := h.start (actC 5 On lo hi v) 43
  have hZn := h.none_new
  rw [hH] at hP1 hZn
  obtain ⟨W1, hW1⟩ : ∃ W1, W1 = w.alloc (.cells (actC 5 On lo hi v) 43) := ⟨_, rfl⟩
  rw [← hW1] at hP1
  have x0 : W1.cell? ⟨H, 0, none⟩ = some (.int .i64 5) := hP1.z (zadd_eq _ _ _) 0
  have x1 : W1.cell? ⟨H, 1, none⟩ = some (.int .u8 On) := hP1.z (zadd_eq _ _ _) 1
  have x2 : W1.cell? ⟨H, 2, none⟩ = some (.int .i64 lo) := hP1.z (zadd_eq _ _ _) 2
  have x3 : W1.cell? ⟨H, 3, none⟩ = some (.int .i64 hi) := hP1.z (zadd_eq _ _ _) 3
  have x4 : W1.cell? ⟨H, 4, none⟩ = some (.int .i64 v) := hP1.z (zadd_eq _ _ _) 4
  have p0 : W1.cell? ⟨bp, 0, none⟩ = some m0 := hP1.p 0
  have p1 : W1.cell? ⟨bp, 1, none⟩ = some m1 := hP1.p 1
  have p2 : W1.cell? ⟨bp, 2, none⟩ = some d0 := hP1.p 2
  have p3 : W1.cell? ⟨bp, 3, none⟩ = some d1 := hP1.p 3
  have HP : Hid (Pr w0 W1.drew bp (zadd Z H (.cells (actC 5 On lo hi v) 43 (0, 0))) 4 F m0 m1 d0 d1 s t s t) := hP1.later (below_drew (Below.refl _ _))
  have HZC : Hid (∀ (W : World) (c : Nat) (F : Nat → Nat → Prop) (m0 m1 d0 d1 : Value) (s t s' t' : Stt), Pr w0 W bp (zadd Z H (.cells (actC 5 On lo hi v) 43 (0, 0))) c F m0 m1 d0 d1 s t s' t' → (W.cell? ⟨bp, 0, none⟩ = some m0 ∧ W.cell? ⟨bp, 1, none⟩ = some m1 ∧ W.cell? ⟨bp, 2, none⟩ = some d0 ∧ W.cell? ⟨bp, 3, none⟩ = some d1) ∧ (W.cell? ⟨H, 2, none⟩ = some (.int .i64 lo) ∧ W.cell? ⟨H, 3, none⟩ = some (.int .i64 hi) ∧ W.cell? ⟨H, 4, none⟩ = some (.int .i64 v))) := fun W c F m0 m1 d0 d1 s t s' t' h => ⟨⟨h.p 0, h.p 1, h.p 2, h.p 3⟩, h.z (zadd_eq _ _ _) 2, h.z (zadd_eq _ _ _) 3, h.z (zadd_eq _ _ _) 4⟩
  have HZD : Hid (∀ (W : World) (F : Nat → Nat → Prop) (m0 m1 d0 d1 : Value) (s t : Stt), Pr w0 W bp (zadd Z H (.cells (actC 5 On lo hi v) 43 (0, 0))) 4 F m0 m1 d0 d1 s t s t → Pl w0 W bp Z s t) := fun W F m0 m1 d0 d1 s t h => ⟨F, m0, m1, d0, d1, h.drop hZn⟩
  have w8 : IntKind.i64.wrap 0 = 0 := by decide
  have hM := pm_same (HP.out.M0 (by decide)) (HP.out.M1 (by decide))
  have hlen := (HP.out.M0 (by decide)).runs_len
  have y0 := x0
  have y1 := x1
  rw [hW1, ← hH] at y0 y1
  clear h hP1 hZn
  go_enter Try.func11, Try.ntmps11
  go_wp2
  rw [← hW1]
  clear y0 y1 hW1
  go_region_held3 (fun w' => (w'.cell? ⟨bp, 0, none⟩ = some m0 ∧ w'.cell? ⟨bp, 1, none⟩ = some m1 ∧ w'.cell? ⟨bp, 2, none⟩ = some d0 ∧ w'.cell? ⟨bp, 3, none⟩ = some d1) ∧ (w'.cell? ⟨H, 2, none⟩ = some (.int .i64 lo) ∧ w'.cell? ⟨H, 3, none⟩ = some (.int .i64 hi) ∧ w'.cell? ⟨H, 4, none⟩ = some (.int .i64 v))) (first | exact ⟨⟨p0, p1, p2, p3⟩, x2, x3, x4⟩ | exact HY2.out | exact HY3.out | go_keep) (first | (go_at_call 25; refine hM.mono ?_; rintro r W2 ⟨rfl, hb⟩; have HP2 := hid (HP.out.later hb); have HY2 := hid (HZC.out _ _ _ _ _ _ _ _ _ _ _ HP2.out); have hD := pd_same (HP2.out.D0 (by decide)) (HP2.out.D1 (by decide)) hs ht hlen; clear hM hb) | (go_at_call 32; refine hD.mono ?_; rintro r W3 ⟨rfl, hb⟩; have HP3 := hid (HP2.out.later hb); have HY3 := hid (HZC.out _ _ _ _ _ _ _ _ _ _ _ HP3.out); clear hD hb))
  go_wp2
  go_ret
  exact ⟨rfl, HZD.out _ _ _ _ _ _ _ _ HP3.out⟩
set_option maxHeartbeats 8000000 in
theorem play_same1 {w0 w : World} {bp : Nat} {Z : Nat → Option Obj} {F : Nat → Nat → Prop} {m0 m1 d0 d1 : Value} {s t : Stt} (h : Pr w0 w bp Z 4 F m0 m1 d0 d1 s t s t) (On lo hi v : Int) (hOn : On.tmod 2 = 1) (hs : lenS s ≤ 1048576) (ht : lenS t ≤ 1048576) :
    Calls Try.prog 11 #[.pointer (some ⟨bp, 0, none⟩), .agg (actC 5 On lo hi v)] w fun e w' => e = .returned (.bool true) ∧ Pl w0 w' bp Z s t := by
  obtain ⟨H, hH⟩ : ∃ H, w.heap.size = H := ⟨_, rfl⟩
  have hP1 := h.start (actC 5 On lo hi v) 43
  have hZn := h.none_new
  rw [hH] at hP1 hZn
  obtain ⟨W1, hW1⟩ : ∃ W1, W1 = w.alloc (.cells (actC 5 On lo hi v) 43) := ⟨_, rfl⟩
  rw [← hW1] at hP1
  have x0 : W1.cell? ⟨H, 0, none⟩ = some (.int .i64 5) := hP1.z (zadd_eq _ _ _) 0
  have x1 : W1.cell? ⟨H, 1, none⟩ = some (.int .u8 On) := hP1.z (zadd_eq _ _ _) 1
  have x2 : W1.cell? ⟨H, 2, none⟩ = some (.int .i64 lo) := hP1.z (zadd_eq _ _ _) 2
  have x3 : W1.cell? ⟨H, 3, none⟩ = some (.int .i64 hi) := hP1.z (zadd_eq _ _ _) 3
  have x4 : W1.cell? ⟨H, 4, none⟩ = some (.int .i64 v) := hP1.z (zadd_eq _ _ _) 4
  have p0 : W1.cell? ⟨bp, 0, none⟩ = some m0 := hP1.p 0
  have p1 : W1.cell? ⟨bp, 1, none⟩ = some m1 := hP1.p 1
  have p2 : W1.cell? ⟨bp, 2, none⟩ = some d0 := hP1.p 2
  have p3 : W1.cell? ⟨bp, 3, none⟩ = some d1 := hP1.p 3
  have HP : Hid (Pr w0 W1.drew bp (zadd Z H (.cells (actC 5 On lo hi v) 43 (0, 0))) 4 F m0 m1 d0 d1 s t s t) := hP1.later (below_drew (Below.refl _ _))
  have HZC : Hid (∀ (W : World) (c : Nat) (F : Nat → Nat → Prop) (m0 m1 d0 d1 : Value) (s t s' t' : Stt), Pr w0 W bp (zadd Z H (.cells (actC 5 On lo hi v) 43 (0, 0))) c F m0 m1 d0 d1 s t s' t' → (W.cell? ⟨bp, 0, none⟩ = some m0 ∧ W.cell? ⟨bp, 1, none⟩ = some m1 ∧ W.cell? ⟨bp, 2, none⟩ = some d0 ∧ W.cell? ⟨bp, 3, none⟩ = some d1) ∧ (W.cell? ⟨H, 2, none⟩ = some (.int .i64 lo) ∧ W.cell? ⟨H, 3, none⟩ = some (.int .i64 hi) ∧ W.cell? ⟨H, 4, none⟩ = some (.int .i64 v))) := fun W c F m0 m1 d0 d1 s t s' t' h => ⟨⟨h.p 0, h.p 1, h.p 2, h.p 3⟩, h.z (zadd_eq _ _ _) 2, h.z (zadd_eq _ _ _) 3, h.z (zadd_eq _ _ _) 4⟩
  have HZD : Hid (∀ (W : World) (F : Nat → Nat → Prop) (m0 m1 d0 d1 : Value) (s t : Stt), Pr w0 W bp (zadd Z H (.cells (actC 5 On lo hi v) 43 (0, 0))) 4 F m0 m1 d0 d1 s t s t → Pl w0 W bp Z s t) := fun W F m0 m1 d0 d1 s t h => ⟨F, m0, m1, d0, d1, h.drop hZn⟩
  have w8 : IntKind.i64.wrap 1 = 1 := by decide
  have hM := pm_same (HP.out.M0 (by decide)) (HP.out.M1 (by decide))
  have hlen := (HP.out.M0 (by decide)).runs_len
  have y0 := x0
  have y1 := x1
  rw [hW1, ← hH] at y0 y1
  clear h hP1 hZn
  go_enter Try.func11, Try.ntmps11
  go_wp2
  rw [← hW1]
  clear y0 y1 hW1
  go_region_held3 (fun w' => (w'.cell? ⟨bp, 0, none⟩ = some m0 ∧ w'.cell? ⟨bp, 1, none⟩ = some m1 ∧ w'.cell? ⟨bp, 2, none⟩ = some d0 ∧ w'.cell? ⟨bp, 3, none⟩ = some d1) ∧ (w'.cell? ⟨H, 2, none⟩ = some (.int .i64 lo) ∧ w'.cell? ⟨H, 3, none⟩ = some (.int .i64 hi) ∧ w'.cell? ⟨H, 4, none⟩ = some (.int .i64 v))) (first | exact ⟨⟨p0, p1, p2, p3⟩, x2, x3, x4⟩ | exact HY2.out | exact HY3.out | go_keep) (first | (go_at_call 25; refine hM.mono ?_; rintro r W2 ⟨rfl, hb⟩; have HP2 := hid (HP.out.later hb); have HY2 := hid (HZC.out _ _ _ _ _ _ _ _ _ _ _ HP2.out); have hD := pd_same (HP2.out.D0 (by decide)) (HP2.out.D1 (by decide)) hs ht hlen; clear hM hb) | (go_at_call 32; refine hD.mono ?_; rintro r W3 ⟨rfl, hb⟩; have HP3 := hid (HP2.out.later hb); have HY3 := hid (HZC.out _ _ _ _ _ _ _ _ _ _ _ HP3.out); clear hD hb))
  go_wp2
  go_ret
  exact ⟨rfl, HZD.out _ _ _ _ _ _ _ _ HP3.out⟩
end Go.Proofs.Ytijafckdbhklmaa.I
