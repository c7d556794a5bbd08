import Derived.Test.YtijafckdbhklmaaPE9z
import Derived.Deep.RegionHeld3
namespace Go.Proofs.Ytijafckdbhklmaa.I
open Go.RowKit Go.Sort Go.Lib Go.Shelf Go.Proofs.Ytijafckdbhklmaa Classical
attribute [local go_sem] Oper.semAt_some
set_option linter.unusedVariables false
set_option linter.unusedSimpArgs false
set_option maxRecDepth 100000

abbrev ZL (H : Nat) (z0 z1 f0 f1 : Int) : Nat → Option Obj := zadd (zadd (fun _ => none) H (.cells #[.int .i64 z0, .int .i64 z1] 22 (0, 0))) (H + 1) (.cells #[.int .i64 f0, .int .i64 f1] 23 (0, 0))
theorem ZL_z (H : Nat) (z0 z1 f0 f1 : Int) : ZL H z0 z1 f0 f1 H = some (.cells #[.int .i64 z0, .int .i64 z1] 22 (0, 0)) := by unfold ZL; rw [zadd_ne _ _ (by omega), zadd_eq]
theorem ZL_f (H : Nat) (z0 z1 f0 f1 : Int) : ZL H z0 z1 f0 f1 (H + 1) = some (.cells #[.int .i64 f0, .int .i64 f1] 23 (0, 0)) := by unfold ZL; rw [zadd_eq]
theorem PD.size_cell {w : World} {P : Nat → Prop} {n0 bd : Nat} {s : Stt} (h : PD w P n0 (.pointer (some ⟨bd, 0, none⟩)) s) : w.cell? ⟨bd, 1, none⟩ = some (.int .i64 (sizeS s)) := by
  obtain ⟨b, e, _, h1, _⟩ := h.cells
  simp only [Value.pointer.injEq, Option.some.injEq, Addr.mk.injEq, and_true] at e
  rw [e]; exact h1
theorem Pr.two {w0 w : World} {bp : Nat} {Z : Nat → Option Obj} {c : Nat} {F : Nat → Nat → Prop} {m0 m1 d0 d1 : Value} {s t s' t' : Stt} (h : Pr w0 w bp Z c F m0 m1 d0 d1 s t s' t') {n1 n2 : Nat} (h1 : n1 ≤ n2) : (∀ (P' : Nat → Prop), (∀ k, P' k → w.heap.size ≤ k) → ∀ k, P' k → Z k = none ∧ k ≠ bp ∧ w0.heap.size ≤ k ∧ ∀ j, ¬ F j k) := fun P' hf k hk => by
  have h2 := hf k hk
  refine ⟨?_, by have := h.ltp; omega, by have := h.n0; omega, fun j hF => by have := (h.lt j k hF).2.1; omega⟩
  cases hz : Z k with
  | none => rfl
  | some o => have := h.ltz hz; omega
set_option maxHeartbeats 16000000 in
theorem lawPlays_any (z0 z1 f0 f1 : Int) (ao : Option Addr) (n cap : Nat) (l : List Ac) (w : World) (HL : Hid (n = l.length)) (hn : n ≤ 1048576) (HR : Hid (Acts w ao l)) :
    Calls Try.prog 3 #[.agg #[.int .i64 z0, .int .i64 z1], .agg #[.int .i64 f0, .int .i64 f1], .slice ao n cap] w fun e w' => e = .returned (.bool true) ∧ Below w.heap.size w w' := by
  obtain ⟨H, hH⟩ : ∃ H, w.heap.size = H := ⟨_, rfl⟩
  obtain ⟨W1, hW1⟩ : ∃ W1, W1 = ((w.alloc (.cells #[.int .i64 z0, .int .i64 z1] 22)).alloc (.cells #[.int .i64 f0, .int .i64 f1] 23)).alloc (.cells #[.pointer none, .pointer none, .pointer none, .pointer none] 31) := ⟨_, rfl⟩
  have hb1 : Below w.heap.size w W1 := by rw [hW1]; exact (((Below.refl _ w).alloc (Nat.le_refl _) _).alloc (by simp) _).alloc (by simp; omega) _
  have a0 : W1.heap[H]? = some (.cells #[.int .i64 z0, .int .i64 z1] 22 (0, 0)) := by
    rw [hW1, ← hH]; exact (Below.heap_alloc _ _ _ (by simp; omega)).trans ((Below.heap_alloc _ _ _ (by simp)).trans (heap_alloc_new w _))
  have a1 : W1.heap[H + 1]? = some (.cells #[.int .i64 f0, .int .i64 f1] 23 (0, 0)) := by
    have := heap_alloc_new (w.alloc (.cells #[.int .i64 z0, .int .i64 z1] 22)) (.cells #[.int .i64 f0, .int .i64 f1] 23)
    rw [World.size_alloc, hH] at this
    rw [hW1]; exact (Below.heap_alloc _ _ _ (by simp; omega)).trans this
  have a2 : W1.heap[H + 2]? = some (.cells #[.pointer none, .pointer none, .pointer none, .pointer none] 31 (0, 0)) := by
    have := heap_alloc_new ((w.alloc (.cells #[.int .i64 z0, .int .i64 z1] 22)).alloc (.cells #[.int .i64 f0, .int .i64 f1] 23)) (.cells #[.pointer none, .pointer none, .pointer none, .pointer none] 31)
    rw [World.size_alloc, World.size_alloc, hH] at this
    rw [hW1]; exact this
  have hzz : ∀ k o, ZL H z0 z1 f0 f1 k = some o → W1.heap[k]? = some o := fun k o hz => by
    unfold ZL at hz
    by_cases e1 : k = H + 1
    · subst e1; rw [zadd_eq] at hz; exact a1.trans hz
    · rw [zadd_ne _ _ e1] at hz
      by_cases e2 : k = H
      · subst e2; rw [zadd_eq] at hz; exact a0.trans hz
      · rw [zadd_ne _ _ e2] at hz; cases hz
  have hzb : ZL H z0 z1 f0 f1 (H + 2) = none := by unfold ZL; rw [zadd_ne _ _ (by omega), zadd_ne _ _ (by omega)]
  have HP0 : Hid (PrK w W1 (H + 2) (ZL H z0 z1 f0 f1) 0) := ⟨fun _ _ => False, _, _, _, _, none, none, ⟨a2, hzz, fun h => absurd h (by omega), fun h => absurd h (by omega), fun h => absurd h (by omega), fun h => absurd h (by omega), fun i k h => False.elim h, fun i j k h => False.elim h, ⟨by omega, hzb⟩, hb1⟩, rfl, rfl⟩
  have HZz : Hid (∀ (W : World) (c : Nat) (F : Nat → Nat → Prop) (m0 m1 d0 d1 : Value) (s t s' t' : Stt), Pr w W (H + 2) (ZL H z0 z1 f0 f1) c F m0 m1 d0 d1 s t s' t' → (W.cell? ⟨H, 0, none⟩ = some (.int .i64 z0) ∧ W.cell? ⟨H, 1, none⟩ = some (.int .i64 z1)) ∧ (W.cell? ⟨H + 1, 0, none⟩ = some (.int .i64 f0) ∧ W.cell? ⟨H + 1, 1, none⟩ = some (.int .i64 f1))) := fun W c F m0 m1 d0 d1 s t s' t' h => ⟨⟨h.z (ZL_z _ _ _ _ _) 0, h.z (ZL_z _ _ _ _ _) 1⟩, h.z (ZL_f _ _ _ _ _) 0, h.z (ZL_f _ _ _ _ _) 1⟩
  have HHs : Hid (w.heap.size = H) := hH
  obtain ⟨Z, hZ⟩ : ∃ Z, Z = ZL H z0 z1 f0 f1 := ⟨_, rfl⟩
  rw [← hZ] at HP0 HZz
  clear a0 a1 a2 hb1 hZ hzz hzb
  go_enter Try.func3, Try.ntmps3
  go_wp2
  rw [← hW1]
  clear hW1
  clear hH
  go_loopw [8, 9, 10, 11, 12] (fun v8 _ _ _ _ wr => ∃ k : Nat, (k = 0 ∧ v8 = .int .i64 0 ∨ k = 1 ∧ v8 = .int .i64 1 ∨ k = 2 ∧ v8 = .int .i64 2) ∧ Hid (PrK w wr (H + 2) Z (2 * k))) (fun v8 _ _ _ _ _ => 2 - (intOf v8).toNat)
  case atStart => exact ⟨0, .inl ⟨rfl, rfl⟩, HP0⟩
  case round =>
    obtain ⟨k, hk, HPk⟩ := hrel
    rcases hk with ⟨rfl, rfl⟩ | ⟨rfl, rfl⟩ | ⟨rfl, rfl⟩
    · by_cases hz : 0 ≤ z0 ∧ z0 ≤ 1099511627776
      · obtain ⟨F, m0, m1, d0, d1, s, t, hP, l0, l1⟩ := HPk.out
        have HP := hid hP
        obtain ⟨⟨x0, x1⟩, y0, y1⟩ := HZz.out _ _ _ _ _ _ _ _ _ _ _ hP
        have hM := new_pm z0 f0 wr.drew w.heap.size hP.n0 hz.1 hz.2
        clear hP HPk
        go_wp2
        go_region_held3 (fun w' => (w'.cell? ⟨H, 0, none⟩ = some (.int .i64 z0) ∧ w'.cell? ⟨H, 1, none⟩ = some (.int .i64 z1)) ∧ (w'.cell? ⟨H + 1, 0, none⟩ = some (.int .i64 f0) ∧ w'.cell? ⟨H + 1, 1, none⟩ = some (.int .i64 f1))) (first | exact ⟨⟨x0, x1⟩, y0, y1⟩ | exact HY2.out | go_keep) (first | (go_at_call 8; refine hM.mono ?_; rintro r W2 ⟨bm, P1, rfl, hM1, hf, hb⟩; have HP2 := hid (HP.out.later ((below_drew (Below.refl _ _)).trans hb)); have HY2 := hid (HZz.out _ _ _ _ _ _ _ _ _ _ _ HP2.out); have HM1 := hid hM1; have HF1 := hid hf; clear hM hM1 hf hb))
        obtain ⟨⟨x20, x21⟩, y20, y21⟩ := HY2.out
        have hD := new_pd z0 f0 W2.drew w.heap.size HP2.out.n0 hz.1 hz.2
        go_wp2
        go_region_held3 (fun w' => (w'.cell? ⟨H, 0, none⟩ = some (.int .i64 z0) ∧ w'.cell? ⟨H, 1, none⟩ = some (.int .i64 z1)) ∧ (w'.cell? ⟨H + 1, 0, none⟩ = some (.int .i64 f0) ∧ w'.cell? ⟨H + 1, 1, none⟩ = some (.int .i64 f1))) (first | exact ⟨⟨x20, x21⟩, y20, y21⟩ | exact HY3.out | go_keep) (first | (go_at_call 9; refine hD.mono ?_; rintro r W3 ⟨bd, P2, rfl, hD2, hf, hb⟩; have hb := (below_drew (Below.refl W2.heap.size W2)).trans hb; have HP3 := hid (HP2.out.later hb); have HY3 := hid (HZz.out _ _ _ _ _ _ _ _ _ _ _ HP3.out); have HM3 := hid (HM1.out.later hb); have HD3 := hid hD2; have HF2 := hid hf; have HB3 := hid hb.size; have e0 := hD2.cells; clear hD hD2 hf hb))
        obtain ⟨bd2, he2, e0, _, _⟩ := e0
        simp only [Value.pointer.injEq, Option.some.injEq, Addr.mk.injEq, and_true] at he2
        subst he2
        have q0 := HP3.out.p 0
        have q1 := HP3.out.fp 0
        have q2 : ∀ v, (W3.setCell ⟨H + 2, 0, none⟩ v).cell? ⟨H + 2, 2, none⟩ = some d0 := fun v => by unfold World.cell?; rw [blk_set HP3.out.blk 0 v]; rfl
        have q3 : ∀ v, (W3.setCell ⟨H + 2, 0, none⟩ v).frozen? ⟨H + 2, 2, none⟩ = false := fun v => by unfold World.frozen?; rw [blk_set HP3.out.blk 0 v]; rfl
        have HQ : Hid (PrK w ((W3.setCell ⟨H + 2, 0, none⟩ (.pointer (some ⟨bm, 0, none⟩))).setCell ⟨H + 2, 2, none⟩ (.pointer (some ⟨bd, 0, none⟩))) (H + 2) Z 2) := by
          have t1 := HP.out.two (Nat.le_refl 0) P1 (fun k hk => (HF1.out k hk).1)
          obtain ⟨F4, h4, hF4⟩ := HP3.out.swap0 (c' := 1) HM3.out (fun k hk => ⟨(t1 k hk).2.2.2, (t1 k hk).2.2.1, by have := (HF1.out k hk).2; have := HB3.out; omega, (t1 k hk).2.1, (t1 k hk).1⟩) (fun i h1 h2 => by omega)
          have t2 := HP2.out.two (Nat.le_refl 0) P2 (fun k hk => (HF2.out k hk).1)
          have hD4 := HD3.out.keep (w' := W3.setCell ⟨H + 2, 0, none⟩ (.pointer (some ⟨bm, 0, none⟩))) (fun k _ hk => (kx_set W3 (H + 2) 0 _).block k (HF2.out k hk).2 (t2 k hk).2.1)
          obtain ⟨F5, h5, _⟩ := h4.swap1 (c' := 2) hD4 (fun k hk => ⟨fun j hj => by
            rcases hF4 j k hj with a | a
            · exact (t2 k hk).2.2.2 j a
            · have := (HF1.out k a).2; have := (HF2.out k hk).1; have e : W2.drew.heap.size = W2.heap.size := rfl; omega, (t2 k hk).2.2.1, by rw [World.size_setCell]; exact (HF2.out k hk).2, (t2 k hk).2.1, (t2 k hk).1⟩) (fun i h1 h2 => by omega)
          exact ⟨F5, _, _, _, _, _, _, h5, rfl, l1⟩
        go_wp2_with (go_at_call 10; refine (num_any _ _).mono ?_; rintro r W9 ⟨rfl, hw9⟩; rw [hw9]; clear hw9)
        go_roundw
        case rel => exact ⟨1, .inr (.inl ⟨rfl, rfl⟩), HQ⟩
        case measure => simp [intOf]
      · obtain ⟨F, m0, m1, d0, d1, s, t, hP, l0, l1⟩ := HPk.out
        have HP := hid hP
        have hz' : z0 < 0 ∨ 1099511627776 < z0 := by omega
        obtain ⟨⟨x0, x1⟩, y0, y1⟩ := HZz.out _ _ _ _ _ _ _ _ _ _ _ hP
        have hM := new_pm_bad z0 f0 wr.drew w.heap.size hz'
        clear hP HPk
        go_wp2
        go_region_held3 (fun w' => (w'.cell? ⟨H, 0, none⟩ = some (.int .i64 z0) ∧ w'.cell? ⟨H, 1, none⟩ = some (.int .i64 z1)) ∧ (w'.cell? ⟨H + 1, 0, none⟩ = some (.int .i64 f0) ∧ w'.cell? ⟨H + 1, 1, none⟩ = some (.int .i64 f1))) (first | exact ⟨⟨x0, x1⟩, y0, y1⟩ | exact HY2.out | go_keep) (first | (go_at_call 8; refine hM.mono ?_; rintro r W2 ⟨P1, rfl, hM1, hf, hb⟩; have HP2 := hid (HP.out.later ((below_drew (Below.refl _ _)).trans hb)); have HY2 := hid (HZz.out _ _ _ _ _ _ _ _ _ _ _ HP2.out); have HM1 := hid hM1; have HF1 := hid hf; clear hM hM1 hf hb))
        obtain ⟨⟨x20, x21⟩, y20, y21⟩ := HY2.out
        have hD := new_pd_bad z0 f0 W2.drew w.heap.size HP2.out.n0 hz'
        go_wp2
        go_region_held3 (fun w' => (w'.cell? ⟨H, 0, none⟩ = some (.int .i64 z0) ∧ w'.cell? ⟨H, 1, none⟩ = some (.int .i64 z1)) ∧ (w'.cell? ⟨H + 1, 0, none⟩ = some (.int .i64 f0) ∧ w'.cell? ⟨H + 1, 1, none⟩ = some (.int .i64 f1))) (first | exact ⟨⟨x20, x21⟩, y20, y21⟩ | exact HY3.out | go_keep) (first | (go_at_call 9; refine hD.mono ?_; rintro r W3 ⟨bd, P2, rfl, hD2, hf, hb⟩; have hb := (below_drew (Below.refl W2.heap.size W2)).trans hb; have HP3 := hid (HP2.out.later hb); have HY3 := hid (HZz.out _ _ _ _ _ _ _ _ _ _ _ HP3.out); have HM3 := hid (HM1.out.later hb); have HD3 := hid hD2; have HF2 := hid hf; have HB3 := hid hb.size; have e0 := hD2.cells; clear hD hD2 hf hb))
        obtain ⟨bd2, he2, e0, _, _⟩ := e0
        simp only [Value.pointer.injEq, Option.some.injEq, Addr.mk.injEq, and_true] at he2
        subst he2
        have q0 := HP3.out.p 0
        have q1 := HP3.out.fp 0
        have q2 : ∀ v, (W3.setCell ⟨H + 2, 0, none⟩ v).cell? ⟨H + 2, 2, none⟩ = some d0 := fun v => by unfold World.cell?; rw [blk_set HP3.out.blk 0 v]; rfl
        have q3 : ∀ v, (W3.setCell ⟨H + 2, 0, none⟩ v).frozen? ⟨H + 2, 2, none⟩ = false := fun v => by unfold World.frozen?; rw [blk_set HP3.out.blk 0 v]; rfl
        have HQ : Hid (PrK w ((W3.setCell ⟨H + 2, 0, none⟩ (.pointer none)).setCell ⟨H + 2, 2, none⟩ (.pointer (some ⟨bd, 0, none⟩))) (H + 2) Z 2) := by
          have t1 := HP.out.two (Nat.le_refl 0) P1 (fun k hk => (HF1.out k hk).1)
          obtain ⟨F4, h4, hF4⟩ := HP3.out.swap0 (c' := 1) HM3.out (fun k hk => ⟨(t1 k hk).2.2.2, (t1 k hk).2.2.1, by have := (HF1.out k hk).2; have := HB3.out; omega, (t1 k hk).2.1, (t1 k hk).1⟩) (fun i h1 h2 => by omega)
          have t2 := HP2.out.two (Nat.le_refl 0) P2 (fun k hk => (HF2.out k hk).1)
          have hD4 := HD3.out.keep (w' := W3.setCell ⟨H + 2, 0, none⟩ (.pointer none)) (fun k _ hk => (kx_set W3 (H + 2) 0 _).block k (HF2.out k hk).2 (t2 k hk).2.1)
          obtain ⟨F5, h5, _⟩ := h4.swap1 (c' := 2) hD4 (fun k hk => ⟨fun j hj => by
            rcases hF4 j k hj with a | a
            · exact (t2 k hk).2.2.2 j a
            · have := (HF1.out k a).2; have := (HF2.out k hk).1; have e : W2.drew.heap.size = W2.heap.size := rfl; omega, (t2 k hk).2.2.1, by rw [World.size_setCell]; exact (HF2.out k hk).2, (t2 k hk).2.1, (t2 k hk).1⟩) (fun i h1 h2 => by omega)
          exact ⟨F5, _, _, _, _, _, _, h5, rfl, l1⟩
        go_wp2_with (go_at_call 10; refine (num_any _ _).mono ?_; rintro r W9 ⟨rfl, hw9⟩; rw [hw9]; clear hw9)
        go_roundw
        case rel => exact ⟨1, .inr (.inl ⟨rfl, rfl⟩), HQ⟩
        case measure => simp [intOf]
    · by_cases hz : 0 ≤ z1 ∧ z1 ≤ 1099511627776
      · obtain ⟨F, m0, m1, d0, d1, s, t, hP, l0, l1⟩ := HPk.out
        have HP := hid hP
        obtain ⟨⟨x0, x1⟩, y0, y1⟩ := HZz.out _ _ _ _ _ _ _ _ _ _ _ hP
        have hM := new_pm z1 f1 wr.drew w.heap.size hP.n0 hz.1 hz.2
        clear hP HPk
        go_wp2
        go_region_held3 (fun w' => (w'.cell? ⟨H, 0, none⟩ = some (.int .i64 z0) ∧ w'.cell? ⟨H, 1, none⟩ = some (.int .i64 z1)) ∧ (w'.cell? ⟨H + 1, 0, none⟩ = some (.int .i64 f0) ∧ w'.cell? ⟨H + 1, 1, none⟩ = some (.int .i64 f1))) (first | exact ⟨⟨x0, x1⟩, y0, y1⟩ | exact HY2.out | go_keep) (first | (go_at_call 8; refine hM.mono ?_; rintro r W2 ⟨bm, P1, rfl, hM1, hf, hb⟩; have HP2 := hid (HP.out.later ((below_drew (Below.refl _ _)).trans hb)); have HY2 := hid (HZz.out _ _ _ _ _ _ _ _ _ _ _ HP2.out); have HM1 := hid hM1; have HF1 := hid hf; clear hM hM1 hf hb))
        obtain ⟨⟨x20, x21⟩, y20, y21⟩ := HY2.out
        have hD := new_pd z1 f1 W2.drew w.heap.size HP2.out.n0 hz.1 hz.2
        go_wp2
        go_region_held3 (fun w' => (w'.cell? ⟨H, 0, none⟩ = some (.int .i64 z0) ∧ w'.cell? ⟨H, 1, none⟩ = some (.int .i64 z1)) ∧ (w'.cell? ⟨H + 1, 0, none⟩ = some (.int .i64 f0) ∧ w'.cell? ⟨H + 1, 1, none⟩ = some (.int .i64 f1))) (first | exact ⟨⟨x20, x21⟩, y20, y21⟩ | exact HY3.out | go_keep) (first | (go_at_call 9; refine hD.mono ?_; rintro r W3 ⟨bd, P2, rfl, hD2, hf, hb⟩; have hb := (below_drew (Below.refl W2.heap.size W2)).trans hb; have HP3 := hid (HP2.out.later hb); have HY3 := hid (HZz.out _ _ _ _ _ _ _ _ _ _ _ HP3.out); have HM3 := hid (HM1.out.later hb); have HD3 := hid hD2; have HF2 := hid hf; have HB3 := hid hb.size; have e0 := hD2.cells; clear hD hD2 hf hb))
        obtain ⟨bd2, he2, e0, _, _⟩ := e0
        simp only [Value.pointer.injEq, Option.some.injEq, Addr.mk.injEq, and_true] at he2
        subst he2
        have q0 := HP3.out.p 1
        have q1 := HP3.out.fp 1
        have q2 : ∀ v, (W3.setCell ⟨H + 2, 1, none⟩ v).cell? ⟨H + 2, 3, none⟩ = some d1 := fun v => by unfold World.cell?; rw [blk_set HP3.out.blk 1 v]; rfl
        have q3 : ∀ v, (W3.setCell ⟨H + 2, 1, none⟩ v).frozen? ⟨H + 2, 3, none⟩ = false := fun v => by unfold World.frozen?; rw [blk_set HP3.out.blk 1 v]; rfl
        have HQ : Hid (PrK w ((W3.setCell ⟨H + 2, 1, none⟩ (.pointer (some ⟨bm, 0, none⟩))).setCell ⟨H + 2, 3, none⟩ (.pointer (some ⟨bd, 0, none⟩))) (H + 2) Z 4) := by
          have t1 := HP.out.two (Nat.le_refl 0) P1 (fun k hk => (HF1.out k hk).1)
          obtain ⟨F4, h4, hF4⟩ := HP3.out.swap2 (c' := 3) HM3.out (fun k hk => ⟨(t1 k hk).2.2.2, (t1 k hk).2.2.1, by have := (HF1.out k hk).2; have := HB3.out; omega, (t1 k hk).2.1, (t1 k hk).1⟩) (fun i h1 h2 => by omega)
          have t2 := HP2.out.two (Nat.le_refl 0) P2 (fun k hk => (HF2.out k hk).1)
          have hD4 := HD3.out.keep (w' := W3.setCell ⟨H + 2, 1, none⟩ (.pointer (some ⟨bm, 0, none⟩))) (fun k _ hk => (kx_set W3 (H + 2) 1 _).block k (HF2.out k hk).2 (t2 k hk).2.1)
          obtain ⟨F5, h5, _⟩ := h4.swap3 (c' := 4) hD4 (fun k hk => ⟨fun j hj => by
            rcases hF4 j k hj with a | a
            · exact (t2 k hk).2.2.2 j a
            · have := (HF1.out k a).2; have := (HF2.out k hk).1; have e : W2.drew.heap.size = W2.heap.size := rfl; omega, (t2 k hk).2.2.1, by rw [World.size_setCell]; exact (HF2.out k hk).2, (t2 k hk).2.1, (t2 k hk).1⟩) (fun i h1 h2 => by omega)
          exact ⟨F5, _, _, _, _, _, _, h5, l0, rfl⟩
        go_wp2_with (go_at_call 10; refine (num_any _ _).mono ?_; rintro r W9 ⟨rfl, hw9⟩; rw [hw9]; clear hw9)
        go_roundw
        case rel => exact ⟨2, .inr (.inr ⟨rfl, rfl⟩), HQ⟩
        case measure => simp [intOf]
      · obtain ⟨F, m0, m1, d0, d1, s, t, hP, l0, l1⟩ := HPk.out
        have HP := hid hP
        have hz' : z1 < 0 ∨ 1099511627776 < z1 := by omega
        obtain ⟨⟨x0, x1⟩, y0, y1⟩ := HZz.out _ _ _ _ _ _ _ _ _ _ _ hP
        have hM := new_pm_bad z1 f1 wr.drew w.heap.size hz'
        clear hP HPk
        go_wp2
        go_region_held3 (fun w' => (w'.cell? ⟨H, 0, none⟩ = some (.int .i64 z0) ∧ w'.cell? ⟨H, 1, none⟩ = some (.int .i64 z1)) ∧ (w'.cell? ⟨H + 1, 0, none⟩ = some (.int .i64 f0) ∧ w'.cell? ⟨H + 1, 1, none⟩ = some (.int .i64 f1))) (first | exact ⟨⟨x0, x1⟩, y0, y1⟩ | exact HY2.out | go_keep) (first | (go_at_call 8; refine hM.mono ?_; rintro r W2 ⟨P1, rfl, hM1, hf, hb⟩; have HP2 := hid (HP.out.later ((below_drew (Below.refl _ _)).trans hb)); have HY2 := hid (HZz.out _ _ _ _ _ _ _ _ _ _ _ HP2.out); have HM1 := hid hM1; have HF1 := hid hf; clear hM hM1 hf hb))
        obtain ⟨⟨x20, x21⟩, y20, y21⟩ := HY2.out
        have hD := new_pd_bad z1 f1 W2.drew w.heap.size HP2.out.n0 hz'
        go_wp2
        go_region_held3 (fun w' => (w'.cell? ⟨H, 0, none⟩ = some (.int .i64 z0) ∧ w'.cell? ⟨H, 1, none⟩ = some (.int .i64 z1)) ∧ (w'.cell? ⟨H + 1, 0, none⟩ = some (.int .i64 f0) ∧ w'.cell? ⟨H + 1, 1, none⟩ = some (.int .i64 f1))) (first | exact ⟨⟨x20, x21⟩, y20, y21⟩ | exact HY3.out | go_keep) (first | (go_at_call 9; refine hD.mono ?_; rintro r W3 ⟨bd, P2, rfl, hD2, hf, hb⟩; have hb := (below_drew (Below.refl W2.heap.size W2)).trans hb; have HP3 := hid (HP2.out.later hb); have HY3 := hid (HZz.out _ _ _ _ _ _ _ _ _ _ _ HP3.out); have HM3 := hid (HM1.out.later hb); have HD3 := hid hD2; have HF2 := hid hf; have HB3 := hid hb.size; have e0 := hD2.cells; clear hD hD2 hf hb))
        obtain ⟨bd2, he2, e0, _, _⟩ := e0
        simp only [Value.pointer.injEq, Option.some.injEq, Addr.mk.injEq, and_true] at he2
        subst he2
        have q0 := HP3.out.p 1
        have q1 := HP3.out.fp 1
        have q2 : ∀ v, (W3.setCell ⟨H + 2, 1, none⟩ v).cell? ⟨H + 2, 3, none⟩ = some d1 := fun v => by unfold World.cell?; rw [blk_set HP3.out.blk 1 v]; rfl
        have q3 : ∀ v, (W3.setCell ⟨H + 2, 1, none⟩ v).frozen? ⟨H + 2, 3, none⟩ = false := fun v => by unfold World.frozen?; rw [blk_set HP3.out.blk 1 v]; rfl
        have HQ : Hid (PrK w ((W3.setCell ⟨H + 2, 1, none⟩ (.pointer none)).setCell ⟨H + 2, 3, none⟩ (.pointer (some ⟨bd, 0, none⟩))) (H + 2) Z 4) := by
          have t1 := HP.out.two (Nat.le_refl 0) P1 (fun k hk => (HF1.out k hk).1)
          obtain ⟨F4, h4, hF4⟩ := HP3.out.swap2 (c' := 3) HM3.out (fun k hk => ⟨(t1 k hk).2.2.2, (t1 k hk).2.2.1, by have := (HF1.out k hk).2; have := HB3.out; omega, (t1 k hk).2.1, (t1 k hk).1⟩) (fun i h1 h2 => by omega)
          have t2 := HP2.out.two (Nat.le_refl 0) P2 (fun k hk => (HF2.out k hk).1)
          have hD4 := HD3.out.keep (w' := W3.setCell ⟨H + 2, 1, none⟩ (.pointer none)) (fun k _ hk => (kx_set W3 (H + 2) 1 _).block k (HF2.out k hk).2 (t2 k hk).2.1)
          obtain ⟨F5, h5, _⟩ := h4.swap3 (c' := 4) hD4 (fun k hk => ⟨fun j hj => by
            rcases hF4 j k hj with a | a
            · exact (t2 k hk).2.2.2 j a
            · have := (HF1.out k a).2; have := (HF2.out k hk).1; have e : W2.drew.heap.size = W2.heap.size := rfl; omega, (t2 k hk).2.2.1, by rw [World.size_setCell]; exact (HF2.out k hk).2, (t2 k hk).2.1, (t2 k hk).1⟩) (fun i h1 h2 => by omega)
          exact ⟨F5, _, _, _, _, _, _, h5, l0, rfl⟩
        go_wp2_with (go_at_call 10; refine (num_any _ _).mono ?_; rintro r W9 ⟨rfl, hw9⟩; rw [hw9]; clear hw9)
        go_roundw
        case rel => exact ⟨2, .inr (.inr ⟨rfl, rfl⟩), HQ⟩
        case measure => simp [intOf]
    · obtain ⟨F, m0, m1, d0, d1, s, t, hP, l0, l1⟩ := HPk.out
      have HP2 : Hid (∃ s t, Pl w wr (H + 2) Z s t ∧ lenS s ≤ 0 ∧ lenS t ≤ 0) := ⟨s, t, ⟨F, m0, m1, d0, d1, hP⟩, by omega, by omega⟩
      clear hP HPk l0 l1 HP0
      generalize wr = wa at *
      go_wp2
      go_loopw [13, 14] (fun v13 _ wr => ∃ i : Nat, i ≤ n ∧ v13 = .int .i64 i ∧ Hid (∃ s t, Pl w wr (H + 2) Z s t ∧ lenS s ≤ i ∧ lenS t ≤ i)) (fun v13 _ _ => n - (intOf v13).toNat)
      case atStart => exact ⟨0, Nat.zero_le _, rfl, HP2⟩
      case round =>
        obtain ⟨i, hi, rfl, HPi⟩ := hrel
        by_cases hlt : i < n
        · obtain ⟨a, ha⟩ : ∃ a, l[i]? = some a := ⟨_, List.getElem?_eq_getElem (by have := HL.out; omega)⟩
          obtain ⟨s, t, hP, l1, l2⟩ := HPi.out
          have hbel : Below w.heap.size w wr := by obtain ⟨F, _, _, _, _, h⟩ := hP; exact h.bel
          obtain ⟨b, off, rfl, h0, c0, c1, c2, c3, c4⟩ := HR.out.later hbel i a ha
          have hPl := play_any hP a.1 a.2.1 a.2.2.1 a.2.2.2.1 a.2.2.2.2 h0 i (by omega) l1 l2
          have hkz : (i : Int) < (n : Int) := by omega
          clear hP hbel HPi HP2 ha h0
          go_wp2_with (go_at_call 11; refine hPl.mono ?_; rintro r W2 ⟨rfl, s', t', hP', l1', l2'⟩; have HP' := hid hP'; have L1 := hid (show lenS s' ≤ 1048576 by omega); have L2 := hid (show lenS t' ≤ 1048576 by omega); have L3 := hid l1'; have L4 := hid l2'; clear hPl hP' l1' l2')
          clear c0 c1 c2 c3 c4
          generalize wr = wo at *
          go_loopw [14] (fun v14 wr => ∃ k : Nat, (k = 0 ∧ v14 = .int .i64 0 ∨ k = 1 ∧ v14 = .int .i64 1 ∨ k = 2 ∧ v14 = .int .i64 2) ∧ Hid (Pl w wr (H + 2) Z s' t')) (fun v14 _ => 2 - (intOf v14).toNat)
          case atStart => exact ⟨0, .inl ⟨rfl, rfl⟩, HP'⟩
          case round =>
            obtain ⟨k, hk, HPk⟩ := hrel
            rcases hk with ⟨rfl, rfl⟩ | ⟨rfl, rfl⟩ | ⟨rfl, rfl⟩
            · obtain ⟨F, m0, m1, d0, d1, hP⟩ := HPk.out
              obtain ⟨bd, rfl, _, e1, _⟩ := (hP.D0 (by decide)).cells
              have HP := hid (hP.later (below_drew (Below.refl _ _)))
              have HY : Hid (∀ W F, Pr w W (H + 2) Z 4 F m0 m1 (.pointer (some ⟨bd, 0, none⟩)) d1 s' t' s' t' → W.cell? ⟨H + 2, 0, none⟩ = some m0 ∧ W.cell? ⟨H + 2, 2, none⟩ = some (.pointer (some ⟨bd, 0, none⟩)) ∧ W.cell? ⟨bd, 1, none⟩ = some (.int .i64 (sizeS s')) ∧ W.cell? ⟨H, 0, none⟩ = some (.int .i64 z0)) := fun W F h => ⟨h.p 0, h.p 2, (h.D0 (by decide)).size_cell, (HZz.out _ _ _ _ _ _ _ _ _ _ _ h).1.1⟩
              obtain ⟨y1, y2, y3, y4⟩ := HY.out _ _ hP
              have hA := pm_size (HP.out.M0 (by decide))
              have hC := pm_count (HP.out.M0 (by decide))
              have hE := pd_count (HP.out.D0 (by decide)) L1.out
              have HLEN := hid ((HP.out.M0 (by decide)).runsS_len 0 z0)
              clear hP HPk e1
              generalize sizeS s' = zs at *
              generalize countS s' = cs at *
              go_wp2
              go_region_held3 (fun w' => w'.cell? ⟨H + 2, 0, none⟩ = some m0 ∧ w'.cell? ⟨H + 2, 2, none⟩ = some (.pointer (some ⟨bd, 0, none⟩)) ∧ w'.cell? ⟨bd, 1, none⟩ = some (.int .i64 zs) ∧ w'.cell? ⟨H, 0, none⟩ = some (.int .i64 z0)) (first | exact ⟨y1, y2, y3, y4⟩ | exact HY.out _ _ HP3.out | exact HY.out _ _ HP4.out | exact HY.out _ _ HP5.out | exact HY.out _ _ HP6.out | go_keep) (first | (go_at_call 12; refine hA.mono ?_; rintro r W9 ⟨rfl, hw9⟩; rw [hw9]; clear hw9) | (go_at_call 13; refine hC.mono ?_; rintro r W9 ⟨rfl, hw9⟩; rw [hw9]; clear hw9) | (go_at_call 14; refine hE.mono ?_; rintro r W3 ⟨rfl, hb⟩; have HP3 := hid (HP.out.later hb); have hR := pm_runs (HP3.out.M0 (by decide)) 0 z0; clear hE hb) | (go_at_call 16; refine hR.mono ?_; rintro r W4 ⟨v4, rfl, ho4, hb⟩; have HP4 := hid (HP3.out.later hb); have hS := pd_runs (HP4.out.D0 (by decide)) 0 z0 L1.out; clear hR hb) | (go_at_call 17; refine hS.mono ?_; rintro r W5 ⟨v5, rfl, ho5, hb⟩; have HP5 := hid (HP4.out.later hb); have hT := sameE_any (owns_same ho4 (fun g e => hb.block g (row_lt ho4 g e).1)) ho5 HLEN.out; clear hS hb ho4 ho5) | (go_at_call 15; refine hT.mono ?_; rintro r W6 ⟨rfl, hb⟩; have HP6 := hid (HP5.out.later hb); clear hT hb))
              go_wp2
              go_roundw
              case rel => exact ⟨1, .inr (.inl ⟨rfl, rfl⟩), _, _, _, _, _, HP6.out⟩
              case measure => simp [intOf]
            · obtain ⟨F, m0, m1, d0, d1, hP⟩ := HPk.out
              obtain ⟨bd, rfl, _, e1, _⟩ := (hP.D1 (by decide)).cells
              have HP := hid (hP.later (below_drew (Below.refl _ _)))
              have HY : Hid (∀ W F, Pr w W (H + 2) Z 4 F m0 m1 d0 (.pointer (some ⟨bd, 0, none⟩)) s' t' s' t' → W.cell? ⟨H + 2, 1, none⟩ = some m1 ∧ W.cell? ⟨H + 2, 3, none⟩ = some (.pointer (some ⟨bd, 0, none⟩)) ∧ W.cell? ⟨bd, 1, none⟩ = some (.int .i64 (sizeS t')) ∧ W.cell? ⟨H, 1, none⟩ = some (.int .i64 z1)) := fun W F h => ⟨h.p 1, h.p 3, (h.D1 (by decide)).size_cell, (HZz.out _ _ _ _ _ _ _ _ _ _ _ h).1.2⟩
              obtain ⟨y1, y2, y3, y4⟩ := HY.out _ _ hP
              have hA := pm_size (HP.out.M1 (by decide))
              have hC := pm_count (HP.out.M1 (by decide))
              have hE := pd_count (HP.out.D1 (by decide)) L2.out
              have HLEN := hid ((HP.out.M1 (by decide)).runsS_len 0 z1)
              clear hP HPk e1
              generalize sizeS t' = zs at *
              generalize countS t' = cs at *
              go_wp2
              go_region_held3 (fun w' => w'.cell? ⟨H + 2, 1, none⟩ = some m1 ∧ w'.cell? ⟨H + 2, 3, none⟩ = some (.pointer (some ⟨bd, 0, none⟩)) ∧ w'.cell? ⟨bd, 1, none⟩ = some (.int .i64 zs) ∧ w'.cell? ⟨H, 1, none⟩ = some (.int .i64 z1)) (first | exact ⟨y1, y2, y3, y4⟩ | exact HY.out _ _ HP3.out | exact HY.out _ _ HP4.out | exact HY.out _ _ HP5.out | exact HY.out _ _ HP6.out | go_keep) (first | (go_at_call 12; refine hA.mono ?_; rintro r W9 ⟨rfl, hw9⟩; rw [hw9]; clear hw9) | (go_at_call 13; refine hC.mono ?_; rintro r W9 ⟨rfl, hw9⟩; rw [hw9]; clear hw9) | (go_at_call 14; refine hE.mono ?_; rintro r W3 ⟨rfl, hb⟩; have HP3 := hid (HP.out.later hb); have hR := pm_runs (HP3.out.M1 (by decide)) 0 z1; clear hE hb) | (go_at_call 16; refine hR.mono ?_; rintro r W4 ⟨v4, rfl, ho4, hb⟩; have HP4 := hid (HP3.out.later hb); have hS := pd_runs (HP4.out.D1 (by decide)) 0 z1 L2.out; clear hR hb) | (go_at_call 17; refine hS.mono ?_; rintro r W5 ⟨v5, rfl, ho5, hb⟩; have HP5 := hid (HP4.out.later hb); have hT := sameE_any (owns_same ho4 (fun g e => hb.block g (row_lt ho4 g e).1)) ho5 HLEN.out; clear hS hb ho4 ho5) | (go_at_call 15; refine hT.mono ?_; rintro r W6 ⟨rfl, hb⟩; have HP6 := hid (HP5.out.later hb); clear hT hb))
              go_wp2
              go_roundw
              case rel => exact ⟨2, .inr (.inr ⟨rfl, rfl⟩), _, _, _, _, _, HP6.out⟩
              case measure => simp [intOf]
            · have HQ : Hid (∃ s t, Pl w wr (H + 2) Z s t ∧ lenS s ≤ i + 1 ∧ lenS t ≤ i + 1) := ⟨s', t', HPk.out, L3.out, L4.out⟩
              clear HPk
              go_wp2
              go_roundw
              case rel => exact ⟨i + 1, by omega, by go_num, HQ⟩
              case measure => simp [intOf]; omega
        · have e : i = n := by omega
          subst e
          have hbel : Below w.heap.size w wr := by obtain ⟨s, t, hP, _, _⟩ := HPi.out; obtain ⟨F, _, _, _, _, h⟩ := hP; exact h.bel
          have hkz : ¬ (i : Int) < (i : Int) := by omega
          have hAl := alive_any wr
          go_wp2_with (go_at_call 18; refine hAl.mono ?_; rintro r W9 ⟨rfl, hb9⟩; clear hAl)
          go_ret
          exact ⟨rfl, hbel.trans (hb9.mono hbel.size)⟩
end Go.Proofs.Ytijafckdbhklmaa.I
