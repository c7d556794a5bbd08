import Derived.Test.YtckfmpoddmccfaaJKy
import Derived.Test.YtckfmpoddmccfaaNZ
namespace Go.Proofs.Ytckfmpoddmccfaa
open Go.RowKit
set_option linter.unusedVariables false
set_option linter.unusedSimpArgs false
set_option maxRecDepth 100000
theorem Lb.putS {w W : World} {t : TypeId} {x y z z' : Array Value} {r : Nat} {n er : Int} (H : Lb w W (bx3 w t x y z) r n er) (j : Nat) (v : Value) (hz : z.setIfInBounds j v = z') : Lb w (W.setCell ⟨w.heap.size + 1 + 1, j, none⟩ v) (bx3 w t x y z') r n er := by
  have hs := H.box _ (.tail _ (.tail _ (.head _)))
  have h0 := H.box _ (.head _)
  have h1 := H.box _ (.tail _ (.head _))
  refine ⟨below_set H.bel hs.2.1, ?_, ?_, ?_⟩
  · intro e he
    simp only [List.mem_cons, List.not_mem_nil, or_false] at he
    rcases he with rfl | rfl | rfl
    · exact ⟨(Below.heap_setCell _ _ _ _ (by show w.heap.size ≠ w.heap.size + 1 + 1; omega)).trans h0.1, h0.2⟩
    · exact ⟨(Below.heap_setCell _ _ _ _ (by show w.heap.size + 1 ≠ w.heap.size + 1 + 1; omega)).trans h1.1, h1.2⟩
    · exact ⟨put_box hs.1 j v hz, hs.2⟩
  · rw [World.cell?_setCell_far _ _ _ _ (show w.heap.size + 1 + 1 ≠ r from hs.2.2)]; exact H.cn
  · rw [World.cell?_setCell_far _ _ _ _ (show w.heap.size + 1 + 1 ≠ r from hs.2.2)]; exact H.ce
theorem Lb.drewN {w W : World} {bs : List (Nat × Obj)} {r : Nat} {n er : Int} (H : Lb w W bs r n er) (q : Nat) : Lb w (W.drewN q) bs r n er :=
  ⟨H.bel.trans ⟨rfl, rfl, rfl, Nat.le_refl _, fun _ _ => rfl⟩, H.box, H.cn, H.ce⟩
set_option maxHeartbeats 4000000 in
theorem decExport0_short (ao : Option Addr) (cap n : Nat)  (w : World) (h : n < 10) :
    Calls Try.prog 75 #[.slice ao n cap, .bool false] w fun e w' => e = .returned (.tuple #[.agg #[.int .u64 0, .int .u16 0], .int .i64 10, .int .i64 10]) ∧ Below w.heap.size w w' := by
  obtain ⟨W0, hW0⟩ : ∃ W0, W0 = (((w.alloc (.cells #[.int .u64 0, .int .u16 0] 96)).alloc (.cells #[.int .u64 0, .int .u16 0] 96)).alloc (.cells #[.int .u64 0, .int .u16 0] 96)) := ⟨_, rfl⟩
  obtain ⟨W1, hW1⟩ : ∃ W1, W1 = W0.alloc (nhO 10) := ⟨_, rfl⟩
  have HO : Hid (Calls Try.prog 99 #[.slice ao n cap, .int .i64 10] W0 fun e W' => e = .returned (.pointer (some ⟨W0.heap.size, 0, none⟩)) ∧ W' = W1) := by rw [hW1]; exact open_short ao cap n 10 W0 h (by decide)
  have hN : Nh W1 W0.heap.size 10 := ⟨by rw [hW1]; exact heap_new W0 _⟩
  have HL : Hid (Lb w W1 (bx3 w 96 #[.int .u64 0, .int .u16 0] #[.int .u64 0, .int .u16 0] #[.int .u64 0, .int .u16 0]) W0.heap.size 10 10) := by rw [hW1, hW0]; exact lb_short (bx3_bel w _ _ _) (bx3_new w _ _ _ _) 10
  have HH : Hid (∀ W : World, Calls Try.prog 106 #[.bool false] W fun e W' => e = .returned (.int .i64 10) ∧ W' = W) := fun W => by
    go_enter Try.func106, Try.ntmps106
    go_wp2
    go_ret
    exact ⟨rfl, rfl⟩
  have HU0 : Hid (Calls Try.prog 102 #[.pointer (some ⟨W0.heap.size, 0, none⟩)] W1 fun e W' => e = .returned (.int .u64 0) ∧ W' = W1) := nh_u64 hN
  have HU1 : Hid (Calls Try.prog 103 #[.pointer (some ⟨W0.heap.size, 0, none⟩)] W1 fun e W' => e = .returned (.int .u16 0) ∧ W' = W1) := nh_u16 hN
  have HL2 : Hid (Lb w ((W1.setCell ⟨w.heap.size + 1 + 1, 0, none⟩ (.int .u64 0)).setCell ⟨w.heap.size + 1 + 1, 1, none⟩ (.int .u16 0)) (bx3 w 96 #[.int .u64 0, .int .u16 0] #[.int .u64 0, .int .u16 0] #[.int .u64 0, .int .u16 0]) W0.heap.size 10 10) := (HL.out.putS 0 (.int .u64 0) (z' := #[.int .u64 0, .int .u16 0]) rfl).putS 1 (.int .u16 0) rfl
  have hN2 : Nh ((W1.setCell ⟨w.heap.size + 1 + 1, 0, none⟩ (.int .u64 0)).setCell ⟨w.heap.size + 1 + 1, 1, none⟩ (.int .u16 0)) W0.heap.size 10 := ⟨by
    have hne : W0.heap.size ≠ w.heap.size + 1 + 1 := (HL.out.box _ (.tail _ (.tail _ (.head _)))).2.2.symm
    rw [Below.heap_setCell _ _ _ _ hne, Below.heap_setCell _ _ _ _ hne]; exact hN.blk⟩
  have HU2 : Hid (Calls Try.prog 107 #[.pointer (some ⟨W0.heap.size, 0, none⟩)] ((W1.setCell ⟨w.heap.size + 1 + 1, 0, none⟩ (.int .u64 0)).setCell ⟨w.heap.size + 1 + 1, 1, none⟩ (.int .u16 0)) fun e W' => e = .returned (.bool false) ∧ ∃ q, W' = ((W1.setCell ⟨w.heap.size + 1 + 1, 0, none⟩ (.int .u64 0)).setCell ⟨w.heap.size + 1 + 1, 1, none⟩ (.int .u16 0)).drewN q) := nh_zeros hN2
  obtain ⟨s0, t0⟩ := HL.out.b (.tail _ (.tail _ (.head _))) 0
  obtain ⟨s1, t1⟩ := HL.out.b (.tail _ (.tail _ (.head _))) 1
  simp at s0 s1
  clear hN2
  clear hN hW1
  generalize hr : W0.heap.size = r at *
  clear hr
  go_enter Try.func75, Try.ntmps75
  go_wp2
  refine wp_scope_jumps 0 (fun a W => ∃ (x0 x1 x2 x3 x5 x6 x8 x10 x11 x12 x13 x14 x15 x16 x17 x18 x19 x20 x21 x22 x23 x24 x25 x26 x27 x28 x29 x30 x31 x32 : Value) (r : Nat) (zz : Array Value), a = { tmps := #[x0, x1, x2, x3, .pointer (some ⟨w.heap.size, 0, none⟩), x5, x6, .pointer (some ⟨w.heap.size + 1, 0, none⟩), x8, .pointer (some ⟨r, 0, none⟩), x10, x11, x12, x13, x14, x15, x16, x17, x18, x19, x20, x21, x22, x23, x24, x25, x26, x27, x28, x29, x30, x31, x32], defers := [] } ∧ Hid (Lb w W (bx3 w 96 #[.int .u64 0, .int .u16 0] #[.int .u64 0, .int .u16 0] zz) r 10 10)) (fun _ _ => 0) rfl ?first ?pass
  case first =>
    go_wp2_with fail
    refine (HH.out _).mono ?_
    rintro e W9 ⟨rfl, hw⟩
    rw [hw]; clear hw HH
    go_wp2_with fail
    rw [← hW0]
    clear hW0
    refine HO.out.mono ?_
    rintro e W9 ⟨rfl, hw⟩
    rw [hw]; clear hw HO
    go_wp2_with fail
    refine HU0.out.mono ?_
    rintro e W9 ⟨rfl, hw⟩
    rw [hw]; clear hw HU0
    go_wp2_with fail
    refine HU1.out.mono ?_
    rintro e W9 ⟨rfl, hw⟩
    rw [hw]; clear hw HU1
    go_wp2_with fail
    refine HU2.out.mono ?_
    rintro e W9 ⟨rfl, q9, hw⟩
    rw [hw]; clear hw HU2 s0 t0 s1 t1
    have HL3 : Hid _ := HL2.out.drewN q9
    go_wp2
    go_step3
    exact ⟨rfl, _, _, _, _, _, _, _, _, _, _, _, _, _, _, _, _, _, _, _, _, _, _, _, _, _, _, _, _, _, _, _, _, rfl, HL3⟩
  case pass =>
    clear HL HL2 HO hW0 s0 t0 s1 t1 HU0 HU1 HU2 HH
    rintro a W ⟨x0, x1, x2, x3, x5, x6, x8, x10, x11, x12, x13, x14, x15, x16, x17, x18, x19, x20, x21, x22, x23, x24, x25, x26, x27, x28, x29, x30, x31, x32, r, zz, rfl, HL⟩
    have hn1 : ¬ (w.heap.size = r) := (HL.out.box _ (.head _)).2.2
    have hn2 : ¬ (r = w.heap.size) := fun e => hn1 e.symm
    have r3 := HL.out.cn
    have r4 := HL.out.ce
    obtain ⟨c00, f00⟩ := HL.out.b (.head _) 0
    obtain ⟨c10, f10⟩ := HL.out.b (.tail _ (.head _)) 0
    obtain ⟨c01, f01⟩ := HL.out.b (.head _) 1
    obtain ⟨c11, f11⟩ := HL.out.b (.tail _ (.head _)) 1
    simp at c00 c10 c01 c11
    go_wp2
    go_region
    all_goals
      go_wp2
      rw [jump_ret]
      obtain ⟨HG, HB2⟩ := closeb2 (HL.out.box _ (.head _)).1 HL.out.bel (.int .u64 0) (.int .u16 0)
      clear HL
      generalize ((W.setCell ⟨w.heap.size, 0, none⟩ (.int .u64 0)).setCell ⟨w.heap.size, 1, none⟩ (.int .u16 0)).drew = Wz at HG HB2 ⊢
      exact bodyPost_ret (results_cell_tmp2 rfl _ Wz w.heap.size 96 #[.int .u64 0, .int .u16 0] (0, 0) _ rfl HG Try.underlying96 rfl infoExp) rfl ⟨rfl, HB2⟩
set_option maxHeartbeats 4000000 in
theorem decExport1_short (ao : Option Addr) (cap n : Nat)  (w : World) (h : n < 134) :
    Calls Try.prog 75 #[.slice ao n cap, .bool true] w fun e w' => e = .returned (.tuple #[.agg #[.int .u64 0, .int .u16 0], .int .i64 134, .int .i64 10]) ∧ Below w.heap.size w w' := by
  obtain ⟨W0, hW0⟩ : ∃ W0, W0 = (((w.alloc (.cells #[.int .u64 0, .int .u16 0] 96)).alloc (.cells #[.int .u64 0, .int .u16 0] 96)).alloc (.cells #[.int .u64 0, .int .u16 0] 96)) := ⟨_, rfl⟩
  obtain ⟨W1, hW1⟩ : ∃ W1, W1 = W0.alloc (nhO 134) := ⟨_, rfl⟩
  have HO : Hid (Calls Try.prog 99 #[.slice ao n cap, .int .i64 134] W0 fun e W' => e = .returned (.pointer (some ⟨W0.heap.size, 0, none⟩)) ∧ W' = W1) := by rw [hW1]; exact open_short ao cap n 134 W0 h (by decide)
  have hN : Nh W1 W0.heap.size 134 := ⟨by rw [hW1]; exact heap_new W0 _⟩
  have HL : Hid (Lb w W1 (bx3 w 96 #[.int .u64 0, .int .u16 0] #[.int .u64 0, .int .u16 0] #[.int .u64 0, .int .u16 0]) W0.heap.size 134 10) := by rw [hW1, hW0]; exact lb_short (bx3_bel w _ _ _) (bx3_new w _ _ _ _) 134
  have HH : Hid (∀ W : World, Calls Try.prog 106 #[.bool true] W fun e W' => e = .returned (.int .i64 134) ∧ W' = W) := fun W => by
    go_enter Try.func106, Try.ntmps106
    go_wp2
    go_ret
    exact ⟨rfl, rfl⟩
  have HU0 : Hid (Calls Try.prog 102 #[.pointer (some ⟨W0.heap.size, 0, none⟩)] W1 fun e W' => e = .returned (.int .u64 0) ∧ W' = W1) := nh_u64 hN
  have HU1 : Hid (Calls Try.prog 103 #[.pointer (some ⟨W0.heap.size, 0, none⟩)] W1 fun e W' => e = .returned (.int .u16 0) ∧ W' = W1) := nh_u16 hN
  have HL2 : Hid (Lb w ((W1.setCell ⟨w.heap.size + 1 + 1, 0, none⟩ (.int .u64 0)).setCell ⟨w.heap.size + 1 + 1, 1, none⟩ (.int .u16 0)) (bx3 w 96 #[.int .u64 0, .int .u16 0] #[.int .u64 0, .int .u16 0] #[.int .u64 0, .int .u16 0]) W0.heap.size 134 10) := (HL.out.putS 0 (.int .u64 0) (z' := #[.int .u64 0, .int .u16 0]) rfl).putS 1 (.int .u16 0) rfl
  have hN2 : Nh ((W1.setCell ⟨w.heap.size + 1 + 1, 0, none⟩ (.int .u64 0)).setCell ⟨w.heap.size + 1 + 1, 1, none⟩ (.int .u16 0)) W0.heap.size 134 := ⟨by
    have hne : W0.heap.size ≠ w.heap.size + 1 + 1 := (HL.out.box _ (.tail _ (.tail _ (.head _)))).2.2.symm
    rw [Below.heap_setCell _ _ _ _ hne, Below.heap_setCell _ _ _ _ hne]; exact hN.blk⟩
  have HU2 : Hid (Calls Try.prog 107 #[.pointer (some ⟨W0.heap.size, 0, none⟩)] ((W1.setCell ⟨w.heap.size + 1 + 1, 0, none⟩ (.int .u64 0)).setCell ⟨w.heap.size + 1 + 1, 1, none⟩ (.int .u16 0)) fun e W' => e = .returned (.bool false) ∧ ∃ q, W' = ((W1.setCell ⟨w.heap.size + 1 + 1, 0, none⟩ (.int .u64 0)).setCell ⟨w.heap.size + 1 + 1, 1, none⟩ (.int .u16 0)).drewN q) := nh_zeros hN2
  obtain ⟨s0, t0⟩ := HL.out.b (.tail _ (.tail _ (.head _))) 0
  obtain ⟨s1, t1⟩ := HL.out.b (.tail _ (.tail _ (.head _))) 1
  simp at s0 s1
  clear hN2
  clear hN hW1
  generalize hr : W0.heap.size = r at *
  clear hr
  go_enter Try.func75, Try.ntmps75
  go_wp2
  refine wp_scope_jumps 0 (fun a W => ∃ (x0 x1 x2 x3 x5 x6 x8 x10 x11 x12 x13 x14 x15 x16 x17 x18 x19 x20 x21 x22 x23 x24 x25 x26 x27 x28 x29 x30 x31 x32 : Value) (r : Nat) (zz : Array Value), a = { tmps := #[x0, x1, x2, x3, .pointer (some ⟨w.heap.size, 0, none⟩), x5, x6, .pointer (some ⟨w.heap.size + 1, 0, none⟩), x8, .pointer (some ⟨r, 0, none⟩), x10, x11, x12, x13, x14, x15, x16, x17, x18, x19, x20, x21, x22, x23, x24, x25, x26, x27, x28, x29, x30, x31, x32], defers := [] } ∧ Hid (Lb w W (bx3 w 96 #[.int .u64 0, .int .u16 0] #[.int .u64 0, .int .u16 0] zz) r 134 10)) (fun _ _ => 0) rfl ?first ?pass
  case first =>
    go_wp2_with fail
    refine (HH.out _).mono ?_
    rintro e W9 ⟨rfl, hw⟩
    rw [hw]; clear hw HH
    go_wp2_with fail
    rw [← hW0]
    clear hW0
    refine HO.out.mono ?_
    rintro e W9 ⟨rfl, hw⟩
    rw [hw]; clear hw HO
    go_wp2_with fail
    refine HU0.out.mono ?_
    rintro e W9 ⟨rfl, hw⟩
    rw [hw]; clear hw HU0
    go_wp2_with fail
    refine HU1.out.mono ?_
    rintro e W9 ⟨rfl, hw⟩
    rw [hw]; clear hw HU1
    go_wp2_with fail
    refine HU2.out.mono ?_
    rintro e W9 ⟨rfl, q9, hw⟩
    rw [hw]; clear hw HU2 s0 t0 s1 t1
    have HL3 : Hid _ := HL2.out.drewN q9
    go_wp2
    go_step3
    exact ⟨rfl, _, _, _, _, _, _, _, _, _, _, _, _, _, _, _, _, _, _, _, _, _, _, _, _, _, _, _, _, _, _, _, _, rfl, HL3⟩
  case pass =>
    clear HL HL2 HO hW0 s0 t0 s1 t1 HU0 HU1 HU2 HH
    rintro a W ⟨x0, x1, x2, x3, x5, x6, x8, x10, x11, x12, x13, x14, x15, x16, x17, x18, x19, x20, x21, x22, x23, x24, x25, x26, x27, x28, x29, x30, x31, x32, r, zz, rfl, HL⟩
    have hn1 : ¬ (w.heap.size = r) := (HL.out.box _ (.head _)).2.2
    have hn2 : ¬ (r = w.heap.size) := fun e => hn1 e.symm
    have r3 := HL.out.cn
    have r4 := HL.out.ce
    obtain ⟨c00, f00⟩ := HL.out.b (.head _) 0
    obtain ⟨c10, f10⟩ := HL.out.b (.tail _ (.head _)) 0
    obtain ⟨c01, f01⟩ := HL.out.b (.head _) 1
    obtain ⟨c11, f11⟩ := HL.out.b (.tail _ (.head _)) 1
    simp at c00 c10 c01 c11
    go_wp2
    go_region
    all_goals
      go_wp2
      rw [jump_ret]
      obtain ⟨HG, HB2⟩ := closeb2 (HL.out.box _ (.head _)).1 HL.out.bel (.int .u64 0) (.int .u16 0)
      clear HL
      generalize ((W.setCell ⟨w.heap.size, 0, none⟩ (.int .u64 0)).setCell ⟨w.heap.size, 1, none⟩ (.int .u16 0)).drew = Wz at HG HB2 ⊢
      exact bodyPost_ret (results_cell_tmp2 rfl _ Wz w.heap.size 96 #[.int .u64 0, .int .u16 0] (0, 0) _ rfl HG Try.underlying96 rfl infoExp) rfl ⟨rfl, HB2⟩
end Go.Proofs.Ytckfmpoddmccfaa
