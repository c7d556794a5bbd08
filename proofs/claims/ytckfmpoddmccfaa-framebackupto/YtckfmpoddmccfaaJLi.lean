import Derived.Test.YtckfmpoddmccfaaJKy
namespace Go.Proofs.Ytckfmpoddmccfaa
open Go.RowKit
set_option linter.unusedVariables false
set_option linter.unusedSimpArgs false
set_option maxRecDepth 100000
set_option maxHeartbeats 4000000 in
theorem decGreeting_short (ao : Option Addr) (cap n : Nat)  (w : World) (h : n < 18) :
    Calls Try.prog 68 #[.slice ao n cap] w fun e w' => e = .returned (.tuple #[.agg #[.int .u16 0], .int .i64 18, .int .i64 10]) ∧ Below w.heap.size w w' := by
  obtain ⟨W0, hW0⟩ : ∃ W0, W0 = ((w.alloc (.cells #[.int .u16 0] 88)).alloc (.cells #[.int .u16 0] 88)) := ⟨_, rfl⟩
  obtain ⟨W1, hW1⟩ : ∃ W1, W1 = W0.alloc (nhO 18) := ⟨_, rfl⟩
  have HO : Hid (Calls Try.prog 99 #[.slice ao n cap, .int .i64 18] W0 fun e W' => e = .returned (.pointer (some ⟨W0.heap.size, 0, none⟩)) ∧ W' = W1) := by rw [hW1]; exact open_short ao cap n 18 W0 h (by decide)
  have hN : Nh W1 W0.heap.size 18 := ⟨by rw [hW1]; exact heap_new W0 _⟩
  have HL : Hid (Lb w W1 (bx2 w 88 #[.int .u16 0] #[.int .u16 0]) W0.heap.size 18 10) := by rw [hW1, hW0]; exact lb_short (bx2_bel w _ _) (bx2_new w _ _ _) 18
  have HU0 : Hid (Calls Try.prog 102 #[.pointer (some ⟨W0.heap.size, 0, none⟩)] W1 fun e W' => e = .returned (.int .u64 0) ∧ W' = W1) := nh_u64 hN
  have HU1 : Hid (∀ x m : Int, Calls Try.prog 101 #[.pointer (some ⟨W0.heap.size, 0, none⟩), .int .u64 x, .int .u64 m] W1 fun e W' => e = .returned (.bool false) ∧ W' = W1) := nh_magic hN
  clear hN hW1
  generalize hr : W0.heap.size = r at *
  clear hr
  go_enter Try.func68, Try.ntmps68
  go_wp2
  refine wp_scope_jumps 0 (fun a W => ∃ (x0 x1 x3 x4 x7 x8 x9 x10 x11 x12 x13 x14 x15 x16 x17 x18 x19 x20 x21 x22 x23 x24 x25 x26 x27 x28 x29 x30 x31 x32 : Value) (r : Nat) (zz : Array Value), a = { tmps := #[x0, x1, .pointer (some ⟨w.heap.size, 0, none⟩), x3, x4, .pointer (some ⟨w.heap.size + 1, 0, none⟩), .pointer (some ⟨r, 0, none⟩), x7, x8, x9, x10, x11, x12, x13, x14, x15, x16, x17, x18, x19, x20, x21, x22, x23, x24, x25, x26, x27, x28, x29, x30, x31, x32], defers := [] } ∧ Hid (Lb w W (bx2 w 88 #[.int .u16 0] #[.int .u16 0]) r 18 10)) (fun _ _ => 0) rfl ?first ?pass
  case first =>
    go_wp2_with fail
    rw [← hW0]
    clear hW0
    refine HO.out.mono ?_
    rintro e W9 ⟨rfl, hw⟩
    rw [hw]; clear hw HO
    go_wp2_with fail
    refine HU0.out.mono ?_
    rintro e W9 ⟨rfl, hw⟩
    rw [hw]; clear hw HU0
    go_wp2_with fail
    refine (HU1.out _ _).mono ?_
    rintro e W9 ⟨rfl, hw⟩
    rw [hw]; clear hw HU1
    go_wp2
    go_step3
    exact ⟨rfl, _, _, _, _, _, _, _, _, _, _, _, _, _, _, _, _, _, _, _, _, _, _, _, _, _, _, _, _, _, _, _, #[], rfl, HL⟩
  case pass =>
    clear HL HO hW0 HU0 HU1
    rintro a W ⟨x0, x1, x3, x4, x7, x8, x9, x10, x11, x12, x13, x14, x15, x16, x17, x18, x19, x20, x21, x22, x23, x24, x25, x26, x27, x28, x29, x30, x31, x32, r, zz, rfl, HL⟩
    have hn1 : ¬ (w.heap.size = r) := (HL.out.box _ (.head _)).2.2
    have hn2 : ¬ (r = w.heap.size) := fun e => hn1 e.symm
    have r3 := HL.out.cn
    have r4 := HL.out.ce
    obtain ⟨c00, f00⟩ := HL.out.b (.head _) 0
    obtain ⟨c10, f10⟩ := HL.out.b (.tail _ (.head _)) 0
    simp at c00 c10
    go_wp2
    go_region
    all_goals
      go_wp2
      rw [jump_ret]
      obtain ⟨HG, HB2⟩ := closeb1 (HL.out.box _ (.head _)).1 HL.out.bel (.int .u16 0)
      clear HL
      generalize (W.setCell ⟨w.heap.size, 0, none⟩ (.int .u16 0)).drew = Wz at HG HB2 ⊢
      exact bodyPost_ret (results_cell_tmp2 rfl _ Wz w.heap.size 88 #[.int .u16 0] (0, 0) _ rfl HG Try.underlying88 rfl infoGre) rfl ⟨rfl, HB2⟩
set_option maxHeartbeats 4000000 in
theorem decSimple_short (ao : Option Addr) (cap n : Nat)  (w : World) (h : n < 16) :
    Calls Try.prog 113 #[.slice ao n cap] w fun e w' => e = .returned (.tuple #[.agg #[.int .u32 0, .int .u64 0], .int .i64 16, .int .i64 10]) ∧ Below w.heap.size w w' := by
  obtain ⟨W0, hW0⟩ : ∃ W0, W0 = ((w.alloc (.cells #[.int .u32 0, .int .u64 0] 66)).alloc (.cells #[.int .u32 0, .int .u64 0] 66)) := ⟨_, rfl⟩
  obtain ⟨W1, hW1⟩ : ∃ W1, W1 = W0.alloc (nhO 16) := ⟨_, rfl⟩
  have HO : Hid (Calls Try.prog 99 #[.slice ao n cap, .int .i64 16] W0 fun e W' => e = .returned (.pointer (some ⟨W0.heap.size, 0, none⟩)) ∧ W' = W1) := by rw [hW1]; exact open_short ao cap n 16 W0 h (by decide)
  have hN : Nh W1 W0.heap.size 16 := ⟨by rw [hW1]; exact heap_new W0 _⟩
  have HL : Hid (Lb w W1 (bx2 w 66 #[.int .u32 0, .int .u64 0] #[.int .u32 0, .int .u64 0]) W0.heap.size 16 10) := by rw [hW1, hW0]; exact lb_short (bx2_bel w _ _) (bx2_new w _ _ _) 16
  have HU0 : Hid (Calls Try.prog 108 #[.pointer (some ⟨W0.heap.size, 0, none⟩), .int .u32 (mSimple : Nat)] W1 fun e W' => e = .returned (.bool false) ∧ W' = W1) := nh_magic32 hN mSimple (by decide)
  clear hN hW1
  generalize hr : W0.heap.size = r at *
  clear hr
  go_enter Try.func113, Try.ntmps113
  go_wp2
  refine wp_scope_jumps 0 (fun a W => ∃ (x0 x1 x3 x4 x7 x8 x9 x10 x11 x12 x13 x14 x15 x16 x17 x18 x19 x20 x21 x22 x23 x24 x25 x26 : Value) (r : Nat) (zz : Array Value), a = { tmps := #[x0, x1, .pointer (some ⟨w.heap.size, 0, none⟩), x3, x4, .pointer (some ⟨w.heap.size + 1, 0, none⟩), .pointer (some ⟨r, 0, none⟩), x7, x8, x9, x10, x11, x12, x13, x14, x15, x16, x17, x18, x19, x20, x21, x22, x23, x24, x25, x26], defers := [] } ∧ Hid (Lb w W (bx2 w 66 #[.int .u32 0, .int .u64 0] #[.int .u32 0, .int .u64 0]) r 16 10)) (fun _ _ => 0) rfl ?first ?pass
  case first =>
    go_wp2_with fail
    rw [← hW0]
    clear hW0
    refine HO.out.mono ?_
    rintro e W9 ⟨rfl, hw⟩
    rw [hw]; clear hw HO
    go_wp2_with fail
    refine HU0.out.mono ?_
    rintro e W9 ⟨rfl, hw⟩
    rw [hw]; clear hw HU0
    go_wp2
    go_step3
    exact ⟨rfl, _, _, _, _, _, _, _, _, _, _, _, _, _, _, _, _, _, _, _, _, _, _, _, _, _, #[], rfl, HL⟩
  case pass =>
    clear HL HO hW0 HU0
    rintro a W ⟨x0, x1, x3, x4, x7, x8, x9, x10, x11, x12, x13, x14, x15, x16, x17, x18, x19, x20, x21, x22, x23, x24, x25, x26, r, zz, rfl, HL⟩
    have hn1 : ¬ (w.heap.size = r) := (HL.out.box _ (.head _)).2.2
    have hn2 : ¬ (r = w.heap.size) := fun e => hn1 e.symm
    have r3 := HL.out.cn
    have r4 := HL.out.ce
    obtain ⟨c00, f00⟩ := HL.out.b (.head _) 0
    obtain ⟨c10, f10⟩ := HL.out.b (.tail _ (.head _)) 0
    obtain ⟨c01, f01⟩ := HL.out.b (.head _) 1
    obtain ⟨c11, f11⟩ := HL.out.b (.tail _ (.head _)) 1
    simp at c00 c10 c01 c11
    go_wp2
    go_region
    all_goals
      go_wp2
      rw [jump_ret]
      obtain ⟨HG, HB2⟩ := closeb2 (HL.out.box _ (.head _)).1 HL.out.bel (.int .u32 0) (.int .u64 0)
      clear HL
      generalize ((W.setCell ⟨w.heap.size, 0, none⟩ (.int .u32 0)).setCell ⟨w.heap.size, 1, none⟩ (.int .u64 0)).drew = Wz at HG HB2 ⊢
      exact bodyPost_ret (results_cell_tmp2 rfl _ Wz w.heap.size 66 #[.int .u32 0, .int .u64 0] (0, 0) _ rfl HG Try.underlying66 rfl infoSim) rfl ⟨rfl, HB2⟩
set_option maxHeartbeats 4000000 in
theorem decChunk0_short (ao : Option Addr) (cap n : Nat) (most : Nat) (w : World) (h : n < 20) :
    Calls Try.prog 112 #[.slice ao n cap, .int .u32 (most : Int), .bool false] w fun e w' => e = .returned (.tuple #[.agg #[.int .u16 0, .int .u16 0, .int .u64 0, .int .u64 0, nilV], .int .i64 20, .int .i64 10]) ∧ Below w.heap.size w w' := by
  obtain ⟨W0, hW0⟩ : ∃ W0, W0 = (((w.alloc (.cells #[.int .u16 0, .int .u16 0, .int .u64 0, .int .u64 0, nilV] 64)).alloc (.cells #[.int .u16 0, .int .u16 0, .int .u64 0, .int .u64 0, nilV] 64)).alloc (.cells #[.int .u16 0, .int .u16 0, .int .u64 0, .int .u64 0, nilV] 64)) := ⟨_, rfl⟩
  obtain ⟨W1, hW1⟩ : ∃ W1, W1 = W0.alloc (nhO 20) := ⟨_, rfl⟩
  have HO : Hid (Calls Try.prog 99 #[.slice ao n cap, .int .i64 20] W0 fun e W' => e = .returned (.pointer (some ⟨W0.heap.size, 0, none⟩)) ∧ W' = W1) := by rw [hW1]; exact open_short ao cap n 20 W0 h (by decide)
  have hN : Nh W1 W0.heap.size 20 := ⟨by rw [hW1]; exact heap_new W0 _⟩
  have HL : Hid (Lb w W1 (bx3 w 64 #[.int .u16 0, .int .u16 0, .int .u64 0, .int .u64 0, nilV] #[.int .u16 0, .int .u16 0, .int .u64 0, .int .u64 0, nilV] #[.int .u16 0, .int .u16 0, .int .u64 0, .int .u64 0, nilV]) W0.heap.size 20 10) := by rw [hW1, hW0]; exact lb_short (bx3_bel w _ _ _) (bx3_new w _ _ _ _) 20
  have HH : Hid (∀ W : World, Calls Try.prog 94 #[.bool false] W fun e W' => e = .returned (.tuple #[.int .u32 (mChunk : Nat), .int .i64 20]) ∧ W' = W) := fun W => by
    go_enter Try.func94, Try.ntmps94
    go_wp2
    go_ret2
    exact ⟨rfl, rfl⟩
  have HU0 : Hid (Calls Try.prog 108 #[.pointer (some ⟨W0.heap.size, 0, none⟩), .int .u32 (mChunk : Nat)] W1 fun e W' => e = .returned (.bool false) ∧ W' = W1) := nh_magic32 hN mChunk (by decide)
  clear hN hW1
  generalize hr : W0.heap.size = r at *
  clear hr
  go_enter Try.func112, Try.ntmps112
  go_wp2
  refine wp_scope_jumps 0 (fun a W => ∃ (x0 x1 x2 x3 x4 x5 x7 x8 x10 x11 x12 x14 x15 x16 x17 x18 x19 x20 x21 x22 x23 x24 x25 x26 x27 x28 x29 x30 x31 x32 x33 x34 x35 x36 x37 x38 x39 x40 x41 x42 x43 x44 x45 x46 x47 x48 x49 x50 x51 x52 x53 x54 x55 x56 x57 x58 : Value) (r : Nat) (zz : Array Value), a = { tmps := #[x0, x1, x2, x3, x4, x5, .pointer (some ⟨w.heap.size, 0, none⟩), x7, x8, .pointer (some ⟨w.heap.size + 1, 0, none⟩), x10, x11, x12, .pointer (some ⟨r, 0, none⟩), x14, x15, x16, x17, x18, x19, x20, x21, x22, x23, x24, x25, x26, x27, x28, x29, x30, x31, x32, x33, x34, x35, x36, x37, x38, x39, x40, x41, x42, x43, x44, x45, x46, x47, x48, x49, x50, x51, x52, x53, x54, x55, x56, x57, x58], defers := [] } ∧ Hid (Lb w W (bx3 w 64 #[.int .u16 0, .int .u16 0, .int .u64 0, .int .u64 0, nilV] #[.int .u16 0, .int .u16 0, .int .u64 0, .int .u64 0, nilV] zz) r 20 10)) (fun _ _ => 0) rfl ?first ?pass
  case first =>
    go_wp2_with fail
    refine (HH.out _).mono ?_
    rintro e W9 ⟨rfl, hw⟩
    rw [hw]; clear hw HH
    go_wp2_with fail
    rw [← hW0]
    clear hW0
    refine HO.out.mono ?_
    rintro e W9 ⟨rfl, hw⟩
    rw [hw]; clear hw HO
    go_wp2_with fail
    refine HU0.out.mono ?_
    rintro e W9 ⟨rfl, hw⟩
    rw [hw]; clear hw HU0
    go_wp2
    go_step3
    exact ⟨rfl, _, _, _, _, _, _, _, _, _, _, _, _, _, _, _, _, _, _, _, _, _, _, _, _, _, _, _, _, _, _, _, _, _, _, _, _, _, _, _, _, _, _, _, _, _, _, _, _, _, _, _, _, _, _, _, _, _, _, rfl, HL⟩
  case pass =>
    clear HL HO hW0 HU0 HH
    rintro a W ⟨x0, x1, x2, x3, x4, x5, x7, x8, x10, x11, x12, x14, x15, x16, x17, x18, x19, x20, x21, x22, x23, x24, x25, x26, x27, x28, x29, x30, x31, x32, x33, x34, x35, x36, x37, x38, x39, x40, x41, x42, x43, x44, x45, x46, x47, x48, x49, x50, x51, x52, x53, x54, x55, x56, x57, x58, r, zz, rfl, HL⟩
    have hn1 : ¬ (w.heap.size = r) := (HL.out.box _ (.head _)).2.2
    have hn2 : ¬ (r = w.heap.size) := fun e => hn1 e.symm
    have r3 := HL.out.cn
    have r4 := HL.out.ce
    obtain ⟨c00, f00⟩ := HL.out.b (.head _) 0
    obtain ⟨c10, f10⟩ := HL.out.b (.tail _ (.head _)) 0
    obtain ⟨c01, f01⟩ := HL.out.b (.head _) 1
    obtain ⟨c11, f11⟩ := HL.out.b (.tail _ (.head _)) 1
    obtain ⟨c02, f02⟩ := HL.out.b (.head _) 2
    obtain ⟨c12, f12⟩ := HL.out.b (.tail _ (.head _)) 2
    obtain ⟨c03, f03⟩ := HL.out.b (.head _) 3
    obtain ⟨c13, f13⟩ := HL.out.b (.tail _ (.head _)) 3
    obtain ⟨c04, f04⟩ := HL.out.b (.head _) 4
    obtain ⟨c14, f14⟩ := HL.out.b (.tail _ (.head _)) 4
    simp at c00 c10 c01 c11 c02 c12 c03 c13 c04 c14
    go_wp2
    go_region
    all_goals
      go_wp2
      rw [jump_ret]
      obtain ⟨HG, HB2⟩ := closeb5 (HL.out.box _ (.head _)).1 HL.out.bel (.int .u16 0) (.int .u16 0) (.int .u64 0) (.int .u64 0) (nilV)
      clear HL
      generalize (((((W.setCell ⟨w.heap.size, 0, none⟩ (.int .u16 0)).setCell ⟨w.heap.size, 1, none⟩ (.int .u16 0)).setCell ⟨w.heap.size, 2, none⟩ (.int .u64 0)).setCell ⟨w.heap.size, 3, none⟩ (.int .u64 0)).setCell ⟨w.heap.size, 4, none⟩ (nilV)).drew = Wz at HG HB2 ⊢
      exact bodyPost_ret (results_cell_tmp2 rfl _ Wz w.heap.size 64 #[.int .u16 0, .int .u16 0, .int .u64 0, .int .u64 0, nilV] (0, 0) _ rfl HG Try.underlying64 rfl infoChk) rfl ⟨rfl, HB2⟩
set_option maxHeartbeats 4000000 in
theorem decChunk1_short (ao : Option Addr) (cap n : Nat) (most : Nat) (w : World) (h : n < 32) :
    Calls Try.prog 112 #[.slice ao n cap, .int .u32 (most : Int), .bool true] w fun e w' => e = .returned (.tuple #[.agg #[.int .u16 0, .int .u16 0, .int .u64 0, .int .u64 0, nilV], .int .i64 32, .int .i64 10]) ∧ Below w.heap.size w w' := by
  obtain ⟨W0, hW0⟩ : ∃ W0, W0 = (((w.alloc (.cells #[.int .u16 0, .int .u16 0, .int .u64 0, .int .u64 0, nilV] 64)).alloc (.cells #[.int .u16 0, .int .u16 0, .int .u64 0, .int .u64 0, nilV] 64)).alloc (.cells #[.int .u16 0, .int .u16 0, .int .u64 0, .int .u64 0, nilV] 64)) := ⟨_, rfl⟩
  obtain ⟨W1, hW1⟩ : ∃ W1, W1 = W0.alloc (nhO 32) := ⟨_, rfl⟩
  have HO : Hid (Calls Try.prog 99 #[.slice ao n cap, .int .i64 32] W0 fun e W' => e = .returned (.pointer (some ⟨W0.heap.size, 0, none⟩)) ∧ W' = W1) := by rw [hW1]; exact open_short ao cap n 32 W0 h (by decide)
  have hN : Nh W1 W0.heap.size 32 := ⟨by rw [hW1]; exact heap_new W0 _⟩
  have HL : Hid (Lb w W1 (bx3 w 64 #[.int .u16 0, .int .u16 0, .int .u64 0, .int .u64 0, nilV] #[.int .u16 0, .int .u16 0, .int .u64 0, .int .u64 0, nilV] #[.int .u16 0, .int .u16 0, .int .u64 0, .int .u64 0, nilV]) W0.heap.size 32 10) := by rw [hW1, hW0]; exact lb_short (bx3_bel w _ _ _) (bx3_new w _ _ _ _) 32
  have HH : Hid (∀ W : World, Calls Try.prog 94 #[.bool true] W fun e W' => e = .returned (.tuple #[.int .u32 (mChunk64 : Nat), .int .i64 32]) ∧ W' = W) := fun W => by
    go_enter Try.func94, Try.ntmps94
    go_wp2
    go_ret2
    exact ⟨rfl, rfl⟩
  have HU0 : Hid (Calls Try.prog 108 #[.pointer (some ⟨W0.heap.size, 0, none⟩), .int .u32 (mChunk64 : Nat)] W1 fun e W' => e = .returned (.bool false) ∧ W' = W1) := nh_magic32 hN mChunk64 (by decide)
  clear hN hW1
  generalize hr : W0.heap.size = r at *
  clear hr
  go_enter Try.func112, Try.ntmps112
  go_wp2
  refine wp_scope_jumps 0 (fun a W => ∃ (x0 x1 x2 x3 x4 x5 x7 x8 x10 x11 x12 x14 x15 x16 x17 x18 x19 x20 x21 x22 x23 x24 x25 x26 x27 x28 x29 x30 x31 x32 x33 x34 x35 x36 x37 x38 x39 x40 x41 x42 x43 x44 x45 x46 x47 x48 x49 x50 x51 x52 x53 x54 x55 x56 x57 x58 : Value) (r : Nat) (zz : Array Value), a = { tmps := #[x0, x1, x2, x3, x4, x5, .pointer (some ⟨w.heap.size, 0, none⟩), x7, x8, .pointer (some ⟨w.heap.size + 1, 0, none⟩), x10, x11, x12, .pointer (some ⟨r, 0, none⟩), x14, x15, x16, x17, x18, x19, x20, x21, x22, x23, x24, x25, x26, x27, x28, x29, x30, x31, x32, x33, x34, x35, x36, x37, x38, x39, x40, x41, x42, x43, x44, x45, x46, x47, x48, x49, x50, x51, x52, x53, x54, x55, x56, x57, x58], defers := [] } ∧ Hid (Lb w W (bx3 w 64 #[.int .u16 0, .int .u16 0, .int .u64 0, .int .u64 0, nilV] #[.int .u16 0, .int .u16 0, .int .u64 0, .int .u64 0, nilV] zz) r 32 10)) (fun _ _ => 0) rfl ?first ?pass
  case first =>
    go_wp2_with fail
    refine (HH.out _).mono ?_
    rintro e W9 ⟨rfl, hw⟩
    rw [hw]; clear hw HH
    go_wp2_with fail
    rw [← hW0]
    clear hW0
    refine HO.out.mono ?_
    rintro e W9 ⟨rfl, hw⟩
    rw [hw]; clear hw HO
    go_wp2_with fail
    refine HU0.out.mono ?_
    rintro e W9 ⟨rfl, hw⟩
    rw [hw]; clear hw HU0
    go_wp2
    go_step3
    exact ⟨rfl, _, _, _, _, _, _, _, _, _, _, _, _, _, _, _, _, _, _, _, _, _, _, _, _, _, _, _, _, _, _, _, _, _, _, _, _, _, _, _, _, _, _, _, _, _, _, _, _, _, _, _, _, _, _, _, _, _, _, rfl, HL⟩
  case pass =>
    clear HL HO hW0 HU0 HH
    rintro a W ⟨x0, x1, x2, x3, x4, x5, x7, x8, x10, x11, x12, x14, x15, x16, x17, x18, x19, x20, x21, x22, x23, x24, x25, x26, x27, x28, x29, x30, x31, x32, x33, x34, x35, x36, x37, x38, x39, x40, x41, x42, x43, x44, x45, x46, x47, x48, x49, x50, x51, x52, x53, x54, x55, x56, x57, x58, r, zz, rfl, HL⟩
    have hn1 : ¬ (w.heap.size = r) := (HL.out.box _ (.head _)).2.2
    have hn2 : ¬ (r = w.heap.size) := fun e => hn1 e.symm
    have r3 := HL.out.cn
    have r4 := HL.out.ce
    obtain ⟨c00, f00⟩ := HL.out.b (.head _) 0
    obtain ⟨c10, f10⟩ := HL.out.b (.tail _ (.head _)) 0
    obtain ⟨c01, f01⟩ := HL.out.b (.head _) 1
    obtain ⟨c11, f11⟩ := HL.out.b (.tail _ (.head _)) 1
    obtain ⟨c02, f02⟩ := HL.out.b (.head _) 2
    obtain ⟨c12, f12⟩ := HL.out.b (.tail _ (.head _)) 2
    obtain ⟨c03, f03⟩ := HL.out.b (.head _) 3
    obtain ⟨c13, f13⟩ := HL.out.b (.tail _ (.head _)) 3
    obtain ⟨c04, f04⟩ := HL.out.b (.head _) 4
    obtain ⟨c14, f14⟩ := HL.out.b (.tail _ (.head _)) 4
    simp at c00 c10 c01 c11 c02 c12 c03 c13 c04 c14
    go_wp2
    go_region
    all_goals
      go_wp2
      rw [jump_ret]
      obtain ⟨HG, HB2⟩ := closeb5 (HL.out.box _ (.head _)).1 HL.out.bel (.int .u16 0) (.int .u16 0) (.int .u64 0) (.int .u64 0) (nilV)
      clear HL
      generalize (((((W.setCell ⟨w.heap.size, 0, none⟩ (.int .u16 0)).setCell ⟨w.heap.size, 1, none⟩ (.int .u16 0)).setCell ⟨w.heap.size, 2, none⟩ (.int .u64 0)).setCell ⟨w.heap.size, 3, none⟩ (.int .u64 0)).setCell ⟨w.heap.size, 4, none⟩ (nilV)).drew = Wz at HG HB2 ⊢
      exact bodyPost_ret (results_cell_tmp2 rfl _ Wz w.heap.size 64 #[.int .u16 0, .int .u16 0, .int .u64 0, .int .u64 0, nilV] (0, 0) _ rfl HG Try.underlying64 rfl infoChk) rfl ⟨rfl, HB2⟩
set_option maxHeartbeats 8000000 in
theorem decGreeting_magic1 (b off cap n : Nat) (l : List Nat) (x0 : Nat) (w : World) (h : CRow w (some ⟨b, off, none⟩) cap l) (HN : Hid (l.length = n)) (hs : 18 ≤ n) (HX : Hid (valB ((l.drop 0).take 8) = x0)) (hx0 : x0 ≠ mInit) :
    Calls Try.prog 68 #[.slice (some ⟨b, off, none⟩) n cap] w fun e w' => e = .returned (.tuple #[.agg #[.int .u16 0], .int .i64 0, .int .i64 80]) ∧ Below w.heap.size w w' := by
  have hnl := h.row.len
  rw [HN.out] at hnl
  have hsl : 18 ≤ l.length := by rw [HN.out]; exact hs
  have HC : Hid (CRow w (some ⟨b, off, none⟩) cap l) := h
  obtain ⟨W0, hW0⟩ : ∃ W0, W0 = ((w.alloc (.cells #[.int .u16 0] 88)).alloc (.cells #[.int .u16 0] 88)) := ⟨_, rfl⟩
  have HO : Hid (Calls Try.prog 99 #[.slice (some ⟨b, off, none⟩) n cap, .int .i64 18] W0 fun e W' => ∃ r hh ao' cap' a2 c2, e = .returned (.pointer (some ⟨r, 0, none⟩)) ∧ Dec w W' (bx2 w 88 #[.int .u16 0] #[.int .u16 0]) W0.heap.size r hh ao' cap' (l.take 18) 0 (.slice (some a2) (n - 18) c2) 0 18 0 ∧ n - 18 ≤ c2 ∧ c2 ≤ 9223372036854775807 ∧ (n - 18 ≠ 0 → a2 = ⟨b, off + 18, none⟩)) := by
    rw [hW0]; exact open_ok b off cap n 18 l (bx2_bel w _ _) (bx2_new w _ _ _) (bx2_nd w _ _ _) (h.later (bx2_bel w _ _)) HN hs (by decide) (by decide)
  clear h
  go_enter Try.func68, Try.ntmps68
  go_wp2
  refine wp_scope_jumps 0 (fun a W => ∃ (x0 x1 x3 x4 x7 x8 x9 x10 x11 x12 x13 x14 x15 x16 x17 x18 x19 x20 x21 x22 x23 x24 x25 x26 x27 x28 x29 x30 x31 x32 : Value) (r : Nat) (zz : Array Value), a = { tmps := #[x0, x1, .pointer (some ⟨w.heap.size, 0, none⟩), x3, x4, .pointer (some ⟨w.heap.size + 1, 0, none⟩), .pointer (some ⟨r, 0, none⟩), x7, x8, x9, x10, x11, x12, x13, x14, x15, x16, x17, x18, x19, x20, x21, x22, x23, x24, x25, x26, x27, x28, x29, x30, x31, x32], defers := [] } ∧ Hid (Lb w W (bx2 w 88 #[.int .u16 0] #[.int .u16 0]) r 0 80)) (fun _ _ => 0) rfl ?first ?pass
  case first =>
    go_wp2_with fail
    rw [← hW0]
    clear hW0
    refine HO.out.mono ?_
    rintro e W1 ⟨r, hh, ao', cap', a2, c2, rfl, h1, hc1, hc2, ha2⟩
    have H1 : Hid _ := h1
    have HA : Hid _ := ha2
    clear h1 HO ha2
    go_wp2_with fail
    refine (rx_u64 H1.out x0 HX.out (by decide) hsl).mono ?_
    rintro e W2 ⟨rfl, hx⟩
    have H2 : Hid _ := hx
    clear hx H1
    go_wp2_with fail
    refine (magic_bad H2.out x0 mInit hx0).mono ?_
    rintro e W3 ⟨rfl, hx⟩
    have H3 : Hid _ := hx
    clear hx H2
    go_wp2
    go_step3
    exact ⟨rfl, _, _, _, _, _, _, _, _, _, _, _, _, _, _, _, _, _, _, _, _, _, _, _, _, _, _, _, _, _, _, _, #[], rfl, H3.out.lb⟩
  case pass =>
    clear HO HC hW0
    rintro a W ⟨x0, x1, x3, x4, x7, x8, x9, x10, x11, x12, x13, x14, x15, x16, x17, x18, x19, x20, x21, x22, x23, x24, x25, x26, x27, x28, x29, x30, x31, x32, r, zz, rfl, HL⟩
    have hn1 : ¬ (w.heap.size = r) := (HL.out.box _ (.head _)).2.2
    have hn2 : ¬ (r = w.heap.size) := fun e => hn1 e.symm
    have r3 := HL.out.cn
    have r4 := HL.out.ce
    obtain ⟨c00, f00⟩ := HL.out.b (.head _) 0
    obtain ⟨c10, f10⟩ := HL.out.b (.tail _ (.head _)) 0
    simp at c00 c10
    go_wp2
    go_region
    all_goals
      go_wp2
      rw [jump_ret]
      obtain ⟨HG, HB2⟩ := closeb1 (HL.out.box _ (.head _)).1 HL.out.bel (.int .u16 0)
      clear HL
      generalize (W.setCell ⟨w.heap.size, 0, none⟩ (.int .u16 0)).drew = Wz at HG HB2 ⊢
      exact bodyPost_ret (results_cell_tmp2 rfl _ Wz w.heap.size 88 #[.int .u16 0] (0, 0) _ rfl HG Try.underlying88 rfl infoGre) rfl ⟨rfl, HB2⟩
set_option maxHeartbeats 8000000 in
theorem decGreeting_magic2 (b off cap n : Nat) (l : List Nat) (x0 : Nat) (w : World) (h : CRow w (some ⟨b, off, none⟩) cap l) (HN : Hid (l.length = n)) (hs : 18 ≤ n) (HX0 : Hid (valB ((l.drop 0).take 8) = mInit)) (HX : Hid (valB ((l.drop 8).take 8) = x0)) (hx0 : x0 ≠ mHave) :
    Calls Try.prog 68 #[.slice (some ⟨b, off, none⟩) n cap] w fun e w' => e = .returned (.tuple #[.agg #[.int .u16 0], .int .i64 0, .int .i64 80]) ∧ Below w.heap.size w w' := by
  have hnl := h.row.len
  rw [HN.out] at hnl
  have hsl : 18 ≤ l.length := by rw [HN.out]; exact hs
  have HC : Hid (CRow w (some ⟨b, off, none⟩) cap l) := h
  obtain ⟨W0, hW0⟩ : ∃ W0, W0 = ((w.alloc (.cells #[.int .u16 0] 88)).alloc (.cells #[.int .u16 0] 88)) := ⟨_, rfl⟩
  have HO : Hid (Calls Try.prog 99 #[.slice (some ⟨b, off, none⟩) n cap, .int .i64 18] W0 fun e W' => ∃ r hh ao' cap' a2 c2, e = .returned (.pointer (some ⟨r, 0, none⟩)) ∧ Dec w W' (bx2 w 88 #[.int .u16 0] #[.int .u16 0]) W0.heap.size r hh ao' cap' (l.take 18) 0 (.slice (some a2) (n - 18) c2) 0 18 0 ∧ n - 18 ≤ c2 ∧ c2 ≤ 9223372036854775807 ∧ (n - 18 ≠ 0 → a2 = ⟨b, off + 18, none⟩)) := by
    rw [hW0]; exact open_ok b off cap n 18 l (bx2_bel w _ _) (bx2_new w _ _ _) (bx2_nd w _ _ _) (h.later (bx2_bel w _ _)) HN hs (by decide) (by decide)
  clear h
  go_enter Try.func68, Try.ntmps68
  go_wp2
  refine wp_scope_jumps 0 (fun a W => ∃ (x0 x1 x3 x4 x7 x8 x9 x10 x11 x12 x13 x14 x15 x16 x17 x18 x19 x20 x21 x22 x23 x24 x25 x26 x27 x28 x29 x30 x31 x32 : Value) (r : Nat) (zz : Array Value), a = { tmps := #[x0, x1, .pointer (some ⟨w.heap.size, 0, none⟩), x3, x4, .pointer (some ⟨w.heap.size + 1, 0, none⟩), .pointer (some ⟨r, 0, none⟩), x7, x8, x9, x10, x11, x12, x13, x14, x15, x16, x17, x18, x19, x20, x21, x22, x23, x24, x25, x26, x27, x28, x29, x30, x31, x32], defers := [] } ∧ Hid (Lb w W (bx2 w 88 #[.int .u16 0] #[.int .u16 0]) r 0 80)) (fun _ _ => 0) rfl ?first ?pass
  case first =>
    go_wp2_with fail
    rw [← hW0]
    clear hW0
    refine HO.out.mono ?_
    rintro e W1 ⟨r, hh, ao', cap', a2, c2, rfl, h1, hc1, hc2, ha2⟩
    have H1 : Hid _ := h1
    have HA : Hid _ := ha2
    clear h1 HO ha2
    go_wp2_with fail
    refine (rx_u64 H1.out mInit HX0.out (by decide) hsl).mono ?_
    rintro e W2 ⟨rfl, hx⟩
    have H2 : Hid _ := hx
    clear hx H1
    go_wp2_with fail
    refine (magic_ok H2.out mInit).mono ?_
    rintro e W3 ⟨rfl, hx⟩
    have H3 : Hid _ := hx
    clear hx H2
    go_wp2_with fail
    refine (rx_u64 H3.out x0 HX.out (by decide) hsl).mono ?_
    rintro e W4 ⟨rfl, hx⟩
    have H4 : Hid _ := hx
    clear hx H3
    go_wp2_with fail
    refine (magic_bad H4.out x0 mHave hx0).mono ?_
    rintro e W5 ⟨rfl, hx⟩
    have H5 : Hid _ := hx
    clear hx H4
    go_wp2
    go_step3
    exact ⟨rfl, _, _, _, _, _, _, _, _, _, _, _, _, _, _, _, _, _, _, _, _, _, _, _, _, _, _, _, _, _, _, _, #[], rfl, H5.out.lb⟩
  case pass =>
    clear HO HC hW0
    rintro a W ⟨x0, x1, x3, x4, x7, x8, x9, x10, x11, x12, x13, x14, x15, x16, x17, x18, x19, x20, x21, x22, x23, x24, x25, x26, x27, x28, x29, x30, x31, x32, r, zz, rfl, HL⟩
    have hn1 : ¬ (w.heap.size = r) := (HL.out.box _ (.head _)).2.2
    have hn2 : ¬ (r = w.heap.size) := fun e => hn1 e.symm
    have r3 := HL.out.cn
    have r4 := HL.out.ce
    obtain ⟨c00, f00⟩ := HL.out.b (.head _) 0
    obtain ⟨c10, f10⟩ := HL.out.b (.tail _ (.head _)) 0
    simp at c00 c10
    go_wp2
    go_region
    all_goals
      go_wp2
      rw [jump_ret]
      obtain ⟨HG, HB2⟩ := closeb1 (HL.out.box _ (.head _)).1 HL.out.bel (.int .u16 0)
      clear HL
      generalize (W.setCell ⟨w.heap.size, 0, none⟩ (.int .u16 0)).drew = Wz at HG HB2 ⊢
      exact bodyPost_ret (results_cell_tmp2 rfl _ Wz w.heap.size 88 #[.int .u16 0] (0, 0) _ rfl HG Try.underlying88 rfl infoGre) rfl ⟨rfl, HB2⟩
set_option maxHeartbeats 8000000 in
theorem decSimple_magic (b off cap n : Nat) (l : List Nat)  (w : World) (h : CRow w (some ⟨b, off, none⟩) cap l) (HN : Hid (l.length = n)) (hs : 16 ≤ n) (HX0 : Hid (valB ((l.drop 0).take 4) ≠ mSimple)) :
    Calls Try.prog 113 #[.slice (some ⟨b, off, none⟩) n cap] w fun e w' => e = .returned (.tuple #[.agg #[.int .u32 0, .int .u64 0], .int .i64 0, .int .i64 80]) ∧ Below w.heap.size w w' := by
  have hnl := h.row.len
  rw [HN.out] at hnl
  have hsl : 16 ≤ l.length := by rw [HN.out]; exact hs
  have HC : Hid (CRow w (some ⟨b, off, none⟩) cap l) := h
  obtain ⟨W0, hW0⟩ : ∃ W0, W0 = ((w.alloc (.cells #[.int .u32 0, .int .u64 0] 66)).alloc (.cells #[.int .u32 0, .int .u64 0] 66)) := ⟨_, rfl⟩
  have HO : Hid (Calls Try.prog 99 #[.slice (some ⟨b, off, none⟩) n cap, .int .i64 16] W0 fun e W' => ∃ r hh ao' cap' a2 c2, e = .returned (.pointer (some ⟨r, 0, none⟩)) ∧ Dec w W' (bx2 w 66 #[.int .u32 0, .int .u64 0] #[.int .u32 0, .int .u64 0]) W0.heap.size r hh ao' cap' (l.take 16) 0 (.slice (some a2) (n - 16) c2) 0 16 0 ∧ n - 16 ≤ c2 ∧ c2 ≤ 9223372036854775807 ∧ (n - 16 ≠ 0 → a2 = ⟨b, off + 16, none⟩)) := by
    rw [hW0]; exact open_ok b off cap n 16 l (bx2_bel w _ _) (bx2_new w _ _ _) (bx2_nd w _ _ _) (h.later (bx2_bel w _ _)) HN hs (by decide) (by decide)
  clear h
  go_enter Try.func113, Try.ntmps113
  go_wp2
  refine wp_scope_jumps 0 (fun a W => ∃ (x0 x1 x3 x4 x7 x8 x9 x10 x11 x12 x13 x14 x15 x16 x17 x18 x19 x20 x21 x22 x23 x24 x25 x26 : Value) (r : Nat) (zz : Array Value), a = { tmps := #[x0, x1, .pointer (some ⟨w.heap.size, 0, none⟩), x3, x4, .pointer (some ⟨w.heap.size + 1, 0, none⟩), .pointer (some ⟨r, 0, none⟩), x7, x8, x9, x10, x11, x12, x13, x14, x15, x16, x17, x18, x19, x20, x21, x22, x23, x24, x25, x26], defers := [] } ∧ Hid (Lb w W (bx2 w 66 #[.int .u32 0, .int .u64 0] #[.int .u32 0, .int .u64 0]) r 0 80)) (fun _ _ => 0) rfl ?first ?pass
  case first =>
    go_wp2_with fail
    rw [← hW0]
    clear hW0
    refine HO.out.mono ?_
    rintro e W1 ⟨r, hh, ao', cap', a2, c2, rfl, h1, hc1, hc2, ha2⟩
    have H1 : Hid _ := h1
    have HA : Hid _ := ha2
    clear h1 HO ha2
    go_wp2_with fail
    refine (magic32_bad H1.out (by rw [List.length_take]; omega) mSimple (by decide) (by rw [tk _ _ _ _ (by decide)]; exact HX0.out)).mono ?_
    rintro e W2 ⟨rfl, hx⟩
    have H2 : Hid _ := hx
    clear hx H1
    go_wp2
    go_step3
    exact ⟨rfl, _, _, _, _, _, _, _, _, _, _, _, _, _, _, _, _, _, _, _, _, _, _, _, _, _, #[], rfl, H2.out.lb⟩
  case pass =>
    clear HO HC hW0
    rintro a W ⟨x0, x1, x3, x4, x7, x8, x9, x10, x11, x12, x13, x14, x15, x16, x17, x18, x19, x20, x21, x22, x23, x24, x25, x26, r, zz, rfl, HL⟩
    have hn1 : ¬ (w.heap.size = r) := (HL.out.box _ (.head _)).2.2
    have hn2 : ¬ (r = w.heap.size) := fun e => hn1 e.symm
    have r3 := HL.out.cn
    have r4 := HL.out.ce
    obtain ⟨c00, f00⟩ := HL.out.b (.head _) 0
    obtain ⟨c10, f10⟩ := HL.out.b (.tail _ (.head _)) 0
    obtain ⟨c01, f01⟩ := HL.out.b (.head _) 1
    obtain ⟨c11, f11⟩ := HL.out.b (.tail _ (.head _)) 1
    simp at c00 c10 c01 c11
    go_wp2
    go_region
    all_goals
      go_wp2
      rw [jump_ret]
      obtain ⟨HG, HB2⟩ := closeb2 (HL.out.box _ (.head _)).1 HL.out.bel (.int .u32 0) (.int .u64 0)
      clear HL
      generalize ((W.setCell ⟨w.heap.size, 0, none⟩ (.int .u32 0)).setCell ⟨w.heap.size, 1, none⟩ (.int .u64 0)).drew = Wz at HG HB2 ⊢
      exact bodyPost_ret (results_cell_tmp2 rfl _ Wz w.heap.size 66 #[.int .u32 0, .int .u64 0] (0, 0) _ rfl HG Try.underlying66 rfl infoSim) rfl ⟨rfl, HB2⟩
end Go.Proofs.Ytckfmpoddmccfaa
