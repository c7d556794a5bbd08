import Derived.Test.YtckfmpoddmccfaaU12
namespace Go.Proofs.Ytckfmpoddmccfaa
open Go.RowKit
set_option linter.unusedVariables false
set_option linter.unusedSimpArgs false
set_option maxRecDepth 100000
set_option maxHeartbeats 4000000 in
theorem decOption_short (ao : Option Addr) (cap n : Nat) (most : Nat) (w : World) (h : n < 16) :
    Calls Try.prog 98 #[.slice ao n cap, .int .u32 (most : Int)] w fun e w' => e = .returned (.tuple #[.agg #[.int .u32 0, .int .u32 0, .bool false, nilV], .int .i64 16, .int .i64 10]) ∧ Below w.heap.size w w' := by
  obtain ⟨W0, hW0⟩ : ∃ W0, W0 = (((w.alloc (.cells #[.int .u32 0, .int .u32 0, .bool false, nilV] 57)).alloc (.cells #[.int .u32 0, .int .u32 0, .bool false, nilV] 57)).alloc (.cells #[.int .u32 0, .int .u32 0, .bool false, nilV] 57)) := ⟨_, rfl⟩
  obtain ⟨W1, hW1⟩ : ∃ W1, W1 = W0.alloc (nhO 16) := ⟨_, rfl⟩
  have HO : Hid (Calls Try.prog 99 #[.slice ao n cap, .int .i64 16] W0 fun e W' => e = .returned (.pointer (some ⟨W0.heap.size, 0, none⟩)) ∧ W' = W1) := by rw [hW1]; exact open_short ao cap n 16 W0 h (by decide)
  have hN : Nh W1 W0.heap.size 16 := ⟨by rw [hW1]; exact heap_new W0 _⟩
  have HL : Hid (Lb w W1 (bx3 w 57 #[.int .u32 0, .int .u32 0, .bool false, nilV] #[.int .u32 0, .int .u32 0, .bool false, nilV] #[.int .u32 0, .int .u32 0, .bool false, nilV]) W0.heap.size 16 10) := by rw [hW1, hW0]; exact lb_short (bx3_bel w _ _ _) (bx3_new w _ _ _ _) 16
  have HU0 : Hid (Calls Try.prog 102 #[.pointer (some ⟨W0.heap.size, 0, none⟩)] W1 fun e W' => e = .returned (.int .u64 0) ∧ W' = W1) := nh_u64 hN
  have HU1 : Hid (∀ x m : Int, Calls Try.prog 101 #[.pointer (some ⟨W0.heap.size, 0, none⟩), .int .u64 x, .int .u64 m] W1 fun e W' => e = .returned (.bool false) ∧ W' = W1) := nh_magic hN
  clear hN hW1
  generalize hr : W0.heap.size = r at *
  clear hr
  go_enter Try.func98, Try.ntmps98
  go_wp2
  refine wp_scope_jumps 0 (fun a W => ∃ (x0 x1 x2 x3 x5 x6 x8 x10 x11 x12 x13 x14 x15 x16 x17 x18 x19 x20 x21 x22 x23 x24 x25 x26 x27 x28 x29 x30 x31 x32 x33 x34 x35 x36 x37 x38 x39 x40 x41 x42 x43 x44 x45 x46 x47 x48 : Value) (r : Nat) (zz : Array Value), a = { tmps := #[x0, x1, x2, x3, .pointer (some ⟨w.heap.size, 0, none⟩), x5, x6, .pointer (some ⟨w.heap.size + 1, 0, none⟩), x8, .pointer (some ⟨r, 0, none⟩), x10, x11, x12, x13, x14, x15, x16, x17, x18, x19, x20, x21, x22, x23, x24, x25, x26, x27, x28, x29, x30, x31, x32, x33, x34, x35, x36, x37, x38, x39, x40, x41, x42, x43, x44, x45, x46, x47, x48], defers := [] } ∧ Hid (Lb w W (bx3 w 57 #[.int .u32 0, .int .u32 0, .bool false, nilV] #[.int .u32 0, .int .u32 0, .bool false, nilV] zz) r 16 10)) (fun _ _ => 0) rfl ?first ?pass
  case first =>
    go_wp2_with fail
    rw [← hW0]
    clear hW0
    refine HO.out.mono ?_
    rintro e W9 ⟨rfl, hw⟩
    rw [hw]; clear hw HO
    go_wp2_with fail
    refine HU0.out.mono ?_
    rintro e W9 ⟨rfl, hw⟩
    rw [hw]; clear hw HU0
    go_wp2_with fail
    refine (HU1.out _ _).mono ?_
    rintro e W9 ⟨rfl, hw⟩
    rw [hw]; clear hw HU1
    go_wp2
    go_step3
    exact ⟨rfl, _, _, _, _, _, _, _, _, _, _, _, _, _, _, _, _, _, _, _, _, _, _, _, _, _, _, _, _, _, _, _, _, _, _, _, _, _, _, _, _, _, _, _, _, _, _, _, _, rfl, HL⟩
  case pass =>
    clear HL HO hW0 HU0 HU1
    rintro a W ⟨x0, x1, x2, x3, x5, x6, x8, x10, x11, x12, x13, x14, x15, x16, x17, x18, x19, x20, x21, x22, x23, x24, x25, x26, x27, x28, x29, x30, x31, x32, x33, x34, x35, x36, x37, x38, x39, x40, x41, x42, x43, x44, x45, x46, x47, x48, r, zz, rfl, HL⟩
    have hn1 : ¬ (w.heap.size = r) := (HL.out.box _ (.head _)).2.2
    have hn2 : ¬ (r = w.heap.size) := fun e => hn1 e.symm
    have r3 := HL.out.cn
    have r4 := HL.out.ce
    obtain ⟨c00, f00⟩ := HL.out.b (.head _) 0
    obtain ⟨c10, f10⟩ := HL.out.b (.tail _ (.head _)) 0
    obtain ⟨c01, f01⟩ := HL.out.b (.head _) 1
    obtain ⟨c11, f11⟩ := HL.out.b (.tail _ (.head _)) 1
    obtain ⟨c02, f02⟩ := HL.out.b (.head _) 2
    obtain ⟨c12, f12⟩ := HL.out.b (.tail _ (.head _)) 2
    obtain ⟨c03, f03⟩ := HL.out.b (.head _) 3
    obtain ⟨c13, f13⟩ := HL.out.b (.tail _ (.head _)) 3
    simp at c00 c10 c01 c11 c02 c12 c03 c13
    go_wp2
    go_region
    all_goals
      go_wp2
      rw [jump_ret]
      exact bodyPost_ret (results_cell_tmp2 rfl _ _ w.heap.size 57 #[.int .u32 0, .int .u32 0, .bool false, nilV] (0, 0) _ rfl (put_box (put_box (put_box (put_box (HL.out.box _ (.head _)).1 0 (.int .u32 0) rfl) 1 (.int .u32 0) rfl) 2 (.bool false) rfl) 3 (nilV) rfl) Try.underlying57 rfl infoOpt) rfl ⟨rfl, below_drew (setAll_below [(w.heap.size, 0, .int .u32 0), (w.heap.size, 1, .int .u32 0), (w.heap.size, 2, .bool false), (w.heap.size, 3, nilV)] W HL.out.bel (by simp))⟩
set_option maxHeartbeats 4000000 in
theorem decReply_short (ao : Option Addr) (cap n : Nat) (most : Nat) (w : World) (h : n < 20) :
    Calls Try.prog 72 #[.slice ao n cap, .int .u32 (most : Int)] w fun e w' => e = .returned (.tuple #[.agg #[.int .u32 0, .int .u32 0, nilV], .int .i64 20, .int .i64 10]) ∧ Below w.heap.size w w' := by
  obtain ⟨W0, hW0⟩ : ∃ W0, W0 = (((w.alloc (.cells #[.int .u32 0, .int .u32 0, nilV] 62)).alloc (.cells #[.int .u32 0, .int .u32 0, nilV] 62)).alloc (.cells #[.int .u32 0, .int .u32 0, nilV] 62)) := ⟨_, rfl⟩
  obtain ⟨W1, hW1⟩ : ∃ W1, W1 = W0.alloc (nhO 20) := ⟨_, rfl⟩
  have HO : Hid (Calls Try.prog 99 #[.slice ao n cap, .int .i64 20] W0 fun e W' => e = .returned (.pointer (some ⟨W0.heap.size, 0, none⟩)) ∧ W' = W1) := by rw [hW1]; exact open_short ao cap n 20 W0 h (by decide)
  have hN : Nh W1 W0.heap.size 20 := ⟨by rw [hW1]; exact heap_new W0 _⟩
  have HL : Hid (Lb w W1 (bx3 w 62 #[.int .u32 0, .int .u32 0, nilV] #[.int .u32 0, .int .u32 0, nilV] #[.int .u32 0, .int .u32 0, nilV]) W0.heap.size 20 10) := by rw [hW1, hW0]; exact lb_short (bx3_bel w _ _ _) (bx3_new w _ _ _ _) 20
  have HU0 : Hid (Calls Try.prog 102 #[.pointer (some ⟨W0.heap.size, 0, none⟩)] W1 fun e W' => e = .returned (.int .u64 0) ∧ W' = W1) := nh_u64 hN
  have HU1 : Hid (∀ x m : Int, Calls Try.prog 101 #[.pointer (some ⟨W0.heap.size, 0, none⟩), .int .u64 x, .int .u64 m] W1 fun e W' => e = .returned (.bool false) ∧ W' = W1) := nh_magic hN
  clear hN hW1
  generalize hr : W0.heap.size = r at *
  clear hr
  go_enter Try.func72, Try.ntmps72
  go_wp2
  refine wp_scope_jumps 0 (fun a W => ∃ (x0 x1 x2 x3 x5 x6 x8 x10 x11 x12 x13 x14 x15 x16 x17 x18 x19 x20 x21 x22 x23 x24 x25 x26 x27 x28 x29 x30 x31 x32 x33 x34 x35 x36 x37 x38 x39 x40 x41 x42 : Value) (r : Nat) (zz : Array Value), a = { tmps := #[x0, x1, x2, x3, .pointer (some ⟨w.heap.size, 0, none⟩), x5, x6, .pointer (some ⟨w.heap.size + 1, 0, none⟩), x8, .pointer (some ⟨r, 0, none⟩), x10, x11, x12, x13, x14, x15, x16, x17, x18, x19, x20, x21, x22, x23, x24, x25, x26, x27, x28, x29, x30, x31, x32, x33, x34, x35, x36, x37, x38, x39, x40, x41, x42], defers := [] } ∧ Hid (Lb w W (bx3 w 62 #[.int .u32 0, .int .u32 0, nilV] #[.int .u32 0, .int .u32 0, nilV] zz) r 20 10)) (fun _ _ => 0) rfl ?first ?pass
  case first =>
    go_wp2_with fail
    rw [← hW0]
    clear hW0
    refine HO.out.mono ?_
    rintro e W9 ⟨rfl, hw⟩
    rw [hw]; clear hw HO
    go_wp2_with fail
    refine HU0.out.mono ?_
    rintro e W9 ⟨rfl, hw⟩
    rw [hw]; clear hw HU0
    go_wp2_with fail
    refine (HU1.out _ _).mono ?_
    rintro e W9 ⟨rfl, hw⟩
    rw [hw]; clear hw HU1
    go_wp2
    go_step3
    exact ⟨rfl, _, _, _, _, _, _, _, _, _, _, _, _, _, _, _, _, _, _, _, _, _, _, _, _, _, _, _, _, _, _, _, _, _, _, _, _, _, _, _, _, _, _, rfl, HL⟩
  case pass =>
    clear HL HO hW0 HU0 HU1
    rintro a W ⟨x0, x1, x2, x3, x5, x6, x8, x10, x11, x12, x13, x14, x15, x16, x17, x18, x19, x20, x21, x22, x23, x24, x25, x26, x27, x28, x29, x30, x31, x32, x33, x34, x35, x36, x37, x38, x39, x40, x41, x42, r, zz, rfl, HL⟩
    have hn1 : ¬ (w.heap.size = r) := (HL.out.box _ (.head _)).2.2
    have hn2 : ¬ (r = w.heap.size) := fun e => hn1 e.symm
    have r3 := HL.out.cn
    have r4 := HL.out.ce
    obtain ⟨c00, f00⟩ := HL.out.b (.head _) 0
    obtain ⟨c10, f10⟩ := HL.out.b (.tail _ (.head _)) 0
    obtain ⟨c01, f01⟩ := HL.out.b (.head _) 1
    obtain ⟨c11, f11⟩ := HL.out.b (.tail _ (.head _)) 1
    obtain ⟨c02, f02⟩ := HL.out.b (.head _) 2
    obtain ⟨c12, f12⟩ := HL.out.b (.tail _ (.head _)) 2
    simp at c00 c10 c01 c11 c02 c12
    go_wp2
    go_region
    all_goals
      go_wp2
      rw [jump_ret]
      exact bodyPost_ret (results_cell_tmp2 rfl _ _ w.heap.size 62 #[.int .u32 0, .int .u32 0, nilV] (0, 0) _ rfl (put_box (put_box (put_box (HL.out.box _ (.head _)).1 0 (.int .u32 0) rfl) 1 (.int .u32 0) rfl) 2 (nilV) rfl) Try.underlying62 rfl infoRep) rfl ⟨rfl, below_drew (setAll_below [(w.heap.size, 0, .int .u32 0), (w.heap.size, 1, .int .u32 0), (w.heap.size, 2, nilV)] W HL.out.bel (by simp))⟩
set_option maxHeartbeats 8000000 in
theorem decOption_magic (b off cap n : Nat) (l : List Nat) (most : Nat) (x0 : Nat) (w : World) (h : CRow w (some ⟨b, off, none⟩) cap l) (HN : Hid (l.length = n)) (hs : 16 ≤ n) (HX : Hid (valB ((l.drop 0).take 8) = x0)) (hx0 : x0 ≠ mHave) :
    Calls Try.prog 98 #[.slice (some ⟨b, off, none⟩) n cap, .int .u32 (most : Int)] w fun e w' => e = .returned (.tuple #[.agg #[.int .u32 0, .int .u32 0, .bool false, nilV], .int .i64 0, .int .i64 80]) ∧ Below w.heap.size w w' := by
  have hnl := h.row.len
  rw [HN.out] at hnl
  have hsl : 16 ≤ l.length := by rw [HN.out]; exact hs
  have HC : Hid (CRow w (some ⟨b, off, none⟩) cap l) := h
  obtain ⟨W0, hW0⟩ : ∃ W0, W0 = (((w.alloc (.cells #[.int .u32 0, .int .u32 0, .bool false, nilV] 57)).alloc (.cells #[.int .u32 0, .int .u32 0, .bool false, nilV] 57)).alloc (.cells #[.int .u32 0, .int .u32 0, .bool false, nilV] 57)) := ⟨_, rfl⟩
  have HO : Hid (Calls Try.prog 99 #[.slice (some ⟨b, off, none⟩) n cap, .int .i64 16] W0 fun e W' => ∃ r hh ao' cap' a2 c2, e = .returned (.pointer (some ⟨r, 0, none⟩)) ∧ Dec w W' (bx3 w 57 #[.int .u32 0, .int .u32 0, .bool false, nilV] #[.int .u32 0, .int .u32 0, .bool false, nilV] #[.int .u32 0, .int .u32 0, .bool false, nilV]) W0.heap.size r hh ao' cap' (l.take 16) 0 (.slice (some a2) (n - 16) c2) 0 16 0 ∧ n - 16 ≤ c2 ∧ c2 ≤ 9223372036854775807 ∧ (n - 16 ≠ 0 → a2 = ⟨b, off + 16, none⟩)) := by
    rw [hW0]; exact open_ok b off cap n 16 l (bx3_bel w _ _ _) (bx3_new w _ _ _ _) (bx3_nd w _ _ _ _) (h.later (bx3_bel w _ _ _)) HN hs (by decide) (by decide)
  clear h
  go_enter Try.func98, Try.ntmps98
  go_wp2
  refine wp_scope_jumps 0 (fun a W => ∃ (x0 x1 x2 x3 x5 x6 x8 x10 x11 x12 x13 x14 x15 x16 x17 x18 x19 x20 x21 x22 x23 x24 x25 x26 x27 x28 x29 x30 x31 x32 x33 x34 x35 x36 x37 x38 x39 x40 x41 x42 x43 x44 x45 x46 x47 x48 : Value) (r : Nat) (zz : Array Value), a = { tmps := #[x0, x1, x2, x3, .pointer (some ⟨w.heap.size, 0, none⟩), x5, x6, .pointer (some ⟨w.heap.size + 1, 0, none⟩), x8, .pointer (some ⟨r, 0, none⟩), x10, x11, x12, x13, x14, x15, x16, x17, x18, x19, x20, x21, x22, x23, x24, x25, x26, x27, x28, x29, x30, x31, x32, x33, x34, x35, x36, x37, x38, x39, x40, x41, x42, x43, x44, x45, x46, x47, x48], defers := [] } ∧ Hid (Lb w W (bx3 w 57 #[.int .u32 0, .int .u32 0, .bool false, nilV] #[.int .u32 0, .int .u32 0, .bool false, nilV] zz) r 0 80)) (fun _ _ => 0) rfl ?first ?pass
  case first =>
    go_wp2_with fail
    rw [← hW0]
    clear hW0
    refine HO.out.mono ?_
    rintro e W1 ⟨r, hh, ao', cap', a2, c2, rfl, h1, hc1, hc2, ha2⟩
    have H1 : Hid _ := h1
    have HA : Hid _ := ha2
    clear h1 HO ha2
    go_wp2_with fail
    refine (rx_u64 H1.out x0 HX.out (by decide) hsl).mono ?_
    rintro e W2 ⟨rfl, hx⟩
    have H2 : Hid _ := hx
    clear hx H1
    go_wp2_with fail
    refine (magic_bad H2.out x0 mHave hx0).mono ?_
    rintro e W3 ⟨rfl, hx⟩
    have H3 : Hid _ := hx
    clear hx H2
    go_wp2
    go_step3
    exact ⟨rfl, _, _, _, _, _, _, _, _, _, _, _, _, _, _, _, _, _, _, _, _, _, _, _, _, _, _, _, _, _, _, _, _, _, _, _, _, _, _, _, _, _, _, _, _, _, _, _, _, rfl, H3.out.lb⟩
  case pass =>
    clear HO HC hW0
    rintro a W ⟨x0, x1, x2, x3, x5, x6, x8, x10, x11, x12, x13, x14, x15, x16, x17, x18, x19, x20, x21, x22, x23, x24, x25, x26, x27, x28, x29, x30, x31, x32, x33, x34, x35, x36, x37, x38, x39, x40, x41, x42, x43, x44, x45, x46, x47, x48, r, zz, rfl, HL⟩
    have hn1 : ¬ (w.heap.size = r) := (HL.out.box _ (.head _)).2.2
    have hn2 : ¬ (r = w.heap.size) := fun e => hn1 e.symm
    have r3 := HL.out.cn
    have r4 := HL.out.ce
    obtain ⟨c00, f00⟩ := HL.out.b (.head _) 0
    obtain ⟨c10, f10⟩ := HL.out.b (.tail _ (.head _)) 0
    obtain ⟨c01, f01⟩ := HL.out.b (.head _) 1
    obtain ⟨c11, f11⟩ := HL.out.b (.tail _ (.head _)) 1
    obtain ⟨c02, f02⟩ := HL.out.b (.head _) 2
    obtain ⟨c12, f12⟩ := HL.out.b (.tail _ (.head _)) 2
    obtain ⟨c03, f03⟩ := HL.out.b (.head _) 3
    obtain ⟨c13, f13⟩ := HL.out.b (.tail _ (.head _)) 3
    simp at c00 c10 c01 c11 c02 c12 c03 c13
    go_wp2
    go_region
    all_goals
      go_wp2
      rw [jump_ret]
      exact bodyPost_ret (results_cell_tmp2 rfl _ _ w.heap.size 57 #[.int .u32 0, .int .u32 0, .bool false, nilV] (0, 0) _ rfl (put_box (put_box (put_box (put_box (HL.out.box _ (.head _)).1 0 (.int .u32 0) rfl) 1 (.int .u32 0) rfl) 2 (.bool false) rfl) 3 (nilV) rfl) Try.underlying57 rfl infoOpt) rfl ⟨rfl, below_drew (setAll_below [(w.heap.size, 0, .int .u32 0), (w.heap.size, 1, .int .u32 0), (w.heap.size, 2, .bool false), (w.heap.size, 3, nilV)] W HL.out.bel (by simp))⟩
set_option maxHeartbeats 8000000 in
theorem decReply_magic (b off cap n : Nat) (l : List Nat) (most : Nat) (x0 : Nat) (w : World) (h : CRow w (some ⟨b, off, none⟩) cap l) (HN : Hid (l.length = n)) (hs : 20 ≤ n) (HX : Hid (valB ((l.drop 0).take 8) = x0)) (hx0 : x0 ≠ mReply) :
    Calls Try.prog 72 #[.slice (some ⟨b, off, none⟩) n cap, .int .u32 (most : Int)] w fun e w' => e = .returned (.tuple #[.agg #[.int .u32 0, .int .u32 0, nilV], .int .i64 0, .int .i64 80]) ∧ Below w.heap.size w w' := by
  have hnl := h.row.len
  rw [HN.out] at hnl
  have hsl : 20 ≤ l.length := by rw [HN.out]; exact hs
  have HC : Hid (CRow w (some ⟨b, off, none⟩) cap l) := h
  obtain ⟨W0, hW0⟩ : ∃ W0, W0 = (((w.alloc (.cells #[.int .u32 0, .int .u32 0, nilV] 62)).alloc (.cells #[.int .u32 0, .int .u32 0, nilV] 62)).alloc (.cells #[.int .u32 0, .int .u32 0, nilV] 62)) := ⟨_, rfl⟩
  have HO : Hid (Calls Try.prog 99 #[.slice (some ⟨b, off, none⟩) n cap, .int .i64 20] W0 fun e W' => ∃ r hh ao' cap' a2 c2, e = .returned (.pointer (some ⟨r, 0, none⟩)) ∧ Dec w W' (bx3 w 62 #[.int .u32 0, .int .u32 0, nilV] #[.int .u32 0, .int .u32 0, nilV] #[.int .u32 0, .int .u32 0, nilV]) W0.heap.size r hh ao' cap' (l.take 20) 0 (.slice (some a2) (n - 20) c2) 0 20 0 ∧ n - 20 ≤ c2 ∧ c2 ≤ 9223372036854775807 ∧ (n - 20 ≠ 0 → a2 = ⟨b, off + 20, none⟩)) := by
    rw [hW0]; exact open_ok b off cap n 20 l (bx3_bel w _ _ _) (bx3_new w _ _ _ _) (bx3_nd w _ _ _ _) (h.later (bx3_bel w _ _ _)) HN hs (by decide) (by decide)
  clear h
  go_enter Try.func72, Try.ntmps72
  go_wp2
  refine wp_scope_jumps 0 (fun a W => ∃ (x0 x1 x2 x3 x5 x6 x8 x10 x11 x12 x13 x14 x15 x16 x17 x18 x19 x20 x21 x22 x23 x24 x25 x26 x27 x28 x29 x30 x31 x32 x33 x34 x35 x36 x37 x38 x39 x40 x41 x42 : Value) (r : Nat) (zz : Array Value), a = { tmps := #[x0, x1, x2, x3, .pointer (some ⟨w.heap.size, 0, none⟩), x5, x6, .pointer (some ⟨w.heap.size + 1, 0, none⟩), x8, .pointer (some ⟨r, 0, none⟩), x10, x11, x12, x13, x14, x15, x16, x17, x18, x19, x20, x21, x22, x23, x24, x25, x26, x27, x28, x29, x30, x31, x32, x33, x34, x35, x36, x37, x38, x39, x40, x41, x42], defers := [] } ∧ Hid (Lb w W (bx3 w 62 #[.int .u32 0, .int .u32 0, nilV] #[.int .u32 0, .int .u32 0, nilV] zz) r 0 80)) (fun _ _ => 0) rfl ?first ?pass
  case first =>
    go_wp2_with fail
    rw [← hW0]
    clear hW0
    refine HO.out.mono ?_
    rintro e W1 ⟨r, hh, ao', cap', a2, c2, rfl, h1, hc1, hc2, ha2⟩
    have H1 : Hid _ := h1
    have HA : Hid _ := ha2
    clear h1 HO ha2
    go_wp2_with fail
    refine (rx_u64 H1.out x0 HX.out (by decide) hsl).mono ?_
    rintro e W2 ⟨rfl, hx⟩
    have H2 : Hid _ := hx
    clear hx H1
    go_wp2_with fail
    refine (magic_bad H2.out x0 mReply hx0).mono ?_
    rintro e W3 ⟨rfl, hx⟩
    have H3 : Hid _ := hx
    clear hx H2
    go_wp2
    go_step3
    exact ⟨rfl, _, _, _, _, _, _, _, _, _, _, _, _, _, _, _, _, _, _, _, _, _, _, _, _, _, _, _, _, _, _, _, _, _, _, _, _, _, _, _, _, _, _, rfl, H3.out.lb⟩
  case pass =>
    clear HO HC hW0
    rintro a W ⟨x0, x1, x2, x3, x5, x6, x8, x10, x11, x12, x13, x14, x15, x16, x17, x18, x19, x20, x21, x22, x23, x24, x25, x26, x27, x28, x29, x30, x31, x32, x33, x34, x35, x36, x37, x38, x39, x40, x41, x42, r, zz, rfl, HL⟩
    have hn1 : ¬ (w.heap.size = r) := (HL.out.box _ (.head _)).2.2
    have hn2 : ¬ (r = w.heap.size) := fun e => hn1 e.symm
    have r3 := HL.out.cn
    have r4 := HL.out.ce
    obtain ⟨c00, f00⟩ := HL.out.b (.head _) 0
    obtain ⟨c10, f10⟩ := HL.out.b (.tail _ (.head _)) 0
    obtain ⟨c01, f01⟩ := HL.out.b (.head _) 1
    obtain ⟨c11, f11⟩ := HL.out.b (.tail _ (.head _)) 1
    obtain ⟨c02, f02⟩ := HL.out.b (.head _) 2
    obtain ⟨c12, f12⟩ := HL.out.b (.tail _ (.head _)) 2
    simp at c00 c10 c01 c11 c02 c12
    go_wp2
    go_region
    all_goals
      go_wp2
      rw [jump_ret]
      exact bodyPost_ret (results_cell_tmp2 rfl _ _ w.heap.size 62 #[.int .u32 0, .int .u32 0, nilV] (0, 0) _ rfl (put_box (put_box (put_box (HL.out.box _ (.head _)).1 0 (.int .u32 0) rfl) 1 (.int .u32 0) rfl) 2 (nilV) rfl) Try.underlying62 rfl infoRep) rfl ⟨rfl, below_drew (setAll_below [(w.heap.size, 0, .int .u32 0), (w.heap.size, 1, .int .u32 0), (w.heap.size, 2, nilV)] W HL.out.bel (by simp))⟩
end Go.Proofs.Ytckfmpoddmccfaa
namespace Go.Proofs.Ytckfmpoddmccfaa
open Go.RowKit
set_option linter.unusedVariables false
set_option linter.unusedSimpArgs false
set_option maxRecDepth 100000
set_option maxHeartbeats 4000000 in
theorem decFlags_ok (b off cap n : Nat) (l : List Nat) (f : Nat) (w : World) (h : CRow w (some ⟨b, off, none⟩) cap l) (HN : Hid (l.length = n)) (hs : 4 ≤ n) (HX0 : Hid (valB ((l.drop 0).take 4) = f)) :
    Calls Try.prog 65 #[.slice (some ⟨b, off, none⟩) n cap] w fun e w' => e = .returned (.tuple #[.int .u32 (f : Int), .int .i64 4, .int .i64 0]) ∧ Below w.heap.size w w' := by
  have hsl : 4 ≤ l.length := by rw [HN.out]; exact hs
  have HO : Hid (Calls Try.prog 99 #[.slice (some ⟨b, off, none⟩) n cap, .int .i64 4] w fun e W' => ∃ r hh ao' cap' a2 c2, e = .returned (.pointer (some ⟨r, 0, none⟩)) ∧ Dec w W' [] w.heap.size r hh ao' cap' (l.take 4) 0 (.slice (some a2) (n - 4) c2) 0 4 0 ∧ n - 4 ≤ c2 ∧ c2 ≤ 9223372036854775807 ∧ (n - 4 ≠ 0 → a2 = ⟨b, off + 4, none⟩)) := open_ok (bs := []) b off cap n 4 l (Below.refl _ _) (by simp) (by simp) h HN hs (by decide) (by decide)
  clear h
  go_enter Try.func65, Try.ntmps65
  go_wp2_with fail
  refine HO.out.mono ?_
  rintro e W1 ⟨r, hh, ao', cap', a2, c2, rfl, h1, _, _, _⟩
  have r3 := h1.lb.cn
  have r4 := h1.lb.ce
  have HU : Hid (∀ q, Calls Try.prog 100 #[.pointer (some ⟨r, 0, none⟩)] (W1.drewN q) fun e W' => e = .returned (.int .u32 (f : Int)) ∧ Dec w W' [] w.heap.size r hh ao' cap' (l.take 4) (0 + 4) (.slice (some a2) (n - 4) c2) 0 4 0) := fun q => rx_u32 (h1.drewN q) f HX0.out (by decide) hsl
  clear h1 HO HX0
  go_wp2
  go_region_with (go_at_call 100; refine (HU.out _).mono ?_; rintro e W2 ⟨rfl, h2⟩; have H2 : Hid _ := h2; have r3' := h2.lb.cn; have r4' := h2.lb.ce; clear h2)
  all_goals
    go_wp2
    go_ret3
    exact ⟨rfl, H2.out.bel⟩
set_option maxHeartbeats 1000000 in
theorem encFlags (f : Nat) (w : World) (hf : f < 4294967296) :
    Calls Try.prog 23 #[.int .u32 (f : Int)] w fun e w' => ∃ ao cap, e = .returned (.slice ao 4 cap) ∧ Row w w' ao cap (bigTo f 4 4) := by
  have h0 := wok_new w
  have hb0 : Below w.heap.size w (w.alloc (.cells #[.bool true, .slice none 0 0] 191)) := (Below.refl _ _).alloc (Nat.le_refl _) _
  go_enter Try.func23, Try.ntmps23
  go_wp2_with fail
  refine (newWriter_any w).mono ?_
  rintro e w1 ⟨rfl, rfl⟩
  generalize w.alloc (.cells #[.bool true, .slice none 0 0] 191) = W1 at *
  have H1 : Hid _ := h0
  have B1 : Hid (Below w.heap.size w W1) := hb0
  clear h0 hb0
  go_wp2_with fail
  refine (wu32_any w.heap.size w.heap.size f _ [] W1 H1.out hf (by simp) B1.out.size).mono ?_
  rintro e W2 ⟨rfl, v2, hp⟩
  have B2 : Hid (Below w.heap.size w W2) := B1.out.trans (hp.kept.below B1.out.size (by
    rintro g hg (e | e)
    · omega
    · simp [Value.ownBlock] at e))
  have H2 : Hid (WOk W2 w.heap.size w.heap.size v2 (bigTo f 4 4)) := hp.ok
  clear hp H1 B1
  go_wp2_with fail
  refine (wout_any w.heap.size w.heap.size v2 _ W2 H2.out (by simp [bigTo_length])).mono ?_
  rintro e W3 ⟨ao, cap, rfl, ho, hb⟩
  have H3 : Hid (Row w W3 ao cap (bigTo f 4 4)) := ⟨owns_mono ho B2.out.size, H2.out.lt, B2.out.trans (hb.mono B2.out.size)⟩
  clear ho hb H2
  rw [bigTo_length]
  go_wp2
  go_ret
  exact ⟨_, _, rfl, H3.out⟩
end Go.Proofs.Ytckfmpoddmccfaa
namespace Go.Proofs.Ytckfmpoddmccfaa
open Go.RowKit
set_option linter.unusedVariables false
set_option linter.unusedSimpArgs false
set_option maxRecDepth 100000
set_option maxHeartbeats 8000000 in
theorem decOption_ok (b off cap n : Nat) (l : List Nat) (most : Nat) (c k : Nat) (w : World) (h : CRow w (some ⟨b, off, none⟩) cap l) (HN : Hid (l.length = n)) (hs : 16 ≤ n) (HX : Hid (valB ((l.drop 0).take 8) = mHave)) (HX1 : Hid (valB ((l.drop 8).take 4) = c)) (HX2 : Hid (valB ((l.drop 12).take 4) = k)) (hc4 : c < 4294967296) (hk4 : k < 4294967296) (hm4 : most < 4294967296) (hle : k ≤ most) (hfit : k ≤ n - 16) (N : Nat) (hN : 16 + k = N) (m : List Nat) (hm : (l.drop 16).take k = m) :
    Calls Try.prog 98 #[.slice (some ⟨b, off, none⟩) n cap, .int .u32 (most : Int)] w fun e w' => ∃ ao2 cap2, e = .returned (.tuple #[.agg #[.int .u32 (c : Int), .int .u32 (k : Int), .bool false, .slice ao2 k cap2], .int .i64 (N : Int), .int .i64 0]) ∧ w'.ownsRow w.heap.size 5 1 (.slice ao2 k cap2) k (m.map bv) ∧ Below w.heap.size w w' := by
  have hnl := h.row.len
  rw [HN.out] at hnl
  have hsl : 16 ≤ l.length := by rw [HN.out]; exact hs
  have HC : Hid (CRow w (some ⟨b, off, none⟩) cap l) := h
  obtain ⟨W0, hW0⟩ : ∃ W0, W0 = (((w.alloc (.cells #[.int .u32 0, .int .u32 0, .bool false, nilV] 57)).alloc (.cells #[.int .u32 0, .int .u32 0, .bool false, nilV] 57)).alloc (.cells #[.int .u32 0, .int .u32 0, .bool false, nilV] 57)) := ⟨_, rfl⟩
  have HO : Hid (Calls Try.prog 99 #[.slice (some ⟨b, off, none⟩) n cap, .int .i64 16] W0 fun e W' => ∃ r hh ao' cap' a2 c2, e = .returned (.pointer (some ⟨r, 0, none⟩)) ∧ Dec w W' (bx3 w 57 #[.int .u32 0, .int .u32 0, .bool false, nilV] #[.int .u32 0, .int .u32 0, .bool false, nilV] #[.int .u32 0, .int .u32 0, .bool false, nilV]) W0.heap.size r hh ao' cap' (l.take 16) 0 (.slice (some a2) (n - 16) c2) 0 16 0 ∧ n - 16 ≤ c2 ∧ c2 ≤ 9223372036854775807 ∧ (n - 16 ≠ 0 → a2 = ⟨b, off + 16, none⟩)) := by
    rw [hW0]; exact open_ok b off cap n 16 l (bx3_bel w _ _ _) (bx3_new w _ _ _ _) (bx3_nd w _ _ _ _) (h.later (bx3_bel w _ _ _)) HN hs (by decide) (by decide)
  clear h
  go_enter Try.func98, Try.ntmps98
  go_wp2
  refine wp_scope_jumps 0 (fun _ _ => False) (fun _ _ => 0) rfl ?first ?pass
  case first =>
    go_wp2_with fail
    rw [← hW0]
    clear hW0
    refine HO.out.mono ?_
    rintro e W1 ⟨r, hh, ao', cap', a2, c2, rfl, h1, hc1, hc2, ha2⟩
    have H1 : Hid _ := h1
    have HA : Hid _ := ha2
    clear h1 HO ha2
    go_wp2_with fail
    refine (rx_u64 H1.out mHave HX.out (by decide) hsl).mono ?_
    rintro e W2 ⟨rfl, hx⟩
    have H2 : Hid _ := hx
    clear hx H1
    go_wp2_with fail
    refine (magic_ok H2.out mHave).mono ?_
    rintro e W3 ⟨rfl, hx⟩
    have H3 : Hid _ := hx
    clear hx H2
    go_wp2_with fail
    refine (rx_u32 H3.out c HX1.out (by decide) hsl).mono ?_
    rintro e W4 ⟨rfl, hx⟩
    have H4 : Hid _ := hx
    clear hx H3
    go_wp2_with fail
    refine (rx_u32 H4.out k HX2.out (by decide) hsl).mono ?_
    rintro e W5 ⟨rfl, hx⟩
    have H5 : Hid _ := hx
    clear hx H4
    obtain ⟨s0, u0⟩ := H5.out.b (.tail _ (.tail _ (.head _))) 0
    simp at s0
    obtain ⟨s1, u1⟩ := H5.out.b (.tail _ (.tail _ (.head _))) 1
    simp at s1
    go_wp2_with fail
    replace H5 : Hid _ := H5.out.putS 0 (.int .u32 (c : Int)) #[.int .u32 (c : Int), .int .u32 0, .bool false, nilV] rfl
    replace H5 : Hid _ := H5.out.putS 1 (.int .u32 (k : Int)) #[.int .u32 (c : Int), .int .u32 (k : Int), .bool false, nilV] rfl
    refine (measure_rest H5.out (by decide) (by omega) k most hm4 hle N hN).mono ?_
    rintro e W6 hx
    have HX9 : Hid _ := hx
    clear hx H5 s0 u0 s1 u1
    rcases HX9.out with ⟨hx, _⟩ | ⟨_, rfl, hx⟩
    · omega
    have H6 : Hid _ := hx
    clear hx HX9
    have r4 := H6.out.lb.ce
    have hml : m.length = k := by rw [← hm, List.length_take, List.length_drop, HN.out]; omega
    have hmt : ∀ x ∈ m, x < 256 := fun x hx => HC.out.row.lt x (by rw [← hm] at hx; exact List.mem_of_mem_drop (List.mem_of_mem_take hx))
    have HDt : Hid (∀ q, Calls Try.prog 105 #[.pointer (some ⟨r, 0, none⟩)] (W6.drewN q) fun e W' => ∃ ao2 cap2, e = .returned (.slice ao2 k cap2) ∧ W'.ownsRow W6.heap.size 5 1 (.slice ao2 k cap2) k (m.map bv) ∧ Below W6.heap.size (W6.drewN q) W' ∧ Dec w W' (bx3 w 57 #[.int .u32 0, .int .u32 0, .bool false, nilV] #[.int .u32 0, .int .u32 0, .bool false, nilV] #[.int .u32 (c : Int), .int .u32 (k : Int), .bool false, nilV]) W0.heap.size r hh ao' cap' (l.take 16) (0 + 8 + 4 + 4) (.slice (some a2) (n - 16) c2) ((k : Nat) : Int) (N : Int) 0) := fun q => data_any (len := k) (H6.out.drewN q) m hml hmt (by rw [← hm]; exact tail_news HC.out (H6.out.drewN q).bel (by rw [HN.out]; exact HA.out)) (by omega) hc1 (by omega) hc2
    have HB : Hid (w.heap.size + 1 + 1 < W6.heap.size) := by show _ < _; have h1 := block_lt H6.out.rd; have h2 := H6.out.hr; have h3 : w.heap.size + 1 + 1 < _ := (H6.out.box _ (.tail _ (.tail _ (.head _)))).2.2; omega
    obtain ⟨s2, u2⟩ := H6.out.b (.tail _ (.tail _ (.head _))) 2
    simp at s2
    obtain ⟨s3, u3⟩ := H6.out.b (.tail _ (.tail _ (.head _))) 3
    simp at s3
    clear H6 HX HX1 HX2 HN HC hml hmt HA
    go_wp2
    go_region_with (go_at_call 105; refine (HDt.out _).mono ?_; rintro e W7 ⟨ao2, cap2, rfl, ho, hb, h9⟩; have H7 : Hid _ := h9; have HR : Hid (W7.ownsRow W6.heap.size 5 1 (.slice ao2 k cap2) k (m.map bv)) := ho; clear h9 ho hb; have r4' := H7.out.lb.ce; obtain ⟨q2, w2⟩ := H7.out.b (.tail _ (.tail _ (.head _))) 2; obtain ⟨q3, w3⟩ := H7.out.b (.tail _ (.tail _ (.head _))) 3; simp at q2 q3)
    all_goals
      clear s2 u2 s3 u3 r4 r4' q2 w2 q3 w3
      obtain ⟨c10, f10⟩ := H7.out.b (.tail _ (.head _)) 0
      obtain ⟨c20, f20⟩ := H7.out.b (.tail _ (.tail _ (.head _))) 0
      obtain ⟨c11, f11⟩ := H7.out.b (.tail _ (.head _)) 1
      obtain ⟨c21, f21⟩ := H7.out.b (.tail _ (.tail _ (.head _))) 1
      obtain ⟨c12, f12⟩ := H7.out.b (.tail _ (.head _)) 2
      obtain ⟨c22, f22⟩ := H7.out.b (.tail _ (.tail _ (.head _))) 2
      obtain ⟨c13, f13⟩ := H7.out.b (.tail _ (.head _)) 3
      obtain ⟨c23, f23⟩ := H7.out.b (.tail _ (.tail _ (.head _))) 3
      simp at c10 c20 c11 c21 c12 c22 c13 c23
      go_wp2
      go_step3
      have HF : Hid _ := ((((((H7.out.putS 2 (.bool false) #[.int .u32 (c : Int), .int .u32 (k : Int), .bool false, nilV] rfl).putS 3 (.slice ao2 k cap2) #[.int .u32 (c : Int), .int .u32 (k : Int), .bool false, .slice ao2 k cap2] rfl).putO 0 (.int .u32 (c : Int)) #[.int .u32 (c : Int), .int .u32 0, .bool false, nilV] rfl).putO 1 (.int .u32 (k : Int)) #[.int .u32 (c : Int), .int .u32 (k : Int), .bool false, nilV] rfl).putO 2 (.bool false) #[.int .u32 (c : Int), .int .u32 (k : Int), .bool false, nilV] rfl).putO 3 (.slice ao2 k cap2) #[.int .u32 (c : Int), .int .u32 (k : Int), .bool false, .slice ao2 k cap2] rfl)
      have HW : Hid ((((((((W7.setCell ⟨w.heap.size + 1 + 1, 2, none⟩ (.bool false)).setCell ⟨w.heap.size + 1 + 1, 3, none⟩ (.slice ao2 k cap2)).setCell ⟨w.heap.size + 1, 0, none⟩ (.int .u32 (c : Int))).setCell ⟨w.heap.size + 1, 1, none⟩ (.int .u32 (k : Int))).setCell ⟨w.heap.size + 1, 2, none⟩ (.bool false)).setCell ⟨w.heap.size + 1, 3, none⟩ (.slice ao2 k cap2))).ownsRow W6.heap.size 5 1 (.slice ao2 k cap2) k (m.map bv)) := setAll_owns [(w.heap.size + 1 + 1, 2, .bool false), (w.heap.size + 1 + 1, 3, .slice ao2 k cap2), (w.heap.size + 1, 0, .int .u32 (c : Int)), (w.heap.size + 1, 1, .int .u32 (k : Int)), (w.heap.size + 1, 2, .bool false), (w.heap.size + 1, 3, .slice ao2 k cap2)] W7 HR.out (by have := HB.out; simp; omega)
      clear HR H7 c10 f10 c20 f20 c11 f11 c21 f21 c12 f12 c22 f22 c13 f13 c23 f23
      generalize ((((((W7.setCell ⟨w.heap.size + 1 + 1, 2, none⟩ (.bool false)).setCell ⟨w.heap.size + 1 + 1, 3, none⟩ (.slice ao2 k cap2)).setCell ⟨w.heap.size + 1, 0, none⟩ (.int .u32 (c : Int))).setCell ⟨w.heap.size + 1, 1, none⟩ (.int .u32 (k : Int))).setCell ⟨w.heap.size + 1, 2, none⟩ (.bool false)).setCell ⟨w.heap.size + 1, 3, none⟩ (.slice ao2 k cap2)) = Wx at *
      have hn1 : ¬ (w.heap.size = r) := (HF.out.lb.box _ (.head _)).2.2
      have hn2 : ¬ (r = w.heap.size) := fun e => hn1 e.symm
      have r3 := HF.out.lb.cn
      have r4 := HF.out.lb.ce
      obtain ⟨c00, f00⟩ := HF.out.b (.head _) 0
      obtain ⟨c10, f10⟩ := HF.out.b (.tail _ (.head _)) 0
      obtain ⟨c01, f01⟩ := HF.out.b (.head _) 1
      obtain ⟨c11, f11⟩ := HF.out.b (.tail _ (.head _)) 1
      obtain ⟨c02, f02⟩ := HF.out.b (.head _) 2
      obtain ⟨c12, f12⟩ := HF.out.b (.tail _ (.head _)) 2
      obtain ⟨c03, f03⟩ := HF.out.b (.head _) 3
      obtain ⟨c13, f13⟩ := HF.out.b (.tail _ (.head _)) 3
      simp at c00 c10 c01 c11 c02 c12 c03 c13
      go_wp2
      go_region
      all_goals
        go_wp2
        rw [jump_ret]
        have HW2 := setAll_owns [(w.heap.size, 0, .int .u32 (c : Int)), (w.heap.size, 1, .int .u32 (k : Int)), (w.heap.size, 2, .bool false), (w.heap.size, 3, .slice ao2 k cap2)] Wx HW.out (by have := HB.out; simp; omega)
        have HB2 := below_drew (setAll_below [(w.heap.size, 0, .int .u32 (c : Int)), (w.heap.size, 1, .int .u32 (k : Int)), (w.heap.size, 2, .bool false), (w.heap.size, 3, .slice ao2 k cap2)] Wx HF.out.bel (by simp))
        exact bodyPost_ret (results_cell_tmp2 rfl _ _ w.heap.size 57 #[.int .u32 (c : Int), .int .u32 (k : Int), .bool false, .slice ao2 k cap2] (0, 0) _ rfl (put_box (put_box (put_box (put_box (HF.out.box _ (.head _)).1 0 (.int .u32 (c : Int)) rfl) 1 (.int .u32 (k : Int)) rfl) 2 (.bool false) rfl) 3 (.slice ao2 k cap2) rfl) Try.underlying57 rfl infoOpt) rfl ⟨_, _, rfl, owns_mono HW2 (by have := HB.out; omega), HB2⟩
  case pass =>
    rintro a W hf
    exact hf.elim
end Go.Proofs.Ytckfmpoddmccfaa
