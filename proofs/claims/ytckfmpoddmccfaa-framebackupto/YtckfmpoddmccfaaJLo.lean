import Derived.Test.YtckfmpoddmccfaaJK
namespace Go.Proofs.Ytckfmpoddmccfaa
open Go.RowKit
set_option linter.unusedVariables false
set_option linter.unusedSimpArgs false
set_option maxRecDepth 100000
set_option maxHeartbeats 4000000 in
theorem decOption_short (ao : Option Addr) (cap n : Nat) (most : Nat) (w : World) (h : n < 16) :
    Calls Try.prog 98 #[.slice ao n cap, .int .u32 (most : Int)] w fun e w' => e = .returned (.tuple #[.agg #[.int .u32 0, .int .u32 0, .bool false, nilV], .int .i64 16, .int .i64 10]) ∧ Below w.heap.size w w' := by
  obtain ⟨W0, hW0⟩ : ∃ W0, W0 = (((w.alloc (.cells #[.int .u32 0, .int .u32 0, .bool false, nilV] 57)).alloc (.cells #[.int .u32 0, .int .u32 0, .bool false, nilV] 57)).alloc (.cells #[.int .u32 0, .int .u32 0, .bool false, nilV] 57)) := ⟨_, rfl⟩
  obtain ⟨W1, hW1⟩ : ∃ W1, W1 = W0.alloc (nhO 16) := ⟨_, rfl⟩
  have HO : Hid (Calls Try.prog 99 #[.slice ao n cap, .int .i64 16] W0 fun e W' => e = .returned (.pointer (some ⟨W0.heap.size, 0, none⟩)) ∧ W' = W1) := by rw [hW1]; exact open_short ao cap n 16 W0 h (by decide)
  have hN : Nh W1 W0.heap.size 16 := ⟨by rw [hW1]; exact heap_new W0 _⟩
  have HL : Hid (Lb w W1 (bx3 w 57 #[.int .u32 0, .int .u32 0, .bool false, nilV] #[.int .u32 0, .int .u32 0, .bool false, nilV] #[.int .u32 0, .int .u32 0, .bool false, nilV]) W0.heap.size 16 10) := by rw [hW1, hW0]; exact lb_short (bx3_bel w _ _ _) (bx3_new w _ _ _ _) 16
  have HU0 : Hid (Calls Try.prog 102 #[.pointer (some ⟨W0.heap.size, 0, none⟩)] W1 fun e W' => e = .returned (.int .u64 0) ∧ W' = W1) := nh_u64 hN
  have HU1 : Hid (∀ x m : Int, Calls Try.prog 101 #[.pointer (some ⟨W0.heap.size, 0, none⟩), .int .u64 x, .int .u64 m] W1 fun e W' => e = .returned (.bool false) ∧ W' = W1) := nh_magic hN
  clear hN hW1
  generalize hr : W0.heap.size = r at *
  clear hr
  go_enter Try.func98, Try.ntmps98
  go_wp2
  refine wp_scope_jumps 0 (fun a W => ∃ (x0 x1 x2 x3 x5 x6 x8 x10 x11 x12 x13 x14 x15 x16 x17 x18 x19 x20 x21 x22 x23 x24 x25 x26 x27 x28 x29 x30 x31 x32 x33 x34 x35 x36 x37 x38 x39 x40 x41 x42 x43 x44 x45 x46 x47 x48 : Value) (r : Nat) (zz : Array Value), a = { tmps := #[x0, x1, x2, x3, .pointer (some ⟨w.heap.size, 0, none⟩), x5, x6, .pointer (some ⟨w.heap.size + 1, 0, none⟩), x8, .pointer (some ⟨r, 0, none⟩), x10, x11, x12, x13, x14, x15, x16, x17, x18, x19, x20, x21, x22, x23, x24, x25, x26, x27, x28, x29, x30, x31, x32, x33, x34, x35, x36, x37, x38, x39, x40, x41, x42, x43, x44, x45, x46, x47, x48], defers := [] } ∧ Hid (Lb w W (bx3 w 57 #[.int .u32 0, .int .u32 0, .bool false, nilV] #[.int .u32 0, .int .u32 0, .bool false, nilV] zz) r 16 10)) (fun _ _ => 0) rfl ?first ?pass
  case first =>
    go_wp2_with fail
    rw [← hW0]
    clear hW0
    refine HO.out.mono ?_
    rintro e W9 ⟨rfl, hw⟩
    rw [hw]; clear hw HO
    go_wp2_with fail
    refine HU0.out.mono ?_
    rintro e W9 ⟨rfl, hw⟩
    rw [hw]; clear hw HU0
    go_wp2_with fail
    refine (HU1.out _ _).mono ?_
    rintro e W9 ⟨rfl, hw⟩
    rw [hw]; clear hw HU1
    go_wp2
    go_step3
    exact ⟨rfl, _, _, _, _, _, _, _, _, _, _, _, _, _, _, _, _, _, _, _, _, _, _, _, _, _, _, _, _, _, _, _, _, _, _, _, _, _, _, _, _, _, _, _, _, _, _, _, _, rfl, HL⟩
  case pass =>
    clear HL HO hW0 HU0 HU1
    rintro a W ⟨x0, x1, x2, x3, x5, x6, x8, x10, x11, x12, x13, x14, x15, x16, x17, x18, x19, x20, x21, x22, x23, x24, x25, x26, x27, x28, x29, x30, x31, x32, x33, x34, x35, x36, x37, x38, x39, x40, x41, x42, x43, x44, x45, x46, x47, x48, r, zz, rfl, HL⟩
    have hn1 : ¬ (w.heap.size = r) := (HL.out.box _ (.head _)).2.2
    have hn2 : ¬ (r = w.heap.size) := fun e => hn1 e.symm
    have r3 := HL.out.cn
    have r4 := HL.out.ce
    obtain ⟨c00, f00⟩ := HL.out.b (.head _) 0
    obtain ⟨c10, f10⟩ := HL.out.b (.tail _ (.head _)) 0
    obtain ⟨c01, f01⟩ := HL.out.b (.head _) 1
    obtain ⟨c11, f11⟩ := HL.out.b (.tail _ (.head _)) 1
    obtain ⟨c02, f02⟩ := HL.out.b (.head _) 2
    obtain ⟨c12, f12⟩ := HL.out.b (.tail _ (.head _)) 2
    obtain ⟨c03, f03⟩ := HL.out.b (.head _) 3
    obtain ⟨c13, f13⟩ := HL.out.b (.tail _ (.head _)) 3
    simp at c00 c10 c01 c11 c02 c12 c03 c13
    go_wp2
    go_region
    all_goals
      go_wp2
      rw [jump_ret]
      exact bodyPost_ret (results_cell_tmp2 rfl _ _ w.heap.size 57 #[.int .u32 0, .int .u32 0, .bool false, nilV] (0, 0) _ rfl (put_box (put_box (put_box (put_box (HL.out.box _ (.head _)).1 0 (.int .u32 0) rfl) 1 (.int .u32 0) rfl) 2 (.bool false) rfl) 3 (nilV) rfl) Try.underlying57 rfl infoOpt) rfl ⟨rfl, below_drew (setAll_below [(w.heap.size, 0, .int .u32 0), (w.heap.size, 1, .int .u32 0), (w.heap.size, 2, .bool false), (w.heap.size, 3, nilV)] W HL.out.bel (by simp))⟩
set_option maxHeartbeats 4000000 in
theorem decReply_short (ao : Option Addr) (cap n : Nat) (most : Nat) (w : World) (h : n < 20) :
    Calls Try.prog 72 #[.slice ao n cap, .int .u32 (most : Int)] w fun e w' => e = .returned (.tuple #[.agg #[.int .u32 0, .int .u32 0, nilV], .int .i64 20, .int .i64 10]) ∧ Below w.heap.size w w' := by
  obtain ⟨W0, hW0⟩ : ∃ W0, W0 = (((w.alloc (.cells #[.int .u32 0, .int .u32 0, nilV] 62)).alloc (.cells #[.int .u32 0, .int .u32 0, nilV] 62)).alloc (.cells #[.int .u32 0, .int .u32 0, nilV] 62)) := ⟨_, rfl⟩
  obtain ⟨W1, hW1⟩ : ∃ W1, W1 = W0.alloc (nhO 20) := ⟨_, rfl⟩
  have HO : Hid (Calls Try.prog 99 #[.slice ao n cap, .int .i64 20] W0 fun e W' => e = .returned (.pointer (some ⟨W0.heap.size, 0, none⟩)) ∧ W' = W1) := by rw [hW1]; exact open_short ao cap n 20 W0 h (by decide)
  have hN : Nh W1 W0.heap.size 20 := ⟨by rw [hW1]; exact heap_new W0 _⟩
  have HL : Hid (Lb w W1 (bx3 w 62 #[.int .u32 0, .int .u32 0, nilV] #[.int .u32 0, .int .u32 0, nilV] #[.int .u32 0, .int .u32 0, nilV]) W0.heap.size 20 10) := by rw [hW1, hW0]; exact lb_short (bx3_bel w _ _ _) (bx3_new w _ _ _ _) 20
  have HU0 : Hid (Calls Try.prog 102 #[.pointer (some ⟨W0.heap.size, 0, none⟩)] W1 fun e W' => e = .returned (.int .u64 0) ∧ W' = W1) := nh_u64 hN
  have HU1 : Hid (∀ x m : Int, Calls Try.prog 101 #[.pointer (some ⟨W0.heap.size, 0, none⟩), .int .u64 x, .int .u64 m] W1 fun e W' => e = .returned (.bool false) ∧ W' = W1) := nh_magic hN
  clear hN hW1
  generalize hr : W0.heap.size = r at *
  clear hr
  go_enter Try.func72, Try.ntmps72
  go_wp2
  refine wp_scope_jumps 0 (fun a W => ∃ (x0 x1 x2 x3 x5 x6 x8 x10 x11 x12 x13 x14 x15 x16 x17 x18 x19 x20 x21 x22 x23 x24 x25 x26 x27 x28 x29 x30 x31 x32 x33 x34 x35 x36 x37 x38 x39 x40 x41 x42 : Value) (r : Nat) (zz : Array Value), a = { tmps := #[x0, x1, x2, x3, .pointer (some ⟨w.heap.size, 0, none⟩), x5, x6, .pointer (some ⟨w.heap.size + 1, 0, none⟩), x8, .pointer (some ⟨r, 0, none⟩), x10, x11, x12, x13, x14, x15, x16, x17, x18, x19, x20, x21, x22, x23, x24, x25, x26, x27, x28, x29, x30, x31, x32, x33, x34, x35, x36, x37, x38, x39, x40, x41, x42], defers := [] } ∧ Hid (Lb w W (bx3 w 62 #[.int .u32 0, .int .u32 0, nilV] #[.int .u32 0, .int .u32 0, nilV] zz) r 20 10)) (fun _ _ => 0) rfl ?first ?pass
  case first =>
    go_wp2_with fail
    rw [← hW0]
    clear hW0
    refine HO.out.mono ?_
    rintro e W9 ⟨rfl, hw⟩
    rw [hw]; clear hw HO
    go_wp2_with fail
    refine HU0.out.mono ?_
    rintro e W9 ⟨rfl, hw⟩
    rw [hw]; clear hw HU0
    go_wp2_with fail
    refine (HU1.out _ _).mono ?_
    rintro e W9 ⟨rfl, hw⟩
    rw [hw]; clear hw HU1
    go_wp2
    go_step3
    exact ⟨rfl, _, _, _, _, _, _, _, _, _, _, _, _, _, _, _, _, _, _, _, _, _, _, _, _, _, _, _, _, _, _, _, _, _, _, _, _, _, _, _, _, _, _, rfl, HL⟩
  case pass =>
    clear HL HO hW0 HU0 HU1
    rintro a W ⟨x0, x1, x2, x3, x5, x6, x8, x10, x11, x12, x13, x14, x15, x16, x17, x18, x19, x20, x21, x22, x23, x24, x25, x26, x27, x28, x29, x30, x31, x32, x33, x34, x35, x36, x37, x38, x39, x40, x41, x42, r, zz, rfl, HL⟩
    have hn1 : ¬ (w.heap.size = r) := (HL.out.box _ (.head _)).2.2
    have hn2 : ¬ (r = w.heap.size) := fun e => hn1 e.symm
    have r3 := HL.out.cn
    have r4 := HL.out.ce
    obtain ⟨c00, f00⟩ := HL.out.b (.head _) 0
    obtain ⟨c10, f10⟩ := HL.out.b (.tail _ (.head _)) 0
    obtain ⟨c01, f01⟩ := HL.out.b (.head _) 1
    obtain ⟨c11, f11⟩ := HL.out.b (.tail _ (.head _)) 1
    obtain ⟨c02, f02⟩ := HL.out.b (.head _) 2
    obtain ⟨c12, f12⟩ := HL.out.b (.tail _ (.head _)) 2
    simp at c00 c10 c01 c11 c02 c12
    go_wp2
    go_region
    all_goals
      go_wp2
      rw [jump_ret]
      exact bodyPost_ret (results_cell_tmp2 rfl _ _ w.heap.size 62 #[.int .u32 0, .int .u32 0, nilV] (0, 0) _ rfl (put_box (put_box (put_box (HL.out.box _ (.head _)).1 0 (.int .u32 0) rfl) 1 (.int .u32 0) rfl) 2 (nilV) rfl) Try.underlying62 rfl infoRep) rfl ⟨rfl, below_drew (setAll_below [(w.heap.size, 0, .int .u32 0), (w.heap.size, 1, .int .u32 0), (w.heap.size, 2, nilV)] W HL.out.bel (by simp))⟩
set_option maxHeartbeats 8000000 in
theorem decOption_magic (b off cap n : Nat) (l : List Nat) (most : Nat) (x0 : Nat) (w : World) (h : CRow w (some ⟨b, off, none⟩) cap l) (HN : Hid (l.length = n)) (hs : 16 ≤ n) (HX : Hid (valB ((l.drop 0).take 8) = x0)) (hx0 : x0 ≠ mHave) :
    Calls Try.prog 98 #[.slice (some ⟨b, off, none⟩) n cap, .int .u32 (most : Int)] w fun e w' => e = .returned (.tuple #[.agg #[.int .u32 0, .int .u32 0, .bool false, nilV], .int .i64 0, .int .i64 80]) ∧ Below w.heap.size w w' := by
  have hnl := h.row.len
  rw [HN.out] at hnl
  have hsl : 16 ≤ l.length := by rw [HN.out]; exact hs
  have HC : Hid (CRow w (some ⟨b, off, none⟩) cap l) := h
  obtain ⟨W0, hW0⟩ : ∃ W0, W0 = (((w.alloc (.cells #[.int .u32 0, .int .u32 0, .bool false, nilV] 57)).alloc (.cells #[.int .u32 0, .int .u32 0, .bool false, nilV] 57)).alloc (.cells #[.int .u32 0, .int .u32 0, .bool false, nilV] 57)) := ⟨_, rfl⟩
  have HO : Hid (Calls Try.prog 99 #[.slice (some ⟨b, off, none⟩) n cap, .int .i64 16] W0 fun e W' => ∃ r hh ao' cap' a2 c2, e = .returned (.pointer (some ⟨r, 0, none⟩)) ∧ Dec w W' (bx3 w 57 #[.int .u32 0, .int .u32 0, .bool false, nilV] #[.int .u32 0, .int .u32 0, .bool false, nilV] #[.int .u32 0, .int .u32 0, .bool false, nilV]) W0.heap.size r hh ao' cap' (l.take 16) 0 (.slice (some a2) (n - 16) c2) 0 16 0 ∧ n - 16 ≤ c2 ∧ c2 ≤ 9223372036854775807 ∧ (n - 16 ≠ 0 → a2 = ⟨b, off + 16, none⟩)) := by
    rw [hW0]; exact open_ok b off cap n 16 l (bx3_bel w _ _ _) (bx3_new w _ _ _ _) (bx3_nd w _ _ _ _) (h.later (bx3_bel w _ _ _)) HN hs (by decide) (by decide)
  clear h
  go_enter Try.func98, Try.ntmps98
  go_wp2
  refine wp_scope_jumps 0 (fun a W => ∃ (x0 x1 x2 x3 x5 x6 x8 x10 x11 x12 x13 x14 x15 x16 x17 x18 x19 x20 x21 x22 x23 x24 x25 x26 x27 x28 x29 x30 x31 x32 x33 x34 x35 x36 x37 x38 x39 x40 x41 x42 x43 x44 x45 x46 x47 x48 : Value) (r : Nat) (zz : Array Value), a = { tmps := #[x0, x1, x2, x3, .pointer (some ⟨w.heap.size, 0, none⟩), x5, x6, .pointer (some ⟨w.heap.size + 1, 0, none⟩), x8, .pointer (some ⟨r, 0, none⟩), x10, x11, x12, x13, x14, x15, x16, x17, x18, x19, x20, x21, x22, x23, x24, x25, x26, x27, x28, x29, x30, x31, x32, x33, x34, x35, x36, x37, x38, x39, x40, x41, x42, x43, x44, x45, x46, x47, x48], defers := [] } ∧ Hid (Lb w W (bx3 w 57 #[.int .u32 0, .int .u32 0, .bool false, nilV] #[.int .u32 0, .int .u32 0, .bool false, nilV] zz) r 0 80)) (fun _ _ => 0) rfl ?first ?pass
  case first =>
    go_wp2_with fail
    rw [← hW0]
    clear hW0
    refine HO.out.mono ?_
    rintro e W1 ⟨r, hh, ao', cap', a2, c2, rfl, h1, hc1, hc2, ha2⟩
    have H1 : Hid _ := h1
    have HA : Hid _ := ha2
    clear h1 HO ha2
    go_wp2_with fail
    refine (rx_u64 H1.out x0 HX.out (by decide) hsl).mono ?_
    rintro e W2 ⟨rfl, hx⟩
    have H2 : Hid _ := hx
    clear hx H1
    go_wp2_with fail
    refine (magic_bad H2.out x0 mHave hx0).mono ?_
    rintro e W3 ⟨rfl, hx⟩
    have H3 : Hid _ := hx
    clear hx H2
    go_wp2
    go_step3
    exact ⟨rfl, _, _, _, _, _, _, _, _, _, _, _, _, _, _, _, _, _, _, _, _, _, _, _, _, _, _, _, _, _, _, _, _, _, _, _, _, _, _, _, _, _, _, _, _, _, _, _, _, rfl, H3.out.lb⟩
  case pass =>
    clear HO HC hW0
    rintro a W ⟨x0, x1, x2, x3, x5, x6, x8, x10, x11, x12, x13, x14, x15, x16, x17, x18, x19, x20, x21, x22, x23, x24, x25, x26, x27, x28, x29, x30, x31, x32, x33, x34, x35, x36, x37, x38, x39, x40, x41, x42, x43, x44, x45, x46, x47, x48, r, zz, rfl, HL⟩
    have hn1 : ¬ (w.heap.size = r) := (HL.out.box _ (.head _)).2.2
    have hn2 : ¬ (r = w.heap.size) := fun e => hn1 e.symm
    have r3 := HL.out.cn
    have r4 := HL.out.ce
    obtain ⟨c00, f00⟩ := HL.out.b (.head _) 0
    obtain ⟨c10, f10⟩ := HL.out.b (.tail _ (.head _)) 0
    obtain ⟨c01, f01⟩ := HL.out.b (.head _) 1
    obtain ⟨c11, f11⟩ := HL.out.b (.tail _ (.head _)) 1
    obtain ⟨c02, f02⟩ := HL.out.b (.head _) 2
    obtain ⟨c12, f12⟩ := HL.out.b (.tail _ (.head _)) 2
    obtain ⟨c03, f03⟩ := HL.out.b (.head _) 3
    obtain ⟨c13, f13⟩ := HL.out.b (.tail _ (.head _)) 3
    simp at c00 c10 c01 c11 c02 c12 c03 c13
    go_wp2
    go_region
    all_goals
      go_wp2
      rw [jump_ret]
      exact bodyPost_ret (results_cell_tmp2 rfl _ _ w.heap.size 57 #[.int .u32 0, .int .u32 0, .bool false, nilV] (0, 0) _ rfl (put_box (put_box (put_box (put_box (HL.out.box _ (.head _)).1 0 (.int .u32 0) rfl) 1 (.int .u32 0) rfl) 2 (.bool false) rfl) 3 (nilV) rfl) Try.underlying57 rfl infoOpt) rfl ⟨rfl, below_drew (setAll_below [(w.heap.size, 0, .int .u32 0), (w.heap.size, 1, .int .u32 0), (w.heap.size, 2, .bool false), (w.heap.size, 3, nilV)] W HL.out.bel (by simp))⟩
set_option maxHeartbeats 8000000 in
theorem decReply_magic (b off cap n : Nat) (l : List Nat) (most : Nat) (x0 : Nat) (w : World) (h : CRow w (some ⟨b, off, none⟩) cap l) (HN : Hid (l.length = n)) (hs : 20 ≤ n) (HX : Hid (valB ((l.drop 0).take 8) = x0)) (hx0 : x0 ≠ mReply) :
    Calls Try.prog 72 #[.slice (some ⟨b, off, none⟩) n cap, .int .u32 (most : Int)] w fun e w' => e = .returned (.tuple #[.agg #[.int .u32 0, .int .u32 0, nilV], .int .i64 0, .int .i64 80]) ∧ Below w.heap.size w w' := by
  have hnl := h.row.len
  rw [HN.out] at hnl
  have hsl : 20 ≤ l.length := by rw [HN.out]; exact hs
  have HC : Hid (CRow w (some ⟨b, off, none⟩) cap l) := h
  obtain ⟨W0, hW0⟩ : ∃ W0, W0 = (((w.alloc (.cells #[.int .u32 0, .int .u32 0, nilV] 62)).alloc (.cells #[.int .u32 0, .int .u32 0, nilV] 62)).alloc (.cells #[.int .u32 0, .int .u32 0, nilV] 62)) := ⟨_, rfl⟩
  have HO : Hid (Calls Try.prog 99 #[.slice (some ⟨b, off, none⟩) n cap, .int .i64 20] W0 fun e W' => ∃ r hh ao' cap' a2 c2, e = .returned (.pointer (some ⟨r, 0, none⟩)) ∧ Dec w W' (bx3 w 62 #[.int .u32 0, .int .u32 0, nilV] #[.int .u32 0, .int .u32 0, nilV] #[.int .u32 0, .int .u32 0, nilV]) W0.heap.size r hh ao' cap' (l.take 20) 0 (.slice (some a2) (n - 20) c2) 0 20 0 ∧ n - 20 ≤ c2 ∧ c2 ≤ 9223372036854775807 ∧ (n - 20 ≠ 0 → a2 = ⟨b, off + 20, none⟩)) := by
    rw [hW0]; exact open_ok b off cap n 20 l (bx3_bel w _ _ _) (bx3_new w _ _ _ _) (bx3_nd w _ _ _ _) (h.later (bx3_bel w _ _ _)) HN hs (by decide) (by decide)
  clear h
  go_enter Try.func72, Try.ntmps72
  go_wp2
  refine wp_scope_jumps 0 (fun a W => ∃ (x0 x1 x2 x3 x5 x6 x8 x10 x11 x12 x13 x14 x15 x16 x17 x18 x19 x20 x21 x22 x23 x24 x25 x26 x27 x28 x29 x30 x31 x32 x33 x34 x35 x36 x37 x38 x39 x40 x41 x42 : Value) (r : Nat) (zz : Array Value), a = { tmps := #[x0, x1, x2, x3, .pointer (some ⟨w.heap.size, 0, none⟩), x5, x6, .pointer (some ⟨w.heap.size + 1, 0, none⟩), x8, .pointer (some ⟨r, 0, none⟩), x10, x11, x12, x13, x14, x15, x16, x17, x18, x19, x20, x21, x22, x23, x24, x25, x26, x27, x28, x29, x30, x31, x32, x33, x34, x35, x36, x37, x38, x39, x40, x41, x42], defers := [] } ∧ Hid (Lb w W (bx3 w 62 #[.int .u32 0, .int .u32 0, nilV] #[.int .u32 0, .int .u32 0, nilV] zz) r 0 80)) (fun _ _ => 0) rfl ?first ?pass
  case first =>
    go_wp2_with fail
    rw [← hW0]
    clear hW0
    refine HO.out.mono ?_
    rintro e W1 ⟨r, hh, ao', cap', a2, c2, rfl, h1, hc1, hc2, ha2⟩
    have H1 : Hid _ := h1
    have HA : Hid _ := ha2
    clear h1 HO ha2
    go_wp2_with fail
    refine (rx_u64 H1.out x0 HX.out (by decide) hsl).mono ?_
    rintro e W2 ⟨rfl, hx⟩
    have H2 : Hid _ := hx
    clear hx H1
    go_wp2_with fail
    refine (magic_bad H2.out x0 mReply hx0).mono ?_
    rintro e W3 ⟨rfl, hx⟩
    have H3 : Hid _ := hx
    clear hx H2
    go_wp2
    go_step3
    exact ⟨rfl, _, _, _, _, _, _, _, _, _, _, _, _, _, _, _, _, _, _, _, _, _, _, _, _, _, _, _, _, _, _, _, _, _, _, _, _, _, _, _, _, _, _, rfl, H3.out.lb⟩
  case pass =>
    clear HO HC hW0
    rintro a W ⟨x0, x1, x2, x3, x5, x6, x8, x10, x11, x12, x13, x14, x15, x16, x17, x18, x19, x20, x21, x22, x23, x24, x25, x26, x27, x28, x29, x30, x31, x32, x33, x34, x35, x36, x37, x38, x39, x40, x41, x42, r, zz, rfl, HL⟩
    have hn1 : ¬ (w.heap.size = r) := (HL.out.box _ (.head _)).2.2
    have hn2 : ¬ (r = w.heap.size) := fun e => hn1 e.symm
    have r3 := HL.out.cn
    have r4 := HL.out.ce
    obtain ⟨c00, f00⟩ := HL.out.b (.head _) 0
    obtain ⟨c10, f10⟩ := HL.out.b (.tail _ (.head _)) 0
    obtain ⟨c01, f01⟩ := HL.out.b (.head _) 1
    obtain ⟨c11, f11⟩ := HL.out.b (.tail _ (.head _)) 1
    obtain ⟨c02, f02⟩ := HL.out.b (.head _) 2
    obtain ⟨c12, f12⟩ := HL.out.b (.tail _ (.head _)) 2
    simp at c00 c10 c01 c11 c02 c12
    go_wp2
    go_region
    all_goals
      go_wp2
      rw [jump_ret]
      exact bodyPost_ret (results_cell_tmp2 rfl _ _ w.heap.size 62 #[.int .u32 0, .int .u32 0, nilV] (0, 0) _ rfl (put_box (put_box (put_box (HL.out.box _ (.head _)).1 0 (.int .u32 0) rfl) 1 (.int .u32 0) rfl) 2 (nilV) rfl) Try.underlying62 rfl infoRep) rfl ⟨rfl, below_drew (setAll_below [(w.heap.size, 0, .int .u32 0), (w.heap.size, 1, .int .u32 0), (w.heap.size, 2, nilV)] W HL.out.bel (by simp))⟩
end Go.Proofs.Ytckfmpoddmccfaa
