import Derived.Test.YtckfmpoddmccfaaJR
import Derived.Test.YtckfmpoddmccfaaJKy
namespace Go.Proofs.Ytckfmpoddmccfaa
open Go.RowKit
set_option linter.unusedVariables false
set_option linter.unusedSimpArgs false
set_option maxRecDepth 100000
set_option maxHeartbeats 4000000 in
theorem decRequest0_short (ao : Option Addr) (cap n : Nat) (most : Nat) (w : World) (h : n < 28) :
    Calls Try.prog 78 #[.slice ao n cap, .int .u32 (most : Int), .bool false] w fun e w' => e = .returned (.tuple #[.agg #[.int .u16 0, .int .u16 0, .int .u64 0, .int .u64 0, .int .u64 0, nilV], .int .i64 28, .int .i64 10]) ∧ Below w.heap.size w w' := by
  obtain ⟨W0, hW0⟩ : ∃ W0, W0 = (((w.alloc (.cells #[.int .u16 0, .int .u16 0, .int .u64 0, .int .u64 0, .int .u64 0, nilV] 60)).alloc (.cells #[.int .u16 0, .int .u16 0, .int .u64 0, .int .u64 0, .int .u64 0, nilV] 60)).alloc (.cells #[.int .u16 0, .int .u16 0, .int .u64 0, .int .u64 0, .int .u64 0, nilV] 60)) := ⟨_, rfl⟩
  obtain ⟨W1, hW1⟩ : ∃ W1, W1 = W0.alloc (nhO 28) := ⟨_, rfl⟩
  have HO : Hid (Calls Try.prog 99 #[.slice ao n cap, .int .i64 28] W0 fun e W' => e = .returned (.pointer (some ⟨W0.heap.size, 0, none⟩)) ∧ W' = W1) := by rw [hW1]; exact open_short ao cap n 28 W0 h (by decide)
  have hN : Nh W1 W0.heap.size 28 := ⟨by rw [hW1]; exact heap_new W0 _⟩
  have HL : Hid (Lb w W1 (bx3 w 60 #[.int .u16 0, .int .u16 0, .int .u64 0, .int .u64 0, .int .u64 0, nilV] #[.int .u16 0, .int .u16 0, .int .u64 0, .int .u64 0, .int .u64 0, nilV] #[.int .u16 0, .int .u16 0, .int .u64 0, .int .u64 0, .int .u64 0, nilV]) W0.heap.size 28 10) := by rw [hW1, hW0]; exact lb_short (bx3_bel w _ _ _) (bx3_new w _ _ _ _) 28
  have HH : Hid (∀ W : World, Calls Try.prog 91 #[.bool false] W fun e W' => e = .returned (.tuple #[.int .u32 (mReq : Nat), .int .i64 28]) ∧ W' = W) := fun W => by
    go_enter Try.func91, Try.ntmps91
    go_wp2
    go_ret2
    exact ⟨rfl, rfl⟩
  have HU0 : Hid (Calls Try.prog 108 #[.pointer (some ⟨W0.heap.size, 0, none⟩), .int .u32 (mReq : Nat)] W1 fun e W' => e = .returned (.bool false) ∧ W' = W1) := nh_magic32 hN mReq (by decide)
  clear hN hW1
  generalize hr : W0.heap.size = r at *
  clear hr
  go_enter Try.func78, Try.ntmps78
  go_wp2
  refine wp_scope_jumps 0 (fun a W => ∃ (x0 x1 x2 x3 x4 x5 x7 x8 x10 x11 x12 x14 x15 x16 x17 x18 x19 x20 x21 x22 x23 x24 x25 x26 x27 x28 x29 x30 x31 x32 x33 x34 x35 x36 x37 x38 x39 x40 x41 x42 x43 x44 x45 x46 x47 x48 x49 x50 x51 x52 x53 x54 x55 x56 x57 x58 x59 x60 x61 x62 x63 x64 x65 : Value) (r : Nat) (zz : Array Value), a = { tmps := #[x0, x1, x2, x3, x4, x5, .pointer (some ⟨w.heap.size, 0, none⟩), x7, x8, .pointer (some ⟨w.heap.size + 1, 0, none⟩), x10, x11, x12, .pointer (some ⟨r, 0, none⟩), x14, x15, x16, x17, x18, x19, x20, x21, x22, x23, x24, x25, x26, x27, x28, x29, x30, x31, x32, x33, x34, x35, x36, x37, x38, x39, x40, x41, x42, x43, x44, x45, x46, x47, x48, x49, x50, x51, x52, x53, x54, x55, x56, x57, x58, x59, x60, x61, x62, x63, x64, x65], defers := [] } ∧ Hid (Lb w W (bx3 w 60 #[.int .u16 0, .int .u16 0, .int .u64 0, .int .u64 0, .int .u64 0, nilV] #[.int .u16 0, .int .u16 0, .int .u64 0, .int .u64 0, .int .u64 0, nilV] zz) r 28 10)) (fun _ _ => 0) rfl ?first ?pass
  case first =>
    go_wp2_with fail
    refine (HH.out _).mono ?_
    rintro e W9 ⟨rfl, hw⟩
    rw [hw]; clear hw HH
    go_wp2_with fail
    rw [← hW0]
    clear hW0
    refine HO.out.mono ?_
    rintro e W9 ⟨rfl, hw⟩
    rw [hw]; clear hw HO
    go_wp2_with fail
    refine HU0.out.mono ?_
    rintro e W9 ⟨rfl, hw⟩
    rw [hw]; clear hw HU0
    go_wp2
    go_step3
    exact ⟨rfl, _, _, _, _, _, _, _, _, _, _, _, _, _, _, _, _, _, _, _, _, _, _, _, _, _, _, _, _, _, _, _, _, _, _, _, _, _, _, _, _, _, _, _, _, _, _, _, _, _, _, _, _, _, _, _, _, _, _, _, _, _, _, _, _, _, rfl, HL⟩
  case pass =>
    clear HL HO hW0 HU0 HH
    rintro a W ⟨x0, x1, x2, x3, x4, x5, x7, x8, x10, x11, x12, x14, x15, x16, x17, x18, x19, x20, x21, x22, x23, x24, x25, x26, x27, x28, x29, x30, x31, x32, x33, x34, x35, x36, x37, x38, x39, x40, x41, x42, x43, x44, x45, x46, x47, x48, x49, x50, x51, x52, x53, x54, x55, x56, x57, x58, x59, x60, x61, x62, x63, x64, x65, r, zz, rfl, HL⟩
    have hn1 : ¬ (w.heap.size = r) := (HL.out.box _ (.head _)).2.2
    have hn2 : ¬ (r = w.heap.size) := fun e => hn1 e.symm
    have r3 := HL.out.cn
    have r4 := HL.out.ce
    obtain ⟨c00, f00⟩ := HL.out.b (.head _) 0
    obtain ⟨c10, f10⟩ := HL.out.b (.tail _ (.head _)) 0
    obtain ⟨c01, f01⟩ := HL.out.b (.head _) 1
    obtain ⟨c11, f11⟩ := HL.out.b (.tail _ (.head _)) 1
    obtain ⟨c02, f02⟩ := HL.out.b (.head _) 2
    obtain ⟨c12, f12⟩ := HL.out.b (.tail _ (.head _)) 2
    obtain ⟨c03, f03⟩ := HL.out.b (.head _) 3
    obtain ⟨c13, f13⟩ := HL.out.b (.tail _ (.head _)) 3
    obtain ⟨c04, f04⟩ := HL.out.b (.head _) 4
    obtain ⟨c14, f14⟩ := HL.out.b (.tail _ (.head _)) 4
    obtain ⟨c05, f05⟩ := HL.out.b (.head _) 5
    obtain ⟨c15, f15⟩ := HL.out.b (.tail _ (.head _)) 5
    simp at c00 c10 c01 c11 c02 c12 c03 c13 c04 c14 c05 c15
    go_wp2
    go_region
    all_goals
      go_wp2
      rw [jump_ret]
      obtain ⟨HG, HB2⟩ := closeb6 (HL.out.box _ (.head _)).1 HL.out.bel (.int .u16 0) (.int .u16 0) (.int .u64 0) (.int .u64 0) (.int .u64 0) (nilV)
      clear HL
      generalize ((((((W.setCell ⟨w.heap.size, 0, none⟩ (.int .u16 0)).setCell ⟨w.heap.size, 1, none⟩ (.int .u16 0)).setCell ⟨w.heap.size, 2, none⟩ (.int .u64 0)).setCell ⟨w.heap.size, 3, none⟩ (.int .u64 0)).setCell ⟨w.heap.size, 4, none⟩ (.int .u64 0)).setCell ⟨w.heap.size, 5, none⟩ (nilV)).drew = Wz at HG HB2 ⊢
      exact bodyPost_ret (results_cell_tmp2 rfl _ Wz w.heap.size 60 #[.int .u16 0, .int .u16 0, .int .u64 0, .int .u64 0, .int .u64 0, nilV] (0, 0) _ rfl HG Try.underlying60 rfl infoReq) rfl ⟨rfl, HB2⟩
set_option maxHeartbeats 8000000 in
theorem decRequest0_magic (b off cap n : Nat) (l : List Nat) (most : Nat) (w : World) (h : CRow w (some ⟨b, off, none⟩) cap l) (HN : Hid (l.length = n)) (hs : 28 ≤ n) (HX0 : Hid (valB ((l.drop 0).take 4) ≠ mReq)) :
    Calls Try.prog 78 #[.slice (some ⟨b, off, none⟩) n cap, .int .u32 (most : Int), .bool false] w fun e w' => e = .returned (.tuple #[.agg #[.int .u16 0, .int .u16 0, .int .u64 0, .int .u64 0, .int .u64 0, nilV], .int .i64 0, .int .i64 80]) ∧ Below w.heap.size w w' := by
  have HXs : Hid (∀ W : World, Calls Try.prog 91 #[.bool false] W fun e W' => e = .returned (.tuple #[.int .u32 (mReq : Nat), .int .i64 28]) ∧ W' = W) := fun W => by
    go_enter Try.func91, Try.ntmps91
    go_wp2
    go_ret2
    exact ⟨rfl, rfl⟩
  have hnl := h.row.len
  rw [HN.out] at hnl
  have hsl : 28 ≤ l.length := by rw [HN.out]; exact hs
  have HC : Hid (CRow w (some ⟨b, off, none⟩) cap l) := h
  obtain ⟨W0, hW0⟩ : ∃ W0, W0 = (((w.alloc (.cells #[.int .u16 0, .int .u16 0, .int .u64 0, .int .u64 0, .int .u64 0, nilV] 60)).alloc (.cells #[.int .u16 0, .int .u16 0, .int .u64 0, .int .u64 0, .int .u64 0, nilV] 60)).alloc (.cells #[.int .u16 0, .int .u16 0, .int .u64 0, .int .u64 0, .int .u64 0, nilV] 60)) := ⟨_, rfl⟩
  have HO : Hid (Calls Try.prog 99 #[.slice (some ⟨b, off, none⟩) n cap, .int .i64 28] W0 fun e W' => ∃ r hh ao' cap' a2 c2, e = .returned (.pointer (some ⟨r, 0, none⟩)) ∧ Dec w W' (bx3 w 60 #[.int .u16 0, .int .u16 0, .int .u64 0, .int .u64 0, .int .u64 0, nilV] #[.int .u16 0, .int .u16 0, .int .u64 0, .int .u64 0, .int .u64 0, nilV] #[.int .u16 0, .int .u16 0, .int .u64 0, .int .u64 0, .int .u64 0, nilV]) W0.heap.size r hh ao' cap' (l.take 28) 0 (.slice (some a2) (n - 28) c2) 0 28 0 ∧ n - 28 ≤ c2 ∧ c2 ≤ 9223372036854775807 ∧ (n - 28 ≠ 0 → a2 = ⟨b, off + 28, none⟩)) := by
    rw [hW0]; exact open_ok b off cap n 28 l (bx3_bel w _ _ _) (bx3_new w _ _ _ _) (bx3_nd w _ _ _ _) (h.later (bx3_bel w _ _ _)) HN hs (by decide) (by decide)
  clear h
  go_enter Try.func78, Try.ntmps78
  go_wp2
  refine wp_scope_jumps 0 (fun a W => ∃ (x0 x1 x2 x3 x4 x5 x7 x8 x10 x11 x12 x14 x15 x16 x17 x18 x19 x20 x21 x22 x23 x24 x25 x26 x27 x28 x29 x30 x31 x32 x33 x34 x35 x36 x37 x38 x39 x40 x41 x42 x43 x44 x45 x46 x47 x48 x49 x50 x51 x52 x53 x54 x55 x56 x57 x58 x59 x60 x61 x62 x63 x64 x65 : Value) (r : Nat) (zz : Array Value), a = { tmps := #[x0, x1, x2, x3, x4, x5, .pointer (some ⟨w.heap.size, 0, none⟩), x7, x8, .pointer (some ⟨w.heap.size + 1, 0, none⟩), x10, x11, x12, .pointer (some ⟨r, 0, none⟩), x14, x15, x16, x17, x18, x19, x20, x21, x22, x23, x24, x25, x26, x27, x28, x29, x30, x31, x32, x33, x34, x35, x36, x37, x38, x39, x40, x41, x42, x43, x44, x45, x46, x47, x48, x49, x50, x51, x52, x53, x54, x55, x56, x57, x58, x59, x60, x61, x62, x63, x64, x65], defers := [] } ∧ Hid (Lb w W (bx3 w 60 #[.int .u16 0, .int .u16 0, .int .u64 0, .int .u64 0, .int .u64 0, nilV] #[.int .u16 0, .int .u16 0, .int .u64 0, .int .u64 0, .int .u64 0, nilV] zz) r 0 80)) (fun _ _ => 0) rfl ?first ?pass
  case first =>
    go_wp2_with fail
    refine (HXs.out _).mono ?_
    rintro e W9 ⟨rfl, hw9⟩
    rw [hw9]; clear hw9 HXs
    go_wp2_with fail
    rw [← hW0]
    clear hW0
    refine HO.out.mono ?_
    rintro e W1 ⟨r, hh, ao', cap', a2, c2, rfl, h1, hc1, hc2, ha2⟩
    have H1 : Hid _ := h1
    have HA : Hid _ := ha2
    clear h1 HO ha2
    go_wp2_with fail
    refine (magic32_bad H1.out (by rw [List.length_take]; omega) mReq (by decide) (by rw [tk _ _ _ _ (by decide)]; exact HX0.out)).mono ?_
    rintro e W2 ⟨rfl, hx⟩
    have H2 : Hid _ := hx
    clear hx H1
    go_wp2
    go_step3
    exact ⟨rfl, _, _, _, _, _, _, _, _, _, _, _, _, _, _, _, _, _, _, _, _, _, _, _, _, _, _, _, _, _, _, _, _, _, _, _, _, _, _, _, _, _, _, _, _, _, _, _, _, _, _, _, _, _, _, _, _, _, _, _, _, _, _, _, _, _, rfl, H2.out.lb⟩
  case pass =>
    clear HO HC hW0 HXs
    rintro a W ⟨x0, x1, x2, x3, x4, x5, x7, x8, x10, x11, x12, x14, x15, x16, x17, x18, x19, x20, x21, x22, x23, x24, x25, x26, x27, x28, x29, x30, x31, x32, x33, x34, x35, x36, x37, x38, x39, x40, x41, x42, x43, x44, x45, x46, x47, x48, x49, x50, x51, x52, x53, x54, x55, x56, x57, x58, x59, x60, x61, x62, x63, x64, x65, r, zz, rfl, HL⟩
    have hn1 : ¬ (w.heap.size = r) := (HL.out.box _ (.head _)).2.2
    have hn2 : ¬ (r = w.heap.size) := fun e => hn1 e.symm
    have r3 := HL.out.cn
    have r4 := HL.out.ce
    obtain ⟨c00, f00⟩ := HL.out.b (.head _) 0
    obtain ⟨c10, f10⟩ := HL.out.b (.tail _ (.head _)) 0
    obtain ⟨c01, f01⟩ := HL.out.b (.head _) 1
    obtain ⟨c11, f11⟩ := HL.out.b (.tail _ (.head _)) 1
    obtain ⟨c02, f02⟩ := HL.out.b (.head _) 2
    obtain ⟨c12, f12⟩ := HL.out.b (.tail _ (.head _)) 2
    obtain ⟨c03, f03⟩ := HL.out.b (.head _) 3
    obtain ⟨c13, f13⟩ := HL.out.b (.tail _ (.head _)) 3
    obtain ⟨c04, f04⟩ := HL.out.b (.head _) 4
    obtain ⟨c14, f14⟩ := HL.out.b (.tail _ (.head _)) 4
    obtain ⟨c05, f05⟩ := HL.out.b (.head _) 5
    obtain ⟨c15, f15⟩ := HL.out.b (.tail _ (.head _)) 5
    simp at c00 c10 c01 c11 c02 c12 c03 c13 c04 c14 c05 c15
    go_wp2
    go_region
    all_goals
      go_wp2
      rw [jump_ret]
      obtain ⟨HG, HB2⟩ := closeb6 (HL.out.box _ (.head _)).1 HL.out.bel (.int .u16 0) (.int .u16 0) (.int .u64 0) (.int .u64 0) (.int .u64 0) (nilV)
      clear HL
      generalize ((((((W.setCell ⟨w.heap.size, 0, none⟩ (.int .u16 0)).setCell ⟨w.heap.size, 1, none⟩ (.int .u16 0)).setCell ⟨w.heap.size, 2, none⟩ (.int .u64 0)).setCell ⟨w.heap.size, 3, none⟩ (.int .u64 0)).setCell ⟨w.heap.size, 4, none⟩ (.int .u64 0)).setCell ⟨w.heap.size, 5, none⟩ (nilV)).drew = Wz at HG HB2 ⊢
      exact bodyPost_ret (results_cell_tmp2 rfl _ Wz w.heap.size 60 #[.int .u16 0, .int .u16 0, .int .u64 0, .int .u64 0, .int .u64 0, nilV] (0, 0) _ rfl HG Try.underlying60 rfl infoReq) rfl ⟨rfl, HB2⟩
set_option maxHeartbeats 8000000 in
theorem decRequest0_short2 (b off cap n : Nat) (l : List Nat) (most : Nat) (f t c o k : Nat) (w : World) (h : CRow w (some ⟨b, off, none⟩) cap l) (HN : Hid (l.length = n)) (hs : 28 ≤ n) (HX0 : Hid (valB ((l.drop 0).take 4) = mReq)) (HX1 : Hid (valB ((l.drop 4).take 2) = f)) (HX2 : Hid (valB ((l.drop 6).take 2) = t)) (HX3 : Hid (valB ((l.drop 8).take 8) = c)) (HX4 : Hid (valB ((l.drop 16).take 8) = o)) (HX5 : Hid (valB ((l.drop 24).take 4) = k)) (hk64 : k < 18446744073709551616) (hm4 : most < 4294967296) (hpay : payB f t false = true) (hle : k ≤ most) (hsh : n - 28 < k) (N : Nat) (hN : 28 + k = N) :
    Calls Try.prog 78 #[.slice (some ⟨b, off, none⟩) n cap, .int .u32 (most : Int), .bool false] w fun e w' => e = .returned (.tuple #[.agg #[.int .u16 0, .int .u16 0, .int .u64 0, .int .u64 0, .int .u64 0, nilV], .int .i64 (N : Int), .int .i64 10]) ∧ Below w.heap.size w w' := by
  have HXs : Hid (∀ W : World, Calls Try.prog 91 #[.bool false] W fun e W' => e = .returned (.tuple #[.int .u32 (mReq : Nat), .int .i64 28]) ∧ W' = W) := fun W => by
    go_enter Try.func91, Try.ntmps91
    go_wp2
    go_ret2
    exact ⟨rfl, rfl⟩
  have hnl := h.row.len
  rw [HN.out] at hnl
  have hsl : 28 ≤ l.length := by rw [HN.out]; exact hs
  have HC : Hid (CRow w (some ⟨b, off, none⟩) cap l) := h
  obtain ⟨W0, hW0⟩ : ∃ W0, W0 = (((w.alloc (.cells #[.int .u16 0, .int .u16 0, .int .u64 0, .int .u64 0, .int .u64 0, nilV] 60)).alloc (.cells #[.int .u16 0, .int .u16 0, .int .u64 0, .int .u64 0, .int .u64 0, nilV] 60)).alloc (.cells #[.int .u16 0, .int .u16 0, .int .u64 0, .int .u64 0, .int .u64 0, nilV] 60)) := ⟨_, rfl⟩
  have HO : Hid (Calls Try.prog 99 #[.slice (some ⟨b, off, none⟩) n cap, .int .i64 28] W0 fun e W' => ∃ r hh ao' cap' a2 c2, e = .returned (.pointer (some ⟨r, 0, none⟩)) ∧ Dec w W' (bx3 w 60 #[.int .u16 0, .int .u16 0, .int .u64 0, .int .u64 0, .int .u64 0, nilV] #[.int .u16 0, .int .u16 0, .int .u64 0, .int .u64 0, .int .u64 0, nilV] #[.int .u16 0, .int .u16 0, .int .u64 0, .int .u64 0, .int .u64 0, nilV]) W0.heap.size r hh ao' cap' (l.take 28) 0 (.slice (some a2) (n - 28) c2) 0 28 0 ∧ n - 28 ≤ c2 ∧ c2 ≤ 9223372036854775807 ∧ (n - 28 ≠ 0 → a2 = ⟨b, off + 28, none⟩)) := by
    rw [hW0]; exact open_ok b off cap n 28 l (bx3_bel w _ _ _) (bx3_new w _ _ _ _) (bx3_nd w _ _ _ _) (h.later (bx3_bel w _ _ _)) HN hs (by decide) (by decide)
  clear h
  go_enter Try.func78, Try.ntmps78
  go_wp2
  refine wp_scope_jumps 0 (fun a W => ∃ (x0 x1 x2 x3 x4 x5 x7 x8 x10 x11 x12 x14 x15 x16 x17 x18 x19 x20 x21 x22 x23 x24 x25 x26 x27 x28 x29 x30 x31 x32 x33 x34 x35 x36 x37 x38 x39 x40 x41 x42 x43 x44 x45 x46 x47 x48 x49 x50 x51 x52 x53 x54 x55 x56 x57 x58 x59 x60 x61 x62 x63 x64 x65 : Value) (r : Nat) (zz : Array Value), a = { tmps := #[x0, x1, x2, x3, x4, x5, .pointer (some ⟨w.heap.size, 0, none⟩), x7, x8, .pointer (some ⟨w.heap.size + 1, 0, none⟩), x10, x11, x12, .pointer (some ⟨r, 0, none⟩), x14, x15, x16, x17, x18, x19, x20, x21, x22, x23, x24, x25, x26, x27, x28, x29, x30, x31, x32, x33, x34, x35, x36, x37, x38, x39, x40, x41, x42, x43, x44, x45, x46, x47, x48, x49, x50, x51, x52, x53, x54, x55, x56, x57, x58, x59, x60, x61, x62, x63, x64, x65], defers := [] } ∧ Hid (Lb w W (bx3 w 60 #[.int .u16 0, .int .u16 0, .int .u64 0, .int .u64 0, .int .u64 0, nilV] #[.int .u16 0, .int .u16 0, .int .u64 0, .int .u64 0, .int .u64 0, nilV] zz) r (N : Int) 10)) (fun _ _ => 0) rfl ?first ?pass
  case first =>
    go_wp2_with fail
    refine (HXs.out _).mono ?_
    rintro e W9 ⟨rfl, hw9⟩
    rw [hw9]; clear hw9 HXs
    go_wp2_with fail
    rw [← hW0]
    clear hW0
    refine HO.out.mono ?_
    rintro e W1 ⟨r, hh, ao', cap', a2, c2, rfl, h1, hc1, hc2, ha2⟩
    have H1 : Hid _ := h1
    have HA : Hid _ := ha2
    clear h1 HO ha2
    go_wp2_with fail
    refine (magic32_ok H1.out (by rw [List.length_take]; omega) mReq (by rw [tk _ _ _ _ (by decide)]; exact HX0.out)).mono ?_
    rintro e W2 ⟨rfl, hx⟩
    have H2 : Hid _ := hx
    clear hx H1
    go_wp2_with fail
    refine (rx_u16 H2.out f HX1.out (by decide) hsl).mono ?_
    rintro e W3 ⟨rfl, hx⟩
    have H3 : Hid _ := hx
    clear hx H2
    go_wp2_with fail
    refine (rx_u16 H3.out t HX2.out (by decide) hsl).mono ?_
    rintro e W4 ⟨rfl, hx⟩
    have H4 : Hid _ := hx
    clear hx H3
    obtain ⟨s0, u0⟩ := H4.out.b (.tail _ (.tail _ (.head _))) 0
    simp at s0
    obtain ⟨s1, u1⟩ := H4.out.b (.tail _ (.tail _ (.head _))) 1
    simp at s1
    go_wp2_with fail
    replace H4 : Hid _ := H4.out.putS 0 (.int .u16 (f : Int)) #[.int .u16 (f : Int), .int .u16 0, .int .u64 0, .int .u64 0, .int .u64 0, nilV] rfl
    replace H4 : Hid _ := H4.out.putS 1 (.int .u16 (t : Int)) #[.int .u16 (f : Int), .int .u16 (t : Int), .int .u64 0, .int .u64 0, .int .u64 0, nilV] rfl
    refine (rx_u64 H4.out c HX3.out (by decide) hsl).mono ?_
    rintro e W5 ⟨rfl, hx⟩
    have H5 : Hid _ := hx
    clear hx H4 s0 u0 s1 u1
    go_wp2_with fail
    refine (rx_u64 H5.out o HX4.out (by decide) hsl).mono ?_
    rintro e W6 ⟨rfl, hx⟩
    have H6 : Hid _ := hx
    clear hx H5
    go_wp2_with fail
    refine (rx_number_plain H6.out k HX5.out (by decide) hsl).mono ?_
    rintro e W7 ⟨rfl, hx⟩
    have H7 : Hid _ := hx
    clear hx H6
    obtain ⟨s2, u2⟩ := H7.out.b (.tail _ (.tail _ (.head _))) 2
    simp at s2
    obtain ⟨s3, u3⟩ := H7.out.b (.tail _ (.tail _ (.head _))) 3
    simp at s3
    obtain ⟨s4, u4⟩ := H7.out.b (.tail _ (.tail _ (.head _))) 4
    simp at s4
    obtain ⟨s0, u0⟩ := H7.out.b (.tail _ (.tail _ (.head _))) 0
    simp at s0
    obtain ⟨s1, u1⟩ := H7.out.b (.tail _ (.tail _ (.head _))) 1
    simp at s1
    obtain ⟨s5, u5⟩ := H7.out.b (.tail _ (.tail _ (.head _))) 5
    simp at s5
    go_wp2_with fail
    replace H7 : Hid _ := H7.out.putS 2 (.int .u64 (c : Int)) #[.int .u16 (f : Int), .int .u16 (t : Int), .int .u64 (c : Int), .int .u64 0, .int .u64 0, nilV] rfl
    replace H7 : Hid _ := H7.out.putS 3 (.int .u64 (o : Int)) #[.int .u16 (f : Int), .int .u16 (t : Int), .int .u64 (c : Int), .int .u64 (o : Int), .int .u64 0, nilV] rfl
    replace H7 : Hid _ := H7.out.putS 4 (.int .u64 (k : Int)) #[.int .u16 (f : Int), .int .u16 (t : Int), .int .u64 (c : Int), .int .u64 (o : Int), .int .u64 (k : Int), nilV] rfl
    refine (pay_any f t c o k none 0 [] false _).mono ?_
    rintro e W8 ⟨rfl, hb9⟩
    have H8 : Hid _ := H7.out.later hb9
    clear hb9 H7 s2 u2 s3 u3 s4 u4 s0 u0 s1 u1 s5 u5
    rw [hpay]
    obtain ⟨s4, u4⟩ := H8.out.b (.tail _ (.tail _ (.head _))) 4
    simp at s4
    go_wp2_with fail
    refine (measure_rest H8.out (by decide) (by omega) k most hm4 hle N hN).mono ?_
    rintro e W9 hx
    have HX9 : Hid _ := hx
    clear hx H8 s4 u4
    rcases Or.symm HX9.out with ⟨hx, _⟩ | ⟨_, rfl, hx⟩
    · omega
    have H9 : Hid _ := hx
    clear hx HX9
    go_wp2
    go_step3
    exact ⟨rfl, _, _, _, _, _, _, _, _, _, _, _, _, _, _, _, _, _, _, _, _, _, _, _, _, _, _, _, _, _, _, _, _, _, _, _, _, _, _, _, _, _, _, _, _, _, _, _, _, _, _, _, _, _, _, _, _, _, _, _, _, _, _, _, _, _, rfl, H9.out.lb⟩
  case pass =>
    clear HO HC hW0 HXs
    rintro a W ⟨x0, x1, x2, x3, x4, x5, x7, x8, x10, x11, x12, x14, x15, x16, x17, x18, x19, x20, x21, x22, x23, x24, x25, x26, x27, x28, x29, x30, x31, x32, x33, x34, x35, x36, x37, x38, x39, x40, x41, x42, x43, x44, x45, x46, x47, x48, x49, x50, x51, x52, x53, x54, x55, x56, x57, x58, x59, x60, x61, x62, x63, x64, x65, r, zz, rfl, HL⟩
    have hn1 : ¬ (w.heap.size = r) := (HL.out.box _ (.head _)).2.2
    have hn2 : ¬ (r = w.heap.size) := fun e => hn1 e.symm
    have r3 := HL.out.cn
    have r4 := HL.out.ce
    obtain ⟨c00, f00⟩ := HL.out.b (.head _) 0
    obtain ⟨c10, f10⟩ := HL.out.b (.tail _ (.head _)) 0
    obtain ⟨c01, f01⟩ := HL.out.b (.head _) 1
    obtain ⟨c11, f11⟩ := HL.out.b (.tail _ (.head _)) 1
    obtain ⟨c02, f02⟩ := HL.out.b (.head _) 2
    obtain ⟨c12, f12⟩ := HL.out.b (.tail _ (.head _)) 2
    obtain ⟨c03, f03⟩ := HL.out.b (.head _) 3
    obtain ⟨c13, f13⟩ := HL.out.b (.tail _ (.head _)) 3
    obtain ⟨c04, f04⟩ := HL.out.b (.head _) 4
    obtain ⟨c14, f14⟩ := HL.out.b (.tail _ (.head _)) 4
    obtain ⟨c05, f05⟩ := HL.out.b (.head _) 5
    obtain ⟨c15, f15⟩ := HL.out.b (.tail _ (.head _)) 5
    simp at c00 c10 c01 c11 c02 c12 c03 c13 c04 c14 c05 c15
    go_wp2
    go_region
    all_goals
      go_wp2
      rw [jump_ret]
      obtain ⟨HG, HB2⟩ := closeb6 (HL.out.box _ (.head _)).1 HL.out.bel (.int .u16 0) (.int .u16 0) (.int .u64 0) (.int .u64 0) (.int .u64 0) (nilV)
      clear HL
      generalize ((((((W.setCell ⟨w.heap.size, 0, none⟩ (.int .u16 0)).setCell ⟨w.heap.size, 1, none⟩ (.int .u16 0)).setCell ⟨w.heap.size, 2, none⟩ (.int .u64 0)).setCell ⟨w.heap.size, 3, none⟩ (.int .u64 0)).setCell ⟨w.heap.size, 4, none⟩ (.int .u64 0)).setCell ⟨w.heap.size, 5, none⟩ (nilV)).drew = Wz at HG HB2 ⊢
      exact bodyPost_ret (results_cell_tmp2 rfl _ Wz w.heap.size 60 #[.int .u16 0, .int .u16 0, .int .u64 0, .int .u64 0, .int .u64 0, nilV] (0, 0) _ rfl HG Try.underlying60 rfl infoReq) rfl ⟨rfl, HB2⟩
end Go.Proofs.Ytckfmpoddmccfaa
