import Derived.Test.YtckfmpoddmccfaaJKy
import Derived.Test.YtckfmpoddmccfaaNZ
namespace Go.Proofs.Ytckfmpoddmccfaa
open Go.RowKit
set_option linter.unusedVariables false
set_option linter.unusedSimpArgs false
set_option maxRecDepth 100000
set_option maxHeartbeats 8000000 in
theorem decExport0_form (b off cap n : Nat) (l : List Nat)  (w : World) (h : CRow w (some ⟨b, off, none⟩) cap l) (HN : Hid (l.length = n)) (hs : 10 ≤ n) (HZ : Hid (∃ x ∈ (l.take 10).drop 10, x ≠ 0)) :
    Calls Try.prog 75 #[.slice (some ⟨b, off, none⟩) n cap, .bool false] w fun e w' => e = .returned (.tuple #[.agg #[.int .u64 0, .int .u16 0], .int .i64 0, .int .i64 81]) ∧ Below w.heap.size w w' := by
  obtain ⟨s, HX0⟩ : ∃ s, Hid (valB ((l.drop 0).take 8) = s) := ⟨_, rfl⟩
  obtain ⟨f, HX1⟩ : ∃ f, Hid (valB ((l.drop 8).take 2) = f) := ⟨_, rfl⟩
  have HXs : Hid (∀ W : World, Calls Try.prog 106 #[.bool false] W fun e W' => e = .returned (.int .i64 10) ∧ W' = W) := fun W => by
    go_enter Try.func106, Try.ntmps106
    go_wp2
    go_ret
    exact ⟨rfl, rfl⟩
  have hnl := h.row.len
  rw [HN.out] at hnl
  have hsl : 10 ≤ l.length := by rw [HN.out]; exact hs
  have HC : Hid (CRow w (some ⟨b, off, none⟩) cap l) := h
  obtain ⟨W0, hW0⟩ : ∃ W0, W0 = (((w.alloc (.cells #[.int .u64 0, .int .u16 0] 96)).alloc (.cells #[.int .u64 0, .int .u16 0] 96)).alloc (.cells #[.int .u64 0, .int .u16 0] 96)) := ⟨_, rfl⟩
  have HO : Hid (Calls Try.prog 99 #[.slice (some ⟨b, off, none⟩) n cap, .int .i64 10] W0 fun e W' => ∃ r hh ao' cap' a2 c2, e = .returned (.pointer (some ⟨r, 0, none⟩)) ∧ Dec w W' (bx3 w 96 #[.int .u64 0, .int .u16 0] #[.int .u64 0, .int .u16 0] #[.int .u64 0, .int .u16 0]) W0.heap.size r hh ao' cap' (l.take 10) 0 (.slice (some a2) (n - 10) c2) 0 10 0 ∧ n - 10 ≤ c2 ∧ c2 ≤ 9223372036854775807 ∧ (n - 10 ≠ 0 → a2 = ⟨b, off + 10, none⟩)) := by
    rw [hW0]; exact open_ok b off cap n 10 l (bx3_bel w _ _ _) (bx3_new w _ _ _ _) (bx3_nd w _ _ _ _) (h.later (bx3_bel w _ _ _)) HN hs (by decide) (by decide)
  clear h
  go_enter Try.func75, Try.ntmps75
  go_wp2
  refine wp_scope_jumps 0 (fun a W => ∃ (x0 x1 x2 x3 x5 x6 x8 x10 x11 x12 x13 x14 x15 x16 x17 x18 x19 x20 x21 x22 x23 x24 x25 x26 x27 x28 x29 x30 x31 x32 : Value) (r : Nat) (zz : Array Value), a = { tmps := #[x0, x1, x2, x3, .pointer (some ⟨w.heap.size, 0, none⟩), x5, x6, .pointer (some ⟨w.heap.size + 1, 0, none⟩), x8, .pointer (some ⟨r, 0, none⟩), x10, x11, x12, x13, x14, x15, x16, x17, x18, x19, x20, x21, x22, x23, x24, x25, x26, x27, x28, x29, x30, x31, x32], defers := [] } ∧ Hid (Lb w W (bx3 w 96 #[.int .u64 0, .int .u16 0] #[.int .u64 0, .int .u16 0] zz) r 0 81)) (fun _ _ => 0) rfl ?first ?pass
  case first =>
    go_wp2_with fail
    refine (HXs.out _).mono ?_
    rintro e W9 ⟨rfl, hw9⟩
    rw [hw9]; clear hw9
    go_wp2_with fail
    rw [← hW0]
    clear hW0
    refine HO.out.mono ?_
    rintro e W1 ⟨r, hh, ao', cap', a2, c2, rfl, h1, hc1, hc2, ha2⟩
    have H1 : Hid _ := h1
    have HA : Hid _ := ha2
    clear h1 HO ha2
    go_wp2_with fail
    refine (rx_u64 H1.out s HX0.out (by decide) hsl).mono ?_
    rintro e W2 ⟨rfl, hx⟩
    have H2 : Hid _ := hx
    clear hx H1
    go_wp2_with fail
    refine (rx_u16 H2.out f HX1.out (by decide) hsl).mono ?_
    rintro e W3 ⟨rfl, hx⟩
    have H3 : Hid _ := hx
    clear hx H2
    obtain ⟨s0, u0⟩ := H3.out.b (.tail _ (.tail _ (.head _))) 0
    simp at s0
    obtain ⟨s1, u1⟩ := H3.out.b (.tail _ (.tail _ (.head _))) 1
    simp at s1
    go_wp2_with fail
    replace H3 : Hid _ := H3.out.putS 0 (.int .u64 (s : Int)) #[.int .u64 (s : Int), .int .u16 0] rfl
    replace H3 : Hid _ := H3.out.putS 1 (.int .u16 (f : Int)) #[.int .u64 (s : Int), .int .u16 (f : Int)] rfl
    refine (zeros_bad H3.out (by rw [List.length_take]; omega) (by rw [List.length_take]; omega) HZ.out).mono ?_
    rintro e W4 ⟨rfl, hx⟩
    have H4 : Hid _ := hx
    clear hx H3 s0 u0 s1 u1
    go_wp2
    go_step3
    exact ⟨rfl, _, _, _, _, _, _, _, _, _, _, _, _, _, _, _, _, _, _, _, _, _, _, _, _, _, _, _, _, _, _, _, _, rfl, H4.out.lb⟩
  case pass =>
    clear HO HC hW0 HXs
    rintro a W ⟨x0, x1, x2, x3, x5, x6, x8, x10, x11, x12, x13, x14, x15, x16, x17, x18, x19, x20, x21, x22, x23, x24, x25, x26, x27, x28, x29, x30, x31, x32, r, zz, rfl, HL⟩
    have hn1 : ¬ (w.heap.size = r) := (HL.out.box _ (.head _)).2.2
    have hn2 : ¬ (r = w.heap.size) := fun e => hn1 e.symm
    have r3 := HL.out.cn
    have r4 := HL.out.ce
    obtain ⟨c00, f00⟩ := HL.out.b (.head _) 0
    obtain ⟨c10, f10⟩ := HL.out.b (.tail _ (.head _)) 0
    obtain ⟨c01, f01⟩ := HL.out.b (.head _) 1
    obtain ⟨c11, f11⟩ := HL.out.b (.tail _ (.head _)) 1
    simp at c00 c10 c01 c11
    go_wp2
    go_region
    all_goals
      go_wp2
      rw [jump_ret]
      obtain ⟨HG, HB2⟩ := closeb2 (HL.out.box _ (.head _)).1 HL.out.bel (.int .u64 0) (.int .u16 0)
      clear HL
      generalize ((W.setCell ⟨w.heap.size, 0, none⟩ (.int .u64 0)).setCell ⟨w.heap.size, 1, none⟩ (.int .u16 0)).drew = Wz at HG HB2 ⊢
      exact bodyPost_ret (results_cell_tmp2 rfl _ Wz w.heap.size 96 #[.int .u64 0, .int .u16 0] (0, 0) _ rfl HG Try.underlying96 rfl infoExp) rfl ⟨rfl, HB2⟩
set_option maxHeartbeats 8000000 in
theorem decExport1_form (b off cap n : Nat) (l : List Nat)  (w : World) (h : CRow w (some ⟨b, off, none⟩) cap l) (HN : Hid (l.length = n)) (hs : 134 ≤ n) (HZ : Hid (∃ x ∈ (l.take 134).drop 10, x ≠ 0)) :
    Calls Try.prog 75 #[.slice (some ⟨b, off, none⟩) n cap, .bool true] w fun e w' => e = .returned (.tuple #[.agg #[.int .u64 0, .int .u16 0], .int .i64 0, .int .i64 81]) ∧ Below w.heap.size w w' := by
  obtain ⟨s, HX0⟩ : ∃ s, Hid (valB ((l.drop 0).take 8) = s) := ⟨_, rfl⟩
  obtain ⟨f, HX1⟩ : ∃ f, Hid (valB ((l.drop 8).take 2) = f) := ⟨_, rfl⟩
  have HXs : Hid (∀ W : World, Calls Try.prog 106 #[.bool true] W fun e W' => e = .returned (.int .i64 134) ∧ W' = W) := fun W => by
    go_enter Try.func106, Try.ntmps106
    go_wp2
    go_ret
    exact ⟨rfl, rfl⟩
  have hnl := h.row.len
  rw [HN.out] at hnl
  have hsl : 134 ≤ l.length := by rw [HN.out]; exact hs
  have HC : Hid (CRow w (some ⟨b, off, none⟩) cap l) := h
  obtain ⟨W0, hW0⟩ : ∃ W0, W0 = (((w.alloc (.cells #[.int .u64 0, .int .u16 0] 96)).alloc (.cells #[.int .u64 0, .int .u16 0] 96)).alloc (.cells #[.int .u64 0, .int .u16 0] 96)) := ⟨_, rfl⟩
  have HO : Hid (Calls Try.prog 99 #[.slice (some ⟨b, off, none⟩) n cap, .int .i64 134] W0 fun e W' => ∃ r hh ao' cap' a2 c2, e = .returned (.pointer (some ⟨r, 0, none⟩)) ∧ Dec w W' (bx3 w 96 #[.int .u64 0, .int .u16 0] #[.int .u64 0, .int .u16 0] #[.int .u64 0, .int .u16 0]) W0.heap.size r hh ao' cap' (l.take 134) 0 (.slice (some a2) (n - 134) c2) 0 134 0 ∧ n - 134 ≤ c2 ∧ c2 ≤ 9223372036854775807 ∧ (n - 134 ≠ 0 → a2 = ⟨b, off + 134, none⟩)) := by
    rw [hW0]; exact open_ok b off cap n 134 l (bx3_bel w _ _ _) (bx3_new w _ _ _ _) (bx3_nd w _ _ _ _) (h.later (bx3_bel w _ _ _)) HN hs (by decide) (by decide)
  clear h
  go_enter Try.func75, Try.ntmps75
  go_wp2
  refine wp_scope_jumps 0 (fun a W => ∃ (x0 x1 x2 x3 x5 x6 x8 x10 x11 x12 x13 x14 x15 x16 x17 x18 x19 x20 x21 x22 x23 x24 x25 x26 x27 x28 x29 x30 x31 x32 : Value) (r : Nat) (zz : Array Value), a = { tmps := #[x0, x1, x2, x3, .pointer (some ⟨w.heap.size, 0, none⟩), x5, x6, .pointer (some ⟨w.heap.size + 1, 0, none⟩), x8, .pointer (some ⟨r, 0, none⟩), x10, x11, x12, x13, x14, x15, x16, x17, x18, x19, x20, x21, x22, x23, x24, x25, x26, x27, x28, x29, x30, x31, x32], defers := [] } ∧ Hid (Lb w W (bx3 w 96 #[.int .u64 0, .int .u16 0] #[.int .u64 0, .int .u16 0] zz) r 0 81)) (fun _ _ => 0) rfl ?first ?pass
  case first =>
    go_wp2_with fail
    refine (HXs.out _).mono ?_
    rintro e W9 ⟨rfl, hw9⟩
    rw [hw9]; clear hw9
    go_wp2_with fail
    rw [← hW0]
    clear hW0
    refine HO.out.mono ?_
    rintro e W1 ⟨r, hh, ao', cap', a2, c2, rfl, h1, hc1, hc2, ha2⟩
    have H1 : Hid _ := h1
    have HA : Hid _ := ha2
    clear h1 HO ha2
    go_wp2_with fail
    refine (rx_u64 H1.out s HX0.out (by decide) hsl).mono ?_
    rintro e W2 ⟨rfl, hx⟩
    have H2 : Hid _ := hx
    clear hx H1
    go_wp2_with fail
    refine (rx_u16 H2.out f HX1.out (by decide) hsl).mono ?_
    rintro e W3 ⟨rfl, hx⟩
    have H3 : Hid _ := hx
    clear hx H2
    obtain ⟨s0, u0⟩ := H3.out.b (.tail _ (.tail _ (.head _))) 0
    simp at s0
    obtain ⟨s1, u1⟩ := H3.out.b (.tail _ (.tail _ (.head _))) 1
    simp at s1
    go_wp2_with fail
    replace H3 : Hid _ := H3.out.putS 0 (.int .u64 (s : Int)) #[.int .u64 (s : Int), .int .u16 0] rfl
    replace H3 : Hid _ := H3.out.putS 1 (.int .u16 (f : Int)) #[.int .u64 (s : Int), .int .u16 (f : Int)] rfl
    refine (zeros_bad H3.out (by rw [List.length_take]; omega) (by rw [List.length_take]; omega) HZ.out).mono ?_
    rintro e W4 ⟨rfl, hx⟩
    have H4 : Hid _ := hx
    clear hx H3 s0 u0 s1 u1
    go_wp2
    go_step3
    exact ⟨rfl, _, _, _, _, _, _, _, _, _, _, _, _, _, _, _, _, _, _, _, _, _, _, _, _, _, _, _, _, _, _, _, _, rfl, H4.out.lb⟩
  case pass =>
    clear HO HC hW0 HXs
    rintro a W ⟨x0, x1, x2, x3, x5, x6, x8, x10, x11, x12, x13, x14, x15, x16, x17, x18, x19, x20, x21, x22, x23, x24, x25, x26, x27, x28, x29, x30, x31, x32, r, zz, rfl, HL⟩
    have hn1 : ¬ (w.heap.size = r) := (HL.out.box _ (.head _)).2.2
    have hn2 : ¬ (r = w.heap.size) := fun e => hn1 e.symm
    have r3 := HL.out.cn
    have r4 := HL.out.ce
    obtain ⟨c00, f00⟩ := HL.out.b (.head _) 0
    obtain ⟨c10, f10⟩ := HL.out.b (.tail _ (.head _)) 0
    obtain ⟨c01, f01⟩ := HL.out.b (.head _) 1
    obtain ⟨c11, f11⟩ := HL.out.b (.tail _ (.head _)) 1
    simp at c00 c10 c01 c11
    go_wp2
    go_region
    all_goals
      go_wp2
      rw [jump_ret]
      obtain ⟨HG, HB2⟩ := closeb2 (HL.out.box _ (.head _)).1 HL.out.bel (.int .u64 0) (.int .u16 0)
      clear HL
      generalize ((W.setCell ⟨w.heap.size, 0, none⟩ (.int .u64 0)).setCell ⟨w.heap.size, 1, none⟩ (.int .u16 0)).drew = Wz at HG HB2 ⊢
      exact bodyPost_ret (results_cell_tmp2 rfl _ Wz w.heap.size 96 #[.int .u64 0, .int .u16 0] (0, 0) _ rfl HG Try.underlying96 rfl infoExp) rfl ⟨rfl, HB2⟩
end Go.Proofs.Ytckfmpoddmccfaa
