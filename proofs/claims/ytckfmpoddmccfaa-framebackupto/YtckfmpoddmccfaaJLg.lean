import Derived.Test.YtckfmpoddmccfaaJKy
namespace Go.Proofs.Ytckfmpoddmccfaa
open Go.RowKit
set_option linter.unusedVariables false
set_option linter.unusedSimpArgs false
set_option maxRecDepth 100000
set_option maxHeartbeats 8000000 in
theorem decGreeting_ok (b off cap n : Nat) (l : List Nat) (f : Nat) (w : World) (h : CRow w (some ⟨b, off, none⟩) cap l) (HN : Hid (l.length = n)) (hs : 18 ≤ n) (HX0 : Hid (valB ((l.drop 0).take 8) = mInit)) (HX1 : Hid (valB ((l.drop 8).take 8) = mHave)) (HX2 : Hid (valB ((l.drop 16).take 2) = f)) :
    Calls Try.prog 68 #[.slice (some ⟨b, off, none⟩) n cap] w fun e w' => e = .returned (.tuple #[.agg #[.int .u16 (f : Int)], .int .i64 18, .int .i64 0]) ∧ Below w.heap.size w w' := by
  have hnl := h.row.len
  rw [HN.out] at hnl
  have hsl : 18 ≤ l.length := by rw [HN.out]; exact hs
  have HC : Hid (CRow w (some ⟨b, off, none⟩) cap l) := h
  obtain ⟨W0, hW0⟩ : ∃ W0, W0 = ((w.alloc (.cells #[.int .u16 0] 88)).alloc (.cells #[.int .u16 0] 88)) := ⟨_, rfl⟩
  have HO : Hid (Calls Try.prog 99 #[.slice (some ⟨b, off, none⟩) n cap, .int .i64 18] W0 fun e W' => ∃ r hh ao' cap' a2 c2, e = .returned (.pointer (some ⟨r, 0, none⟩)) ∧ Dec w W' (bx2 w 88 #[.int .u16 0] #[.int .u16 0]) W0.heap.size r hh ao' cap' (l.take 18) 0 (.slice (some a2) (n - 18) c2) 0 18 0 ∧ n - 18 ≤ c2 ∧ c2 ≤ 9223372036854775807 ∧ (n - 18 ≠ 0 → a2 = ⟨b, off + 18, none⟩)) := by
    rw [hW0]; exact open_ok b off cap n 18 l (bx2_bel w _ _) (bx2_new w _ _ _) (bx2_nd w _ _ _) (h.later (bx2_bel w _ _)) HN hs (by decide) (by decide)
  clear h
  go_enter Try.func68, Try.ntmps68
  go_wp2
  refine wp_scope_jumps 0 (fun _ _ => False) (fun _ _ => 0) rfl ?first ?pass
  case first =>
    go_wp2_with fail
    rw [← hW0]
    clear hW0
    refine HO.out.mono ?_
    rintro e W1 ⟨r, hh, ao', cap', a2, c2, rfl, h1, hc1, hc2, ha2⟩
    have H1 : Hid _ := h1
    have HA : Hid _ := ha2
    clear h1 HO ha2
    go_wp2_with fail
    refine (rx_u64 H1.out mInit HX0.out (by decide) hsl).mono ?_
    rintro e W2 ⟨rfl, hx⟩
    have H2 : Hid _ := hx
    clear hx H1
    go_wp2_with fail
    refine (magic_ok H2.out mInit).mono ?_
    rintro e W3 ⟨rfl, hx⟩
    have H3 : Hid _ := hx
    clear hx H2
    go_wp2_with fail
    refine (rx_u64 H3.out mHave HX1.out (by decide) hsl).mono ?_
    rintro e W4 ⟨rfl, hx⟩
    have H4 : Hid _ := hx
    clear hx H3
    go_wp2_with fail
    refine (magic_ok H4.out mHave).mono ?_
    rintro e W5 ⟨rfl, hx⟩
    have H5 : Hid _ := hx
    clear hx H4
    go_wp2_with fail
    refine (rx_u16 H5.out f HX2.out (by decide) hsl).mono ?_
    rintro e W6 ⟨rfl, hx⟩
    have H6 : Hid _ := hx
    clear hx H5
    obtain ⟨s0, u0⟩ := H6.out.b (.tail _ (.head _)) 0
    simp at s0
    go_wp2
    go_step3
    have HF : Hid _ := (H6.out.putO2 0 (.int .u16 (f : Int)) #[.int .u16 (f : Int)] rfl)
    clear H6 s0 u0
    generalize (W6.setCell ⟨w.heap.size + 1, 0, none⟩ (.int .u16 (f : Int))) = Wx at *
    have hn1 : ¬ (w.heap.size = r) := (HF.out.lb.box _ (.head _)).2.2
    have hn2 : ¬ (r = w.heap.size) := fun e => hn1 e.symm
    have r3 := HF.out.lb.cn
    have r4 := HF.out.lb.ce
    obtain ⟨c00, f00⟩ := HF.out.b (.head _) 0
    obtain ⟨c10, f10⟩ := HF.out.b (.tail _ (.head _)) 0
    simp at c00 c10
    go_wp2
    go_region
    all_goals
      go_wp2
      rw [jump_ret]
      exact bodyPost_ret (results_cell_tmp2 rfl _ _ w.heap.size 88 #[.int .u16 (f : Int)] (0, 0) _ rfl (put_box (HF.out.box _ (.head _)).1 0 (.int .u16 (f : Int)) rfl) Try.underlying88 rfl infoGre) rfl ⟨rfl, below_drew (setAll_below [(w.heap.size, 0, .int .u16 (f : Int))] Wx HF.out.bel (by simp))⟩
  case pass =>
    rintro a W hf
    exact hf.elim
set_option maxHeartbeats 8000000 in
theorem decSimple_ok (b off cap n : Nat) (l : List Nat) (c k : Nat) (w : World) (h : CRow w (some ⟨b, off, none⟩) cap l) (HN : Hid (l.length = n)) (hs : 16 ≤ n) (HX0 : Hid (valB ((l.drop 0).take 4) = mSimple)) (HX1 : Hid (valB ((l.drop 4).take 4) = c)) (HX2 : Hid (valB ((l.drop 8).take 8) = k)) :
    Calls Try.prog 113 #[.slice (some ⟨b, off, none⟩) n cap] w fun e w' => e = .returned (.tuple #[.agg #[.int .u32 (c : Int), .int .u64 (k : Int)], .int .i64 16, .int .i64 0]) ∧ Below w.heap.size w w' := by
  have hnl := h.row.len
  rw [HN.out] at hnl
  have hsl : 16 ≤ l.length := by rw [HN.out]; exact hs
  have HC : Hid (CRow w (some ⟨b, off, none⟩) cap l) := h
  obtain ⟨W0, hW0⟩ : ∃ W0, W0 = ((w.alloc (.cells #[.int .u32 0, .int .u64 0] 66)).alloc (.cells #[.int .u32 0, .int .u64 0] 66)) := ⟨_, rfl⟩
  have HO : Hid (Calls Try.prog 99 #[.slice (some ⟨b, off, none⟩) n cap, .int .i64 16] W0 fun e W' => ∃ r hh ao' cap' a2 c2, e = .returned (.pointer (some ⟨r, 0, none⟩)) ∧ Dec w W' (bx2 w 66 #[.int .u32 0, .int .u64 0] #[.int .u32 0, .int .u64 0]) W0.heap.size r hh ao' cap' (l.take 16) 0 (.slice (some a2) (n - 16) c2) 0 16 0 ∧ n - 16 ≤ c2 ∧ c2 ≤ 9223372036854775807 ∧ (n - 16 ≠ 0 → a2 = ⟨b, off + 16, none⟩)) := by
    rw [hW0]; exact open_ok b off cap n 16 l (bx2_bel w _ _) (bx2_new w _ _ _) (bx2_nd w _ _ _) (h.later (bx2_bel w _ _)) HN hs (by decide) (by decide)
  clear h
  go_enter Try.func113, Try.ntmps113
  go_wp2
  refine wp_scope_jumps 0 (fun _ _ => False) (fun _ _ => 0) rfl ?first ?pass
  case first =>
    go_wp2_with fail
    rw [← hW0]
    clear hW0
    refine HO.out.mono ?_
    rintro e W1 ⟨r, hh, ao', cap', a2, c2, rfl, h1, hc1, hc2, ha2⟩
    have H1 : Hid _ := h1
    have HA : Hid _ := ha2
    clear h1 HO ha2
    go_wp2_with fail
    refine (magic32_ok H1.out (by rw [List.length_take]; omega) mSimple (by rw [tk _ _ _ _ (by decide)]; exact HX0.out)).mono ?_
    rintro e W2 ⟨rfl, hx⟩
    have H2 : Hid _ := hx
    clear hx H1
    go_wp2_with fail
    refine (rx_u32 H2.out c HX1.out (by decide) hsl).mono ?_
    rintro e W3 ⟨rfl, hx⟩
    have H3 : Hid _ := hx
    clear hx H2
    go_wp2_with fail
    refine (rx_u64 H3.out k HX2.out (by decide) hsl).mono ?_
    rintro e W4 ⟨rfl, hx⟩
    have H4 : Hid _ := hx
    clear hx H3
    obtain ⟨s0, u0⟩ := H4.out.b (.tail _ (.head _)) 0
    simp at s0
    obtain ⟨s1, u1⟩ := H4.out.b (.tail _ (.head _)) 1
    simp at s1
    go_wp2
    go_step3
    have HF : Hid _ := ((H4.out.putO2 0 (.int .u32 (c : Int)) #[.int .u32 (c : Int), .int .u64 0] rfl).putO2 1 (.int .u64 (k : Int)) #[.int .u32 (c : Int), .int .u64 (k : Int)] rfl)
    clear H4 s0 u0 s1 u1
    generalize ((W4.setCell ⟨w.heap.size + 1, 0, none⟩ (.int .u32 (c : Int))).setCell ⟨w.heap.size + 1, 1, none⟩ (.int .u64 (k : Int))) = Wx at *
    have hn1 : ¬ (w.heap.size = r) := (HF.out.lb.box _ (.head _)).2.2
    have hn2 : ¬ (r = w.heap.size) := fun e => hn1 e.symm
    have r3 := HF.out.lb.cn
    have r4 := HF.out.lb.ce
    obtain ⟨c00, f00⟩ := HF.out.b (.head _) 0
    obtain ⟨c10, f10⟩ := HF.out.b (.tail _ (.head _)) 0
    obtain ⟨c01, f01⟩ := HF.out.b (.head _) 1
    obtain ⟨c11, f11⟩ := HF.out.b (.tail _ (.head _)) 1
    simp at c00 c10 c01 c11
    go_wp2
    go_region
    all_goals
      go_wp2
      rw [jump_ret]
      exact bodyPost_ret (results_cell_tmp2 rfl _ _ w.heap.size 66 #[.int .u32 (c : Int), .int .u64 (k : Int)] (0, 0) _ rfl (put_box (put_box (HF.out.box _ (.head _)).1 0 (.int .u32 (c : Int)) rfl) 1 (.int .u64 (k : Int)) rfl) Try.underlying66 rfl infoSim) rfl ⟨rfl, below_drew (setAll_below [(w.heap.size, 0, .int .u32 (c : Int)), (w.heap.size, 1, .int .u64 (k : Int))] Wx HF.out.bel (by simp))⟩
  case pass =>
    rintro a W hf
    exact hf.elim
end Go.Proofs.Ytckfmpoddmccfaa
