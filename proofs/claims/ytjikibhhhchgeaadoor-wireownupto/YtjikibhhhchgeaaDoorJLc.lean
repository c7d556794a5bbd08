import Derived.Test.YtjikibhhhchgeaaDoorJKy
namespace Go.Proofs.YtjikibhhhchgeaaDoor
open Go.RowKit
set_option linter.unusedVariables false
set_option linter.unusedSimpArgs false
set_option maxRecDepth 100000
set_option maxHeartbeats 8000000 in
theorem decChunk1_ok (b off cap n : Nat) (l : List Nat) (most : Nat) (f t c o k : Nat) (w : World) (h : CRow w (some ⟨b, off, none⟩) cap l) (HN : Hid (l.length = n)) (hs : 32 ≤ n) (HX0 : Hid (valB ((l.drop 0).take 4) = mChunk64)) (HX1 : Hid (valB ((l.drop 4).take 2) = f)) (HX2 : Hid (valB ((l.drop 6).take 2) = t)) (HX3 : Hid (valB ((l.drop 8).take 8) = c)) (HX4 : Hid (valB ((l.drop 16).take 8) = o)) (HX5 : Hid (valB ((l.drop 24).take 8) = k)) (hk64 : k < 18446744073709551616) (hm4 : most < 4294967296) (hle : k ≤ most) (hfit : k ≤ n - 32) (N : Nat) (hN : 32 + k = N) (m : List Nat) (hm : (l.drop 32).take k = m) :
    Calls Tryd.prog 28 #[.slice (some ⟨b, off, none⟩) n cap, .int .u32 (most : Int), .bool true] w fun e w' => ∃ ao2 cap2, e = .returned (.tuple #[.agg #[.int .u16 (f : Int), .int .u16 (t : Int), .int .u64 (c : Int), .int .u64 (o : Int), .slice ao2 k cap2], .int .i64 (N : Int), .int .i64 0]) ∧ w'.ownsRow w.heap.size 5 1 (.slice ao2 k cap2) k (m.map bv) ∧ Below w.heap.size w w' := by
  have HXs : Hid (∀ W : World, Calls Tryd.prog 77 #[.bool true] W fun e W' => e = .returned (.tuple #[.int .u32 (mChunk64 : Nat), .int .i64 32]) ∧ W' = W) := fun W => by
    go_enter Tryd.func77, Tryd.ntmps77
    go_wp2
    go_ret2
    exact ⟨rfl, rfl⟩
  have hnl := h.row.len
  rw [HN.out] at hnl
  have hsl : 32 ≤ l.length := by rw [HN.out]; exact hs
  have HC : Hid (CRow w (some ⟨b, off, none⟩) cap l) := h
  obtain ⟨W0, hW0⟩ : ∃ W0, W0 = (((w.alloc (.cells #[.int .u16 0, .int .u16 0, .int .u64 0, .int .u64 0, nilV] 85)).alloc (.cells #[.int .u16 0, .int .u16 0, .int .u64 0, .int .u64 0, nilV] 85)).alloc (.cells #[.int .u16 0, .int .u16 0, .int .u64 0, .int .u64 0, nilV] 85)) := ⟨_, rfl⟩
  have HO : Hid (Calls Tryd.prog 81 #[.slice (some ⟨b, off, none⟩) n cap, .int .i64 32] W0 fun e W' => ∃ r hh ao' cap' a2 c2, e = .returned (.pointer (some ⟨r, 0, none⟩)) ∧ Dec w W' (bx3 w 85 #[.int .u16 0, .int .u16 0, .int .u64 0, .int .u64 0, nilV] #[.int .u16 0, .int .u16 0, .int .u64 0, .int .u64 0, nilV] #[.int .u16 0, .int .u16 0, .int .u64 0, .int .u64 0, nilV]) W0.heap.size r hh ao' cap' (l.take 32) 0 (.slice (some a2) (n - 32) c2) 0 32 0 ∧ n - 32 ≤ c2 ∧ c2 ≤ 9223372036854775807 ∧ (n - 32 ≠ 0 → a2 = ⟨b, off + 32, none⟩)) := by
    rw [hW0]; exact open_ok b off cap n 32 l (bx3_bel w _ _ _) (bx3_new w _ _ _ _) (bx3_nd w _ _ _ _) (h.later (bx3_bel w _ _ _)) HN hs (by decide) (by decide)
  clear h
  go_enter Tryd.func28, Tryd.ntmps28
  go_wp2
  refine wp_scope_jumps 0 (fun _ _ => False) (fun _ _ => 0) rfl ?first ?pass
  case first =>
    go_wp2_with fail
    refine (HXs.out _).mono ?_
    rintro e W9 ⟨rfl, hw9⟩
    rw [hw9]; clear hw9 HXs
    go_wp2_with fail
    rw [← hW0]
    clear hW0
    refine HO.out.mono ?_
    rintro e W1 ⟨r, hh, ao', cap', a2, c2, rfl, h1, hc1, hc2, ha2⟩
    have H1 : Hid _ := h1
    have HA : Hid _ := ha2
    clear h1 HO ha2
    go_wp2_with fail
    refine (magic32_ok H1.out (by rw [List.length_take]; omega) mChunk64 (by rw [tk _ _ _ _ (by decide)]; exact HX0.out)).mono ?_
    rintro e W2 ⟨rfl, hx⟩
    have H2 : Hid _ := hx
    clear hx H1
    go_wp2_with fail
    refine (rx_u16 H2.out f HX1.out (by decide) hsl).mono ?_
    rintro e W3 ⟨rfl, hx⟩
    have H3 : Hid _ := hx
    clear hx H2
    go_wp2_with fail
    refine (rx_u16 H3.out t HX2.out (by decide) hsl).mono ?_
    rintro e W4 ⟨rfl, hx⟩
    have H4 : Hid _ := hx
    clear hx H3
    go_wp2_with fail
    refine (rx_u64 H4.out c HX3.out (by decide) hsl).mono ?_
    rintro e W5 ⟨rfl, hx⟩
    have H5 : Hid _ := hx
    clear hx H4
    obtain ⟨s0, u0⟩ := H5.out.b (.tail _ (.tail _ (.head _))) 0
    simp at s0
    obtain ⟨s1, u1⟩ := H5.out.b (.tail _ (.tail _ (.head _))) 1
    simp at s1
    obtain ⟨s2, u2⟩ := H5.out.b (.tail _ (.tail _ (.head _))) 2
    simp at s2
    go_wp2_with fail
    replace H5 : Hid _ := H5.out.putS 0 (.int .u16 (f : Int)) #[.int .u16 (f : Int), .int .u16 0, .int .u64 0, .int .u64 0, nilV] rfl
    replace H5 : Hid _ := H5.out.putS 1 (.int .u16 (t : Int)) #[.int .u16 (f : Int), .int .u16 (t : Int), .int .u64 0, .int .u64 0, nilV] rfl
    replace H5 : Hid _ := H5.out.putS 2 (.int .u64 (c : Int)) #[.int .u16 (f : Int), .int .u16 (t : Int), .int .u64 (c : Int), .int .u64 0, nilV] rfl
    refine (rx_u64 H5.out o HX4.out (by decide) hsl).mono ?_
    rintro e W6 ⟨rfl, hx⟩
    have H6 : Hid _ := hx
    clear hx H5 s0 u0 s1 u1 s2 u2
    obtain ⟨s3, u3⟩ := H6.out.b (.tail _ (.tail _ (.head _))) 3
    simp at s3
    go_wp2_with fail
    replace H6 : Hid _ := H6.out.putS 3 (.int .u64 (o : Int)) #[.int .u16 (f : Int), .int .u16 (t : Int), .int .u64 (c : Int), .int .u64 (o : Int), nilV] rfl
    refine (rx_number_wide H6.out k HX5.out (by decide) hsl).mono ?_
    rintro e W7 ⟨rfl, hx⟩
    have H7 : Hid _ := hx
    clear hx H6 s3 u3
    go_wp2_with fail
    refine (measure_rest H7.out (by decide) (by omega) k most hm4 hle N hN).mono ?_
    rintro e W8 hx
    have HX9 : Hid _ := hx
    clear hx H7 
    rcases HX9.out with ⟨hx, _⟩ | ⟨_, rfl, hx⟩
    · omega
    have H8 : Hid _ := hx
    clear hx HX9
    have hml : m.length = k := by rw [← hm, List.length_take, List.length_drop, HN.out]; omega
    have hmt : ∀ x ∈ m, x < 256 := fun x hx => HC.out.row.lt x (by rw [← hm] at hx; exact List.mem_of_mem_drop (List.mem_of_mem_take hx))
    have HDt : Hid _ := data_any (len := k) H8.out m hml hmt (by rw [← hm]; exact tail_news HC.out H8.out.bel (by rw [HN.out]; exact HA.out)) (by omega) hc1 (by omega) hc2
    have HB : Hid (w.heap.size + 1 + 1 < W8.heap.size) := by show _ < _; have h1 := block_lt H8.out.rd; have h2 := H8.out.hr; have h3 : w.heap.size + 1 + 1 < _ := (H8.out.box _ (.tail _ (.tail _ (.head _)))).2.2; omega
    clear H8 HX0 HX1 HX2 HX3 HX5 HN HC hml hmt HA HX4
    go_wp2_with fail
    refine Calls.mono HDt.out ?_
    rintro e W9 ⟨ao2, cap2, rfl, ho, hb, h9⟩
    have H9 : Hid _ := h9
    have HR : Hid (W9.ownsRow W8.heap.size 5 1 (.slice ao2 k cap2) k (m.map bv)) := ho
    clear h9 ho hb HDt
    obtain ⟨c10, f10⟩ := H9.out.b (.tail _ (.head _)) 0
    obtain ⟨c20, f20⟩ := H9.out.b (.tail _ (.tail _ (.head _))) 0
    obtain ⟨c11, f11⟩ := H9.out.b (.tail _ (.head _)) 1
    obtain ⟨c21, f21⟩ := H9.out.b (.tail _ (.tail _ (.head _))) 1
    obtain ⟨c12, f12⟩ := H9.out.b (.tail _ (.head _)) 2
    obtain ⟨c22, f22⟩ := H9.out.b (.tail _ (.tail _ (.head _))) 2
    obtain ⟨c13, f13⟩ := H9.out.b (.tail _ (.head _)) 3
    obtain ⟨c23, f23⟩ := H9.out.b (.tail _ (.tail _ (.head _))) 3
    obtain ⟨c14, f14⟩ := H9.out.b (.tail _ (.head _)) 4
    obtain ⟨c24, f24⟩ := H9.out.b (.tail _ (.tail _ (.head _))) 4
    simp at c10 c20 c11 c21 c12 c22 c13 c23 c14 c24
    go_wp2
    go_step3
    have HF : Hid _ := ((((((H9.out.putS 4 (.slice ao2 k cap2) #[.int .u16 (f : Int), .int .u16 (t : Int), .int .u64 (c : Int), .int .u64 (o : Int), .slice ao2 k cap2] rfl).putO 0 (.int .u16 (f : Int)) #[.int .u16 (f : Int), .int .u16 0, .int .u64 0, .int .u64 0, nilV] rfl).putO 1 (.int .u16 (t : Int)) #[.int .u16 (f : Int), .int .u16 (t : Int), .int .u64 0, .int .u64 0, nilV] rfl).putO 2 (.int .u64 (c : Int)) #[.int .u16 (f : Int), .int .u16 (t : Int), .int .u64 (c : Int), .int .u64 0, nilV] rfl).putO 3 (.int .u64 (o : Int)) #[.int .u16 (f : Int), .int .u16 (t : Int), .int .u64 (c : Int), .int .u64 (o : Int), nilV] rfl).putO 4 (.slice ao2 k cap2) #[.int .u16 (f : Int), .int .u16 (t : Int), .int .u64 (c : Int), .int .u64 (o : Int), .slice ao2 k cap2] rfl)
    have HW : Hid ((((((((W9.setCell ⟨w.heap.size + 1 + 1, 4, none⟩ (.slice ao2 k cap2)).setCell ⟨w.heap.size + 1, 0, none⟩ (.int .u16 (f : Int))).setCell ⟨w.heap.size + 1, 1, none⟩ (.int .u16 (t : Int))).setCell ⟨w.heap.size + 1, 2, none⟩ (.int .u64 (c : Int))).setCell ⟨w.heap.size + 1, 3, none⟩ (.int .u64 (o : Int))).setCell ⟨w.heap.size + 1, 4, none⟩ (.slice ao2 k cap2))).ownsRow W8.heap.size 5 1 (.slice ao2 k cap2) k (m.map bv)) := setAll_owns [(w.heap.size + 1 + 1, 4, .slice ao2 k cap2), (w.heap.size + 1, 0, .int .u16 (f : Int)), (w.heap.size + 1, 1, .int .u16 (t : Int)), (w.heap.size + 1, 2, .int .u64 (c : Int)), (w.heap.size + 1, 3, .int .u64 (o : Int)), (w.heap.size + 1, 4, .slice ao2 k cap2)] W9 HR.out (by have := HB.out; simp; omega)
    clear HR H9 c10 f10 c20 f20 c11 f11 c21 f21 c12 f12 c22 f22 c13 f13 c23 f23 c14 f14 c24 f24
    generalize ((((((W9.setCell ⟨w.heap.size + 1 + 1, 4, none⟩ (.slice ao2 k cap2)).setCell ⟨w.heap.size + 1, 0, none⟩ (.int .u16 (f : Int))).setCell ⟨w.heap.size + 1, 1, none⟩ (.int .u16 (t : Int))).setCell ⟨w.heap.size + 1, 2, none⟩ (.int .u64 (c : Int))).setCell ⟨w.heap.size + 1, 3, none⟩ (.int .u64 (o : Int))).setCell ⟨w.heap.size + 1, 4, none⟩ (.slice ao2 k cap2)) = Wx at *
    have hn1 : ¬ (w.heap.size = r) := (HF.out.lb.box _ (.head _)).2.2
    have hn2 : ¬ (r = w.heap.size) := fun e => hn1 e.symm
    have r3 := HF.out.lb.cn
    have r4 := HF.out.lb.ce
    obtain ⟨c00, f00⟩ := HF.out.b (.head _) 0
    obtain ⟨c10, f10⟩ := HF.out.b (.tail _ (.head _)) 0
    obtain ⟨c01, f01⟩ := HF.out.b (.head _) 1
    obtain ⟨c11, f11⟩ := HF.out.b (.tail _ (.head _)) 1
    obtain ⟨c02, f02⟩ := HF.out.b (.head _) 2
    obtain ⟨c12, f12⟩ := HF.out.b (.tail _ (.head _)) 2
    obtain ⟨c03, f03⟩ := HF.out.b (.head _) 3
    obtain ⟨c13, f13⟩ := HF.out.b (.tail _ (.head _)) 3
    obtain ⟨c04, f04⟩ := HF.out.b (.head _) 4
    obtain ⟨c14, f14⟩ := HF.out.b (.tail _ (.head _)) 4
    simp at c00 c10 c01 c11 c02 c12 c03 c13 c04 c14
    go_wp2
    go_region
    all_goals
      go_wp2
      rw [jump_ret]
      obtain ⟨HG, HW2, HB2⟩ := close5 (HF.out.box _ (.head _)).1 HF.out.bel HW.out (by have := HB.out; omega) (.int .u16 (f : Int)) (.int .u16 (t : Int)) (.int .u64 (c : Int)) (.int .u64 (o : Int)) (.slice ao2 k cap2)
      clear HF HW
      generalize (((((Wx.setCell ⟨w.heap.size, 0, none⟩ (.int .u16 (f : Int))).setCell ⟨w.heap.size, 1, none⟩ (.int .u16 (t : Int))).setCell ⟨w.heap.size, 2, none⟩ (.int .u64 (c : Int))).setCell ⟨w.heap.size, 3, none⟩ (.int .u64 (o : Int))).setCell ⟨w.heap.size, 4, none⟩ (.slice ao2 k cap2)).drew = Wz at HG HW2 HB2 ⊢
      exact bodyPost_ret (results_cell_tmp2 rfl _ Wz w.heap.size 85 #[.int .u16 (f : Int), .int .u16 (t : Int), .int .u64 (c : Int), .int .u64 (o : Int), .slice ao2 k cap2] (0, 0) _ rfl HG Tryd.underlying85 rfl infoChk) rfl ⟨_, _, rfl, owns_mono HW2 (by have := HB.out; omega), HB2⟩
  case pass =>
    rintro a W hf
    exact hf.elim
end Go.Proofs.YtjikibhhhchgeaaDoor
