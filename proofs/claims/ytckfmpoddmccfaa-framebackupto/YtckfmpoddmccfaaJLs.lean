import Derived.Test.YtckfmpoddmccfaaJKy
namespace Go.Proofs.Ytckfmpoddmccfaa
open Go.RowKit
set_option linter.unusedVariables false
set_option linter.unusedSimpArgs false
set_option maxRecDepth 100000
set_option maxHeartbeats 8000000 in
theorem decReply_long (b off cap n : Nat) (l : List Nat) (most : Nat) (c e0 k : Nat) (w : World) (h : CRow w (some ⟨b, off, none⟩) cap l) (HN : Hid (l.length = n)) (hs : 20 ≤ n) (HX : Hid (valB ((l.drop 0).take 8) = mReply)) (HX1 : Hid (valB ((l.drop 8).take 4) = c)) (HX2 : Hid (valB ((l.drop 12).take 4) = e0)) (HX3 : Hid (valB ((l.drop 16).take 4) = k)) (hc4 : c < 4294967296) (he4 : e0 < 4294967296) (hk4 : k < 4294967296) (hm4 : most < 4294967296) (hlong : most < k) :
    Calls Try.prog 72 #[.slice (some ⟨b, off, none⟩) n cap, .int .u32 (most : Int)] w fun e w' => ∃ ao2 cap2, e = .returned (.tuple #[.agg #[.int .u32 (c : Int), .int .u32 (e0 : Int), .slice ao2 0 cap2], .int .i64 20, .int .i64 12]) ∧ Row w w' ao2 cap2 [] := by
  obtain ⟨m, hm⟩ : ∃ m : List Nat, m = [] := ⟨_, rfl⟩
  have hnl := h.row.len
  rw [HN.out] at hnl
  have hsl : 20 ≤ l.length := by rw [HN.out]; exact hs
  have HC : Hid (CRow w (some ⟨b, off, none⟩) cap l) := h
  obtain ⟨W0, hW0⟩ : ∃ W0, W0 = (((w.alloc (.cells #[.int .u32 0, .int .u32 0, nilV] 62)).alloc (.cells #[.int .u32 0, .int .u32 0, nilV] 62)).alloc (.cells #[.int .u32 0, .int .u32 0, nilV] 62)) := ⟨_, rfl⟩
  have HO : Hid (Calls Try.prog 99 #[.slice (some ⟨b, off, none⟩) n cap, .int .i64 20] W0 fun e W' => ∃ r hh ao' cap' a2 c2, e = .returned (.pointer (some ⟨r, 0, none⟩)) ∧ Dec w W' (bx3 w 62 #[.int .u32 0, .int .u32 0, nilV] #[.int .u32 0, .int .u32 0, nilV] #[.int .u32 0, .int .u32 0, nilV]) W0.heap.size r hh ao' cap' (l.take 20) 0 (.slice (some a2) (n - 20) c2) 0 20 0 ∧ n - 20 ≤ c2 ∧ c2 ≤ 9223372036854775807 ∧ (n - 20 ≠ 0 → a2 = ⟨b, off + 20, none⟩)) := by
    rw [hW0]; exact open_ok b off cap n 20 l (bx3_bel w _ _ _) (bx3_new w _ _ _ _) (bx3_nd w _ _ _ _) (h.later (bx3_bel w _ _ _)) HN hs (by decide) (by decide)
  clear h
  go_enter Try.func72, Try.ntmps72
  go_wp2
  refine wp_scope_jumps 0 (fun _ _ => False) (fun _ _ => 0) rfl ?first ?pass
  case first =>
    go_wp2_with fail
    rw [← hW0]
    clear hW0
    refine HO.out.mono ?_
    rintro e W1 ⟨r, hh, ao', cap', a2, c2, rfl, h1, hc1, hc2, ha2⟩
    have H1 : Hid _ := h1
    have HA : Hid _ := ha2
    clear h1 HO ha2
    go_wp2_with fail
    refine (rx_u64 H1.out mReply HX.out (by decide) hsl).mono ?_
    rintro e W2 ⟨rfl, hx⟩
    have H2 : Hid _ := hx
    clear hx H1
    go_wp2_with fail
    refine (magic_ok H2.out mReply).mono ?_
    rintro e W3 ⟨rfl, hx⟩
    have H3 : Hid _ := hx
    clear hx H2
    go_wp2_with fail
    refine (rx_u32 H3.out c HX1.out (by decide) hsl).mono ?_
    rintro e W4 ⟨rfl, hx⟩
    have H4 : Hid _ := hx
    clear hx H3
    go_wp2_with fail
    refine (rx_u32 H4.out e0 HX2.out (by decide) hsl).mono ?_
    rintro e W5 ⟨rfl, hx⟩
    have H5 : Hid _ := hx
    clear hx H4
    obtain ⟨s0, u0⟩ := H5.out.b (.tail _ (.tail _ (.head _))) 0
    simp at s0
    obtain ⟨s1, u1⟩ := H5.out.b (.tail _ (.tail _ (.head _))) 1
    simp at s1
    go_wp2_with fail
    replace H5 : Hid _ := H5.out.putS 0 (.int .u32 (c : Int)) #[.int .u32 (c : Int), .int .u32 0, nilV] rfl
    replace H5 : Hid _ := H5.out.putS 1 (.int .u32 (e0 : Int)) #[.int .u32 (c : Int), .int .u32 (e0 : Int), nilV] rfl
    refine (rx_u32 H5.out k HX3.out (by decide) hsl).mono ?_
    rintro e W6 ⟨rfl, hx⟩
    have H6 : Hid _ := hx
    clear hx H5 s0 u0 s1 u1
    go_wp2_with fail
    refine (measure_long H6.out k most hm4 hlong (by omega)).mono ?_
    rintro e W7 ⟨rfl, hx⟩
    have H7 : Hid _ := hx
    clear hx H6
    have hml : m.length = 0 := by rw [hm]; rfl
    have hmt : ∀ x ∈ m, x < 256 := by rw [hm]; simp
    have HDt : Hid _ := data_any (len := 0) H7.out m hml hmt (by rw [hm]; simp) (by omega) hc1 (by omega) hc2
    have HB : Hid (w.heap.size + 1 + 1 < W7.heap.size) := by show _ < _; have h1 := block_lt H7.out.rd; have h2 := H7.out.hr; have h3 : w.heap.size + 1 + 1 < _ := (H7.out.box _ (.tail _ (.tail _ (.head _)))).2.2; omega
    have HMm : Hid (m = []) := hm
    clear hm
    clear H7 HX HX1 HX2 HX3 HN HC hml hmt HA
    go_wp2_with fail
    refine Calls.mono HDt.out ?_
    rintro e W8 ⟨ao2, cap2, rfl, ho, hb, h9⟩
    have H8 : Hid _ := h9
    have HR : Hid (W8.ownsRow W7.heap.size 5 1 (.slice ao2 0 cap2) 0 (m.map bv)) := ho
    clear h9 ho hb HDt
    obtain ⟨c10, f10⟩ := H8.out.b (.tail _ (.head _)) 0
    obtain ⟨c20, f20⟩ := H8.out.b (.tail _ (.tail _ (.head _))) 0
    obtain ⟨c11, f11⟩ := H8.out.b (.tail _ (.head _)) 1
    obtain ⟨c21, f21⟩ := H8.out.b (.tail _ (.tail _ (.head _))) 1
    obtain ⟨c12, f12⟩ := H8.out.b (.tail _ (.head _)) 2
    obtain ⟨c22, f22⟩ := H8.out.b (.tail _ (.tail _ (.head _))) 2
    simp at c10 c20 c11 c21 c12 c22
    go_wp2
    go_step3
    have HF : Hid _ := ((((H8.out.putS 2 (.slice ao2 0 cap2) #[.int .u32 (c : Int), .int .u32 (e0 : Int), .slice ao2 0 cap2] rfl).putO 0 (.int .u32 (c : Int)) #[.int .u32 (c : Int), .int .u32 0, nilV] rfl).putO 1 (.int .u32 (e0 : Int)) #[.int .u32 (c : Int), .int .u32 (e0 : Int), nilV] rfl).putO 2 (.slice ao2 0 cap2) #[.int .u32 (c : Int), .int .u32 (e0 : Int), .slice ao2 0 cap2] rfl)
    have HW : Hid ((((((W8.setCell ⟨w.heap.size + 1 + 1, 2, none⟩ (.slice ao2 0 cap2)).setCell ⟨w.heap.size + 1, 0, none⟩ (.int .u32 (c : Int))).setCell ⟨w.heap.size + 1, 1, none⟩ (.int .u32 (e0 : Int))).setCell ⟨w.heap.size + 1, 2, none⟩ (.slice ao2 0 cap2))).ownsRow W7.heap.size 5 1 (.slice ao2 0 cap2) 0 (m.map bv)) := setAll_owns [(w.heap.size + 1 + 1, 2, .slice ao2 0 cap2), (w.heap.size + 1, 0, .int .u32 (c : Int)), (w.heap.size + 1, 1, .int .u32 (e0 : Int)), (w.heap.size + 1, 2, .slice ao2 0 cap2)] W8 HR.out (by have := HB.out; simp; omega)
    clear HR H8 c10 f10 c20 f20 c11 f11 c21 f21 c12 f12 c22 f22
    generalize ((((W8.setCell ⟨w.heap.size + 1 + 1, 2, none⟩ (.slice ao2 0 cap2)).setCell ⟨w.heap.size + 1, 0, none⟩ (.int .u32 (c : Int))).setCell ⟨w.heap.size + 1, 1, none⟩ (.int .u32 (e0 : Int))).setCell ⟨w.heap.size + 1, 2, none⟩ (.slice ao2 0 cap2)) = Wx at *
    have hn1 : ¬ (w.heap.size = r) := (HF.out.lb.box _ (.head _)).2.2
    have hn2 : ¬ (r = w.heap.size) := fun e => hn1 e.symm
    have r3 := HF.out.lb.cn
    have r4 := HF.out.lb.ce
    obtain ⟨c00, f00⟩ := HF.out.b (.head _) 0
    obtain ⟨c10, f10⟩ := HF.out.b (.tail _ (.head _)) 0
    obtain ⟨c01, f01⟩ := HF.out.b (.head _) 1
    obtain ⟨c11, f11⟩ := HF.out.b (.tail _ (.head _)) 1
    obtain ⟨c02, f02⟩ := HF.out.b (.head _) 2
    obtain ⟨c12, f12⟩ := HF.out.b (.tail _ (.head _)) 2
    simp at c00 c10 c01 c11 c02 c12
    go_wp2
    go_region
    all_goals
      go_wp2
      rw [jump_ret]
      obtain ⟨HG, HW2, HB2⟩ := close3 (HF.out.box _ (.head _)).1 HF.out.bel HW.out (by have := HB.out; omega) (.int .u32 (c : Int)) (.int .u32 (e0 : Int)) (.slice ao2 0 cap2)
      clear HF HW
      generalize (((Wx.setCell ⟨w.heap.size, 0, none⟩ (.int .u32 (c : Int))).setCell ⟨w.heap.size, 1, none⟩ (.int .u32 (e0 : Int))).setCell ⟨w.heap.size, 2, none⟩ (.slice ao2 0 cap2)).drew = Wz at HG HW2 HB2 ⊢
      exact bodyPost_ret (results_cell_tmp2 rfl _ Wz w.heap.size 62 #[.int .u32 (c : Int), .int .u32 (e0 : Int), .slice ao2 0 cap2] (0, 0) _ rfl HG Try.underlying62 rfl infoRep) rfl ⟨_, _, rfl, by have e := HMm.out; rw [e] at HW2; exact owns_mono HW2 (by have := HB.out; omega), by simp, HB2⟩
  case pass =>
    rintro a W hf
    exact hf.elim
end Go.Proofs.Ytckfmpoddmccfaa
