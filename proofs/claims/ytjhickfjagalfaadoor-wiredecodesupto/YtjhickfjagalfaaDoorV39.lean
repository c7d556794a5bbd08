import Derived.Test.YtjhickfjagalfaaDoorV36
namespace Go.Proofs.YtjhickfjagalfaaDoor
open Go.RowKit
set_option linter.unusedVariables false
set_option linter.unusedSimpArgs false
set_option maxRecDepth 100000
set_option maxHeartbeats 4000000 in
theorem rdecRequest0_short (ao : Option Addr) (cap n : Nat) (most : Nat) (w : World) (h : n < 28) :
    Calls Tryd.prog 49 #[.slice ao n cap, .int .u32 (most : Int), .bool false] w fun e w' => e = .returned (.tuple #[.agg #[.int .u16 0, .int .u16 0, .int .u64 0, .int .u64 0, .int .u64 0, nilV], .int .i64 28, .int .i64 10]) ∧ Below w.heap.size w w' := by
  obtain ⟨W0, hW0⟩ : ∃ W0, W0 = w.alloc (.cells #[.int .u16 0, .int .u16 0, .int .u64 0, .int .u64 0, .int .u64 0, nilV] 59) := ⟨_, rfl⟩
  have HS : Hid (Sb w W0 (.cells #[.int .u16 0, .int .u16 0, .int .u64 0, .int .u64 0, .int .u64 0, nilV] 59 (0, 0))) := by show Sb _ _ _; rw [hW0]; exact Sb.new w _ _
  go_enter Tryd.func49, Tryd.ntmps49
  go_wp2_with fail
  rw [← hW0]
  clear hW0
  refine (rhead_short ao cap n 28 _ _ _ h).mono ?_
  rintro e W1 ⟨rfl, hb⟩
  replace HS : Hid _ := HS.out.next hb
  clear hb
  have c00 := blk_at HS.out.b0 0
  have f00 := blk_free HS.out.b0 0
  have c01 := blk_at HS.out.b0 1
  have f01 := blk_free HS.out.b0 1
  have c02 := blk_at HS.out.b0 2
  have f02 := blk_free HS.out.b0 2
  have c03 := blk_at HS.out.b0 3
  have f03 := blk_free HS.out.b0 3
  have c04 := blk_at HS.out.b0 4
  have f04 := blk_free HS.out.b0 4
  have c05 := blk_at HS.out.b0 5
  have f05 := blk_free HS.out.b0 5
  simp at c00 c01 c02 c03 c04 c05
  go_wp2
  obtain ⟨HG, HB2⟩ := closenb6 HS.out.b0 HS.out.bel (.int .u16 0) (.int .u16 0) (.int .u64 0) (.int .u64 0) (.int .u64 0) (nilV)
  generalize ((((((W1.setCell ⟨w.heap.size, 0, none⟩ (.int .u16 0)).setCell ⟨w.heap.size, 1, none⟩ (.int .u16 0)).setCell ⟨w.heap.size, 2, none⟩ (.int .u64 0)).setCell ⟨w.heap.size, 3, none⟩ (.int .u64 0)).setCell ⟨w.heap.size, 4, none⟩ (.int .u64 0)).setCell ⟨w.heap.size, 5, none⟩ (nilV)) = Wz at HG HB2 ⊢
  exact bodyPost_ret (results_cell_tmp2 rfl _ Wz w.heap.size 59 #[.int .u16 0, .int .u16 0, .int .u64 0, .int .u64 0, .int .u64 0, nilV] (0, 0) _ rfl HG Tryd.underlying59 rfl infoReq) rfl ⟨rfl, HB2⟩
set_option maxHeartbeats 8000000 in
theorem rdecRequest0_magic (b off cap n : Nat) (l : List Nat) (most : Nat) (w : World) (h : CRow w (some ⟨b, off, none⟩) cap l) (HN : Hid (l.length = n)) (hs : 28 ≤ n) (HX0 : Hid (valB ((l.drop 0).take 4) ≠ mReq)) :
    Calls Tryd.prog 49 #[.slice (some ⟨b, off, none⟩) n cap, .int .u32 (most : Int), .bool false] w fun e w' => e = .returned (.tuple #[.agg #[.int .u16 0, .int .u16 0, .int .u64 0, .int .u64 0, .int .u64 0, nilV], .int .i64 0, .int .i64 80]) ∧ Below w.heap.size w w' := by
  obtain ⟨W0, hW0⟩ : ∃ W0, W0 = w.alloc (.cells #[.int .u16 0, .int .u16 0, .int .u64 0, .int .u64 0, .int .u64 0, nilV] 59) := ⟨_, rfl⟩
  have HS : Hid (Sb w W0 (.cells #[.int .u16 0, .int .u16 0, .int .u64 0, .int .u64 0, .int .u64 0, nilV] 59 (0, 0))) := by show Sb _ _ _; rw [hW0]; exact Sb.new w _ _
  have hnl := h.row.len
  rw [HN.out] at hnl
  have hc1 := h.cap1
  have hc2 := h.cap2
  rw [HN.out] at hc1
  have HC : Hid (CRow w (some ⟨b, off, none⟩) cap l) := h
  clear h
  go_enter Tryd.func49, Tryd.ntmps49
  go_wp2_with fail
  rw [← hW0]
  clear hW0
  refine (rhead_bad b off cap n 28 mReq 4 l _ (HC.out.later HS.out.bel) HN hs (by decide) (by decide) (by decide) HX0.out).mono ?_
  rintro e W1 ⟨rfl, hb⟩
  replace HS : Hid _ := HS.out.next hb
  clear hb
  have c00 := blk_at HS.out.b0 0
  have f00 := blk_free HS.out.b0 0
  have c01 := blk_at HS.out.b0 1
  have f01 := blk_free HS.out.b0 1
  have c02 := blk_at HS.out.b0 2
  have f02 := blk_free HS.out.b0 2
  have c03 := blk_at HS.out.b0 3
  have f03 := blk_free HS.out.b0 3
  have c04 := blk_at HS.out.b0 4
  have f04 := blk_free HS.out.b0 4
  have c05 := blk_at HS.out.b0 5
  have f05 := blk_free HS.out.b0 5
  simp at c00 c01 c02 c03 c04 c05
  go_wp2
  obtain ⟨HG, HB2⟩ := closenb6 HS.out.b0 HS.out.bel (.int .u16 0) (.int .u16 0) (.int .u64 0) (.int .u64 0) (.int .u64 0) (nilV)
  generalize ((((((W1.setCell ⟨w.heap.size, 0, none⟩ (.int .u16 0)).setCell ⟨w.heap.size, 1, none⟩ (.int .u16 0)).setCell ⟨w.heap.size, 2, none⟩ (.int .u64 0)).setCell ⟨w.heap.size, 3, none⟩ (.int .u64 0)).setCell ⟨w.heap.size, 4, none⟩ (.int .u64 0)).setCell ⟨w.heap.size, 5, none⟩ (nilV)) = Wz at HG HB2 ⊢
  exact bodyPost_ret (results_cell_tmp2 rfl _ Wz w.heap.size 59 #[.int .u16 0, .int .u16 0, .int .u64 0, .int .u64 0, .int .u64 0, nilV] (0, 0) _ rfl HG Tryd.underlying59 rfl infoReq) rfl ⟨rfl, HB2⟩
set_option maxHeartbeats 8000000 in
theorem rdecRequest0_long (b off cap n : Nat) (l : List Nat) (most : Nat) (f t c o k : Nat) (w : World) (h : CRow w (some ⟨b, off, none⟩) cap l) (HN : Hid (l.length = n)) (hs : 28 ≤ n) (HX0 : Hid (valB ((l.drop 0).take 4) = mReq)) (HX1 : Hid (valB ((l.drop 4).take 2) = f)) (HX2 : Hid (valB ((l.drop 6).take 2) = t)) (HX3 : Hid (valB ((l.drop 8).take 8) = c)) (HX4 : Hid (valB ((l.drop 16).take 8) = o)) (HX5 : Hid (valB ((l.drop 24).take 4) = k)) (hk64 : k < 18446744073709551616) (hm4 : most < 4294967296) (hpay : payB f t false = true) (hlong : most < k) :
    Calls Tryd.prog 49 #[.slice (some ⟨b, off, none⟩) n cap, .int .u32 (most : Int), .bool false] w fun e w' => ∃ ao2 cap2, e = .returned (.tuple #[.agg #[.int .u16 (f : Int), .int .u16 (t : Int), .int .u64 (c : Int), .int .u64 (o : Int), .int .u64 (k : Int), .slice ao2 0 cap2], .int .i64 28, .int .i64 12]) ∧ Row w w' ao2 cap2 [] := by
  have HXf : Hid (vl l 4 2 = f) := HX1
  have HXt : Hid (vl l 6 2 = t) := HX2
  have HXc : Hid (vl l 8 8 = c) := HX3
  have HXo : Hid (vl l 16 8 = o) := HX4
  have HXk : Hid (vl l 24 4 = k) := HX5
  obtain ⟨W0, hW0⟩ : ∃ W0, W0 = w.alloc (.cells #[.int .u16 0, .int .u16 0, .int .u64 0, .int .u64 0, .int .u64 0, nilV] 59) := ⟨_, rfl⟩
  have HS : Hid (Sb w W0 (.cells #[.int .u16 0, .int .u16 0, .int .u64 0, .int .u64 0, .int .u64 0, nilV] 59 (0, 0))) := by show Sb _ _ _; rw [hW0]; exact Sb.new w _ _
  have hnl := h.row.len
  rw [HN.out] at hnl
  have hc1 := h.cap1
  have hc2 := h.cap2
  rw [HN.out] at hc1
  have HC : Hid (CRow w (some ⟨b, off, none⟩) cap l) := h
  clear h
  have hbf : f < 65536 := by have := vl_lt HC.out 4 2; rw [HXf.out] at this; simpa using this
  have hwf : IntKind.u16.wrap (f : Int) = (f : Int) := by rw [show IntKind.u16.wrap (f : Int) = (f : Int) % 65536 by simp [IntKind.wrap, IntKind.bits, IntKind.signed]]; omega
  have hbt : t < 65536 := by have := vl_lt HC.out 6 2; rw [HXt.out] at this; simpa using this
  have hwt : IntKind.u16.wrap (t : Int) = (t : Int) := by rw [show IntKind.u16.wrap (t : Int) = (t : Int) % 65536 by simp [IntKind.wrap, IntKind.bits, IntKind.signed]]; omega
  go_enter Tryd.func49, Tryd.ntmps49
  go_wp2_with fail
  rw [← hW0]
  clear hW0
  refine (rhead_ok b off cap n 28 mReq 4 l _ (HC.out.later HS.out.bel) HN hs (by decide) (by decide) (by decide) HX0.out).mono ?_
  rintro e W1 ⟨rfl, hb⟩
  replace HS : Hid _ := HS.out.next hb
  clear hb
  go_wp2_with fail
  refine (rvalueA b off cap n 4 2 l _ (HC.out.later HS.out.bel) HN (by omega) (by decide) (by decide) (by decide) f HXf.out).mono ?_
  rintro e W2 ⟨rfl, hb⟩
  replace HS : Hid _ := HS.out.next hb
  clear hb
  go_wp2_with fail
  refine (rvalueA b off cap n 6 2 l _ (HC.out.later HS.out.bel) HN (by omega) (by decide) (by decide) (by decide) t HXt.out).mono ?_
  rintro e W3 ⟨rfl, hb⟩
  replace HS : Hid _ := HS.out.next hb
  clear hb
  go_wp2_with fail
  refine (rvalueA b off cap n 8 8 l _ (HC.out.later HS.out.bel) HN (by omega) (by decide) (by decide) (by decide) c HXc.out).mono ?_
  rintro e W4 ⟨rfl, hb⟩
  replace HS : Hid _ := HS.out.next hb
  clear hb
  go_wp2_with fail
  refine (rvalueA b off cap n 16 8 l _ (HC.out.later HS.out.bel) HN (by omega) (by decide) (by decide) (by decide) o HXo.out).mono ?_
  rintro e W5 ⟨rfl, hb⟩
  replace HS : Hid _ := HS.out.next hb
  clear hb
  go_wp2_with fail
  refine (rvalueA b off cap n 24 4 l _ (HC.out.later HS.out.bel) HN (by omega) (by decide) (by decide) (by decide) k HXk.out).mono ?_
  rintro e W6 ⟨rfl, hb⟩
  replace HS : Hid _ := HS.out.next hb
  clear hb
  obtain ⟨V, hV⟩ : ∃ V, V = W6.alloc (.cells #[.int .u16 (f : Int), .int .u16 (t : Int), .int .u64 (c : Int), .int .u64 (o : Int), .int .u64 (k : Int), nilV] 59) := ⟨_, rfl⟩
  obtain ⟨g, hg⟩ : ∃ g, g = W6.heap.size := ⟨_, rfl⟩
  replace HS : Hid (Sx w V (.cells #[.int .u16 0, .int .u16 0, .int .u64 0, .int .u64 0, .int .u64 0, nilV] 59 (0, 0)) g #[.int .u16 (f : Int), .int .u16 (t : Int), .int .u64 (c : Int), .int .u64 (o : Int), .int .u64 (k : Int), nilV] 59) := by show Sx _ _ _ _ _ _; rw [hV, hg]; exact HS.out.box _ _
  have hgn : ¬ (g = w.heap.size) := by have := HS.out.gl; omega
  have hgm : ¬ (w.heap.size = g) := by have := HS.out.gl; omega
  go_wp2_with fail
  rw [← hV, ← hg]
  clear hV hg
  refine (rpay_any f t c o k none 0 [] false _).mono ?_
  rintro e W7 ⟨rfl, hb⟩
  replace HS : Hid _ := HS.out.next hb
  clear hb
  rw [hpay]
  have c24 := blk_at HS.out.b2 4
  simp at c24
  go_wp2_with fail
  refine (rtail_long _ cap n 28 k most _ hm4 hlong).mono ?_
  rintro e W8 ⟨rfl, hb⟩
  replace HS : Hid _ := HS.out.next hb
  clear hb
  clear c24
  have c20 := blk_at HS.out.b2 0
  have f20 := blk_free HS.out.b2 0
  have c21 := blk_at HS.out.b2 1
  have f21 := blk_free HS.out.b2 1
  have c22 := blk_at HS.out.b2 2
  have f22 := blk_free HS.out.b2 2
  have c23 := blk_at HS.out.b2 3
  have f23 := blk_free HS.out.b2 3
  have c24 := blk_at HS.out.b2 4
  have f24 := blk_free HS.out.b2 4
  have c25 := blk_at HS.out.b2 5
  have f25 := blk_free HS.out.b2 5
  simp at c20 c21 c22 c23 c24 c25
  have c00 := blk_at HS.out.b0 0
  have f00 := blk_free HS.out.b0 0
  have c01 := blk_at HS.out.b0 1
  have f01 := blk_free HS.out.b0 1
  have c02 := blk_at HS.out.b0 2
  have f02 := blk_free HS.out.b0 2
  have c03 := blk_at HS.out.b0 3
  have f03 := blk_free HS.out.b0 3
  have c04 := blk_at HS.out.b0 4
  have f04 := blk_free HS.out.b0 4
  have c05 := blk_at HS.out.b0 5
  have f05 := blk_free HS.out.b0 5
  simp at c00 c01 c02 c03 c04 c05
  go_wp2
  obtain ⟨HG, HB2⟩ := closenb6 HS.out.b0 HS.out.bel (.int .u16 (f : Int)) (.int .u16 (t : Int)) (.int .u64 (c : Int)) (.int .u64 (o : Int)) (.int .u64 (k : Int)) (nilV)
  generalize ((((((W8.setCell ⟨w.heap.size, 0, none⟩ (.int .u16 (f : Int))).setCell ⟨w.heap.size, 1, none⟩ (.int .u16 (t : Int))).setCell ⟨w.heap.size, 2, none⟩ (.int .u64 (c : Int))).setCell ⟨w.heap.size, 3, none⟩ (.int .u64 (o : Int))).setCell ⟨w.heap.size, 4, none⟩ (.int .u64 (k : Int))).setCell ⟨w.heap.size, 5, none⟩ (nilV)) = Wz at HG HB2 ⊢
  exact bodyPost_ret (results_cell_tmp2 rfl _ Wz w.heap.size 59 #[.int .u16 (f : Int), .int .u16 (t : Int), .int .u64 (c : Int), .int .u64 (o : Int), .int .u64 (k : Int), nilV] (0, 0) _ rfl HG Tryd.underlying59 rfl infoReq) rfl ⟨none, 0, rfl, row_nil w Wz HB2⟩
set_option maxHeartbeats 8000000 in
theorem rdecRequest0_short2 (b off cap n : Nat) (l : List Nat) (most : Nat) (f t c o k : Nat) (w : World) (h : CRow w (some ⟨b, off, none⟩) cap l) (HN : Hid (l.length = n)) (hs : 28 ≤ n) (HX0 : Hid (valB ((l.drop 0).take 4) = mReq)) (HX1 : Hid (valB ((l.drop 4).take 2) = f)) (HX2 : Hid (valB ((l.drop 6).take 2) = t)) (HX3 : Hid (valB ((l.drop 8).take 8) = c)) (HX4 : Hid (valB ((l.drop 16).take 8) = o)) (HX5 : Hid (valB ((l.drop 24).take 4) = k)) (hk64 : k < 18446744073709551616) (hm4 : most < 4294967296) (hpay : payB f t false = true) (hle : k ≤ most) (hsh : n - 28 < k) (N : Nat) (hN : 28 + k = N) :
    Calls Tryd.prog 49 #[.slice (some ⟨b, off, none⟩) n cap, .int .u32 (most : Int), .bool false] w fun e w' => e = .returned (.tuple #[.agg #[.int .u16 0, .int .u16 0, .int .u64 0, .int .u64 0, .int .u64 0, nilV], .int .i64 (N : Int), .int .i64 10]) ∧ Below w.heap.size w w' := by
  have HXf : Hid (vl l 4 2 = f) := HX1
  have HXt : Hid (vl l 6 2 = t) := HX2
  have HXc : Hid (vl l 8 8 = c) := HX3
  have HXo : Hid (vl l 16 8 = o) := HX4
  have HXk : Hid (vl l 24 4 = k) := HX5
  obtain ⟨W0, hW0⟩ : ∃ W0, W0 = w.alloc (.cells #[.int .u16 0, .int .u16 0, .int .u64 0, .int .u64 0, .int .u64 0, nilV] 59) := ⟨_, rfl⟩
  have HS : Hid (Sb w W0 (.cells #[.int .u16 0, .int .u16 0, .int .u64 0, .int .u64 0, .int .u64 0, nilV] 59 (0, 0))) := by show Sb _ _ _; rw [hW0]; exact Sb.new w _ _
  have hnl := h.row.len
  rw [HN.out] at hnl
  have hc1 := h.cap1
  have hc2 := h.cap2
  rw [HN.out] at hc1
  have HC : Hid (CRow w (some ⟨b, off, none⟩) cap l) := h
  clear h
  have hbf : f < 65536 := by have := vl_lt HC.out 4 2; rw [HXf.out] at this; simpa using this
  have hwf : IntKind.u16.wrap (f : Int) = (f : Int) := by rw [show IntKind.u16.wrap (f : Int) = (f : Int) % 65536 by simp [IntKind.wrap, IntKind.bits, IntKind.signed]]; omega
  have hbt : t < 65536 := by have := vl_lt HC.out 6 2; rw [HXt.out] at this; simpa using this
  have hwt : IntKind.u16.wrap (t : Int) = (t : Int) := by rw [show IntKind.u16.wrap (t : Int) = (t : Int) % 65536 by simp [IntKind.wrap, IntKind.bits, IntKind.signed]]; omega
  go_enter Tryd.func49, Tryd.ntmps49
  go_wp2_with fail
  rw [← hW0]
  clear hW0
  refine (rhead_ok b off cap n 28 mReq 4 l _ (HC.out.later HS.out.bel) HN hs (by decide) (by decide) (by decide) HX0.out).mono ?_
  rintro e W1 ⟨rfl, hb⟩
  replace HS : Hid _ := HS.out.next hb
  clear hb
  go_wp2_with fail
  refine (rvalueA b off cap n 4 2 l _ (HC.out.later HS.out.bel) HN (by omega) (by decide) (by decide) (by decide) f HXf.out).mono ?_
  rintro e W2 ⟨rfl, hb⟩
  replace HS : Hid _ := HS.out.next hb
  clear hb
  go_wp2_with fail
  refine (rvalueA b off cap n 6 2 l _ (HC.out.later HS.out.bel) HN (by omega) (by decide) (by decide) (by decide) t HXt.out).mono ?_
  rintro e W3 ⟨rfl, hb⟩
  replace HS : Hid _ := HS.out.next hb
  clear hb
  go_wp2_with fail
  refine (rvalueA b off cap n 8 8 l _ (HC.out.later HS.out.bel) HN (by omega) (by decide) (by decide) (by decide) c HXc.out).mono ?_
  rintro e W4 ⟨rfl, hb⟩
  replace HS : Hid _ := HS.out.next hb
  clear hb
  go_wp2_with fail
  refine (rvalueA b off cap n 16 8 l _ (HC.out.later HS.out.bel) HN (by omega) (by decide) (by decide) (by decide) o HXo.out).mono ?_
  rintro e W5 ⟨rfl, hb⟩
  replace HS : Hid _ := HS.out.next hb
  clear hb
  go_wp2_with fail
  refine (rvalueA b off cap n 24 4 l _ (HC.out.later HS.out.bel) HN (by omega) (by decide) (by decide) (by decide) k HXk.out).mono ?_
  rintro e W6 ⟨rfl, hb⟩
  replace HS : Hid _ := HS.out.next hb
  clear hb
  obtain ⟨V, hV⟩ : ∃ V, V = W6.alloc (.cells #[.int .u16 (f : Int), .int .u16 (t : Int), .int .u64 (c : Int), .int .u64 (o : Int), .int .u64 (k : Int), nilV] 59) := ⟨_, rfl⟩
  obtain ⟨g, hg⟩ : ∃ g, g = W6.heap.size := ⟨_, rfl⟩
  replace HS : Hid (Sx w V (.cells #[.int .u16 0, .int .u16 0, .int .u64 0, .int .u64 0, .int .u64 0, nilV] 59 (0, 0)) g #[.int .u16 (f : Int), .int .u16 (t : Int), .int .u64 (c : Int), .int .u64 (o : Int), .int .u64 (k : Int), nilV] 59) := by show Sx _ _ _ _ _ _; rw [hV, hg]; exact HS.out.box _ _
  have hgn : ¬ (g = w.heap.size) := by have := HS.out.gl; omega
  have hgm : ¬ (w.heap.size = g) := by have := HS.out.gl; omega
  go_wp2_with fail
  rw [← hV, ← hg]
  clear hV hg
  refine (rpay_any f t c o k none 0 [] false _).mono ?_
  rintro e W7 ⟨rfl, hb⟩
  replace HS : Hid _ := HS.out.next hb
  clear hb
  rw [hpay]
  have c24 := blk_at HS.out.b2 4
  simp at c24
  go_wp2_with fail
  refine (rtail_short _ cap n 28 k most N _ hm4 hle hnl (by decide) hN (by omega)).mono ?_
  rintro e W8 ⟨rfl, hb⟩
  replace HS : Hid _ := HS.out.next hb
  clear hb
  clear c24
  have c00 := blk_at HS.out.b0 0
  have f00 := blk_free HS.out.b0 0
  have c01 := blk_at HS.out.b0 1
  have f01 := blk_free HS.out.b0 1
  have c02 := blk_at HS.out.b0 2
  have f02 := blk_free HS.out.b0 2
  have c03 := blk_at HS.out.b0 3
  have f03 := blk_free HS.out.b0 3
  have c04 := blk_at HS.out.b0 4
  have f04 := blk_free HS.out.b0 4
  have c05 := blk_at HS.out.b0 5
  have f05 := blk_free HS.out.b0 5
  simp at c00 c01 c02 c03 c04 c05
  go_wp2
  obtain ⟨HG, HB2⟩ := closenb6 HS.out.b0 HS.out.bel (.int .u16 0) (.int .u16 0) (.int .u64 0) (.int .u64 0) (.int .u64 0) (nilV)
  generalize ((((((W8.setCell ⟨w.heap.size, 0, none⟩ (.int .u16 0)).setCell ⟨w.heap.size, 1, none⟩ (.int .u16 0)).setCell ⟨w.heap.size, 2, none⟩ (.int .u64 0)).setCell ⟨w.heap.size, 3, none⟩ (.int .u64 0)).setCell ⟨w.heap.size, 4, none⟩ (.int .u64 0)).setCell ⟨w.heap.size, 5, none⟩ (nilV)) = Wz at HG HB2 ⊢
  exact bodyPost_ret (results_cell_tmp2 rfl _ Wz w.heap.size 59 #[.int .u16 0, .int .u16 0, .int .u64 0, .int .u64 0, .int .u64 0, nilV] (0, 0) _ rfl HG Tryd.underlying59 rfl infoReq) rfl ⟨rfl, HB2⟩
set_option maxHeartbeats 8000000 in
theorem rdecRequest0_ok0 (b off cap n : Nat) (l : List Nat) (most : Nat) (f t c o k : Nat) (w : World) (h : CRow w (some ⟨b, off, none⟩) cap l) (HN : Hid (l.length = n)) (hs : 28 ≤ n) (HX0 : Hid (valB ((l.drop 0).take 4) = mReq)) (HX1 : Hid (valB ((l.drop 4).take 2) = f)) (HX2 : Hid (valB ((l.drop 6).take 2) = t)) (HX3 : Hid (valB ((l.drop 8).take 8) = c)) (HX4 : Hid (valB ((l.drop 16).take 8) = o)) (HX5 : Hid (valB ((l.drop 24).take 4) = k)) (hk64 : k < 18446744073709551616) (hm4 : most < 4294967296) (hpay : payB f t false = true) (hle : k ≤ most) (hfit : k ≤ n - 28) (N : Nat) (hN : 28 + k = N) (m : List Nat) (hm : (l.drop 28).take k = m) (hce : cap = 28) :
    Calls Tryd.prog 49 #[.slice (some ⟨b, off, none⟩) n cap, .int .u32 (most : Int), .bool false] w fun e w' => ∃ ao2 cap2, e = .returned (.tuple #[.agg #[.int .u16 (f : Int), .int .u16 (t : Int), .int .u64 (c : Int), .int .u64 (o : Int), .int .u64 (k : Int), .slice ao2 k cap2], .int .i64 (N : Int), .int .i64 0]) ∧ w'.ownsRow w.heap.size 5 1 (.slice ao2 k cap2) k (m.map bv) ∧ Below w.heap.size w w' := by
  have HXf : Hid (vl l 4 2 = f) := HX1
  have HXt : Hid (vl l 6 2 = t) := HX2
  have HXc : Hid (vl l 8 8 = c) := HX3
  have HXo : Hid (vl l 16 8 = o) := HX4
  have HXk : Hid (vl l 24 4 = k) := HX5
  obtain ⟨W0, hW0⟩ : ∃ W0, W0 = w.alloc (.cells #[.int .u16 0, .int .u16 0, .int .u64 0, .int .u64 0, .int .u64 0, nilV] 59) := ⟨_, rfl⟩
  have HS : Hid (Sb w W0 (.cells #[.int .u16 0, .int .u16 0, .int .u64 0, .int .u64 0, .int .u64 0, nilV] 59 (0, 0))) := by show Sb _ _ _; rw [hW0]; exact Sb.new w _ _
  have hnl := h.row.len
  rw [HN.out] at hnl
  have hc1 := h.cap1
  have hc2 := h.cap2
  rw [HN.out] at hc1
  have HC : Hid (CRow w (some ⟨b, off, none⟩) cap l) := h
  clear h
  have hbf : f < 65536 := by have := vl_lt HC.out 4 2; rw [HXf.out] at this; simpa using this
  have hwf : IntKind.u16.wrap (f : Int) = (f : Int) := by rw [show IntKind.u16.wrap (f : Int) = (f : Int) % 65536 by simp [IntKind.wrap, IntKind.bits, IntKind.signed]]; omega
  have hbt : t < 65536 := by have := vl_lt HC.out 6 2; rw [HXt.out] at this; simpa using this
  have hwt : IntKind.u16.wrap (t : Int) = (t : Int) := by rw [show IntKind.u16.wrap (t : Int) = (t : Int) % 65536 by simp [IntKind.wrap, IntKind.bits, IntKind.signed]]; omega
  have hlen : m.length = k := by rw [← hm, List.length_take, List.length_drop, HN.out]; omega
  have HM : Hid ((l.drop 28).take k = m ∧ m.length = k) := ⟨hm, hlen⟩
  clear hm hlen
  obtain rfl : n = 28 := by omega
  obtain rfl : k = 0 := by omega
  obtain rfl : N = 28 := by omega
  subst hce
  go_enter Tryd.func49, Tryd.ntmps49
  go_wp2_with fail
  rw [← hW0]
  clear hW0
  refine (rhead_ok b off 28 28 28 mReq 4 l _ (HC.out.later HS.out.bel) HN hs (by decide) (by decide) (by decide) HX0.out).mono ?_
  rintro e W1 ⟨rfl, hb⟩
  replace HS : Hid _ := HS.out.next hb
  clear hb
  go_wp2_with fail
  refine (rvalueA b off 28 28 4 2 l _ (HC.out.later HS.out.bel) HN (by omega) (by decide) (by decide) (by decide) f HXf.out).mono ?_
  rintro e W2 ⟨rfl, hb⟩
  replace HS : Hid _ := HS.out.next hb
  clear hb
  go_wp2_with fail
  refine (rvalueA b off 28 28 6 2 l _ (HC.out.later HS.out.bel) HN (by omega) (by decide) (by decide) (by decide) t HXt.out).mono ?_
  rintro e W3 ⟨rfl, hb⟩
  replace HS : Hid _ := HS.out.next hb
  clear hb
  go_wp2_with fail
  refine (rvalueA b off 28 28 8 8 l _ (HC.out.later HS.out.bel) HN (by omega) (by decide) (by decide) (by decide) c HXc.out).mono ?_
  rintro e W4 ⟨rfl, hb⟩
  replace HS : Hid _ := HS.out.next hb
  clear hb
  go_wp2_with fail
  refine (rvalueA b off 28 28 16 8 l _ (HC.out.later HS.out.bel) HN (by omega) (by decide) (by decide) (by decide) o HXo.out).mono ?_
  rintro e W5 ⟨rfl, hb⟩
  replace HS : Hid _ := HS.out.next hb
  clear hb
  go_wp2_with fail
  refine (rvalueA b off 28 28 24 4 l _ (HC.out.later HS.out.bel) HN (by omega) (by decide) (by decide) (by decide) 0 HXk.out).mono ?_
  rintro e W6 ⟨rfl, hb⟩
  replace HS : Hid _ := HS.out.next hb
  clear hb
  obtain ⟨V, hV⟩ : ∃ V, V = W6.alloc (.cells #[.int .u16 (f : Int), .int .u16 (t : Int), .int .u64 (c : Int), .int .u64 (o : Int), .int .u64 0, nilV] 59) := ⟨_, rfl⟩
  obtain ⟨g, hg⟩ : ∃ g, g = W6.heap.size := ⟨_, rfl⟩
  replace HS : Hid (Sx w V (.cells #[.int .u16 0, .int .u16 0, .int .u64 0, .int .u64 0, .int .u64 0, nilV] 59 (0, 0)) g #[.int .u16 (f : Int), .int .u16 (t : Int), .int .u64 (c : Int), .int .u64 (o : Int), .int .u64 0, nilV] 59) := by show Sx _ _ _ _ _ _; rw [hV, hg]; exact HS.out.box _ _
  have hgn : ¬ (g = w.heap.size) := by have := HS.out.gl; omega
  have hgm : ¬ (w.heap.size = g) := by have := HS.out.gl; omega
  go_wp2_with fail
  rw [← hV, ← hg]
  clear hV hg
  refine (rpay_any f t c o 0 none 0 [] false _).mono ?_
  rintro e W7 ⟨rfl, hb⟩
  replace HS : Hid _ := HS.out.next hb
  clear hb
  rw [hpay]
  have c24 := blk_at HS.out.b2 4
  simp at c24
  go_wp2_with fail
  refine (rtail_ok _ 28 28 28 0 most 28 _ hm4 (Nat.zero_le _) hnl (by decide) rfl (Nat.le_refl _)).mono ?_
  rintro e W8 ⟨rfl, hb⟩
  replace HS : Hid _ := HS.out.next hb
  clear hb
  clear c24
  go_wp2_with fail
  have HBb : Hid (g < W8.heap.size ∧ w.heap.size < W8.heap.size) := ⟨block_lt HS.out.b2, block_lt HS.out.b0⟩
  refine (copyN (some ⟨b, off, none⟩) 0 0 [] _ ⟨by simp, by simp, (fun e => by cases e), fun h => absurd rfl h⟩ rfl).mono ?_
  rintro e W9 ⟨ao2, cap2, rfl, ho, hb⟩
  replace HS : Hid _ := HS.out.next hb
  have HO : Hid (W9.ownsRow W8.heap.size 5 1 (.slice ao2 0 cap2) 0 ([].map bv)) := ho
  clear hb ho
  have c20 := blk_at HS.out.b2 0
  have f20 := blk_free HS.out.b2 0
  have c21 := blk_at HS.out.b2 1
  have f21 := blk_free HS.out.b2 1
  have c22 := blk_at HS.out.b2 2
  have f22 := blk_free HS.out.b2 2
  have c23 := blk_at HS.out.b2 3
  have f23 := blk_free HS.out.b2 3
  have c24 := blk_at HS.out.b2 4
  have f24 := blk_free HS.out.b2 4
  have c25 := blk_at HS.out.b2 5
  have f25 := blk_free HS.out.b2 5
  simp at c20 c21 c22 c23 c24 c25
  have c00 := blk_at HS.out.b0 0
  have f00 := blk_free HS.out.b0 0
  have c01 := blk_at HS.out.b0 1
  have f01 := blk_free HS.out.b0 1
  have c02 := blk_at HS.out.b0 2
  have f02 := blk_free HS.out.b0 2
  have c03 := blk_at HS.out.b0 3
  have f03 := blk_free HS.out.b0 3
  have c04 := blk_at HS.out.b0 4
  have f04 := blk_free HS.out.b0 4
  have c05 := blk_at HS.out.b0 5
  have f05 := blk_free HS.out.b0 5
  simp at c00 c01 c02 c03 c04 c05
  go_wp2
  replace HS : Hid _ := HS.out.put 5 (.slice ao2 0 cap2) (cs' := #[.int .u16 (f : Int), .int .u16 (t : Int), .int .u64 (c : Int), .int .u64 (o : Int), .int .u64 0, .slice ao2 0 cap2]) rfl
  have HO1 : (W9.setCell ⟨g, 5, none⟩ (.slice ao2 0 cap2)).ownsRow W8.heap.size 5 1 (.slice ao2 0 cap2) 0 ([].map bv) := owns_same HO.out fun x hx => Below.heap_setCell _ _ _ _ (by have := (owns_lt HO.out x hx).2; have := HBb.out; show x ≠ g; omega)
  generalize W9.setCell ⟨g, 5, none⟩ (.slice ao2 0 cap2) = Wy at HS HO1 ⊢
  obtain ⟨HG, HB2, HO2⟩ := closen6 HS.out.b0 HS.out.bel HO1 (by have := HBb.out; omega) (.int .u16 (f : Int)) (.int .u16 (t : Int)) (.int .u64 (c : Int)) (.int .u64 (o : Int)) (.int .u64 0) (.slice ao2 0 cap2)
  generalize ((((((Wy.setCell ⟨w.heap.size, 0, none⟩ (.int .u16 (f : Int))).setCell ⟨w.heap.size, 1, none⟩ (.int .u16 (t : Int))).setCell ⟨w.heap.size, 2, none⟩ (.int .u64 (c : Int))).setCell ⟨w.heap.size, 3, none⟩ (.int .u64 (o : Int))).setCell ⟨w.heap.size, 4, none⟩ (.int .u64 0)).setCell ⟨w.heap.size, 5, none⟩ (.slice ao2 0 cap2)) = Wz at HG HB2 HO2 ⊢
  exact bodyPost_ret (results_cell_tmp2 rfl _ Wz w.heap.size 59 #[.int .u16 (f : Int), .int .u16 (t : Int), .int .u64 (c : Int), .int .u64 (o : Int), .int .u64 0, .slice ao2 0 cap2] (0, 0) _ rfl HG Tryd.underlying59 rfl infoReq) rfl ⟨_, _, rfl, by have e : m = [] := List.eq_nil_of_length_eq_zero HM.out.2; rw [e]; exact owns_mono HO2 (by have := HBb.out; omega), HB2⟩
set_option maxHeartbeats 8000000 in
theorem rdecRequest0_ok1 (b off cap n : Nat) (l : List Nat) (most : Nat) (f t c o k : Nat) (w : World) (h : CRow w (some ⟨b, off, none⟩) cap l) (HN : Hid (l.length = n)) (hs : 28 ≤ n) (HX0 : Hid (valB ((l.drop 0).take 4) = mReq)) (HX1 : Hid (valB ((l.drop 4).take 2) = f)) (HX2 : Hid (valB ((l.drop 6).take 2) = t)) (HX3 : Hid (valB ((l.drop 8).take 8) = c)) (HX4 : Hid (valB ((l.drop 16).take 8) = o)) (HX5 : Hid (valB ((l.drop 24).take 4) = k)) (hk64 : k < 18446744073709551616) (hm4 : most < 4294967296) (hpay : payB f t false = true) (hle : k ≤ most) (hfit : k ≤ n - 28) (N : Nat) (hN : 28 + k = N) (m : List Nat) (hm : (l.drop 28).take k = m) (hce : ¬ cap = 28) :
    Calls Tryd.prog 49 #[.slice (some ⟨b, off, none⟩) n cap, .int .u32 (most : Int), .bool false] w fun e w' => ∃ ao2 cap2, e = .returned (.tuple #[.agg #[.int .u16 (f : Int), .int .u16 (t : Int), .int .u64 (c : Int), .int .u64 (o : Int), .int .u64 (k : Int), .slice ao2 k cap2], .int .i64 (N : Int), .int .i64 0]) ∧ w'.ownsRow w.heap.size 5 1 (.slice ao2 k cap2) k (m.map bv) ∧ Below w.heap.size w w' := by
  have HXf : Hid (vl l 4 2 = f) := HX1
  have HXt : Hid (vl l 6 2 = t) := HX2
  have HXc : Hid (vl l 8 8 = c) := HX3
  have HXo : Hid (vl l 16 8 = o) := HX4
  have HXk : Hid (vl l 24 4 = k) := HX5
  obtain ⟨W0, hW0⟩ : ∃ W0, W0 = w.alloc (.cells #[.int .u16 0, .int .u16 0, .int .u64 0, .int .u64 0, .int .u64 0, nilV] 59) := ⟨_, rfl⟩
  have HS : Hid (Sb w W0 (.cells #[.int .u16 0, .int .u16 0, .int .u64 0, .int .u64 0, .int .u64 0, nilV] 59 (0, 0))) := by show Sb _ _ _; rw [hW0]; exact Sb.new w _ _
  have hnl := h.row.len
  rw [HN.out] at hnl
  have hc1 := h.cap1
  have hc2 := h.cap2
  rw [HN.out] at hc1
  have HC : Hid (CRow w (some ⟨b, off, none⟩) cap l) := h
  clear h
  have hbf : f < 65536 := by have := vl_lt HC.out 4 2; rw [HXf.out] at this; simpa using this
  have hwf : IntKind.u16.wrap (f : Int) = (f : Int) := by rw [show IntKind.u16.wrap (f : Int) = (f : Int) % 65536 by simp [IntKind.wrap, IntKind.bits, IntKind.signed]]; omega
  have hbt : t < 65536 := by have := vl_lt HC.out 6 2; rw [HXt.out] at this; simpa using this
  have hwt : IntKind.u16.wrap (t : Int) = (t : Int) := by rw [show IntKind.u16.wrap (t : Int) = (t : Int) % 65536 by simp [IntKind.wrap, IntKind.bits, IntKind.signed]]; omega
  have hlen : m.length = k := by rw [← hm, List.length_take, List.length_drop, HN.out]; omega
  have HM : Hid ((l.drop 28).take k = m ∧ m.length = k) := ⟨hm, hlen⟩
  clear hm hlen
  have q1 : (N : Int) ≤ (cap : Int) := by omega
  have q2 : (28 : Int) ≤ (N : Int) := by omega
  have q3 : N - 28 = k := by omega
  have q4 : ((N : Int) - 28).toNat = k := by omega
  have q5 : 28 ≤ N := by omega
  have q6 : N ≤ cap := by omega
  go_enter Tryd.func49, Tryd.ntmps49
  go_wp2_with fail
  rw [← hW0]
  clear hW0
  refine (rhead_ok b off cap n 28 mReq 4 l _ (HC.out.later HS.out.bel) HN hs (by decide) (by decide) (by decide) HX0.out).mono ?_
  rintro e W1 ⟨rfl, hb⟩
  replace HS : Hid _ := HS.out.next hb
  clear hb
  go_wp2_with fail
  refine (rvalueA b off cap n 4 2 l _ (HC.out.later HS.out.bel) HN (by omega) (by decide) (by decide) (by decide) f HXf.out).mono ?_
  rintro e W2 ⟨rfl, hb⟩
  replace HS : Hid _ := HS.out.next hb
  clear hb
  go_wp2_with fail
  refine (rvalueA b off cap n 6 2 l _ (HC.out.later HS.out.bel) HN (by omega) (by decide) (by decide) (by decide) t HXt.out).mono ?_
  rintro e W3 ⟨rfl, hb⟩
  replace HS : Hid _ := HS.out.next hb
  clear hb
  go_wp2_with fail
  refine (rvalueA b off cap n 8 8 l _ (HC.out.later HS.out.bel) HN (by omega) (by decide) (by decide) (by decide) c HXc.out).mono ?_
  rintro e W4 ⟨rfl, hb⟩
  replace HS : Hid _ := HS.out.next hb
  clear hb
  go_wp2_with fail
  refine (rvalueA b off cap n 16 8 l _ (HC.out.later HS.out.bel) HN (by omega) (by decide) (by decide) (by decide) o HXo.out).mono ?_
  rintro e W5 ⟨rfl, hb⟩
  replace HS : Hid _ := HS.out.next hb
  clear hb
  go_wp2_with fail
  refine (rvalueA b off cap n 24 4 l _ (HC.out.later HS.out.bel) HN (by omega) (by decide) (by decide) (by decide) k HXk.out).mono ?_
  rintro e W6 ⟨rfl, hb⟩
  replace HS : Hid _ := HS.out.next hb
  clear hb
  obtain ⟨V, hV⟩ : ∃ V, V = W6.alloc (.cells #[.int .u16 (f : Int), .int .u16 (t : Int), .int .u64 (c : Int), .int .u64 (o : Int), .int .u64 (k : Int), nilV] 59) := ⟨_, rfl⟩
  obtain ⟨g, hg⟩ : ∃ g, g = W6.heap.size := ⟨_, rfl⟩
  replace HS : Hid (Sx w V (.cells #[.int .u16 0, .int .u16 0, .int .u64 0, .int .u64 0, .int .u64 0, nilV] 59 (0, 0)) g #[.int .u16 (f : Int), .int .u16 (t : Int), .int .u64 (c : Int), .int .u64 (o : Int), .int .u64 (k : Int), nilV] 59) := by show Sx _ _ _ _ _ _; rw [hV, hg]; exact HS.out.box _ _
  have hgn : ¬ (g = w.heap.size) := by have := HS.out.gl; omega
  have hgm : ¬ (w.heap.size = g) := by have := HS.out.gl; omega
  go_wp2_with fail
  rw [← hV, ← hg]
  clear hV hg
  refine (rpay_any f t c o k none 0 [] false _).mono ?_
  rintro e W7 ⟨rfl, hb⟩
  replace HS : Hid _ := HS.out.next hb
  clear hb
  rw [hpay]
  have c24 := blk_at HS.out.b2 4
  simp at c24
  go_wp2_with fail
  refine (rtail_ok _ cap n 28 k most N _ hm4 hle hnl (by decide) hN (by omega)).mono ?_
  rintro e W8 ⟨rfl, hb⟩
  replace HS : Hid _ := HS.out.next hb
  clear hb
  clear c24
  go_wp2_with fail
  have HBb : Hid (g < W8.heap.size ∧ w.heap.size < W8.heap.size) := ⟨block_lt HS.out.b2, block_lt HS.out.b0⟩
  refine (copyN (some ⟨b, off + 28, none⟩) (cap - 28) k m _ (by have := part_brow (HC.out.later HS.out.bel) 28 k (cap - 28); rw [HM.out.1] at this; exact this) HM.out.2).mono ?_
  rintro e W9 ⟨ao2, cap2, rfl, ho, hb⟩
  replace HS : Hid _ := HS.out.next hb
  have HO : Hid (W9.ownsRow W8.heap.size 5 1 (.slice ao2 k cap2) k (m.map bv)) := ho
  clear hb ho
  have c20 := blk_at HS.out.b2 0
  have f20 := blk_free HS.out.b2 0
  have c21 := blk_at HS.out.b2 1
  have f21 := blk_free HS.out.b2 1
  have c22 := blk_at HS.out.b2 2
  have f22 := blk_free HS.out.b2 2
  have c23 := blk_at HS.out.b2 3
  have f23 := blk_free HS.out.b2 3
  have c24 := blk_at HS.out.b2 4
  have f24 := blk_free HS.out.b2 4
  have c25 := blk_at HS.out.b2 5
  have f25 := blk_free HS.out.b2 5
  simp at c20 c21 c22 c23 c24 c25
  have c00 := blk_at HS.out.b0 0
  have f00 := blk_free HS.out.b0 0
  have c01 := blk_at HS.out.b0 1
  have f01 := blk_free HS.out.b0 1
  have c02 := blk_at HS.out.b0 2
  have f02 := blk_free HS.out.b0 2
  have c03 := blk_at HS.out.b0 3
  have f03 := blk_free HS.out.b0 3
  have c04 := blk_at HS.out.b0 4
  have f04 := blk_free HS.out.b0 4
  have c05 := blk_at HS.out.b0 5
  have f05 := blk_free HS.out.b0 5
  simp at c00 c01 c02 c03 c04 c05
  go_wp2
  replace HS : Hid _ := HS.out.put 5 (.slice ao2 k cap2) (cs' := #[.int .u16 (f : Int), .int .u16 (t : Int), .int .u64 (c : Int), .int .u64 (o : Int), .int .u64 (k : Int), .slice ao2 k cap2]) rfl
  have HO1 : (W9.setCell ⟨g, 5, none⟩ (.slice ao2 k cap2)).ownsRow W8.heap.size 5 1 (.slice ao2 k cap2) k (m.map bv) := owns_same HO.out fun x hx => Below.heap_setCell _ _ _ _ (by have := (owns_lt HO.out x hx).2; have := HBb.out; show x ≠ g; omega)
  generalize W9.setCell ⟨g, 5, none⟩ (.slice ao2 k cap2) = Wy at HS HO1 ⊢
  obtain ⟨HG, HB2, HO2⟩ := closen6 HS.out.b0 HS.out.bel HO1 (by have := HBb.out; omega) (.int .u16 (f : Int)) (.int .u16 (t : Int)) (.int .u64 (c : Int)) (.int .u64 (o : Int)) (.int .u64 (k : Int)) (.slice ao2 k cap2)
  generalize ((((((Wy.setCell ⟨w.heap.size, 0, none⟩ (.int .u16 (f : Int))).setCell ⟨w.heap.size, 1, none⟩ (.int .u16 (t : Int))).setCell ⟨w.heap.size, 2, none⟩ (.int .u64 (c : Int))).setCell ⟨w.heap.size, 3, none⟩ (.int .u64 (o : Int))).setCell ⟨w.heap.size, 4, none⟩ (.int .u64 (k : Int))).setCell ⟨w.heap.size, 5, none⟩ (.slice ao2 k cap2)) = Wz at HG HB2 HO2 ⊢
  exact bodyPost_ret (results_cell_tmp2 rfl _ Wz w.heap.size 59 #[.int .u16 (f : Int), .int .u16 (t : Int), .int .u64 (c : Int), .int .u64 (o : Int), .int .u64 (k : Int), .slice ao2 k cap2] (0, 0) _ rfl HG Tryd.underlying59 rfl infoReq) rfl ⟨_, _, rfl, owns_mono HO2 (by have := HBb.out; omega), HB2⟩
set_option maxHeartbeats 8000000 in
theorem rdecRequest0_plain0 (b off cap n : Nat) (l : List Nat) (most : Nat) (f t c o k : Nat) (w : World) (h : CRow w (some ⟨b, off, none⟩) cap l) (HN : Hid (l.length = n)) (hs : 28 ≤ n) (HX0 : Hid (valB ((l.drop 0).take 4) = mReq)) (HX1 : Hid (valB ((l.drop 4).take 2) = f)) (HX2 : Hid (valB ((l.drop 6).take 2) = t)) (HX3 : Hid (valB ((l.drop 8).take 8) = c)) (HX4 : Hid (valB ((l.drop 16).take 8) = o)) (HX5 : Hid (valB ((l.drop 24).take 4) = k)) (hk64 : k < 18446744073709551616) (hm4 : most < 4294967296) (hpay : payB f t false = false) (hce : cap = 28) :
    Calls Tryd.prog 49 #[.slice (some ⟨b, off, none⟩) n cap, .int .u32 (most : Int), .bool false] w fun e w' => ∃ ao2 cap2, e = .returned (.tuple #[.agg #[.int .u16 (f : Int), .int .u16 (t : Int), .int .u64 (c : Int), .int .u64 (o : Int), .int .u64 (k : Int), .slice ao2 0 cap2], .int .i64 28, .int .i64 0]) ∧ Row w w' ao2 cap2 [] := by
  have HXf : Hid (vl l 4 2 = f) := HX1
  have HXt : Hid (vl l 6 2 = t) := HX2
  have HXc : Hid (vl l 8 8 = c) := HX3
  have HXo : Hid (vl l 16 8 = o) := HX4
  have HXk : Hid (vl l 24 4 = k) := HX5
  obtain ⟨W0, hW0⟩ : ∃ W0, W0 = w.alloc (.cells #[.int .u16 0, .int .u16 0, .int .u64 0, .int .u64 0, .int .u64 0, nilV] 59) := ⟨_, rfl⟩
  have HS : Hid (Sb w W0 (.cells #[.int .u16 0, .int .u16 0, .int .u64 0, .int .u64 0, .int .u64 0, nilV] 59 (0, 0))) := by show Sb _ _ _; rw [hW0]; exact Sb.new w _ _
  have hnl := h.row.len
  rw [HN.out] at hnl
  have hc1 := h.cap1
  have hc2 := h.cap2
  rw [HN.out] at hc1
  have HC : Hid (CRow w (some ⟨b, off, none⟩) cap l) := h
  clear h
  have hbf : f < 65536 := by have := vl_lt HC.out 4 2; rw [HXf.out] at this; simpa using this
  have hwf : IntKind.u16.wrap (f : Int) = (f : Int) := by rw [show IntKind.u16.wrap (f : Int) = (f : Int) % 65536 by simp [IntKind.wrap, IntKind.bits, IntKind.signed]]; omega
  have hbt : t < 65536 := by have := vl_lt HC.out 6 2; rw [HXt.out] at this; simpa using this
  have hwt : IntKind.u16.wrap (t : Int) = (t : Int) := by rw [show IntKind.u16.wrap (t : Int) = (t : Int) % 65536 by simp [IntKind.wrap, IntKind.bits, IntKind.signed]]; omega
  obtain ⟨N, hN⟩ : ∃ N, 28 + 0 = N := ⟨_, rfl⟩
  obtain rfl : n = 28 := by omega
  obtain rfl : N = 28 := by omega
  subst hce
  go_enter Tryd.func49, Tryd.ntmps49
  go_wp2_with fail
  rw [← hW0]
  clear hW0
  refine (rhead_ok b off 28 28 28 mReq 4 l _ (HC.out.later HS.out.bel) HN hs (by decide) (by decide) (by decide) HX0.out).mono ?_
  rintro e W1 ⟨rfl, hb⟩
  replace HS : Hid _ := HS.out.next hb
  clear hb
  go_wp2_with fail
  refine (rvalueA b off 28 28 4 2 l _ (HC.out.later HS.out.bel) HN (by omega) (by decide) (by decide) (by decide) f HXf.out).mono ?_
  rintro e W2 ⟨rfl, hb⟩
  replace HS : Hid _ := HS.out.next hb
  clear hb
  go_wp2_with fail
  refine (rvalueA b off 28 28 6 2 l _ (HC.out.later HS.out.bel) HN (by omega) (by decide) (by decide) (by decide) t HXt.out).mono ?_
  rintro e W3 ⟨rfl, hb⟩
  replace HS : Hid _ := HS.out.next hb
  clear hb
  go_wp2_with fail
  refine (rvalueA b off 28 28 8 8 l _ (HC.out.later HS.out.bel) HN (by omega) (by decide) (by decide) (by decide) c HXc.out).mono ?_
  rintro e W4 ⟨rfl, hb⟩
  replace HS : Hid _ := HS.out.next hb
  clear hb
  go_wp2_with fail
  refine (rvalueA b off 28 28 16 8 l _ (HC.out.later HS.out.bel) HN (by omega) (by decide) (by decide) (by decide) o HXo.out).mono ?_
  rintro e W5 ⟨rfl, hb⟩
  replace HS : Hid _ := HS.out.next hb
  clear hb
  go_wp2_with fail
  refine (rvalueA b off 28 28 24 4 l _ (HC.out.later HS.out.bel) HN (by omega) (by decide) (by decide) (by decide) k HXk.out).mono ?_
  rintro e W6 ⟨rfl, hb⟩
  replace HS : Hid _ := HS.out.next hb
  clear hb
  obtain ⟨V, hV⟩ : ∃ V, V = W6.alloc (.cells #[.int .u16 (f : Int), .int .u16 (t : Int), .int .u64 (c : Int), .int .u64 (o : Int), .int .u64 (k : Int), nilV] 59) := ⟨_, rfl⟩
  obtain ⟨g, hg⟩ : ∃ g, g = W6.heap.size := ⟨_, rfl⟩
  replace HS : Hid (Sx w V (.cells #[.int .u16 0, .int .u16 0, .int .u64 0, .int .u64 0, .int .u64 0, nilV] 59 (0, 0)) g #[.int .u16 (f : Int), .int .u16 (t : Int), .int .u64 (c : Int), .int .u64 (o : Int), .int .u64 (k : Int), nilV] 59) := by show Sx _ _ _ _ _ _; rw [hV, hg]; exact HS.out.box _ _
  have hgn : ¬ (g = w.heap.size) := by have := HS.out.gl; omega
  have hgm : ¬ (w.heap.size = g) := by have := HS.out.gl; omega
  go_wp2_with fail
  rw [← hV, ← hg]
  clear hV hg
  refine (rpay_any f t c o k none 0 [] false _).mono ?_
  rintro e W7 ⟨rfl, hb⟩
  replace HS : Hid _ := HS.out.next hb
  clear hb
  rw [hpay]
  go_wp2_with fail
  refine (rtail_ok _ 28 28 28 0 most 28 _ hm4 (Nat.zero_le _) hnl (by decide) rfl (Nat.le_refl _)).mono ?_
  rintro e W8 ⟨rfl, hb⟩
  replace HS : Hid _ := HS.out.next hb
  clear hb
  go_wp2_with fail
  have HBb : Hid (g < W8.heap.size ∧ w.heap.size < W8.heap.size) := ⟨block_lt HS.out.b2, block_lt HS.out.b0⟩
  refine (copyN (some ⟨b, off, none⟩) 0 0 [] _ ⟨by simp, by simp, (fun e => by cases e), fun h => absurd rfl h⟩ rfl).mono ?_
  rintro e W9 ⟨ao2, cap2, rfl, ho, hb⟩
  replace HS : Hid _ := HS.out.next hb
  have HO : Hid (W9.ownsRow W8.heap.size 5 1 (.slice ao2 0 cap2) 0 ([].map bv)) := ho
  clear hb ho
  have c20 := blk_at HS.out.b2 0
  have f20 := blk_free HS.out.b2 0
  have c21 := blk_at HS.out.b2 1
  have f21 := blk_free HS.out.b2 1
  have c22 := blk_at HS.out.b2 2
  have f22 := blk_free HS.out.b2 2
  have c23 := blk_at HS.out.b2 3
  have f23 := blk_free HS.out.b2 3
  have c24 := blk_at HS.out.b2 4
  have f24 := blk_free HS.out.b2 4
  have c25 := blk_at HS.out.b2 5
  have f25 := blk_free HS.out.b2 5
  simp at c20 c21 c22 c23 c24 c25
  have c00 := blk_at HS.out.b0 0
  have f00 := blk_free HS.out.b0 0
  have c01 := blk_at HS.out.b0 1
  have f01 := blk_free HS.out.b0 1
  have c02 := blk_at HS.out.b0 2
  have f02 := blk_free HS.out.b0 2
  have c03 := blk_at HS.out.b0 3
  have f03 := blk_free HS.out.b0 3
  have c04 := blk_at HS.out.b0 4
  have f04 := blk_free HS.out.b0 4
  have c05 := blk_at HS.out.b0 5
  have f05 := blk_free HS.out.b0 5
  simp at c00 c01 c02 c03 c04 c05
  go_wp2
  replace HS : Hid _ := HS.out.put 5 (.slice ao2 0 cap2) (cs' := #[.int .u16 (f : Int), .int .u16 (t : Int), .int .u64 (c : Int), .int .u64 (o : Int), .int .u64 (k : Int), .slice ao2 0 cap2]) rfl
  have HO1 : (W9.setCell ⟨g, 5, none⟩ (.slice ao2 0 cap2)).ownsRow W8.heap.size 5 1 (.slice ao2 0 cap2) 0 ([].map bv) := owns_same HO.out fun x hx => Below.heap_setCell _ _ _ _ (by have := (owns_lt HO.out x hx).2; have := HBb.out; show x ≠ g; omega)
  generalize W9.setCell ⟨g, 5, none⟩ (.slice ao2 0 cap2) = Wy at HS HO1 ⊢
  obtain ⟨HG, HB2, HO2⟩ := closen6 HS.out.b0 HS.out.bel HO1 (by have := HBb.out; omega) (.int .u16 (f : Int)) (.int .u16 (t : Int)) (.int .u64 (c : Int)) (.int .u64 (o : Int)) (.int .u64 (k : Int)) (.slice ao2 0 cap2)
  generalize ((((((Wy.setCell ⟨w.heap.size, 0, none⟩ (.int .u16 (f : Int))).setCell ⟨w.heap.size, 1, none⟩ (.int .u16 (t : Int))).setCell ⟨w.heap.size, 2, none⟩ (.int .u64 (c : Int))).setCell ⟨w.heap.size, 3, none⟩ (.int .u64 (o : Int))).setCell ⟨w.heap.size, 4, none⟩ (.int .u64 (k : Int))).setCell ⟨w.heap.size, 5, none⟩ (.slice ao2 0 cap2)) = Wz at HG HB2 HO2 ⊢
  exact bodyPost_ret (results_cell_tmp2 rfl _ Wz w.heap.size 59 #[.int .u16 (f : Int), .int .u16 (t : Int), .int .u64 (c : Int), .int .u64 (o : Int), .int .u64 (k : Int), .slice ao2 0 cap2] (0, 0) _ rfl HG Tryd.underlying59 rfl infoReq) rfl ⟨_, _, rfl, owns_mono HO2 (by have := HBb.out; omega), by simp, HB2⟩
set_option maxHeartbeats 8000000 in
theorem rdecRequest0_plain1 (b off cap n : Nat) (l : List Nat) (most : Nat) (f t c o k : Nat) (w : World) (h : CRow w (some ⟨b, off, none⟩) cap l) (HN : Hid (l.length = n)) (hs : 28 ≤ n) (HX0 : Hid (valB ((l.drop 0).take 4) = mReq)) (HX1 : Hid (valB ((l.drop 4).take 2) = f)) (HX2 : Hid (valB ((l.drop 6).take 2) = t)) (HX3 : Hid (valB ((l.drop 8).take 8) = c)) (HX4 : Hid (valB ((l.drop 16).take 8) = o)) (HX5 : Hid (valB ((l.drop 24).take 4) = k)) (hk64 : k < 18446744073709551616) (hm4 : most < 4294967296) (hpay : payB f t false = false) (hce : ¬ cap = 28) :
    Calls Tryd.prog 49 #[.slice (some ⟨b, off, none⟩) n cap, .int .u32 (most : Int), .bool false] w fun e w' => ∃ ao2 cap2, e = .returned (.tuple #[.agg #[.int .u16 (f : Int), .int .u16 (t : Int), .int .u64 (c : Int), .int .u64 (o : Int), .int .u64 (k : Int), .slice ao2 0 cap2], .int .i64 28, .int .i64 0]) ∧ Row w w' ao2 cap2 [] := by
  have HXf : Hid (vl l 4 2 = f) := HX1
  have HXt : Hid (vl l 6 2 = t) := HX2
  have HXc : Hid (vl l 8 8 = c) := HX3
  have HXo : Hid (vl l 16 8 = o) := HX4
  have HXk : Hid (vl l 24 4 = k) := HX5
  obtain ⟨W0, hW0⟩ : ∃ W0, W0 = w.alloc (.cells #[.int .u16 0, .int .u16 0, .int .u64 0, .int .u64 0, .int .u64 0, nilV] 59) := ⟨_, rfl⟩
  have HS : Hid (Sb w W0 (.cells #[.int .u16 0, .int .u16 0, .int .u64 0, .int .u64 0, .int .u64 0, nilV] 59 (0, 0))) := by show Sb _ _ _; rw [hW0]; exact Sb.new w _ _
  have hnl := h.row.len
  rw [HN.out] at hnl
  have hc1 := h.cap1
  have hc2 := h.cap2
  rw [HN.out] at hc1
  have HC : Hid (CRow w (some ⟨b, off, none⟩) cap l) := h
  clear h
  have hbf : f < 65536 := by have := vl_lt HC.out 4 2; rw [HXf.out] at this; simpa using this
  have hwf : IntKind.u16.wrap (f : Int) = (f : Int) := by rw [show IntKind.u16.wrap (f : Int) = (f : Int) % 65536 by simp [IntKind.wrap, IntKind.bits, IntKind.signed]]; omega
  have hbt : t < 65536 := by have := vl_lt HC.out 6 2; rw [HXt.out] at this; simpa using this
  have hwt : IntKind.u16.wrap (t : Int) = (t : Int) := by rw [show IntKind.u16.wrap (t : Int) = (t : Int) % 65536 by simp [IntKind.wrap, IntKind.bits, IntKind.signed]]; omega
  obtain ⟨N, hN⟩ : ∃ N, 28 + 0 = N := ⟨_, rfl⟩
  have q1 : (N : Int) ≤ (cap : Int) := by omega
  have q2 : (28 : Int) ≤ (N : Int) := by omega
  have q3 : N - 28 = 0 := by omega
  have q4 : ((N : Int) - 28).toNat = 0 := by omega
  have q5 : 28 ≤ N := by omega
  have q6 : N ≤ cap := by omega
  go_enter Tryd.func49, Tryd.ntmps49
  go_wp2_with fail
  rw [← hW0]
  clear hW0
  refine (rhead_ok b off cap n 28 mReq 4 l _ (HC.out.later HS.out.bel) HN hs (by decide) (by decide) (by decide) HX0.out).mono ?_
  rintro e W1 ⟨rfl, hb⟩
  replace HS : Hid _ := HS.out.next hb
  clear hb
  go_wp2_with fail
  refine (rvalueA b off cap n 4 2 l _ (HC.out.later HS.out.bel) HN (by omega) (by decide) (by decide) (by decide) f HXf.out).mono ?_
  rintro e W2 ⟨rfl, hb⟩
  replace HS : Hid _ := HS.out.next hb
  clear hb
  go_wp2_with fail
  refine (rvalueA b off cap n 6 2 l _ (HC.out.later HS.out.bel) HN (by omega) (by decide) (by decide) (by decide) t HXt.out).mono ?_
  rintro e W3 ⟨rfl, hb⟩
  replace HS : Hid _ := HS.out.next hb
  clear hb
  go_wp2_with fail
  refine (rvalueA b off cap n 8 8 l _ (HC.out.later HS.out.bel) HN (by omega) (by decide) (by decide) (by decide) c HXc.out).mono ?_
  rintro e W4 ⟨rfl, hb⟩
  replace HS : Hid _ := HS.out.next hb
  clear hb
  go_wp2_with fail
  refine (rvalueA b off cap n 16 8 l _ (HC.out.later HS.out.bel) HN (by omega) (by decide) (by decide) (by decide) o HXo.out).mono ?_
  rintro e W5 ⟨rfl, hb⟩
  replace HS : Hid _ := HS.out.next hb
  clear hb
  go_wp2_with fail
  refine (rvalueA b off cap n 24 4 l _ (HC.out.later HS.out.bel) HN (by omega) (by decide) (by decide) (by decide) k HXk.out).mono ?_
  rintro e W6 ⟨rfl, hb⟩
  replace HS : Hid _ := HS.out.next hb
  clear hb
  obtain ⟨V, hV⟩ : ∃ V, V = W6.alloc (.cells #[.int .u16 (f : Int), .int .u16 (t : Int), .int .u64 (c : Int), .int .u64 (o : Int), .int .u64 (k : Int), nilV] 59) := ⟨_, rfl⟩
  obtain ⟨g, hg⟩ : ∃ g, g = W6.heap.size := ⟨_, rfl⟩
  replace HS : Hid (Sx w V (.cells #[.int .u16 0, .int .u16 0, .int .u64 0, .int .u64 0, .int .u64 0, nilV] 59 (0, 0)) g #[.int .u16 (f : Int), .int .u16 (t : Int), .int .u64 (c : Int), .int .u64 (o : Int), .int .u64 (k : Int), nilV] 59) := by show Sx _ _ _ _ _ _; rw [hV, hg]; exact HS.out.box _ _
  have hgn : ¬ (g = w.heap.size) := by have := HS.out.gl; omega
  have hgm : ¬ (w.heap.size = g) := by have := HS.out.gl; omega
  go_wp2_with fail
  rw [← hV, ← hg]
  clear hV hg
  refine (rpay_any f t c o k none 0 [] false _).mono ?_
  rintro e W7 ⟨rfl, hb⟩
  replace HS : Hid _ := HS.out.next hb
  clear hb
  rw [hpay]
  go_wp2_with fail
  refine (rtail_ok _ cap n 28 0 most N _ hm4 (Nat.zero_le _) hnl (by decide) hN (by omega)).mono ?_
  rintro e W8 ⟨rfl, hb⟩
  replace HS : Hid _ := HS.out.next hb
  clear hb
  go_wp2_with fail
  have HBb : Hid (g < W8.heap.size ∧ w.heap.size < W8.heap.size) := ⟨block_lt HS.out.b2, block_lt HS.out.b0⟩
  refine (copyN (some ⟨b, off + 28, none⟩) (cap - 28) 0 [] _ ⟨by simp, by simp, (fun e => by cases e), fun h => absurd rfl h⟩ rfl).mono ?_
  rintro e W9 ⟨ao2, cap2, rfl, ho, hb⟩
  replace HS : Hid _ := HS.out.next hb
  have HO : Hid (W9.ownsRow W8.heap.size 5 1 (.slice ao2 0 cap2) 0 ([].map bv)) := ho
  clear hb ho
  have c20 := blk_at HS.out.b2 0
  have f20 := blk_free HS.out.b2 0
  have c21 := blk_at HS.out.b2 1
  have f21 := blk_free HS.out.b2 1
  have c22 := blk_at HS.out.b2 2
  have f22 := blk_free HS.out.b2 2
  have c23 := blk_at HS.out.b2 3
  have f23 := blk_free HS.out.b2 3
  have c24 := blk_at HS.out.b2 4
  have f24 := blk_free HS.out.b2 4
  have c25 := blk_at HS.out.b2 5
  have f25 := blk_free HS.out.b2 5
  simp at c20 c21 c22 c23 c24 c25
  have c00 := blk_at HS.out.b0 0
  have f00 := blk_free HS.out.b0 0
  have c01 := blk_at HS.out.b0 1
  have f01 := blk_free HS.out.b0 1
  have c02 := blk_at HS.out.b0 2
  have f02 := blk_free HS.out.b0 2
  have c03 := blk_at HS.out.b0 3
  have f03 := blk_free HS.out.b0 3
  have c04 := blk_at HS.out.b0 4
  have f04 := blk_free HS.out.b0 4
  have c05 := blk_at HS.out.b0 5
  have f05 := blk_free HS.out.b0 5
  simp at c00 c01 c02 c03 c04 c05
  go_wp2
  replace HS : Hid _ := HS.out.put 5 (.slice ao2 0 cap2) (cs' := #[.int .u16 (f : Int), .int .u16 (t : Int), .int .u64 (c : Int), .int .u64 (o : Int), .int .u64 (k : Int), .slice ao2 0 cap2]) rfl
  have HO1 : (W9.setCell ⟨g, 5, none⟩ (.slice ao2 0 cap2)).ownsRow W8.heap.size 5 1 (.slice ao2 0 cap2) 0 ([].map bv) := owns_same HO.out fun x hx => Below.heap_setCell _ _ _ _ (by have := (owns_lt HO.out x hx).2; have := HBb.out; show x ≠ g; omega)
  generalize W9.setCell ⟨g, 5, none⟩ (.slice ao2 0 cap2) = Wy at HS HO1 ⊢
  obtain rfl : N = 28 := by omega
  obtain ⟨HG, HB2, HO2⟩ := closen6 HS.out.b0 HS.out.bel HO1 (by have := HBb.out; omega) (.int .u16 (f : Int)) (.int .u16 (t : Int)) (.int .u64 (c : Int)) (.int .u64 (o : Int)) (.int .u64 (k : Int)) (.slice ao2 0 cap2)
  generalize ((((((Wy.setCell ⟨w.heap.size, 0, none⟩ (.int .u16 (f : Int))).setCell ⟨w.heap.size, 1, none⟩ (.int .u16 (t : Int))).setCell ⟨w.heap.size, 2, none⟩ (.int .u64 (c : Int))).setCell ⟨w.heap.size, 3, none⟩ (.int .u64 (o : Int))).setCell ⟨w.heap.size, 4, none⟩ (.int .u64 (k : Int))).setCell ⟨w.heap.size, 5, none⟩ (.slice ao2 0 cap2)) = Wz at HG HB2 HO2 ⊢
  exact bodyPost_ret (results_cell_tmp2 rfl _ Wz w.heap.size 59 #[.int .u16 (f : Int), .int .u16 (t : Int), .int .u64 (c : Int), .int .u64 (o : Int), .int .u64 (k : Int), .slice ao2 0 cap2] (0, 0) _ rfl HG Tryd.underlying59 rfl infoReq) rfl ⟨_, _, rfl, owns_mono HO2 (by have := HBb.out; omega), by simp, HB2⟩
theorem rdecRequest0_ok (b off cap n : Nat) (l : List Nat) (most : Nat) (f t c o k : Nat) (w : World) (h : CRow w (some ⟨b, off, none⟩) cap l) (HN : Hid (l.length = n)) (hs : 28 ≤ n) (HX0 : Hid (valB ((l.drop 0).take 4) = mReq)) (HX1 : Hid (valB ((l.drop 4).take 2) = f)) (HX2 : Hid (valB ((l.drop 6).take 2) = t)) (HX3 : Hid (valB ((l.drop 8).take 8) = c)) (HX4 : Hid (valB ((l.drop 16).take 8) = o)) (HX5 : Hid (valB ((l.drop 24).take 4) = k)) (hk64 : k < 18446744073709551616) (hm4 : most < 4294967296) (hpay : payB f t false = true) (hle : k ≤ most) (hfit : k ≤ n - 28) (N : Nat) (hN : 28 + k = N) (m : List Nat) (hm : (l.drop 28).take k = m) :
    Calls Tryd.prog 49 #[.slice (some ⟨b, off, none⟩) n cap, .int .u32 (most : Int), .bool false] w fun e w' => ∃ ao2 cap2, e = .returned (.tuple #[.agg #[.int .u16 (f : Int), .int .u16 (t : Int), .int .u64 (c : Int), .int .u64 (o : Int), .int .u64 (k : Int), .slice ao2 k cap2], .int .i64 (N : Int), .int .i64 0]) ∧ w'.ownsRow w.heap.size 5 1 (.slice ao2 k cap2) k (m.map bv) ∧ Below w.heap.size w w' := by
  by_cases hce : cap = 28
  · exact rdecRequest0_ok0 b off cap n l most f t c o k w h HN hs HX0 HX1 HX2 HX3 HX4 HX5 hk64 hm4 hpay hle hfit N hN m hm hce
  · exact rdecRequest0_ok1 b off cap n l most f t c o k w h HN hs HX0 HX1 HX2 HX3 HX4 HX5 hk64 hm4 hpay hle hfit N hN m hm hce
theorem rdecRequest0_plain (b off cap n : Nat) (l : List Nat) (most : Nat) (f t c o k : Nat) (w : World) (h : CRow w (some ⟨b, off, none⟩) cap l) (HN : Hid (l.length = n)) (hs : 28 ≤ n) (HX0 : Hid (valB ((l.drop 0).take 4) = mReq)) (HX1 : Hid (valB ((l.drop 4).take 2) = f)) (HX2 : Hid (valB ((l.drop 6).take 2) = t)) (HX3 : Hid (valB ((l.drop 8).take 8) = c)) (HX4 : Hid (valB ((l.drop 16).take 8) = o)) (HX5 : Hid (valB ((l.drop 24).take 4) = k)) (hk64 : k < 18446744073709551616) (hm4 : most < 4294967296) (hpay : payB f t false = false) :
    Calls Tryd.prog 49 #[.slice (some ⟨b, off, none⟩) n cap, .int .u32 (most : Int), .bool false] w fun e w' => ∃ ao2 cap2, e = .returned (.tuple #[.agg #[.int .u16 (f : Int), .int .u16 (t : Int), .int .u64 (c : Int), .int .u64 (o : Int), .int .u64 (k : Int), .slice ao2 0 cap2], .int .i64 28, .int .i64 0]) ∧ Row w w' ao2 cap2 [] := by
  by_cases hce : cap = 28
  · exact rdecRequest0_plain0 b off cap n l most f t c o k w h HN hs HX0 HX1 HX2 HX3 HX4 HX5 hk64 hm4 hpay hce
  · exact rdecRequest0_plain1 b off cap n l most f t c o k w h HN hs HX0 HX1 HX2 HX3 HX4 HX5 hk64 hm4 hpay hce
end Go.Proofs.YtjhickfjagalfaaDoor
