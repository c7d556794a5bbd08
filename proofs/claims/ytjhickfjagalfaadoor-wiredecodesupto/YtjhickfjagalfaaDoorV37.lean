import Derived.Test.YtjhickfjagalfaaDoorV36
namespace Go.Proofs.YtjhickfjagalfaaDoor
open Go.RowKit
set_option linter.unusedVariables false
set_option linter.unusedSimpArgs false
set_option maxRecDepth 100000
set_option maxHeartbeats 4000000 in
theorem rdecOption_short (ao : Option Addr) (cap n : Nat) (most : Nat) (w : World) (h : n < 16) :
    Calls Tryd.prog 43 #[.slice ao n cap, .int .u32 (most : Int)] w fun e w' => e = .returned (.tuple #[.agg #[.int .u32 0, .int .u32 0, .bool false, nilV], .int .i64 16, .int .i64 10]) ∧ Below w.heap.size w w' := by
  obtain ⟨W0, hW0⟩ : ∃ W0, W0 = w.alloc (.cells #[.int .u32 0, .int .u32 0, .bool false, nilV] 55) := ⟨_, rfl⟩
  have HS : Hid (Sb w W0 (.cells #[.int .u32 0, .int .u32 0, .bool false, nilV] 55 (0, 0))) := by show Sb _ _ _; rw [hW0]; exact Sb.new w _ _
  go_enter Tryd.func43, Tryd.ntmps43
  go_wp2_with fail
  rw [← hW0]
  clear hW0
  refine (rhead_short ao cap n 16 _ _ _ h).mono ?_
  rintro e W1 ⟨rfl, hb⟩
  replace HS : Hid _ := HS.out.next hb
  clear hb
  have c00 := blk_at HS.out.b0 0
  have f00 := blk_free HS.out.b0 0
  have c01 := blk_at HS.out.b0 1
  have f01 := blk_free HS.out.b0 1
  have c02 := blk_at HS.out.b0 2
  have f02 := blk_free HS.out.b0 2
  have c03 := blk_at HS.out.b0 3
  have f03 := blk_free HS.out.b0 3
  simp at c00 c01 c02 c03
  go_wp2
  obtain ⟨HG, HB2⟩ := closenb4 HS.out.b0 HS.out.bel (.int .u32 0) (.int .u32 0) (.bool false) (nilV)
  generalize ((((W1.setCell ⟨w.heap.size, 0, none⟩ (.int .u32 0)).setCell ⟨w.heap.size, 1, none⟩ (.int .u32 0)).setCell ⟨w.heap.size, 2, none⟩ (.bool false)).setCell ⟨w.heap.size, 3, none⟩ (nilV)) = Wz at HG HB2 ⊢
  exact bodyPost_ret (results_cell_tmp2 rfl _ Wz w.heap.size 55 #[.int .u32 0, .int .u32 0, .bool false, nilV] (0, 0) _ rfl HG Tryd.underlying55 rfl infoOpt) rfl ⟨rfl, HB2⟩
set_option maxHeartbeats 8000000 in
theorem rdecOption_magic (b off cap n : Nat) (l : List Nat) (most : Nat) (x0 : Nat) (w : World) (h : CRow w (some ⟨b, off, none⟩) cap l) (HN : Hid (l.length = n)) (hs : 16 ≤ n) (HX : Hid (valB ((l.drop 0).take 8) = x0)) (hx0 : x0 ≠ mHave) :
    Calls Tryd.prog 43 #[.slice (some ⟨b, off, none⟩) n cap, .int .u32 (most : Int)] w fun e w' => e = .returned (.tuple #[.agg #[.int .u32 0, .int .u32 0, .bool false, nilV], .int .i64 0, .int .i64 80]) ∧ Below w.heap.size w w' := by
  obtain ⟨W0, hW0⟩ : ∃ W0, W0 = w.alloc (.cells #[.int .u32 0, .int .u32 0, .bool false, nilV] 55) := ⟨_, rfl⟩
  have HS : Hid (Sb w W0 (.cells #[.int .u32 0, .int .u32 0, .bool false, nilV] 55 (0, 0))) := by show Sb _ _ _; rw [hW0]; exact Sb.new w _ _
  have hnl := h.row.len
  rw [HN.out] at hnl
  have hc1 := h.cap1
  have hc2 := h.cap2
  rw [HN.out] at hc1
  have HC : Hid (CRow w (some ⟨b, off, none⟩) cap l) := h
  clear h
  go_enter Tryd.func43, Tryd.ntmps43
  go_wp2_with fail
  rw [← hW0]
  clear hW0
  refine (rhead_bad b off cap n 16 mHave 8 l _ (HC.out.later HS.out.bel) HN hs (by decide) (by decide) (by decide) (by show valB _ ≠ _; rw [HX.out]; exact hx0)).mono ?_
  rintro e W1 ⟨rfl, hb⟩
  replace HS : Hid _ := HS.out.next hb
  clear hb
  have c00 := blk_at HS.out.b0 0
  have f00 := blk_free HS.out.b0 0
  have c01 := blk_at HS.out.b0 1
  have f01 := blk_free HS.out.b0 1
  have c02 := blk_at HS.out.b0 2
  have f02 := blk_free HS.out.b0 2
  have c03 := blk_at HS.out.b0 3
  have f03 := blk_free HS.out.b0 3
  simp at c00 c01 c02 c03
  go_wp2
  obtain ⟨HG, HB2⟩ := closenb4 HS.out.b0 HS.out.bel (.int .u32 0) (.int .u32 0) (.bool false) (nilV)
  generalize ((((W1.setCell ⟨w.heap.size, 0, none⟩ (.int .u32 0)).setCell ⟨w.heap.size, 1, none⟩ (.int .u32 0)).setCell ⟨w.heap.size, 2, none⟩ (.bool false)).setCell ⟨w.heap.size, 3, none⟩ (nilV)) = Wz at HG HB2 ⊢
  exact bodyPost_ret (results_cell_tmp2 rfl _ Wz w.heap.size 55 #[.int .u32 0, .int .u32 0, .bool false, nilV] (0, 0) _ rfl HG Tryd.underlying55 rfl infoOpt) rfl ⟨rfl, HB2⟩
set_option maxHeartbeats 8000000 in
theorem rdecOption_long (b off cap n : Nat) (l : List Nat) (most : Nat) (c k : Nat) (w : World) (h : CRow w (some ⟨b, off, none⟩) cap l) (HN : Hid (l.length = n)) (hs : 16 ≤ n) (HX : Hid (valB ((l.drop 0).take 8) = mHave)) (HX1 : Hid (valB ((l.drop 8).take 4) = c)) (HX2 : Hid (valB ((l.drop 12).take 4) = k)) (hc4 : c < 4294967296) (hk4 : k < 4294967296) (hm4 : most < 4294967296) (hlong : most < k) :
    Calls Tryd.prog 43 #[.slice (some ⟨b, off, none⟩) n cap, .int .u32 (most : Int)] w fun e w' => ∃ ao2 cap2, e = .returned (.tuple #[.agg #[.int .u32 (c : Int), .int .u32 (k : Int), .bool true, .slice ao2 0 cap2], .int .i64 16, .int .i64 12]) ∧ Row w w' ao2 cap2 [] := by
  have HXc : Hid (vl l 8 4 = c) := HX1
  have HXk : Hid (vl l 12 4 = k) := HX2
  obtain ⟨W0, hW0⟩ : ∃ W0, W0 = w.alloc (.cells #[.int .u32 0, .int .u32 0, .bool false, nilV] 55) := ⟨_, rfl⟩
  have HS : Hid (Sb w W0 (.cells #[.int .u32 0, .int .u32 0, .bool false, nilV] 55 (0, 0))) := by show Sb _ _ _; rw [hW0]; exact Sb.new w _ _
  have hnl := h.row.len
  rw [HN.out] at hnl
  have hc1 := h.cap1
  have hc2 := h.cap2
  rw [HN.out] at hc1
  have HC : Hid (CRow w (some ⟨b, off, none⟩) cap l) := h
  clear h
  have hbc : c < 4294967296 := by have := vl_lt HC.out 8 4; rw [HXc.out] at this; simpa using this
  have hwc : IntKind.u32.wrap (c : Int) = (c : Int) := by rw [IntKind.wrap_u32]; omega
  have hbk : k < 4294967296 := by have := vl_lt HC.out 12 4; rw [HXk.out] at this; simpa using this
  have hwk : IntKind.u32.wrap (k : Int) = (k : Int) := by rw [IntKind.wrap_u32]; omega
  go_enter Tryd.func43, Tryd.ntmps43
  go_wp2_with fail
  rw [← hW0]
  clear hW0
  refine (rhead_ok b off cap n 16 mHave 8 l _ (HC.out.later HS.out.bel) HN hs (by decide) (by decide) (by decide) HX.out).mono ?_
  rintro e W1 ⟨rfl, hb⟩
  replace HS : Hid _ := HS.out.next hb
  clear hb
  go_wp2_with fail
  refine (rvalueA b off cap n 12 4 l _ (HC.out.later HS.out.bel) HN (by omega) (by decide) (by decide) (by decide) k HXk.out).mono ?_
  rintro e W2 ⟨rfl, hb⟩
  replace HS : Hid _ := HS.out.next hb
  clear hb
  go_wp2_with fail
  refine (rvalueA b off cap n 8 4 l _ (HC.out.later HS.out.bel) HN (by omega) (by decide) (by decide) (by decide) c HXc.out).mono ?_
  rintro e W3 ⟨rfl, hb⟩
  replace HS : Hid _ := HS.out.next hb
  clear hb
  obtain ⟨V, hV⟩ : ∃ V, V = W3.alloc (.cells #[.int .u32 (c : Int), .int .u32 (k : Int), .bool false, nilV] 55) := ⟨_, rfl⟩
  obtain ⟨g, hg⟩ : ∃ g, g = W3.heap.size := ⟨_, rfl⟩
  replace HS : Hid (Sx w V (.cells #[.int .u32 0, .int .u32 0, .bool false, nilV] 55 (0, 0)) g #[.int .u32 (c : Int), .int .u32 (k : Int), .bool false, nilV] 55) := by show Sx _ _ _ _ _ _; rw [hV, hg]; exact HS.out.box _ _
  have hgn : ¬ (g = w.heap.size) := by have := HS.out.gl; omega
  have hgm : ¬ (w.heap.size = g) := by have := HS.out.gl; omega
  go_wp2_with fail
  rw [← hV, ← hg]
  clear hV hg
  refine (rtail_long _ cap n 16 k most _ hm4 hlong).mono ?_
  rintro e W4 ⟨rfl, hb⟩
  replace HS : Hid _ := HS.out.next hb
  clear hb
  have c20 := blk_at HS.out.b2 0
  have f20 := blk_free HS.out.b2 0
  have c21 := blk_at HS.out.b2 1
  have f21 := blk_free HS.out.b2 1
  have c22 := blk_at HS.out.b2 2
  have f22 := blk_free HS.out.b2 2
  have c23 := blk_at HS.out.b2 3
  have f23 := blk_free HS.out.b2 3
  simp at c20 c21 c22 c23
  have c00 := blk_at HS.out.b0 0
  have f00 := blk_free HS.out.b0 0
  have c01 := blk_at HS.out.b0 1
  have f01 := blk_free HS.out.b0 1
  have c02 := blk_at HS.out.b0 2
  have f02 := blk_free HS.out.b0 2
  have c03 := blk_at HS.out.b0 3
  have f03 := blk_free HS.out.b0 3
  simp at c00 c01 c02 c03
  go_wp2
  replace HS : Hid _ := HS.out.put 2 (.bool true) (cs' := #[.int .u32 (c : Int), .int .u32 (k : Int), .bool true, nilV]) rfl
  generalize W4.setCell ⟨g, 2, none⟩ (.bool true) = Wy at HS ⊢
  obtain ⟨HG, HB2⟩ := closenb4 HS.out.b0 HS.out.bel (.int .u32 (c : Int)) (.int .u32 (k : Int)) (.bool true) (nilV)
  generalize ((((Wy.setCell ⟨w.heap.size, 0, none⟩ (.int .u32 (c : Int))).setCell ⟨w.heap.size, 1, none⟩ (.int .u32 (k : Int))).setCell ⟨w.heap.size, 2, none⟩ (.bool true)).setCell ⟨w.heap.size, 3, none⟩ (nilV)) = Wz at HG HB2 ⊢
  exact bodyPost_ret (results_cell_tmp2 rfl _ Wz w.heap.size 55 #[.int .u32 (c : Int), .int .u32 (k : Int), .bool true, nilV] (0, 0) _ rfl HG Tryd.underlying55 rfl infoOpt) rfl ⟨none, 0, rfl, row_nil w Wz HB2⟩
set_option maxHeartbeats 8000000 in
theorem rdecOption_short2 (b off cap n : Nat) (l : List Nat) (most : Nat) (c k : Nat) (w : World) (h : CRow w (some ⟨b, off, none⟩) cap l) (HN : Hid (l.length = n)) (hs : 16 ≤ n) (HX : Hid (valB ((l.drop 0).take 8) = mHave)) (HX1 : Hid (valB ((l.drop 8).take 4) = c)) (HX2 : Hid (valB ((l.drop 12).take 4) = k)) (hc4 : c < 4294967296) (hk4 : k < 4294967296) (hm4 : most < 4294967296) (hle : k ≤ most) (hsh : n - 16 < k) (N : Nat) (hN : 16 + k = N) :
    Calls Tryd.prog 43 #[.slice (some ⟨b, off, none⟩) n cap, .int .u32 (most : Int)] w fun e w' => e = .returned (.tuple #[.agg #[.int .u32 0, .int .u32 0, .bool false, nilV], .int .i64 (N : Int), .int .i64 10]) ∧ Below w.heap.size w w' := by
  have HXc : Hid (vl l 8 4 = c) := HX1
  have HXk : Hid (vl l 12 4 = k) := HX2
  obtain ⟨W0, hW0⟩ : ∃ W0, W0 = w.alloc (.cells #[.int .u32 0, .int .u32 0, .bool false, nilV] 55) := ⟨_, rfl⟩
  have HS : Hid (Sb w W0 (.cells #[.int .u32 0, .int .u32 0, .bool false, nilV] 55 (0, 0))) := by show Sb _ _ _; rw [hW0]; exact Sb.new w _ _
  have hnl := h.row.len
  rw [HN.out] at hnl
  have hc1 := h.cap1
  have hc2 := h.cap2
  rw [HN.out] at hc1
  have HC : Hid (CRow w (some ⟨b, off, none⟩) cap l) := h
  clear h
  have hbc : c < 4294967296 := by have := vl_lt HC.out 8 4; rw [HXc.out] at this; simpa using this
  have hwc : IntKind.u32.wrap (c : Int) = (c : Int) := by rw [IntKind.wrap_u32]; omega
  have hbk : k < 4294967296 := by have := vl_lt HC.out 12 4; rw [HXk.out] at this; simpa using this
  have hwk : IntKind.u32.wrap (k : Int) = (k : Int) := by rw [IntKind.wrap_u32]; omega
  go_enter Tryd.func43, Tryd.ntmps43
  go_wp2_with fail
  rw [← hW0]
  clear hW0
  refine (rhead_ok b off cap n 16 mHave 8 l _ (HC.out.later HS.out.bel) HN hs (by decide) (by decide) (by decide) HX.out).mono ?_
  rintro e W1 ⟨rfl, hb⟩
  replace HS : Hid _ := HS.out.next hb
  clear hb
  go_wp2_with fail
  refine (rvalueA b off cap n 12 4 l _ (HC.out.later HS.out.bel) HN (by omega) (by decide) (by decide) (by decide) k HXk.out).mono ?_
  rintro e W2 ⟨rfl, hb⟩
  replace HS : Hid _ := HS.out.next hb
  clear hb
  go_wp2_with fail
  refine (rvalueA b off cap n 8 4 l _ (HC.out.later HS.out.bel) HN (by omega) (by decide) (by decide) (by decide) c HXc.out).mono ?_
  rintro e W3 ⟨rfl, hb⟩
  replace HS : Hid _ := HS.out.next hb
  clear hb
  obtain ⟨V, hV⟩ : ∃ V, V = W3.alloc (.cells #[.int .u32 (c : Int), .int .u32 (k : Int), .bool false, nilV] 55) := ⟨_, rfl⟩
  obtain ⟨g, hg⟩ : ∃ g, g = W3.heap.size := ⟨_, rfl⟩
  replace HS : Hid (Sx w V (.cells #[.int .u32 0, .int .u32 0, .bool false, nilV] 55 (0, 0)) g #[.int .u32 (c : Int), .int .u32 (k : Int), .bool false, nilV] 55) := by show Sx _ _ _ _ _ _; rw [hV, hg]; exact HS.out.box _ _
  have hgn : ¬ (g = w.heap.size) := by have := HS.out.gl; omega
  have hgm : ¬ (w.heap.size = g) := by have := HS.out.gl; omega
  go_wp2_with fail
  rw [← hV, ← hg]
  clear hV hg
  refine (rtail_short _ cap n 16 k most N _ hm4 hle hnl (by decide) hN (by omega)).mono ?_
  rintro e W4 ⟨rfl, hb⟩
  replace HS : Hid _ := HS.out.next hb
  clear hb
  have c00 := blk_at HS.out.b0 0
  have f00 := blk_free HS.out.b0 0
  have c01 := blk_at HS.out.b0 1
  have f01 := blk_free HS.out.b0 1
  have c02 := blk_at HS.out.b0 2
  have f02 := blk_free HS.out.b0 2
  have c03 := blk_at HS.out.b0 3
  have f03 := blk_free HS.out.b0 3
  simp at c00 c01 c02 c03
  go_wp2
  obtain ⟨HG, HB2⟩ := closenb4 HS.out.b0 HS.out.bel (.int .u32 0) (.int .u32 0) (.bool false) (nilV)
  generalize ((((W4.setCell ⟨w.heap.size, 0, none⟩ (.int .u32 0)).setCell ⟨w.heap.size, 1, none⟩ (.int .u32 0)).setCell ⟨w.heap.size, 2, none⟩ (.bool false)).setCell ⟨w.heap.size, 3, none⟩ (nilV)) = Wz at HG HB2 ⊢
  exact bodyPost_ret (results_cell_tmp2 rfl _ Wz w.heap.size 55 #[.int .u32 0, .int .u32 0, .bool false, nilV] (0, 0) _ rfl HG Tryd.underlying55 rfl infoOpt) rfl ⟨rfl, HB2⟩
set_option maxHeartbeats 8000000 in
theorem rdecOption_ok0 (b off cap n : Nat) (l : List Nat) (most : Nat) (c k : Nat) (w : World) (h : CRow w (some ⟨b, off, none⟩) cap l) (HN : Hid (l.length = n)) (hs : 16 ≤ n) (HX : Hid (valB ((l.drop 0).take 8) = mHave)) (HX1 : Hid (valB ((l.drop 8).take 4) = c)) (HX2 : Hid (valB ((l.drop 12).take 4) = k)) (hc4 : c < 4294967296) (hk4 : k < 4294967296) (hm4 : most < 4294967296) (hle : k ≤ most) (hfit : k ≤ n - 16) (N : Nat) (hN : 16 + k = N) (m : List Nat) (hm : (l.drop 16).take k = m) (hce : cap = 16) :
    Calls Tryd.prog 43 #[.slice (some ⟨b, off, none⟩) n cap, .int .u32 (most : Int)] w fun e w' => ∃ ao2 cap2, e = .returned (.tuple #[.agg #[.int .u32 (c : Int), .int .u32 (k : Int), .bool false, .slice ao2 k cap2], .int .i64 (N : Int), .int .i64 0]) ∧ w'.ownsRow w.heap.size 5 1 (.slice ao2 k cap2) k (m.map bv) ∧ Below w.heap.size w w' := by
  have HXc : Hid (vl l 8 4 = c) := HX1
  have HXk : Hid (vl l 12 4 = k) := HX2
  obtain ⟨W0, hW0⟩ : ∃ W0, W0 = w.alloc (.cells #[.int .u32 0, .int .u32 0, .bool false, nilV] 55) := ⟨_, rfl⟩
  have HS : Hid (Sb w W0 (.cells #[.int .u32 0, .int .u32 0, .bool false, nilV] 55 (0, 0))) := by show Sb _ _ _; rw [hW0]; exact Sb.new w _ _
  have hnl := h.row.len
  rw [HN.out] at hnl
  have hc1 := h.cap1
  have hc2 := h.cap2
  rw [HN.out] at hc1
  have HC : Hid (CRow w (some ⟨b, off, none⟩) cap l) := h
  clear h
  have hbc : c < 4294967296 := by have := vl_lt HC.out 8 4; rw [HXc.out] at this; simpa using this
  have hwc : IntKind.u32.wrap (c : Int) = (c : Int) := by rw [IntKind.wrap_u32]; omega
  have hbk : k < 4294967296 := by have := vl_lt HC.out 12 4; rw [HXk.out] at this; simpa using this
  have hwk : IntKind.u32.wrap (k : Int) = (k : Int) := by rw [IntKind.wrap_u32]; omega
  have hlen : m.length = k := by rw [← hm, List.length_take, List.length_drop, HN.out]; omega
  have HM : Hid ((l.drop 16).take k = m ∧ m.length = k) := ⟨hm, hlen⟩
  clear hm hlen
  obtain rfl : n = 16 := by omega
  obtain rfl : k = 0 := by omega
  obtain rfl : N = 16 := by omega
  subst hce
  go_enter Tryd.func43, Tryd.ntmps43
  go_wp2_with fail
  rw [← hW0]
  clear hW0
  refine (rhead_ok b off 16 16 16 mHave 8 l _ (HC.out.later HS.out.bel) HN hs (by decide) (by decide) (by decide) HX.out).mono ?_
  rintro e W1 ⟨rfl, hb⟩
  replace HS : Hid _ := HS.out.next hb
  clear hb
  go_wp2_with fail
  refine (rvalueA b off 16 16 12 4 l _ (HC.out.later HS.out.bel) HN (by omega) (by decide) (by decide) (by decide) 0 HXk.out).mono ?_
  rintro e W2 ⟨rfl, hb⟩
  replace HS : Hid _ := HS.out.next hb
  clear hb
  go_wp2_with fail
  refine (rvalueA b off 16 16 8 4 l _ (HC.out.later HS.out.bel) HN (by omega) (by decide) (by decide) (by decide) c HXc.out).mono ?_
  rintro e W3 ⟨rfl, hb⟩
  replace HS : Hid _ := HS.out.next hb
  clear hb
  obtain ⟨V, hV⟩ : ∃ V, V = W3.alloc (.cells #[.int .u32 (c : Int), .int .u32 0, .bool false, nilV] 55) := ⟨_, rfl⟩
  obtain ⟨g, hg⟩ : ∃ g, g = W3.heap.size := ⟨_, rfl⟩
  replace HS : Hid (Sx w V (.cells #[.int .u32 0, .int .u32 0, .bool false, nilV] 55 (0, 0)) g #[.int .u32 (c : Int), .int .u32 0, .bool false, nilV] 55) := by show Sx _ _ _ _ _ _; rw [hV, hg]; exact HS.out.box _ _
  have hgn : ¬ (g = w.heap.size) := by have := HS.out.gl; omega
  have hgm : ¬ (w.heap.size = g) := by have := HS.out.gl; omega
  go_wp2_with fail
  rw [← hV, ← hg]
  clear hV hg
  refine (rtail_ok _ 16 16 16 0 most 16 _ hm4 (Nat.zero_le _) hnl (by decide) rfl (Nat.le_refl _)).mono ?_
  rintro e W4 ⟨rfl, hb⟩
  replace HS : Hid _ := HS.out.next hb
  clear hb
  go_wp2_with fail
  have HBb : Hid (g < W4.heap.size ∧ w.heap.size < W4.heap.size) := ⟨block_lt HS.out.b2, block_lt HS.out.b0⟩
  refine (copyN (some ⟨b, off, none⟩) 0 0 [] _ ⟨by simp, by simp, (fun e => by cases e), fun h => absurd rfl h⟩ rfl).mono ?_
  rintro e W5 ⟨ao2, cap2, rfl, ho, hb⟩
  replace HS : Hid _ := HS.out.next hb
  have HO : Hid (W5.ownsRow W4.heap.size 5 1 (.slice ao2 0 cap2) 0 ([].map bv)) := ho
  clear hb ho
  have c20 := blk_at HS.out.b2 0
  have f20 := blk_free HS.out.b2 0
  have c21 := blk_at HS.out.b2 1
  have f21 := blk_free HS.out.b2 1
  have c22 := blk_at HS.out.b2 2
  have f22 := blk_free HS.out.b2 2
  have c23 := blk_at HS.out.b2 3
  have f23 := blk_free HS.out.b2 3
  simp at c20 c21 c22 c23
  have c00 := blk_at HS.out.b0 0
  have f00 := blk_free HS.out.b0 0
  have c01 := blk_at HS.out.b0 1
  have f01 := blk_free HS.out.b0 1
  have c02 := blk_at HS.out.b0 2
  have f02 := blk_free HS.out.b0 2
  have c03 := blk_at HS.out.b0 3
  have f03 := blk_free HS.out.b0 3
  simp at c00 c01 c02 c03
  go_wp2
  replace HS : Hid _ := HS.out.put 3 (.slice ao2 0 cap2) (cs' := #[.int .u32 (c : Int), .int .u32 0, .bool false, .slice ao2 0 cap2]) rfl
  have HO1 : (W5.setCell ⟨g, 3, none⟩ (.slice ao2 0 cap2)).ownsRow W4.heap.size 5 1 (.slice ao2 0 cap2) 0 ([].map bv) := owns_same HO.out fun x hx => Below.heap_setCell _ _ _ _ (by have := (owns_lt HO.out x hx).2; have := HBb.out; show x ≠ g; omega)
  generalize W5.setCell ⟨g, 3, none⟩ (.slice ao2 0 cap2) = Wy at HS HO1 ⊢
  obtain ⟨HG, HB2, HO2⟩ := closen4 HS.out.b0 HS.out.bel HO1 (by have := HBb.out; omega) (.int .u32 (c : Int)) (.int .u32 0) (.bool false) (.slice ao2 0 cap2)
  generalize ((((Wy.setCell ⟨w.heap.size, 0, none⟩ (.int .u32 (c : Int))).setCell ⟨w.heap.size, 1, none⟩ (.int .u32 0)).setCell ⟨w.heap.size, 2, none⟩ (.bool false)).setCell ⟨w.heap.size, 3, none⟩ (.slice ao2 0 cap2)) = Wz at HG HB2 HO2 ⊢
  exact bodyPost_ret (results_cell_tmp2 rfl _ Wz w.heap.size 55 #[.int .u32 (c : Int), .int .u32 0, .bool false, .slice ao2 0 cap2] (0, 0) _ rfl HG Tryd.underlying55 rfl infoOpt) rfl ⟨_, _, rfl, by have e : m = [] := List.eq_nil_of_length_eq_zero HM.out.2; rw [e]; exact owns_mono HO2 (by have := HBb.out; omega), HB2⟩
set_option maxHeartbeats 8000000 in
theorem rdecOption_ok1 (b off cap n : Nat) (l : List Nat) (most : Nat) (c k : Nat) (w : World) (h : CRow w (some ⟨b, off, none⟩) cap l) (HN : Hid (l.length = n)) (hs : 16 ≤ n) (HX : Hid (valB ((l.drop 0).take 8) = mHave)) (HX1 : Hid (valB ((l.drop 8).take 4) = c)) (HX2 : Hid (valB ((l.drop 12).take 4) = k)) (hc4 : c < 4294967296) (hk4 : k < 4294967296) (hm4 : most < 4294967296) (hle : k ≤ most) (hfit : k ≤ n - 16) (N : Nat) (hN : 16 + k = N) (m : List Nat) (hm : (l.drop 16).take k = m) (hce : ¬ cap = 16) :
    Calls Tryd.prog 43 #[.slice (some ⟨b, off, none⟩) n cap, .int .u32 (most : Int)] w fun e w' => ∃ ao2 cap2, e = .returned (.tuple #[.agg #[.int .u32 (c : Int), .int .u32 (k : Int), .bool false, .slice ao2 k cap2], .int .i64 (N : Int), .int .i64 0]) ∧ w'.ownsRow w.heap.size 5 1 (.slice ao2 k cap2) k (m.map bv) ∧ Below w.heap.size w w' := by
  have HXc : Hid (vl l 8 4 = c) := HX1
  have HXk : Hid (vl l 12 4 = k) := HX2
  obtain ⟨W0, hW0⟩ : ∃ W0, W0 = w.alloc (.cells #[.int .u32 0, .int .u32 0, .bool false, nilV] 55) := ⟨_, rfl⟩
  have HS : Hid (Sb w W0 (.cells #[.int .u32 0, .int .u32 0, .bool false, nilV] 55 (0, 0))) := by show Sb _ _ _; rw [hW0]; exact Sb.new w _ _
  have hnl := h.row.len
  rw [HN.out] at hnl
  have hc1 := h.cap1
  have hc2 := h.cap2
  rw [HN.out] at hc1
  have HC : Hid (CRow w (some ⟨b, off, none⟩) cap l) := h
  clear h
  have hbc : c < 4294967296 := by have := vl_lt HC.out 8 4; rw [HXc.out] at this; simpa using this
  have hwc : IntKind.u32.wrap (c : Int) = (c : Int) := by rw [IntKind.wrap_u32]; omega
  have hbk : k < 4294967296 := by have := vl_lt HC.out 12 4; rw [HXk.out] at this; simpa using this
  have hwk : IntKind.u32.wrap (k : Int) = (k : Int) := by rw [IntKind.wrap_u32]; omega
  have hlen : m.length = k := by rw [← hm, List.length_take, List.length_drop, HN.out]; omega
  have HM : Hid ((l.drop 16).take k = m ∧ m.length = k) := ⟨hm, hlen⟩
  clear hm hlen
  have q1 : (N : Int) ≤ (cap : Int) := by omega
  have q2 : (16 : Int) ≤ (N : Int) := by omega
  have q3 : N - 16 = k := by omega
  have q4 : ((N : Int) - 16).toNat = k := by omega
  have q5 : 16 ≤ N := by omega
  have q6 : N ≤ cap := by omega
  go_enter Tryd.func43, Tryd.ntmps43
  go_wp2_with fail
  rw [← hW0]
  clear hW0
  refine (rhead_ok b off cap n 16 mHave 8 l _ (HC.out.later HS.out.bel) HN hs (by decide) (by decide) (by decide) HX.out).mono ?_
  rintro e W1 ⟨rfl, hb⟩
  replace HS : Hid _ := HS.out.next hb
  clear hb
  go_wp2_with fail
  refine (rvalueA b off cap n 12 4 l _ (HC.out.later HS.out.bel) HN (by omega) (by decide) (by decide) (by decide) k HXk.out).mono ?_
  rintro e W2 ⟨rfl, hb⟩
  replace HS : Hid _ := HS.out.next hb
  clear hb
  go_wp2_with fail
  refine (rvalueA b off cap n 8 4 l _ (HC.out.later HS.out.bel) HN (by omega) (by decide) (by decide) (by decide) c HXc.out).mono ?_
  rintro e W3 ⟨rfl, hb⟩
  replace HS : Hid _ := HS.out.next hb
  clear hb
  obtain ⟨V, hV⟩ : ∃ V, V = W3.alloc (.cells #[.int .u32 (c : Int), .int .u32 (k : Int), .bool false, nilV] 55) := ⟨_, rfl⟩
  obtain ⟨g, hg⟩ : ∃ g, g = W3.heap.size := ⟨_, rfl⟩
  replace HS : Hid (Sx w V (.cells #[.int .u32 0, .int .u32 0, .bool false, nilV] 55 (0, 0)) g #[.int .u32 (c : Int), .int .u32 (k : Int), .bool false, nilV] 55) := by show Sx _ _ _ _ _ _; rw [hV, hg]; exact HS.out.box _ _
  have hgn : ¬ (g = w.heap.size) := by have := HS.out.gl; omega
  have hgm : ¬ (w.heap.size = g) := by have := HS.out.gl; omega
  go_wp2_with fail
  rw [← hV, ← hg]
  clear hV hg
  refine (rtail_ok _ cap n 16 k most N _ hm4 hle hnl (by decide) hN (by omega)).mono ?_
  rintro e W4 ⟨rfl, hb⟩
  replace HS : Hid _ := HS.out.next hb
  clear hb
  go_wp2_with fail
  have HBb : Hid (g < W4.heap.size ∧ w.heap.size < W4.heap.size) := ⟨block_lt HS.out.b2, block_lt HS.out.b0⟩
  refine (copyN (some ⟨b, off + 16, none⟩) (cap - 16) k m _ (by have := part_brow (HC.out.later HS.out.bel) 16 k (cap - 16); rw [HM.out.1] at this; exact this) HM.out.2).mono ?_
  rintro e W5 ⟨ao2, cap2, rfl, ho, hb⟩
  replace HS : Hid _ := HS.out.next hb
  have HO : Hid (W5.ownsRow W4.heap.size 5 1 (.slice ao2 k cap2) k (m.map bv)) := ho
  clear hb ho
  have c20 := blk_at HS.out.b2 0
  have f20 := blk_free HS.out.b2 0
  have c21 := blk_at HS.out.b2 1
  have f21 := blk_free HS.out.b2 1
  have c22 := blk_at HS.out.b2 2
  have f22 := blk_free HS.out.b2 2
  have c23 := blk_at HS.out.b2 3
  have f23 := blk_free HS.out.b2 3
  simp at c20 c21 c22 c23
  have c00 := blk_at HS.out.b0 0
  have f00 := blk_free HS.out.b0 0
  have c01 := blk_at HS.out.b0 1
  have f01 := blk_free HS.out.b0 1
  have c02 := blk_at HS.out.b0 2
  have f02 := blk_free HS.out.b0 2
  have c03 := blk_at HS.out.b0 3
  have f03 := blk_free HS.out.b0 3
  simp at c00 c01 c02 c03
  go_wp2
  replace HS : Hid _ := HS.out.put 3 (.slice ao2 k cap2) (cs' := #[.int .u32 (c : Int), .int .u32 (k : Int), .bool false, .slice ao2 k cap2]) rfl
  have HO1 : (W5.setCell ⟨g, 3, none⟩ (.slice ao2 k cap2)).ownsRow W4.heap.size 5 1 (.slice ao2 k cap2) k (m.map bv) := owns_same HO.out fun x hx => Below.heap_setCell _ _ _ _ (by have := (owns_lt HO.out x hx).2; have := HBb.out; show x ≠ g; omega)
  generalize W5.setCell ⟨g, 3, none⟩ (.slice ao2 k cap2) = Wy at HS HO1 ⊢
  obtain ⟨HG, HB2, HO2⟩ := closen4 HS.out.b0 HS.out.bel HO1 (by have := HBb.out; omega) (.int .u32 (c : Int)) (.int .u32 (k : Int)) (.bool false) (.slice ao2 k cap2)
  generalize ((((Wy.setCell ⟨w.heap.size, 0, none⟩ (.int .u32 (c : Int))).setCell ⟨w.heap.size, 1, none⟩ (.int .u32 (k : Int))).setCell ⟨w.heap.size, 2, none⟩ (.bool false)).setCell ⟨w.heap.size, 3, none⟩ (.slice ao2 k cap2)) = Wz at HG HB2 HO2 ⊢
  exact bodyPost_ret (results_cell_tmp2 rfl _ Wz w.heap.size 55 #[.int .u32 (c : Int), .int .u32 (k : Int), .bool false, .slice ao2 k cap2] (0, 0) _ rfl HG Tryd.underlying55 rfl infoOpt) rfl ⟨_, _, rfl, owns_mono HO2 (by have := HBb.out; omega), HB2⟩
theorem rdecOption_ok (b off cap n : Nat) (l : List Nat) (most : Nat) (c k : Nat) (w : World) (h : CRow w (some ⟨b, off, none⟩) cap l) (HN : Hid (l.length = n)) (hs : 16 ≤ n) (HX : Hid (valB ((l.drop 0).take 8) = mHave)) (HX1 : Hid (valB ((l.drop 8).take 4) = c)) (HX2 : Hid (valB ((l.drop 12).take 4) = k)) (hc4 : c < 4294967296) (hk4 : k < 4294967296) (hm4 : most < 4294967296) (hle : k ≤ most) (hfit : k ≤ n - 16) (N : Nat) (hN : 16 + k = N) (m : List Nat) (hm : (l.drop 16).take k = m) :
    Calls Tryd.prog 43 #[.slice (some ⟨b, off, none⟩) n cap, .int .u32 (most : Int)] w fun e w' => ∃ ao2 cap2, e = .returned (.tuple #[.agg #[.int .u32 (c : Int), .int .u32 (k : Int), .bool false, .slice ao2 k cap2], .int .i64 (N : Int), .int .i64 0]) ∧ w'.ownsRow w.heap.size 5 1 (.slice ao2 k cap2) k (m.map bv) ∧ Below w.heap.size w w' := by
  by_cases hce : cap = 16
  · exact rdecOption_ok0 b off cap n l most c k w h HN hs HX HX1 HX2 hc4 hk4 hm4 hle hfit N hN m hm hce
  · exact rdecOption_ok1 b off cap n l most c k w h HN hs HX HX1 HX2 hc4 hk4 hm4 hle hfit N hN m hm hce
end Go.Proofs.YtjhickfjagalfaaDoor

namespace Go.Proofs.YtjhickfjagalfaaDoor
open Go.RowKit
set_option linter.unusedVariables false
set_option linter.unusedSimpArgs false
set_option maxRecDepth 100000
set_option maxHeartbeats 4000000 in
theorem rdecGreeting_short (ao : Option Addr) (cap n : Nat)  (w : World) (h : n < 18) :
    Calls Tryd.prog 38 #[.slice ao n cap] w fun e w' => e = .returned (.tuple #[.agg #[.int .u16 0], .int .i64 18, .int .i64 10]) ∧ Below w.heap.size w w' := by
  obtain ⟨W0, hW0⟩ : ∃ W0, W0 = w.alloc (.cells #[.int .u16 0] 31) := ⟨_, rfl⟩
  have HS : Hid (Sb w W0 (.cells #[.int .u16 0] 31 (0, 0))) := by show Sb _ _ _; rw [hW0]; exact Sb.new w _ _
  go_enter Tryd.func38, Tryd.ntmps38
  go_wp2_with fail
  rw [← hW0]
  clear hW0
  refine (rhead_short ao cap n 18 _ _ _ h).mono ?_
  rintro e W1 ⟨rfl, hb⟩
  replace HS : Hid _ := HS.out.next hb
  clear hb
  have c00 := blk_at HS.out.b0 0
  have f00 := blk_free HS.out.b0 0
  simp at c00
  go_wp2
  obtain ⟨HG, HB2⟩ := closenb1 HS.out.b0 HS.out.bel (.int .u16 0)
  generalize (W1.setCell ⟨w.heap.size, 0, none⟩ (.int .u16 0)) = Wz at HG HB2 ⊢
  exact bodyPost_ret (results_cell_tmp2 rfl _ Wz w.heap.size 31 #[.int .u16 0] (0, 0) _ rfl HG Tryd.underlying31 rfl infoGre) rfl ⟨rfl, HB2⟩
set_option maxHeartbeats 8000000 in
theorem rdecGreeting_magic1 (b off cap n : Nat) (l : List Nat)  (x0 : Nat) (w : World) (h : CRow w (some ⟨b, off, none⟩) cap l) (HN : Hid (l.length = n)) (hs : 18 ≤ n) (HX : Hid (valB ((l.drop 0).take 8) = x0)) (hx0 : x0 ≠ mInit) :
    Calls Tryd.prog 38 #[.slice (some ⟨b, off, none⟩) n cap] w fun e w' => e = .returned (.tuple #[.agg #[.int .u16 0], .int .i64 0, .int .i64 80]) ∧ Below w.heap.size w w' := by
  obtain ⟨W0, hW0⟩ : ∃ W0, W0 = w.alloc (.cells #[.int .u16 0] 31) := ⟨_, rfl⟩
  have HS : Hid (Sb w W0 (.cells #[.int .u16 0] 31 (0, 0))) := by show Sb _ _ _; rw [hW0]; exact Sb.new w _ _
  have hnl := h.row.len
  rw [HN.out] at hnl
  have hc1 := h.cap1
  have hc2 := h.cap2
  rw [HN.out] at hc1
  have HC : Hid (CRow w (some ⟨b, off, none⟩) cap l) := h
  clear h
  go_enter Tryd.func38, Tryd.ntmps38
  go_wp2_with fail
  rw [← hW0]
  clear hW0
  refine (rhead_bad b off cap n 18 mInit 8 l _ (HC.out.later HS.out.bel) HN hs (by decide) (by decide) (by decide) (by show valB _ ≠ _; rw [HX.out]; exact hx0)).mono ?_
  rintro e W1 ⟨rfl, hb⟩
  replace HS : Hid _ := HS.out.next hb
  clear hb
  have c00 := blk_at HS.out.b0 0
  have f00 := blk_free HS.out.b0 0
  simp at c00
  go_wp2
  obtain ⟨HG, HB2⟩ := closenb1 HS.out.b0 HS.out.bel (.int .u16 0)
  generalize (W1.setCell ⟨w.heap.size, 0, none⟩ (.int .u16 0)) = Wz at HG HB2 ⊢
  exact bodyPost_ret (results_cell_tmp2 rfl _ Wz w.heap.size 31 #[.int .u16 0] (0, 0) _ rfl HG Tryd.underlying31 rfl infoGre) rfl ⟨rfl, HB2⟩
set_option maxHeartbeats 8000000 in
theorem rdecGreeting_magic2 (b off cap n : Nat) (l : List Nat) (x0 : Nat) (w : World) (h : CRow w (some ⟨b, off, none⟩) cap l) (HN : Hid (l.length = n)) (hs : 18 ≤ n) (HX0 : Hid (valB ((l.drop 0).take 8) = mInit)) (HX : Hid (valB ((l.drop 8).take 8) = x0)) (hx0 : x0 ≠ mHave) :
    Calls Tryd.prog 38 #[.slice (some ⟨b, off, none⟩) n cap] w fun e w' => e = .returned (.tuple #[.agg #[.int .u16 0], .int .i64 0, .int .i64 80]) ∧ Below w.heap.size w w' := by
  obtain ⟨W0, hW0⟩ : ∃ W0, W0 = w.alloc (.cells #[.int .u16 0] 31) := ⟨_, rfl⟩
  have HS : Hid (Sb w W0 (.cells #[.int .u16 0] 31 (0, 0))) := by show Sb _ _ _; rw [hW0]; exact Sb.new w _ _
  have hnl := h.row.len
  rw [HN.out] at hnl
  have hc1 := h.cap1
  have hc2 := h.cap2
  rw [HN.out] at hc1
  have HC : Hid (CRow w (some ⟨b, off, none⟩) cap l) := h
  clear h
  have HXx : Hid (vl l 8 8 = x0) := HX
  have hx1 : ¬ (x0 : Int) = 5280542401877725268 := by intro e; apply hx0; show x0 = 5280542401877725268; omega
  have hx2 : ((x0 : Int) != 5280542401877725268) = true := by simp; exact hx1
  clear hx0 HX
  go_enter Tryd.func38, Tryd.ntmps38
  go_wp2_with fail
  rw [← hW0]
  clear hW0
  refine (rhead_ok b off cap n 18 mInit 8 l _ (HC.out.later HS.out.bel) HN hs (by decide) (by decide) (by decide) HX0.out).mono ?_
  rintro e W1 ⟨rfl, hb⟩
  replace HS : Hid _ := HS.out.next hb
  clear hb
  go_wp2_with fail
  refine (rvalueA b off cap n 8 8 l _ (HC.out.later HS.out.bel) HN (by omega) (by decide) (by decide) (by decide) x0 HXx.out).mono ?_
  rintro e W2 ⟨rfl, hb⟩
  replace HS : Hid _ := HS.out.next hb
  clear hb
  have c00 := blk_at HS.out.b0 0
  have f00 := blk_free HS.out.b0 0
  simp at c00
  go_wp2
  obtain ⟨HG, HB2⟩ := closenb1 HS.out.b0 HS.out.bel (.int .u16 0)
  generalize (W2.setCell ⟨w.heap.size, 0, none⟩ (.int .u16 0)) = Wz at HG HB2 ⊢
  exact bodyPost_ret (results_cell_tmp2 rfl _ Wz w.heap.size 31 #[.int .u16 0] (0, 0) _ rfl HG Tryd.underlying31 rfl infoGre) rfl ⟨rfl, HB2⟩
set_option maxHeartbeats 8000000 in
theorem rdecGreeting_ok (b off cap n : Nat) (l : List Nat) (f : Nat) (w : World) (h : CRow w (some ⟨b, off, none⟩) cap l) (HN : Hid (l.length = n)) (hs : 18 ≤ n) (HX0 : Hid (valB ((l.drop 0).take 8) = mInit)) (HX1 : Hid (valB ((l.drop 8).take 8) = mHave)) (HX2 : Hid (valB ((l.drop 16).take 2) = f)) :
    Calls Tryd.prog 38 #[.slice (some ⟨b, off, none⟩) n cap] w fun e w' => e = .returned (.tuple #[.agg #[.int .u16 (f : Int)], .int .i64 18, .int .i64 0]) ∧ Below w.heap.size w w' := by
  obtain ⟨W0, hW0⟩ : ∃ W0, W0 = w.alloc (.cells #[.int .u16 0] 31) := ⟨_, rfl⟩
  have HS : Hid (Sb w W0 (.cells #[.int .u16 0] 31 (0, 0))) := by show Sb _ _ _; rw [hW0]; exact Sb.new w _ _
  have hnl := h.row.len
  rw [HN.out] at hnl
  have hc1 := h.cap1
  have hc2 := h.cap2
  rw [HN.out] at hc1
  have HC : Hid (CRow w (some ⟨b, off, none⟩) cap l) := h
  clear h
  have HXf : Hid (vl l 16 2 = f) := HX2
  have hbf : f < 65536 := by have := vl_lt HC.out 16 2; rw [HXf.out] at this; simpa using this
  have hwf : IntKind.u16.wrap (f : Int) = (f : Int) := by rw [show IntKind.u16.wrap (f : Int) = (f : Int) % 65536 by simp [IntKind.wrap, IntKind.bits, IntKind.signed]]; omega
  go_enter Tryd.func38, Tryd.ntmps38
  go_wp2_with fail
  rw [← hW0]
  clear hW0
  refine (rhead_ok b off cap n 18 mInit 8 l _ (HC.out.later HS.out.bel) HN hs (by decide) (by decide) (by decide) HX0.out).mono ?_
  rintro e W1 ⟨rfl, hb⟩
  replace HS : Hid _ := HS.out.next hb
  clear hb
  go_wp2_with fail
  refine (rvalueA b off cap n 8 8 l _ (HC.out.later HS.out.bel) HN (by omega) (by decide) (by decide) (by decide) mHave HX1.out).mono ?_
  rintro e W2 ⟨rfl, hb⟩
  replace HS : Hid _ := HS.out.next hb
  clear hb
  go_wp2_with fail
  refine (rvalueA b off cap n 16 2 l _ (HC.out.later HS.out.bel) HN (by omega) (by decide) (by decide) (by decide) f HXf.out).mono ?_
  rintro e W3 ⟨rfl, hb⟩
  replace HS : Hid _ := HS.out.next hb
  clear hb
  have c00 := blk_at HS.out.b0 0
  have f00 := blk_free HS.out.b0 0
  simp at c00
  go_wp2
  obtain ⟨HG, HB2⟩ := closenb1 HS.out.b0 HS.out.bel (.int .u16 (f : Int))
  generalize (W3.setCell ⟨w.heap.size, 0, none⟩ (.int .u16 (f : Int))) = Wz at HG HB2 ⊢
  exact bodyPost_ret (results_cell_tmp2 rfl _ Wz w.heap.size 31 #[.int .u16 (f : Int)] (0, 0) _ rfl HG Tryd.underlying31 rfl infoGre) rfl ⟨rfl, HB2⟩
set_option maxHeartbeats 4000000 in
theorem rdecSimple_short (ao : Option Addr) (cap n : Nat)  (w : World) (h : n < 16) :
    Calls Tryd.prog 41 #[.slice ao n cap] w fun e w' => e = .returned (.tuple #[.agg #[.int .u32 0, .int .u64 0], .int .i64 16, .int .i64 10]) ∧ Below w.heap.size w w' := by
  obtain ⟨W0, hW0⟩ : ∃ W0, W0 = w.alloc (.cells #[.int .u32 0, .int .u64 0] 36) := ⟨_, rfl⟩
  have HS : Hid (Sb w W0 (.cells #[.int .u32 0, .int .u64 0] 36 (0, 0))) := by show Sb _ _ _; rw [hW0]; exact Sb.new w _ _
  go_enter Tryd.func41, Tryd.ntmps41
  go_wp2_with fail
  rw [← hW0]
  clear hW0
  refine (rhead_short ao cap n 16 _ _ _ h).mono ?_
  rintro e W1 ⟨rfl, hb⟩
  replace HS : Hid _ := HS.out.next hb
  clear hb
  have c00 := blk_at HS.out.b0 0
  have f00 := blk_free HS.out.b0 0
  have c01 := blk_at HS.out.b0 1
  have f01 := blk_free HS.out.b0 1
  simp at c00 c01
  go_wp2
  obtain ⟨HG, HB2⟩ := closenb2 HS.out.b0 HS.out.bel (.int .u32 0) (.int .u64 0)
  generalize ((W1.setCell ⟨w.heap.size, 0, none⟩ (.int .u32 0)).setCell ⟨w.heap.size, 1, none⟩ (.int .u64 0)) = Wz at HG HB2 ⊢
  exact bodyPost_ret (results_cell_tmp2 rfl _ Wz w.heap.size 36 #[.int .u32 0, .int .u64 0] (0, 0) _ rfl HG Tryd.underlying36 rfl infoSim) rfl ⟨rfl, HB2⟩
set_option maxHeartbeats 8000000 in
theorem rdecSimple_magic (b off cap n : Nat) (l : List Nat)  (w : World) (h : CRow w (some ⟨b, off, none⟩) cap l) (HN : Hid (l.length = n)) (hs : 16 ≤ n) (HX0 : Hid (valB ((l.drop 0).take 4) ≠ mSimple)) :
    Calls Tryd.prog 41 #[.slice (some ⟨b, off, none⟩) n cap] w fun e w' => e = .returned (.tuple #[.agg #[.int .u32 0, .int .u64 0], .int .i64 0, .int .i64 80]) ∧ Below w.heap.size w w' := by
  obtain ⟨W0, hW0⟩ : ∃ W0, W0 = w.alloc (.cells #[.int .u32 0, .int .u64 0] 36) := ⟨_, rfl⟩
  have HS : Hid (Sb w W0 (.cells #[.int .u32 0, .int .u64 0] 36 (0, 0))) := by show Sb _ _ _; rw [hW0]; exact Sb.new w _ _
  have hnl := h.row.len
  rw [HN.out] at hnl
  have hc1 := h.cap1
  have hc2 := h.cap2
  rw [HN.out] at hc1
  have HC : Hid (CRow w (some ⟨b, off, none⟩) cap l) := h
  clear h
  go_enter Tryd.func41, Tryd.ntmps41
  go_wp2_with fail
  rw [← hW0]
  clear hW0
  refine (rhead_bad b off cap n 16 mSimple 4 l _ (HC.out.later HS.out.bel) HN hs (by decide) (by decide) (by decide) HX0.out).mono ?_
  rintro e W1 ⟨rfl, hb⟩
  replace HS : Hid _ := HS.out.next hb
  clear hb
  have c00 := blk_at HS.out.b0 0
  have f00 := blk_free HS.out.b0 0
  have c01 := blk_at HS.out.b0 1
  have f01 := blk_free HS.out.b0 1
  simp at c00 c01
  go_wp2
  obtain ⟨HG, HB2⟩ := closenb2 HS.out.b0 HS.out.bel (.int .u32 0) (.int .u64 0)
  generalize ((W1.setCell ⟨w.heap.size, 0, none⟩ (.int .u32 0)).setCell ⟨w.heap.size, 1, none⟩ (.int .u64 0)) = Wz at HG HB2 ⊢
  exact bodyPost_ret (results_cell_tmp2 rfl _ Wz w.heap.size 36 #[.int .u32 0, .int .u64 0] (0, 0) _ rfl HG Tryd.underlying36 rfl infoSim) rfl ⟨rfl, HB2⟩
set_option maxHeartbeats 8000000 in
theorem rdecSimple_ok (b off cap n : Nat) (l : List Nat) (c k : Nat) (w : World) (h : CRow w (some ⟨b, off, none⟩) cap l) (HN : Hid (l.length = n)) (hs : 16 ≤ n) (HX0 : Hid (valB ((l.drop 0).take 4) = mSimple)) (HX1 : Hid (valB ((l.drop 4).take 4) = c)) (HX2 : Hid (valB ((l.drop 8).take 8) = k)) :
    Calls Tryd.prog 41 #[.slice (some ⟨b, off, none⟩) n cap] w fun e w' => e = .returned (.tuple #[.agg #[.int .u32 (c : Int), .int .u64 (k : Int)], .int .i64 16, .int .i64 0]) ∧ Below w.heap.size w w' := by
  obtain ⟨W0, hW0⟩ : ∃ W0, W0 = w.alloc (.cells #[.int .u32 0, .int .u64 0] 36) := ⟨_, rfl⟩
  have HS : Hid (Sb w W0 (.cells #[.int .u32 0, .int .u64 0] 36 (0, 0))) := by show Sb _ _ _; rw [hW0]; exact Sb.new w _ _
  have hnl := h.row.len
  rw [HN.out] at hnl
  have hc1 := h.cap1
  have hc2 := h.cap2
  rw [HN.out] at hc1
  have HC : Hid (CRow w (some ⟨b, off, none⟩) cap l) := h
  clear h
  have HXc : Hid (vl l 4 4 = c) := HX1
  have HXk : Hid (vl l 8 8 = k) := HX2
  have hbc : c < 4294967296 := by have := vl_lt HC.out 4 4; rw [HXc.out] at this; simpa using this
  have hwc : IntKind.u32.wrap (c : Int) = (c : Int) := by rw [IntKind.wrap_u32]; omega
  go_enter Tryd.func41, Tryd.ntmps41
  go_wp2_with fail
  rw [← hW0]
  clear hW0
  refine (rhead_ok b off cap n 16 mSimple 4 l _ (HC.out.later HS.out.bel) HN hs (by decide) (by decide) (by decide) HX0.out).mono ?_
  rintro e W1 ⟨rfl, hb⟩
  replace HS : Hid _ := HS.out.next hb
  clear hb
  go_wp2_with fail
  refine (rvalueA b off cap n 4 4 l _ (HC.out.later HS.out.bel) HN (by omega) (by decide) (by decide) (by decide) c HXc.out).mono ?_
  rintro e W2 ⟨rfl, hb⟩
  replace HS : Hid _ := HS.out.next hb
  clear hb
  go_wp2_with fail
  refine (rvalueA b off cap n 8 8 l _ (HC.out.later HS.out.bel) HN (by omega) (by decide) (by decide) (by decide) k HXk.out).mono ?_
  rintro e W3 ⟨rfl, hb⟩
  replace HS : Hid _ := HS.out.next hb
  clear hb
  have c00 := blk_at HS.out.b0 0
  have f00 := blk_free HS.out.b0 0
  have c01 := blk_at HS.out.b0 1
  have f01 := blk_free HS.out.b0 1
  simp at c00 c01
  go_wp2
  obtain ⟨HG, HB2⟩ := closenb2 HS.out.b0 HS.out.bel (.int .u32 (c : Int)) (.int .u64 (k : Int))
  generalize ((W3.setCell ⟨w.heap.size, 0, none⟩ (.int .u32 (c : Int))).setCell ⟨w.heap.size, 1, none⟩ (.int .u64 (k : Int))) = Wz at HG HB2 ⊢
  exact bodyPost_ret (results_cell_tmp2 rfl _ Wz w.heap.size 36 #[.int .u32 (c : Int), .int .u64 (k : Int)] (0, 0) _ rfl HG Tryd.underlying36 rfl infoSim) rfl ⟨rfl, HB2⟩
set_option maxHeartbeats 2000000 in
theorem rdecFlags_short (ao : Option Addr) (cap n : Nat) (w : World) (h : n < 4) :
    Calls Tryd.prog 39 #[.slice ao n cap] w fun e w' => e = .returned (.tuple #[.int .u32 0, .int .i64 4, .int .i64 10]) ∧ Below w.heap.size w w' := by
  have HH : Hid _ := rhead_short ao cap n 4 0 0 w h
  clear h
  go_enter Tryd.func39, Tryd.ntmps39
  go_wp2_with fail
  refine Calls.mono HH.out ?_
  rintro e w1 ⟨rfl, hb⟩
  have HB : Hid _ := hb
  clear hb HH
  go_wp2
  go_ret3
  exact ⟨rfl, HB.out⟩
set_option maxHeartbeats 2000000 in
theorem rdecFlags_ok (b off cap n : Nat) (l : List Nat) (f : Nat) (w : World) (h : CRow w (some ⟨b, off, none⟩) cap l) (HN : Hid (l.length = n)) (hs : 4 ≤ n) (HX0 : Hid (valB ((l.drop 0).take 4) = f)) :
    Calls Tryd.prog 39 #[.slice (some ⟨b, off, none⟩) n cap] w fun e w' => e = .returned (.tuple #[.int .u32 (f : Int), .int .i64 4, .int .i64 0]) ∧ Below w.heap.size w w' := by
  have HC : Hid (CRow w (some ⟨b, off, none⟩) cap l) := h
  have HXf : Hid (vl l 0 4 = f) := HX0
  have hbf : f < 4294967296 := by have := vl_lt h 0 4; rw [HXf.out] at this; simpa using this
  have hwf : IntKind.u32.wrap (f : Int) = (f : Int) := by rw [IntKind.wrap_u32]; omega
  have HH : Hid _ := rhead_none (some ⟨b, off, none⟩) cap n 4 w hs
  clear h
  go_enter Tryd.func39, Tryd.ntmps39
  go_wp2_with fail
  refine Calls.mono HH.out ?_
  rintro e w1 ⟨rfl, hb⟩
  have HB : Hid (Below w.heap.size w w1) := hb
  clear hb HH
  go_wp2_with fail
  refine (rvalueA b off cap n 0 4 l _ (HC.out.later HB.out) HN (by omega) (by decide) (by decide) (by decide) f HXf.out).mono ?_
  rintro e w2 ⟨rfl, hb⟩
  have HB2 : Hid (Below w.heap.size w w2) := HB.out.trans (hb.mono HB.out.size)
  clear hb HB
  go_wp2
  go_ret3
  exact ⟨rfl, HB2.out⟩
end Go.Proofs.YtjhickfjagalfaaDoor

namespace Go.Proofs.YtjhickfjagalfaaDoor
open Go.RowKit
set_option linter.unusedVariables false
set_option linter.unusedSimpArgs false
set_option maxRecDepth 100000
set_option maxHeartbeats 4000000 in
theorem rdecChunk0_short (ao : Option Addr) (cap n : Nat) (most : Nat) (w : World) (h : n < 20) :
    Calls Tryd.prog 52 #[.slice ao n cap, .int .u32 (most : Int), .bool false] w fun e w' => e = .returned (.tuple #[.agg #[.int .u16 0, .int .u16 0, .int .u64 0, .int .u64 0, nilV], .int .i64 20, .int .i64 10]) ∧ Below w.heap.size w w' := by
  obtain ⟨W0, hW0⟩ : ∃ W0, W0 = w.alloc (.cells #[.int .u16 0, .int .u16 0, .int .u64 0, .int .u64 0, nilV] 61) := ⟨_, rfl⟩
  have HS : Hid (Sb w W0 (.cells #[.int .u16 0, .int .u16 0, .int .u64 0, .int .u64 0, nilV] 61 (0, 0))) := by show Sb _ _ _; rw [hW0]; exact Sb.new w _ _
  go_enter Tryd.func52, Tryd.ntmps52
  go_wp2_with fail
  rw [← hW0]
  clear hW0
  refine (rhead_short ao cap n 20 _ _ _ h).mono ?_
  rintro e W1 ⟨rfl, hb⟩
  replace HS : Hid _ := HS.out.next hb
  clear hb
  have c00 := blk_at HS.out.b0 0
  have f00 := blk_free HS.out.b0 0
  have c01 := blk_at HS.out.b0 1
  have f01 := blk_free HS.out.b0 1
  have c02 := blk_at HS.out.b0 2
  have f02 := blk_free HS.out.b0 2
  have c03 := blk_at HS.out.b0 3
  have f03 := blk_free HS.out.b0 3
  have c04 := blk_at HS.out.b0 4
  have f04 := blk_free HS.out.b0 4
  simp at c00 c01 c02 c03 c04
  go_wp2
  obtain ⟨HG, HB2⟩ := closenb5 HS.out.b0 HS.out.bel (.int .u16 0) (.int .u16 0) (.int .u64 0) (.int .u64 0) (nilV)
  generalize (((((W1.setCell ⟨w.heap.size, 0, none⟩ (.int .u16 0)).setCell ⟨w.heap.size, 1, none⟩ (.int .u16 0)).setCell ⟨w.heap.size, 2, none⟩ (.int .u64 0)).setCell ⟨w.heap.size, 3, none⟩ (.int .u64 0)).setCell ⟨w.heap.size, 4, none⟩ (nilV)) = Wz at HG HB2 ⊢
  exact bodyPost_ret (results_cell_tmp2 rfl _ Wz w.heap.size 61 #[.int .u16 0, .int .u16 0, .int .u64 0, .int .u64 0, nilV] (0, 0) _ rfl HG Tryd.underlying61 rfl infoChk) rfl ⟨rfl, HB2⟩
set_option maxHeartbeats 8000000 in
theorem rdecChunk0_magic (b off cap n : Nat) (l : List Nat) (most : Nat) (w : World) (h : CRow w (some ⟨b, off, none⟩) cap l) (HN : Hid (l.length = n)) (hs : 20 ≤ n) (HX0 : Hid (valB ((l.drop 0).take 4) ≠ mChunk)) :
    Calls Tryd.prog 52 #[.slice (some ⟨b, off, none⟩) n cap, .int .u32 (most : Int), .bool false] w fun e w' => e = .returned (.tuple #[.agg #[.int .u16 0, .int .u16 0, .int .u64 0, .int .u64 0, nilV], .int .i64 0, .int .i64 80]) ∧ Below w.heap.size w w' := by
  obtain ⟨W0, hW0⟩ : ∃ W0, W0 = w.alloc (.cells #[.int .u16 0, .int .u16 0, .int .u64 0, .int .u64 0, nilV] 61) := ⟨_, rfl⟩
  have HS : Hid (Sb w W0 (.cells #[.int .u16 0, .int .u16 0, .int .u64 0, .int .u64 0, nilV] 61 (0, 0))) := by show Sb _ _ _; rw [hW0]; exact Sb.new w _ _
  have hnl := h.row.len
  rw [HN.out] at hnl
  have hc1 := h.cap1
  have hc2 := h.cap2
  rw [HN.out] at hc1
  have HC : Hid (CRow w (some ⟨b, off, none⟩) cap l) := h
  clear h
  go_enter Tryd.func52, Tryd.ntmps52
  go_wp2_with fail
  rw [← hW0]
  clear hW0
  refine (rhead_bad b off cap n 20 mChunk 4 l _ (HC.out.later HS.out.bel) HN hs (by decide) (by decide) (by decide) HX0.out).mono ?_
  rintro e W1 ⟨rfl, hb⟩
  replace HS : Hid _ := HS.out.next hb
  clear hb
  have c00 := blk_at HS.out.b0 0
  have f00 := blk_free HS.out.b0 0
  have c01 := blk_at HS.out.b0 1
  have f01 := blk_free HS.out.b0 1
  have c02 := blk_at HS.out.b0 2
  have f02 := blk_free HS.out.b0 2
  have c03 := blk_at HS.out.b0 3
  have f03 := blk_free HS.out.b0 3
  have c04 := blk_at HS.out.b0 4
  have f04 := blk_free HS.out.b0 4
  simp at c00 c01 c02 c03 c04
  go_wp2
  obtain ⟨HG, HB2⟩ := closenb5 HS.out.b0 HS.out.bel (.int .u16 0) (.int .u16 0) (.int .u64 0) (.int .u64 0) (nilV)
  generalize (((((W1.setCell ⟨w.heap.size, 0, none⟩ (.int .u16 0)).setCell ⟨w.heap.size, 1, none⟩ (.int .u16 0)).setCell ⟨w.heap.size, 2, none⟩ (.int .u64 0)).setCell ⟨w.heap.size, 3, none⟩ (.int .u64 0)).setCell ⟨w.heap.size, 4, none⟩ (nilV)) = Wz at HG HB2 ⊢
  exact bodyPost_ret (results_cell_tmp2 rfl _ Wz w.heap.size 61 #[.int .u16 0, .int .u16 0, .int .u64 0, .int .u64 0, nilV] (0, 0) _ rfl HG Tryd.underlying61 rfl infoChk) rfl ⟨rfl, HB2⟩
set_option maxHeartbeats 8000000 in
theorem rdecChunk0_long (b off cap n : Nat) (l : List Nat) (most : Nat) (f t c k : Nat) (w : World) (h : CRow w (some ⟨b, off, none⟩) cap l) (HN : Hid (l.length = n)) (hs : 20 ≤ n) (HX0 : Hid (valB ((l.drop 0).take 4) = mChunk)) (HX1 : Hid (valB ((l.drop 4).take 2) = f)) (HX2 : Hid (valB ((l.drop 6).take 2) = t)) (HX3 : Hid (valB ((l.drop 8).take 8) = c)) (HX5 : Hid (valB ((l.drop 16).take 4) = k)) (hk64 : k < 18446744073709551616) (hm4 : most < 4294967296) (hlong : most < k) :
    Calls Tryd.prog 52 #[.slice (some ⟨b, off, none⟩) n cap, .int .u32 (most : Int), .bool false] w fun e w' => ∃ ao2 cap2, e = .returned (.tuple #[.agg #[.int .u16 (f : Int), .int .u16 (t : Int), .int .u64 (c : Int), .int .u64 0, .slice ao2 0 cap2], .int .i64 20, .int .i64 12]) ∧ Row w w' ao2 cap2 [] := by
  have HXf : Hid (vl l 4 2 = f) := HX1
  have HXt : Hid (vl l 6 2 = t) := HX2
  have HXc : Hid (vl l 8 8 = c) := HX3
  have HXk : Hid (vl l 16 4 = k) := HX5
  obtain ⟨W0, hW0⟩ : ∃ W0, W0 = w.alloc (.cells #[.int .u16 0, .int .u16 0, .int .u64 0, .int .u64 0, nilV] 61) := ⟨_, rfl⟩
  have HS : Hid (Sb w W0 (.cells #[.int .u16 0, .int .u16 0, .int .u64 0, .int .u64 0, nilV] 61 (0, 0))) := by show Sb _ _ _; rw [hW0]; exact Sb.new w _ _
  have hnl := h.row.len
  rw [HN.out] at hnl
  have hc1 := h.cap1
  have hc2 := h.cap2
  rw [HN.out] at hc1
  have HC : Hid (CRow w (some ⟨b, off, none⟩) cap l) := h
  clear h
  have hbf : f < 65536 := by have := vl_lt HC.out 4 2; rw [HXf.out] at this; simpa using this
  have hwf : IntKind.u16.wrap (f : Int) = (f : Int) := by rw [show IntKind.u16.wrap (f : Int) = (f : Int) % 65536 by simp [IntKind.wrap, IntKind.bits, IntKind.signed]]; omega
  have hbt : t < 65536 := by have := vl_lt HC.out 6 2; rw [HXt.out] at this; simpa using this
  have hwt : IntKind.u16.wrap (t : Int) = (t : Int) := by rw [show IntKind.u16.wrap (t : Int) = (t : Int) % 65536 by simp [IntKind.wrap, IntKind.bits, IntKind.signed]]; omega
  go_enter Tryd.func52, Tryd.ntmps52
  go_wp2_with fail
  rw [← hW0]
  clear hW0
  refine (rhead_ok b off cap n 20 mChunk 4 l _ (HC.out.later HS.out.bel) HN hs (by decide) (by decide) (by decide) HX0.out).mono ?_
  rintro e W1 ⟨rfl, hb⟩
  replace HS : Hid _ := HS.out.next hb
  clear hb
  go_wp2_with fail
  refine (rvalueA b off cap n 4 2 l _ (HC.out.later HS.out.bel) HN (by omega) (by decide) (by decide) (by decide) f HXf.out).mono ?_
  rintro e W2 ⟨rfl, hb⟩
  replace HS : Hid _ := HS.out.next hb
  clear hb
  go_wp2_with fail
  refine (rvalueA b off cap n 6 2 l _ (HC.out.later HS.out.bel) HN (by omega) (by decide) (by decide) (by decide) t HXt.out).mono ?_
  rintro e W3 ⟨rfl, hb⟩
  replace HS : Hid _ := HS.out.next hb
  clear hb
  go_wp2_with fail
  refine (rvalueA b off cap n 8 8 l _ (HC.out.later HS.out.bel) HN (by omega) (by decide) (by decide) (by decide) c HXc.out).mono ?_
  rintro e W4 ⟨rfl, hb⟩
  replace HS : Hid _ := HS.out.next hb
  clear hb
  obtain ⟨V, hV⟩ : ∃ V, V = W4.alloc (.cells #[.int .u16 (f : Int), .int .u16 (t : Int), .int .u64 (c : Int), .int .u64 0, nilV] 61) := ⟨_, rfl⟩
  obtain ⟨g, hg⟩ : ∃ g, g = W4.heap.size := ⟨_, rfl⟩
  replace HS : Hid (Sx w V (.cells #[.int .u16 0, .int .u16 0, .int .u64 0, .int .u64 0, nilV] 61 (0, 0)) g #[.int .u16 (f : Int), .int .u16 (t : Int), .int .u64 (c : Int), .int .u64 0, nilV] 61) := by show Sx _ _ _ _ _ _; rw [hV, hg]; exact HS.out.box _ _
  have hgn : ¬ (g = w.heap.size) := by have := HS.out.gl; omega
  have hgm : ¬ (w.heap.size = g) := by have := HS.out.gl; omega
  go_wp2_with fail
  rw [← hV, ← hg]
  clear hV hg
  refine (rvalueA b off cap n 16 4 l _ (HC.out.later HS.out.bel) HN (by omega) (by decide) (by decide) (by decide) k HXk.out).mono ?_
  rintro e W5 ⟨rfl, hb⟩
  replace HS : Hid _ := HS.out.next hb
  clear hb
  go_wp2_with fail
  refine (rtail_long _ cap n 20 k most _ hm4 hlong).mono ?_
  rintro e W6 ⟨rfl, hb⟩
  replace HS : Hid _ := HS.out.next hb
  clear hb
  have c20 := blk_at HS.out.b2 0
  have f20 := blk_free HS.out.b2 0
  have c21 := blk_at HS.out.b2 1
  have f21 := blk_free HS.out.b2 1
  have c22 := blk_at HS.out.b2 2
  have f22 := blk_free HS.out.b2 2
  have c23 := blk_at HS.out.b2 3
  have f23 := blk_free HS.out.b2 3
  have c24 := blk_at HS.out.b2 4
  have f24 := blk_free HS.out.b2 4
  simp at c20 c21 c22 c23 c24
  have c00 := blk_at HS.out.b0 0
  have f00 := blk_free HS.out.b0 0
  have c01 := blk_at HS.out.b0 1
  have f01 := blk_free HS.out.b0 1
  have c02 := blk_at HS.out.b0 2
  have f02 := blk_free HS.out.b0 2
  have c03 := blk_at HS.out.b0 3
  have f03 := blk_free HS.out.b0 3
  have c04 := blk_at HS.out.b0 4
  have f04 := blk_free HS.out.b0 4
  simp at c00 c01 c02 c03 c04
  go_wp2
  obtain ⟨HG, HB2⟩ := closenb5 HS.out.b0 HS.out.bel (.int .u16 (f : Int)) (.int .u16 (t : Int)) (.int .u64 (c : Int)) (.int .u64 0) (nilV)
  generalize (((((W6.setCell ⟨w.heap.size, 0, none⟩ (.int .u16 (f : Int))).setCell ⟨w.heap.size, 1, none⟩ (.int .u16 (t : Int))).setCell ⟨w.heap.size, 2, none⟩ (.int .u64 (c : Int))).setCell ⟨w.heap.size, 3, none⟩ (.int .u64 0)).setCell ⟨w.heap.size, 4, none⟩ (nilV)) = Wz at HG HB2 ⊢
  exact bodyPost_ret (results_cell_tmp2 rfl _ Wz w.heap.size 61 #[.int .u16 (f : Int), .int .u16 (t : Int), .int .u64 (c : Int), .int .u64 0, nilV] (0, 0) _ rfl HG Tryd.underlying61 rfl infoChk) rfl ⟨none, 0, rfl, row_nil w Wz HB2⟩
set_option maxHeartbeats 8000000 in
theorem rdecChunk0_short2 (b off cap n : Nat) (l : List Nat) (most : Nat) (f t c k : Nat) (w : World) (h : CRow w (some ⟨b, off, none⟩) cap l) (HN : Hid (l.length = n)) (hs : 20 ≤ n) (HX0 : Hid (valB ((l.drop 0).take 4) = mChunk)) (HX1 : Hid (valB ((l.drop 4).take 2) = f)) (HX2 : Hid (valB ((l.drop 6).take 2) = t)) (HX3 : Hid (valB ((l.drop 8).take 8) = c)) (HX5 : Hid (valB ((l.drop 16).take 4) = k)) (hk64 : k < 18446744073709551616) (hm4 : most < 4294967296) (hle : k ≤ most) (hsh : n - 20 < k) (N : Nat) (hN : 20 + k = N) :
    Calls Tryd.prog 52 #[.slice (some ⟨b, off, none⟩) n cap, .int .u32 (most : Int), .bool false] w fun e w' => e = .returned (.tuple #[.agg #[.int .u16 0, .int .u16 0, .int .u64 0, .int .u64 0, nilV], .int .i64 (N : Int), .int .i64 10]) ∧ Below w.heap.size w w' := by
  have HXf : Hid (vl l 4 2 = f) := HX1
  have HXt : Hid (vl l 6 2 = t) := HX2
  have HXc : Hid (vl l 8 8 = c) := HX3
  have HXk : Hid (vl l 16 4 = k) := HX5
  obtain ⟨W0, hW0⟩ : ∃ W0, W0 = w.alloc (.cells #[.int .u16 0, .int .u16 0, .int .u64 0, .int .u64 0, nilV] 61) := ⟨_, rfl⟩
  have HS : Hid (Sb w W0 (.cells #[.int .u16 0, .int .u16 0, .int .u64 0, .int .u64 0, nilV] 61 (0, 0))) := by show Sb _ _ _; rw [hW0]; exact Sb.new w _ _
  have hnl := h.row.len
  rw [HN.out] at hnl
  have hc1 := h.cap1
  have hc2 := h.cap2
  rw [HN.out] at hc1
  have HC : Hid (CRow w (some ⟨b, off, none⟩) cap l) := h
  clear h
  have hbf : f < 65536 := by have := vl_lt HC.out 4 2; rw [HXf.out] at this; simpa using this
  have hwf : IntKind.u16.wrap (f : Int) = (f : Int) := by rw [show IntKind.u16.wrap (f : Int) = (f : Int) % 65536 by simp [IntKind.wrap, IntKind.bits, IntKind.signed]]; omega
  have hbt : t < 65536 := by have := vl_lt HC.out 6 2; rw [HXt.out] at this; simpa using this
  have hwt : IntKind.u16.wrap (t : Int) = (t : Int) := by rw [show IntKind.u16.wrap (t : Int) = (t : Int) % 65536 by simp [IntKind.wrap, IntKind.bits, IntKind.signed]]; omega
  go_enter Tryd.func52, Tryd.ntmps52
  go_wp2_with fail
  rw [← hW0]
  clear hW0
  refine (rhead_ok b off cap n 20 mChunk 4 l _ (HC.out.later HS.out.bel) HN hs (by decide) (by decide) (by decide) HX0.out).mono ?_
  rintro e W1 ⟨rfl, hb⟩
  replace HS : Hid _ := HS.out.next hb
  clear hb
  go_wp2_with fail
  refine (rvalueA b off cap n 4 2 l _ (HC.out.later HS.out.bel) HN (by omega) (by decide) (by decide) (by decide) f HXf.out).mono ?_
  rintro e W2 ⟨rfl, hb⟩
  replace HS : Hid _ := HS.out.next hb
  clear hb
  go_wp2_with fail
  refine (rvalueA b off cap n 6 2 l _ (HC.out.later HS.out.bel) HN (by omega) (by decide) (by decide) (by decide) t HXt.out).mono ?_
  rintro e W3 ⟨rfl, hb⟩
  replace HS : Hid _ := HS.out.next hb
  clear hb
  go_wp2_with fail
  refine (rvalueA b off cap n 8 8 l _ (HC.out.later HS.out.bel) HN (by omega) (by decide) (by decide) (by decide) c HXc.out).mono ?_
  rintro e W4 ⟨rfl, hb⟩
  replace HS : Hid _ := HS.out.next hb
  clear hb
  obtain ⟨V, hV⟩ : ∃ V, V = W4.alloc (.cells #[.int .u16 (f : Int), .int .u16 (t : Int), .int .u64 (c : Int), .int .u64 0, nilV] 61) := ⟨_, rfl⟩
  obtain ⟨g, hg⟩ : ∃ g, g = W4.heap.size := ⟨_, rfl⟩
  replace HS : Hid (Sx w V (.cells #[.int .u16 0, .int .u16 0, .int .u64 0, .int .u64 0, nilV] 61 (0, 0)) g #[.int .u16 (f : Int), .int .u16 (t : Int), .int .u64 (c : Int), .int .u64 0, nilV] 61) := by show Sx _ _ _ _ _ _; rw [hV, hg]; exact HS.out.box _ _
  have hgn : ¬ (g = w.heap.size) := by have := HS.out.gl; omega
  have hgm : ¬ (w.heap.size = g) := by have := HS.out.gl; omega
  go_wp2_with fail
  rw [← hV, ← hg]
  clear hV hg
  refine (rvalueA b off cap n 16 4 l _ (HC.out.later HS.out.bel) HN (by omega) (by decide) (by decide) (by decide) k HXk.out).mono ?_
  rintro e W5 ⟨rfl, hb⟩
  replace HS : Hid _ := HS.out.next hb
  clear hb
  go_wp2_with fail
  refine (rtail_short _ cap n 20 k most N _ hm4 hle hnl (by decide) hN (by omega)).mono ?_
  rintro e W6 ⟨rfl, hb⟩
  replace HS : Hid _ := HS.out.next hb
  clear hb
  have c00 := blk_at HS.out.b0 0
  have f00 := blk_free HS.out.b0 0
  have c01 := blk_at HS.out.b0 1
  have f01 := blk_free HS.out.b0 1
  have c02 := blk_at HS.out.b0 2
  have f02 := blk_free HS.out.b0 2
  have c03 := blk_at HS.out.b0 3
  have f03 := blk_free HS.out.b0 3
  have c04 := blk_at HS.out.b0 4
  have f04 := blk_free HS.out.b0 4
  simp at c00 c01 c02 c03 c04
  go_wp2
  obtain ⟨HG, HB2⟩ := closenb5 HS.out.b0 HS.out.bel (.int .u16 0) (.int .u16 0) (.int .u64 0) (.int .u64 0) (nilV)
  generalize (((((W6.setCell ⟨w.heap.size, 0, none⟩ (.int .u16 0)).setCell ⟨w.heap.size, 1, none⟩ (.int .u16 0)).setCell ⟨w.heap.size, 2, none⟩ (.int .u64 0)).setCell ⟨w.heap.size, 3, none⟩ (.int .u64 0)).setCell ⟨w.heap.size, 4, none⟩ (nilV)) = Wz at HG HB2 ⊢
  exact bodyPost_ret (results_cell_tmp2 rfl _ Wz w.heap.size 61 #[.int .u16 0, .int .u16 0, .int .u64 0, .int .u64 0, nilV] (0, 0) _ rfl HG Tryd.underlying61 rfl infoChk) rfl ⟨rfl, HB2⟩
set_option maxHeartbeats 8000000 in
theorem rdecChunk0_ok0 (b off cap n : Nat) (l : List Nat) (most : Nat) (f t c k : Nat) (w : World) (h : CRow w (some ⟨b, off, none⟩) cap l) (HN : Hid (l.length = n)) (hs : 20 ≤ n) (HX0 : Hid (valB ((l.drop 0).take 4) = mChunk)) (HX1 : Hid (valB ((l.drop 4).take 2) = f)) (HX2 : Hid (valB ((l.drop 6).take 2) = t)) (HX3 : Hid (valB ((l.drop 8).take 8) = c)) (HX5 : Hid (valB ((l.drop 16).take 4) = k)) (hk64 : k < 18446744073709551616) (hm4 : most < 4294967296) (hle : k ≤ most) (hfit : k ≤ n - 20) (N : Nat) (hN : 20 + k = N) (m : List Nat) (hm : (l.drop 20).take k = m) (hce : cap = 20) :
    Calls Tryd.prog 52 #[.slice (some ⟨b, off, none⟩) n cap, .int .u32 (most : Int), .bool false] w fun e w' => ∃ ao2 cap2, e = .returned (.tuple #[.agg #[.int .u16 (f : Int), .int .u16 (t : Int), .int .u64 (c : Int), .int .u64 0, .slice ao2 k cap2], .int .i64 (N : Int), .int .i64 0]) ∧ w'.ownsRow w.heap.size 5 1 (.slice ao2 k cap2) k (m.map bv) ∧ Below w.heap.size w w' := by
  have HXf : Hid (vl l 4 2 = f) := HX1
  have HXt : Hid (vl l 6 2 = t) := HX2
  have HXc : Hid (vl l 8 8 = c) := HX3
  have HXk : Hid (vl l 16 4 = k) := HX5
  obtain ⟨W0, hW0⟩ : ∃ W0, W0 = w.alloc (.cells #[.int .u16 0, .int .u16 0, .int .u64 0, .int .u64 0, nilV] 61) := ⟨_, rfl⟩
  have HS : Hid (Sb w W0 (.cells #[.int .u16 0, .int .u16 0, .int .u64 0, .int .u64 0, nilV] 61 (0, 0))) := by show Sb _ _ _; rw [hW0]; exact Sb.new w _ _
  have hnl := h.row.len
  rw [HN.out] at hnl
  have hc1 := h.cap1
  have hc2 := h.cap2
  rw [HN.out] at hc1
  have HC : Hid (CRow w (some ⟨b, off, none⟩) cap l) := h
  clear h
  have hbf : f < 65536 := by have := vl_lt HC.out 4 2; rw [HXf.out] at this; simpa using this
  have hwf : IntKind.u16.wrap (f : Int) = (f : Int) := by rw [show IntKind.u16.wrap (f : Int) = (f : Int) % 65536 by simp [IntKind.wrap, IntKind.bits, IntKind.signed]]; omega
  have hbt : t < 65536 := by have := vl_lt HC.out 6 2; rw [HXt.out] at this; simpa using this
  have hwt : IntKind.u16.wrap (t : Int) = (t : Int) := by rw [show IntKind.u16.wrap (t : Int) = (t : Int) % 65536 by simp [IntKind.wrap, IntKind.bits, IntKind.signed]]; omega
  have hlen : m.length = k := by rw [← hm, List.length_take, List.length_drop, HN.out]; omega
  have HM : Hid ((l.drop 20).take k = m ∧ m.length = k) := ⟨hm, hlen⟩
  clear hm hlen
  obtain rfl : n = 20 := by omega
  obtain rfl : k = 0 := by omega
  obtain rfl : N = 20 := by omega
  subst hce
  go_enter Tryd.func52, Tryd.ntmps52
  go_wp2_with fail
  rw [← hW0]
  clear hW0
  refine (rhead_ok b off 20 20 20 mChunk 4 l _ (HC.out.later HS.out.bel) HN hs (by decide) (by decide) (by decide) HX0.out).mono ?_
  rintro e W1 ⟨rfl, hb⟩
  replace HS : Hid _ := HS.out.next hb
  clear hb
  go_wp2_with fail
  refine (rvalueA b off 20 20 4 2 l _ (HC.out.later HS.out.bel) HN (by omega) (by decide) (by decide) (by decide) f HXf.out).mono ?_
  rintro e W2 ⟨rfl, hb⟩
  replace HS : Hid _ := HS.out.next hb
  clear hb
  go_wp2_with fail
  refine (rvalueA b off 20 20 6 2 l _ (HC.out.later HS.out.bel) HN (by omega) (by decide) (by decide) (by decide) t HXt.out).mono ?_
  rintro e W3 ⟨rfl, hb⟩
  replace HS : Hid _ := HS.out.next hb
  clear hb
  go_wp2_with fail
  refine (rvalueA b off 20 20 8 8 l _ (HC.out.later HS.out.bel) HN (by omega) (by decide) (by decide) (by decide) c HXc.out).mono ?_
  rintro e W4 ⟨rfl, hb⟩
  replace HS : Hid _ := HS.out.next hb
  clear hb
  obtain ⟨V, hV⟩ : ∃ V, V = W4.alloc (.cells #[.int .u16 (f : Int), .int .u16 (t : Int), .int .u64 (c : Int), .int .u64 0, nilV] 61) := ⟨_, rfl⟩
  obtain ⟨g, hg⟩ : ∃ g, g = W4.heap.size := ⟨_, rfl⟩
  replace HS : Hid (Sx w V (.cells #[.int .u16 0, .int .u16 0, .int .u64 0, .int .u64 0, nilV] 61 (0, 0)) g #[.int .u16 (f : Int), .int .u16 (t : Int), .int .u64 (c : Int), .int .u64 0, nilV] 61) := by show Sx _ _ _ _ _ _; rw [hV, hg]; exact HS.out.box _ _
  have hgn : ¬ (g = w.heap.size) := by have := HS.out.gl; omega
  have hgm : ¬ (w.heap.size = g) := by have := HS.out.gl; omega
  go_wp2_with fail
  rw [← hV, ← hg]
  clear hV hg
  refine (rvalueA b off 20 20 16 4 l _ (HC.out.later HS.out.bel) HN (by omega) (by decide) (by decide) (by decide) 0 HXk.out).mono ?_
  rintro e W5 ⟨rfl, hb⟩
  replace HS : Hid _ := HS.out.next hb
  clear hb
  go_wp2_with fail
  refine (rtail_ok _ 20 20 20 0 most 20 _ hm4 (Nat.zero_le _) hnl (by decide) rfl (Nat.le_refl _)).mono ?_
  rintro e W6 ⟨rfl, hb⟩
  replace HS : Hid _ := HS.out.next hb
  clear hb
  go_wp2_with fail
  have HBb : Hid (g < W6.heap.size ∧ w.heap.size < W6.heap.size) := ⟨block_lt HS.out.b2, block_lt HS.out.b0⟩
  refine (copyN (some ⟨b, off, none⟩) 0 0 [] _ ⟨by simp, by simp, (fun e => by cases e), fun h => absurd rfl h⟩ rfl).mono ?_
  rintro e W7 ⟨ao2, cap2, rfl, ho, hb⟩
  replace HS : Hid _ := HS.out.next hb
  have HO : Hid (W7.ownsRow W6.heap.size 5 1 (.slice ao2 0 cap2) 0 ([].map bv)) := ho
  clear hb ho
  have c20 := blk_at HS.out.b2 0
  have f20 := blk_free HS.out.b2 0
  have c21 := blk_at HS.out.b2 1
  have f21 := blk_free HS.out.b2 1
  have c22 := blk_at HS.out.b2 2
  have f22 := blk_free HS.out.b2 2
  have c23 := blk_at HS.out.b2 3
  have f23 := blk_free HS.out.b2 3
  have c24 := blk_at HS.out.b2 4
  have f24 := blk_free HS.out.b2 4
  simp at c20 c21 c22 c23 c24
  have c00 := blk_at HS.out.b0 0
  have f00 := blk_free HS.out.b0 0
  have c01 := blk_at HS.out.b0 1
  have f01 := blk_free HS.out.b0 1
  have c02 := blk_at HS.out.b0 2
  have f02 := blk_free HS.out.b0 2
  have c03 := blk_at HS.out.b0 3
  have f03 := blk_free HS.out.b0 3
  have c04 := blk_at HS.out.b0 4
  have f04 := blk_free HS.out.b0 4
  simp at c00 c01 c02 c03 c04
  go_wp2
  replace HS : Hid _ := HS.out.put 4 (.slice ao2 0 cap2) (cs' := #[.int .u16 (f : Int), .int .u16 (t : Int), .int .u64 (c : Int), .int .u64 0, .slice ao2 0 cap2]) rfl
  have HO1 : (W7.setCell ⟨g, 4, none⟩ (.slice ao2 0 cap2)).ownsRow W6.heap.size 5 1 (.slice ao2 0 cap2) 0 ([].map bv) := owns_same HO.out fun x hx => Below.heap_setCell _ _ _ _ (by have := (owns_lt HO.out x hx).2; have := HBb.out; show x ≠ g; omega)
  generalize W7.setCell ⟨g, 4, none⟩ (.slice ao2 0 cap2) = Wy at HS HO1 ⊢
  obtain ⟨HG, HB2, HO2⟩ := closen5 HS.out.b0 HS.out.bel HO1 (by have := HBb.out; omega) (.int .u16 (f : Int)) (.int .u16 (t : Int)) (.int .u64 (c : Int)) (.int .u64 0) (.slice ao2 0 cap2)
  generalize (((((Wy.setCell ⟨w.heap.size, 0, none⟩ (.int .u16 (f : Int))).setCell ⟨w.heap.size, 1, none⟩ (.int .u16 (t : Int))).setCell ⟨w.heap.size, 2, none⟩ (.int .u64 (c : Int))).setCell ⟨w.heap.size, 3, none⟩ (.int .u64 0)).setCell ⟨w.heap.size, 4, none⟩ (.slice ao2 0 cap2)) = Wz at HG HB2 HO2 ⊢
  exact bodyPost_ret (results_cell_tmp2 rfl _ Wz w.heap.size 61 #[.int .u16 (f : Int), .int .u16 (t : Int), .int .u64 (c : Int), .int .u64 0, .slice ao2 0 cap2] (0, 0) _ rfl HG Tryd.underlying61 rfl infoChk) rfl ⟨_, _, rfl, by have e : m = [] := List.eq_nil_of_length_eq_zero HM.out.2; rw [e]; exact owns_mono HO2 (by have := HBb.out; omega), HB2⟩
set_option maxHeartbeats 8000000 in
theorem rdecChunk0_ok1 (b off cap n : Nat) (l : List Nat) (most : Nat) (f t c k : Nat) (w : World) (h : CRow w (some ⟨b, off, none⟩) cap l) (HN : Hid (l.length = n)) (hs : 20 ≤ n) (HX0 : Hid (valB ((l.drop 0).take 4) = mChunk)) (HX1 : Hid (valB ((l.drop 4).take 2) = f)) (HX2 : Hid (valB ((l.drop 6).take 2) = t)) (HX3 : Hid (valB ((l.drop 8).take 8) = c)) (HX5 : Hid (valB ((l.drop 16).take 4) = k)) (hk64 : k < 18446744073709551616) (hm4 : most < 4294967296) (hle : k ≤ most) (hfit : k ≤ n - 20) (N : Nat) (hN : 20 + k = N) (m : List Nat) (hm : (l.drop 20).take k = m) (hce : ¬ cap = 20) :
    Calls Tryd.prog 52 #[.slice (some ⟨b, off, none⟩) n cap, .int .u32 (most : Int), .bool false] w fun e w' => ∃ ao2 cap2, e = .returned (.tuple #[.agg #[.int .u16 (f : Int), .int .u16 (t : Int), .int .u64 (c : Int), .int .u64 0, .slice ao2 k cap2], .int .i64 (N : Int), .int .i64 0]) ∧ w'.ownsRow w.heap.size 5 1 (.slice ao2 k cap2) k (m.map bv) ∧ Below w.heap.size w w' := by
  have HXf : Hid (vl l 4 2 = f) := HX1
  have HXt : Hid (vl l 6 2 = t) := HX2
  have HXc : Hid (vl l 8 8 = c) := HX3
  have HXk : Hid (vl l 16 4 = k) := HX5
  obtain ⟨W0, hW0⟩ : ∃ W0, W0 = w.alloc (.cells #[.int .u16 0, .int .u16 0, .int .u64 0, .int .u64 0, nilV] 61) := ⟨_, rfl⟩
  have HS : Hid (Sb w W0 (.cells #[.int .u16 0, .int .u16 0, .int .u64 0, .int .u64 0, nilV] 61 (0, 0))) := by show Sb _ _ _; rw [hW0]; exact Sb.new w _ _
  have hnl := h.row.len
  rw [HN.out] at hnl
  have hc1 := h.cap1
  have hc2 := h.cap2
  rw [HN.out] at hc1
  have HC : Hid (CRow w (some ⟨b, off, none⟩) cap l) := h
  clear h
  have hbf : f < 65536 := by have := vl_lt HC.out 4 2; rw [HXf.out] at this; simpa using this
  have hwf : IntKind.u16.wrap (f : Int) = (f : Int) := by rw [show IntKind.u16.wrap (f : Int) = (f : Int) % 65536 by simp [IntKind.wrap, IntKind.bits, IntKind.signed]]; omega
  have hbt : t < 65536 := by have := vl_lt HC.out 6 2; rw [HXt.out] at this; simpa using this
  have hwt : IntKind.u16.wrap (t : Int) = (t : Int) := by rw [show IntKind.u16.wrap (t : Int) = (t : Int) % 65536 by simp [IntKind.wrap, IntKind.bits, IntKind.signed]]; omega
  have hlen : m.length = k := by rw [← hm, List.length_take, List.length_drop, HN.out]; omega
  have HM : Hid ((l.drop 20).take k = m ∧ m.length = k) := ⟨hm, hlen⟩
  clear hm hlen
  have q1 : (N : Int) ≤ (cap : Int) := by omega
  have q2 : (20 : Int) ≤ (N : Int) := by omega
  have q3 : N - 20 = k := by omega
  have q4 : ((N : Int) - 20).toNat = k := by omega
  have q5 : 20 ≤ N := by omega
  have q6 : N ≤ cap := by omega
  go_enter Tryd.func52, Tryd.ntmps52
  go_wp2_with fail
  rw [← hW0]
  clear hW0
  refine (rhead_ok b off cap n 20 mChunk 4 l _ (HC.out.later HS.out.bel) HN hs (by decide) (by decide) (by decide) HX0.out).mono ?_
  rintro e W1 ⟨rfl, hb⟩
  replace HS : Hid _ := HS.out.next hb
  clear hb
  go_wp2_with fail
  refine (rvalueA b off cap n 4 2 l _ (HC.out.later HS.out.bel) HN (by omega) (by decide) (by decide) (by decide) f HXf.out).mono ?_
  rintro e W2 ⟨rfl, hb⟩
  replace HS : Hid _ := HS.out.next hb
  clear hb
  go_wp2_with fail
  refine (rvalueA b off cap n 6 2 l _ (HC.out.later HS.out.bel) HN (by omega) (by decide) (by decide) (by decide) t HXt.out).mono ?_
  rintro e W3 ⟨rfl, hb⟩
  replace HS : Hid _ := HS.out.next hb
  clear hb
  go_wp2_with fail
  refine (rvalueA b off cap n 8 8 l _ (HC.out.later HS.out.bel) HN (by omega) (by decide) (by decide) (by decide) c HXc.out).mono ?_
  rintro e W4 ⟨rfl, hb⟩
  replace HS : Hid _ := HS.out.next hb
  clear hb
  obtain ⟨V, hV⟩ : ∃ V, V = W4.alloc (.cells #[.int .u16 (f : Int), .int .u16 (t : Int), .int .u64 (c : Int), .int .u64 0, nilV] 61) := ⟨_, rfl⟩
  obtain ⟨g, hg⟩ : ∃ g, g = W4.heap.size := ⟨_, rfl⟩
  replace HS : Hid (Sx w V (.cells #[.int .u16 0, .int .u16 0, .int .u64 0, .int .u64 0, nilV] 61 (0, 0)) g #[.int .u16 (f : Int), .int .u16 (t : Int), .int .u64 (c : Int), .int .u64 0, nilV] 61) := by show Sx _ _ _ _ _ _; rw [hV, hg]; exact HS.out.box _ _
  have hgn : ¬ (g = w.heap.size) := by have := HS.out.gl; omega
  have hgm : ¬ (w.heap.size = g) := by have := HS.out.gl; omega
  go_wp2_with fail
  rw [← hV, ← hg]
  clear hV hg
  refine (rvalueA b off cap n 16 4 l _ (HC.out.later HS.out.bel) HN (by omega) (by decide) (by decide) (by decide) k HXk.out).mono ?_
  rintro e W5 ⟨rfl, hb⟩
  replace HS : Hid _ := HS.out.next hb
  clear hb
  go_wp2_with fail
  refine (rtail_ok _ cap n 20 k most N _ hm4 hle hnl (by decide) hN (by omega)).mono ?_
  rintro e W6 ⟨rfl, hb⟩
  replace HS : Hid _ := HS.out.next hb
  clear hb
  go_wp2_with fail
  have HBb : Hid (g < W6.heap.size ∧ w.heap.size < W6.heap.size) := ⟨block_lt HS.out.b2, block_lt HS.out.b0⟩
  refine (copyN (some ⟨b, off + 20, none⟩) (cap - 20) k m _ (by have := part_brow (HC.out.later HS.out.bel) 20 k (cap - 20); rw [HM.out.1] at this; exact this) HM.out.2).mono ?_
  rintro e W7 ⟨ao2, cap2, rfl, ho, hb⟩
  replace HS : Hid _ := HS.out.next hb
  have HO : Hid (W7.ownsRow W6.heap.size 5 1 (.slice ao2 k cap2) k (m.map bv)) := ho
  clear hb ho
  have c20 := blk_at HS.out.b2 0
  have f20 := blk_free HS.out.b2 0
  have c21 := blk_at HS.out.b2 1
  have f21 := blk_free HS.out.b2 1
  have c22 := blk_at HS.out.b2 2
  have f22 := blk_free HS.out.b2 2
  have c23 := blk_at HS.out.b2 3
  have f23 := blk_free HS.out.b2 3
  have c24 := blk_at HS.out.b2 4
  have f24 := blk_free HS.out.b2 4
  simp at c20 c21 c22 c23 c24
  have c00 := blk_at HS.out.b0 0
  have f00 := blk_free HS.out.b0 0
  have c01 := blk_at HS.out.b0 1
  have f01 := blk_free HS.out.b0 1
  have c02 := blk_at HS.out.b0 2
  have f02 := blk_free HS.out.b0 2
  have c03 := blk_at HS.out.b0 3
  have f03 := blk_free HS.out.b0 3
  have c04 := blk_at HS.out.b0 4
  have f04 := blk_free HS.out.b0 4
  simp at c00 c01 c02 c03 c04
  go_wp2
  replace HS : Hid _ := HS.out.put 4 (.slice ao2 k cap2) (cs' := #[.int .u16 (f : Int), .int .u16 (t : Int), .int .u64 (c : Int), .int .u64 0, .slice ao2 k cap2]) rfl
  have HO1 : (W7.setCell ⟨g, 4, none⟩ (.slice ao2 k cap2)).ownsRow W6.heap.size 5 1 (.slice ao2 k cap2) k (m.map bv) := owns_same HO.out fun x hx => Below.heap_setCell _ _ _ _ (by have := (owns_lt HO.out x hx).2; have := HBb.out; show x ≠ g; omega)
  generalize W7.setCell ⟨g, 4, none⟩ (.slice ao2 k cap2) = Wy at HS HO1 ⊢
  obtain ⟨HG, HB2, HO2⟩ := closen5 HS.out.b0 HS.out.bel HO1 (by have := HBb.out; omega) (.int .u16 (f : Int)) (.int .u16 (t : Int)) (.int .u64 (c : Int)) (.int .u64 0) (.slice ao2 k cap2)
  generalize (((((Wy.setCell ⟨w.heap.size, 0, none⟩ (.int .u16 (f : Int))).setCell ⟨w.heap.size, 1, none⟩ (.int .u16 (t : Int))).setCell ⟨w.heap.size, 2, none⟩ (.int .u64 (c : Int))).setCell ⟨w.heap.size, 3, none⟩ (.int .u64 0)).setCell ⟨w.heap.size, 4, none⟩ (.slice ao2 k cap2)) = Wz at HG HB2 HO2 ⊢
  exact bodyPost_ret (results_cell_tmp2 rfl _ Wz w.heap.size 61 #[.int .u16 (f : Int), .int .u16 (t : Int), .int .u64 (c : Int), .int .u64 0, .slice ao2 k cap2] (0, 0) _ rfl HG Tryd.underlying61 rfl infoChk) rfl ⟨_, _, rfl, owns_mono HO2 (by have := HBb.out; omega), HB2⟩
theorem rdecChunk0_ok (b off cap n : Nat) (l : List Nat) (most : Nat) (f t c k : Nat) (w : World) (h : CRow w (some ⟨b, off, none⟩) cap l) (HN : Hid (l.length = n)) (hs : 20 ≤ n) (HX0 : Hid (valB ((l.drop 0).take 4) = mChunk)) (HX1 : Hid (valB ((l.drop 4).take 2) = f)) (HX2 : Hid (valB ((l.drop 6).take 2) = t)) (HX3 : Hid (valB ((l.drop 8).take 8) = c)) (HX5 : Hid (valB ((l.drop 16).take 4) = k)) (hk64 : k < 18446744073709551616) (hm4 : most < 4294967296) (hle : k ≤ most) (hfit : k ≤ n - 20) (N : Nat) (hN : 20 + k = N) (m : List Nat) (hm : (l.drop 20).take k = m) :
    Calls Tryd.prog 52 #[.slice (some ⟨b, off, none⟩) n cap, .int .u32 (most : Int), .bool false] w fun e w' => ∃ ao2 cap2, e = .returned (.tuple #[.agg #[.int .u16 (f : Int), .int .u16 (t : Int), .int .u64 (c : Int), .int .u64 0, .slice ao2 k cap2], .int .i64 (N : Int), .int .i64 0]) ∧ w'.ownsRow w.heap.size 5 1 (.slice ao2 k cap2) k (m.map bv) ∧ Below w.heap.size w w' := by
  by_cases hce : cap = 20
  · exact rdecChunk0_ok0 b off cap n l most f t c k w h HN hs HX0 HX1 HX2 HX3 HX5 hk64 hm4 hle hfit N hN m hm hce
  · exact rdecChunk0_ok1 b off cap n l most f t c k w h HN hs HX0 HX1 HX2 HX3 HX5 hk64 hm4 hle hfit N hN m hm hce
end Go.Proofs.YtjhickfjagalfaaDoor

namespace Go.Proofs.YtjhickfjagalfaaDoor
open Go.RowKit
set_option linter.unusedVariables false
set_option linter.unusedSimpArgs false
set_option maxRecDepth 100000
set_option maxHeartbeats 4000000 in
theorem rdecChunk1_short (ao : Option Addr) (cap n : Nat) (most : Nat) (w : World) (h : n < 32) :
    Calls Tryd.prog 52 #[.slice ao n cap, .int .u32 (most : Int), .bool true] w fun e w' => e = .returned (.tuple #[.agg #[.int .u16 0, .int .u16 0, .int .u64 0, .int .u64 0, nilV], .int .i64 32, .int .i64 10]) ∧ Below w.heap.size w w' := by
  obtain ⟨W0, hW0⟩ : ∃ W0, W0 = w.alloc (.cells #[.int .u16 0, .int .u16 0, .int .u64 0, .int .u64 0, nilV] 61) := ⟨_, rfl⟩
  have HS : Hid (Sb w W0 (.cells #[.int .u16 0, .int .u16 0, .int .u64 0, .int .u64 0, nilV] 61 (0, 0))) := by show Sb _ _ _; rw [hW0]; exact Sb.new w _ _
  go_enter Tryd.func52, Tryd.ntmps52
  go_wp2_with fail
  rw [← hW0]
  clear hW0
  refine (rhead_short ao cap n 32 _ _ _ h).mono ?_
  rintro e W1 ⟨rfl, hb⟩
  replace HS : Hid _ := HS.out.next hb
  clear hb
  have c00 := blk_at HS.out.b0 0
  have f00 := blk_free HS.out.b0 0
  have c01 := blk_at HS.out.b0 1
  have f01 := blk_free HS.out.b0 1
  have c02 := blk_at HS.out.b0 2
  have f02 := blk_free HS.out.b0 2
  have c03 := blk_at HS.out.b0 3
  have f03 := blk_free HS.out.b0 3
  have c04 := blk_at HS.out.b0 4
  have f04 := blk_free HS.out.b0 4
  simp at c00 c01 c02 c03 c04
  go_wp2
  obtain ⟨HG, HB2⟩ := closenb5 HS.out.b0 HS.out.bel (.int .u16 0) (.int .u16 0) (.int .u64 0) (.int .u64 0) (nilV)
  generalize (((((W1.setCell ⟨w.heap.size, 0, none⟩ (.int .u16 0)).setCell ⟨w.heap.size, 1, none⟩ (.int .u16 0)).setCell ⟨w.heap.size, 2, none⟩ (.int .u64 0)).setCell ⟨w.heap.size, 3, none⟩ (.int .u64 0)).setCell ⟨w.heap.size, 4, none⟩ (nilV)) = Wz at HG HB2 ⊢
  exact bodyPost_ret (results_cell_tmp2 rfl _ Wz w.heap.size 61 #[.int .u16 0, .int .u16 0, .int .u64 0, .int .u64 0, nilV] (0, 0) _ rfl HG Tryd.underlying61 rfl infoChk) rfl ⟨rfl, HB2⟩
set_option maxHeartbeats 8000000 in
theorem rdecChunk1_magic (b off cap n : Nat) (l : List Nat) (most : Nat) (w : World) (h : CRow w (some ⟨b, off, none⟩) cap l) (HN : Hid (l.length = n)) (hs : 32 ≤ n) (HX0 : Hid (valB ((l.drop 0).take 4) ≠ mChunk64)) :
    Calls Tryd.prog 52 #[.slice (some ⟨b, off, none⟩) n cap, .int .u32 (most : Int), .bool true] w fun e w' => e = .returned (.tuple #[.agg #[.int .u16 0, .int .u16 0, .int .u64 0, .int .u64 0, nilV], .int .i64 0, .int .i64 80]) ∧ Below w.heap.size w w' := by
  obtain ⟨W0, hW0⟩ : ∃ W0, W0 = w.alloc (.cells #[.int .u16 0, .int .u16 0, .int .u64 0, .int .u64 0, nilV] 61) := ⟨_, rfl⟩
  have HS : Hid (Sb w W0 (.cells #[.int .u16 0, .int .u16 0, .int .u64 0, .int .u64 0, nilV] 61 (0, 0))) := by show Sb _ _ _; rw [hW0]; exact Sb.new w _ _
  have hnl := h.row.len
  rw [HN.out] at hnl
  have hc1 := h.cap1
  have hc2 := h.cap2
  rw [HN.out] at hc1
  have HC : Hid (CRow w (some ⟨b, off, none⟩) cap l) := h
  clear h
  go_enter Tryd.func52, Tryd.ntmps52
  go_wp2_with fail
  rw [← hW0]
  clear hW0
  refine (rhead_bad b off cap n 32 mChunk64 4 l _ (HC.out.later HS.out.bel) HN hs (by decide) (by decide) (by decide) HX0.out).mono ?_
  rintro e W1 ⟨rfl, hb⟩
  replace HS : Hid _ := HS.out.next hb
  clear hb
  have c00 := blk_at HS.out.b0 0
  have f00 := blk_free HS.out.b0 0
  have c01 := blk_at HS.out.b0 1
  have f01 := blk_free HS.out.b0 1
  have c02 := blk_at HS.out.b0 2
  have f02 := blk_free HS.out.b0 2
  have c03 := blk_at HS.out.b0 3
  have f03 := blk_free HS.out.b0 3
  have c04 := blk_at HS.out.b0 4
  have f04 := blk_free HS.out.b0 4
  simp at c00 c01 c02 c03 c04
  go_wp2
  obtain ⟨HG, HB2⟩ := closenb5 HS.out.b0 HS.out.bel (.int .u16 0) (.int .u16 0) (.int .u64 0) (.int .u64 0) (nilV)
  generalize (((((W1.setCell ⟨w.heap.size, 0, none⟩ (.int .u16 0)).setCell ⟨w.heap.size, 1, none⟩ (.int .u16 0)).setCell ⟨w.heap.size, 2, none⟩ (.int .u64 0)).setCell ⟨w.heap.size, 3, none⟩ (.int .u64 0)).setCell ⟨w.heap.size, 4, none⟩ (nilV)) = Wz at HG HB2 ⊢
  exact bodyPost_ret (results_cell_tmp2 rfl _ Wz w.heap.size 61 #[.int .u16 0, .int .u16 0, .int .u64 0, .int .u64 0, nilV] (0, 0) _ rfl HG Tryd.underlying61 rfl infoChk) rfl ⟨rfl, HB2⟩
set_option maxHeartbeats 8000000 in
theorem rdecChunk1_long (b off cap n : Nat) (l : List Nat) (most : Nat) (f t c o k : Nat) (w : World) (h : CRow w (some ⟨b, off, none⟩) cap l) (HN : Hid (l.length = n)) (hs : 32 ≤ n) (HX0 : Hid (valB ((l.drop 0).take 4) = mChunk64)) (HX1 : Hid (valB ((l.drop 4).take 2) = f)) (HX2 : Hid (valB ((l.drop 6).take 2) = t)) (HX3 : Hid (valB ((l.drop 8).take 8) = c)) (HX4 : Hid (valB ((l.drop 16).take 8) = o)) (HX5 : Hid (valB ((l.drop 24).take 8) = k)) (hk64 : k < 18446744073709551616) (hm4 : most < 4294967296) (hlong : most < k) :
    Calls Tryd.prog 52 #[.slice (some ⟨b, off, none⟩) n cap, .int .u32 (most : Int), .bool true] w fun e w' => ∃ ao2 cap2, e = .returned (.tuple #[.agg #[.int .u16 (f : Int), .int .u16 (t : Int), .int .u64 (c : Int), .int .u64 (o : Int), .slice ao2 0 cap2], .int .i64 32, .int .i64 12]) ∧ Row w w' ao2 cap2 [] := by
  have HXf : Hid (vl l 4 2 = f) := HX1
  have HXt : Hid (vl l 6 2 = t) := HX2
  have HXc : Hid (vl l 8 8 = c) := HX3
  have HXo : Hid (vl l 16 8 = o) := HX4
  have HXk : Hid (vl l 24 8 = k) := HX5
  obtain ⟨W0, hW0⟩ : ∃ W0, W0 = w.alloc (.cells #[.int .u16 0, .int .u16 0, .int .u64 0, .int .u64 0, nilV] 61) := ⟨_, rfl⟩
  have HS : Hid (Sb w W0 (.cells #[.int .u16 0, .int .u16 0, .int .u64 0, .int .u64 0, nilV] 61 (0, 0))) := by show Sb _ _ _; rw [hW0]; exact Sb.new w _ _
  have hnl := h.row.len
  rw [HN.out] at hnl
  have hc1 := h.cap1
  have hc2 := h.cap2
  rw [HN.out] at hc1
  have HC : Hid (CRow w (some ⟨b, off, none⟩) cap l) := h
  clear h
  have hbf : f < 65536 := by have := vl_lt HC.out 4 2; rw [HXf.out] at this; simpa using this
  have hwf : IntKind.u16.wrap (f : Int) = (f : Int) := by rw [show IntKind.u16.wrap (f : Int) = (f : Int) % 65536 by simp [IntKind.wrap, IntKind.bits, IntKind.signed]]; omega
  have hbt : t < 65536 := by have := vl_lt HC.out 6 2; rw [HXt.out] at this; simpa using this
  have hwt : IntKind.u16.wrap (t : Int) = (t : Int) := by rw [show IntKind.u16.wrap (t : Int) = (t : Int) % 65536 by simp [IntKind.wrap, IntKind.bits, IntKind.signed]]; omega
  go_enter Tryd.func52, Tryd.ntmps52
  go_wp2_with fail
  rw [← hW0]
  clear hW0
  refine (rhead_ok b off cap n 32 mChunk64 4 l _ (HC.out.later HS.out.bel) HN hs (by decide) (by decide) (by decide) HX0.out).mono ?_
  rintro e W1 ⟨rfl, hb⟩
  replace HS : Hid _ := HS.out.next hb
  clear hb
  go_wp2_with fail
  refine (rvalueA b off cap n 4 2 l _ (HC.out.later HS.out.bel) HN (by omega) (by decide) (by decide) (by decide) f HXf.out).mono ?_
  rintro e W2 ⟨rfl, hb⟩
  replace HS : Hid _ := HS.out.next hb
  clear hb
  go_wp2_with fail
  refine (rvalueA b off cap n 6 2 l _ (HC.out.later HS.out.bel) HN (by omega) (by decide) (by decide) (by decide) t HXt.out).mono ?_
  rintro e W3 ⟨rfl, hb⟩
  replace HS : Hid _ := HS.out.next hb
  clear hb
  go_wp2_with fail
  refine (rvalueA b off cap n 8 8 l _ (HC.out.later HS.out.bel) HN (by omega) (by decide) (by decide) (by decide) c HXc.out).mono ?_
  rintro e W4 ⟨rfl, hb⟩
  replace HS : Hid _ := HS.out.next hb
  clear hb
  obtain ⟨V, hV⟩ : ∃ V, V = W4.alloc (.cells #[.int .u16 (f : Int), .int .u16 (t : Int), .int .u64 (c : Int), .int .u64 0, nilV] 61) := ⟨_, rfl⟩
  obtain ⟨g, hg⟩ : ∃ g, g = W4.heap.size := ⟨_, rfl⟩
  replace HS : Hid (Sx w V (.cells #[.int .u16 0, .int .u16 0, .int .u64 0, .int .u64 0, nilV] 61 (0, 0)) g #[.int .u16 (f : Int), .int .u16 (t : Int), .int .u64 (c : Int), .int .u64 0, nilV] 61) := by show Sx _ _ _ _ _ _; rw [hV, hg]; exact HS.out.box _ _
  have hgn : ¬ (g = w.heap.size) := by have := HS.out.gl; omega
  have hgm : ¬ (w.heap.size = g) := by have := HS.out.gl; omega
  go_wp2_with fail
  rw [← hV, ← hg]
  clear hV hg
  refine (rvalueA b off cap n 16 8 l _ (HC.out.later HS.out.bel) HN (by omega) (by decide) (by decide) (by decide) o HXo.out).mono ?_
  rintro e W5 ⟨rfl, hb⟩
  replace HS : Hid _ := HS.out.next hb
  clear hb
  have c23 := blk_at HS.out.b2 3
  have f23 := blk_free HS.out.b2 3
  simp at c23
  go_wp2_with fail
  replace HS : Hid _ := HS.out.put 3 (.int .u64 (o : Int)) (cs' := #[.int .u16 (f : Int), .int .u16 (t : Int), .int .u64 (c : Int), .int .u64 (o : Int), nilV]) rfl
  clear c23 f23
  refine (rvalueA b off cap n 24 8 l _ (HC.out.later HS.out.bel) HN (by omega) (by decide) (by decide) (by decide) k HXk.out).mono ?_
  rintro e W6 ⟨rfl, hb⟩
  replace HS : Hid _ := HS.out.next hb
  clear hb
  go_wp2_with fail
  refine (rtail_long _ cap n 32 k most _ hm4 hlong).mono ?_
  rintro e W7 ⟨rfl, hb⟩
  replace HS : Hid _ := HS.out.next hb
  clear hb
  have c20 := blk_at HS.out.b2 0
  have f20 := blk_free HS.out.b2 0
  have c21 := blk_at HS.out.b2 1
  have f21 := blk_free HS.out.b2 1
  have c22 := blk_at HS.out.b2 2
  have f22 := blk_free HS.out.b2 2
  have c23 := blk_at HS.out.b2 3
  have f23 := blk_free HS.out.b2 3
  have c24 := blk_at HS.out.b2 4
  have f24 := blk_free HS.out.b2 4
  simp at c20 c21 c22 c23 c24
  have c00 := blk_at HS.out.b0 0
  have f00 := blk_free HS.out.b0 0
  have c01 := blk_at HS.out.b0 1
  have f01 := blk_free HS.out.b0 1
  have c02 := blk_at HS.out.b0 2
  have f02 := blk_free HS.out.b0 2
  have c03 := blk_at HS.out.b0 3
  have f03 := blk_free HS.out.b0 3
  have c04 := blk_at HS.out.b0 4
  have f04 := blk_free HS.out.b0 4
  simp at c00 c01 c02 c03 c04
  go_wp2
  obtain ⟨HG, HB2⟩ := closenb5 HS.out.b0 HS.out.bel (.int .u16 (f : Int)) (.int .u16 (t : Int)) (.int .u64 (c : Int)) (.int .u64 (o : Int)) (nilV)
  generalize (((((W7.setCell ⟨w.heap.size, 0, none⟩ (.int .u16 (f : Int))).setCell ⟨w.heap.size, 1, none⟩ (.int .u16 (t : Int))).setCell ⟨w.heap.size, 2, none⟩ (.int .u64 (c : Int))).setCell ⟨w.heap.size, 3, none⟩ (.int .u64 (o : Int))).setCell ⟨w.heap.size, 4, none⟩ (nilV)) = Wz at HG HB2 ⊢
  exact bodyPost_ret (results_cell_tmp2 rfl _ Wz w.heap.size 61 #[.int .u16 (f : Int), .int .u16 (t : Int), .int .u64 (c : Int), .int .u64 (o : Int), nilV] (0, 0) _ rfl HG Tryd.underlying61 rfl infoChk) rfl ⟨none, 0, rfl, row_nil w Wz HB2⟩
set_option maxHeartbeats 8000000 in
theorem rdecChunk1_short2 (b off cap n : Nat) (l : List Nat) (most : Nat) (f t c o k : Nat) (w : World) (h : CRow w (some ⟨b, off, none⟩) cap l) (HN : Hid (l.length = n)) (hs : 32 ≤ n) (HX0 : Hid (valB ((l.drop 0).take 4) = mChunk64)) (HX1 : Hid (valB ((l.drop 4).take 2) = f)) (HX2 : Hid (valB ((l.drop 6).take 2) = t)) (HX3 : Hid (valB ((l.drop 8).take 8) = c)) (HX4 : Hid (valB ((l.drop 16).take 8) = o)) (HX5 : Hid (valB ((l.drop 24).take 8) = k)) (hk64 : k < 18446744073709551616) (hm4 : most < 4294967296) (hle : k ≤ most) (hsh : n - 32 < k) (N : Nat) (hN : 32 + k = N) :
    Calls Tryd.prog 52 #[.slice (some ⟨b, off, none⟩) n cap, .int .u32 (most : Int), .bool true] w fun e w' => e = .returned (.tuple #[.agg #[.int .u16 0, .int .u16 0, .int .u64 0, .int .u64 0, nilV], .int .i64 (N : Int), .int .i64 10]) ∧ Below w.heap.size w w' := by
  have HXf : Hid (vl l 4 2 = f) := HX1
  have HXt : Hid (vl l 6 2 = t) := HX2
  have HXc : Hid (vl l 8 8 = c) := HX3
  have HXo : Hid (vl l 16 8 = o) := HX4
  have HXk : Hid (vl l 24 8 = k) := HX5
  obtain ⟨W0, hW0⟩ : ∃ W0, W0 = w.alloc (.cells #[.int .u16 0, .int .u16 0, .int .u64 0, .int .u64 0, nilV] 61) := ⟨_, rfl⟩
  have HS : Hid (Sb w W0 (.cells #[.int .u16 0, .int .u16 0, .int .u64 0, .int .u64 0, nilV] 61 (0, 0))) := by show Sb _ _ _; rw [hW0]; exact Sb.new w _ _
  have hnl := h.row.len
  rw [HN.out] at hnl
  have hc1 := h.cap1
  have hc2 := h.cap2
  rw [HN.out] at hc1
  have HC : Hid (CRow w (some ⟨b, off, none⟩) cap l) := h
  clear h
  have hbf : f < 65536 := by have := vl_lt HC.out 4 2; rw [HXf.out] at this; simpa using this
  have hwf : IntKind.u16.wrap (f : Int) = (f : Int) := by rw [show IntKind.u16.wrap (f : Int) = (f : Int) % 65536 by simp [IntKind.wrap, IntKind.bits, IntKind.signed]]; omega
  have hbt : t < 65536 := by have := vl_lt HC.out 6 2; rw [HXt.out] at this; simpa using this
  have hwt : IntKind.u16.wrap (t : Int) = (t : Int) := by rw [show IntKind.u16.wrap (t : Int) = (t : Int) % 65536 by simp [IntKind.wrap, IntKind.bits, IntKind.signed]]; omega
  go_enter Tryd.func52, Tryd.ntmps52
  go_wp2_with fail
  rw [← hW0]
  clear hW0
  refine (rhead_ok b off cap n 32 mChunk64 4 l _ (HC.out.later HS.out.bel) HN hs (by decide) (by decide) (by decide) HX0.out).mono ?_
  rintro e W1 ⟨rfl, hb⟩
  replace HS : Hid _ := HS.out.next hb
  clear hb
  go_wp2_with fail
  refine (rvalueA b off cap n 4 2 l _ (HC.out.later HS.out.bel) HN (by omega) (by decide) (by decide) (by decide) f HXf.out).mono ?_
  rintro e W2 ⟨rfl, hb⟩
  replace HS : Hid _ := HS.out.next hb
  clear hb
  go_wp2_with fail
  refine (rvalueA b off cap n 6 2 l _ (HC.out.later HS.out.bel) HN (by omega) (by decide) (by decide) (by decide) t HXt.out).mono ?_
  rintro e W3 ⟨rfl, hb⟩
  replace HS : Hid _ := HS.out.next hb
  clear hb
  go_wp2_with fail
  refine (rvalueA b off cap n 8 8 l _ (HC.out.later HS.out.bel) HN (by omega) (by decide) (by decide) (by decide) c HXc.out).mono ?_
  rintro e W4 ⟨rfl, hb⟩
  replace HS : Hid _ := HS.out.next hb
  clear hb
  obtain ⟨V, hV⟩ : ∃ V, V = W4.alloc (.cells #[.int .u16 (f : Int), .int .u16 (t : Int), .int .u64 (c : Int), .int .u64 0, nilV] 61) := ⟨_, rfl⟩
  obtain ⟨g, hg⟩ : ∃ g, g = W4.heap.size := ⟨_, rfl⟩
  replace HS : Hid (Sx w V (.cells #[.int .u16 0, .int .u16 0, .int .u64 0, .int .u64 0, nilV] 61 (0, 0)) g #[.int .u16 (f : Int), .int .u16 (t : Int), .int .u64 (c : Int), .int .u64 0, nilV] 61) := by show Sx _ _ _ _ _ _; rw [hV, hg]; exact HS.out.box _ _
  have hgn : ¬ (g = w.heap.size) := by have := HS.out.gl; omega
  have hgm : ¬ (w.heap.size = g) := by have := HS.out.gl; omega
  go_wp2_with fail
  rw [← hV, ← hg]
  clear hV hg
  refine (rvalueA b off cap n 16 8 l _ (HC.out.later HS.out.bel) HN (by omega) (by decide) (by decide) (by decide) o HXo.out).mono ?_
  rintro e W5 ⟨rfl, hb⟩
  replace HS : Hid _ := HS.out.next hb
  clear hb
  have c23 := blk_at HS.out.b2 3
  have f23 := blk_free HS.out.b2 3
  simp at c23
  go_wp2_with fail
  replace HS : Hid _ := HS.out.put 3 (.int .u64 (o : Int)) (cs' := #[.int .u16 (f : Int), .int .u16 (t : Int), .int .u64 (c : Int), .int .u64 (o : Int), nilV]) rfl
  clear c23 f23
  refine (rvalueA b off cap n 24 8 l _ (HC.out.later HS.out.bel) HN (by omega) (by decide) (by decide) (by decide) k HXk.out).mono ?_
  rintro e W6 ⟨rfl, hb⟩
  replace HS : Hid _ := HS.out.next hb
  clear hb
  go_wp2_with fail
  refine (rtail_short _ cap n 32 k most N _ hm4 hle hnl (by decide) hN (by omega)).mono ?_
  rintro e W7 ⟨rfl, hb⟩
  replace HS : Hid _ := HS.out.next hb
  clear hb
  have c00 := blk_at HS.out.b0 0
  have f00 := blk_free HS.out.b0 0
  have c01 := blk_at HS.out.b0 1
  have f01 := blk_free HS.out.b0 1
  have c02 := blk_at HS.out.b0 2
  have f02 := blk_free HS.out.b0 2
  have c03 := blk_at HS.out.b0 3
  have f03 := blk_free HS.out.b0 3
  have c04 := blk_at HS.out.b0 4
  have f04 := blk_free HS.out.b0 4
  simp at c00 c01 c02 c03 c04
  go_wp2
  obtain ⟨HG, HB2⟩ := closenb5 HS.out.b0 HS.out.bel (.int .u16 0) (.int .u16 0) (.int .u64 0) (.int .u64 0) (nilV)
  generalize (((((W7.setCell ⟨w.heap.size, 0, none⟩ (.int .u16 0)).setCell ⟨w.heap.size, 1, none⟩ (.int .u16 0)).setCell ⟨w.heap.size, 2, none⟩ (.int .u64 0)).setCell ⟨w.heap.size, 3, none⟩ (.int .u64 0)).setCell ⟨w.heap.size, 4, none⟩ (nilV)) = Wz at HG HB2 ⊢
  exact bodyPost_ret (results_cell_tmp2 rfl _ Wz w.heap.size 61 #[.int .u16 0, .int .u16 0, .int .u64 0, .int .u64 0, nilV] (0, 0) _ rfl HG Tryd.underlying61 rfl infoChk) rfl ⟨rfl, HB2⟩
set_option maxHeartbeats 8000000 in
theorem rdecChunk1_ok0 (b off cap n : Nat) (l : List Nat) (most : Nat) (f t c o k : Nat) (w : World) (h : CRow w (some ⟨b, off, none⟩) cap l) (HN : Hid (l.length = n)) (hs : 32 ≤ n) (HX0 : Hid (valB ((l.drop 0).take 4) = mChunk64)) (HX1 : Hid (valB ((l.drop 4).take 2) = f)) (HX2 : Hid (valB ((l.drop 6).take 2) = t)) (HX3 : Hid (valB ((l.drop 8).take 8) = c)) (HX4 : Hid (valB ((l.drop 16).take 8) = o)) (HX5 : Hid (valB ((l.drop 24).take 8) = k)) (hk64 : k < 18446744073709551616) (hm4 : most < 4294967296) (hle : k ≤ most) (hfit : k ≤ n - 32) (N : Nat) (hN : 32 + k = N) (m : List Nat) (hm : (l.drop 32).take k = m) (hce : cap = 32) :
    Calls Tryd.prog 52 #[.slice (some ⟨b, off, none⟩) n cap, .int .u32 (most : Int), .bool true] w fun e w' => ∃ ao2 cap2, e = .returned (.tuple #[.agg #[.int .u16 (f : Int), .int .u16 (t : Int), .int .u64 (c : Int), .int .u64 (o : Int), .slice ao2 k cap2], .int .i64 (N : Int), .int .i64 0]) ∧ w'.ownsRow w.heap.size 5 1 (.slice ao2 k cap2) k (m.map bv) ∧ Below w.heap.size w w' := by
  have HXf : Hid (vl l 4 2 = f) := HX1
  have HXt : Hid (vl l 6 2 = t) := HX2
  have HXc : Hid (vl l 8 8 = c) := HX3
  have HXo : Hid (vl l 16 8 = o) := HX4
  have HXk : Hid (vl l 24 8 = k) := HX5
  obtain ⟨W0, hW0⟩ : ∃ W0, W0 = w.alloc (.cells #[.int .u16 0, .int .u16 0, .int .u64 0, .int .u64 0, nilV] 61) := ⟨_, rfl⟩
  have HS : Hid (Sb w W0 (.cells #[.int .u16 0, .int .u16 0, .int .u64 0, .int .u64 0, nilV] 61 (0, 0))) := by show Sb _ _ _; rw [hW0]; exact Sb.new w _ _
  have hnl := h.row.len
  rw [HN.out] at hnl
  have hc1 := h.cap1
  have hc2 := h.cap2
  rw [HN.out] at hc1
  have HC : Hid (CRow w (some ⟨b, off, none⟩) cap l) := h
  clear h
  have hbf : f < 65536 := by have := vl_lt HC.out 4 2; rw [HXf.out] at this; simpa using this
  have hwf : IntKind.u16.wrap (f : Int) = (f : Int) := by rw [show IntKind.u16.wrap (f : Int) = (f : Int) % 65536 by simp [IntKind.wrap, IntKind.bits, IntKind.signed]]; omega
  have hbt : t < 65536 := by have := vl_lt HC.out 6 2; rw [HXt.out] at this; simpa using this
  have hwt : IntKind.u16.wrap (t : Int) = (t : Int) := by rw [show IntKind.u16.wrap (t : Int) = (t : Int) % 65536 by simp [IntKind.wrap, IntKind.bits, IntKind.signed]]; omega
  have hlen : m.length = k := by rw [← hm, List.length_take, List.length_drop, HN.out]; omega
  have HM : Hid ((l.drop 32).take k = m ∧ m.length = k) := ⟨hm, hlen⟩
  clear hm hlen
  obtain rfl : n = 32 := by omega
  obtain rfl : k = 0 := by omega
  obtain rfl : N = 32 := by omega
  subst hce
  go_enter Tryd.func52, Tryd.ntmps52
  go_wp2_with fail
  rw [← hW0]
  clear hW0
  refine (rhead_ok b off 32 32 32 mChunk64 4 l _ (HC.out.later HS.out.bel) HN hs (by decide) (by decide) (by decide) HX0.out).mono ?_
  rintro e W1 ⟨rfl, hb⟩
  replace HS : Hid _ := HS.out.next hb
  clear hb
  go_wp2_with fail
  refine (rvalueA b off 32 32 4 2 l _ (HC.out.later HS.out.bel) HN (by omega) (by decide) (by decide) (by decide) f HXf.out).mono ?_
  rintro e W2 ⟨rfl, hb⟩
  replace HS : Hid _ := HS.out.next hb
  clear hb
  go_wp2_with fail
  refine (rvalueA b off 32 32 6 2 l _ (HC.out.later HS.out.bel) HN (by omega) (by decide) (by decide) (by decide) t HXt.out).mono ?_
  rintro e W3 ⟨rfl, hb⟩
  replace HS : Hid _ := HS.out.next hb
  clear hb
  go_wp2_with fail
  refine (rvalueA b off 32 32 8 8 l _ (HC.out.later HS.out.bel) HN (by omega) (by decide) (by decide) (by decide) c HXc.out).mono ?_
  rintro e W4 ⟨rfl, hb⟩
  replace HS : Hid _ := HS.out.next hb
  clear hb
  obtain ⟨V, hV⟩ : ∃ V, V = W4.alloc (.cells #[.int .u16 (f : Int), .int .u16 (t : Int), .int .u64 (c : Int), .int .u64 0, nilV] 61) := ⟨_, rfl⟩
  obtain ⟨g, hg⟩ : ∃ g, g = W4.heap.size := ⟨_, rfl⟩
  replace HS : Hid (Sx w V (.cells #[.int .u16 0, .int .u16 0, .int .u64 0, .int .u64 0, nilV] 61 (0, 0)) g #[.int .u16 (f : Int), .int .u16 (t : Int), .int .u64 (c : Int), .int .u64 0, nilV] 61) := by show Sx _ _ _ _ _ _; rw [hV, hg]; exact HS.out.box _ _
  have hgn : ¬ (g = w.heap.size) := by have := HS.out.gl; omega
  have hgm : ¬ (w.heap.size = g) := by have := HS.out.gl; omega
  go_wp2_with fail
  rw [← hV, ← hg]
  clear hV hg
  refine (rvalueA b off 32 32 16 8 l _ (HC.out.later HS.out.bel) HN (by omega) (by decide) (by decide) (by decide) o HXo.out).mono ?_
  rintro e W5 ⟨rfl, hb⟩
  replace HS : Hid _ := HS.out.next hb
  clear hb
  have c23 := blk_at HS.out.b2 3
  have f23 := blk_free HS.out.b2 3
  simp at c23
  go_wp2_with fail
  replace HS : Hid _ := HS.out.put 3 (.int .u64 (o : Int)) (cs' := #[.int .u16 (f : Int), .int .u16 (t : Int), .int .u64 (c : Int), .int .u64 (o : Int), nilV]) rfl
  clear c23 f23
  refine (rvalueA b off 32 32 24 8 l _ (HC.out.later HS.out.bel) HN (by omega) (by decide) (by decide) (by decide) 0 HXk.out).mono ?_
  rintro e W6 ⟨rfl, hb⟩
  replace HS : Hid _ := HS.out.next hb
  clear hb
  go_wp2_with fail
  refine (rtail_ok _ 32 32 32 0 most 32 _ hm4 (Nat.zero_le _) hnl (by decide) rfl (Nat.le_refl _)).mono ?_
  rintro e W7 ⟨rfl, hb⟩
  replace HS : Hid _ := HS.out.next hb
  clear hb
  go_wp2_with fail
  have HBb : Hid (g < W7.heap.size ∧ w.heap.size < W7.heap.size) := ⟨block_lt HS.out.b2, block_lt HS.out.b0⟩
  refine (copyN (some ⟨b, off, none⟩) 0 0 [] _ ⟨by simp, by simp, (fun e => by cases e), fun h => absurd rfl h⟩ rfl).mono ?_
  rintro e W8 ⟨ao2, cap2, rfl, ho, hb⟩
  replace HS : Hid _ := HS.out.next hb
  have HO : Hid (W8.ownsRow W7.heap.size 5 1 (.slice ao2 0 cap2) 0 ([].map bv)) := ho
  clear hb ho
  have c20 := blk_at HS.out.b2 0
  have f20 := blk_free HS.out.b2 0
  have c21 := blk_at HS.out.b2 1
  have f21 := blk_free HS.out.b2 1
  have c22 := blk_at HS.out.b2 2
  have f22 := blk_free HS.out.b2 2
  have c23 := blk_at HS.out.b2 3
  have f23 := blk_free HS.out.b2 3
  have c24 := blk_at HS.out.b2 4
  have f24 := blk_free HS.out.b2 4
  simp at c20 c21 c22 c23 c24
  have c00 := blk_at HS.out.b0 0
  have f00 := blk_free HS.out.b0 0
  have c01 := blk_at HS.out.b0 1
  have f01 := blk_free HS.out.b0 1
  have c02 := blk_at HS.out.b0 2
  have f02 := blk_free HS.out.b0 2
  have c03 := blk_at HS.out.b0 3
  have f03 := blk_free HS.out.b0 3
  have c04 := blk_at HS.out.b0 4
  have f04 := blk_free HS.out.b0 4
  simp at c00 c01 c02 c03 c04
  go_wp2
  replace HS : Hid _ := HS.out.put 4 (.slice ao2 0 cap2) (cs' := #[.int .u16 (f : Int), .int .u16 (t : Int), .int .u64 (c : Int), .int .u64 (o : Int), .slice ao2 0 cap2]) rfl
  have HO1 : (W8.setCell ⟨g, 4, none⟩ (.slice ao2 0 cap2)).ownsRow W7.heap.size 5 1 (.slice ao2 0 cap2) 0 ([].map bv) := owns_same HO.out fun x hx => Below.heap_setCell _ _ _ _ (by have := (owns_lt HO.out x hx).2; have := HBb.out; show x ≠ g; omega)
  generalize W8.setCell ⟨g, 4, none⟩ (.slice ao2 0 cap2) = Wy at HS HO1 ⊢
  obtain ⟨HG, HB2, HO2⟩ := closen5 HS.out.b0 HS.out.bel HO1 (by have := HBb.out; omega) (.int .u16 (f : Int)) (.int .u16 (t : Int)) (.int .u64 (c : Int)) (.int .u64 (o : Int)) (.slice ao2 0 cap2)
  generalize (((((Wy.setCell ⟨w.heap.size, 0, none⟩ (.int .u16 (f : Int))).setCell ⟨w.heap.size, 1, none⟩ (.int .u16 (t : Int))).setCell ⟨w.heap.size, 2, none⟩ (.int .u64 (c : Int))).setCell ⟨w.heap.size, 3, none⟩ (.int .u64 (o : Int))).setCell ⟨w.heap.size, 4, none⟩ (.slice ao2 0 cap2)) = Wz at HG HB2 HO2 ⊢
  exact bodyPost_ret (results_cell_tmp2 rfl _ Wz w.heap.size 61 #[.int .u16 (f : Int), .int .u16 (t : Int), .int .u64 (c : Int), .int .u64 (o : Int), .slice ao2 0 cap2] (0, 0) _ rfl HG Tryd.underlying61 rfl infoChk) rfl ⟨_, _, rfl, by have e : m = [] := List.eq_nil_of_length_eq_zero HM.out.2; rw [e]; exact owns_mono HO2 (by have := HBb.out; omega), HB2⟩
set_option maxHeartbeats 8000000 in
theorem rdecChunk1_ok1 (b off cap n : Nat) (l : List Nat) (most : Nat) (f t c o k : Nat) (w : World) (h : CRow w (some ⟨b, off, none⟩) cap l) (HN : Hid (l.length = n)) (hs : 32 ≤ n) (HX0 : Hid (valB ((l.drop 0).take 4) = mChunk64)) (HX1 : Hid (valB ((l.drop 4).take 2) = f)) (HX2 : Hid (valB ((l.drop 6).take 2) = t)) (HX3 : Hid (valB ((l.drop 8).take 8) = c)) (HX4 : Hid (valB ((l.drop 16).take 8) = o)) (HX5 : Hid (valB ((l.drop 24).take 8) = k)) (hk64 : k < 18446744073709551616) (hm4 : most < 4294967296) (hle : k ≤ most) (hfit : k ≤ n - 32) (N : Nat) (hN : 32 + k = N) (m : List Nat) (hm : (l.drop 32).take k = m) (hce : ¬ cap = 32) :
    Calls Tryd.prog 52 #[.slice (some ⟨b, off, none⟩) n cap, .int .u32 (most : Int), .bool true] w fun e w' => ∃ ao2 cap2, e = .returned (.tuple #[.agg #[.int .u16 (f : Int), .int .u16 (t : Int), .int .u64 (c : Int), .int .u64 (o : Int), .slice ao2 k cap2], .int .i64 (N : Int), .int .i64 0]) ∧ w'.ownsRow w.heap.size 5 1 (.slice ao2 k cap2) k (m.map bv) ∧ Below w.heap.size w w' := by
  have HXf : Hid (vl l 4 2 = f) := HX1
  have HXt : Hid (vl l 6 2 = t) := HX2
  have HXc : Hid (vl l 8 8 = c) := HX3
  have HXo : Hid (vl l 16 8 = o) := HX4
  have HXk : Hid (vl l 24 8 = k) := HX5
  obtain ⟨W0, hW0⟩ : ∃ W0, W0 = w.alloc (.cells #[.int .u16 0, .int .u16 0, .int .u64 0, .int .u64 0, nilV] 61) := ⟨_, rfl⟩
  have HS : Hid (Sb w W0 (.cells #[.int .u16 0, .int .u16 0, .int .u64 0, .int .u64 0, nilV] 61 (0, 0))) := by show Sb _ _ _; rw [hW0]; exact Sb.new w _ _
  have hnl := h.row.len
  rw [HN.out] at hnl
  have hc1 := h.cap1
  have hc2 := h.cap2
  rw [HN.out] at hc1
  have HC : Hid (CRow w (some ⟨b, off, none⟩) cap l) := h
  clear h
  have hbf : f < 65536 := by have := vl_lt HC.out 4 2; rw [HXf.out] at this; simpa using this
  have hwf : IntKind.u16.wrap (f : Int) = (f : Int) := by rw [show IntKind.u16.wrap (f : Int) = (f : Int) % 65536 by simp [IntKind.wrap, IntKind.bits, IntKind.signed]]; omega
  have hbt : t < 65536 := by have := vl_lt HC.out 6 2; rw [HXt.out] at this; simpa using this
  have hwt : IntKind.u16.wrap (t : Int) = (t : Int) := by rw [show IntKind.u16.wrap (t : Int) = (t : Int) % 65536 by simp [IntKind.wrap, IntKind.bits, IntKind.signed]]; omega
  have hlen : m.length = k := by rw [← hm, List.length_take, List.length_drop, HN.out]; omega
  have HM : Hid ((l.drop 32).take k = m ∧ m.length = k) := ⟨hm, hlen⟩
  clear hm hlen
  have q1 : (N : Int) ≤ (cap : Int) := by omega
  have q2 : (32 : Int) ≤ (N : Int) := by omega
  have q3 : N - 32 = k := by omega
  have q4 : ((N : Int) - 32).toNat = k := by omega
  have q5 : 32 ≤ N := by omega
  have q6 : N ≤ cap := by omega
  go_enter Tryd.func52, Tryd.ntmps52
  go_wp2_with fail
  rw [← hW0]
  clear hW0
  refine (rhead_ok b off cap n 32 mChunk64 4 l _ (HC.out.later HS.out.bel) HN hs (by decide) (by decide) (by decide) HX0.out).mono ?_
  rintro e W1 ⟨rfl, hb⟩
  replace HS : Hid _ := HS.out.next hb
  clear hb
  go_wp2_with fail
  refine (rvalueA b off cap n 4 2 l _ (HC.out.later HS.out.bel) HN (by omega) (by decide) (by decide) (by decide) f HXf.out).mono ?_
  rintro e W2 ⟨rfl, hb⟩
  replace HS : Hid _ := HS.out.next hb
  clear hb
  go_wp2_with fail
  refine (rvalueA b off cap n 6 2 l _ (HC.out.later HS.out.bel) HN (by omega) (by decide) (by decide) (by decide) t HXt.out).mono ?_
  rintro e W3 ⟨rfl, hb⟩
  replace HS : Hid _ := HS.out.next hb
  clear hb
  go_wp2_with fail
  refine (rvalueA b off cap n 8 8 l _ (HC.out.later HS.out.bel) HN (by omega) (by decide) (by decide) (by decide) c HXc.out).mono ?_
  rintro e W4 ⟨rfl, hb⟩
  replace HS : Hid _ := HS.out.next hb
  clear hb
  obtain ⟨V, hV⟩ : ∃ V, V = W4.alloc (.cells #[.int .u16 (f : Int), .int .u16 (t : Int), .int .u64 (c : Int), .int .u64 0, nilV] 61) := ⟨_, rfl⟩
  obtain ⟨g, hg⟩ : ∃ g, g = W4.heap.size := ⟨_, rfl⟩
  replace HS : Hid (Sx w V (.cells #[.int .u16 0, .int .u16 0, .int .u64 0, .int .u64 0, nilV] 61 (0, 0)) g #[.int .u16 (f : Int), .int .u16 (t : Int), .int .u64 (c : Int), .int .u64 0, nilV] 61) := by show Sx _ _ _ _ _ _; rw [hV, hg]; exact HS.out.box _ _
  have hgn : ¬ (g = w.heap.size) := by have := HS.out.gl; omega
  have hgm : ¬ (w.heap.size = g) := by have := HS.out.gl; omega
  go_wp2_with fail
  rw [← hV, ← hg]
  clear hV hg
  refine (rvalueA b off cap n 16 8 l _ (HC.out.later HS.out.bel) HN (by omega) (by decide) (by decide) (by decide) o HXo.out).mono ?_
  rintro e W5 ⟨rfl, hb⟩
  replace HS : Hid _ := HS.out.next hb
  clear hb
  have c23 := blk_at HS.out.b2 3
  have f23 := blk_free HS.out.b2 3
  simp at c23
  go_wp2_with fail
  replace HS : Hid _ := HS.out.put 3 (.int .u64 (o : Int)) (cs' := #[.int .u16 (f : Int), .int .u16 (t : Int), .int .u64 (c : Int), .int .u64 (o : Int), nilV]) rfl
  clear c23 f23
  refine (rvalueA b off cap n 24 8 l _ (HC.out.later HS.out.bel) HN (by omega) (by decide) (by decide) (by decide) k HXk.out).mono ?_
  rintro e W6 ⟨rfl, hb⟩
  replace HS : Hid _ := HS.out.next hb
  clear hb
  go_wp2_with fail
  refine (rtail_ok _ cap n 32 k most N _ hm4 hle hnl (by decide) hN (by omega)).mono ?_
  rintro e W7 ⟨rfl, hb⟩
  replace HS : Hid _ := HS.out.next hb
  clear hb
  go_wp2_with fail
  have HBb : Hid (g < W7.heap.size ∧ w.heap.size < W7.heap.size) := ⟨block_lt HS.out.b2, block_lt HS.out.b0⟩
  refine (copyN (some ⟨b, off + 32, none⟩) (cap - 32) k m _ (by have := part_brow (HC.out.later HS.out.bel) 32 k (cap - 32); rw [HM.out.1] at this; exact this) HM.out.2).mono ?_
  rintro e W8 ⟨ao2, cap2, rfl, ho, hb⟩
  replace HS : Hid _ := HS.out.next hb
  have HO : Hid (W8.ownsRow W7.heap.size 5 1 (.slice ao2 k cap2) k (m.map bv)) := ho
  clear hb ho
  have c20 := blk_at HS.out.b2 0
  have f20 := blk_free HS.out.b2 0
  have c21 := blk_at HS.out.b2 1
  have f21 := blk_free HS.out.b2 1
  have c22 := blk_at HS.out.b2 2
  have f22 := blk_free HS.out.b2 2
  have c23 := blk_at HS.out.b2 3
  have f23 := blk_free HS.out.b2 3
  have c24 := blk_at HS.out.b2 4
  have f24 := blk_free HS.out.b2 4
  simp at c20 c21 c22 c23 c24
  have c00 := blk_at HS.out.b0 0
  have f00 := blk_free HS.out.b0 0
  have c01 := blk_at HS.out.b0 1
  have f01 := blk_free HS.out.b0 1
  have c02 := blk_at HS.out.b0 2
  have f02 := blk_free HS.out.b0 2
  have c03 := blk_at HS.out.b0 3
  have f03 := blk_free HS.out.b0 3
  have c04 := blk_at HS.out.b0 4
  have f04 := blk_free HS.out.b0 4
  simp at c00 c01 c02 c03 c04
  go_wp2
  replace HS : Hid _ := HS.out.put 4 (.slice ao2 k cap2) (cs' := #[.int .u16 (f : Int), .int .u16 (t : Int), .int .u64 (c : Int), .int .u64 (o : Int), .slice ao2 k cap2]) rfl
  have HO1 : (W8.setCell ⟨g, 4, none⟩ (.slice ao2 k cap2)).ownsRow W7.heap.size 5 1 (.slice ao2 k cap2) k (m.map bv) := owns_same HO.out fun x hx => Below.heap_setCell _ _ _ _ (by have := (owns_lt HO.out x hx).2; have := HBb.out; show x ≠ g; omega)
  generalize W8.setCell ⟨g, 4, none⟩ (.slice ao2 k cap2) = Wy at HS HO1 ⊢
  obtain ⟨HG, HB2, HO2⟩ := closen5 HS.out.b0 HS.out.bel HO1 (by have := HBb.out; omega) (.int .u16 (f : Int)) (.int .u16 (t : Int)) (.int .u64 (c : Int)) (.int .u64 (o : Int)) (.slice ao2 k cap2)
  generalize (((((Wy.setCell ⟨w.heap.size, 0, none⟩ (.int .u16 (f : Int))).setCell ⟨w.heap.size, 1, none⟩ (.int .u16 (t : Int))).setCell ⟨w.heap.size, 2, none⟩ (.int .u64 (c : Int))).setCell ⟨w.heap.size, 3, none⟩ (.int .u64 (o : Int))).setCell ⟨w.heap.size, 4, none⟩ (.slice ao2 k cap2)) = Wz at HG HB2 HO2 ⊢
  exact bodyPost_ret (results_cell_tmp2 rfl _ Wz w.heap.size 61 #[.int .u16 (f : Int), .int .u16 (t : Int), .int .u64 (c : Int), .int .u64 (o : Int), .slice ao2 k cap2] (0, 0) _ rfl HG Tryd.underlying61 rfl infoChk) rfl ⟨_, _, rfl, owns_mono HO2 (by have := HBb.out; omega), HB2⟩
theorem rdecChunk1_ok (b off cap n : Nat) (l : List Nat) (most : Nat) (f t c o k : Nat) (w : World) (h : CRow w (some ⟨b, off, none⟩) cap l) (HN : Hid (l.length = n)) (hs : 32 ≤ n) (HX0 : Hid (valB ((l.drop 0).take 4) = mChunk64)) (HX1 : Hid (valB ((l.drop 4).take 2) = f)) (HX2 : Hid (valB ((l.drop 6).take 2) = t)) (HX3 : Hid (valB ((l.drop 8).take 8) = c)) (HX4 : Hid (valB ((l.drop 16).take 8) = o)) (HX5 : Hid (valB ((l.drop 24).take 8) = k)) (hk64 : k < 18446744073709551616) (hm4 : most < 4294967296) (hle : k ≤ most) (hfit : k ≤ n - 32) (N : Nat) (hN : 32 + k = N) (m : List Nat) (hm : (l.drop 32).take k = m) :
    Calls Tryd.prog 52 #[.slice (some ⟨b, off, none⟩) n cap, .int .u32 (most : Int), .bool true] w fun e w' => ∃ ao2 cap2, e = .returned (.tuple #[.agg #[.int .u16 (f : Int), .int .u16 (t : Int), .int .u64 (c : Int), .int .u64 (o : Int), .slice ao2 k cap2], .int .i64 (N : Int), .int .i64 0]) ∧ w'.ownsRow w.heap.size 5 1 (.slice ao2 k cap2) k (m.map bv) ∧ Below w.heap.size w w' := by
  by_cases hce : cap = 32
  · exact rdecChunk1_ok0 b off cap n l most f t c o k w h HN hs HX0 HX1 HX2 HX3 HX4 HX5 hk64 hm4 hle hfit N hN m hm hce
  · exact rdecChunk1_ok1 b off cap n l most f t c o k w h HN hs HX0 HX1 HX2 HX3 HX4 HX5 hk64 hm4 hle hfit N hN m hm hce
end Go.Proofs.YtjhickfjagalfaaDoor
