import Derived.Test.YtjhickfjagalfaaDoorV36
namespace Go.Proofs.YtjhickfjagalfaaDoor
open Go.RowKit
set_option linter.unusedVariables false
set_option linter.unusedSimpArgs false
set_option maxRecDepth 100000
set_option maxHeartbeats 4000000 in
theorem rdecReply_short (ao : Option Addr) (cap n : Nat) (most : Nat) (w : World) (h : n < 20) :
    Calls Tryd.prog 46 #[.slice ao n cap, .int .u32 (most : Int)] w fun e w' => e = .returned (.tuple #[.agg #[.int .u32 0, .int .u32 0, nilV], .int .i64 20, .int .i64 10]) ∧ Below w.heap.size w w' := by
  obtain ⟨W0, hW0⟩ : ∃ W0, W0 = w.alloc (.cells #[.int .u32 0, .int .u32 0, nilV] 57) := ⟨_, rfl⟩
  have HS : Hid (Sb w W0 (.cells #[.int .u32 0, .int .u32 0, nilV] 57 (0, 0))) := by show Sb _ _ _; rw [hW0]; exact Sb.new w _ _
  go_enter Tryd.func46, Tryd.ntmps46
  go_wp2_with fail
  rw [← hW0]
  clear hW0
  refine (rhead_short ao cap n 20 _ _ _ h).mono ?_
  rintro e W1 ⟨rfl, hb⟩
  replace HS : Hid _ := HS.out.next hb
  clear hb
  have c00 := blk_at HS.out.b0 0
  have f00 := blk_free HS.out.b0 0
  have c01 := blk_at HS.out.b0 1
  have f01 := blk_free HS.out.b0 1
  have c02 := blk_at HS.out.b0 2
  have f02 := blk_free HS.out.b0 2
  simp at c00 c01 c02
  go_wp2
  obtain ⟨HG, HB2⟩ := closenb3 HS.out.b0 HS.out.bel (.int .u32 0) (.int .u32 0) (nilV)
  generalize (((W1.setCell ⟨w.heap.size, 0, none⟩ (.int .u32 0)).setCell ⟨w.heap.size, 1, none⟩ (.int .u32 0)).setCell ⟨w.heap.size, 2, none⟩ (nilV)) = Wz at HG HB2 ⊢
  exact bodyPost_ret (results_cell_tmp2 rfl _ Wz w.heap.size 57 #[.int .u32 0, .int .u32 0, nilV] (0, 0) _ rfl HG Tryd.underlying57 rfl infoRep) rfl ⟨rfl, HB2⟩
set_option maxHeartbeats 8000000 in
theorem rdecReply_magic (b off cap n : Nat) (l : List Nat) (most : Nat) (x0 : Nat) (w : World) (h : CRow w (some ⟨b, off, none⟩) cap l) (HN : Hid (l.length = n)) (hs : 20 ≤ n) (HX : Hid (valB ((l.drop 0).take 8) = x0)) (hx0 : x0 ≠ mReply) :
    Calls Tryd.prog 46 #[.slice (some ⟨b, off, none⟩) n cap, .int .u32 (most : Int)] w fun e w' => e = .returned (.tuple #[.agg #[.int .u32 0, .int .u32 0, nilV], .int .i64 0, .int .i64 80]) ∧ Below w.heap.size w w' := by
  obtain ⟨W0, hW0⟩ : ∃ W0, W0 = w.alloc (.cells #[.int .u32 0, .int .u32 0, nilV] 57) := ⟨_, rfl⟩
  have HS : Hid (Sb w W0 (.cells #[.int .u32 0, .int .u32 0, nilV] 57 (0, 0))) := by show Sb _ _ _; rw [hW0]; exact Sb.new w _ _
  have hnl := h.row.len
  rw [HN.out] at hnl
  have hc1 := h.cap1
  have hc2 := h.cap2
  rw [HN.out] at hc1
  have HC : Hid (CRow w (some ⟨b, off, none⟩) cap l) := h
  clear h
  go_enter Tryd.func46, Tryd.ntmps46
  go_wp2_with fail
  rw [← hW0]
  clear hW0
  refine (rhead_bad b off cap n 20 mReply 8 l _ (HC.out.later HS.out.bel) HN hs (by decide) (by decide) (by decide) (by show valB _ ≠ _; rw [HX.out]; exact hx0)).mono ?_
  rintro e W1 ⟨rfl, hb⟩
  replace HS : Hid _ := HS.out.next hb
  clear hb
  have c00 := blk_at HS.out.b0 0
  have f00 := blk_free HS.out.b0 0
  have c01 := blk_at HS.out.b0 1
  have f01 := blk_free HS.out.b0 1
  have c02 := blk_at HS.out.b0 2
  have f02 := blk_free HS.out.b0 2
  simp at c00 c01 c02
  go_wp2
  obtain ⟨HG, HB2⟩ := closenb3 HS.out.b0 HS.out.bel (.int .u32 0) (.int .u32 0) (nilV)
  generalize (((W1.setCell ⟨w.heap.size, 0, none⟩ (.int .u32 0)).setCell ⟨w.heap.size, 1, none⟩ (.int .u32 0)).setCell ⟨w.heap.size, 2, none⟩ (nilV)) = Wz at HG HB2 ⊢
  exact bodyPost_ret (results_cell_tmp2 rfl _ Wz w.heap.size 57 #[.int .u32 0, .int .u32 0, nilV] (0, 0) _ rfl HG Tryd.underlying57 rfl infoRep) rfl ⟨rfl, HB2⟩
set_option maxHeartbeats 8000000 in
theorem rdecReply_long (b off cap n : Nat) (l : List Nat) (most : Nat) (c e0 k : Nat) (w : World) (h : CRow w (some ⟨b, off, none⟩) cap l) (HN : Hid (l.length = n)) (hs : 20 ≤ n) (HX : Hid (valB ((l.drop 0).take 8) = mReply)) (HX1 : Hid (valB ((l.drop 8).take 4) = c)) (HX2 : Hid (valB ((l.drop 12).take 4) = e0)) (HX3 : Hid (valB ((l.drop 16).take 4) = k)) (hc4 : c < 4294967296) (he4 : e0 < 4294967296) (hk4 : k < 4294967296) (hm4 : most < 4294967296) (hlong : most < k) :
    Calls Tryd.prog 46 #[.slice (some ⟨b, off, none⟩) n cap, .int .u32 (most : Int)] w fun e w' => ∃ ao2 cap2, e = .returned (.tuple #[.agg #[.int .u32 (c : Int), .int .u32 (e0 : Int), .slice ao2 0 cap2], .int .i64 20, .int .i64 12]) ∧ Row w w' ao2 cap2 [] := by
  have HXc : Hid (vl l 8 4 = c) := HX1
  have HXe0 : Hid (vl l 12 4 = e0) := HX2
  have HXk : Hid (vl l 16 4 = k) := HX3
  obtain ⟨W0, hW0⟩ : ∃ W0, W0 = w.alloc (.cells #[.int .u32 0, .int .u32 0, nilV] 57) := ⟨_, rfl⟩
  have HS : Hid (Sb w W0 (.cells #[.int .u32 0, .int .u32 0, nilV] 57 (0, 0))) := by show Sb _ _ _; rw [hW0]; exact Sb.new w _ _
  have hnl := h.row.len
  rw [HN.out] at hnl
  have hc1 := h.cap1
  have hc2 := h.cap2
  rw [HN.out] at hc1
  have HC : Hid (CRow w (some ⟨b, off, none⟩) cap l) := h
  clear h
  have hbc : c < 4294967296 := by have := vl_lt HC.out 8 4; rw [HXc.out] at this; simpa using this
  have hwc : IntKind.u32.wrap (c : Int) = (c : Int) := by rw [IntKind.wrap_u32]; omega
  have hbe0 : e0 < 4294967296 := by have := vl_lt HC.out 12 4; rw [HXe0.out] at this; simpa using this
  have hwe0 : IntKind.u32.wrap (e0 : Int) = (e0 : Int) := by rw [IntKind.wrap_u32]; omega
  go_enter Tryd.func46, Tryd.ntmps46
  go_wp2_with fail
  rw [← hW0]
  clear hW0
  refine (rhead_ok b off cap n 20 mReply 8 l _ (HC.out.later HS.out.bel) HN hs (by decide) (by decide) (by decide) HX.out).mono ?_
  rintro e W1 ⟨rfl, hb⟩
  replace HS : Hid _ := HS.out.next hb
  clear hb
  go_wp2_with fail
  refine (rvalueA b off cap n 8 4 l _ (HC.out.later HS.out.bel) HN (by omega) (by decide) (by decide) (by decide) c HXc.out).mono ?_
  rintro e W2 ⟨rfl, hb⟩
  replace HS : Hid _ := HS.out.next hb
  clear hb
  go_wp2_with fail
  refine (rvalueA b off cap n 12 4 l _ (HC.out.later HS.out.bel) HN (by omega) (by decide) (by decide) (by decide) e0 HXe0.out).mono ?_
  rintro e W3 ⟨rfl, hb⟩
  replace HS : Hid _ := HS.out.next hb
  clear hb
  obtain ⟨V, hV⟩ : ∃ V, V = W3.alloc (.cells #[.int .u32 (c : Int), .int .u32 (e0 : Int), nilV] 57) := ⟨_, rfl⟩
  obtain ⟨g, hg⟩ : ∃ g, g = W3.heap.size := ⟨_, rfl⟩
  replace HS : Hid (Sx w V (.cells #[.int .u32 0, .int .u32 0, nilV] 57 (0, 0)) g #[.int .u32 (c : Int), .int .u32 (e0 : Int), nilV] 57) := by show Sx _ _ _ _ _ _; rw [hV, hg]; exact HS.out.box _ _
  have hgn : ¬ (g = w.heap.size) := by have := HS.out.gl; omega
  have hgm : ¬ (w.heap.size = g) := by have := HS.out.gl; omega
  go_wp2_with fail
  rw [← hV, ← hg]
  clear hV hg
  refine (rvalueA b off cap n 16 4 l _ (HC.out.later HS.out.bel) HN (by omega) (by decide) (by decide) (by decide) k HXk.out).mono ?_
  rintro e W4 ⟨rfl, hb⟩
  replace HS : Hid _ := HS.out.next hb
  clear hb
  go_wp2_with fail
  refine (rtail_long _ cap n 20 k most _ hm4 hlong).mono ?_
  rintro e W5 ⟨rfl, hb⟩
  replace HS : Hid _ := HS.out.next hb
  clear hb
  have c20 := blk_at HS.out.b2 0
  have f20 := blk_free HS.out.b2 0
  have c21 := blk_at HS.out.b2 1
  have f21 := blk_free HS.out.b2 1
  have c22 := blk_at HS.out.b2 2
  have f22 := blk_free HS.out.b2 2
  simp at c20 c21 c22
  have c00 := blk_at HS.out.b0 0
  have f00 := blk_free HS.out.b0 0
  have c01 := blk_at HS.out.b0 1
  have f01 := blk_free HS.out.b0 1
  have c02 := blk_at HS.out.b0 2
  have f02 := blk_free HS.out.b0 2
  simp at c00 c01 c02
  go_wp2
  obtain ⟨HG, HB2⟩ := closenb3 HS.out.b0 HS.out.bel (.int .u32 (c : Int)) (.int .u32 (e0 : Int)) (nilV)
  generalize (((W5.setCell ⟨w.heap.size, 0, none⟩ (.int .u32 (c : Int))).setCell ⟨w.heap.size, 1, none⟩ (.int .u32 (e0 : Int))).setCell ⟨w.heap.size, 2, none⟩ (nilV)) = Wz at HG HB2 ⊢
  exact bodyPost_ret (results_cell_tmp2 rfl _ Wz w.heap.size 57 #[.int .u32 (c : Int), .int .u32 (e0 : Int), nilV] (0, 0) _ rfl HG Tryd.underlying57 rfl infoRep) rfl ⟨none, 0, rfl, row_nil w Wz HB2⟩
set_option maxHeartbeats 8000000 in
theorem rdecReply_short2 (b off cap n : Nat) (l : List Nat) (most : Nat) (c e0 k : Nat) (w : World) (h : CRow w (some ⟨b, off, none⟩) cap l) (HN : Hid (l.length = n)) (hs : 20 ≤ n) (HX : Hid (valB ((l.drop 0).take 8) = mReply)) (HX1 : Hid (valB ((l.drop 8).take 4) = c)) (HX2 : Hid (valB ((l.drop 12).take 4) = e0)) (HX3 : Hid (valB ((l.drop 16).take 4) = k)) (hc4 : c < 4294967296) (he4 : e0 < 4294967296) (hk4 : k < 4294967296) (hm4 : most < 4294967296) (hle : k ≤ most) (hsh : n - 20 < k) (N : Nat) (hN : 20 + k = N) :
    Calls Tryd.prog 46 #[.slice (some ⟨b, off, none⟩) n cap, .int .u32 (most : Int)] w fun e w' => e = .returned (.tuple #[.agg #[.int .u32 0, .int .u32 0, nilV], .int .i64 (N : Int), .int .i64 10]) ∧ Below w.heap.size w w' := by
  have HXc : Hid (vl l 8 4 = c) := HX1
  have HXe0 : Hid (vl l 12 4 = e0) := HX2
  have HXk : Hid (vl l 16 4 = k) := HX3
  obtain ⟨W0, hW0⟩ : ∃ W0, W0 = w.alloc (.cells #[.int .u32 0, .int .u32 0, nilV] 57) := ⟨_, rfl⟩
  have HS : Hid (Sb w W0 (.cells #[.int .u32 0, .int .u32 0, nilV] 57 (0, 0))) := by show Sb _ _ _; rw [hW0]; exact Sb.new w _ _
  have hnl := h.row.len
  rw [HN.out] at hnl
  have hc1 := h.cap1
  have hc2 := h.cap2
  rw [HN.out] at hc1
  have HC : Hid (CRow w (some ⟨b, off, none⟩) cap l) := h
  clear h
  have hbc : c < 4294967296 := by have := vl_lt HC.out 8 4; rw [HXc.out] at this; simpa using this
  have hwc : IntKind.u32.wrap (c : Int) = (c : Int) := by rw [IntKind.wrap_u32]; omega
  have hbe0 : e0 < 4294967296 := by have := vl_lt HC.out 12 4; rw [HXe0.out] at this; simpa using this
  have hwe0 : IntKind.u32.wrap (e0 : Int) = (e0 : Int) := by rw [IntKind.wrap_u32]; omega
  go_enter Tryd.func46, Tryd.ntmps46
  go_wp2_with fail
  rw [← hW0]
  clear hW0
  refine (rhead_ok b off cap n 20 mReply 8 l _ (HC.out.later HS.out.bel) HN hs (by decide) (by decide) (by decide) HX.out).mono ?_
  rintro e W1 ⟨rfl, hb⟩
  replace HS : Hid _ := HS.out.next hb
  clear hb
  go_wp2_with fail
  refine (rvalueA b off cap n 8 4 l _ (HC.out.later HS.out.bel) HN (by omega) (by decide) (by decide) (by decide) c HXc.out).mono ?_
  rintro e W2 ⟨rfl, hb⟩
  replace HS : Hid _ := HS.out.next hb
  clear hb
  go_wp2_with fail
  refine (rvalueA b off cap n 12 4 l _ (HC.out.later HS.out.bel) HN (by omega) (by decide) (by decide) (by decide) e0 HXe0.out).mono ?_
  rintro e W3 ⟨rfl, hb⟩
  replace HS : Hid _ := HS.out.next hb
  clear hb
  obtain ⟨V, hV⟩ : ∃ V, V = W3.alloc (.cells #[.int .u32 (c : Int), .int .u32 (e0 : Int), nilV] 57) := ⟨_, rfl⟩
  obtain ⟨g, hg⟩ : ∃ g, g = W3.heap.size := ⟨_, rfl⟩
  replace HS : Hid (Sx w V (.cells #[.int .u32 0, .int .u32 0, nilV] 57 (0, 0)) g #[.int .u32 (c : Int), .int .u32 (e0 : Int), nilV] 57) := by show Sx _ _ _ _ _ _; rw [hV, hg]; exact HS.out.box _ _
  have hgn : ¬ (g = w.heap.size) := by have := HS.out.gl; omega
  have hgm : ¬ (w.heap.size = g) := by have := HS.out.gl; omega
  go_wp2_with fail
  rw [← hV, ← hg]
  clear hV hg
  refine (rvalueA b off cap n 16 4 l _ (HC.out.later HS.out.bel) HN (by omega) (by decide) (by decide) (by decide) k HXk.out).mono ?_
  rintro e W4 ⟨rfl, hb⟩
  replace HS : Hid _ := HS.out.next hb
  clear hb
  go_wp2_with fail
  refine (rtail_short _ cap n 20 k most N _ hm4 hle hnl (by decide) hN (by omega)).mono ?_
  rintro e W5 ⟨rfl, hb⟩
  replace HS : Hid _ := HS.out.next hb
  clear hb
  have c00 := blk_at HS.out.b0 0
  have f00 := blk_free HS.out.b0 0
  have c01 := blk_at HS.out.b0 1
  have f01 := blk_free HS.out.b0 1
  have c02 := blk_at HS.out.b0 2
  have f02 := blk_free HS.out.b0 2
  simp at c00 c01 c02
  go_wp2
  obtain ⟨HG, HB2⟩ := closenb3 HS.out.b0 HS.out.bel (.int .u32 0) (.int .u32 0) (nilV)
  generalize (((W5.setCell ⟨w.heap.size, 0, none⟩ (.int .u32 0)).setCell ⟨w.heap.size, 1, none⟩ (.int .u32 0)).setCell ⟨w.heap.size, 2, none⟩ (nilV)) = Wz at HG HB2 ⊢
  exact bodyPost_ret (results_cell_tmp2 rfl _ Wz w.heap.size 57 #[.int .u32 0, .int .u32 0, nilV] (0, 0) _ rfl HG Tryd.underlying57 rfl infoRep) rfl ⟨rfl, HB2⟩
set_option maxHeartbeats 8000000 in
theorem rdecReply_ok0 (b off cap n : Nat) (l : List Nat) (most : Nat) (c e0 k : Nat) (w : World) (h : CRow w (some ⟨b, off, none⟩) cap l) (HN : Hid (l.length = n)) (hs : 20 ≤ n) (HX : Hid (valB ((l.drop 0).take 8) = mReply)) (HX1 : Hid (valB ((l.drop 8).take 4) = c)) (HX2 : Hid (valB ((l.drop 12).take 4) = e0)) (HX3 : Hid (valB ((l.drop 16).take 4) = k)) (hc4 : c < 4294967296) (he4 : e0 < 4294967296) (hk4 : k < 4294967296) (hm4 : most < 4294967296) (hle : k ≤ most) (hfit : k ≤ n - 20) (N : Nat) (hN : 20 + k = N) (m : List Nat) (hm : (l.drop 20).take k = m) (hce : cap = 20) :
    Calls Tryd.prog 46 #[.slice (some ⟨b, off, none⟩) n cap, .int .u32 (most : Int)] w fun e w' => ∃ ao2 cap2, e = .returned (.tuple #[.agg #[.int .u32 (c : Int), .int .u32 (e0 : Int), .slice ao2 k cap2], .int .i64 (N : Int), .int .i64 0]) ∧ w'.ownsRow w.heap.size 5 1 (.slice ao2 k cap2) k (m.map bv) ∧ Below w.heap.size w w' := by
  have HXc : Hid (vl l 8 4 = c) := HX1
  have HXe0 : Hid (vl l 12 4 = e0) := HX2
  have HXk : Hid (vl l 16 4 = k) := HX3
  obtain ⟨W0, hW0⟩ : ∃ W0, W0 = w.alloc (.cells #[.int .u32 0, .int .u32 0, nilV] 57) := ⟨_, rfl⟩
  have HS : Hid (Sb w W0 (.cells #[.int .u32 0, .int .u32 0, nilV] 57 (0, 0))) := by show Sb _ _ _; rw [hW0]; exact Sb.new w _ _
  have hnl := h.row.len
  rw [HN.out] at hnl
  have hc1 := h.cap1
  have hc2 := h.cap2
  rw [HN.out] at hc1
  have HC : Hid (CRow w (some ⟨b, off, none⟩) cap l) := h
  clear h
  have hbc : c < 4294967296 := by have := vl_lt HC.out 8 4; rw [HXc.out] at this; simpa using this
  have hwc : IntKind.u32.wrap (c : Int) = (c : Int) := by rw [IntKind.wrap_u32]; omega
  have hbe0 : e0 < 4294967296 := by have := vl_lt HC.out 12 4; rw [HXe0.out] at this; simpa using this
  have hwe0 : IntKind.u32.wrap (e0 : Int) = (e0 : Int) := by rw [IntKind.wrap_u32]; omega
  have hlen : m.length = k := by rw [← hm, List.length_take, List.length_drop, HN.out]; omega
  have HM : Hid ((l.drop 20).take k = m ∧ m.length = k) := ⟨hm, hlen⟩
  clear hm hlen
  obtain rfl : n = 20 := by omega
  obtain rfl : k = 0 := by omega
  obtain rfl : N = 20 := by omega
  subst hce
  go_enter Tryd.func46, Tryd.ntmps46
  go_wp2_with fail
  rw [← hW0]
  clear hW0
  refine (rhead_ok b off 20 20 20 mReply 8 l _ (HC.out.later HS.out.bel) HN hs (by decide) (by decide) (by decide) HX.out).mono ?_
  rintro e W1 ⟨rfl, hb⟩
  replace HS : Hid _ := HS.out.next hb
  clear hb
  go_wp2_with fail
  refine (rvalueA b off 20 20 8 4 l _ (HC.out.later HS.out.bel) HN (by omega) (by decide) (by decide) (by decide) c HXc.out).mono ?_
  rintro e W2 ⟨rfl, hb⟩
  replace HS : Hid _ := HS.out.next hb
  clear hb
  go_wp2_with fail
  refine (rvalueA b off 20 20 12 4 l _ (HC.out.later HS.out.bel) HN (by omega) (by decide) (by decide) (by decide) e0 HXe0.out).mono ?_
  rintro e W3 ⟨rfl, hb⟩
  replace HS : Hid _ := HS.out.next hb
  clear hb
  obtain ⟨V, hV⟩ : ∃ V, V = W3.alloc (.cells #[.int .u32 (c : Int), .int .u32 (e0 : Int), nilV] 57) := ⟨_, rfl⟩
  obtain ⟨g, hg⟩ : ∃ g, g = W3.heap.size := ⟨_, rfl⟩
  replace HS : Hid (Sx w V (.cells #[.int .u32 0, .int .u32 0, nilV] 57 (0, 0)) g #[.int .u32 (c : Int), .int .u32 (e0 : Int), nilV] 57) := by show Sx _ _ _ _ _ _; rw [hV, hg]; exact HS.out.box _ _
  have hgn : ¬ (g = w.heap.size) := by have := HS.out.gl; omega
  have hgm : ¬ (w.heap.size = g) := by have := HS.out.gl; omega
  go_wp2_with fail
  rw [← hV, ← hg]
  clear hV hg
  refine (rvalueA b off 20 20 16 4 l _ (HC.out.later HS.out.bel) HN (by omega) (by decide) (by decide) (by decide) 0 HXk.out).mono ?_
  rintro e W4 ⟨rfl, hb⟩
  replace HS : Hid _ := HS.out.next hb
  clear hb
  go_wp2_with fail
  refine (rtail_ok _ 20 20 20 0 most 20 _ hm4 (Nat.zero_le _) hnl (by decide) rfl (Nat.le_refl _)).mono ?_
  rintro e W5 ⟨rfl, hb⟩
  replace HS : Hid _ := HS.out.next hb
  clear hb
  go_wp2_with fail
  have HBb : Hid (g < W5.heap.size ∧ w.heap.size < W5.heap.size) := ⟨block_lt HS.out.b2, block_lt HS.out.b0⟩
  refine (copyN (some ⟨b, off, none⟩) 0 0 [] _ ⟨by simp, by simp, (fun e => by cases e), fun h => absurd rfl h⟩ rfl).mono ?_
  rintro e W6 ⟨ao2, cap2, rfl, ho, hb⟩
  replace HS : Hid _ := HS.out.next hb
  have HO : Hid (W6.ownsRow W5.heap.size 5 1 (.slice ao2 0 cap2) 0 ([].map bv)) := ho
  clear hb ho
  have c20 := blk_at HS.out.b2 0
  have f20 := blk_free HS.out.b2 0
  have c21 := blk_at HS.out.b2 1
  have f21 := blk_free HS.out.b2 1
  have c22 := blk_at HS.out.b2 2
  have f22 := blk_free HS.out.b2 2
  simp at c20 c21 c22
  have c00 := blk_at HS.out.b0 0
  have f00 := blk_free HS.out.b0 0
  have c01 := blk_at HS.out.b0 1
  have f01 := blk_free HS.out.b0 1
  have c02 := blk_at HS.out.b0 2
  have f02 := blk_free HS.out.b0 2
  simp at c00 c01 c02
  go_wp2
  replace HS : Hid _ := HS.out.put 2 (.slice ao2 0 cap2) (cs' := #[.int .u32 (c : Int), .int .u32 (e0 : Int), .slice ao2 0 cap2]) rfl
  have HO1 : (W6.setCell ⟨g, 2, none⟩ (.slice ao2 0 cap2)).ownsRow W5.heap.size 5 1 (.slice ao2 0 cap2) 0 ([].map bv) := owns_same HO.out fun x hx => Below.heap_setCell _ _ _ _ (by have := (owns_lt HO.out x hx).2; have := HBb.out; show x ≠ g; omega)
  generalize W6.setCell ⟨g, 2, none⟩ (.slice ao2 0 cap2) = Wy at HS HO1 ⊢
  obtain ⟨HG, HB2, HO2⟩ := closen3 HS.out.b0 HS.out.bel HO1 (by have := HBb.out; omega) (.int .u32 (c : Int)) (.int .u32 (e0 : Int)) (.slice ao2 0 cap2)
  generalize (((Wy.setCell ⟨w.heap.size, 0, none⟩ (.int .u32 (c : Int))).setCell ⟨w.heap.size, 1, none⟩ (.int .u32 (e0 : Int))).setCell ⟨w.heap.size, 2, none⟩ (.slice ao2 0 cap2)) = Wz at HG HB2 HO2 ⊢
  exact bodyPost_ret (results_cell_tmp2 rfl _ Wz w.heap.size 57 #[.int .u32 (c : Int), .int .u32 (e0 : Int), .slice ao2 0 cap2] (0, 0) _ rfl HG Tryd.underlying57 rfl infoRep) rfl ⟨_, _, rfl, by have e : m = [] := List.eq_nil_of_length_eq_zero HM.out.2; rw [e]; exact owns_mono HO2 (by have := HBb.out; omega), HB2⟩
set_option maxHeartbeats 8000000 in
theorem rdecReply_ok1 (b off cap n : Nat) (l : List Nat) (most : Nat) (c e0 k : Nat) (w : World) (h : CRow w (some ⟨b, off, none⟩) cap l) (HN : Hid (l.length = n)) (hs : 20 ≤ n) (HX : Hid (valB ((l.drop 0).take 8) = mReply)) (HX1 : Hid (valB ((l.drop 8).take 4) = c)) (HX2 : Hid (valB ((l.drop 12).take 4) = e0)) (HX3 : Hid (valB ((l.drop 16).take 4) = k)) (hc4 : c < 4294967296) (he4 : e0 < 4294967296) (hk4 : k < 4294967296) (hm4 : most < 4294967296) (hle : k ≤ most) (hfit : k ≤ n - 20) (N : Nat) (hN : 20 + k = N) (m : List Nat) (hm : (l.drop 20).take k = m) (hce : ¬ cap = 20) :
    Calls Tryd.prog 46 #[.slice (some ⟨b, off, none⟩) n cap, .int .u32 (most : Int)] w fun e w' => ∃ ao2 cap2, e = .returned (.tuple #[.agg #[.int .u32 (c : Int), .int .u32 (e0 : Int), .slice ao2 k cap2], .int .i64 (N : Int), .int .i64 0]) ∧ w'.ownsRow w.heap.size 5 1 (.slice ao2 k cap2) k (m.map bv) ∧ Below w.heap.size w w' := by
  have HXc : Hid (vl l 8 4 = c) := HX1
  have HXe0 : Hid (vl l 12 4 = e0) := HX2
  have HXk : Hid (vl l 16 4 = k) := HX3
  obtain ⟨W0, hW0⟩ : ∃ W0, W0 = w.alloc (.cells #[.int .u32 0, .int .u32 0, nilV] 57) := ⟨_, rfl⟩
  have HS : Hid (Sb w W0 (.cells #[.int .u32 0, .int .u32 0, nilV] 57 (0, 0))) := by show Sb _ _ _; rw [hW0]; exact Sb.new w _ _
  have hnl := h.row.len
  rw [HN.out] at hnl
  have hc1 := h.cap1
  have hc2 := h.cap2
  rw [HN.out] at hc1
  have HC : Hid (CRow w (some ⟨b, off, none⟩) cap l) := h
  clear h
  have hbc : c < 4294967296 := by have := vl_lt HC.out 8 4; rw [HXc.out] at this; simpa using this
  have hwc : IntKind.u32.wrap (c : Int) = (c : Int) := by rw [IntKind.wrap_u32]; omega
  have hbe0 : e0 < 4294967296 := by have := vl_lt HC.out 12 4; rw [HXe0.out] at this; simpa using this
  have hwe0 : IntKind.u32.wrap (e0 : Int) = (e0 : Int) := by rw [IntKind.wrap_u32]; omega
  have hlen : m.length = k := by rw [← hm, List.length_take, List.length_drop, HN.out]; omega
  have HM : Hid ((l.drop 20).take k = m ∧ m.length = k) := ⟨hm, hlen⟩
  clear hm hlen
  have q1 : (N : Int) ≤ (cap : Int) := by omega
  have q2 : (20 : Int) ≤ (N : Int) := by omega
  have q3 : N - 20 = k := by omega
  have q4 : ((N : Int) - 20).toNat = k := by omega
  have q5 : 20 ≤ N := by omega
  have q6 : N ≤ cap := by omega
  go_enter Tryd.func46, Tryd.ntmps46
  go_wp2_with fail
  rw [← hW0]
  clear hW0
  refine (rhead_ok b off cap n 20 mReply 8 l _ (HC.out.later HS.out.bel) HN hs (by decide) (by decide) (by decide) HX.out).mono ?_
  rintro e W1 ⟨rfl, hb⟩
  replace HS : Hid _ := HS.out.next hb
  clear hb
  go_wp2_with fail
  refine (rvalueA b off cap n 8 4 l _ (HC.out.later HS.out.bel) HN (by omega) (by decide) (by decide) (by decide) c HXc.out).mono ?_
  rintro e W2 ⟨rfl, hb⟩
  replace HS : Hid _ := HS.out.next hb
  clear hb
  go_wp2_with fail
  refine (rvalueA b off cap n 12 4 l _ (HC.out.later HS.out.bel) HN (by omega) (by decide) (by decide) (by decide) e0 HXe0.out).mono ?_
  rintro e W3 ⟨rfl, hb⟩
  replace HS : Hid _ := HS.out.next hb
  clear hb
  obtain ⟨V, hV⟩ : ∃ V, V = W3.alloc (.cells #[.int .u32 (c : Int), .int .u32 (e0 : Int), nilV] 57) := ⟨_, rfl⟩
  obtain ⟨g, hg⟩ : ∃ g, g = W3.heap.size := ⟨_, rfl⟩
  replace HS : Hid (Sx w V (.cells #[.int .u32 0, .int .u32 0, nilV] 57 (0, 0)) g #[.int .u32 (c : Int), .int .u32 (e0 : Int), nilV] 57) := by show Sx _ _ _ _ _ _; rw [hV, hg]; exact HS.out.box _ _
  have hgn : ¬ (g = w.heap.size) := by have := HS.out.gl; omega
  have hgm : ¬ (w.heap.size = g) := by have := HS.out.gl; omega
  go_wp2_with fail
  rw [← hV, ← hg]
  clear hV hg
  refine (rvalueA b off cap n 16 4 l _ (HC.out.later HS.out.bel) HN (by omega) (by decide) (by decide) (by decide) k HXk.out).mono ?_
  rintro e W4 ⟨rfl, hb⟩
  replace HS : Hid _ := HS.out.next hb
  clear hb
  go_wp2_with fail
  refine (rtail_ok _ cap n 20 k most N _ hm4 hle hnl (by decide) hN (by omega)).mono ?_
  rintro e W5 ⟨rfl, hb⟩
  replace HS : Hid _ := HS.out.next hb
  clear hb
  go_wp2_with fail
  have HBb : Hid (g < W5.heap.size ∧ w.heap.size < W5.heap.size) := ⟨block_lt HS.out.b2, block_lt HS.out.b0⟩
  refine (copyN (some ⟨b, off + 20, none⟩) (cap - 20) k m _ (by have := part_brow (HC.out.later HS.out.bel) 20 k (cap - 20); rw [HM.out.1] at this; exact this) HM.out.2).mono ?_
  rintro e W6 ⟨ao2, cap2, rfl, ho, hb⟩
  replace HS : Hid _ := HS.out.next hb
  have HO : Hid (W6.ownsRow W5.heap.size 5 1 (.slice ao2 k cap2) k (m.map bv)) := ho
  clear hb ho
  have c20 := blk_at HS.out.b2 0
  have f20 := blk_free HS.out.b2 0
  have c21 := blk_at HS.out.b2 1
  have f21 := blk_free HS.out.b2 1
  have c22 := blk_at HS.out.b2 2
  have f22 := blk_free HS.out.b2 2
  simp at c20 c21 c22
  have c00 := blk_at HS.out.b0 0
  have f00 := blk_free HS.out.b0 0
  have c01 := blk_at HS.out.b0 1
  have f01 := blk_free HS.out.b0 1
  have c02 := blk_at HS.out.b0 2
  have f02 := blk_free HS.out.b0 2
  simp at c00 c01 c02
  go_wp2
  replace HS : Hid _ := HS.out.put 2 (.slice ao2 k cap2) (cs' := #[.int .u32 (c : Int), .int .u32 (e0 : Int), .slice ao2 k cap2]) rfl
  have HO1 : (W6.setCell ⟨g, 2, none⟩ (.slice ao2 k cap2)).ownsRow W5.heap.size 5 1 (.slice ao2 k cap2) k (m.map bv) := owns_same HO.out fun x hx => Below.heap_setCell _ _ _ _ (by have := (owns_lt HO.out x hx).2; have := HBb.out; show x ≠ g; omega)
  generalize W6.setCell ⟨g, 2, none⟩ (.slice ao2 k cap2) = Wy at HS HO1 ⊢
  obtain ⟨HG, HB2, HO2⟩ := closen3 HS.out.b0 HS.out.bel HO1 (by have := HBb.out; omega) (.int .u32 (c : Int)) (.int .u32 (e0 : Int)) (.slice ao2 k cap2)
  generalize (((Wy.setCell ⟨w.heap.size, 0, none⟩ (.int .u32 (c : Int))).setCell ⟨w.heap.size, 1, none⟩ (.int .u32 (e0 : Int))).setCell ⟨w.heap.size, 2, none⟩ (.slice ao2 k cap2)) = Wz at HG HB2 HO2 ⊢
  exact bodyPost_ret (results_cell_tmp2 rfl _ Wz w.heap.size 57 #[.int .u32 (c : Int), .int .u32 (e0 : Int), .slice ao2 k cap2] (0, 0) _ rfl HG Tryd.underlying57 rfl infoRep) rfl ⟨_, _, rfl, owns_mono HO2 (by have := HBb.out; omega), HB2⟩
theorem rdecReply_ok (b off cap n : Nat) (l : List Nat) (most : Nat) (c e0 k : Nat) (w : World) (h : CRow w (some ⟨b, off, none⟩) cap l) (HN : Hid (l.length = n)) (hs : 20 ≤ n) (HX : Hid (valB ((l.drop 0).take 8) = mReply)) (HX1 : Hid (valB ((l.drop 8).take 4) = c)) (HX2 : Hid (valB ((l.drop 12).take 4) = e0)) (HX3 : Hid (valB ((l.drop 16).take 4) = k)) (hc4 : c < 4294967296) (he4 : e0 < 4294967296) (hk4 : k < 4294967296) (hm4 : most < 4294967296) (hle : k ≤ most) (hfit : k ≤ n - 20) (N : Nat) (hN : 20 + k = N) (m : List Nat) (hm : (l.drop 20).take k = m) :
    Calls Tryd.prog 46 #[.slice (some ⟨b, off, none⟩) n cap, .int .u32 (most : Int)] w fun e w' => ∃ ao2 cap2, e = .returned (.tuple #[.agg #[.int .u32 (c : Int), .int .u32 (e0 : Int), .slice ao2 k cap2], .int .i64 (N : Int), .int .i64 0]) ∧ w'.ownsRow w.heap.size 5 1 (.slice ao2 k cap2) k (m.map bv) ∧ Below w.heap.size w w' := by
  by_cases hce : cap = 20
  · exact rdecReply_ok0 b off cap n l most c e0 k w h HN hs HX HX1 HX2 HX3 hc4 he4 hk4 hm4 hle hfit N hN m hm hce
  · exact rdecReply_ok1 b off cap n l most c e0 k w h HN hs HX HX1 HX2 HX3 hc4 he4 hk4 hm4 hle hfit N hN m hm hce
end Go.Proofs.YtjhickfjagalfaaDoor

namespace Go.Proofs.YtjhickfjagalfaaDoor
open Go.RowKit
set_option linter.unusedVariables false
set_option linter.unusedSimpArgs false
set_option maxRecDepth 100000
set_option maxHeartbeats 4000000 in
theorem rdecExport0_short (ao : Option Addr) (cap n : Nat)  (w : World) (h : n < 10) :
    Calls Tryd.prog 40 #[.slice ao n cap, .bool false] w fun e w' => e = .returned (.tuple #[.agg #[.int .u64 0, .int .u16 0], .int .i64 10, .int .i64 10]) ∧ Below w.heap.size w w' := by
  obtain ⟨W0, hW0⟩ : ∃ W0, W0 = w.alloc (.cells #[.int .u64 0, .int .u16 0] 34) := ⟨_, rfl⟩
  have HS : Hid (Sb w W0 (.cells #[.int .u64 0, .int .u16 0] 34 (0, 0))) := by show Sb _ _ _; rw [hW0]; exact Sb.new w _ _
  go_enter Tryd.func40, Tryd.ntmps40
  go_wp2_with fail
  rw [← hW0]
  clear hW0
  refine (rhead_short ao cap n 10 _ _ _ h).mono ?_
  rintro e W1 ⟨rfl, hb⟩
  replace HS : Hid _ := HS.out.next hb
  clear hb
  have c00 := blk_at HS.out.b0 0
  have f00 := blk_free HS.out.b0 0
  have c01 := blk_at HS.out.b0 1
  have f01 := blk_free HS.out.b0 1
  simp at c00 c01
  go_wp2
  obtain ⟨HG, HB2⟩ := closenb2 HS.out.b0 HS.out.bel (.int .u64 0) (.int .u16 0)
  generalize ((W1.setCell ⟨w.heap.size, 0, none⟩ (.int .u64 0)).setCell ⟨w.heap.size, 1, none⟩ (.int .u16 0)) = Wz at HG HB2 ⊢
  exact bodyPost_ret (results_cell_tmp2 rfl _ Wz w.heap.size 34 #[.int .u64 0, .int .u16 0] (0, 0) _ rfl HG Tryd.underlying34 rfl infoExp) rfl ⟨rfl, HB2⟩
set_option maxHeartbeats 8000000 in
theorem rdecExport0_form (b off cap n : Nat) (l : List Nat)  (w : World) (h : CRow w (some ⟨b, off, none⟩) cap l) (HN : Hid (l.length = n)) (hs : 10 ≤ n) (HZ : Hid (∃ x ∈ (l.take 10).drop 10, x ≠ 0)) :
    Calls Tryd.prog 40 #[.slice (some ⟨b, off, none⟩) n cap, .bool false] w fun e w' => e = .returned (.tuple #[.agg #[.int .u64 0, .int .u16 0], .int .i64 0, .int .i64 81]) ∧ Below w.heap.size w w' := by
  exfalso
  obtain ⟨x, hx, _⟩ := HZ.out
  have : ((l.take 10).drop 10).length = 0 := by rw [List.length_drop, List.length_take]; omega
  rw [List.eq_nil_of_length_eq_zero this] at hx
  cases hx
set_option maxHeartbeats 8000000 in
theorem rdecExport0_ok (b off cap n : Nat) (l : List Nat) (s f : Nat) (w : World) (h : CRow w (some ⟨b, off, none⟩) cap l) (HN : Hid (l.length = n)) (hs : 10 ≤ n) (HX0 : Hid (valB ((l.drop 0).take 8) = s)) (HX1 : Hid (valB ((l.drop 8).take 2) = f)) (HZ : Hid (∀ x ∈ (l.take 10).drop 10, x = 0)) :
    Calls Tryd.prog 40 #[.slice (some ⟨b, off, none⟩) n cap, .bool false] w fun e w' => e = .returned (.tuple #[.agg #[.int .u64 (s : Int), .int .u16 (f : Int)], .int .i64 10, .int .i64 0]) ∧ Below w.heap.size w w' := by
  obtain ⟨W0, hW0⟩ : ∃ W0, W0 = w.alloc (.cells #[.int .u64 0, .int .u16 0] 34) := ⟨_, rfl⟩
  have HS : Hid (Sb w W0 (.cells #[.int .u64 0, .int .u16 0] 34 (0, 0))) := by show Sb _ _ _; rw [hW0]; exact Sb.new w _ _
  have hnl := h.row.len
  rw [HN.out] at hnl
  have hc1 := h.cap1
  have hc2 := h.cap2
  rw [HN.out] at hc1
  have HC : Hid (CRow w (some ⟨b, off, none⟩) cap l) := h
  clear h
  have HXs : Hid (vl l 0 8 = s) := HX0
  have HXf : Hid (vl l 8 2 = f) := HX1
  have hbf : f < 65536 := by have := vl_lt HC.out 8 2; rw [HXf.out] at this; simpa using this
  have hwf : IntKind.u16.wrap (f : Int) = (f : Int) := by rw [show IntKind.u16.wrap (f : Int) = (f : Int) % 65536 by simp [IntKind.wrap, IntKind.bits, IntKind.signed]]; omega
  go_enter Tryd.func40, Tryd.ntmps40
  go_wp2_with fail
  rw [← hW0]
  clear hW0
  refine (rhead_none (some ⟨b, off, none⟩) cap n 10 _ hs).mono ?_
  rintro e W1 ⟨rfl, hb⟩
  replace HS : Hid _ := HS.out.next hb
  clear hb
  go_wp2_with fail
  go_loop [10] (fun i => i = .int .i64 10) (fun i => 0)
  case atStart => rfl
  case round =>
    obtain rfl := hrel
    go_wp2_with fail
    refine (rvalueA b off cap n 0 8 l _ (HC.out.later HS.out.bel) HN (by omega) (by decide) (by decide) (by decide) s HXs.out).mono ?_
    rintro e W2 ⟨rfl, hb⟩
    replace HS : Hid _ := HS.out.next hb
    clear hb
    go_wp2_with fail
    refine (rvalueA b off cap n 8 2 l _ (HC.out.later HS.out.bel) HN (by omega) (by decide) (by decide) (by decide) f HXf.out).mono ?_
    rintro e W3 ⟨rfl, hb⟩
    replace HS : Hid _ := HS.out.next hb
    clear hb
    have c00 := blk_at HS.out.b0 0
    have f00 := blk_free HS.out.b0 0
    have c01 := blk_at HS.out.b0 1
    have f01 := blk_free HS.out.b0 1
    simp at c00 c01
    go_wp2
    obtain ⟨HG, HB2⟩ := closenb2 HS.out.b0 HS.out.bel (.int .u64 (s : Int)) (.int .u16 (f : Int))
    generalize ((W3.setCell ⟨w.heap.size, 0, none⟩ (.int .u64 (s : Int))).setCell ⟨w.heap.size, 1, none⟩ (.int .u16 (f : Int))) = Wz at HG HB2 ⊢
    exact bodyPost_ret (results_cell_tmp2 rfl _ Wz w.heap.size 34 #[.int .u64 (s : Int), .int .u16 (f : Int)] (0, 0) _ rfl HG Tryd.underlying34 rfl infoExp) rfl ⟨rfl, HB2⟩
set_option maxHeartbeats 4000000 in
theorem rdecExport1_short (ao : Option Addr) (cap n : Nat)  (w : World) (h : n < 134) :
    Calls Tryd.prog 40 #[.slice ao n cap, .bool true] w fun e w' => e = .returned (.tuple #[.agg #[.int .u64 0, .int .u16 0], .int .i64 134, .int .i64 10]) ∧ Below w.heap.size w w' := by
  obtain ⟨W0, hW0⟩ : ∃ W0, W0 = w.alloc (.cells #[.int .u64 0, .int .u16 0] 34) := ⟨_, rfl⟩
  have HS : Hid (Sb w W0 (.cells #[.int .u64 0, .int .u16 0] 34 (0, 0))) := by show Sb _ _ _; rw [hW0]; exact Sb.new w _ _
  go_enter Tryd.func40, Tryd.ntmps40
  go_wp2_with fail
  rw [← hW0]
  clear hW0
  refine (rhead_short ao cap n 134 _ _ _ h).mono ?_
  rintro e W1 ⟨rfl, hb⟩
  replace HS : Hid _ := HS.out.next hb
  clear hb
  have c00 := blk_at HS.out.b0 0
  have f00 := blk_free HS.out.b0 0
  have c01 := blk_at HS.out.b0 1
  have f01 := blk_free HS.out.b0 1
  simp at c00 c01
  go_wp2
  obtain ⟨HG, HB2⟩ := closenb2 HS.out.b0 HS.out.bel (.int .u64 0) (.int .u16 0)
  generalize ((W1.setCell ⟨w.heap.size, 0, none⟩ (.int .u64 0)).setCell ⟨w.heap.size, 1, none⟩ (.int .u16 0)) = Wz at HG HB2 ⊢
  exact bodyPost_ret (results_cell_tmp2 rfl _ Wz w.heap.size 34 #[.int .u64 0, .int .u16 0] (0, 0) _ rfl HG Tryd.underlying34 rfl infoExp) rfl ⟨rfl, HB2⟩
set_option maxHeartbeats 8000000 in
theorem rdecExport1_form (b off cap n : Nat) (l : List Nat)  (w : World) (h : CRow w (some ⟨b, off, none⟩) cap l) (HN : Hid (l.length = n)) (hs : 134 ≤ n) (HZ : Hid (∃ x ∈ (l.take 134).drop 10, x ≠ 0)) :
    Calls Tryd.prog 40 #[.slice (some ⟨b, off, none⟩) n cap, .bool true] w fun e w' => e = .returned (.tuple #[.agg #[.int .u64 0, .int .u16 0], .int .i64 0, .int .i64 81]) ∧ Below w.heap.size w w' := by
  obtain ⟨W0, hW0⟩ : ∃ W0, W0 = w.alloc (.cells #[.int .u64 0, .int .u16 0] 34) := ⟨_, rfl⟩
  have HS : Hid (Sb w W0 (.cells #[.int .u64 0, .int .u16 0] 34 (0, 0))) := by show Sb _ _ _; rw [hW0]; exact Sb.new w _ _
  have hnl := h.row.len
  rw [HN.out] at hnl
  have hc1 := h.cap1
  have hc2 := h.cap2
  rw [HN.out] at hc1
  have HC : Hid (CRow w (some ⟨b, off, none⟩) cap l) := h
  clear h
  go_enter Tryd.func40, Tryd.ntmps40
  go_wp2_with fail
  rw [← hW0]
  clear hW0
  refine (rhead_none (some ⟨b, off, none⟩) cap n 134 _ hs).mono ?_
  rintro e W1 ⟨rfl, hb⟩
  replace HS : Hid _ := HS.out.next hb
  clear hb
  have c00 := blk_at HS.out.b0 0
  have f00 := blk_free HS.out.b0 0
  have c01 := blk_at HS.out.b0 1
  have f01 := blk_free HS.out.b0 1
  simp at c00 c01
  have HCl : Hid (∀ j, j < n → W1.cell? ⟨b, off + j, none⟩ = some (.int .u8 ((l[j]?.getD 0 : Nat) : Int))) := fun j hj => by
    have hl := HN.out
    have hc := HC.out.later HS.out.bel
    obtain ⟨b', off', e, hc⟩ := hc.row.at_ (by rintro rfl; simp at hl; omega)
    cases e
    have h1 := hc j (by omega)
    rw [h1, List.getElem?_eq_getElem (by omega)]; rfl
  go_wp2
  go_loop [10] (fun i => ∃ k : Nat, i = .int .i64 k ∧ 10 ≤ k ∧ k ≤ 134 ∧ Hid (∀ j, 10 ≤ j → j < k → l[j]?.getD 0 = 0)) (fun i => 134 - (intOf i).toNat)
  case atStart => exact ⟨10, rfl, Nat.le_refl _, by decide, fun j h1 h2 => by omega⟩
  case round =>
    obtain ⟨k, rfl, hk0, hk, HJ⟩ := hrel
    by_cases hlt : k < 134
    · have z0 := HCl.out k (by omega)
      have hkn : (k : Int) < (n : Int) := by omega
      have hkz : (k : Int) < 134 := by omega
      by_cases hx : l[k]?.getD 0 = 0
      · rw [hx] at z0
        have HX : Hid (l[k]?.getD 0 = 0) := hx
        clear hx
        go_wp2
        go_round
        case rel =>
          refine ⟨k + 1, by go_num, by omega, by omega, fun j h1 h2 => ?_⟩
          by_cases e : j = k
          · rw [e]; exact HX.out
          · exact HJ.out j h1 (by omega)
        case measure => simp [intOf]; omega
      · obtain ⟨x, hxe⟩ : ∃ x, l[k]?.getD 0 = x := ⟨_, rfl⟩
        rw [hxe] at z0 hx
        have hx1 : ¬ (x : Int) = 0 := by omega
        have hx2 : ((x : Int) != 0) = true := by simp; omega
        clear hxe hx
        go_wp2
        obtain ⟨HG, HB2⟩ := closenb2 HS.out.b0 HS.out.bel (.int .u64 0) (.int .u16 0)
        generalize ((W1.setCell ⟨w.heap.size, 0, none⟩ (.int .u64 0)).setCell ⟨w.heap.size, 1, none⟩ (.int .u16 0)) = Wz at HG HB2 ⊢
        exact bodyPost_ret (results_cell_tmp2 rfl _ Wz w.heap.size 34 #[.int .u64 0, .int .u16 0] (0, 0) _ rfl HG Tryd.underlying34 rfl infoExp) rfl ⟨rfl, HB2⟩
    · exfalso
      obtain ⟨x, hx, hx0⟩ := HZ.out
      obtain ⟨j, hj, rfl⟩ := List.getElem_of_mem hx
      rw [List.length_drop, List.length_take] at hj
      have h1 := HJ.out (10 + j) (by omega) (by omega)
      have hl := HN.out
      rw [List.getElem?_eq_getElem (by omega)] at h1
      apply hx0
      rw [List.getElem_drop, List.getElem_take]
      exact h1
set_option maxHeartbeats 8000000 in
theorem rdecExport1_ok (b off cap n : Nat) (l : List Nat) (s f : Nat) (w : World) (h : CRow w (some ⟨b, off, none⟩) cap l) (HN : Hid (l.length = n)) (hs : 134 ≤ n) (HX0 : Hid (valB ((l.drop 0).take 8) = s)) (HX1 : Hid (valB ((l.drop 8).take 2) = f)) (HZ : Hid (∀ x ∈ (l.take 134).drop 10, x = 0)) :
    Calls Tryd.prog 40 #[.slice (some ⟨b, off, none⟩) n cap, .bool true] w fun e w' => e = .returned (.tuple #[.agg #[.int .u64 (s : Int), .int .u16 (f : Int)], .int .i64 134, .int .i64 0]) ∧ Below w.heap.size w w' := by
  obtain ⟨W0, hW0⟩ : ∃ W0, W0 = w.alloc (.cells #[.int .u64 0, .int .u16 0] 34) := ⟨_, rfl⟩
  have HS : Hid (Sb w W0 (.cells #[.int .u64 0, .int .u16 0] 34 (0, 0))) := by show Sb _ _ _; rw [hW0]; exact Sb.new w _ _
  have hnl := h.row.len
  rw [HN.out] at hnl
  have hc1 := h.cap1
  have hc2 := h.cap2
  rw [HN.out] at hc1
  have HC : Hid (CRow w (some ⟨b, off, none⟩) cap l) := h
  clear h
  have HXs : Hid (vl l 0 8 = s) := HX0
  have HXf : Hid (vl l 8 2 = f) := HX1
  have hbf : f < 65536 := by have := vl_lt HC.out 8 2; rw [HXf.out] at this; simpa using this
  have hwf : IntKind.u16.wrap (f : Int) = (f : Int) := by rw [show IntKind.u16.wrap (f : Int) = (f : Int) % 65536 by simp [IntKind.wrap, IntKind.bits, IntKind.signed]]; omega
  go_enter Tryd.func40, Tryd.ntmps40
  go_wp2_with fail
  rw [← hW0]
  clear hW0
  refine (rhead_none (some ⟨b, off, none⟩) cap n 134 _ hs).mono ?_
  rintro e W1 ⟨rfl, hb⟩
  replace HS : Hid _ := HS.out.next hb
  clear hb
  have HCl : Hid (∀ j, j < n → W1.cell? ⟨b, off + j, none⟩ = some (.int .u8 ((l[j]?.getD 0 : Nat) : Int))) := fun j hj => by
    have hl := HN.out
    have hc := HC.out.later HS.out.bel
    obtain ⟨b', off', e, hc⟩ := hc.row.at_ (by rintro rfl; simp at hl; omega)
    cases e
    have h1 := hc j (by omega)
    rw [h1, List.getElem?_eq_getElem (by omega)]; rfl
  go_wp2
  go_loop [10] (fun i => ∃ k : Nat, i = .int .i64 k ∧ 10 ≤ k ∧ k ≤ 134 ∧ Hid (∀ j, 10 ≤ j → j < k → l[j]?.getD 0 = 0)) (fun i => 134 - (intOf i).toNat)
  case atStart => exact ⟨10, rfl, Nat.le_refl _, by decide, fun j h1 h2 => by omega⟩
  case round =>
    obtain ⟨k, rfl, hk0, hk, HJ⟩ := hrel
    by_cases hlt : k < 134
    · have z0 := HCl.out k (by omega)
      have hkn : (k : Int) < (n : Int) := by omega
      have hkz : (k : Int) < 134 := by omega
      by_cases hx : l[k]?.getD 0 = 0
      · rw [hx] at z0
        have HX : Hid (l[k]?.getD 0 = 0) := hx
        clear hx
        go_wp2
        go_round
        case rel =>
          refine ⟨k + 1, by go_num, by omega, by omega, fun j h1 h2 => ?_⟩
          by_cases e : j = k
          · rw [e]; exact HX.out
          · exact HJ.out j h1 (by omega)
        case measure => simp [intOf]; omega
      · exfalso
        apply hx
        have hl := HN.out
        rw [List.getElem?_eq_getElem (by omega)]
        refine HZ.out _ (List.mem_iff_getElem.2 ⟨k - 10, by rw [List.length_drop, List.length_take]; omega, ?_⟩)
        rw [List.getElem_drop, List.getElem_take]
        congr 1
        omega
    · obtain rfl : k = 134 := by omega
      clear HCl HJ hk hk0 hlt
      go_wp2_with fail
      refine (rvalueA b off cap n 0 8 l _ (HC.out.later HS.out.bel) HN (by omega) (by decide) (by decide) (by decide) s HXs.out).mono ?_
      rintro e W2 ⟨rfl, hb⟩
      replace HS : Hid _ := HS.out.next hb
      clear hb
      go_wp2_with fail
      refine (rvalueA b off cap n 8 2 l _ (HC.out.later HS.out.bel) HN (by omega) (by decide) (by decide) (by decide) f HXf.out).mono ?_
      rintro e W3 ⟨rfl, hb⟩
      replace HS : Hid _ := HS.out.next hb
      clear hb
      have c00 := blk_at HS.out.b0 0
      have f00 := blk_free HS.out.b0 0
      have c01 := blk_at HS.out.b0 1
      have f01 := blk_free HS.out.b0 1
      simp at c00 c01
      go_wp2
      obtain ⟨HG, HB2⟩ := closenb2 HS.out.b0 HS.out.bel (.int .u64 (s : Int)) (.int .u16 (f : Int))
      generalize ((W3.setCell ⟨w.heap.size, 0, none⟩ (.int .u64 (s : Int))).setCell ⟨w.heap.size, 1, none⟩ (.int .u16 (f : Int))) = Wz at HG HB2 ⊢
      exact bodyPost_ret (results_cell_tmp2 rfl _ Wz w.heap.size 34 #[.int .u64 (s : Int), .int .u16 (f : Int)] (0, 0) _ rfl HG Tryd.underlying34 rfl infoExp) rfl ⟨rfl, HB2⟩
end Go.Proofs.YtjhickfjagalfaaDoor
