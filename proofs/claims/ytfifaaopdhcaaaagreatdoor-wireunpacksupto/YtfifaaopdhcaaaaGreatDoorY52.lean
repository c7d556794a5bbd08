import Derived.Test.YtfifaaopdhcaaaaGreatDoorY51
namespace Go.Proofs.YtfifaaopdhcaaaaGreatDoor
open Go.RowKit
set_option linter.unusedVariables false
set_option linter.unusedSimpArgs false
set_option maxRecDepth 100000
set_option maxHeartbeats 16000000 in
theorem wireUnpacks_any (ao : Option Addr) (cap n : Nat) (l : List Nat) (placed : Bool) (w : World) (h : CRow w ao cap l) (hn : l.length = n) (hs : l.length ≤ 1048576) (hT : Tabs w) (hTb : Tb w) :
    Calls Tryz.prog 3 #[.slice ao n cap, .bool placed] w fun e w' => e = .returned (.bool true) ∧ Below w.heap.size w w' := by
  have hl := h.row.lt
  have HL : Hid (∀ x ∈ l, x < 256) := hl
  have HS : Hid (l.length ≤ 1048576) := hs
  have HC : Hid (CRow w ao cap l) := h
  have HN : Hid (l.length = n) := hn
  have HT : Hid (Tabs w) := hT
  have HTb : Hid (Tb w) := hTb
  have HNum : Hid (∀ (e : Int) (w : World), Calls Tryz.prog 7 #[.int .i64 e] w fun r w' => r = .returned (.int .i64 e) ∧ w' = w) := num_any
  have HTw : Hid _ := twin_any ao cap n l w h.row hn (by omega)
  clear h hn hT hTb
  go_enter Tryz.func3, Tryz.ntmps3
  go_wp2_with fail
  refine Calls.mono HTw.out ?_
  rintro e W0 ⟨rfl, htw, hb0⟩
  have LW : Hid (Lw w W0 w.heap.size ao cap l) := ⟨hb0, htw⟩
  obtain ⟨g, hg⟩ : ∃ g, w.heap.size = g := ⟨_, rfl⟩
  have LW2 : Hid (Lw w W0 g ao cap l) := by rw [← hg]; exact LW.out
  have hgg : (some ⟨w.heap.size, 0, none⟩ : Option Addr) = some ⟨g, 0, none⟩ := by rw [hg]
  clear htw hb0 HTw LW
  have LW := LW2
  clear LW2
  rw [hgg]
  clear hgg hg
  obtain ⟨k, sz, fl, s, mn, pf, mx, d, er, dn, hd, hP, hD⟩ := both_info l hl hs
  go_wp2_with fail
  refine Calls.mono (hP W0 (some ⟨g, 0, none⟩) (n + 4) n (twin_brow LW.out.tw HL.out (by have := HS.out; omega) _) HN.out (HT.out.later LW.out.bel)) ?_
  rintro e Wa ⟨da, dc, rfl, hra, hb⟩
  have LWa : Hid (Lw w (Wa.alloc (Obj.cells #[.int .u16 (k : Int), .int .u64 (sz : Int), .int .u16 (fl : Int), .string s, .int .u32 (mn : Int), .int .u32 (pf : Int), .int .u32 (mx : Int), .slice da dn dc] 28)) g ao cap l) := (LW.out.later hb).later (below1 _ _)
  have HBa : Hid ((Wa.alloc (Obj.cells #[.int .u16 (k : Int), .int .u64 (sz : Int), .int .u16 (fl : Int), .string s, .int .u32 (mn : Int), .int .u32 (pf : Int), .int .u32 (mx : Int), .slice da dn dc] 28)).heap[Wa.heap.size]? = some (.cells #[.int .u16 (k : Int), .int .u64 (sz : Int), .int .u16 (fl : Int), .string s, .int .u32 (mn : Int), .int .u32 (pf : Int), .int .u32 (mx : Int), .slice da dn dc] 28 (0, 0))) := heap_new Wa _
  have HRa0 : Hid (BRow (Wa.alloc (Obj.cells #[.int .u16 (k : Int), .int .u64 (sz : Int), .int .u16 (fl : Int), .string s, .int .u32 (mn : Int), .int .u32 (pf : Int), .int .u32 (mx : Int), .slice da dn dc] 28)) da dc d) := hra.later (below1 _ _)
  clear hb LW hP hra
  go_wp2_with fail
  generalize Wa.alloc (Obj.cells #[.int .u16 (k : Int), .int .u64 (sz : Int), .int .u16 (fl : Int), .string s, .int .u32 (mn : Int), .int .u32 (pf : Int), .int .u32 (mx : Int), .slice da dn dc] 28) = Wb at *
  generalize Wa.heap.size = gx at *
  refine Calls.mono (hD Wb ao cap n (HC.out.later LWa.out.bel) HN.out) ?_
  rintro e Wc ⟨eb, ec, rfl, hrb, hb⟩
  have LWc : Hid (Lw w (Wc.alloc (Obj.cells #[.int .u16 (k : Int), .int .u64 (sz : Int), .int .u16 (fl : Int), .string s, .int .u32 (mn : Int), .int .u32 (pf : Int), .int .u32 (mx : Int), .slice eb dn ec] 28)) g ao cap l) := (LWa.out.later hb).later (below1 _ _)
  have HBb : Hid ((Wc.alloc (Obj.cells #[.int .u16 (k : Int), .int .u64 (sz : Int), .int .u16 (fl : Int), .string s, .int .u32 (mn : Int), .int .u32 (pf : Int), .int .u32 (mx : Int), .slice eb dn ec] 28)).heap[Wc.heap.size]? = some (.cells #[.int .u16 (k : Int), .int .u64 (sz : Int), .int .u16 (fl : Int), .string s, .int .u32 (mn : Int), .int .u32 (pf : Int), .int .u32 (mx : Int), .slice eb dn ec] 28 (0, 0))) := heap_new Wc _
  have HBx : Hid ((Wc.alloc (Obj.cells #[.int .u16 (k : Int), .int .u64 (sz : Int), .int .u16 (fl : Int), .string s, .int .u32 (mn : Int), .int .u32 (pf : Int), .int .u32 (mx : Int), .slice eb dn ec] 28)).heap[gx]? = some (.cells #[.int .u16 (k : Int), .int .u64 (sz : Int), .int .u16 (fl : Int), .string s, .int .u32 (mn : Int), .int .u32 (pf : Int), .int .u32 (mx : Int), .slice da dn dc] 28 (0, 0))) := box_later (box_later HBa.out hb) (below1 _ _)
  have HRa : Hid (BRow (Wc.alloc (Obj.cells #[.int .u16 (k : Int), .int .u64 (sz : Int), .int .u16 (fl : Int), .string s, .int .u32 (mn : Int), .int .u32 (pf : Int), .int .u32 (mx : Int), .slice eb dn ec] 28)) da dc d) := (HRa0.out.later hb).later (below1 _ _)
  have HRb : Hid (BRow (Wc.alloc (Obj.cells #[.int .u16 (k : Int), .int .u64 (sz : Int), .int .u16 (fl : Int), .string s, .int .u32 (mn : Int), .int .u32 (pf : Int), .int .u32 (mx : Int), .slice eb dn ec] 28)) eb ec d) := hrb.later (below1 _ _)
  clear hb LWa HBa hD HRa0 hrb
  go_wp2_with fail
  generalize Wc.alloc (Obj.cells #[.int .u16 (k : Int), .int .u64 (sz : Int), .int .u16 (fl : Int), .string s, .int .u32 (mn : Int), .int .u32 (pf : Int), .int .u32 (mx : Int), .slice eb dn ec] 28) = Wy at *
  generalize Wc.heap.size = gy at *
  have xa0 : Wy.cell? ⟨gx, 0, none⟩ = some (.int .u16 (k : Int)) := (blk_at HBx.out 0).trans rfl
  have xa1 : Wy.cell? ⟨gx, 1, none⟩ = some (.int .u64 (sz : Int)) := (blk_at HBx.out 1).trans rfl
  have xa2 : Wy.cell? ⟨gx, 2, none⟩ = some (.int .u16 (fl : Int)) := (blk_at HBx.out 2).trans rfl
  have xa3 : Wy.cell? ⟨gx, 3, none⟩ = some (.string s) := (blk_at HBx.out 3).trans rfl
  have xa4 : Wy.cell? ⟨gx, 4, none⟩ = some (.int .u32 (mn : Int)) := (blk_at HBx.out 4).trans rfl
  have xa5 : Wy.cell? ⟨gx, 5, none⟩ = some (.int .u32 (pf : Int)) := (blk_at HBx.out 5).trans rfl
  have xa6 : Wy.cell? ⟨gx, 6, none⟩ = some (.int .u32 (mx : Int)) := (blk_at HBx.out 6).trans rfl
  have xa7 : Wy.cell? ⟨gx, 7, none⟩ = some (.slice da dn dc) := (blk_at HBx.out 7).trans rfl
  have ya0 : Wy.cell? ⟨gy, 0, none⟩ = some (.int .u16 (k : Int)) := (blk_at HBb.out 0).trans rfl
  have ya1 : Wy.cell? ⟨gy, 1, none⟩ = some (.int .u64 (sz : Int)) := (blk_at HBb.out 1).trans rfl
  have ya2 : Wy.cell? ⟨gy, 2, none⟩ = some (.int .u16 (fl : Int)) := (blk_at HBb.out 2).trans rfl
  have ya3 : Wy.cell? ⟨gy, 3, none⟩ = some (.string s) := (blk_at HBb.out 3).trans rfl
  have ya4 : Wy.cell? ⟨gy, 4, none⟩ = some (.int .u32 (mn : Int)) := (blk_at HBb.out 4).trans rfl
  have ya5 : Wy.cell? ⟨gy, 5, none⟩ = some (.int .u32 (pf : Int)) := (blk_at HBb.out 5).trans rfl
  have ya6 : Wy.cell? ⟨gy, 6, none⟩ = some (.int .u32 (mx : Int)) := (blk_at HBb.out 6).trans rfl
  have ya7 : Wy.cell? ⟨gy, 7, none⟩ = some (.slice eb dn ec) := (blk_at HBb.out 7).trans rfl
  refine Calls.mono (HNum.out _ _) ?_
  rintro e W9 ⟨rfl, hw⟩
  rw [hw]; clear hw W9
  go_wp2_with fail
  refine Calls.mono (sameInfo_any k sz fl s mn pf mx da dn dc d sz fl s mn pf mx eb dn ec d true true true true true true Wy HRa.out hd HRb.out hd (by simp) (by simp) (by simp) (by simp) (by simp) (by simp)) ?_
  rintro e Wz ⟨rfl, hb⟩
  have LW : Hid (Lw w Wz g ao cap l) := LWc.out.later hb
  clear hb LWc HBx HBb HRa HRb xa0 ya0 xa1 ya1 xa2 ya2 xa3 ya3 xa4 ya4 xa5 ya5 xa6 ya6 xa7 ya7
  obtain ⟨s, ks, er, dn, hd, hP, hD⟩ := both_ask l hl hs
  go_wp2_with fail
  refine Calls.mono (hP Wz (some ⟨g, 0, none⟩) (n + 4) n (twin_brow LW.out.tw HL.out (by have := HS.out; omega) _) HN.out (HT.out.later LW.out.bel)) ?_
  rintro e Wa ⟨da, dc, rfl, hra, hb⟩
  have LWa : Hid (Lw w (Wa.alloc (Obj.cells #[.string s, .slice da dn dc] 38)) g ao cap l) := (LW.out.later hb).later (below1 _ _)
  have HBa : Hid ((Wa.alloc (Obj.cells #[.string s, .slice da dn dc] 38)).heap[Wa.heap.size]? = some (.cells #[.string s, .slice da dn dc] 38 (0, 0))) := heap_new Wa _
  have HRa0 : Hid (U16s (Wa.alloc (Obj.cells #[.string s, .slice da dn dc] 38)) da ks) := hra.later (below1 _ _)
  clear hb LW hP hra
  go_wp2_with fail
  generalize Wa.alloc (Obj.cells #[.string s, .slice da dn dc] 38) = Wb at *
  generalize Wa.heap.size = gx at *
  refine Calls.mono (hD Wb ao cap n (HC.out.later LWa.out.bel) HN.out) ?_
  rintro e Wc ⟨eb, ec, rfl, hrb, hb⟩
  have LWc : Hid (Lw w (Wc.alloc (Obj.cells #[.string s, .slice eb dn ec] 38)) g ao cap l) := (LWa.out.later hb).later (below1 _ _)
  have HBb : Hid ((Wc.alloc (Obj.cells #[.string s, .slice eb dn ec] 38)).heap[Wc.heap.size]? = some (.cells #[.string s, .slice eb dn ec] 38 (0, 0))) := heap_new Wc _
  have HBx : Hid ((Wc.alloc (Obj.cells #[.string s, .slice eb dn ec] 38)).heap[gx]? = some (.cells #[.string s, .slice da dn dc] 38 (0, 0))) := box_later (box_later HBa.out hb) (below1 _ _)
  have HRa : Hid (U16s (Wc.alloc (Obj.cells #[.string s, .slice eb dn ec] 38)) da ks) := (HRa0.out.later hb).later (below1 _ _)
  have HRb : Hid (U16s (Wc.alloc (Obj.cells #[.string s, .slice eb dn ec] 38)) eb ks) := hrb.later (below1 _ _)
  clear hb LWa HBa hD HRa0 hrb
  go_wp2_with fail
  generalize Wc.alloc (Obj.cells #[.string s, .slice eb dn ec] 38) = Wy at *
  generalize Wc.heap.size = gy at *
  have xa0 : Wy.cell? ⟨gx, 0, none⟩ = some (.string s) := (blk_at HBx.out 0).trans rfl
  have xa1 : Wy.cell? ⟨gx, 1, none⟩ = some (.slice da dn dc) := (blk_at HBx.out 1).trans rfl
  have ya0 : Wy.cell? ⟨gy, 0, none⟩ = some (.string s) := (blk_at HBb.out 0).trans rfl
  have ya1 : Wy.cell? ⟨gy, 1, none⟩ = some (.slice eb dn ec) := (blk_at HBb.out 1).trans rfl
  refine Calls.mono (HNum.out _ _) ?_
  rintro e W9 ⟨rfl, hw⟩
  rw [hw]; clear hw W9
  go_wp2_with fail
  refine Calls.mono (kinds16_eq da eb dn dc ec ks Wy HRa.out HRb.out hd.1 (by omega)) ?_
  rintro e Wz ⟨rfl, hb⟩
  have LW : Hid (Lw w Wz g ao cap l) := LWc.out.later hb
  clear hb LWc HBx HBb HRa HRb xa0 ya0 xa1 ya1
  obtain ⟨s, qs, er, dn, hd, hP, hD⟩ := both_metas l hl hs
  go_wp2_with fail
  refine Calls.mono (hP Wz (some ⟨g, 0, none⟩) (n + 4) n (twin_brow LW.out.tw HL.out (by have := HS.out; omega) _) HN.out (HT.out.later LW.out.bel)) ?_
  rintro e Wa ⟨da, dc, rfl, hra, hb⟩
  have LWa : Hid (Lw w (Wa.alloc (Obj.cells #[.string s, .slice da dn dc] 46)) g ao cap l) := (LW.out.later hb).later (below1 _ _)
  have HBa : Hid ((Wa.alloc (Obj.cells #[.string s, .slice da dn dc] 46)).heap[Wa.heap.size]? = some (.cells #[.string s, .slice da dn dc] 46 (0, 0))) := heap_new Wa _
  have HRa0 : Hid (Strs (Wa.alloc (Obj.cells #[.string s, .slice da dn dc] 46)) da qs) := hra.later (below1 _ _)
  clear hb LW hP hra
  go_wp2_with fail
  generalize Wa.alloc (Obj.cells #[.string s, .slice da dn dc] 46) = Wb at *
  generalize Wa.heap.size = gx at *
  refine Calls.mono (hD Wb ao cap n (HC.out.later LWa.out.bel) HN.out) ?_
  rintro e Wc ⟨eb, ec, rfl, hrb, hb⟩
  have LWc : Hid (Lw w (Wc.alloc (Obj.cells #[.string s, .slice eb dn ec] 46)) g ao cap l) := (LWa.out.later hb).later (below1 _ _)
  have HBb : Hid ((Wc.alloc (Obj.cells #[.string s, .slice eb dn ec] 46)).heap[Wc.heap.size]? = some (.cells #[.string s, .slice eb dn ec] 46 (0, 0))) := heap_new Wc _
  have HBx : Hid ((Wc.alloc (Obj.cells #[.string s, .slice eb dn ec] 46)).heap[gx]? = some (.cells #[.string s, .slice da dn dc] 46 (0, 0))) := box_later (box_later HBa.out hb) (below1 _ _)
  have HRa : Hid (Strs (Wc.alloc (Obj.cells #[.string s, .slice eb dn ec] 46)) da qs) := (HRa0.out.later hb).later (below1 _ _)
  have HRb : Hid (Strs (Wc.alloc (Obj.cells #[.string s, .slice eb dn ec] 46)) eb qs) := hrb.later (below1 _ _)
  clear hb LWa HBa hD HRa0 hrb
  go_wp2_with fail
  generalize Wc.alloc (Obj.cells #[.string s, .slice eb dn ec] 46) = Wy at *
  generalize Wc.heap.size = gy at *
  have xa0 : Wy.cell? ⟨gx, 0, none⟩ = some (.string s) := (blk_at HBx.out 0).trans rfl
  have xa1 : Wy.cell? ⟨gx, 1, none⟩ = some (.slice da dn dc) := (blk_at HBx.out 1).trans rfl
  have ya0 : Wy.cell? ⟨gy, 0, none⟩ = some (.string s) := (blk_at HBb.out 0).trans rfl
  have ya1 : Wy.cell? ⟨gy, 1, none⟩ = some (.slice eb dn ec) := (blk_at HBb.out 1).trans rfl
  refine Calls.mono (HNum.out _ _) ?_
  rintro e W9 ⟨rfl, hw⟩
  rw [hw]; clear hw W9
  go_wp2_with fail
  refine Calls.mono (texts_eq da eb dn dc ec qs Wy HRa.out HRb.out hd.1 (by omega)) ?_
  rintro e Wz ⟨rfl, hb⟩
  have LW : Hid (Lw w Wz g ao cap l) := LWc.out.later hb
  clear hb LWc HBx HBb HRa HRb xa0 ya0 xa1 ya1
  obtain ⟨c, s, er, hP, hD⟩ := both_meta l hl hs
  go_wp2_with fail
  refine Calls.mono (hP Wz (some ⟨g, 0, none⟩) (n + 4) n (twin_brow LW.out.tw HL.out (by have := HS.out; omega) _) HN.out (HT.out.later LW.out.bel)) ?_
  rintro e Wa ⟨rfl, hb⟩
  have LWa : Hid (Lw w (Wa.alloc (Obj.cells #[.int .u32 (c : Int), .string s] 53)) g ao cap l) := (LW.out.later hb).later (below1 _ _)
  have HBa : Hid ((Wa.alloc (Obj.cells #[.int .u32 (c : Int), .string s] 53)).heap[Wa.heap.size]? = some (.cells #[.int .u32 (c : Int), .string s] 53 (0, 0))) := heap_new Wa _
  clear hb LW hP 
  go_wp2_with fail
  generalize Wa.alloc (Obj.cells #[.int .u32 (c : Int), .string s] 53) = Wb at *
  generalize Wa.heap.size = gx at *
  refine Calls.mono (hD Wb ao cap n (HC.out.later LWa.out.bel) HN.out) ?_
  rintro e Wc ⟨rfl, hb⟩
  have LWc : Hid (Lw w (Wc.alloc (Obj.cells #[.int .u32 (c : Int), .string s] 53)) g ao cap l) := (LWa.out.later hb).later (below1 _ _)
  have HBb : Hid ((Wc.alloc (Obj.cells #[.int .u32 (c : Int), .string s] 53)).heap[Wc.heap.size]? = some (.cells #[.int .u32 (c : Int), .string s] 53 (0, 0))) := heap_new Wc _
  have HBx : Hid ((Wc.alloc (Obj.cells #[.int .u32 (c : Int), .string s] 53)).heap[gx]? = some (.cells #[.int .u32 (c : Int), .string s] 53 (0, 0))) := box_later (box_later HBa.out hb) (below1 _ _)
  clear hb LWa HBa hD 
  go_wp2_with fail
  generalize Wc.alloc (Obj.cells #[.int .u32 (c : Int), .string s] 53) = Wy at *
  generalize Wc.heap.size = gy at *
  have xa0 : Wy.cell? ⟨gx, 0, none⟩ = some (.int .u32 (c : Int)) := (blk_at HBx.out 0).trans rfl
  have xa1 : Wy.cell? ⟨gx, 1, none⟩ = some (.string s) := (blk_at HBx.out 1).trans rfl
  have ya0 : Wy.cell? ⟨gy, 0, none⟩ = some (.int .u32 (c : Int)) := (blk_at HBb.out 0).trans rfl
  have ya1 : Wy.cell? ⟨gy, 1, none⟩ = some (.string s) := (blk_at HBb.out 1).trans rfl
  refine Calls.mono (HNum.out _ _) ?_
  rintro e W9 ⟨rfl, hw⟩
  rw [hw]; clear hw W9
  have LW : Hid (Lw w Wy g ao cap l) := LWc.out
  clear LWc HBx HBb
  obtain ⟨s, m, er, dn, hd, hP, hD⟩ := both_server l hl hs
  go_wp2_with fail
  refine Calls.mono (hP Wy (some ⟨g, 0, none⟩) (n + 4) n (twin_brow LW.out.tw HL.out (by have := HS.out; omega) _) HN.out (HT.out.later LW.out.bel)) ?_
  rintro e Wa ⟨da, dc, rfl, hra, hb⟩
  have LWa : Hid (Lw w (Wa.alloc (Obj.cells #[.string s, .slice da dn dc] 59)) g ao cap l) := (LW.out.later hb).later (below1 _ _)
  have HBa : Hid ((Wa.alloc (Obj.cells #[.string s, .slice da dn dc] 59)).heap[Wa.heap.size]? = some (.cells #[.string s, .slice da dn dc] 59 (0, 0))) := heap_new Wa _
  have HRa0 : Hid (BRow (Wa.alloc (Obj.cells #[.string s, .slice da dn dc] 59)) da dc m) := hra.later (below1 _ _)
  clear hb LW hP hra
  go_wp2_with fail
  generalize Wa.alloc (Obj.cells #[.string s, .slice da dn dc] 59) = Wb at *
  generalize Wa.heap.size = gx at *
  refine Calls.mono (hD Wb ao cap n (HC.out.later LWa.out.bel) HN.out) ?_
  rintro e Wc ⟨eb, ec, rfl, hrb, hb⟩
  have LWc : Hid (Lw w (Wc.alloc (Obj.cells #[.string s, .slice eb dn ec] 59)) g ao cap l) := (LWa.out.later hb).later (below1 _ _)
  have HBb : Hid ((Wc.alloc (Obj.cells #[.string s, .slice eb dn ec] 59)).heap[Wc.heap.size]? = some (.cells #[.string s, .slice eb dn ec] 59 (0, 0))) := heap_new Wc _
  have HBx : Hid ((Wc.alloc (Obj.cells #[.string s, .slice eb dn ec] 59)).heap[gx]? = some (.cells #[.string s, .slice da dn dc] 59 (0, 0))) := box_later (box_later HBa.out hb) (below1 _ _)
  have HRa : Hid (BRow (Wc.alloc (Obj.cells #[.string s, .slice eb dn ec] 59)) da dc m) := (HRa0.out.later hb).later (below1 _ _)
  have HRb : Hid (BRow (Wc.alloc (Obj.cells #[.string s, .slice eb dn ec] 59)) eb ec m) := hrb.later (below1 _ _)
  clear hb LWa HBa hD HRa0 hrb
  go_wp2_with fail
  generalize Wc.alloc (Obj.cells #[.string s, .slice eb dn ec] 59) = Wy at *
  generalize Wc.heap.size = gy at *
  have xa0 : Wy.cell? ⟨gx, 0, none⟩ = some (.string s) := (blk_at HBx.out 0).trans rfl
  have xa1 : Wy.cell? ⟨gx, 1, none⟩ = some (.slice da dn dc) := (blk_at HBx.out 1).trans rfl
  have ya0 : Wy.cell? ⟨gy, 0, none⟩ = some (.string s) := (blk_at HBb.out 0).trans rfl
  have ya1 : Wy.cell? ⟨gy, 1, none⟩ = some (.slice eb dn ec) := (blk_at HBb.out 1).trans rfl
  refine Calls.mono (HNum.out _ _) ?_
  rintro e W9 ⟨rfl, hw⟩
  rw [hw]; clear hw W9
  go_wp2_with fail
  refine Calls.mono (same9 da eb dc ec dn m Wy HRa.out HRb.out hd) ?_
  rintro e Wz ⟨rfl, hb⟩
  have LW : Hid (Lw w Wz g ao cap l) := LWc.out.later hb
  clear hb LWc HBx HBb HRa HRb xa0 ya0 xa1 ya1
  go_wp2
  have HW : Hid (Lw w Wz g ao cap l) := LW.out
  clear LW
  go_loopw [18] (fun iv wr => ∃ i : Nat, i ≤ 2 ∧ iv = .int .i64 (i : Nat) ∧ Hid (Lw w wr g ao cap l)) (fun iv _ => 2 - (intOf iv).toNat)
  case atStart => exact ⟨0, by decide, rfl, HW.out⟩
  case round =>
    obtain ⟨i, hi2, rfl, LW⟩ := hrel
    match i, hi2 with
    | 0, _ =>
      obtain ⟨c, rs, er, dn, hd, hP, hD⟩ := both_status0 l hl hs
      go_wp2_with fail
      refine Calls.mono (hP wr (some ⟨g, 0, none⟩) (n + 4) n (twin_brow LW.out.tw HL.out (by have := HS.out; omega) _) HN.out) ?_
      rintro e Wa ⟨da, dc, rfl, hra, hb⟩
      have LWa : Hid (Lw w (Wa.alloc (Obj.cells #[.int .u32 (c : Int), .slice da dn dc] 67)) g ao cap l) := (LW.out.later hb).later (below1 _ _)
      have HBa : Hid ((Wa.alloc (Obj.cells #[.int .u32 (c : Int), .slice da dn dc] 67)).heap[Wa.heap.size]? = some (.cells #[.int .u32 (c : Int), .slice da dn dc] 67 (0, 0))) := heap_new Wa _
      have HRa0 : Hid (Runs (Wa.alloc (Obj.cells #[.int .u32 (c : Int), .slice da dn dc] 67)) da rs) := hra.later (below1 _ _)
      clear hb LW hP hra
      go_wp2_with fail
      generalize Wa.alloc (Obj.cells #[.int .u32 (c : Int), .slice da dn dc] 67) = Wb at *
      generalize Wa.heap.size = gx at *
      refine Calls.mono (hD Wb ao cap n (HC.out.later LWa.out.bel) HN.out) ?_
      rintro e Wc ⟨eb, ec, rfl, hrb, hb⟩
      have LWc : Hid (Lw w (Wc.alloc (Obj.cells #[.int .u32 (c : Int), .slice eb dn ec] 67)) g ao cap l) := (LWa.out.later hb).later (below1 _ _)
      have HBb : Hid ((Wc.alloc (Obj.cells #[.int .u32 (c : Int), .slice eb dn ec] 67)).heap[Wc.heap.size]? = some (.cells #[.int .u32 (c : Int), .slice eb dn ec] 67 (0, 0))) := heap_new Wc _
      have HBx : Hid ((Wc.alloc (Obj.cells #[.int .u32 (c : Int), .slice eb dn ec] 67)).heap[gx]? = some (.cells #[.int .u32 (c : Int), .slice da dn dc] 67 (0, 0))) := box_later (box_later HBa.out hb) (below1 _ _)
      have HRa : Hid (Runs (Wc.alloc (Obj.cells #[.int .u32 (c : Int), .slice eb dn ec] 67)) da rs) := (HRa0.out.later hb).later (below1 _ _)
      have HRb : Hid (Runs (Wc.alloc (Obj.cells #[.int .u32 (c : Int), .slice eb dn ec] 67)) eb rs) := hrb.later (below1 _ _)
      clear hb LWa HBa hD HRa0 hrb
      go_wp2_with fail
      generalize Wc.alloc (Obj.cells #[.int .u32 (c : Int), .slice eb dn ec] 67) = Wy at *
      generalize Wc.heap.size = gy at *
      have xa0 : Wy.cell? ⟨gx, 0, none⟩ = some (.int .u32 (c : Int)) := (blk_at HBx.out 0).trans rfl
      have xa1 : Wy.cell? ⟨gx, 1, none⟩ = some (.slice da dn dc) := (blk_at HBx.out 1).trans rfl
      have ya0 : Wy.cell? ⟨gy, 0, none⟩ = some (.int .u32 (c : Int)) := (blk_at HBb.out 0).trans rfl
      have ya1 : Wy.cell? ⟨gy, 1, none⟩ = some (.slice eb dn ec) := (blk_at HBb.out 1).trans rfl
      refine Calls.mono (HNum.out _ _) ?_
      rintro e W9 ⟨rfl, hw⟩
      rw [hw]; clear hw W9
      go_wp2_with fail
      refine Calls.mono (runs_eq da eb dn dc ec rs Wy HRa.out HRb.out hd.1 (by omega)) ?_
      rintro e Wz ⟨rfl, hb⟩
      have LW : Hid (Lw w Wz g ao cap l) := LWc.out.later hb
      clear hb LWc HBx HBb HRa HRb xa0 ya0 xa1 ya1
      go_wp2
      go_roundw
      case rel => exact ⟨1, by decide, rfl, LW⟩
      case measure => simp [intOf]
    | 1, _ =>
      obtain ⟨c, rs, er, dn, hd, hP, hD⟩ := both_status1 l hl hs
      go_wp2_with fail
      refine Calls.mono (hP wr (some ⟨g, 0, none⟩) (n + 4) n (twin_brow LW.out.tw HL.out (by have := HS.out; omega) _) HN.out) ?_
      rintro e Wa ⟨da, dc, rfl, hra, hb⟩
      have LWa : Hid (Lw w (Wa.alloc (Obj.cells #[.int .u32 (c : Int), .slice da dn dc] 67)) g ao cap l) := (LW.out.later hb).later (below1 _ _)
      have HBa : Hid ((Wa.alloc (Obj.cells #[.int .u32 (c : Int), .slice da dn dc] 67)).heap[Wa.heap.size]? = some (.cells #[.int .u32 (c : Int), .slice da dn dc] 67 (0, 0))) := heap_new Wa _
      have HRa0 : Hid (Runs (Wa.alloc (Obj.cells #[.int .u32 (c : Int), .slice da dn dc] 67)) da rs) := hra.later (below1 _ _)
      clear hb LW hP hra
      go_wp2_with fail
      generalize Wa.alloc (Obj.cells #[.int .u32 (c : Int), .slice da dn dc] 67) = Wb at *
      generalize Wa.heap.size = gx at *
      refine Calls.mono (hD Wb ao cap n (HC.out.later LWa.out.bel) HN.out) ?_
      rintro e Wc ⟨eb, ec, rfl, hrb, hb⟩
      have LWc : Hid (Lw w (Wc.alloc (Obj.cells #[.int .u32 (c : Int), .slice eb dn ec] 67)) g ao cap l) := (LWa.out.later hb).later (below1 _ _)
      have HBb : Hid ((Wc.alloc (Obj.cells #[.int .u32 (c : Int), .slice eb dn ec] 67)).heap[Wc.heap.size]? = some (.cells #[.int .u32 (c : Int), .slice eb dn ec] 67 (0, 0))) := heap_new Wc _
      have HBx : Hid ((Wc.alloc (Obj.cells #[.int .u32 (c : Int), .slice eb dn ec] 67)).heap[gx]? = some (.cells #[.int .u32 (c : Int), .slice da dn dc] 67 (0, 0))) := box_later (box_later HBa.out hb) (below1 _ _)
      have HRa : Hid (Runs (Wc.alloc (Obj.cells #[.int .u32 (c : Int), .slice eb dn ec] 67)) da rs) := (HRa0.out.later hb).later (below1 _ _)
      have HRb : Hid (Runs (Wc.alloc (Obj.cells #[.int .u32 (c : Int), .slice eb dn ec] 67)) eb rs) := hrb.later (below1 _ _)
      clear hb LWa HBa hD HRa0 hrb
      go_wp2_with fail
      generalize Wc.alloc (Obj.cells #[.int .u32 (c : Int), .slice eb dn ec] 67) = Wy at *
      generalize Wc.heap.size = gy at *
      have xa0 : Wy.cell? ⟨gx, 0, none⟩ = some (.int .u32 (c : Int)) := (blk_at HBx.out 0).trans rfl
      have xa1 : Wy.cell? ⟨gx, 1, none⟩ = some (.slice da dn dc) := (blk_at HBx.out 1).trans rfl
      have ya0 : Wy.cell? ⟨gy, 0, none⟩ = some (.int .u32 (c : Int)) := (blk_at HBb.out 0).trans rfl
      have ya1 : Wy.cell? ⟨gy, 1, none⟩ = some (.slice eb dn ec) := (blk_at HBb.out 1).trans rfl
      refine Calls.mono (HNum.out _ _) ?_
      rintro e W9 ⟨rfl, hw⟩
      rw [hw]; clear hw W9
      go_wp2_with fail
      refine Calls.mono (runs_eq da eb dn dc ec rs Wy HRa.out HRb.out hd.1 (by omega)) ?_
      rintro e Wz ⟨rfl, hb⟩
      have LW : Hid (Lw w Wz g ao cap l) := LWc.out.later hb
      clear hb LWc HBx HBb HRa HRb xa0 ya0 xa1 ya1
      go_wp2
      go_roundw
      case rel => exact ⟨2, by decide, rfl, LW⟩
      case measure => simp [intOf]
    | 2, _ =>
      obtain ⟨c, s, pl, a, er, hP, hD⟩ := both_error placed l hl hs
      go_wp2_with fail
      refine Calls.mono (hP wr (some ⟨g, 0, none⟩) (n + 4) n (twin_brow LW.out.tw HL.out (by have := HS.out; omega) _) HN.out (HT.out.later LW.out.bel)) ?_
      rintro e Wa ⟨rfl, hb⟩
      have LWa : Hid (Lw w (Wa.alloc (Obj.cells #[.int .u32 (c : Int), .string s, .bool pl, .int .u64 (a : Int)] 74)) g ao cap l) := (LW.out.later hb).later (below1 _ _)
      have HBa : Hid ((Wa.alloc (Obj.cells #[.int .u32 (c : Int), .string s, .bool pl, .int .u64 (a : Int)] 74)).heap[Wa.heap.size]? = some (.cells #[.int .u32 (c : Int), .string s, .bool pl, .int .u64 (a : Int)] 74 (0, 0))) := heap_new Wa _
      clear hb LW hP 
      go_wp2_with fail
      generalize Wa.alloc (Obj.cells #[.int .u32 (c : Int), .string s, .bool pl, .int .u64 (a : Int)] 74) = Wb at *
      generalize Wa.heap.size = gx at *
      refine Calls.mono (hD Wb ao cap n (HC.out.later LWa.out.bel) HN.out) ?_
      rintro e Wc ⟨rfl, hb⟩
      have LWc : Hid (Lw w (Wc.alloc (Obj.cells #[.int .u32 (c : Int), .string s, .bool pl, .int .u64 (a : Int)] 74)) g ao cap l) := (LWa.out.later hb).later (below1 _ _)
      have HBb : Hid ((Wc.alloc (Obj.cells #[.int .u32 (c : Int), .string s, .bool pl, .int .u64 (a : Int)] 74)).heap[Wc.heap.size]? = some (.cells #[.int .u32 (c : Int), .string s, .bool pl, .int .u64 (a : Int)] 74 (0, 0))) := heap_new Wc _
      have HBx : Hid ((Wc.alloc (Obj.cells #[.int .u32 (c : Int), .string s, .bool pl, .int .u64 (a : Int)] 74)).heap[gx]? = some (.cells #[.int .u32 (c : Int), .string s, .bool pl, .int .u64 (a : Int)] 74 (0, 0))) := box_later (box_later HBa.out hb) (below1 _ _)
      clear hb LWa HBa hD 
      go_wp2_with fail
      generalize Wc.alloc (Obj.cells #[.int .u32 (c : Int), .string s, .bool pl, .int .u64 (a : Int)] 74) = Wy at *
      generalize Wc.heap.size = gy at *
      have xa0 : Wy.cell? ⟨gx, 0, none⟩ = some (.int .u32 (c : Int)) := (blk_at HBx.out 0).trans rfl
      have xa1 : Wy.cell? ⟨gx, 1, none⟩ = some (.string s) := (blk_at HBx.out 1).trans rfl
      have xa2 : Wy.cell? ⟨gx, 2, none⟩ = some (.bool pl) := (blk_at HBx.out 2).trans rfl
      have xa3 : Wy.cell? ⟨gx, 3, none⟩ = some (.int .u64 (a : Int)) := (blk_at HBx.out 3).trans rfl
      have ya0 : Wy.cell? ⟨gy, 0, none⟩ = some (.int .u32 (c : Int)) := (blk_at HBb.out 0).trans rfl
      have ya1 : Wy.cell? ⟨gy, 1, none⟩ = some (.string s) := (blk_at HBb.out 1).trans rfl
      have ya2 : Wy.cell? ⟨gy, 2, none⟩ = some (.bool pl) := (blk_at HBb.out 2).trans rfl
      have ya3 : Wy.cell? ⟨gy, 3, none⟩ = some (.int .u64 (a : Int)) := (blk_at HBb.out 3).trans rfl
      refine Calls.mono (HNum.out _ _) ?_
      rintro e W9 ⟨rfl, hw⟩
      rw [hw]; clear hw W9
      have LW : Hid (Lw w Wy g ao cap l) := LWc.out
      clear LWc HBx HBb
      obtain ⟨o, m, er, dn, hd, hP, hD⟩ := both_data l hl hs
      go_wp2_with fail
      refine Calls.mono (hP Wy (some ⟨g, 0, none⟩) (n + 4) n (twin_brow LW.out.tw HL.out (by have := HS.out; omega) _) HN.out) ?_
      rintro e Wa ⟨da, dc, rfl, hra, hb⟩
      have LWa : Hid (Lw w (Wa.alloc (Obj.cells #[.int .u64 (o : Int), .slice da dn dc] 80)) g ao cap l) := (LW.out.later hb).later (below1 _ _)
      have HBa : Hid ((Wa.alloc (Obj.cells #[.int .u64 (o : Int), .slice da dn dc] 80)).heap[Wa.heap.size]? = some (.cells #[.int .u64 (o : Int), .slice da dn dc] 80 (0, 0))) := heap_new Wa _
      have HRa0 : Hid (BRow (Wa.alloc (Obj.cells #[.int .u64 (o : Int), .slice da dn dc] 80)) da dc m) := hra.later (below1 _ _)
      clear hb LW hP hra
      go_wp2_with fail
      generalize Wa.alloc (Obj.cells #[.int .u64 (o : Int), .slice da dn dc] 80) = Wb at *
      generalize Wa.heap.size = gx at *
      refine Calls.mono (hD Wb ao cap n (HC.out.later LWa.out.bel) HN.out) ?_
      rintro e Wc ⟨eb, ec, rfl, hrb, hb⟩
      have LWc : Hid (Lw w (Wc.alloc (Obj.cells #[.int .u64 (o : Int), .slice eb dn ec] 80)) g ao cap l) := (LWa.out.later hb).later (below1 _ _)
      have HBb : Hid ((Wc.alloc (Obj.cells #[.int .u64 (o : Int), .slice eb dn ec] 80)).heap[Wc.heap.size]? = some (.cells #[.int .u64 (o : Int), .slice eb dn ec] 80 (0, 0))) := heap_new Wc _
      have HBx : Hid ((Wc.alloc (Obj.cells #[.int .u64 (o : Int), .slice eb dn ec] 80)).heap[gx]? = some (.cells #[.int .u64 (o : Int), .slice da dn dc] 80 (0, 0))) := box_later (box_later HBa.out hb) (below1 _ _)
      have HRa : Hid (BRow (Wc.alloc (Obj.cells #[.int .u64 (o : Int), .slice eb dn ec] 80)) da dc m) := (HRa0.out.later hb).later (below1 _ _)
      have HRb : Hid (BRow (Wc.alloc (Obj.cells #[.int .u64 (o : Int), .slice eb dn ec] 80)) eb ec m) := hrb.later (below1 _ _)
      clear hb LWa HBa hD HRa0 hrb
      go_wp2_with fail
      generalize Wc.alloc (Obj.cells #[.int .u64 (o : Int), .slice eb dn ec] 80) = Wy at *
      generalize Wc.heap.size = gy at *
      have xa0 : Wy.cell? ⟨gx, 0, none⟩ = some (.int .u64 (o : Int)) := (blk_at HBx.out 0).trans rfl
      have xa1 : Wy.cell? ⟨gx, 1, none⟩ = some (.slice da dn dc) := (blk_at HBx.out 1).trans rfl
      have ya0 : Wy.cell? ⟨gy, 0, none⟩ = some (.int .u64 (o : Int)) := (blk_at HBb.out 0).trans rfl
      have ya1 : Wy.cell? ⟨gy, 1, none⟩ = some (.slice eb dn ec) := (blk_at HBb.out 1).trans rfl
      refine Calls.mono (HNum.out _ _) ?_
      rintro e W9 ⟨rfl, hw⟩
      rw [hw]; clear hw W9
      go_wp2_with fail
      refine Calls.mono (same9 da eb dc ec dn m Wy HRa.out HRb.out hd) ?_
      rintro e Wz ⟨rfl, hb⟩
      have LW : Hid (Lw w Wz g ao cap l) := LWc.out.later hb
      clear hb LWc HBx HBb HRa HRb xa0 ya0 xa1 ya1
      obtain ⟨o, k, er, hP, hD⟩ := both_hole l hl hs
      go_wp2_with fail
      refine Calls.mono (hP Wz (some ⟨g, 0, none⟩) (n + 4) n (twin_brow LW.out.tw HL.out (by have := HS.out; omega) _) HN.out) ?_
      rintro e Wa ⟨rfl, hb⟩
      have LWa : Hid (Lw w (Wa.alloc (Obj.cells #[.int .u64 (o : Int), .int .u32 (k : Int)] 86)) g ao cap l) := (LW.out.later hb).later (below1 _ _)
      have HBa : Hid ((Wa.alloc (Obj.cells #[.int .u64 (o : Int), .int .u32 (k : Int)] 86)).heap[Wa.heap.size]? = some (.cells #[.int .u64 (o : Int), .int .u32 (k : Int)] 86 (0, 0))) := heap_new Wa _
      clear hb LW hP 
      go_wp2_with fail
      generalize Wa.alloc (Obj.cells #[.int .u64 (o : Int), .int .u32 (k : Int)] 86) = Wb at *
      generalize Wa.heap.size = gx at *
      refine Calls.mono (hD Wb ao cap n (HC.out.later LWa.out.bel) HN.out) ?_
      rintro e Wc ⟨rfl, hb⟩
      have LWc : Hid (Lw w (Wc.alloc (Obj.cells #[.int .u64 (o : Int), .int .u32 (k : Int)] 86)) g ao cap l) := (LWa.out.later hb).later (below1 _ _)
      have HBb : Hid ((Wc.alloc (Obj.cells #[.int .u64 (o : Int), .int .u32 (k : Int)] 86)).heap[Wc.heap.size]? = some (.cells #[.int .u64 (o : Int), .int .u32 (k : Int)] 86 (0, 0))) := heap_new Wc _
      have HBx : Hid ((Wc.alloc (Obj.cells #[.int .u64 (o : Int), .int .u32 (k : Int)] 86)).heap[gx]? = some (.cells #[.int .u64 (o : Int), .int .u32 (k : Int)] 86 (0, 0))) := box_later (box_later HBa.out hb) (below1 _ _)
      clear hb LWa HBa hD 
      go_wp2_with fail
      generalize Wc.alloc (Obj.cells #[.int .u64 (o : Int), .int .u32 (k : Int)] 86) = Wy at *
      generalize Wc.heap.size = gy at *
      have xa0 : Wy.cell? ⟨gx, 0, none⟩ = some (.int .u64 (o : Int)) := (blk_at HBx.out 0).trans rfl
      have xa1 : Wy.cell? ⟨gx, 1, none⟩ = some (.int .u32 (k : Int)) := (blk_at HBx.out 1).trans rfl
      have ya0 : Wy.cell? ⟨gy, 0, none⟩ = some (.int .u64 (o : Int)) := (blk_at HBb.out 0).trans rfl
      have ya1 : Wy.cell? ⟨gy, 1, none⟩ = some (.int .u32 (k : Int)) := (blk_at HBb.out 1).trans rfl
      refine Calls.mono (HNum.out _ _) ?_
      rintro e W9 ⟨rfl, hw⟩
      rw [hw]; clear hw W9
      have LW : Hid (Lw w Wy g ao cap l) := LWc.out
      clear LWc HBx HBb
      have HKp : Hid _ := kept_any g ao cap n l Wy LW.out.tw (HC.out.row.later LW.out.bel) HN (by have := HS.out; have := HN.out; omega)
      go_wp2_with fail
      refine Calls.mono HKp.out ?_
      rintro e Wk ⟨rfl, hb⟩
      have LWk : Hid (Lw w Wk g ao cap l) := LW.out.later hb
      clear hb LW HKp
      go_wp2_with fail
      refine Calls.mono (alive_any Wk (HTb.out.later LWk.out.bel)) ?_
      rintro e Wl ⟨rfl, hb⟩
      have HBz : Hid (Below w.heap.size w Wl) := LWk.out.bel.trans (hb.mono LWk.out.bel.size)
      clear hb
      go_wp2
      go_ret
      exact ⟨rfl, HBz.out⟩
end Go.Proofs.YtfifaaopdhcaaaaGreatDoor
