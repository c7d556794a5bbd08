import Derived.Test.YtjhickfjagalfabDoorQ16
import Derived.Test.YtjhickfjagalfabDoorQ17
import Derived.Test.YtjhickfjagalfabDoorQ42
import Derived.Test.YtjhickfjagalfabDoorQ25
import Derived.Deep.RegionHeld3
namespace Go.Proofs.YtjhickfjagalfabDoor
open Go.RowKit
set_option linter.unusedVariables false
set_option linter.unusedSimpArgs false
set_option maxRecDepth 100000
set_option maxHeartbeats 16000000 in
theorem told9 (ao : Option Addr) (cap : Nat) (l : List Nat) (most : Nat) (w : World) (h : CRow w ao cap l) (hn : l.length ≤ 1048576) (hm4 : most < 4294967296) :
    Calls Tryd.prog 8 #[.int .i64 9, .slice ao l.length cap, .int .u32 (most : Int)] w fun e w' => ∃ (N E : Nat) (m : List Nat) (ao3 : Option Addr) (cap3 : Nat), e = .returned (.agg #[.int .i64 (N : Int), .int .i64 (E : Int), .slice ao3 m.length cap3]) ∧ toD 9 most l = (N, E, m) ∧ Row w w' ao3 cap3 m := by
  have HNum : Hid (∀ (e : Int) (w : World), Calls Tryd.prog 15 #[.int .i64 e] w fun r w' => r = .returned (.int .i64 e) ∧ w' = w) := num_any
  obtain ⟨W0, hW0⟩ : ∃ W0, W0 = w.alloc (.cells #[.int .i64 0, .int .i64 0, nilV] 25) := ⟨_, rfl⟩
  have HS : Hid (Sb w W0 (.cells #[.int .i64 0, .int .i64 0, nilV] 25 (0, 0))) := by show Sb _ _ _; rw [hW0]; exact Sb.new w _ _
  have HC : Hid (CRow w ao cap l ∧ l.length ≤ 1048576) := ⟨h, hn⟩
  clear h hn
  go_enter Tryd.func8, Tryd.ntmps8
  go_wp2_with fail
  rw [← hW0]
  clear hW0
  refine (decChunkA ao cap l most false _ (HC.out.1.later HS.out.bel) hm4).mono ?_
  rintro e W1 ⟨f, t, c, o, d, n, er, ao2, cap2, rfl, hD, hb⟩
  have hbd := chkD_b HC.out.1.row.lt most false
  rw [hD] at hbd
  simp only at hbd
  have HD : Hid _ := hD
  have HBD : Hid _ := hbd
  clear hD hbd
  have HLd : Hid (d.length ≤ 1048576) := by have h1 := HC.out.2; have h2 := HBD.out; show d.length ≤ _; omega
  have HRo : Hid (BRow W1 ao2 cap2 d) := hb.brow (by have := HLd.out; omega)
  replace hb := hb.bel
  replace HS : Hid _ := HS.out.next hb
  clear hb
  obtain ⟨V, hV⟩ : ∃ V, V = W1.alloc (.cells #[.int .u16 (f : Int), .int .u16 (t : Int), .int .u64 (c : Int), .int .u64 (o : Int), .slice ao2 d.length cap2] 125) := ⟨_, rfl⟩
  obtain ⟨g, hg⟩ : ∃ g, g = W1.heap.size := ⟨_, rfl⟩
  have hal : Below W1.heap.size W1 V := by rw [hV]; exact (Below.refl _ _).alloc (Nat.le_refl _) _
  replace HS : Hid (Sx w V (.cells #[.int .i64 0, .int .i64 0, nilV] 25 (0, 0)) g #[.int .u16 (f : Int), .int .u16 (t : Int), .int .u64 (c : Int), .int .u64 (o : Int), .slice ao2 d.length cap2] 125) := by show Sx _ _ _ _ _ _; rw [hV, hg]; exact HS.out.box _ _
  have hgn : ¬ (g = w.heap.size) := by have := HS.out.gl; omega
  have hgm : ¬ (w.heap.size = g) := by have := HS.out.gl; omega
  have HRv : Hid (BRow V ao2 cap2 d) := HRo.out.later hal
  clear HRo
  clear hal
  obtain ⟨m, HM⟩ : ∃ m, Hid (m = kC f t c o d false) := ⟨_, rfl⟩
  have HE : Hid (∀ q, Calls Tryd.prog 45 #[.agg #[.int .u16 (f : Int), .int .u16 (t : Int), .int .u64 (c : Int), .int .u64 (o : Int), .slice ao2 d.length cap2], .bool false] (V.drewN q) fun e w' => ∃ ao3 cap3, e = .returned (.slice ao3 m.length cap3) ∧ Row V w' ao3 cap3 m) := fun q => by
    have hbd := HBD.out
    have HBR : BRow (V.drewN q) ao2 cap2 d := HRv.out.drewN q
    have hld := HLd.out
    refine Calls.mono (encChunkC f t c o ao2 cap2 d false _ hbd.1 hbd.2.1 hbd.2.2.1 hbd.2.2.2.1 HBR (by omega)) ?_
    rintro e w' ⟨ao3, cap3, rfl, hr⟩
    rw [← HM.out] at hr
    exact ⟨ao3, cap3, by rw [HM.out], ⟨hr.own, hr.lt, ⟨hr.bel.os, hr.bel.tape, hr.bel.output, hr.bel.size, hr.bel.block⟩⟩⟩
  have c20 := blk_at HS.out.b2 0
  have c21 := blk_at HS.out.b2 1
  have c22 := blk_at HS.out.b2 2
  have c23 := blk_at HS.out.b2 3
  have c24 := blk_at HS.out.b2 4
  simp at c20 c21 c22 c23 c24
  have HK2 : Hid (∀ W : World, Sx w W (.cells #[.int .i64 0, .int .i64 0, nilV] 25 (0, 0)) g #[.int .u16 (f : Int), .int .u16 (t : Int), .int .u64 (c : Int), .int .u64 (o : Int), .slice ao2 d.length cap2] 125 → W.cell? ⟨g, 0, none⟩ = some (.int .u16 (f : Int)) ∧ W.cell? ⟨g, 1, none⟩ = some (.int .u16 (t : Int)) ∧ W.cell? ⟨g, 2, none⟩ = some (.int .u64 (c : Int)) ∧ W.cell? ⟨g, 3, none⟩ = some (.int .u64 (o : Int)) ∧ W.cell? ⟨g, 4, none⟩ = some (.slice ao2 d.length cap2)) := fun W h => ⟨blk_at h.b2 0, blk_at h.b2 1, blk_at h.b2 2, blk_at h.b2 3, blk_at h.b2 4⟩
  have HBs : Hid (w.heap.size < V.heap.size) := block_lt HS.out.b0
  go_wp2
  rw [← hV, ← hg]
  clear hV hg
  go_region_held3 (fun w' => w'.cell? ⟨g, 0, none⟩ = some (.int .u16 (f : Int)) ∧ w'.cell? ⟨g, 1, none⟩ = some (.int .u16 (t : Int)) ∧ w'.cell? ⟨g, 2, none⟩ = some (.int .u64 (c : Int)) ∧ w'.cell? ⟨g, 3, none⟩ = some (.int .u64 (o : Int)) ∧ w'.cell? ⟨g, 4, none⟩ = some (.slice ao2 d.length cap2)) (first | exact HK2.out _ HS2.out | go_keep) (first | (go_at_call 15; refine (HNum.out _ _).mono ?_; rintro e wn ⟨rfl, hw⟩; rw [hw]; clear hw wn) | (go_at_call 45; refine (HE.out _).mono ?_; rintro e W2 ⟨ao3, cap3, rfl, hr⟩; have HRw : Hid (Row V W2 ao3 cap3 m) := hr; have HS2 : Hid (Sx w W2 (.cells #[.int .i64 0, .int .i64 0, nilV] 25 (0, 0)) g #[.int .u16 (f : Int), .int .u16 (t : Int), .int .u64 (c : Int), .int .u64 (o : Int), .slice ao2 d.length cap2] 125) := HS.out.next hr.bel; have c00 := blk_at HS2.out.b0 0; have c01 := blk_at HS2.out.b0 1; have c02 := blk_at HS2.out.b0 2; have f00 := blk_free HS2.out.b0 0; have f01 := blk_free HS2.out.b0 1; have f02 := blk_free HS2.out.b0 2; simp at c00 c01 c02; clear hr))
  go_wp2
  replace HS := HS2
  obtain ⟨HG, HB2, HO2⟩ := closen3 HS.out.b0 HS.out.bel HRw.out.own HBs.out (.int .i64 (n : Int)) (.int .i64 (er : Int)) (.slice ao3 m.length cap3)
  generalize (((W2.setCell ⟨w.heap.size, 0, none⟩ (.int .i64 (n : Int))).setCell ⟨w.heap.size, 1, none⟩ (.int .i64 (er : Int))).setCell ⟨w.heap.size, 2, none⟩ (.slice ao3 m.length cap3)) = Wz at HG HB2 HO2 ⊢
  have hto : toD 9 most l = (n, er, m) := by rw [HM.out]; unfold toD; rw [HD.out]; rfl
  exact bodyPost_ret (results_cell_one rfl _ Wz w.heap.size 25 #[.int .i64 (n : Int), .int .i64 (er : Int), .slice ao3 m.length cap3] (0, 0) _ rfl HG Tryd.underlying25 rfl infoT) rfl ⟨n, er, m, ao3, cap3, rfl, hto, owns_mono HO2 (Nat.le_of_lt HBs.out), HRw.out.lt, HB2⟩
end Go.Proofs.YtjhickfjagalfabDoor
