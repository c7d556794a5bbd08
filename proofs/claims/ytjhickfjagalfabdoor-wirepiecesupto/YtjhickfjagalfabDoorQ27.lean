import Derived.Test.YtjhickfjagalfabDoorQ16
import Derived.Test.YtjhickfjagalfabDoorQ17
import Derived.Test.YtjhickfjagalfabDoorQ23
import Derived.Test.YtjhickfjagalfabDoorQ25
import Derived.Deep.RegionHeld3
namespace Go.Proofs.YtjhickfjagalfabDoor
open Go.RowKit
set_option linter.unusedVariables false
set_option linter.unusedSimpArgs false
set_option maxRecDepth 100000
set_option maxHeartbeats 16000000 in
theorem told1 (ao : Option Addr) (cap : Nat) (l : List Nat) (most : Nat) (w : World) (h : CRow w ao cap l) (hn : l.length ≤ 1048576) (hm4 : most < 4294967296) :
    Calls Tryd.prog 8 #[.int .i64 1, .slice ao l.length cap, .int .u32 (most : Int)] w fun e w' => ∃ (N E : Nat) (m : List Nat) (ao3 : Option Addr) (cap3 : Nat), e = .returned (.agg #[.int .i64 (N : Int), .int .i64 (E : Int), .slice ao3 m.length cap3]) ∧ toD 1 most l = (N, E, m) ∧ Row w w' ao3 cap3 m := by
  have HNum : Hid (∀ (e : Int) (w : World), Calls Tryd.prog 15 #[.int .i64 e] w fun r w' => r = .returned (.int .i64 e) ∧ w' = w) := num_any
  obtain ⟨W0, hW0⟩ : ∃ W0, W0 = w.alloc (.cells #[.int .i64 0, .int .i64 0, nilV] 25) := ⟨_, rfl⟩
  have HS : Hid (Sb w W0 (.cells #[.int .i64 0, .int .i64 0, nilV] 25 (0, 0))) := by show Sb _ _ _; rw [hW0]; exact Sb.new w _ _
  have HC : Hid (CRow w ao cap l ∧ l.length ≤ 1048576) := ⟨h, hn⟩
  clear h hn
  go_enter Tryd.func8, Tryd.ntmps8
  go_wp2_with fail
  rw [← hW0]
  clear hW0
  refine (decFlagsA ao cap l _ (HC.out.1.later HS.out.bel)).mono ?_
  rintro e W1 ⟨f, n, er, rfl, hD, hb⟩
  have hbd := flaD_b HC.out.1.row.lt
  rw [hD] at hbd
  simp only at hbd
  have HD : Hid _ := hD
  have HBD : Hid _ := hbd
  clear hD hbd
  replace HS : Hid _ := HS.out.next hb
  clear hb
  obtain ⟨m, HM⟩ : ∃ m, Hid (m = bigTo f 4 4) := ⟨_, rfl⟩
  have HE : Hid (∀ q, Calls Tryd.prog 33 #[.int .u32 (f : Int)] (W1.drewN q) fun e w' => ∃ ao3 cap3, e = .returned (.slice ao3 m.length cap3) ∧ Row W1 w' ao3 cap3 m) := fun q => by
    have hbd := HBD.out
    refine Calls.mono (encFlags f _ hbd) ?_
    rintro e w' ⟨ao3, cap3, rfl, hr⟩
    rw [← HM.out] at hr
    exact ⟨ao3, cap3, by rw [HM.out, bigTo_length f 4 4], ⟨hr.own, hr.lt, ⟨hr.bel.os, hr.bel.tape, hr.bel.output, hr.bel.size, hr.bel.block⟩⟩⟩
  go_wp2_with fail
  refine (HNum.out _ _).mono ?_
  rintro e wn ⟨rfl, hw⟩
  rw [hw]; clear hw wn
  go_wp2_with fail
  refine (HE.out 0).mono ?_
  rintro e W2 ⟨ao3, cap3, rfl, hr⟩
  have HRw : Hid (Row W1 W2 ao3 cap3 m) := hr
  have HBs : Hid (w.heap.size < W1.heap.size) := block_lt HS.out.b0
  replace HS : Hid _ := HS.out.next hr.bel
  clear hr HE
  have c00 := blk_at HS.out.b0 0
  have f00 := blk_free HS.out.b0 0
  have c01 := blk_at HS.out.b0 1
  have f01 := blk_free HS.out.b0 1
  have c02 := blk_at HS.out.b0 2
  have f02 := blk_free HS.out.b0 2
  simp at c00 c01 c02
  go_wp2
  obtain ⟨HG, HB2, HO2⟩ := closen3 HS.out.b0 HS.out.bel HRw.out.own HBs.out (.int .i64 (n : Int)) (.int .i64 (er : Int)) (.slice ao3 m.length cap3)
  generalize (((W2.setCell ⟨w.heap.size, 0, none⟩ (.int .i64 (n : Int))).setCell ⟨w.heap.size, 1, none⟩ (.int .i64 (er : Int))).setCell ⟨w.heap.size, 2, none⟩ (.slice ao3 m.length cap3)) = Wz at HG HB2 HO2 ⊢
  have hto : toD 1 most l = (n, er, m) := by rw [HM.out]; unfold toD; rw [HD.out]; rfl
  exact bodyPost_ret (results_cell_one rfl _ Wz w.heap.size 25 #[.int .i64 (n : Int), .int .i64 (er : Int), .slice ao3 m.length cap3] (0, 0) _ rfl HG Tryd.underlying25 rfl infoT) rfl ⟨n, er, m, ao3, cap3, rfl, hto, owns_mono HO2 (Nat.le_of_lt HBs.out), HRw.out.lt, HB2⟩
end Go.Proofs.YtjhickfjagalfabDoor
