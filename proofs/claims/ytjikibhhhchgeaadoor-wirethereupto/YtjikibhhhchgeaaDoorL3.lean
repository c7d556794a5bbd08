import Derived.Test.YtjikibhhhchgeaaDoorL1
import Derived.Test.YtjikibhhhchgeaaDoorL2
namespace Go.Proofs.YtjikibhhhchgeaaDoor
open Go.RowKit
set_option linter.unusedVariables false
set_option linter.unusedSimpArgs false
set_option maxRecDepth 100000
theorem ndE_01 (b : Bool) {e : Nat} (h : e = 0 ∨ e = 81) : ndE b e = 0 ∨ ndE b e = 81 := by
  rcases h with rfl | rfl <;> cases b <;> simp [ndE]
/-- how UnpackMeta ends -/
def mtE (l : List Nat) : Nat := ndE (decide (raA l (raA l 0 4) (l.length - raA l 0 4) = l.length)) (ndE (tx (bstr (rrL l (raA l 0 4) (l.length - raA l 0 4)))) (ndE (okR l (raA l 0 4) (l.length - raA l 0 4)) (ndE (okR l 0 4) 0)))
theorem mtE_or (l : List Nat) : mtE l = 0 ∨ mtE l = 81 := ndE_01 _ (ndE_01 _ (ndE_01 _ (ndE_01 _ (.inl rfl))))
set_option maxHeartbeats 4000000 in
theorem unpackMeta_ok (ao : Option Addr) (cap N : Nat) (l : List Nat) (w : World) (h : BRow w ao cap l) (hN : l.length = N) (hT : Tabs w) (hfin : mtE l = 0) :
    Calls Tryd.prog 18 #[.slice ao N cap] w fun e w' => e = .returned (.tuple #[.agg #[.int .u32 ((rvV l 0 4 : Nat) : Int), .string (bstr (rrL l (raA l 0 4) (l.length - raA l 0 4)))], .int .i64 0]) ∧ Below w.heap.size w w' := by
  have HUp : Hid (∀ W, Below w.heap.size w W → Calls Tryd.prog 52 #[.slice ao N cap] W fun e w' => ∃ c r ao' cap', e = .returned (.pointer (some ⟨c, 0, none⟩)) ∧ Bg W w' c r ao' cap' l 0 0) := fun W hb => unpackG ao cap N l W (h.later hb) hN
  have HFn : Hid (ndE (decide (raA l (raA l 0 4) (l.length - raA l 0 4) = l.length)) (ndE (tx (bstr (rrL l (raA l 0 4) (l.length - raA l 0 4)))) (ndE (okR l (raA l 0 4) (l.length - raA l 0 4)) (ndE (okR l 0 4) 0))) = 0) := hfin
  have HT : Hid (Tabs w) := hT
  clear h hN hfin hT
  obtain ⟨V, hV⟩ : ∃ V, rvV l 0 4 = V := ⟨_, rfl⟩
  obtain ⟨a1, ha1⟩ : ∃ a1, raA l 0 4 = a1 := ⟨_, rfl⟩
  obtain ⟨e1, he1⟩ : ∃ e1, ndE (okR l 0 4) 0 = e1 := ⟨_, rfl⟩
  rw [ha1, he1] at HFn
  rw [ha1, hV]
  obtain ⟨nn, hnn⟩ : ∃ nn, l.length - a1 = nn := ⟨_, rfl⟩
  rw [hnn] at HFn ⊢
  obtain ⟨s, hs⟩ : ∃ s, bstr (rrL l a1 nn) = s := ⟨_, rfl⟩
  rw [hs] at HFn ⊢
  obtain ⟨a2, ha2⟩ : ∃ a2, raA l a1 nn = a2 := ⟨_, rfl⟩
  obtain ⟨e2, he2⟩ : ∃ e2, ndE (tx s) (ndE (okR l a1 nn) e1) = e2 := ⟨_, rfl⟩
  rw [ha2, he2] at HFn
  have HV : Hid (rvV l 0 4 = V ∧ raA l 0 4 = a1 ∧ ndE (okR l 0 4) 0 = e1) := ⟨hV, ha1, he1⟩
  have HNN : Hid (l.length - a1 = nn) := hnn
  have HV2 : Hid (bstr (rrL l a1 nn) = s ∧ raA l a1 nn = a2 ∧ ndE (tx s) (ndE (okR l a1 nn) e1) = e2) := ⟨hs, ha2, he2⟩
  clear hV ha1 he1 hs ha2 he2 hnn
  go_enter Tryd.func18, Tryd.ntmps18
  go_wp2_with fail
  have hx := mkb1 w #[.int .u32 0, .string ⟨#[]⟩] 35
  generalize w.alloc (Obj.cells #[.int .u32 0, .string ⟨#[]⟩] 35) = W0 at *
  refine (HUp.out _ hx.bel).mono ?_
  rintro e W1 ⟨c, r, ao', cap', rfl, hbd⟩
  have HX : Hid (Bx1 w W0 #[.int .u32 0, .string ⟨#[]⟩] 35) := hx
  have HT0 : Hid (Tabs W0) := HT.out.later hx.bel
  have H1 : Hid (Bg W0 W1 c r ao' cap' l 0 0) := hbd
  clear hx hbd HUp HT
  go_wp2_with fail
  have hc1 := bu32G H1.out
  rw [HV.out.1, HV.out.2.1, HV.out.2.2] at hc1
  refine hc1.mono ?_
  rintro e W2 ⟨rfl, hbd, _⟩
  have H2 : Hid (Bg W0 W2 c r ao' cap' l a1 e1) := hbd
  clear hbd H1 hc1
  go_wp2_with fail
  have h3 : Bg W0 (W2.alloc (Obj.cells #[.int .u32 (V : Int), .string ⟨#[]⟩] 35)) c r ao' cap' l a1 e1 := H2.out.later (below1 W2 _)
  have eb3 := heap_new W2 (Obj.cells #[.int .u32 (V : Int), .string ⟨#[]⟩] 35)
  have HG : Hid (W0.heap.size ≤ W2.heap.size) := H2.out.bel.size
  generalize W2.alloc (Obj.cells #[.int .u32 (V : Int), .string ⟨#[]⟩] 35) = W3 at *
  generalize W2.heap.size = ge at *
  refine (bleftG h3 HNN.out).mono ?_
  rintro e W4 ⟨rfl, q, hw⟩
  have h4 : Bg W0 W4 c r ao' cap' l a1 e1 ∧ W4.heap[ge]? = some (.cells #[.int .u32 (V : Int), .string ⟨#[]⟩] 35 (0, 0)) := by rw [hw]; exact ⟨h3.later (below_drewN _ q), eb3⟩
  have H4 : Hid _ := h4
  clear h3 eb3 hw H2 h4
  go_wp2_with fail
  have hc7 := brawTextG nn H4.out.1 HT0.out
  rw [HV2.out.1, HV2.out.2.1, HV2.out.2.2] at hc7
  refine hc7.mono ?_
  rintro e W7 ⟨rfl, hb7, hk7⟩
  have eb7 := H4.out.1.keep H4.out.2 (by decide) (by decide) hk7
  have H7 : Hid (Bg W0 W7 c r ao' cap' l a2 e2 ∧ W7.heap[ge]? = some (.cells #[.int .u32 (V : Int), .string ⟨#[]⟩] 35 (0, 0))) := ⟨hb7, eb7⟩
  clear H4 hb7 hk7 eb7 hc7
  have y1 : W7.cell? ⟨ge, 1, none⟩ = some (.string ⟨#[]⟩) := by rw [blk_at H7.out.2]; rfl
  have f1 := blk_free H7.out.2 1
  have H8 : Hid (Bg W0 (W7.setCell ⟨ge, 1, none⟩ (.string s)) c r ao' cap' l a2 e2 ∧ (W7.setCell ⟨ge, 1, none⟩ (.string s)).heap[ge]? = some (.cells #[.int .u32 (V : Int), .string s] 35 (0, 0))) := ⟨H7.out.1.put H7.out.2 (by decide) (by decide) (by decide) HG.out 1 _, put_boxX H7.out.2 1 _ (by simp)⟩
  obtain ⟨W8, hW8⟩ : ∃ W8, W8 = W7.setCell ⟨ge, 1, none⟩ (.string s) := ⟨_, rfl⟩
  rw [← hW8] at H8
  have k0 : (W7.setCell ⟨ge, 1, none⟩ (.string s)).cell? ⟨ge, 0, none⟩ = some (.int .u32 (V : Int)) := by rw [← hW8, blk_at H8.out.2]; rfl
  have k1 : (W7.setCell ⟨ge, 1, none⟩ (.string s)).cell? ⟨ge, 1, none⟩ = some (.string s) := by rw [← hW8, blk_at H8.out.2]; rfl
  clear H7
  go_wp2_with fail
  rw [← hW8]
  refine (wholeM_ok V s H8.out.1 HFn.out).mono ?_
  rintro e W9 ⟨rfl, hb9, hk9⟩
  have HY : Hid (Below w.heap.size w W9 ∧ W9.heap[w.heap.size]? = some (.cells #[.int .u32 0, .string ⟨#[]⟩] 35 (0, 0))) := ⟨HX.out.bel.trans (hb9.mono HX.out.bel.size), by rw [hb9.block _ (by have := HX.out.size; omega)]; exact HX.out.a⟩
  have za0 : W9.cell? ⟨w.heap.size, 0, none⟩ = some (.int .u32 0) := by rw [blk_at HY.out.2]; rfl
  have za1 : W9.cell? ⟨w.heap.size, 1, none⟩ = some (.string ⟨#[]⟩) := by rw [blk_at HY.out.2]; rfl
  have ya0 : W9.frozen? ⟨w.heap.size, 0, none⟩ = false := blk_free HY.out.2 0
  have ya1 : W9.frozen? ⟨w.heap.size, 1, none⟩ = false := blk_free HY.out.2 1
  have hs0 : w.heap.size < W0.heap.size := by have := HX.out.size; omega
  clear hb9 hk9 H8 k0 k1 y1 f1 hW8
  go_wp2
  obtain ⟨hp, hq⟩ := putc2 HY.out.2 (.int .u32 (V : Int)) (.string s)
  exact bodyPost_ret (results_cell_tmp1 rfl _ _ w.heap.size 35 _ (0, 0) _ rfl hp Tryd.underlying35 rfl infoM) rfl ⟨rfl, HY.out.1.trans (hq.below HY.out.1.size (fun g hg => by omega))⟩
set_option maxHeartbeats 4000000 in
theorem unpackMeta_no (ao : Option Addr) (cap N : Nat) (l : List Nat) (w : World) (h : BRow w ao cap l) (hN : l.length = N) (hT : Tabs w) (hfin : mtE l = 81) :
    Calls Tryd.prog 18 #[.slice ao N cap] w fun e w' => e = .returned (.tuple #[.agg #[.int .u32 0, .string ⟨#[]⟩], .int .i64 81]) ∧ Below w.heap.size w w' := by
  have HUp : Hid (∀ W, Below w.heap.size w W → Calls Tryd.prog 52 #[.slice ao N cap] W fun e w' => ∃ c r ao' cap', e = .returned (.pointer (some ⟨c, 0, none⟩)) ∧ Bg W w' c r ao' cap' l 0 0) := fun W hb => unpackG ao cap N l W (h.later hb) hN
  have HFn : Hid (ndE (decide (raA l (raA l 0 4) (l.length - raA l 0 4) = l.length)) (ndE (tx (bstr (rrL l (raA l 0 4) (l.length - raA l 0 4)))) (ndE (okR l (raA l 0 4) (l.length - raA l 0 4)) (ndE (okR l 0 4) 0))) = 81) := hfin
  have HT : Hid (Tabs w) := hT
  clear h hN hfin hT
  obtain ⟨V, hV⟩ : ∃ V, rvV l 0 4 = V := ⟨_, rfl⟩
  obtain ⟨a1, ha1⟩ : ∃ a1, raA l 0 4 = a1 := ⟨_, rfl⟩
  obtain ⟨e1, he1⟩ : ∃ e1, ndE (okR l 0 4) 0 = e1 := ⟨_, rfl⟩
  rw [ha1, he1] at HFn
  
  obtain ⟨nn, hnn⟩ : ∃ nn, l.length - a1 = nn := ⟨_, rfl⟩
  rw [hnn] at HFn
  obtain ⟨s, hs⟩ : ∃ s, bstr (rrL l a1 nn) = s := ⟨_, rfl⟩
  rw [hs] at HFn
  obtain ⟨a2, ha2⟩ : ∃ a2, raA l a1 nn = a2 := ⟨_, rfl⟩
  obtain ⟨e2, he2⟩ : ∃ e2, ndE (tx s) (ndE (okR l a1 nn) e1) = e2 := ⟨_, rfl⟩
  rw [ha2, he2] at HFn
  have HV : Hid (rvV l 0 4 = V ∧ raA l 0 4 = a1 ∧ ndE (okR l 0 4) 0 = e1) := ⟨hV, ha1, he1⟩
  have HNN : Hid (l.length - a1 = nn) := hnn
  have HV2 : Hid (bstr (rrL l a1 nn) = s ∧ raA l a1 nn = a2 ∧ ndE (tx s) (ndE (okR l a1 nn) e1) = e2) := ⟨hs, ha2, he2⟩
  clear hV ha1 he1 hs ha2 he2 hnn
  go_enter Tryd.func18, Tryd.ntmps18
  go_wp2_with fail
  have hx := mkb1 w #[.int .u32 0, .string ⟨#[]⟩] 35
  generalize w.alloc (Obj.cells #[.int .u32 0, .string ⟨#[]⟩] 35) = W0 at *
  refine (HUp.out _ hx.bel).mono ?_
  rintro e W1 ⟨c, r, ao', cap', rfl, hbd⟩
  have HX : Hid (Bx1 w W0 #[.int .u32 0, .string ⟨#[]⟩] 35) := hx
  have HT0 : Hid (Tabs W0) := HT.out.later hx.bel
  have H1 : Hid (Bg W0 W1 c r ao' cap' l 0 0) := hbd
  clear hx hbd HUp HT
  go_wp2_with fail
  have hc1 := bu32G H1.out
  rw [HV.out.1, HV.out.2.1, HV.out.2.2] at hc1
  refine hc1.mono ?_
  rintro e W2 ⟨rfl, hbd, _⟩
  have H2 : Hid (Bg W0 W2 c r ao' cap' l a1 e1) := hbd
  clear hbd H1 hc1
  go_wp2_with fail
  have h3 : Bg W0 (W2.alloc (Obj.cells #[.int .u32 (V : Int), .string ⟨#[]⟩] 35)) c r ao' cap' l a1 e1 := H2.out.later (below1 W2 _)
  have eb3 := heap_new W2 (Obj.cells #[.int .u32 (V : Int), .string ⟨#[]⟩] 35)
  have HG : Hid (W0.heap.size ≤ W2.heap.size) := H2.out.bel.size
  generalize W2.alloc (Obj.cells #[.int .u32 (V : Int), .string ⟨#[]⟩] 35) = W3 at *
  generalize W2.heap.size = ge at *
  refine (bleftG h3 HNN.out).mono ?_
  rintro e W4 ⟨rfl, q, hw⟩
  have h4 : Bg W0 W4 c r ao' cap' l a1 e1 ∧ W4.heap[ge]? = some (.cells #[.int .u32 (V : Int), .string ⟨#[]⟩] 35 (0, 0)) := by rw [hw]; exact ⟨h3.later (below_drewN _ q), eb3⟩
  have H4 : Hid _ := h4
  clear h3 eb3 hw H2 h4
  go_wp2_with fail
  have hc7 := brawTextG nn H4.out.1 HT0.out
  rw [HV2.out.1, HV2.out.2.1, HV2.out.2.2] at hc7
  refine hc7.mono ?_
  rintro e W7 ⟨rfl, hb7, hk7⟩
  have eb7 := H4.out.1.keep H4.out.2 (by decide) (by decide) hk7
  have H7 : Hid (Bg W0 W7 c r ao' cap' l a2 e2 ∧ W7.heap[ge]? = some (.cells #[.int .u32 (V : Int), .string ⟨#[]⟩] 35 (0, 0))) := ⟨hb7, eb7⟩
  clear H4 hb7 hk7 eb7 hc7
  have y1 : W7.cell? ⟨ge, 1, none⟩ = some (.string ⟨#[]⟩) := by rw [blk_at H7.out.2]; rfl
  have f1 := blk_free H7.out.2 1
  have H8 : Hid (Bg W0 (W7.setCell ⟨ge, 1, none⟩ (.string s)) c r ao' cap' l a2 e2 ∧ (W7.setCell ⟨ge, 1, none⟩ (.string s)).heap[ge]? = some (.cells #[.int .u32 (V : Int), .string s] 35 (0, 0))) := ⟨H7.out.1.put H7.out.2 (by decide) (by decide) (by decide) HG.out 1 _, put_boxX H7.out.2 1 _ (by simp)⟩
  obtain ⟨W8, hW8⟩ : ∃ W8, W8 = W7.setCell ⟨ge, 1, none⟩ (.string s) := ⟨_, rfl⟩
  rw [← hW8] at H8
  have k0 : (W7.setCell ⟨ge, 1, none⟩ (.string s)).cell? ⟨ge, 0, none⟩ = some (.int .u32 (V : Int)) := by rw [← hW8, blk_at H8.out.2]; rfl
  have k1 : (W7.setCell ⟨ge, 1, none⟩ (.string s)).cell? ⟨ge, 1, none⟩ = some (.string s) := by rw [← hW8, blk_at H8.out.2]; rfl
  clear H7
  go_wp2_with fail
  rw [← hW8]
  refine (wholeM_no V s 81 (by decide) H8.out.1 HFn.out).mono ?_
  rintro e W9 ⟨rfl, hb9, hk9⟩
  have HY : Hid (Below w.heap.size w W9 ∧ W9.heap[w.heap.size]? = some (.cells #[.int .u32 0, .string ⟨#[]⟩] 35 (0, 0))) := ⟨HX.out.bel.trans (hb9.mono HX.out.bel.size), by rw [hb9.block _ (by have := HX.out.size; omega)]; exact HX.out.a⟩
  have za0 : W9.cell? ⟨w.heap.size, 0, none⟩ = some (.int .u32 0) := by rw [blk_at HY.out.2]; rfl
  have za1 : W9.cell? ⟨w.heap.size, 1, none⟩ = some (.string ⟨#[]⟩) := by rw [blk_at HY.out.2]; rfl
  have ya0 : W9.frozen? ⟨w.heap.size, 0, none⟩ = false := blk_free HY.out.2 0
  have ya1 : W9.frozen? ⟨w.heap.size, 1, none⟩ = false := blk_free HY.out.2 1
  have hs0 : w.heap.size < W0.heap.size := by have := HX.out.size; omega
  clear hb9 hk9 H8 k0 k1 y1 f1 hW8
  go_wp2
  obtain ⟨hp, hq⟩ := putc2 HY.out.2 (.int .u32 0) (.string ⟨#[]⟩)
  exact bodyPost_ret (results_cell_tmp1 rfl _ _ w.heap.size 35 _ (0, 0) _ rfl hp Tryd.underlying35 rfl infoM) rfl ⟨rfl, HY.out.1.trans (hq.below HY.out.1.size (fun g hg => by omega))⟩
end Go.Proofs.YtjikibhhhchgeaaDoor

namespace Go.Proofs.YtjikibhhhchgeaaDoor
open Go.RowKit
set_option linter.unusedVariables false
set_option linter.unusedSimpArgs false
set_option maxRecDepth 100000
/-- how UnpackServer ends -/
def svE (l : List Nat) : Nat := ndE (decide (raA l (taA l 0) (l.length - taA l 0) = l.length)) (ndE (okR l (taA l 0) (l.length - taA l 0)) (ndE (okT l 0) 0))
theorem svE_or (l : List Nat) : svE l = 0 ∨ svE l = 81 := ndE_01 _ (ndE_01 _ (ndE_01 _ (.inl rfl)))
set_option maxHeartbeats 4000000 in
theorem unpackServer_ok (ao : Option Addr) (cap N : Nat) (l : List Nat) (w : World) (h : BRow w ao cap l) (hN : l.length = N) (hT : Tabs w) (hfin : svE l = 0) :
    Calls Tryd.prog 19 #[.slice ao N cap] w fun e w' => ∃ da dc n, e = .returned (.tuple #[.agg #[.string (tvS l 0), .slice da n dc], .int .i64 0]) ∧ (rrL l (taA l 0) (l.length - taA l 0)).length = n ∧ Row w w' da dc (rrL l (taA l 0) (l.length - taA l 0)) := by
  have HUp : Hid (∀ W, Below w.heap.size w W → Calls Tryd.prog 52 #[.slice ao N cap] W fun e w' => ∃ c r ao' cap', e = .returned (.pointer (some ⟨c, 0, none⟩)) ∧ Bg W w' c r ao' cap' l 0 0) := fun W hb => unpackG ao cap N l W (h.later hb) hN
  have HFn : Hid (ndE (decide (raA l (taA l 0) (l.length - taA l 0) = l.length)) (ndE (okR l (taA l 0) (l.length - taA l 0)) (ndE (okT l 0) 0)) = 0) := hfin
  have HT : Hid (Tabs w) := hT
  have HLs : Hid (∀ x ∈ rrL l (taA l 0) (l.length - taA l 0), x < 256) := fun x hx => by
    unfold rrL at hx; split at hx
    · exact h.lt x (List.mem_of_mem_drop (List.mem_of_mem_take hx))
    · simp at hx
  clear h hN hfin hT
  obtain ⟨s, hV⟩ : ∃ V, tvS l 0 = V := ⟨_, rfl⟩
  obtain ⟨a1, ha1⟩ : ∃ a1, taA l 0 = a1 := ⟨_, rfl⟩
  obtain ⟨e1, he1⟩ : ∃ e1, ndE (okT l 0) 0 = e1 := ⟨_, rfl⟩
  rw [ha1, he1] at HFn
  rw [ha1] at HLs
  rw [ha1, hV]
  obtain ⟨nn, hnn⟩ : ∃ nn, l.length - a1 = nn := ⟨_, rfl⟩
  rw [hnn] at HFn HLs ⊢
  obtain ⟨L, hL⟩ : ∃ L, rrL l a1 nn = L := ⟨_, rfl⟩
  rw [hL] at HLs ⊢
  obtain ⟨a2, ha2⟩ : ∃ a2, raA l a1 nn = a2 := ⟨_, rfl⟩
  obtain ⟨e3, he3⟩ : ∃ e2, ndE (okR l a1 nn) e1 = e2 := ⟨_, rfl⟩
  rw [ha2, he3] at HFn
  have HV : Hid (tvS l 0 = s ∧ taA l 0 = a1 ∧ ndE (okT l 0) 0 = e1) := ⟨hV, ha1, he1⟩
  have HNN : Hid (l.length - a1 = nn) := hnn
  have HV2 : Hid (rrL l a1 nn = L ∧ raA l a1 nn = a2 ∧ ndE (okR l a1 nn) e1 = e3) := ⟨hL, ha2, he3⟩
  clear hV ha1 he1 hL ha2 he3 hnn
  go_enter Tryd.func19, Tryd.ntmps19
  go_wp2_with fail
  have hx := mkb1 w #[.string ⟨#[]⟩, .slice none 0 0] 37
  generalize w.alloc (Obj.cells #[.string ⟨#[]⟩, .slice none 0 0] 37) = W0 at *
  refine (HUp.out _ hx.bel).mono ?_
  rintro e W1 ⟨c, r, ao', cap', rfl, hbd⟩
  have HX : Hid (Bx1 w W0 #[.string ⟨#[]⟩, .slice none 0 0] 37) := hx
  have HT1 : Hid (Tabs W1) := (HT.out.later hx.bel).later hbd.bel
  have H1 : Hid (Bg W0 W1 c r ao' cap' l 0 0) := hbd
  clear hx hbd HUp HT
  go_wp2_with fail
  have hc1 := btextG H1.out HT1.out
  rw [HV.out.1, HV.out.2.1, HV.out.2.2] at hc1
  refine hc1.mono ?_
  rintro e W2 ⟨rfl, hbd, _⟩
  have H2 : Hid (Bg W0 W2 c r ao' cap' l a1 e1) := hbd
  clear hbd H1 hc1 HT1
  go_wp2_with fail
  have h3 : Bg W0 (W2.alloc (Obj.cells #[.string s, .slice none 0 0] 37)) c r ao' cap' l a1 e1 := H2.out.later (below1 W2 _)
  have eb3 := heap_new W2 (Obj.cells #[.string s, .slice none 0 0] 37)
  have HG : Hid (W0.heap.size ≤ W2.heap.size) := H2.out.bel.size
  generalize W2.alloc (Obj.cells #[.string s, .slice none 0 0] 37) = W3 at *
  generalize W2.heap.size = ge at *
  refine (bleftG h3 HNN.out).mono ?_
  rintro e W6 ⟨rfl, q, hw⟩
  have h4 : Bg W0 W6 c r ao' cap' l a1 e1 ∧ W6.heap[ge]? = some (.cells #[.string s, .slice none 0 0] 37 (0, 0)) := by rw [hw]; exact ⟨h3.later (below_drewN _ q), eb3⟩
  have H6 : Hid _ := h4
  clear h3 eb3 hw H2 h4
  go_wp2_with fail
  have hc7 := brawG nn H6.out.1
  rw [HV2.out.1, HV2.out.2.1, HV2.out.2.2] at hc7
  refine hc7.mono ?_
  rintro e W7 ⟨n7, a7, c7, rfl, hn7, ho7, hb7, hk7⟩
  have eb7 := H6.out.1.keep H6.out.2 (by decide) (by decide) hk7
  have hg6 : ge < W6.heap.size := block_lt H6.out.2
  have hs6 : W0.heap.size ≤ W6.heap.size := H6.out.1.bel.size
  clear hc7
  have HN7 : Hid (n7 = L.length) := hn7
  have HLt : Hid (c < W6.heap.size ∧ r < W6.heap.size) := ⟨block_lt H6.out.1.bd, block_lt H6.out.1.rd.blk⟩
  have HG6 : Hid (ge < W6.heap.size ∧ W0.heap.size ≤ W6.heap.size) := ⟨hg6, hs6⟩
  have H7 : Hid (Bg W0 W7 c r ao' cap' l a2 e3 ∧ W7.heap[ge]? = some (.cells #[.string s, .slice none 0 0] 37 (0, 0)) ∧ W7.ownsRow W6.heap.size 5 1 (.slice a7 n7 c7) n7 (L.map bv)) := ⟨hb7, eb7, ho7⟩
  clear H6 hb7 hk7 ho7 eb7 hn7 hg6 hs6
  have y1 : W7.cell? ⟨ge, 1, none⟩ = some (.slice none 0 0) := by rw [blk_at H7.out.2.1]; rfl
  have f1 := blk_free H7.out.2.1 1
  have H8 : Hid (Bg W0 (W7.setCell ⟨ge, 1, none⟩ (.slice a7 n7 c7)) c r ao' cap' l a2 e3 ∧ (W7.setCell ⟨ge, 1, none⟩ (.slice a7 n7 c7)).heap[ge]? = some (.cells #[.string s, .slice a7 n7 c7] 37 (0, 0)) ∧ (W7.setCell ⟨ge, 1, none⟩ (.slice a7 n7 c7)).ownsRow W6.heap.size 5 1 (.slice a7 n7 c7) n7 (L.map bv)) := ⟨H7.out.1.put H7.out.2.1 (by decide) (by decide) (by decide) HG.out 1 _, put_boxX H7.out.2.1 1 _ (by simp), owns_same H7.out.2.2 (fun g hg => (keptIn_set W7 ge 1 _).block g (owns_lt H7.out.2.2 g hg).1 (by have h1 := (owns_lt H7.out.2.2 g hg).2; have h2 := HG6.out.1; omega))⟩
  obtain ⟨W8, hW8⟩ : ∃ W8, W8 = W7.setCell ⟨ge, 1, none⟩ (.slice a7 n7 c7) := ⟨_, rfl⟩
  rw [← hW8] at H8
  have k0 : (W7.setCell ⟨ge, 1, none⟩ (.slice a7 n7 c7)).cell? ⟨ge, 0, none⟩ = some (.string s) := by rw [← hW8, blk_at H8.out.2.1]; rfl
  have k1 : (W7.setCell ⟨ge, 1, none⟩ (.slice a7 n7 c7)).cell? ⟨ge, 1, none⟩ = some (.slice a7 n7 c7) := by rw [← hW8, blk_at H8.out.2.1]; rfl
  clear H7
  go_wp2_with fail
  rw [← hW8]
  refine (wholeS_ok s a7 n7 c7 H8.out.1 HFn.out).mono ?_
  rintro e W9 ⟨rfl, hb9, hk9⟩
  have HY : Hid (Below w.heap.size w W9 ∧ W9.heap[w.heap.size]? = some (.cells #[.string ⟨#[]⟩, .slice none 0 0] 37 (0, 0))) := ⟨HX.out.bel.trans (hb9.mono HX.out.bel.size), by rw [hb9.block _ (by have := HX.out.size; omega)]; exact HX.out.a⟩
  have HR9 : Hid (W9.ownsRow W6.heap.size 5 1 (.slice a7 n7 c7) n7 (L.map bv)) := owns_same H8.out.2.2 (fun g hg => hk9.block g (owns_lt H8.out.2.2 g hg).1 (fun e => by have h1 := (owns_lt H8.out.2.2 g hg).2; have h2 := HLt.out.1; omega))
  have za0 : W9.cell? ⟨w.heap.size, 0, none⟩ = some (.string ⟨#[]⟩) := by rw [blk_at HY.out.2]; rfl
  have za1 : W9.cell? ⟨w.heap.size, 1, none⟩ = some (.slice none 0 0) := by rw [blk_at HY.out.2]; rfl
  have ya0 : W9.frozen? ⟨w.heap.size, 0, none⟩ = false := blk_free HY.out.2 0
  have ya1 : W9.frozen? ⟨w.heap.size, 1, none⟩ = false := blk_free HY.out.2 1
  clear hb9 hk9 H8 k0 k1 y1 f1 hW8
  go_wp2
  obtain ⟨hp, hq⟩ := putc2 HY.out.2 (.string s) (.slice a7 n7 c7)
  have hs0 : w.heap.size < W0.heap.size := by have := HX.out.size; omega
  refine bodyPost_ret (results_cell_tmp1 rfl _ _ w.heap.size 37 _ (0, 0) _ rfl hp Tryd.underlying37 rfl infoS) rfl ⟨a7, c7, n7, rfl, HN7.out.symm, ⟨?_, HLs.out, HY.out.1.trans (hq.below HY.out.1.size (fun g hg => by omega))⟩⟩
  have h9 := owns_mono (owns_same HR9.out (fun g hg => hq.block g (owns_lt HR9.out g hg).1 (by have h1 := (owns_lt HR9.out g hg).2; have h2 := HG6.out.2; omega))) (show w.heap.size ≤ W6.heap.size by have := HG6.out.2; omega)
  rw [← HN7.out]; exact h9
set_option maxHeartbeats 4000000 in
theorem unpackServer_no (ao : Option Addr) (cap N : Nat) (l : List Nat) (w : World) (h : BRow w ao cap l) (hN : l.length = N) (hT : Tabs w) (hfin : svE l = 81) :
    Calls Tryd.prog 19 #[.slice ao N cap] w fun e w' => e = .returned (.tuple #[.agg #[.string ⟨#[]⟩, .slice none 0 0], .int .i64 81]) ∧ Below w.heap.size w w' := by
  have HUp : Hid (∀ W, Below w.heap.size w W → Calls Tryd.prog 52 #[.slice ao N cap] W fun e w' => ∃ c r ao' cap', e = .returned (.pointer (some ⟨c, 0, none⟩)) ∧ Bg W w' c r ao' cap' l 0 0) := fun W hb => unpackG ao cap N l W (h.later hb) hN
  have HFn : Hid (ndE (decide (raA l (taA l 0) (l.length - taA l 0) = l.length)) (ndE (okR l (taA l 0) (l.length - taA l 0)) (ndE (okT l 0) 0)) = 81) := hfin
  have HT : Hid (Tabs w) := hT
  have HLs : Hid (∀ x ∈ rrL l (taA l 0) (l.length - taA l 0), x < 256) := fun x hx => by
    unfold rrL at hx; split at hx
    · exact h.lt x (List.mem_of_mem_drop (List.mem_of_mem_take hx))
    · simp at hx
  clear h hN hfin hT
  obtain ⟨s, hV⟩ : ∃ V, tvS l 0 = V := ⟨_, rfl⟩
  obtain ⟨a1, ha1⟩ : ∃ a1, taA l 0 = a1 := ⟨_, rfl⟩
  obtain ⟨e1, he1⟩ : ∃ e1, ndE (okT l 0) 0 = e1 := ⟨_, rfl⟩
  rw [ha1, he1] at HFn
  rw [ha1] at HLs
  
  obtain ⟨nn, hnn⟩ : ∃ nn, l.length - a1 = nn := ⟨_, rfl⟩
  rw [hnn] at HFn HLs
  obtain ⟨L, hL⟩ : ∃ L, rrL l a1 nn = L := ⟨_, rfl⟩
  rw [hL] at HLs
  obtain ⟨a2, ha2⟩ : ∃ a2, raA l a1 nn = a2 := ⟨_, rfl⟩
  obtain ⟨e3, he3⟩ : ∃ e2, ndE (okR l a1 nn) e1 = e2 := ⟨_, rfl⟩
  rw [ha2, he3] at HFn
  have HV : Hid (tvS l 0 = s ∧ taA l 0 = a1 ∧ ndE (okT l 0) 0 = e1) := ⟨hV, ha1, he1⟩
  have HNN : Hid (l.length - a1 = nn) := hnn
  have HV2 : Hid (rrL l a1 nn = L ∧ raA l a1 nn = a2 ∧ ndE (okR l a1 nn) e1 = e3) := ⟨hL, ha2, he3⟩
  clear hV ha1 he1 hL ha2 he3 hnn
  go_enter Tryd.func19, Tryd.ntmps19
  go_wp2_with fail
  have hx := mkb1 w #[.string ⟨#[]⟩, .slice none 0 0] 37
  generalize w.alloc (Obj.cells #[.string ⟨#[]⟩, .slice none 0 0] 37) = W0 at *
  refine (HUp.out _ hx.bel).mono ?_
  rintro e W1 ⟨c, r, ao', cap', rfl, hbd⟩
  have HX : Hid (Bx1 w W0 #[.string ⟨#[]⟩, .slice none 0 0] 37) := hx
  have HT1 : Hid (Tabs W1) := (HT.out.later hx.bel).later hbd.bel
  have H1 : Hid (Bg W0 W1 c r ao' cap' l 0 0) := hbd
  clear hx hbd HUp HT
  go_wp2_with fail
  have hc1 := btextG H1.out HT1.out
  rw [HV.out.1, HV.out.2.1, HV.out.2.2] at hc1
  refine hc1.mono ?_
  rintro e W2 ⟨rfl, hbd, _⟩
  have H2 : Hid (Bg W0 W2 c r ao' cap' l a1 e1) := hbd
  clear hbd H1 hc1 HT1
  go_wp2_with fail
  have h3 : Bg W0 (W2.alloc (Obj.cells #[.string s, .slice none 0 0] 37)) c r ao' cap' l a1 e1 := H2.out.later (below1 W2 _)
  have eb3 := heap_new W2 (Obj.cells #[.string s, .slice none 0 0] 37)
  have HG : Hid (W0.heap.size ≤ W2.heap.size) := H2.out.bel.size
  generalize W2.alloc (Obj.cells #[.string s, .slice none 0 0] 37) = W3 at *
  generalize W2.heap.size = ge at *
  refine (bleftG h3 HNN.out).mono ?_
  rintro e W6 ⟨rfl, q, hw⟩
  have h4 : Bg W0 W6 c r ao' cap' l a1 e1 ∧ W6.heap[ge]? = some (.cells #[.string s, .slice none 0 0] 37 (0, 0)) := by rw [hw]; exact ⟨h3.later (below_drewN _ q), eb3⟩
  have H6 : Hid _ := h4
  clear h3 eb3 hw H2 h4
  go_wp2_with fail
  have hc7 := brawG nn H6.out.1
  rw [HV2.out.1, HV2.out.2.1, HV2.out.2.2] at hc7
  refine hc7.mono ?_
  rintro e W7 ⟨n7, a7, c7, rfl, hn7, ho7, hb7, hk7⟩
  have eb7 := H6.out.1.keep H6.out.2 (by decide) (by decide) hk7
  have hg6 : ge < W6.heap.size := block_lt H6.out.2
  have hs6 : W0.heap.size ≤ W6.heap.size := H6.out.1.bel.size
  clear hc7
  have HN7 : Hid (n7 = L.length) := hn7
  have HLt : Hid (c < W6.heap.size ∧ r < W6.heap.size) := ⟨block_lt H6.out.1.bd, block_lt H6.out.1.rd.blk⟩
  have HG6 : Hid (ge < W6.heap.size ∧ W0.heap.size ≤ W6.heap.size) := ⟨hg6, hs6⟩
  have H7 : Hid (Bg W0 W7 c r ao' cap' l a2 e3 ∧ W7.heap[ge]? = some (.cells #[.string s, .slice none 0 0] 37 (0, 0)) ∧ W7.ownsRow W6.heap.size 5 1 (.slice a7 n7 c7) n7 (L.map bv)) := ⟨hb7, eb7, ho7⟩
  clear H6 hb7 hk7 ho7 eb7 hn7 hg6 hs6
  have y1 : W7.cell? ⟨ge, 1, none⟩ = some (.slice none 0 0) := by rw [blk_at H7.out.2.1]; rfl
  have f1 := blk_free H7.out.2.1 1
  have H8 : Hid (Bg W0 (W7.setCell ⟨ge, 1, none⟩ (.slice a7 n7 c7)) c r ao' cap' l a2 e3 ∧ (W7.setCell ⟨ge, 1, none⟩ (.slice a7 n7 c7)).heap[ge]? = some (.cells #[.string s, .slice a7 n7 c7] 37 (0, 0)) ∧ (W7.setCell ⟨ge, 1, none⟩ (.slice a7 n7 c7)).ownsRow W6.heap.size 5 1 (.slice a7 n7 c7) n7 (L.map bv)) := ⟨H7.out.1.put H7.out.2.1 (by decide) (by decide) (by decide) HG.out 1 _, put_boxX H7.out.2.1 1 _ (by simp), owns_same H7.out.2.2 (fun g hg => (keptIn_set W7 ge 1 _).block g (owns_lt H7.out.2.2 g hg).1 (by have h1 := (owns_lt H7.out.2.2 g hg).2; have h2 := HG6.out.1; omega))⟩
  obtain ⟨W8, hW8⟩ : ∃ W8, W8 = W7.setCell ⟨ge, 1, none⟩ (.slice a7 n7 c7) := ⟨_, rfl⟩
  rw [← hW8] at H8
  have k0 : (W7.setCell ⟨ge, 1, none⟩ (.slice a7 n7 c7)).cell? ⟨ge, 0, none⟩ = some (.string s) := by rw [← hW8, blk_at H8.out.2.1]; rfl
  have k1 : (W7.setCell ⟨ge, 1, none⟩ (.slice a7 n7 c7)).cell? ⟨ge, 1, none⟩ = some (.slice a7 n7 c7) := by rw [← hW8, blk_at H8.out.2.1]; rfl
  clear H7
  go_wp2_with fail
  rw [← hW8]
  refine (wholeS_no s a7 n7 c7 81 (by decide) H8.out.1 HFn.out).mono ?_
  rintro e W9 ⟨rfl, hb9, hk9⟩
  have HY : Hid (Below w.heap.size w W9 ∧ W9.heap[w.heap.size]? = some (.cells #[.string ⟨#[]⟩, .slice none 0 0] 37 (0, 0))) := ⟨HX.out.bel.trans (hb9.mono HX.out.bel.size), by rw [hb9.block _ (by have := HX.out.size; omega)]; exact HX.out.a⟩
  have za0 : W9.cell? ⟨w.heap.size, 0, none⟩ = some (.string ⟨#[]⟩) := by rw [blk_at HY.out.2]; rfl
  have za1 : W9.cell? ⟨w.heap.size, 1, none⟩ = some (.slice none 0 0) := by rw [blk_at HY.out.2]; rfl
  have ya0 : W9.frozen? ⟨w.heap.size, 0, none⟩ = false := blk_free HY.out.2 0
  have ya1 : W9.frozen? ⟨w.heap.size, 1, none⟩ = false := blk_free HY.out.2 1
  clear hb9 hk9 H8 k0 k1 y1 f1 hW8
  go_wp2
  obtain ⟨hp, hq⟩ := putc2 HY.out.2 (.string ⟨#[]⟩) (.slice none 0 0)
  have hs0 : w.heap.size < W0.heap.size := by have := HX.out.size; omega
  exact bodyPost_ret (results_cell_tmp1 rfl _ _ w.heap.size 37 _ (0, 0) _ rfl hp Tryd.underlying37 rfl infoS) rfl ⟨rfl, HY.out.1.trans (hq.below HY.out.1.size (fun g hg => by omega))⟩
end Go.Proofs.YtjikibhhhchgeaaDoor

namespace Go.Proofs.YtjikibhhhchgeaaDoor
open Go.RowKit
set_option linter.unusedVariables false
set_option linter.unusedSimpArgs false
set_option maxRecDepth 100000
set_option maxHeartbeats 4000000 in
theorem unpackData_ok (ao : Option Addr) (cap N : Nat) (l : List Nat) (w : World) (h : BRow w ao cap l) (hN : l.length = N) (hl9 : 9 ≤ l.length) :
    Calls Tryd.prog 23 #[.slice ao N cap] w fun e w' => ∃ da dc n, e = .returned (.tuple #[.agg #[.int .u64 ((rvV l 0 8 : Nat) : Int), .slice da n dc], .int .i64 0]) ∧ (rrL l (raA l 0 8) (l.length - raA l 0 8)).length = n ∧ Row w w' da dc (rrL l (raA l 0 8) (l.length - raA l 0 8)) := by
  have HUp : Hid (∀ W, Below w.heap.size w W → Calls Tryd.prog 52 #[.slice ao N cap] W fun e w' => ∃ c r ao' cap', e = .returned (.pointer (some ⟨c, 0, none⟩)) ∧ Bg W w' c r ao' cap' l 0 0) := fun W hb => unpackG ao cap N l W (h.later hb) hN
  have HFn : Hid (ndE (decide (raA l (raA l 0 8) (l.length - raA l 0 8) = l.length)) (ndE (okR l (raA l 0 8) (l.length - raA l 0 8)) (ndE (decide (0 < l.length - raA l 0 8)) (ndE (okR l 0 8) 0))) = 0) := by
    show _ = _
    have e1 : okR l 0 8 = true := by simp [okR]; omega
    have e2 : raA l 0 8 = 8 := by simp [raA, e1]
    have e3 : okR l 8 (l.length - 8) = true := by simp [okR]; omega
    have e4 : raA l 8 (l.length - 8) = l.length := by simp [raA, e3]; omega
    have e5 : decide (0 < l.length - 8) = true := by simp; omega
    simp only [e2, e4, e3, e5, e1, decide_true, ndE_true]
  have HLs : Hid (∀ x ∈ rrL l (raA l 0 8) (l.length - raA l 0 8), x < 256) := fun x hx => by
    unfold rrL at hx; split at hx
    · exact h.lt x (List.mem_of_mem_drop (List.mem_of_mem_take hx))
    · simp at hx
  clear h hN hl9
  obtain ⟨V, hV⟩ : ∃ V, rvV l 0 8 = V := ⟨_, rfl⟩
  obtain ⟨a1, ha1⟩ : ∃ a1, raA l 0 8 = a1 := ⟨_, rfl⟩
  obtain ⟨e1, he1⟩ : ∃ e1, ndE (okR l 0 8) 0 = e1 := ⟨_, rfl⟩
  rw [ha1, he1] at HFn
  rw [ha1] at HLs ⊢
  rw [hV]
  obtain ⟨nn, hnn⟩ : ∃ nn, l.length - a1 = nn := ⟨_, rfl⟩
  rw [hnn] at HFn HLs ⊢
  obtain ⟨L, hL⟩ : ∃ L, rrL l a1 nn = L := ⟨_, rfl⟩
  rw [hL] at HLs ⊢
  have HV : Hid (rvV l 0 8 = V) := hV
  have HA1 : Hid (raA l 0 8 = a1) := ha1
  have HE1 : Hid (ndE (okR l 0 8) 0 = e1) := he1
  have HNN : Hid (l.length - a1 = nn) := hnn
  have HL : Hid (rrL l a1 nn = L) := hL
  clear hV ha1 he1 hnn hL
  go_enter Tryd.func23, Tryd.ntmps23
  go_wp2_with fail
  have hx := mkb1 w #[.int .u64 0, .slice none 0 0] 44
  generalize w.alloc (Obj.cells #[.int .u64 0, .slice none 0 0] 44) = W0 at *
  refine (HUp.out _ hx.bel).mono ?_
  rintro e W1 ⟨c, r, ao', cap', rfl, hbd⟩
  have HX : Hid (Bx1 w W0 #[.int .u64 0, .slice none 0 0] 44) := hx
  have H1 : Hid (Bg W0 W1 c r ao' cap' l 0 0) := hbd
  clear hx hbd HUp
  go_wp2_with fail
  have hc1 := bu64G H1.out
  rw [HV.out, HA1.out, HE1.out] at hc1
  refine hc1.mono ?_
  rintro e W2 ⟨rfl, hbd, _⟩
  have H2 : Hid (Bg W0 W2 c r ao' cap' l a1 e1) := hbd
  clear hbd H1 hc1
  go_wp2_with fail
  have h3 : Bg W0 (W2.alloc (Obj.cells #[.int .u64 (V : Int), .slice none 0 0] 44)) c r ao' cap' l a1 e1 := H2.out.later (below1 W2 _)
  have eb3 := heap_new W2 (Obj.cells #[.int .u64 (V : Int), .slice none 0 0] 44)
  have HG : Hid (W0.heap.size ≤ W2.heap.size) := H2.out.bel.size
  generalize W2.alloc (Obj.cells #[.int .u64 (V : Int), .slice none 0 0] 44) = W3 at *
  generalize W2.heap.size = ge at *
  refine (bleftG h3 HNN.out).mono ?_
  rintro e W4 ⟨rfl, q, hw⟩
  have h4 : Bg W0 W4 c r ao' cap' l a1 e1 ∧ W4.heap[ge]? = some (.cells #[.int .u64 (V : Int), .slice none 0 0] 44 (0, 0)) := by rw [hw]; exact ⟨h3.later (below_drewN _ q), eb3⟩
  have H4 : Hid _ := h4
  clear h3 eb3 hw H2 h4
  go_wp2_with fail
  refine (needG (decide (0 < nn)) H4.out.1).mono ?_
  rintro e W5 ⟨rfl, hb5, hk5⟩
  have eb5 := H4.out.1.keep H4.out.2 (by decide) (by decide) (two_of_c hk5)
  have H5 : Hid (Bg W0 W5 c r ao' cap' l a1 (ndE (decide (0 < nn)) e1) ∧ W5.heap[ge]? = some (.cells #[.int .u64 (V : Int), .slice none 0 0] 44 (0, 0))) := ⟨hb5, eb5⟩
  clear hb5 hk5 eb5 H4
  go_wp2_with fail
  refine (bleftG H5.out.1 HNN.out).mono ?_
  rintro e W6 ⟨rfl, q6, hw⟩
  have H6 : Hid (Bg W0 W6 c r ao' cap' l a1 (ndE (decide (0 < nn)) e1) ∧ W6.heap[ge]? = some (.cells #[.int .u64 (V : Int), .slice none 0 0] 44 (0, 0))) := by rw [hw]; exact ⟨H5.out.1.later (below_drewN _ q6), H5.out.2⟩
  clear hw H5
  go_wp2_with fail
  have hc7 := brawG nn H6.out.1
  rw [HL.out] at hc7
  refine hc7.mono ?_
  rintro e W7 ⟨n7, a7, c7, rfl, hn7, ho7, hb7, hk7⟩
  have eb7 := H6.out.1.keep H6.out.2 (by decide) (by decide) hk7
  have hg6 : ge < W6.heap.size := block_lt H6.out.2
  have hs6 : W0.heap.size ≤ W6.heap.size := H6.out.1.bel.size
  generalize raA l a1 nn = a2 at *
  generalize ndE (okR l a1 nn) (ndE (decide (0 < nn)) e1) = e3 at *
  clear hc7
  have HN7 : Hid (n7 = L.length) := hn7
  have HLt : Hid (c < W6.heap.size ∧ r < W6.heap.size) := ⟨block_lt H6.out.1.bd, block_lt H6.out.1.rd.blk⟩
  have HG6 : Hid (ge < W6.heap.size ∧ W0.heap.size ≤ W6.heap.size) := ⟨hg6, hs6⟩
  have H7 : Hid (Bg W0 W7 c r ao' cap' l a2 e3 ∧ W7.heap[ge]? = some (.cells #[.int .u64 (V : Int), .slice none 0 0] 44 (0, 0)) ∧ W7.ownsRow W6.heap.size 5 1 (.slice a7 n7 c7) n7 (L.map bv)) := ⟨hb7, eb7, ho7⟩
  clear H6 hb7 hk7 ho7 eb7 hn7 hg6 hs6
  have y1 : W7.cell? ⟨ge, 1, none⟩ = some (.slice none 0 0) := by rw [blk_at H7.out.2.1]; rfl
  have f1 := blk_free H7.out.2.1 1
  have H8 : Hid (Bg W0 (W7.setCell ⟨ge, 1, none⟩ (.slice a7 n7 c7)) c r ao' cap' l a2 e3 ∧ (W7.setCell ⟨ge, 1, none⟩ (.slice a7 n7 c7)).heap[ge]? = some (.cells #[.int .u64 (V : Int), .slice a7 n7 c7] 44 (0, 0)) ∧ (W7.setCell ⟨ge, 1, none⟩ (.slice a7 n7 c7)).ownsRow W6.heap.size 5 1 (.slice a7 n7 c7) n7 (L.map bv)) := ⟨H7.out.1.put H7.out.2.1 (by decide) (by decide) (by decide) HG.out 1 _, put_boxX H7.out.2.1 1 _ (by simp), owns_same H7.out.2.2 (fun g hg => (keptIn_set W7 ge 1 _).block g (owns_lt H7.out.2.2 g hg).1 (by have h1 := (owns_lt H7.out.2.2 g hg).2; have h2 := HG6.out.1; omega))⟩
  obtain ⟨W8, hW8⟩ : ∃ W8, W8 = W7.setCell ⟨ge, 1, none⟩ (.slice a7 n7 c7) := ⟨_, rfl⟩
  rw [← hW8] at H8
  have k0 : (W7.setCell ⟨ge, 1, none⟩ (.slice a7 n7 c7)).cell? ⟨ge, 0, none⟩ = some (.int .u64 (V : Int)) := by rw [← hW8, blk_at H8.out.2.1]; rfl
  have k1 : (W7.setCell ⟨ge, 1, none⟩ (.slice a7 n7 c7)).cell? ⟨ge, 1, none⟩ = some (.slice a7 n7 c7) := by rw [← hW8, blk_at H8.out.2.1]; rfl
  clear H7
  go_wp2_with fail
  rw [← hW8]
  refine (wholeD_ok V a7 n7 c7 H8.out.1 HFn.out).mono ?_
  rintro e W9 ⟨rfl, hb9, hk9⟩
  have HY : Hid (Below w.heap.size w W9 ∧ W9.heap[w.heap.size]? = some (.cells #[.int .u64 0, .slice none 0 0] 44 (0, 0))) := ⟨HX.out.bel.trans (hb9.mono HX.out.bel.size), by rw [hb9.block _ (by have := HX.out.size; omega)]; exact HX.out.a⟩
  have HR9 : Hid (W9.ownsRow W6.heap.size 5 1 (.slice a7 n7 c7) n7 (L.map bv)) := owns_same H8.out.2.2 (fun g hg => hk9.block g (owns_lt H8.out.2.2 g hg).1 (fun e => by have h1 := (owns_lt H8.out.2.2 g hg).2; have h2 := HLt.out.1; omega))
  have HL256 : Hid (∀ x ∈ L, x < 256) := HLs.out
  have za0 : W9.cell? ⟨w.heap.size, 0, none⟩ = some (.int .u64 0) := by rw [blk_at HY.out.2]; rfl
  have za1 : W9.cell? ⟨w.heap.size, 1, none⟩ = some (.slice none 0 0) := by rw [blk_at HY.out.2]; rfl
  have ya0 : W9.frozen? ⟨w.heap.size, 0, none⟩ = false := blk_free HY.out.2 0
  have ya1 : W9.frozen? ⟨w.heap.size, 1, none⟩ = false := blk_free HY.out.2 1
  clear hb9 hk9 H8 k0 k1 y1 f1 hW8
  go_wp2
  obtain ⟨hp, hq⟩ := putc2 HY.out.2 (.int .u64 (V : Int)) (.slice a7 n7 c7)
  have hs0 : w.heap.size < W0.heap.size := by have := HX.out.size; omega
  refine bodyPost_ret (results_cell_tmp1 rfl _ _ w.heap.size 44 _ (0, 0) _ rfl hp Tryd.underlying44 rfl infoD) rfl ⟨a7, c7, n7, rfl, HN7.out.symm, ⟨?_, HL256.out, HY.out.1.trans (hq.below HY.out.1.size (fun g hg => by omega))⟩⟩
  have h9 := owns_mono (owns_same HR9.out (fun g hg => hq.block g (owns_lt HR9.out g hg).1 (by have h1 := (owns_lt HR9.out g hg).2; have h2 := HG6.out.2; omega))) (show w.heap.size ≤ W6.heap.size by have := HG6.out.2; omega)
  rw [← HN7.out]; exact h9
set_option maxHeartbeats 4000000 in
theorem unpackData_no (ao : Option Addr) (cap N : Nat) (l : List Nat) (w : World) (h : BRow w ao cap l) (hN : l.length = N) (hl9 : l.length < 9) :
    Calls Tryd.prog 23 #[.slice ao N cap] w fun e w' => e = .returned (.tuple #[.agg #[.int .u64 0, .slice none 0 0], .int .i64 81]) ∧ Below w.heap.size w w' := by
  have HUp : Hid (∀ W, Below w.heap.size w W → Calls Tryd.prog 52 #[.slice ao N cap] W fun e w' => ∃ c r ao' cap', e = .returned (.pointer (some ⟨c, 0, none⟩)) ∧ Bg W w' c r ao' cap' l 0 0) := fun W hb => unpackG ao cap N l W (h.later hb) hN
  have hl9' : l.length < 9 := hl9
  have HFn : Hid (ndE (decide (raA l (raA l 0 8) (l.length - raA l 0 8) = l.length)) (ndE (okR l (raA l 0 8) (l.length - raA l 0 8)) (ndE (decide (0 < l.length - raA l 0 8)) (ndE (okR l 0 8) 0))) = 81) := by
    show _ = _
    cases h8 : okR l 0 8 with
    | false =>
      have e2 : raA l 0 8 = 0 := by simp [raA, h8]
      have e3 : okR l 0 (l.length - 0) = true := by simp [okR]
      have e3' : okR l 0 l.length = true := by simp [okR]
      have e4 : raA l 0 (l.length - 0) = l.length := by simp [raA, e3']
      simp only [e2, e4, e3, decide_true, ndE_true, ndE_false0]
      unfold ndE; split <;> simp
    | true =>
      have hl8 : l.length = 8 := by simp [okR] at h8; omega
      have e2 : raA l 0 8 = 8 := by simp [raA, h8]
      have e3 : okR l 8 (l.length - 8) = true := by simp [okR]; omega
      have e4 : raA l 8 (l.length - 8) = l.length := by simp [raA, e3]; omega
      have e5 : decide (0 < l.length - 8) = false := by simp; omega
      simp only [e2, e4, e3, e5, decide_true, ndE_true]
      rfl
  clear h hN hl9
  obtain ⟨V, hV⟩ : ∃ V, rvV l 0 8 = V := ⟨_, rfl⟩
  obtain ⟨a1, ha1⟩ : ∃ a1, raA l 0 8 = a1 := ⟨_, rfl⟩
  obtain ⟨e1, he1⟩ : ∃ e1, ndE (okR l 0 8) 0 = e1 := ⟨_, rfl⟩
  rw [ha1, he1] at HFn
  
  
  obtain ⟨nn, hnn⟩ : ∃ nn, l.length - a1 = nn := ⟨_, rfl⟩
  rw [hnn] at HFn
  obtain ⟨L, hL⟩ : ∃ L, rrL l a1 nn = L := ⟨_, rfl⟩
  
  have HV : Hid (rvV l 0 8 = V) := hV
  have HA1 : Hid (raA l 0 8 = a1) := ha1
  have HE1 : Hid (ndE (okR l 0 8) 0 = e1) := he1
  have HNN : Hid (l.length - a1 = nn) := hnn
  have HL : Hid (rrL l a1 nn = L) := hL
  clear hV ha1 he1 hnn hL
  go_enter Tryd.func23, Tryd.ntmps23
  go_wp2_with fail
  have hx := mkb1 w #[.int .u64 0, .slice none 0 0] 44
  generalize w.alloc (Obj.cells #[.int .u64 0, .slice none 0 0] 44) = W0 at *
  refine (HUp.out _ hx.bel).mono ?_
  rintro e W1 ⟨c, r, ao', cap', rfl, hbd⟩
  have HX : Hid (Bx1 w W0 #[.int .u64 0, .slice none 0 0] 44) := hx
  have H1 : Hid (Bg W0 W1 c r ao' cap' l 0 0) := hbd
  clear hx hbd HUp
  go_wp2_with fail
  have hc1 := bu64G H1.out
  rw [HV.out, HA1.out, HE1.out] at hc1
  refine hc1.mono ?_
  rintro e W2 ⟨rfl, hbd, _⟩
  have H2 : Hid (Bg W0 W2 c r ao' cap' l a1 e1) := hbd
  clear hbd H1 hc1
  go_wp2_with fail
  have h3 : Bg W0 (W2.alloc (Obj.cells #[.int .u64 (V : Int), .slice none 0 0] 44)) c r ao' cap' l a1 e1 := H2.out.later (below1 W2 _)
  have eb3 := heap_new W2 (Obj.cells #[.int .u64 (V : Int), .slice none 0 0] 44)
  have HG : Hid (W0.heap.size ≤ W2.heap.size) := H2.out.bel.size
  generalize W2.alloc (Obj.cells #[.int .u64 (V : Int), .slice none 0 0] 44) = W3 at *
  generalize W2.heap.size = ge at *
  refine (bleftG h3 HNN.out).mono ?_
  rintro e W4 ⟨rfl, q, hw⟩
  have h4 : Bg W0 W4 c r ao' cap' l a1 e1 ∧ W4.heap[ge]? = some (.cells #[.int .u64 (V : Int), .slice none 0 0] 44 (0, 0)) := by rw [hw]; exact ⟨h3.later (below_drewN _ q), eb3⟩
  have H4 : Hid _ := h4
  clear h3 eb3 hw H2 h4
  go_wp2_with fail
  refine (needG (decide (0 < nn)) H4.out.1).mono ?_
  rintro e W5 ⟨rfl, hb5, hk5⟩
  have eb5 := H4.out.1.keep H4.out.2 (by decide) (by decide) (two_of_c hk5)
  have H5 : Hid (Bg W0 W5 c r ao' cap' l a1 (ndE (decide (0 < nn)) e1) ∧ W5.heap[ge]? = some (.cells #[.int .u64 (V : Int), .slice none 0 0] 44 (0, 0))) := ⟨hb5, eb5⟩
  clear hb5 hk5 eb5 H4
  go_wp2_with fail
  refine (bleftG H5.out.1 HNN.out).mono ?_
  rintro e W6 ⟨rfl, q6, hw⟩
  have H6 : Hid (Bg W0 W6 c r ao' cap' l a1 (ndE (decide (0 < nn)) e1) ∧ W6.heap[ge]? = some (.cells #[.int .u64 (V : Int), .slice none 0 0] 44 (0, 0))) := by rw [hw]; exact ⟨H5.out.1.later (below_drewN _ q6), H5.out.2⟩
  clear hw H5
  go_wp2_with fail
  have hc7 := brawG nn H6.out.1
  rw [HL.out] at hc7
  refine hc7.mono ?_
  rintro e W7 ⟨n7, a7, c7, rfl, hn7, ho7, hb7, hk7⟩
  have eb7 := H6.out.1.keep H6.out.2 (by decide) (by decide) hk7
  have hg6 : ge < W6.heap.size := block_lt H6.out.2
  have hs6 : W0.heap.size ≤ W6.heap.size := H6.out.1.bel.size
  generalize raA l a1 nn = a2 at *
  generalize ndE (okR l a1 nn) (ndE (decide (0 < nn)) e1) = e3 at *
  clear hc7
  have HN7 : Hid (n7 = L.length) := hn7
  have HLt : Hid (c < W6.heap.size ∧ r < W6.heap.size) := ⟨block_lt H6.out.1.bd, block_lt H6.out.1.rd.blk⟩
  have HG6 : Hid (ge < W6.heap.size ∧ W0.heap.size ≤ W6.heap.size) := ⟨hg6, hs6⟩
  have H7 : Hid (Bg W0 W7 c r ao' cap' l a2 e3 ∧ W7.heap[ge]? = some (.cells #[.int .u64 (V : Int), .slice none 0 0] 44 (0, 0)) ∧ W7.ownsRow W6.heap.size 5 1 (.slice a7 n7 c7) n7 (L.map bv)) := ⟨hb7, eb7, ho7⟩
  clear H6 hb7 hk7 ho7 eb7 hn7 hg6 hs6
  have y1 : W7.cell? ⟨ge, 1, none⟩ = some (.slice none 0 0) := by rw [blk_at H7.out.2.1]; rfl
  have f1 := blk_free H7.out.2.1 1
  have H8 : Hid (Bg W0 (W7.setCell ⟨ge, 1, none⟩ (.slice a7 n7 c7)) c r ao' cap' l a2 e3 ∧ (W7.setCell ⟨ge, 1, none⟩ (.slice a7 n7 c7)).heap[ge]? = some (.cells #[.int .u64 (V : Int), .slice a7 n7 c7] 44 (0, 0)) ∧ (W7.setCell ⟨ge, 1, none⟩ (.slice a7 n7 c7)).ownsRow W6.heap.size 5 1 (.slice a7 n7 c7) n7 (L.map bv)) := ⟨H7.out.1.put H7.out.2.1 (by decide) (by decide) (by decide) HG.out 1 _, put_boxX H7.out.2.1 1 _ (by simp), owns_same H7.out.2.2 (fun g hg => (keptIn_set W7 ge 1 _).block g (owns_lt H7.out.2.2 g hg).1 (by have h1 := (owns_lt H7.out.2.2 g hg).2; have h2 := HG6.out.1; omega))⟩
  obtain ⟨W8, hW8⟩ : ∃ W8, W8 = W7.setCell ⟨ge, 1, none⟩ (.slice a7 n7 c7) := ⟨_, rfl⟩
  rw [← hW8] at H8
  have k0 : (W7.setCell ⟨ge, 1, none⟩ (.slice a7 n7 c7)).cell? ⟨ge, 0, none⟩ = some (.int .u64 (V : Int)) := by rw [← hW8, blk_at H8.out.2.1]; rfl
  have k1 : (W7.setCell ⟨ge, 1, none⟩ (.slice a7 n7 c7)).cell? ⟨ge, 1, none⟩ = some (.slice a7 n7 c7) := by rw [← hW8, blk_at H8.out.2.1]; rfl
  clear H7
  go_wp2_with fail
  rw [← hW8]
  refine (wholeD_no V a7 n7 c7 81 (by decide) H8.out.1 HFn.out).mono ?_
  rintro e W9 ⟨rfl, hb9, hk9⟩
  have HY : Hid (Below w.heap.size w W9 ∧ W9.heap[w.heap.size]? = some (.cells #[.int .u64 0, .slice none 0 0] 44 (0, 0))) := ⟨HX.out.bel.trans (hb9.mono HX.out.bel.size), by rw [hb9.block _ (by have := HX.out.size; omega)]; exact HX.out.a⟩
  have za0 : W9.cell? ⟨w.heap.size, 0, none⟩ = some (.int .u64 0) := by rw [blk_at HY.out.2]; rfl
  have za1 : W9.cell? ⟨w.heap.size, 1, none⟩ = some (.slice none 0 0) := by rw [blk_at HY.out.2]; rfl
  have ya0 : W9.frozen? ⟨w.heap.size, 0, none⟩ = false := blk_free HY.out.2 0
  have ya1 : W9.frozen? ⟨w.heap.size, 1, none⟩ = false := blk_free HY.out.2 1
  clear hb9 hk9 H8 k0 k1 y1 f1 hW8
  go_wp2
  obtain ⟨hp, hq⟩ := putc2 HY.out.2 (.int .u64 0) (.slice none 0 0)
  have hs0 : w.heap.size < W0.heap.size := by have := HX.out.size; omega
  exact bodyPost_ret (results_cell_tmp1 rfl _ _ w.heap.size 44 _ (0, 0) _ rfl hp Tryd.underlying44 rfl infoD) rfl ⟨rfl, HY.out.1.trans (hq.below HY.out.1.size (fun g hg => by omega))⟩
end Go.Proofs.YtjikibhhhchgeaaDoor

namespace Go.Proofs.YtjikibhhhchgeaaDoor
open Go.RowKit
set_option linter.unusedVariables false
set_option linter.unusedSimpArgs false
set_option maxRecDepth 100000
theorem ndE81 (b : Bool) : ndE b 81 = 81 := by cases b <;> rfl
/-- what is left of a hole's bytes -/
def hoE (l : List Nat) : Nat := ndE (decide (raA l (raA l 0 8) 4 = l.length)) (ndE (okR l (raA l 0 8) 4) (ndE (okR l 0 8) 0))
theorem hoE_ok {l : List Nat} (h : l.length = 12) : hoE l = 0 := by
  have e1 : okR l 0 8 = true := by simp [okR]; omega
  have e2 : raA l 0 8 = 8 := by simp [raA, e1]
  have e3 : okR l 8 4 = true := by simp [okR]; omega
  have e4 : raA l 8 4 = l.length := by simp [raA, e3]; omega
  unfold hoE
  simp only [e2, e4, e3, e1, decide_true, ndE_true]
theorem hoE_no {l : List Nat} (h : l.length ≠ 12) : hoE l = 81 := by
  unfold hoE
  cases h8 : okR l 0 8 with
  | false => rw [show ndE false 0 = 81 from rfl, ndE81, ndE81]
  | true =>
    have e2 : raA l 0 8 = 8 := by simp [raA, h8]
    rw [e2]
    cases h4 : okR l 8 4 with
    | false => rw [ndE_true, show ndE false 0 = 81 from rfl, ndE81]
    | true =>
      have e4 : raA l 8 4 = 12 := by simp [raA, h4]
      rw [e4, decide_eq_false (fun e => h e.symm), ndE_true, ndE_true]; rfl
set_option maxHeartbeats 4000000 in
theorem unpackHole_ok (ao : Option Addr) (cap N : Nat) (l : List Nat) (w : World) (h : BRow w ao cap l) (hN : l.length = N) (hl9 : l.length = 12) :
    Calls Tryd.prog 24 #[.slice ao N cap] w fun e w' => e = .returned (.tuple #[.agg #[.int .u64 ((rvV l 0 8 : Nat) : Int), .int .u32 ((rvV l (raA l 0 8) 4 : Nat) : Int)], .int .i64 0]) ∧ Below w.heap.size w w' := by
  have HUp : Hid (∀ W, Below w.heap.size w W → Calls Tryd.prog 52 #[.slice ao N cap] W fun e w' => ∃ c r ao' cap', e = .returned (.pointer (some ⟨c, 0, none⟩)) ∧ Bg W w' c r ao' cap' l 0 0) := fun W hb => unpackG ao cap N l W (h.later hb) hN
  have HFn : Hid (ndE (decide (raA l (raA l 0 8) 4 = l.length)) (ndE (okR l (raA l 0 8) 4) (ndE (okR l 0 8) 0)) = 0) := hoE_ok hl9
  clear h hN hl9
  obtain ⟨V, hV⟩ : ∃ V, rvV l 0 8 = V := ⟨_, rfl⟩
  obtain ⟨a1, ha1⟩ : ∃ a1, raA l 0 8 = a1 := ⟨_, rfl⟩
  obtain ⟨e1, he1⟩ : ∃ e1, ndE (okR l 0 8) 0 = e1 := ⟨_, rfl⟩
  rw [ha1, he1] at HFn
  rw [ha1, hV]
  obtain ⟨V2, hV2⟩ : ∃ V2, rvV l a1 4 = V2 := ⟨_, rfl⟩
  obtain ⟨a2, ha2⟩ : ∃ a2, raA l a1 4 = a2 := ⟨_, rfl⟩
  obtain ⟨e2, he2⟩ : ∃ e2, ndE (okR l a1 4) e1 = e2 := ⟨_, rfl⟩
  rw [ha2, he2] at HFn
  rw [hV2]
  have HV : Hid (rvV l 0 8 = V ∧ raA l 0 8 = a1 ∧ ndE (okR l 0 8) 0 = e1) := ⟨hV, ha1, he1⟩
  have HV2 : Hid (rvV l a1 4 = V2 ∧ raA l a1 4 = a2 ∧ ndE (okR l a1 4) e1 = e2) := ⟨hV2, ha2, he2⟩
  clear hV ha1 he1 hV2 ha2 he2
  go_enter Tryd.func24, Tryd.ntmps24
  go_wp2_with fail
  have hx := mkb1 w #[.int .u64 0, .int .u32 0] 46
  generalize w.alloc (Obj.cells #[.int .u64 0, .int .u32 0] 46) = W0 at *
  refine (HUp.out _ hx.bel).mono ?_
  rintro e W1 ⟨c, r, ao', cap', rfl, hbd⟩
  have HX : Hid (Bx1 w W0 #[.int .u64 0, .int .u32 0] 46) := hx
  have H1 : Hid (Bg W0 W1 c r ao' cap' l 0 0) := hbd
  clear hx hbd HUp
  go_wp2_with fail
  have hc1 := bu64G H1.out
  rw [HV.out.1, HV.out.2.1, HV.out.2.2] at hc1
  refine hc1.mono ?_
  rintro e W2 ⟨rfl, hbd, _⟩
  have H2 : Hid (Bg W0 W2 c r ao' cap' l a1 e1) := hbd
  clear hbd H1 hc1
  go_wp2_with fail
  have hc2 := bu32G H2.out
  rw [HV2.out.1, HV2.out.2.1, HV2.out.2.2] at hc2
  refine hc2.mono ?_
  rintro e W3 ⟨rfl, hbd, _⟩
  have H3 : Hid (Bg W0 W3 c r ao' cap' l a2 e2) := hbd
  clear hbd H2 hc2
  go_wp2_with fail
  refine (wholeH_ok V V2 H3.out HFn.out).mono ?_
  rintro e W9 ⟨rfl, hb9, hk9⟩
  have HY : Hid (Below w.heap.size w W9 ∧ W9.heap[w.heap.size]? = some (.cells #[.int .u64 0, .int .u32 0] 46 (0, 0))) := ⟨HX.out.bel.trans (hb9.mono HX.out.bel.size), by rw [hb9.block _ (by have := HX.out.size; omega)]; exact HX.out.a⟩
  have za0 : W9.cell? ⟨w.heap.size, 0, none⟩ = some (.int .u64 0) := by rw [blk_at HY.out.2]; rfl
  have za1 : W9.cell? ⟨w.heap.size, 1, none⟩ = some (.int .u32 0) := by rw [blk_at HY.out.2]; rfl
  have ya0 : W9.frozen? ⟨w.heap.size, 0, none⟩ = false := blk_free HY.out.2 0
  have ya1 : W9.frozen? ⟨w.heap.size, 1, none⟩ = false := blk_free HY.out.2 1
  have hs0 : w.heap.size < W0.heap.size := by have := HX.out.size; omega
  clear hb9 hk9 H3
  go_wp2
  obtain ⟨hp, hq⟩ := putc2 HY.out.2 (.int .u64 (V : Int)) (.int .u32 (V2 : Int))
  exact bodyPost_ret (results_cell_tmp1 rfl _ _ w.heap.size 46 _ (0, 0) _ rfl hp Tryd.underlying46 rfl infoH) rfl ⟨rfl, HY.out.1.trans (hq.below HY.out.1.size (fun g hg => by omega))⟩
set_option maxHeartbeats 4000000 in
theorem unpackHole_no (ao : Option Addr) (cap N : Nat) (l : List Nat) (w : World) (h : BRow w ao cap l) (hN : l.length = N) (hl9 : l.length ≠ 12) :
    Calls Tryd.prog 24 #[.slice ao N cap] w fun e w' => e = .returned (.tuple #[.agg #[.int .u64 0, .int .u32 0], .int .i64 81]) ∧ Below w.heap.size w w' := by
  have HUp : Hid (∀ W, Below w.heap.size w W → Calls Tryd.prog 52 #[.slice ao N cap] W fun e w' => ∃ c r ao' cap', e = .returned (.pointer (some ⟨c, 0, none⟩)) ∧ Bg W w' c r ao' cap' l 0 0) := fun W hb => unpackG ao cap N l W (h.later hb) hN
  have HFn : Hid (ndE (decide (raA l (raA l 0 8) 4 = l.length)) (ndE (okR l (raA l 0 8) 4) (ndE (okR l 0 8) 0)) = 81) := hoE_no hl9
  clear h hN hl9
  obtain ⟨V, hV⟩ : ∃ V, rvV l 0 8 = V := ⟨_, rfl⟩
  obtain ⟨a1, ha1⟩ : ∃ a1, raA l 0 8 = a1 := ⟨_, rfl⟩
  obtain ⟨e1, he1⟩ : ∃ e1, ndE (okR l 0 8) 0 = e1 := ⟨_, rfl⟩
  rw [ha1, he1] at HFn
  
  obtain ⟨V2, hV2⟩ : ∃ V2, rvV l a1 4 = V2 := ⟨_, rfl⟩
  obtain ⟨a2, ha2⟩ : ∃ a2, raA l a1 4 = a2 := ⟨_, rfl⟩
  obtain ⟨e2, he2⟩ : ∃ e2, ndE (okR l a1 4) e1 = e2 := ⟨_, rfl⟩
  rw [ha2, he2] at HFn
  
  have HV : Hid (rvV l 0 8 = V ∧ raA l 0 8 = a1 ∧ ndE (okR l 0 8) 0 = e1) := ⟨hV, ha1, he1⟩
  have HV2 : Hid (rvV l a1 4 = V2 ∧ raA l a1 4 = a2 ∧ ndE (okR l a1 4) e1 = e2) := ⟨hV2, ha2, he2⟩
  clear hV ha1 he1 hV2 ha2 he2
  go_enter Tryd.func24, Tryd.ntmps24
  go_wp2_with fail
  have hx := mkb1 w #[.int .u64 0, .int .u32 0] 46
  generalize w.alloc (Obj.cells #[.int .u64 0, .int .u32 0] 46) = W0 at *
  refine (HUp.out _ hx.bel).mono ?_
  rintro e W1 ⟨c, r, ao', cap', rfl, hbd⟩
  have HX : Hid (Bx1 w W0 #[.int .u64 0, .int .u32 0] 46) := hx
  have H1 : Hid (Bg W0 W1 c r ao' cap' l 0 0) := hbd
  clear hx hbd HUp
  go_wp2_with fail
  have hc1 := bu64G H1.out
  rw [HV.out.1, HV.out.2.1, HV.out.2.2] at hc1
  refine hc1.mono ?_
  rintro e W2 ⟨rfl, hbd, _⟩
  have H2 : Hid (Bg W0 W2 c r ao' cap' l a1 e1) := hbd
  clear hbd H1 hc1
  go_wp2_with fail
  have hc2 := bu32G H2.out
  rw [HV2.out.1, HV2.out.2.1, HV2.out.2.2] at hc2
  refine hc2.mono ?_
  rintro e W3 ⟨rfl, hbd, _⟩
  have H3 : Hid (Bg W0 W3 c r ao' cap' l a2 e2) := hbd
  clear hbd H2 hc2
  go_wp2_with fail
  refine (wholeH_no V V2 81 (by decide) H3.out HFn.out).mono ?_
  rintro e W9 ⟨rfl, hb9, hk9⟩
  have HY : Hid (Below w.heap.size w W9 ∧ W9.heap[w.heap.size]? = some (.cells #[.int .u64 0, .int .u32 0] 46 (0, 0))) := ⟨HX.out.bel.trans (hb9.mono HX.out.bel.size), by rw [hb9.block _ (by have := HX.out.size; omega)]; exact HX.out.a⟩
  have za0 : W9.cell? ⟨w.heap.size, 0, none⟩ = some (.int .u64 0) := by rw [blk_at HY.out.2]; rfl
  have za1 : W9.cell? ⟨w.heap.size, 1, none⟩ = some (.int .u32 0) := by rw [blk_at HY.out.2]; rfl
  have ya0 : W9.frozen? ⟨w.heap.size, 0, none⟩ = false := blk_free HY.out.2 0
  have ya1 : W9.frozen? ⟨w.heap.size, 1, none⟩ = false := blk_free HY.out.2 1
  have hs0 : w.heap.size < W0.heap.size := by have := HX.out.size; omega
  clear hb9 hk9 H3
  go_wp2
  obtain ⟨hp, hq⟩ := putc2 HY.out.2 (.int .u64 0) (.int .u32 0)
  exact bodyPost_ret (results_cell_tmp1 rfl _ _ w.heap.size 46 _ (0, 0) _ rfl hp Tryd.underlying46 rfl infoH) rfl ⟨rfl, HY.out.1.trans (hq.below HY.out.1.size (fun g hg => by omega))⟩
end Go.Proofs.YtjikibhhhchgeaaDoor
