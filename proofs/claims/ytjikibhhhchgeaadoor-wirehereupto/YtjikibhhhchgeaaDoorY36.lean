import Derived.Test.YtjikibhhhchgeaaDoorY15
import Derived.Test.YtjikibhhhchgeaaDoorY20
import Derived.Test.YtjikibhhhchgeaaDoorY24
import Derived.Test.YtjikibhhhchgeaaDoorY23
import Derived.Test.YtjikibhhhchgeaaDoorY26
import Derived.Test.YtjikibhhhchgeaaDoorY29
namespace Go.Proofs.YtjikibhhhchgeaaDoor
open Go.RowKit
set_option linter.unusedVariables false
set_option linter.unusedSimpArgs false
set_option maxRecDepth 100000
set_option maxHeartbeats 4000000 in
theorem unpackInfo_1ok (ao : Option Addr) (cap N : Nat) (l : List Nat) (w : World) (h : BRow w ao cap l) (hN : l.length = N) (hT : Tabs w) (V a1 e1 nn a2 e2 : Nat) (h1 : rvV l 0 2 = V ∧ raA l 0 2 = a1 ∧ ndE (okR l 0 2) 0 = e1) (hnn : l.length - a1 = nn) (s : ByteArray) (h3 : bstr (rrL l a1 nn) = s ∧ raA l a1 nn = a2 ∧ ndE (tx s) (ndE (okR l a1 nn) e1) = e2) (g0 : V ≠ 0) (g1 : V = 1) (hfin : ndE (decide (a2 = l.length)) e2 = 0) :
    Calls Tryd.prog 11 #[.slice ao N cap] w fun e w' => e = .returned (.tuple #[.agg #[.int .u16 (V : Int), .int .u64 0, .int .u16 0, .string s, .int .u32 0, .int .u32 0, .int .u32 0, .slice none 0 0], .int .i64 0]) ∧ Below w.heap.size w w' := by
  have HUp : Hid (∀ W, Below w.heap.size w W → Calls Tryd.prog 52 #[.slice ao N cap] W fun e w' => ∃ c r ao' cap', e = .returned (.pointer (some ⟨c, 0, none⟩)) ∧ Bg W w' c r ao' cap' l 0 0) := fun W hb => unpackG ao cap N l W (h.later hb) hN
  have HFn : Hid (ndE (decide (a2 = l.length)) e2 = 0) := hfin
  have HT : Hid (Tabs w) := hT
  have H1' : Hid (rvV l 0 2 = V ∧ raA l 0 2 = a1 ∧ ndE (okR l 0 2) 0 = e1) := h1
  have HNN : Hid (l.length - a1 = nn) := hnn
  have H3' : Hid _ := h3
  have f0 : ((V : Int) == 0) = false := by rw [beq_eq_false_iff_ne]; omega
  have f1 : ((V : Int) == 1) = true := by rw [beq_iff_eq]; omega
  clear h hN hfin hT h1 hnn h3 g0 g1
  go_enter Tryd.func11, Tryd.ntmps11
  go_wp2_with fail
  have hx := mkb1 w #[.int .u16 0, .int .u64 0, .int .u16 0, .string ⟨#[]⟩, .int .u32 0, .int .u32 0, .int .u32 0, .slice none 0 0] 27
  generalize w.alloc (Obj.cells #[.int .u16 0, .int .u64 0, .int .u16 0, .string ⟨#[]⟩, .int .u32 0, .int .u32 0, .int .u32 0, .slice none 0 0] 27) = W0 at *
  refine (HUp.out _ hx.bel).mono ?_
  rintro e W1 ⟨c, r, ao', cap', rfl, hbd⟩
  have HX : Hid (Bx1 w W0 #[.int .u16 0, .int .u64 0, .int .u16 0, .string ⟨#[]⟩, .int .u32 0, .int .u32 0, .int .u32 0, .slice none 0 0] 27) := hx
  have HT0 : Hid (Tabs W0) := HT.out.later hx.bel
  have H1 : Hid (Bg W0 W1 c r ao' cap' l 0 0) := hbd
  clear hx hbd HUp HT
  go_wp2_with fail
  have hc1 := bu16G H1.out
  rw [H1'.out.1, H1'.out.2.1, H1'.out.2.2] at hc1
  refine hc1.mono ?_
  rintro e W2 ⟨rfl, hbd, _⟩
  have H2 : Hid (Bg W0 W2 c r ao' cap' l a1 e1) := hbd
  clear hbd H1 hc1
  go_wp2_with fail
  have h3 : Bg W0 (W2.alloc (Obj.cells #[.int .u16 (V : Int), .int .u64 0, .int .u16 0, .string ⟨#[]⟩, .int .u32 0, .int .u32 0, .int .u32 0, .slice none 0 0] 27)) c r ao' cap' l a1 e1 := H2.out.later (below1 W2 _)
  have eb3 := heap_new W2 (Obj.cells #[.int .u16 (V : Int), .int .u64 0, .int .u16 0, .string ⟨#[]⟩, .int .u32 0, .int .u32 0, .int .u32 0, .slice none 0 0] 27)
  have HG : Hid (W0.heap.size ≤ W2.heap.size) := H2.out.bel.size
  generalize W2.alloc (Obj.cells #[.int .u16 (V : Int), .int .u64 0, .int .u16 0, .string ⟨#[]⟩, .int .u32 0, .int .u32 0, .int .u32 0, .slice none 0 0] 27) = W3 at *
  generalize W2.heap.size = ge at *
  refine (bleftG h3 HNN.out).mono ?_
  rintro e W6 ⟨rfl, q, hw⟩
  have h4 : Bg W0 W6 c r ao' cap' l a1 e1 ∧ W6.heap[ge]? = some (.cells #[.int .u16 (V : Int), .int .u64 0, .int .u16 0, .string ⟨#[]⟩, .int .u32 0, .int .u32 0, .int .u32 0, .slice none 0 0] 27 (0, 0)) := by rw [hw]; exact ⟨h3.later (below_drewN _ q), eb3⟩
  have H6 : Hid _ := h4
  clear h3 eb3 hw H2 h4
  go_wp2_with fail
  have hc7 := brawTextG nn H6.out.1 HT0.out
  rw [H3'.out.1, H3'.out.2.1, H3'.out.2.2] at hc7
  refine hc7.mono ?_
  rintro e W7 ⟨rfl, hb7, hk7⟩
  have H7 : Hid (Bg W0 W7 c r ao' cap' l a2 e2 ∧ W7.heap[ge]? = some (.cells #[.int .u16 (V : Int), .int .u64 0, .int .u16 0, .string ⟨#[]⟩, .int .u32 0, .int .u32 0, .int .u32 0, .slice none 0 0] 27 (0, 0))) := ⟨hb7, H6.out.1.keep H6.out.2 (by decide) (by decide) hk7⟩
  clear H6 hb7 hk7 hc7
  have y1 : W7.cell? ⟨ge, 3, none⟩ = some (.string ⟨#[]⟩) := by rw [blk_at H7.out.2]; rfl
  have f1' := blk_free H7.out.2 3
  have H8 : Hid (Bg W0 (W7.setCell ⟨ge, 3, none⟩ (.string s)) c r ao' cap' l a2 e2 ∧ (W7.setCell ⟨ge, 3, none⟩ (.string s)).heap[ge]? = some (.cells #[.int .u16 (V : Int), .int .u64 0, .int .u16 0, .string s, .int .u32 0, .int .u32 0, .int .u32 0, .slice none 0 0] 27 (0, 0))) := ⟨H7.out.1.put H7.out.2 (by decide) (by decide) (by decide) HG.out 3 _, put_boxX H7.out.2 3 _ (by simp)⟩
  obtain ⟨W8, hW8⟩ : ∃ W8, W8 = W7.setCell ⟨ge, 3, none⟩ (.string s) := ⟨_, rfl⟩
  rw [← hW8] at H8
  have k0 : (W7.setCell ⟨ge, 3, none⟩ (.string s)).cell? ⟨ge, 0, none⟩ = some (.int .u16 (V : Int)) := by rw [← hW8, blk_at H8.out.2]; rfl
  have k1 : (W7.setCell ⟨ge, 3, none⟩ (.string s)).cell? ⟨ge, 1, none⟩ = some (.int .u64 0) := by rw [← hW8, blk_at H8.out.2]; rfl
  have k2 : (W7.setCell ⟨ge, 3, none⟩ (.string s)).cell? ⟨ge, 2, none⟩ = some (.int .u16 0) := by rw [← hW8, blk_at H8.out.2]; rfl
  have k3 : (W7.setCell ⟨ge, 3, none⟩ (.string s)).cell? ⟨ge, 3, none⟩ = some (.string s) := by rw [← hW8, blk_at H8.out.2]; rfl
  have k4 : (W7.setCell ⟨ge, 3, none⟩ (.string s)).cell? ⟨ge, 4, none⟩ = some (.int .u32 0) := by rw [← hW8, blk_at H8.out.2]; rfl
  have k5 : (W7.setCell ⟨ge, 3, none⟩ (.string s)).cell? ⟨ge, 5, none⟩ = some (.int .u32 0) := by rw [← hW8, blk_at H8.out.2]; rfl
  have k6 : (W7.setCell ⟨ge, 3, none⟩ (.string s)).cell? ⟨ge, 6, none⟩ = some (.int .u32 0) := by rw [← hW8, blk_at H8.out.2]; rfl
  have k7 : (W7.setCell ⟨ge, 3, none⟩ (.string s)).cell? ⟨ge, 7, none⟩ = some (.slice none 0 0) := by rw [← hW8, blk_at H8.out.2]; rfl
  clear H7
  go_wp2_with fail
  rw [← hW8]
  refine (wholeI_ok V 0 0 s 0 0 0 none 0 0 H8.out.1 HFn.out).mono ?_
  rintro e W9 ⟨rfl, hb9, hk9⟩
  have HY : Hid (Below w.heap.size w W9 ∧ W9.heap[w.heap.size]? = some (.cells #[.int .u16 0, .int .u64 0, .int .u16 0, .string ⟨#[]⟩, .int .u32 0, .int .u32 0, .int .u32 0, .slice none 0 0] 27 (0, 0))) := ⟨HX.out.bel.trans (hb9.mono HX.out.bel.size), by rw [hb9.block _ (by have := HX.out.size; omega)]; exact HX.out.a⟩
  have za0 : W9.cell? ⟨w.heap.size, 0, none⟩ = some (.int .u16 0) := by rw [blk_at HY.out.2]; rfl
  have ya0 : W9.frozen? ⟨w.heap.size, 0, none⟩ = false := blk_free HY.out.2 0
  have za1 : W9.cell? ⟨w.heap.size, 1, none⟩ = some (.int .u64 0) := by rw [blk_at HY.out.2]; rfl
  have ya1 : W9.frozen? ⟨w.heap.size, 1, none⟩ = false := blk_free HY.out.2 1
  have za2 : W9.cell? ⟨w.heap.size, 2, none⟩ = some (.int .u16 0) := by rw [blk_at HY.out.2]; rfl
  have ya2 : W9.frozen? ⟨w.heap.size, 2, none⟩ = false := blk_free HY.out.2 2
  have za3 : W9.cell? ⟨w.heap.size, 3, none⟩ = some (.string ⟨#[]⟩) := by rw [blk_at HY.out.2]; rfl
  have ya3 : W9.frozen? ⟨w.heap.size, 3, none⟩ = false := blk_free HY.out.2 3
  have za4 : W9.cell? ⟨w.heap.size, 4, none⟩ = some (.int .u32 0) := by rw [blk_at HY.out.2]; rfl
  have ya4 : W9.frozen? ⟨w.heap.size, 4, none⟩ = false := blk_free HY.out.2 4
  have za5 : W9.cell? ⟨w.heap.size, 5, none⟩ = some (.int .u32 0) := by rw [blk_at HY.out.2]; rfl
  have ya5 : W9.frozen? ⟨w.heap.size, 5, none⟩ = false := blk_free HY.out.2 5
  have za6 : W9.cell? ⟨w.heap.size, 6, none⟩ = some (.int .u32 0) := by rw [blk_at HY.out.2]; rfl
  have ya6 : W9.frozen? ⟨w.heap.size, 6, none⟩ = false := blk_free HY.out.2 6
  have za7 : W9.cell? ⟨w.heap.size, 7, none⟩ = some (.slice none 0 0) := by rw [blk_at HY.out.2]; rfl
  have ya7 : W9.frozen? ⟨w.heap.size, 7, none⟩ = false := blk_free HY.out.2 7
  have hs0 : w.heap.size < W0.heap.size := by have := HX.out.size; omega
  clear hb9 hk9 H8 k0 k1 k2 k3 k4 k5 k6 k7 y1 f1' hW8
  go_wp2
  obtain ⟨hp, hq⟩ := putc8 HY.out.2 (.int .u16 (V : Int)) (.int .u64 0) (.int .u16 0) (.string s) (.int .u32 0) (.int .u32 0) (.int .u32 0) (.slice none 0 0)
  generalize ((((((((W9.setCell ⟨w.heap.size, 0, none⟩ (.int .u16 (V : Int))).setCell ⟨w.heap.size, 1, none⟩ (.int .u64 0)).setCell ⟨w.heap.size, 2, none⟩ (.int .u16 0)).setCell ⟨w.heap.size, 3, none⟩ (.string s)).setCell ⟨w.heap.size, 4, none⟩ (.int .u32 0)).setCell ⟨w.heap.size, 5, none⟩ (.int .u32 0)).setCell ⟨w.heap.size, 6, none⟩ (.int .u32 0)).setCell ⟨w.heap.size, 7, none⟩ (.slice none 0 0)) = Wz at hp hq ⊢
  exact bodyPost_ret (results_cell_tmp1 rfl _ _ w.heap.size 27 _ (0, 0) _ rfl hp Tryd.underlying27 rfl infoI) rfl ⟨rfl, HY.out.1.trans (hq.below HY.out.1.size (fun g hg => by omega))⟩
set_option maxHeartbeats 4000000 in
theorem unpackInfo_1no (ao : Option Addr) (cap N : Nat) (l : List Nat) (w : World) (h : BRow w ao cap l) (hN : l.length = N) (hT : Tabs w) (V a1 e1 nn a2 e2 : Nat) (h1 : rvV l 0 2 = V ∧ raA l 0 2 = a1 ∧ ndE (okR l 0 2) 0 = e1) (hnn : l.length - a1 = nn) (s : ByteArray) (h3 : bstr (rrL l a1 nn) = s ∧ raA l a1 nn = a2 ∧ ndE (tx s) (ndE (okR l a1 nn) e1) = e2) (g0 : V ≠ 0) (g1 : V = 1) (hfin : ndE (decide (a2 = l.length)) e2 = 81) :
    Calls Tryd.prog 11 #[.slice ao N cap] w fun e w' => e = .returned (.tuple #[.agg #[.int .u16 0, .int .u64 0, .int .u16 0, .string ⟨#[]⟩, .int .u32 0, .int .u32 0, .int .u32 0, .slice none 0 0], .int .i64 81]) ∧ Below w.heap.size w w' := by
  have HUp : Hid (∀ W, Below w.heap.size w W → Calls Tryd.prog 52 #[.slice ao N cap] W fun e w' => ∃ c r ao' cap', e = .returned (.pointer (some ⟨c, 0, none⟩)) ∧ Bg W w' c r ao' cap' l 0 0) := fun W hb => unpackG ao cap N l W (h.later hb) hN
  have HFn : Hid (ndE (decide (a2 = l.length)) e2 = 81) := hfin
  have HT : Hid (Tabs w) := hT
  have H1' : Hid (rvV l 0 2 = V ∧ raA l 0 2 = a1 ∧ ndE (okR l 0 2) 0 = e1) := h1
  have HNN : Hid (l.length - a1 = nn) := hnn
  have H3' : Hid _ := h3
  have f0 : ((V : Int) == 0) = false := by rw [beq_eq_false_iff_ne]; omega
  have f1 : ((V : Int) == 1) = true := by rw [beq_iff_eq]; omega
  clear h hN hfin hT h1 hnn h3 g0 g1
  go_enter Tryd.func11, Tryd.ntmps11
  go_wp2_with fail
  have hx := mkb1 w #[.int .u16 0, .int .u64 0, .int .u16 0, .string ⟨#[]⟩, .int .u32 0, .int .u32 0, .int .u32 0, .slice none 0 0] 27
  generalize w.alloc (Obj.cells #[.int .u16 0, .int .u64 0, .int .u16 0, .string ⟨#[]⟩, .int .u32 0, .int .u32 0, .int .u32 0, .slice none 0 0] 27) = W0 at *
  refine (HUp.out _ hx.bel).mono ?_
  rintro e W1 ⟨c, r, ao', cap', rfl, hbd⟩
  have HX : Hid (Bx1 w W0 #[.int .u16 0, .int .u64 0, .int .u16 0, .string ⟨#[]⟩, .int .u32 0, .int .u32 0, .int .u32 0, .slice none 0 0] 27) := hx
  have HT0 : Hid (Tabs W0) := HT.out.later hx.bel
  have H1 : Hid (Bg W0 W1 c r ao' cap' l 0 0) := hbd
  clear hx hbd HUp HT
  go_wp2_with fail
  have hc1 := bu16G H1.out
  rw [H1'.out.1, H1'.out.2.1, H1'.out.2.2] at hc1
  refine hc1.mono ?_
  rintro e W2 ⟨rfl, hbd, _⟩
  have H2 : Hid (Bg W0 W2 c r ao' cap' l a1 e1) := hbd
  clear hbd H1 hc1
  go_wp2_with fail
  have h3 : Bg W0 (W2.alloc (Obj.cells #[.int .u16 (V : Int), .int .u64 0, .int .u16 0, .string ⟨#[]⟩, .int .u32 0, .int .u32 0, .int .u32 0, .slice none 0 0] 27)) c r ao' cap' l a1 e1 := H2.out.later (below1 W2 _)
  have eb3 := heap_new W2 (Obj.cells #[.int .u16 (V : Int), .int .u64 0, .int .u16 0, .string ⟨#[]⟩, .int .u32 0, .int .u32 0, .int .u32 0, .slice none 0 0] 27)
  have HG : Hid (W0.heap.size ≤ W2.heap.size) := H2.out.bel.size
  generalize W2.alloc (Obj.cells #[.int .u16 (V : Int), .int .u64 0, .int .u16 0, .string ⟨#[]⟩, .int .u32 0, .int .u32 0, .int .u32 0, .slice none 0 0] 27) = W3 at *
  generalize W2.heap.size = ge at *
  refine (bleftG h3 HNN.out).mono ?_
  rintro e W6 ⟨rfl, q, hw⟩
  have h4 : Bg W0 W6 c r ao' cap' l a1 e1 ∧ W6.heap[ge]? = some (.cells #[.int .u16 (V : Int), .int .u64 0, .int .u16 0, .string ⟨#[]⟩, .int .u32 0, .int .u32 0, .int .u32 0, .slice none 0 0] 27 (0, 0)) := by rw [hw]; exact ⟨h3.later (below_drewN _ q), eb3⟩
  have H6 : Hid _ := h4
  clear h3 eb3 hw H2 h4
  go_wp2_with fail
  have hc7 := brawTextG nn H6.out.1 HT0.out
  rw [H3'.out.1, H3'.out.2.1, H3'.out.2.2] at hc7
  refine hc7.mono ?_
  rintro e W7 ⟨rfl, hb7, hk7⟩
  have H7 : Hid (Bg W0 W7 c r ao' cap' l a2 e2 ∧ W7.heap[ge]? = some (.cells #[.int .u16 (V : Int), .int .u64 0, .int .u16 0, .string ⟨#[]⟩, .int .u32 0, .int .u32 0, .int .u32 0, .slice none 0 0] 27 (0, 0))) := ⟨hb7, H6.out.1.keep H6.out.2 (by decide) (by decide) hk7⟩
  clear H6 hb7 hk7 hc7
  have y1 : W7.cell? ⟨ge, 3, none⟩ = some (.string ⟨#[]⟩) := by rw [blk_at H7.out.2]; rfl
  have f1' := blk_free H7.out.2 3
  have H8 : Hid (Bg W0 (W7.setCell ⟨ge, 3, none⟩ (.string s)) c r ao' cap' l a2 e2 ∧ (W7.setCell ⟨ge, 3, none⟩ (.string s)).heap[ge]? = some (.cells #[.int .u16 (V : Int), .int .u64 0, .int .u16 0, .string s, .int .u32 0, .int .u32 0, .int .u32 0, .slice none 0 0] 27 (0, 0))) := ⟨H7.out.1.put H7.out.2 (by decide) (by decide) (by decide) HG.out 3 _, put_boxX H7.out.2 3 _ (by simp)⟩
  obtain ⟨W8, hW8⟩ : ∃ W8, W8 = W7.setCell ⟨ge, 3, none⟩ (.string s) := ⟨_, rfl⟩
  rw [← hW8] at H8
  have k0 : (W7.setCell ⟨ge, 3, none⟩ (.string s)).cell? ⟨ge, 0, none⟩ = some (.int .u16 (V : Int)) := by rw [← hW8, blk_at H8.out.2]; rfl
  have k1 : (W7.setCell ⟨ge, 3, none⟩ (.string s)).cell? ⟨ge, 1, none⟩ = some (.int .u64 0) := by rw [← hW8, blk_at H8.out.2]; rfl
  have k2 : (W7.setCell ⟨ge, 3, none⟩ (.string s)).cell? ⟨ge, 2, none⟩ = some (.int .u16 0) := by rw [← hW8, blk_at H8.out.2]; rfl
  have k3 : (W7.setCell ⟨ge, 3, none⟩ (.string s)).cell? ⟨ge, 3, none⟩ = some (.string s) := by rw [← hW8, blk_at H8.out.2]; rfl
  have k4 : (W7.setCell ⟨ge, 3, none⟩ (.string s)).cell? ⟨ge, 4, none⟩ = some (.int .u32 0) := by rw [← hW8, blk_at H8.out.2]; rfl
  have k5 : (W7.setCell ⟨ge, 3, none⟩ (.string s)).cell? ⟨ge, 5, none⟩ = some (.int .u32 0) := by rw [← hW8, blk_at H8.out.2]; rfl
  have k6 : (W7.setCell ⟨ge, 3, none⟩ (.string s)).cell? ⟨ge, 6, none⟩ = some (.int .u32 0) := by rw [← hW8, blk_at H8.out.2]; rfl
  have k7 : (W7.setCell ⟨ge, 3, none⟩ (.string s)).cell? ⟨ge, 7, none⟩ = some (.slice none 0 0) := by rw [← hW8, blk_at H8.out.2]; rfl
  clear H7
  go_wp2_with fail
  rw [← hW8]
  refine (wholeI_no V 0 0 s 0 0 0 none 0 0 81 (by decide) H8.out.1 HFn.out).mono ?_
  rintro e W9 ⟨rfl, hb9, hk9⟩
  have HY : Hid (Below w.heap.size w W9 ∧ W9.heap[w.heap.size]? = some (.cells #[.int .u16 0, .int .u64 0, .int .u16 0, .string ⟨#[]⟩, .int .u32 0, .int .u32 0, .int .u32 0, .slice none 0 0] 27 (0, 0))) := ⟨HX.out.bel.trans (hb9.mono HX.out.bel.size), by rw [hb9.block _ (by have := HX.out.size; omega)]; exact HX.out.a⟩
  have za0 : W9.cell? ⟨w.heap.size, 0, none⟩ = some (.int .u16 0) := by rw [blk_at HY.out.2]; rfl
  have ya0 : W9.frozen? ⟨w.heap.size, 0, none⟩ = false := blk_free HY.out.2 0
  have za1 : W9.cell? ⟨w.heap.size, 1, none⟩ = some (.int .u64 0) := by rw [blk_at HY.out.2]; rfl
  have ya1 : W9.frozen? ⟨w.heap.size, 1, none⟩ = false := blk_free HY.out.2 1
  have za2 : W9.cell? ⟨w.heap.size, 2, none⟩ = some (.int .u16 0) := by rw [blk_at HY.out.2]; rfl
  have ya2 : W9.frozen? ⟨w.heap.size, 2, none⟩ = false := blk_free HY.out.2 2
  have za3 : W9.cell? ⟨w.heap.size, 3, none⟩ = some (.string ⟨#[]⟩) := by rw [blk_at HY.out.2]; rfl
  have ya3 : W9.frozen? ⟨w.heap.size, 3, none⟩ = false := blk_free HY.out.2 3
  have za4 : W9.cell? ⟨w.heap.size, 4, none⟩ = some (.int .u32 0) := by rw [blk_at HY.out.2]; rfl
  have ya4 : W9.frozen? ⟨w.heap.size, 4, none⟩ = false := blk_free HY.out.2 4
  have za5 : W9.cell? ⟨w.heap.size, 5, none⟩ = some (.int .u32 0) := by rw [blk_at HY.out.2]; rfl
  have ya5 : W9.frozen? ⟨w.heap.size, 5, none⟩ = false := blk_free HY.out.2 5
  have za6 : W9.cell? ⟨w.heap.size, 6, none⟩ = some (.int .u32 0) := by rw [blk_at HY.out.2]; rfl
  have ya6 : W9.frozen? ⟨w.heap.size, 6, none⟩ = false := blk_free HY.out.2 6
  have za7 : W9.cell? ⟨w.heap.size, 7, none⟩ = some (.slice none 0 0) := by rw [blk_at HY.out.2]; rfl
  have ya7 : W9.frozen? ⟨w.heap.size, 7, none⟩ = false := blk_free HY.out.2 7
  have hs0 : w.heap.size < W0.heap.size := by have := HX.out.size; omega
  clear hb9 hk9 H8 k0 k1 k2 k3 k4 k5 k6 k7 y1 f1' hW8
  go_wp2
  obtain ⟨hp, hq⟩ := putc8 HY.out.2 (.int .u16 0) (.int .u64 0) (.int .u16 0) (.string ⟨#[]⟩) (.int .u32 0) (.int .u32 0) (.int .u32 0) (.slice none 0 0)
  generalize ((((((((W9.setCell ⟨w.heap.size, 0, none⟩ (.int .u16 0)).setCell ⟨w.heap.size, 1, none⟩ (.int .u64 0)).setCell ⟨w.heap.size, 2, none⟩ (.int .u16 0)).setCell ⟨w.heap.size, 3, none⟩ (.string ⟨#[]⟩)).setCell ⟨w.heap.size, 4, none⟩ (.int .u32 0)).setCell ⟨w.heap.size, 5, none⟩ (.int .u32 0)).setCell ⟨w.heap.size, 6, none⟩ (.int .u32 0)).setCell ⟨w.heap.size, 7, none⟩ (.slice none 0 0)) = Wz at hp hq ⊢
  exact bodyPost_ret (results_cell_tmp1 rfl _ _ w.heap.size 27 _ (0, 0) _ rfl hp Tryd.underlying27 rfl infoI) rfl ⟨rfl, HY.out.1.trans (hq.below HY.out.1.size (fun g hg => by omega))⟩
set_option maxHeartbeats 4000000 in
theorem unpackInfo_2ok (ao : Option Addr) (cap N : Nat) (l : List Nat) (w : World) (h : BRow w ao cap l) (hN : l.length = N) (hT : Tabs w) (V a1 e1 nn a2 e2 : Nat) (h1 : rvV l 0 2 = V ∧ raA l 0 2 = a1 ∧ ndE (okR l 0 2) 0 = e1) (hnn : l.length - a1 = nn) (s : ByteArray) (h3 : bstr (rrL l a1 nn) = s ∧ raA l a1 nn = a2 ∧ ndE (tx s) (ndE (okR l a1 nn) e1) = e2) (g0 : V ≠ 0) (g1 : V ≠ 1) (g2 : V = 2) (hfin : ndE (decide (a2 = l.length)) e2 = 0) :
    Calls Tryd.prog 11 #[.slice ao N cap] w fun e w' => e = .returned (.tuple #[.agg #[.int .u16 (V : Int), .int .u64 0, .int .u16 0, .string s, .int .u32 0, .int .u32 0, .int .u32 0, .slice none 0 0], .int .i64 0]) ∧ Below w.heap.size w w' := by
  have HUp : Hid (∀ W, Below w.heap.size w W → Calls Tryd.prog 52 #[.slice ao N cap] W fun e w' => ∃ c r ao' cap', e = .returned (.pointer (some ⟨c, 0, none⟩)) ∧ Bg W w' c r ao' cap' l 0 0) := fun W hb => unpackG ao cap N l W (h.later hb) hN
  have HFn : Hid (ndE (decide (a2 = l.length)) e2 = 0) := hfin
  have HT : Hid (Tabs w) := hT
  have H1' : Hid (rvV l 0 2 = V ∧ raA l 0 2 = a1 ∧ ndE (okR l 0 2) 0 = e1) := h1
  have HNN : Hid (l.length - a1 = nn) := hnn
  have H3' : Hid _ := h3
  have f0 : ((V : Int) == 0) = false := by rw [beq_eq_false_iff_ne]; omega
  have f1 : ((V : Int) == 1) = false := by rw [beq_eq_false_iff_ne]; omega
  have f2 : ((V : Int) == 2) = true := by rw [beq_iff_eq]; omega
  clear h hN hfin hT h1 hnn h3 g0 g1 g2
  go_enter Tryd.func11, Tryd.ntmps11
  go_wp2_with fail
  have hx := mkb1 w #[.int .u16 0, .int .u64 0, .int .u16 0, .string ⟨#[]⟩, .int .u32 0, .int .u32 0, .int .u32 0, .slice none 0 0] 27
  generalize w.alloc (Obj.cells #[.int .u16 0, .int .u64 0, .int .u16 0, .string ⟨#[]⟩, .int .u32 0, .int .u32 0, .int .u32 0, .slice none 0 0] 27) = W0 at *
  refine (HUp.out _ hx.bel).mono ?_
  rintro e W1 ⟨c, r, ao', cap', rfl, hbd⟩
  have HX : Hid (Bx1 w W0 #[.int .u16 0, .int .u64 0, .int .u16 0, .string ⟨#[]⟩, .int .u32 0, .int .u32 0, .int .u32 0, .slice none 0 0] 27) := hx
  have HT0 : Hid (Tabs W0) := HT.out.later hx.bel
  have H1 : Hid (Bg W0 W1 c r ao' cap' l 0 0) := hbd
  clear hx hbd HUp HT
  go_wp2_with fail
  have hc1 := bu16G H1.out
  rw [H1'.out.1, H1'.out.2.1, H1'.out.2.2] at hc1
  refine hc1.mono ?_
  rintro e W2 ⟨rfl, hbd, _⟩
  have H2 : Hid (Bg W0 W2 c r ao' cap' l a1 e1) := hbd
  clear hbd H1 hc1
  go_wp2_with fail
  have h3 : Bg W0 (W2.alloc (Obj.cells #[.int .u16 (V : Int), .int .u64 0, .int .u16 0, .string ⟨#[]⟩, .int .u32 0, .int .u32 0, .int .u32 0, .slice none 0 0] 27)) c r ao' cap' l a1 e1 := H2.out.later (below1 W2 _)
  have eb3 := heap_new W2 (Obj.cells #[.int .u16 (V : Int), .int .u64 0, .int .u16 0, .string ⟨#[]⟩, .int .u32 0, .int .u32 0, .int .u32 0, .slice none 0 0] 27)
  have HG : Hid (W0.heap.size ≤ W2.heap.size) := H2.out.bel.size
  generalize W2.alloc (Obj.cells #[.int .u16 (V : Int), .int .u64 0, .int .u16 0, .string ⟨#[]⟩, .int .u32 0, .int .u32 0, .int .u32 0, .slice none 0 0] 27) = W3 at *
  generalize W2.heap.size = ge at *
  refine (bleftG h3 HNN.out).mono ?_
  rintro e W6 ⟨rfl, q, hw⟩
  have h4 : Bg W0 W6 c r ao' cap' l a1 e1 ∧ W6.heap[ge]? = some (.cells #[.int .u16 (V : Int), .int .u64 0, .int .u16 0, .string ⟨#[]⟩, .int .u32 0, .int .u32 0, .int .u32 0, .slice none 0 0] 27 (0, 0)) := by rw [hw]; exact ⟨h3.later (below_drewN _ q), eb3⟩
  have H6 : Hid _ := h4
  clear h3 eb3 hw H2 h4
  go_wp2_with fail
  have hc7 := brawTextG nn H6.out.1 HT0.out
  rw [H3'.out.1, H3'.out.2.1, H3'.out.2.2] at hc7
  refine hc7.mono ?_
  rintro e W7 ⟨rfl, hb7, hk7⟩
  have H7 : Hid (Bg W0 W7 c r ao' cap' l a2 e2 ∧ W7.heap[ge]? = some (.cells #[.int .u16 (V : Int), .int .u64 0, .int .u16 0, .string ⟨#[]⟩, .int .u32 0, .int .u32 0, .int .u32 0, .slice none 0 0] 27 (0, 0))) := ⟨hb7, H6.out.1.keep H6.out.2 (by decide) (by decide) hk7⟩
  clear H6 hb7 hk7 hc7
  have y1 : W7.cell? ⟨ge, 3, none⟩ = some (.string ⟨#[]⟩) := by rw [blk_at H7.out.2]; rfl
  have f1' := blk_free H7.out.2 3
  have H8 : Hid (Bg W0 (W7.setCell ⟨ge, 3, none⟩ (.string s)) c r ao' cap' l a2 e2 ∧ (W7.setCell ⟨ge, 3, none⟩ (.string s)).heap[ge]? = some (.cells #[.int .u16 (V : Int), .int .u64 0, .int .u16 0, .string s, .int .u32 0, .int .u32 0, .int .u32 0, .slice none 0 0] 27 (0, 0))) := ⟨H7.out.1.put H7.out.2 (by decide) (by decide) (by decide) HG.out 3 _, put_boxX H7.out.2 3 _ (by simp)⟩
  obtain ⟨W8, hW8⟩ : ∃ W8, W8 = W7.setCell ⟨ge, 3, none⟩ (.string s) := ⟨_, rfl⟩
  rw [← hW8] at H8
  have k0 : (W7.setCell ⟨ge, 3, none⟩ (.string s)).cell? ⟨ge, 0, none⟩ = some (.int .u16 (V : Int)) := by rw [← hW8, blk_at H8.out.2]; rfl
  have k1 : (W7.setCell ⟨ge, 3, none⟩ (.string s)).cell? ⟨ge, 1, none⟩ = some (.int .u64 0) := by rw [← hW8, blk_at H8.out.2]; rfl
  have k2 : (W7.setCell ⟨ge, 3, none⟩ (.string s)).cell? ⟨ge, 2, none⟩ = some (.int .u16 0) := by rw [← hW8, blk_at H8.out.2]; rfl
  have k3 : (W7.setCell ⟨ge, 3, none⟩ (.string s)).cell? ⟨ge, 3, none⟩ = some (.string s) := by rw [← hW8, blk_at H8.out.2]; rfl
  have k4 : (W7.setCell ⟨ge, 3, none⟩ (.string s)).cell? ⟨ge, 4, none⟩ = some (.int .u32 0) := by rw [← hW8, blk_at H8.out.2]; rfl
  have k5 : (W7.setCell ⟨ge, 3, none⟩ (.string s)).cell? ⟨ge, 5, none⟩ = some (.int .u32 0) := by rw [← hW8, blk_at H8.out.2]; rfl
  have k6 : (W7.setCell ⟨ge, 3, none⟩ (.string s)).cell? ⟨ge, 6, none⟩ = some (.int .u32 0) := by rw [← hW8, blk_at H8.out.2]; rfl
  have k7 : (W7.setCell ⟨ge, 3, none⟩ (.string s)).cell? ⟨ge, 7, none⟩ = some (.slice none 0 0) := by rw [← hW8, blk_at H8.out.2]; rfl
  clear H7
  go_wp2_with fail
  rw [← hW8]
  refine (wholeI_ok V 0 0 s 0 0 0 none 0 0 H8.out.1 HFn.out).mono ?_
  rintro e W9 ⟨rfl, hb9, hk9⟩
  have HY : Hid (Below w.heap.size w W9 ∧ W9.heap[w.heap.size]? = some (.cells #[.int .u16 0, .int .u64 0, .int .u16 0, .string ⟨#[]⟩, .int .u32 0, .int .u32 0, .int .u32 0, .slice none 0 0] 27 (0, 0))) := ⟨HX.out.bel.trans (hb9.mono HX.out.bel.size), by rw [hb9.block _ (by have := HX.out.size; omega)]; exact HX.out.a⟩
  have za0 : W9.cell? ⟨w.heap.size, 0, none⟩ = some (.int .u16 0) := by rw [blk_at HY.out.2]; rfl
  have ya0 : W9.frozen? ⟨w.heap.size, 0, none⟩ = false := blk_free HY.out.2 0
  have za1 : W9.cell? ⟨w.heap.size, 1, none⟩ = some (.int .u64 0) := by rw [blk_at HY.out.2]; rfl
  have ya1 : W9.frozen? ⟨w.heap.size, 1, none⟩ = false := blk_free HY.out.2 1
  have za2 : W9.cell? ⟨w.heap.size, 2, none⟩ = some (.int .u16 0) := by rw [blk_at HY.out.2]; rfl
  have ya2 : W9.frozen? ⟨w.heap.size, 2, none⟩ = false := blk_free HY.out.2 2
  have za3 : W9.cell? ⟨w.heap.size, 3, none⟩ = some (.string ⟨#[]⟩) := by rw [blk_at HY.out.2]; rfl
  have ya3 : W9.frozen? ⟨w.heap.size, 3, none⟩ = false := blk_free HY.out.2 3
  have za4 : W9.cell? ⟨w.heap.size, 4, none⟩ = some (.int .u32 0) := by rw [blk_at HY.out.2]; rfl
  have ya4 : W9.frozen? ⟨w.heap.size, 4, none⟩ = false := blk_free HY.out.2 4
  have za5 : W9.cell? ⟨w.heap.size, 5, none⟩ = some (.int .u32 0) := by rw [blk_at HY.out.2]; rfl
  have ya5 : W9.frozen? ⟨w.heap.size, 5, none⟩ = false := blk_free HY.out.2 5
  have za6 : W9.cell? ⟨w.heap.size, 6, none⟩ = some (.int .u32 0) := by rw [blk_at HY.out.2]; rfl
  have ya6 : W9.frozen? ⟨w.heap.size, 6, none⟩ = false := blk_free HY.out.2 6
  have za7 : W9.cell? ⟨w.heap.size, 7, none⟩ = some (.slice none 0 0) := by rw [blk_at HY.out.2]; rfl
  have ya7 : W9.frozen? ⟨w.heap.size, 7, none⟩ = false := blk_free HY.out.2 7
  have hs0 : w.heap.size < W0.heap.size := by have := HX.out.size; omega
  clear hb9 hk9 H8 k0 k1 k2 k3 k4 k5 k6 k7 y1 f1' hW8
  go_wp2
  obtain ⟨hp, hq⟩ := putc8 HY.out.2 (.int .u16 (V : Int)) (.int .u64 0) (.int .u16 0) (.string s) (.int .u32 0) (.int .u32 0) (.int .u32 0) (.slice none 0 0)
  generalize ((((((((W9.setCell ⟨w.heap.size, 0, none⟩ (.int .u16 (V : Int))).setCell ⟨w.heap.size, 1, none⟩ (.int .u64 0)).setCell ⟨w.heap.size, 2, none⟩ (.int .u16 0)).setCell ⟨w.heap.size, 3, none⟩ (.string s)).setCell ⟨w.heap.size, 4, none⟩ (.int .u32 0)).setCell ⟨w.heap.size, 5, none⟩ (.int .u32 0)).setCell ⟨w.heap.size, 6, none⟩ (.int .u32 0)).setCell ⟨w.heap.size, 7, none⟩ (.slice none 0 0)) = Wz at hp hq ⊢
  exact bodyPost_ret (results_cell_tmp1 rfl _ _ w.heap.size 27 _ (0, 0) _ rfl hp Tryd.underlying27 rfl infoI) rfl ⟨rfl, HY.out.1.trans (hq.below HY.out.1.size (fun g hg => by omega))⟩
set_option maxHeartbeats 4000000 in
theorem unpackInfo_2no (ao : Option Addr) (cap N : Nat) (l : List Nat) (w : World) (h : BRow w ao cap l) (hN : l.length = N) (hT : Tabs w) (V a1 e1 nn a2 e2 : Nat) (h1 : rvV l 0 2 = V ∧ raA l 0 2 = a1 ∧ ndE (okR l 0 2) 0 = e1) (hnn : l.length - a1 = nn) (s : ByteArray) (h3 : bstr (rrL l a1 nn) = s ∧ raA l a1 nn = a2 ∧ ndE (tx s) (ndE (okR l a1 nn) e1) = e2) (g0 : V ≠ 0) (g1 : V ≠ 1) (g2 : V = 2) (hfin : ndE (decide (a2 = l.length)) e2 = 81) :
    Calls Tryd.prog 11 #[.slice ao N cap] w fun e w' => e = .returned (.tuple #[.agg #[.int .u16 0, .int .u64 0, .int .u16 0, .string ⟨#[]⟩, .int .u32 0, .int .u32 0, .int .u32 0, .slice none 0 0], .int .i64 81]) ∧ Below w.heap.size w w' := by
  have HUp : Hid (∀ W, Below w.heap.size w W → Calls Tryd.prog 52 #[.slice ao N cap] W fun e w' => ∃ c r ao' cap', e = .returned (.pointer (some ⟨c, 0, none⟩)) ∧ Bg W w' c r ao' cap' l 0 0) := fun W hb => unpackG ao cap N l W (h.later hb) hN
  have HFn : Hid (ndE (decide (a2 = l.length)) e2 = 81) := hfin
  have HT : Hid (Tabs w) := hT
  have H1' : Hid (rvV l 0 2 = V ∧ raA l 0 2 = a1 ∧ ndE (okR l 0 2) 0 = e1) := h1
  have HNN : Hid (l.length - a1 = nn) := hnn
  have H3' : Hid _ := h3
  have f0 : ((V : Int) == 0) = false := by rw [beq_eq_false_iff_ne]; omega
  have f1 : ((V : Int) == 1) = false := by rw [beq_eq_false_iff_ne]; omega
  have f2 : ((V : Int) == 2) = true := by rw [beq_iff_eq]; omega
  clear h hN hfin hT h1 hnn h3 g0 g1 g2
  go_enter Tryd.func11, Tryd.ntmps11
  go_wp2_with fail
  have hx := mkb1 w #[.int .u16 0, .int .u64 0, .int .u16 0, .string ⟨#[]⟩, .int .u32 0, .int .u32 0, .int .u32 0, .slice none 0 0] 27
  generalize w.alloc (Obj.cells #[.int .u16 0, .int .u64 0, .int .u16 0, .string ⟨#[]⟩, .int .u32 0, .int .u32 0, .int .u32 0, .slice none 0 0] 27) = W0 at *
  refine (HUp.out _ hx.bel).mono ?_
  rintro e W1 ⟨c, r, ao', cap', rfl, hbd⟩
  have HX : Hid (Bx1 w W0 #[.int .u16 0, .int .u64 0, .int .u16 0, .string ⟨#[]⟩, .int .u32 0, .int .u32 0, .int .u32 0, .slice none 0 0] 27) := hx
  have HT0 : Hid (Tabs W0) := HT.out.later hx.bel
  have H1 : Hid (Bg W0 W1 c r ao' cap' l 0 0) := hbd
  clear hx hbd HUp HT
  go_wp2_with fail
  have hc1 := bu16G H1.out
  rw [H1'.out.1, H1'.out.2.1, H1'.out.2.2] at hc1
  refine hc1.mono ?_
  rintro e W2 ⟨rfl, hbd, _⟩
  have H2 : Hid (Bg W0 W2 c r ao' cap' l a1 e1) := hbd
  clear hbd H1 hc1
  go_wp2_with fail
  have h3 : Bg W0 (W2.alloc (Obj.cells #[.int .u16 (V : Int), .int .u64 0, .int .u16 0, .string ⟨#[]⟩, .int .u32 0, .int .u32 0, .int .u32 0, .slice none 0 0] 27)) c r ao' cap' l a1 e1 := H2.out.later (below1 W2 _)
  have eb3 := heap_new W2 (Obj.cells #[.int .u16 (V : Int), .int .u64 0, .int .u16 0, .string ⟨#[]⟩, .int .u32 0, .int .u32 0, .int .u32 0, .slice none 0 0] 27)
  have HG : Hid (W0.heap.size ≤ W2.heap.size) := H2.out.bel.size
  generalize W2.alloc (Obj.cells #[.int .u16 (V : Int), .int .u64 0, .int .u16 0, .string ⟨#[]⟩, .int .u32 0, .int .u32 0, .int .u32 0, .slice none 0 0] 27) = W3 at *
  generalize W2.heap.size = ge at *
  refine (bleftG h3 HNN.out).mono ?_
  rintro e W6 ⟨rfl, q, hw⟩
  have h4 : Bg W0 W6 c r ao' cap' l a1 e1 ∧ W6.heap[ge]? = some (.cells #[.int .u16 (V : Int), .int .u64 0, .int .u16 0, .string ⟨#[]⟩, .int .u32 0, .int .u32 0, .int .u32 0, .slice none 0 0] 27 (0, 0)) := by rw [hw]; exact ⟨h3.later (below_drewN _ q), eb3⟩
  have H6 : Hid _ := h4
  clear h3 eb3 hw H2 h4
  go_wp2_with fail
  have hc7 := brawTextG nn H6.out.1 HT0.out
  rw [H3'.out.1, H3'.out.2.1, H3'.out.2.2] at hc7
  refine hc7.mono ?_
  rintro e W7 ⟨rfl, hb7, hk7⟩
  have H7 : Hid (Bg W0 W7 c r ao' cap' l a2 e2 ∧ W7.heap[ge]? = some (.cells #[.int .u16 (V : Int), .int .u64 0, .int .u16 0, .string ⟨#[]⟩, .int .u32 0, .int .u32 0, .int .u32 0, .slice none 0 0] 27 (0, 0))) := ⟨hb7, H6.out.1.keep H6.out.2 (by decide) (by decide) hk7⟩
  clear H6 hb7 hk7 hc7
  have y1 : W7.cell? ⟨ge, 3, none⟩ = some (.string ⟨#[]⟩) := by rw [blk_at H7.out.2]; rfl
  have f1' := blk_free H7.out.2 3
  have H8 : Hid (Bg W0 (W7.setCell ⟨ge, 3, none⟩ (.string s)) c r ao' cap' l a2 e2 ∧ (W7.setCell ⟨ge, 3, none⟩ (.string s)).heap[ge]? = some (.cells #[.int .u16 (V : Int), .int .u64 0, .int .u16 0, .string s, .int .u32 0, .int .u32 0, .int .u32 0, .slice none 0 0] 27 (0, 0))) := ⟨H7.out.1.put H7.out.2 (by decide) (by decide) (by decide) HG.out 3 _, put_boxX H7.out.2 3 _ (by simp)⟩
  obtain ⟨W8, hW8⟩ : ∃ W8, W8 = W7.setCell ⟨ge, 3, none⟩ (.string s) := ⟨_, rfl⟩
  rw [← hW8] at H8
  have k0 : (W7.setCell ⟨ge, 3, none⟩ (.string s)).cell? ⟨ge, 0, none⟩ = some (.int .u16 (V : Int)) := by rw [← hW8, blk_at H8.out.2]; rfl
  have k1 : (W7.setCell ⟨ge, 3, none⟩ (.string s)).cell? ⟨ge, 1, none⟩ = some (.int .u64 0) := by rw [← hW8, blk_at H8.out.2]; rfl
  have k2 : (W7.setCell ⟨ge, 3, none⟩ (.string s)).cell? ⟨ge, 2, none⟩ = some (.int .u16 0) := by rw [← hW8, blk_at H8.out.2]; rfl
  have k3 : (W7.setCell ⟨ge, 3, none⟩ (.string s)).cell? ⟨ge, 3, none⟩ = some (.string s) := by rw [← hW8, blk_at H8.out.2]; rfl
  have k4 : (W7.setCell ⟨ge, 3, none⟩ (.string s)).cell? ⟨ge, 4, none⟩ = some (.int .u32 0) := by rw [← hW8, blk_at H8.out.2]; rfl
  have k5 : (W7.setCell ⟨ge, 3, none⟩ (.string s)).cell? ⟨ge, 5, none⟩ = some (.int .u32 0) := by rw [← hW8, blk_at H8.out.2]; rfl
  have k6 : (W7.setCell ⟨ge, 3, none⟩ (.string s)).cell? ⟨ge, 6, none⟩ = some (.int .u32 0) := by rw [← hW8, blk_at H8.out.2]; rfl
  have k7 : (W7.setCell ⟨ge, 3, none⟩ (.string s)).cell? ⟨ge, 7, none⟩ = some (.slice none 0 0) := by rw [← hW8, blk_at H8.out.2]; rfl
  clear H7
  go_wp2_with fail
  rw [← hW8]
  refine (wholeI_no V 0 0 s 0 0 0 none 0 0 81 (by decide) H8.out.1 HFn.out).mono ?_
  rintro e W9 ⟨rfl, hb9, hk9⟩
  have HY : Hid (Below w.heap.size w W9 ∧ W9.heap[w.heap.size]? = some (.cells #[.int .u16 0, .int .u64 0, .int .u16 0, .string ⟨#[]⟩, .int .u32 0, .int .u32 0, .int .u32 0, .slice none 0 0] 27 (0, 0))) := ⟨HX.out.bel.trans (hb9.mono HX.out.bel.size), by rw [hb9.block _ (by have := HX.out.size; omega)]; exact HX.out.a⟩
  have za0 : W9.cell? ⟨w.heap.size, 0, none⟩ = some (.int .u16 0) := by rw [blk_at HY.out.2]; rfl
  have ya0 : W9.frozen? ⟨w.heap.size, 0, none⟩ = false := blk_free HY.out.2 0
  have za1 : W9.cell? ⟨w.heap.size, 1, none⟩ = some (.int .u64 0) := by rw [blk_at HY.out.2]; rfl
  have ya1 : W9.frozen? ⟨w.heap.size, 1, none⟩ = false := blk_free HY.out.2 1
  have za2 : W9.cell? ⟨w.heap.size, 2, none⟩ = some (.int .u16 0) := by rw [blk_at HY.out.2]; rfl
  have ya2 : W9.frozen? ⟨w.heap.size, 2, none⟩ = false := blk_free HY.out.2 2
  have za3 : W9.cell? ⟨w.heap.size, 3, none⟩ = some (.string ⟨#[]⟩) := by rw [blk_at HY.out.2]; rfl
  have ya3 : W9.frozen? ⟨w.heap.size, 3, none⟩ = false := blk_free HY.out.2 3
  have za4 : W9.cell? ⟨w.heap.size, 4, none⟩ = some (.int .u32 0) := by rw [blk_at HY.out.2]; rfl
  have ya4 : W9.frozen? ⟨w.heap.size, 4, none⟩ = false := blk_free HY.out.2 4
  have za5 : W9.cell? ⟨w.heap.size, 5, none⟩ = some (.int .u32 0) := by rw [blk_at HY.out.2]; rfl
  have ya5 : W9.frozen? ⟨w.heap.size, 5, none⟩ = false := blk_free HY.out.2 5
  have za6 : W9.cell? ⟨w.heap.size, 6, none⟩ = some (.int .u32 0) := by rw [blk_at HY.out.2]; rfl
  have ya6 : W9.frozen? ⟨w.heap.size, 6, none⟩ = false := blk_free HY.out.2 6
  have za7 : W9.cell? ⟨w.heap.size, 7, none⟩ = some (.slice none 0 0) := by rw [blk_at HY.out.2]; rfl
  have ya7 : W9.frozen? ⟨w.heap.size, 7, none⟩ = false := blk_free HY.out.2 7
  have hs0 : w.heap.size < W0.heap.size := by have := HX.out.size; omega
  clear hb9 hk9 H8 k0 k1 k2 k3 k4 k5 k6 k7 y1 f1' hW8
  go_wp2
  obtain ⟨hp, hq⟩ := putc8 HY.out.2 (.int .u16 0) (.int .u64 0) (.int .u16 0) (.string ⟨#[]⟩) (.int .u32 0) (.int .u32 0) (.int .u32 0) (.slice none 0 0)
  generalize ((((((((W9.setCell ⟨w.heap.size, 0, none⟩ (.int .u16 0)).setCell ⟨w.heap.size, 1, none⟩ (.int .u64 0)).setCell ⟨w.heap.size, 2, none⟩ (.int .u16 0)).setCell ⟨w.heap.size, 3, none⟩ (.string ⟨#[]⟩)).setCell ⟨w.heap.size, 4, none⟩ (.int .u32 0)).setCell ⟨w.heap.size, 5, none⟩ (.int .u32 0)).setCell ⟨w.heap.size, 6, none⟩ (.int .u32 0)).setCell ⟨w.heap.size, 7, none⟩ (.slice none 0 0)) = Wz at hp hq ⊢
  exact bodyPost_ret (results_cell_tmp1 rfl _ _ w.heap.size 27 _ (0, 0) _ rfl hp Tryd.underlying27 rfl infoI) rfl ⟨rfl, HY.out.1.trans (hq.below HY.out.1.size (fun g hg => by omega))⟩
end Go.Proofs.YtjikibhhhchgeaaDoor

namespace Go.Proofs.YtjikibhhhchgeaaDoor
open Go.RowKit
set_option linter.unusedVariables false
set_option linter.unusedSimpArgs false
set_option maxRecDepth 100000
set_option maxHeartbeats 4000000 in
theorem unpackInfo_ook (ao : Option Addr) (cap N : Nat) (l : List Nat) (w : World) (h : BRow w ao cap l) (hN : l.length = N) (hT : Tabs w) (V a1 e1 nn a2 e2 : Nat) (h1 : rvV l 0 2 = V ∧ raA l 0 2 = a1 ∧ ndE (okR l 0 2) 0 = e1) (hnn : l.length - a1 = nn) (L : List Nat) (h3 : rrL l a1 nn = L ∧ raA l a1 nn = a2 ∧ ndE (okR l a1 nn) e1 = e2) (g0 : V ≠ 0) (g1 : V ≠ 1) (g2 : V ≠ 2) (g3 : V ≠ 3) (hfin : ndE (decide (a2 = l.length)) e2 = 0) :
    Calls Tryd.prog 11 #[.slice ao N cap] w fun e w' => ∃ a7 c7 n7, e = .returned (.tuple #[.agg #[.int .u16 (V : Int), .int .u64 0, .int .u16 0, .string ⟨#[]⟩, .int .u32 0, .int .u32 0, .int .u32 0, .slice a7 n7 c7], .int .i64 0]) ∧ L.length = n7 ∧ Row w w' a7 c7 L := by
  have HUp : Hid (∀ W, Below w.heap.size w W → Calls Tryd.prog 52 #[.slice ao N cap] W fun e w' => ∃ c r ao' cap', e = .returned (.pointer (some ⟨c, 0, none⟩)) ∧ Bg W w' c r ao' cap' l 0 0) := fun W hb => unpackG ao cap N l W (h.later hb) hN
  have HFn : Hid (ndE (decide (a2 = l.length)) e2 = 0) := hfin
  have HT : Hid (Tabs w) := hT
  have H1' : Hid (rvV l 0 2 = V ∧ raA l 0 2 = a1 ∧ ndE (okR l 0 2) 0 = e1) := h1
  have HNN : Hid (l.length - a1 = nn) := hnn
  have H3' : Hid _ := h3
  have HLs : Hid (∀ x ∈ L, x < 256) := fun x hx => by
    rw [← h3.1] at hx
    unfold rrL at hx; split at hx
    · exact h.lt x (List.mem_of_mem_drop (List.mem_of_mem_take hx))
    · simp at hx
  have f0 : ((V : Int) == 0) = false := by rw [beq_eq_false_iff_ne]; omega
  have f1 : ((V : Int) == 1) = false := by rw [beq_eq_false_iff_ne]; omega
  have f2 : ((V : Int) == 2) = false := by rw [beq_eq_false_iff_ne]; omega
  have f3 : ((V : Int) == 3) = false := by rw [beq_eq_false_iff_ne]; omega
  clear h hN hfin hT h1 hnn h3 g0 g1 g2 g3
  go_enter Tryd.func11, Tryd.ntmps11
  go_wp2_with fail
  have hx := mkb1 w #[.int .u16 0, .int .u64 0, .int .u16 0, .string ⟨#[]⟩, .int .u32 0, .int .u32 0, .int .u32 0, .slice none 0 0] 27
  generalize w.alloc (Obj.cells #[.int .u16 0, .int .u64 0, .int .u16 0, .string ⟨#[]⟩, .int .u32 0, .int .u32 0, .int .u32 0, .slice none 0 0] 27) = W0 at *
  refine (HUp.out _ hx.bel).mono ?_
  rintro e W1 ⟨c, r, ao', cap', rfl, hbd⟩
  have HX : Hid (Bx1 w W0 #[.int .u16 0, .int .u64 0, .int .u16 0, .string ⟨#[]⟩, .int .u32 0, .int .u32 0, .int .u32 0, .slice none 0 0] 27) := hx
  have HT0 : Hid (Tabs W0) := HT.out.later hx.bel
  have H1 : Hid (Bg W0 W1 c r ao' cap' l 0 0) := hbd
  clear hx hbd HUp HT
  go_wp2_with fail
  have hc1 := bu16G H1.out
  rw [H1'.out.1, H1'.out.2.1, H1'.out.2.2] at hc1
  refine hc1.mono ?_
  rintro e W2 ⟨rfl, hbd, _⟩
  have H2 : Hid (Bg W0 W2 c r ao' cap' l a1 e1) := hbd
  clear hbd H1 hc1
  go_wp2_with fail
  have h3 : Bg W0 (W2.alloc (Obj.cells #[.int .u16 (V : Int), .int .u64 0, .int .u16 0, .string ⟨#[]⟩, .int .u32 0, .int .u32 0, .int .u32 0, .slice none 0 0] 27)) c r ao' cap' l a1 e1 := H2.out.later (below1 W2 _)
  have eb3 := heap_new W2 (Obj.cells #[.int .u16 (V : Int), .int .u64 0, .int .u16 0, .string ⟨#[]⟩, .int .u32 0, .int .u32 0, .int .u32 0, .slice none 0 0] 27)
  have HG : Hid (W0.heap.size ≤ W2.heap.size) := H2.out.bel.size
  generalize W2.alloc (Obj.cells #[.int .u16 (V : Int), .int .u64 0, .int .u16 0, .string ⟨#[]⟩, .int .u32 0, .int .u32 0, .int .u32 0, .slice none 0 0] 27) = W3 at *
  generalize W2.heap.size = ge at *
  refine (bleftG h3 HNN.out).mono ?_
  rintro e W6 ⟨rfl, q, hw⟩
  have h4 : Bg W0 W6 c r ao' cap' l a1 e1 ∧ W6.heap[ge]? = some (.cells #[.int .u16 (V : Int), .int .u64 0, .int .u16 0, .string ⟨#[]⟩, .int .u32 0, .int .u32 0, .int .u32 0, .slice none 0 0] 27 (0, 0)) := by rw [hw]; exact ⟨h3.later (below_drewN _ q), eb3⟩
  have H6 : Hid _ := h4
  clear h3 eb3 hw H2 h4
  go_wp2_with fail
  have hc7 := brawG nn H6.out.1
  rw [H3'.out.1, H3'.out.2.1, H3'.out.2.2] at hc7
  refine hc7.mono ?_
  rintro e W7 ⟨n7, a7, c7, rfl, hn7, ho7, hb7, hk7⟩
  have HN7 : Hid (n7 = L.length) := hn7
  have HLt : Hid (c < W6.heap.size ∧ r < W6.heap.size) := ⟨block_lt H6.out.1.bd, block_lt H6.out.1.rd.blk⟩
  have HG6 : Hid (ge < W6.heap.size ∧ W0.heap.size ≤ W6.heap.size) := ⟨block_lt H6.out.2, H6.out.1.bel.size⟩
  have HR7 : Hid (W7.ownsRow W6.heap.size 5 1 (.slice a7 n7 c7) n7 (L.map bv)) := ho7
  have H7 : Hid (Bg W0 W7 c r ao' cap' l a2 e2 ∧ W7.heap[ge]? = some (.cells #[.int .u16 (V : Int), .int .u64 0, .int .u16 0, .string ⟨#[]⟩, .int .u32 0, .int .u32 0, .int .u32 0, .slice none 0 0] 27 (0, 0))) := ⟨hb7, H6.out.1.keep H6.out.2 (by decide) (by decide) hk7⟩
  clear H6 hb7 hk7 hc7 hn7 ho7
  have y1 : W7.cell? ⟨ge, 7, none⟩ = some (.slice none 0 0) := by rw [blk_at H7.out.2]; rfl
  have f1' := blk_free H7.out.2 7
  have H8 : Hid (Bg W0 (W7.setCell ⟨ge, 7, none⟩ (.slice a7 n7 c7)) c r ao' cap' l a2 e2 ∧ (W7.setCell ⟨ge, 7, none⟩ (.slice a7 n7 c7)).heap[ge]? = some (.cells #[.int .u16 (V : Int), .int .u64 0, .int .u16 0, .string ⟨#[]⟩, .int .u32 0, .int .u32 0, .int .u32 0, .slice a7 n7 c7] 27 (0, 0))) := ⟨H7.out.1.put H7.out.2 (by decide) (by decide) (by decide) HG.out 7 _, put_boxX H7.out.2 7 _ (by simp)⟩
  have HR8 : Hid ((W7.setCell ⟨ge, 7, none⟩ (.slice a7 n7 c7)).ownsRow W6.heap.size 5 1 (.slice a7 n7 c7) n7 (L.map bv)) := owns_same HR7.out (fun g hg => (keptIn_set W7 ge 7 _).block g (owns_lt HR7.out g hg).1 (by have h1 := (owns_lt HR7.out g hg).2; have h2 := HG6.out.1; omega))
  obtain ⟨W8, hW8⟩ : ∃ W8, W8 = W7.setCell ⟨ge, 7, none⟩ (.slice a7 n7 c7) := ⟨_, rfl⟩
  rw [← hW8] at H8 HR8
  have k0 : (W7.setCell ⟨ge, 7, none⟩ (.slice a7 n7 c7)).cell? ⟨ge, 0, none⟩ = some (.int .u16 (V : Int)) := by rw [← hW8, blk_at H8.out.2]; rfl
  have k1 : (W7.setCell ⟨ge, 7, none⟩ (.slice a7 n7 c7)).cell? ⟨ge, 1, none⟩ = some (.int .u64 0) := by rw [← hW8, blk_at H8.out.2]; rfl
  have k2 : (W7.setCell ⟨ge, 7, none⟩ (.slice a7 n7 c7)).cell? ⟨ge, 2, none⟩ = some (.int .u16 0) := by rw [← hW8, blk_at H8.out.2]; rfl
  have k3 : (W7.setCell ⟨ge, 7, none⟩ (.slice a7 n7 c7)).cell? ⟨ge, 3, none⟩ = some (.string ⟨#[]⟩) := by rw [← hW8, blk_at H8.out.2]; rfl
  have k4 : (W7.setCell ⟨ge, 7, none⟩ (.slice a7 n7 c7)).cell? ⟨ge, 4, none⟩ = some (.int .u32 0) := by rw [← hW8, blk_at H8.out.2]; rfl
  have k5 : (W7.setCell ⟨ge, 7, none⟩ (.slice a7 n7 c7)).cell? ⟨ge, 5, none⟩ = some (.int .u32 0) := by rw [← hW8, blk_at H8.out.2]; rfl
  have k6 : (W7.setCell ⟨ge, 7, none⟩ (.slice a7 n7 c7)).cell? ⟨ge, 6, none⟩ = some (.int .u32 0) := by rw [← hW8, blk_at H8.out.2]; rfl
  have k7 : (W7.setCell ⟨ge, 7, none⟩ (.slice a7 n7 c7)).cell? ⟨ge, 7, none⟩ = some (.slice a7 n7 c7) := by rw [← hW8, blk_at H8.out.2]; rfl
  clear H7 HR7
  go_wp2_with fail
  rw [← hW8]
  refine (wholeI_ok V 0 0 ⟨#[]⟩ 0 0 0 a7 n7 c7 H8.out.1 HFn.out).mono ?_
  rintro e W9 ⟨rfl, hb9, hk9⟩
  have HY : Hid (Below w.heap.size w W9 ∧ W9.heap[w.heap.size]? = some (.cells #[.int .u16 0, .int .u64 0, .int .u16 0, .string ⟨#[]⟩, .int .u32 0, .int .u32 0, .int .u32 0, .slice none 0 0] 27 (0, 0))) := ⟨HX.out.bel.trans (hb9.mono HX.out.bel.size), by rw [hb9.block _ (by have := HX.out.size; omega)]; exact HX.out.a⟩
  have HR9 : Hid (W9.ownsRow W6.heap.size 5 1 (.slice a7 n7 c7) n7 (L.map bv)) := owns_same HR8.out (fun g hg => hk9.block g (owns_lt HR8.out g hg).1 (fun e => by have h1 := (owns_lt HR8.out g hg).2; have h2 := HLt.out.1; omega))
  have za0 : W9.cell? ⟨w.heap.size, 0, none⟩ = some (.int .u16 0) := by rw [blk_at HY.out.2]; rfl
  have ya0 : W9.frozen? ⟨w.heap.size, 0, none⟩ = false := blk_free HY.out.2 0
  have za1 : W9.cell? ⟨w.heap.size, 1, none⟩ = some (.int .u64 0) := by rw [blk_at HY.out.2]; rfl
  have ya1 : W9.frozen? ⟨w.heap.size, 1, none⟩ = false := blk_free HY.out.2 1
  have za2 : W9.cell? ⟨w.heap.size, 2, none⟩ = some (.int .u16 0) := by rw [blk_at HY.out.2]; rfl
  have ya2 : W9.frozen? ⟨w.heap.size, 2, none⟩ = false := blk_free HY.out.2 2
  have za3 : W9.cell? ⟨w.heap.size, 3, none⟩ = some (.string ⟨#[]⟩) := by rw [blk_at HY.out.2]; rfl
  have ya3 : W9.frozen? ⟨w.heap.size, 3, none⟩ = false := blk_free HY.out.2 3
  have za4 : W9.cell? ⟨w.heap.size, 4, none⟩ = some (.int .u32 0) := by rw [blk_at HY.out.2]; rfl
  have ya4 : W9.frozen? ⟨w.heap.size, 4, none⟩ = false := blk_free HY.out.2 4
  have za5 : W9.cell? ⟨w.heap.size, 5, none⟩ = some (.int .u32 0) := by rw [blk_at HY.out.2]; rfl
  have ya5 : W9.frozen? ⟨w.heap.size, 5, none⟩ = false := blk_free HY.out.2 5
  have za6 : W9.cell? ⟨w.heap.size, 6, none⟩ = some (.int .u32 0) := by rw [blk_at HY.out.2]; rfl
  have ya6 : W9.frozen? ⟨w.heap.size, 6, none⟩ = false := blk_free HY.out.2 6
  have za7 : W9.cell? ⟨w.heap.size, 7, none⟩ = some (.slice none 0 0) := by rw [blk_at HY.out.2]; rfl
  have ya7 : W9.frozen? ⟨w.heap.size, 7, none⟩ = false := blk_free HY.out.2 7
  have hs0 : w.heap.size < W0.heap.size := by have := HX.out.size; omega
  clear hb9 hk9 H8 k0 k1 k2 k3 k4 k5 k6 k7 y1 f1' hW8
  go_wp2
  obtain ⟨hp, hq⟩ := putc8 HY.out.2 (.int .u16 (V : Int)) (.int .u64 0) (.int .u16 0) (.string ⟨#[]⟩) (.int .u32 0) (.int .u32 0) (.int .u32 0) (.slice a7 n7 c7)
  generalize ((((((((W9.setCell ⟨w.heap.size, 0, none⟩ (.int .u16 (V : Int))).setCell ⟨w.heap.size, 1, none⟩ (.int .u64 0)).setCell ⟨w.heap.size, 2, none⟩ (.int .u16 0)).setCell ⟨w.heap.size, 3, none⟩ (.string ⟨#[]⟩)).setCell ⟨w.heap.size, 4, none⟩ (.int .u32 0)).setCell ⟨w.heap.size, 5, none⟩ (.int .u32 0)).setCell ⟨w.heap.size, 6, none⟩ (.int .u32 0)).setCell ⟨w.heap.size, 7, none⟩ (.slice a7 n7 c7)) = Wz at hp hq ⊢
  refine bodyPost_ret (results_cell_tmp1 rfl _ _ w.heap.size 27 _ (0, 0) _ rfl hp Tryd.underlying27 rfl infoI) rfl ⟨a7, c7, n7, rfl, HN7.out.symm, ⟨?_, HLs.out, HY.out.1.trans (hq.below HY.out.1.size (fun g hg => by omega))⟩⟩
  have h9 := owns_mono (owns_same HR9.out (fun g hg => hq.block g (owns_lt HR9.out g hg).1 (by have h1 := (owns_lt HR9.out g hg).2; have h2 := HG6.out.2; omega))) (show w.heap.size ≤ W6.heap.size by have := HG6.out.2; omega)
  rw [← HN7.out]; exact h9
set_option maxHeartbeats 4000000 in
theorem unpackInfo_ono (ao : Option Addr) (cap N : Nat) (l : List Nat) (w : World) (h : BRow w ao cap l) (hN : l.length = N) (hT : Tabs w) (V a1 e1 nn a2 e2 : Nat) (h1 : rvV l 0 2 = V ∧ raA l 0 2 = a1 ∧ ndE (okR l 0 2) 0 = e1) (hnn : l.length - a1 = nn) (L : List Nat) (h3 : rrL l a1 nn = L ∧ raA l a1 nn = a2 ∧ ndE (okR l a1 nn) e1 = e2) (g0 : V ≠ 0) (g1 : V ≠ 1) (g2 : V ≠ 2) (g3 : V ≠ 3) (hfin : ndE (decide (a2 = l.length)) e2 = 81) :
    Calls Tryd.prog 11 #[.slice ao N cap] w fun e w' => e = .returned (.tuple #[.agg #[.int .u16 0, .int .u64 0, .int .u16 0, .string ⟨#[]⟩, .int .u32 0, .int .u32 0, .int .u32 0, .slice none 0 0], .int .i64 81]) ∧ Below w.heap.size w w' := by
  have HUp : Hid (∀ W, Below w.heap.size w W → Calls Tryd.prog 52 #[.slice ao N cap] W fun e w' => ∃ c r ao' cap', e = .returned (.pointer (some ⟨c, 0, none⟩)) ∧ Bg W w' c r ao' cap' l 0 0) := fun W hb => unpackG ao cap N l W (h.later hb) hN
  have HFn : Hid (ndE (decide (a2 = l.length)) e2 = 81) := hfin
  have HT : Hid (Tabs w) := hT
  have H1' : Hid (rvV l 0 2 = V ∧ raA l 0 2 = a1 ∧ ndE (okR l 0 2) 0 = e1) := h1
  have HNN : Hid (l.length - a1 = nn) := hnn
  have H3' : Hid _ := h3
  have HLs : Hid (∀ x ∈ L, x < 256) := fun x hx => by
    rw [← h3.1] at hx
    unfold rrL at hx; split at hx
    · exact h.lt x (List.mem_of_mem_drop (List.mem_of_mem_take hx))
    · simp at hx
  have f0 : ((V : Int) == 0) = false := by rw [beq_eq_false_iff_ne]; omega
  have f1 : ((V : Int) == 1) = false := by rw [beq_eq_false_iff_ne]; omega
  have f2 : ((V : Int) == 2) = false := by rw [beq_eq_false_iff_ne]; omega
  have f3 : ((V : Int) == 3) = false := by rw [beq_eq_false_iff_ne]; omega
  clear h hN hfin hT h1 hnn h3 g0 g1 g2 g3
  go_enter Tryd.func11, Tryd.ntmps11
  go_wp2_with fail
  have hx := mkb1 w #[.int .u16 0, .int .u64 0, .int .u16 0, .string ⟨#[]⟩, .int .u32 0, .int .u32 0, .int .u32 0, .slice none 0 0] 27
  generalize w.alloc (Obj.cells #[.int .u16 0, .int .u64 0, .int .u16 0, .string ⟨#[]⟩, .int .u32 0, .int .u32 0, .int .u32 0, .slice none 0 0] 27) = W0 at *
  refine (HUp.out _ hx.bel).mono ?_
  rintro e W1 ⟨c, r, ao', cap', rfl, hbd⟩
  have HX : Hid (Bx1 w W0 #[.int .u16 0, .int .u64 0, .int .u16 0, .string ⟨#[]⟩, .int .u32 0, .int .u32 0, .int .u32 0, .slice none 0 0] 27) := hx
  have HT0 : Hid (Tabs W0) := HT.out.later hx.bel
  have H1 : Hid (Bg W0 W1 c r ao' cap' l 0 0) := hbd
  clear hx hbd HUp HT
  go_wp2_with fail
  have hc1 := bu16G H1.out
  rw [H1'.out.1, H1'.out.2.1, H1'.out.2.2] at hc1
  refine hc1.mono ?_
  rintro e W2 ⟨rfl, hbd, _⟩
  have H2 : Hid (Bg W0 W2 c r ao' cap' l a1 e1) := hbd
  clear hbd H1 hc1
  go_wp2_with fail
  have h3 : Bg W0 (W2.alloc (Obj.cells #[.int .u16 (V : Int), .int .u64 0, .int .u16 0, .string ⟨#[]⟩, .int .u32 0, .int .u32 0, .int .u32 0, .slice none 0 0] 27)) c r ao' cap' l a1 e1 := H2.out.later (below1 W2 _)
  have eb3 := heap_new W2 (Obj.cells #[.int .u16 (V : Int), .int .u64 0, .int .u16 0, .string ⟨#[]⟩, .int .u32 0, .int .u32 0, .int .u32 0, .slice none 0 0] 27)
  have HG : Hid (W0.heap.size ≤ W2.heap.size) := H2.out.bel.size
  generalize W2.alloc (Obj.cells #[.int .u16 (V : Int), .int .u64 0, .int .u16 0, .string ⟨#[]⟩, .int .u32 0, .int .u32 0, .int .u32 0, .slice none 0 0] 27) = W3 at *
  generalize W2.heap.size = ge at *
  refine (bleftG h3 HNN.out).mono ?_
  rintro e W6 ⟨rfl, q, hw⟩
  have h4 : Bg W0 W6 c r ao' cap' l a1 e1 ∧ W6.heap[ge]? = some (.cells #[.int .u16 (V : Int), .int .u64 0, .int .u16 0, .string ⟨#[]⟩, .int .u32 0, .int .u32 0, .int .u32 0, .slice none 0 0] 27 (0, 0)) := by rw [hw]; exact ⟨h3.later (below_drewN _ q), eb3⟩
  have H6 : Hid _ := h4
  clear h3 eb3 hw H2 h4
  go_wp2_with fail
  have hc7 := brawG nn H6.out.1
  rw [H3'.out.1, H3'.out.2.1, H3'.out.2.2] at hc7
  refine hc7.mono ?_
  rintro e W7 ⟨n7, a7, c7, rfl, hn7, ho7, hb7, hk7⟩
  have HN7 : Hid (n7 = L.length) := hn7
  have HLt : Hid (c < W6.heap.size ∧ r < W6.heap.size) := ⟨block_lt H6.out.1.bd, block_lt H6.out.1.rd.blk⟩
  have HG6 : Hid (ge < W6.heap.size ∧ W0.heap.size ≤ W6.heap.size) := ⟨block_lt H6.out.2, H6.out.1.bel.size⟩
  have HR7 : Hid (W7.ownsRow W6.heap.size 5 1 (.slice a7 n7 c7) n7 (L.map bv)) := ho7
  have H7 : Hid (Bg W0 W7 c r ao' cap' l a2 e2 ∧ W7.heap[ge]? = some (.cells #[.int .u16 (V : Int), .int .u64 0, .int .u16 0, .string ⟨#[]⟩, .int .u32 0, .int .u32 0, .int .u32 0, .slice none 0 0] 27 (0, 0))) := ⟨hb7, H6.out.1.keep H6.out.2 (by decide) (by decide) hk7⟩
  clear H6 hb7 hk7 hc7 hn7 ho7
  have y1 : W7.cell? ⟨ge, 7, none⟩ = some (.slice none 0 0) := by rw [blk_at H7.out.2]; rfl
  have f1' := blk_free H7.out.2 7
  have H8 : Hid (Bg W0 (W7.setCell ⟨ge, 7, none⟩ (.slice a7 n7 c7)) c r ao' cap' l a2 e2 ∧ (W7.setCell ⟨ge, 7, none⟩ (.slice a7 n7 c7)).heap[ge]? = some (.cells #[.int .u16 (V : Int), .int .u64 0, .int .u16 0, .string ⟨#[]⟩, .int .u32 0, .int .u32 0, .int .u32 0, .slice a7 n7 c7] 27 (0, 0))) := ⟨H7.out.1.put H7.out.2 (by decide) (by decide) (by decide) HG.out 7 _, put_boxX H7.out.2 7 _ (by simp)⟩
  have HR8 : Hid ((W7.setCell ⟨ge, 7, none⟩ (.slice a7 n7 c7)).ownsRow W6.heap.size 5 1 (.slice a7 n7 c7) n7 (L.map bv)) := owns_same HR7.out (fun g hg => (keptIn_set W7 ge 7 _).block g (owns_lt HR7.out g hg).1 (by have h1 := (owns_lt HR7.out g hg).2; have h2 := HG6.out.1; omega))
  obtain ⟨W8, hW8⟩ : ∃ W8, W8 = W7.setCell ⟨ge, 7, none⟩ (.slice a7 n7 c7) := ⟨_, rfl⟩
  rw [← hW8] at H8 HR8
  have k0 : (W7.setCell ⟨ge, 7, none⟩ (.slice a7 n7 c7)).cell? ⟨ge, 0, none⟩ = some (.int .u16 (V : Int)) := by rw [← hW8, blk_at H8.out.2]; rfl
  have k1 : (W7.setCell ⟨ge, 7, none⟩ (.slice a7 n7 c7)).cell? ⟨ge, 1, none⟩ = some (.int .u64 0) := by rw [← hW8, blk_at H8.out.2]; rfl
  have k2 : (W7.setCell ⟨ge, 7, none⟩ (.slice a7 n7 c7)).cell? ⟨ge, 2, none⟩ = some (.int .u16 0) := by rw [← hW8, blk_at H8.out.2]; rfl
  have k3 : (W7.setCell ⟨ge, 7, none⟩ (.slice a7 n7 c7)).cell? ⟨ge, 3, none⟩ = some (.string ⟨#[]⟩) := by rw [← hW8, blk_at H8.out.2]; rfl
  have k4 : (W7.setCell ⟨ge, 7, none⟩ (.slice a7 n7 c7)).cell? ⟨ge, 4, none⟩ = some (.int .u32 0) := by rw [← hW8, blk_at H8.out.2]; rfl
  have k5 : (W7.setCell ⟨ge, 7, none⟩ (.slice a7 n7 c7)).cell? ⟨ge, 5, none⟩ = some (.int .u32 0) := by rw [← hW8, blk_at H8.out.2]; rfl
  have k6 : (W7.setCell ⟨ge, 7, none⟩ (.slice a7 n7 c7)).cell? ⟨ge, 6, none⟩ = some (.int .u32 0) := by rw [← hW8, blk_at H8.out.2]; rfl
  have k7 : (W7.setCell ⟨ge, 7, none⟩ (.slice a7 n7 c7)).cell? ⟨ge, 7, none⟩ = some (.slice a7 n7 c7) := by rw [← hW8, blk_at H8.out.2]; rfl
  clear H7 HR7
  go_wp2_with fail
  rw [← hW8]
  refine (wholeI_no V 0 0 ⟨#[]⟩ 0 0 0 a7 n7 c7 81 (by decide) H8.out.1 HFn.out).mono ?_
  rintro e W9 ⟨rfl, hb9, hk9⟩
  have HY : Hid (Below w.heap.size w W9 ∧ W9.heap[w.heap.size]? = some (.cells #[.int .u16 0, .int .u64 0, .int .u16 0, .string ⟨#[]⟩, .int .u32 0, .int .u32 0, .int .u32 0, .slice none 0 0] 27 (0, 0))) := ⟨HX.out.bel.trans (hb9.mono HX.out.bel.size), by rw [hb9.block _ (by have := HX.out.size; omega)]; exact HX.out.a⟩
  have za0 : W9.cell? ⟨w.heap.size, 0, none⟩ = some (.int .u16 0) := by rw [blk_at HY.out.2]; rfl
  have ya0 : W9.frozen? ⟨w.heap.size, 0, none⟩ = false := blk_free HY.out.2 0
  have za1 : W9.cell? ⟨w.heap.size, 1, none⟩ = some (.int .u64 0) := by rw [blk_at HY.out.2]; rfl
  have ya1 : W9.frozen? ⟨w.heap.size, 1, none⟩ = false := blk_free HY.out.2 1
  have za2 : W9.cell? ⟨w.heap.size, 2, none⟩ = some (.int .u16 0) := by rw [blk_at HY.out.2]; rfl
  have ya2 : W9.frozen? ⟨w.heap.size, 2, none⟩ = false := blk_free HY.out.2 2
  have za3 : W9.cell? ⟨w.heap.size, 3, none⟩ = some (.string ⟨#[]⟩) := by rw [blk_at HY.out.2]; rfl
  have ya3 : W9.frozen? ⟨w.heap.size, 3, none⟩ = false := blk_free HY.out.2 3
  have za4 : W9.cell? ⟨w.heap.size, 4, none⟩ = some (.int .u32 0) := by rw [blk_at HY.out.2]; rfl
  have ya4 : W9.frozen? ⟨w.heap.size, 4, none⟩ = false := blk_free HY.out.2 4
  have za5 : W9.cell? ⟨w.heap.size, 5, none⟩ = some (.int .u32 0) := by rw [blk_at HY.out.2]; rfl
  have ya5 : W9.frozen? ⟨w.heap.size, 5, none⟩ = false := blk_free HY.out.2 5
  have za6 : W9.cell? ⟨w.heap.size, 6, none⟩ = some (.int .u32 0) := by rw [blk_at HY.out.2]; rfl
  have ya6 : W9.frozen? ⟨w.heap.size, 6, none⟩ = false := blk_free HY.out.2 6
  have za7 : W9.cell? ⟨w.heap.size, 7, none⟩ = some (.slice none 0 0) := by rw [blk_at HY.out.2]; rfl
  have ya7 : W9.frozen? ⟨w.heap.size, 7, none⟩ = false := blk_free HY.out.2 7
  have hs0 : w.heap.size < W0.heap.size := by have := HX.out.size; omega
  clear hb9 hk9 H8 k0 k1 k2 k3 k4 k5 k6 k7 y1 f1' hW8
  go_wp2
  obtain ⟨hp, hq⟩ := putc8 HY.out.2 (.int .u16 0) (.int .u64 0) (.int .u16 0) (.string ⟨#[]⟩) (.int .u32 0) (.int .u32 0) (.int .u32 0) (.slice none 0 0)
  generalize ((((((((W9.setCell ⟨w.heap.size, 0, none⟩ (.int .u16 0)).setCell ⟨w.heap.size, 1, none⟩ (.int .u64 0)).setCell ⟨w.heap.size, 2, none⟩ (.int .u16 0)).setCell ⟨w.heap.size, 3, none⟩ (.string ⟨#[]⟩)).setCell ⟨w.heap.size, 4, none⟩ (.int .u32 0)).setCell ⟨w.heap.size, 5, none⟩ (.int .u32 0)).setCell ⟨w.heap.size, 6, none⟩ (.int .u32 0)).setCell ⟨w.heap.size, 7, none⟩ (.slice none 0 0)) = Wz at hp hq ⊢
  exact bodyPost_ret (results_cell_tmp1 rfl _ _ w.heap.size 27 _ (0, 0) _ rfl hp Tryd.underlying27 rfl infoI) rfl ⟨rfl, HY.out.1.trans (hq.below HY.out.1.size (fun g hg => by omega))⟩
end Go.Proofs.YtjikibhhhchgeaaDoor

namespace Go.Proofs.YtjikibhhhchgeaaDoor
open Go.RowKit
set_option linter.unusedVariables false
set_option linter.unusedSimpArgs false
set_option maxRecDepth 100000
set_option maxHeartbeats 4000000 in
theorem unpackInfo_0ok (ao : Option Addr) (cap N : Nat) (l : List Nat) (w : World) (h : BRow w ao cap l) (hN : l.length = N) (V a1 e1 : Nat) (h1 : rvV l 0 2 = V ∧ raA l 0 2 = a1 ∧ ndE (okR l 0 2) 0 = e1) (v0 b0 d0 : Nat) (r0 : rvV l a1 8 = v0 ∧ raA l a1 8 = b0 ∧ ndE (okR l a1 8) e1 = d0) (v1 b1 d1 : Nat) (r1 : rvV l b0 2 = v1 ∧ raA l b0 2 = b1 ∧ ndE (okR l b0 2) d0 = d1) (g0 : V = 0) (hfin : ndE (decide (b1 = l.length)) d1 = 0) :
    Calls Tryd.prog 11 #[.slice ao N cap] w fun e w' => e = .returned (.tuple #[.agg #[.int .u16 (V : Int), .int .u64 (v0 : Int), .int .u16 (v1 : Int), .string ⟨#[]⟩, .int .u32 0, .int .u32 0, .int .u32 0, .slice none 0 0], .int .i64 0]) ∧ Below w.heap.size w w' := by
  have HUp : Hid (∀ W, Below w.heap.size w W → Calls Tryd.prog 52 #[.slice ao N cap] W fun e w' => ∃ c r ao' cap', e = .returned (.pointer (some ⟨c, 0, none⟩)) ∧ Bg W w' c r ao' cap' l 0 0) := fun W hb => unpackG ao cap N l W (h.later hb) hN
  have HFn : Hid (ndE (decide (b1 = l.length)) d1 = 0) := hfin
  have H1' : Hid (rvV l 0 2 = V ∧ raA l 0 2 = a1 ∧ ndE (okR l 0 2) 0 = e1) := h1
  have R0 : Hid _ := r0
  have R1 : Hid _ := r1
  have f0 : ((V : Int) == 0) = true := by rw [beq_iff_eq]; omega
  clear h hN hfin h1 r0 r1 g0
  go_enter Tryd.func11, Tryd.ntmps11
  go_wp2_with fail
  have hx := mkb1 w #[.int .u16 0, .int .u64 0, .int .u16 0, .string ⟨#[]⟩, .int .u32 0, .int .u32 0, .int .u32 0, .slice none 0 0] 27
  generalize w.alloc (Obj.cells #[.int .u16 0, .int .u64 0, .int .u16 0, .string ⟨#[]⟩, .int .u32 0, .int .u32 0, .int .u32 0, .slice none 0 0] 27) = W0 at *
  refine (HUp.out _ hx.bel).mono ?_
  rintro e W1 ⟨c, r, ao', cap', rfl, hbd⟩
  have HX : Hid (Bx1 w W0 #[.int .u16 0, .int .u64 0, .int .u16 0, .string ⟨#[]⟩, .int .u32 0, .int .u32 0, .int .u32 0, .slice none 0 0] 27) := hx
  have H1 : Hid (Bg W0 W1 c r ao' cap' l 0 0) := hbd
  clear hx hbd HUp
  go_wp2_with fail
  have hc1 := bu16G H1.out
  rw [H1'.out.1, H1'.out.2.1, H1'.out.2.2] at hc1
  refine hc1.mono ?_
  rintro e W2 ⟨rfl, hbd, _⟩
  have H2 : Hid (Bg W0 W2 c r ao' cap' l a1 e1) := hbd
  clear hbd H1 hc1
  go_wp2_with fail
  have h3 : Bg W0 (W2.alloc (Obj.cells #[.int .u16 (V : Int), .int .u64 0, .int .u16 0, .string ⟨#[]⟩, .int .u32 0, .int .u32 0, .int .u32 0, .slice none 0 0] 27)) c r ao' cap' l a1 e1 := H2.out.later (below1 W2 _)
  have eb3 := heap_new W2 (Obj.cells #[.int .u16 (V : Int), .int .u64 0, .int .u16 0, .string ⟨#[]⟩, .int .u32 0, .int .u32 0, .int .u32 0, .slice none 0 0] 27)
  have HG : Hid (W0.heap.size ≤ W2.heap.size) := H2.out.bel.size
  generalize W2.alloc (Obj.cells #[.int .u16 (V : Int), .int .u64 0, .int .u16 0, .string ⟨#[]⟩, .int .u32 0, .int .u32 0, .int .u32 0, .slice none 0 0] 27) = W3 at *
  generalize W2.heap.size = ge at *
  have H6 : Hid (Bg W0 W3 c r ao' cap' l a1 e1 ∧ W3.heap[ge]? = some (.cells #[.int .u16 (V : Int), .int .u64 0, .int .u16 0, .string ⟨#[]⟩, .int .u32 0, .int .u32 0, .int .u32 0, .slice none 0 0] 27 (0, 0))) := ⟨h3, eb3⟩
  clear h3 eb3 H2
  have hc2 := bu64G H6.out.1
  rw [R0.out.1, R0.out.2.1, R0.out.2.2] at hc2
  refine hc2.mono ?_
  rintro e X0 ⟨rfl, hb7, hk7⟩
  have K0 : Hid (Bg W0 X0 c r ao' cap' l b0 d0 ∧ X0.heap[ge]? = some (.cells #[.int .u16 (V : Int), .int .u64 0, .int .u16 0, .string ⟨#[]⟩, .int .u32 0, .int .u32 0, .int .u32 0, .slice none 0 0] 27 (0, 0))) := ⟨hb7, H6.out.1.keep H6.out.2 (by decide) (by decide) hk7⟩
  clear H6 hb7 hk7 hc2
  go_wp2_with fail
  have hc3 := bu16G K0.out.1
  rw [R1.out.1, R1.out.2.1, R1.out.2.2] at hc3
  refine hc3.mono ?_
  rintro e X1 ⟨rfl, hb7, hk7⟩
  have K1 : Hid (Bg W0 X1 c r ao' cap' l b1 d1 ∧ X1.heap[ge]? = some (.cells #[.int .u16 (V : Int), .int .u64 0, .int .u16 0, .string ⟨#[]⟩, .int .u32 0, .int .u32 0, .int .u32 0, .slice none 0 0] 27 (0, 0))) := ⟨hb7, K0.out.1.keep K0.out.2 (by decide) (by decide) hk7⟩
  clear K0 hb7 hk7 hc3
  have y0 : X1.cell? ⟨ge, 1, none⟩ = some (.int .u64 0) := by rw [blk_at K1.out.2]; rfl
  have fr0 := blk_free K1.out.2 1
  have S0 : Hid (Bg W0 (X1.setCell ⟨ge, 1, none⟩ (.int .u64 (v0 : Int))) c r ao' cap' l b1 d1 ∧ (X1.setCell ⟨ge, 1, none⟩ (.int .u64 (v0 : Int))).heap[ge]? = some (.cells #[.int .u16 (V : Int), .int .u64 (v0 : Int), .int .u16 0, .string ⟨#[]⟩, .int .u32 0, .int .u32 0, .int .u32 0, .slice none 0 0] 27 (0, 0))) := ⟨K1.out.1.put K1.out.2 (by decide) (by decide) (by decide) HG.out 1 _, put_boxX K1.out.2 1 _ (by simp)⟩
  have y1 : (X1.setCell ⟨ge, 1, none⟩ (.int .u64 (v0 : Int))).cell? ⟨ge, 2, none⟩ = some (.int .u16 0) := by rw [blk_at S0.out.2]; rfl
  have fr1 := blk_free S0.out.2 2
  have S1 : Hid (Bg W0 ((X1.setCell ⟨ge, 1, none⟩ (.int .u64 (v0 : Int))).setCell ⟨ge, 2, none⟩ (.int .u16 (v1 : Int))) c r ao' cap' l b1 d1 ∧ ((X1.setCell ⟨ge, 1, none⟩ (.int .u64 (v0 : Int))).setCell ⟨ge, 2, none⟩ (.int .u16 (v1 : Int))).heap[ge]? = some (.cells #[.int .u16 (V : Int), .int .u64 (v0 : Int), .int .u16 (v1 : Int), .string ⟨#[]⟩, .int .u32 0, .int .u32 0, .int .u32 0, .slice none 0 0] 27 (0, 0))) := ⟨S0.out.1.put S0.out.2 (by decide) (by decide) (by decide) HG.out 2 _, put_boxX S0.out.2 2 _ (by simp)⟩
  obtain ⟨W8, hW8⟩ : ∃ W8, W8 = ((X1.setCell ⟨ge, 1, none⟩ (.int .u64 (v0 : Int))).setCell ⟨ge, 2, none⟩ (.int .u16 (v1 : Int))) := ⟨_, rfl⟩
  rw [← hW8] at S1
  have k0 : ((X1.setCell ⟨ge, 1, none⟩ (.int .u64 (v0 : Int))).setCell ⟨ge, 2, none⟩ (.int .u16 (v1 : Int))).cell? ⟨ge, 0, none⟩ = some (.int .u16 (V : Int)) := by rw [← hW8, blk_at S1.out.2]; rfl
  have k1 : ((X1.setCell ⟨ge, 1, none⟩ (.int .u64 (v0 : Int))).setCell ⟨ge, 2, none⟩ (.int .u16 (v1 : Int))).cell? ⟨ge, 1, none⟩ = some (.int .u64 (v0 : Int)) := by rw [← hW8, blk_at S1.out.2]; rfl
  have k2 : ((X1.setCell ⟨ge, 1, none⟩ (.int .u64 (v0 : Int))).setCell ⟨ge, 2, none⟩ (.int .u16 (v1 : Int))).cell? ⟨ge, 2, none⟩ = some (.int .u16 (v1 : Int)) := by rw [← hW8, blk_at S1.out.2]; rfl
  have k3 : ((X1.setCell ⟨ge, 1, none⟩ (.int .u64 (v0 : Int))).setCell ⟨ge, 2, none⟩ (.int .u16 (v1 : Int))).cell? ⟨ge, 3, none⟩ = some (.string ⟨#[]⟩) := by rw [← hW8, blk_at S1.out.2]; rfl
  have k4 : ((X1.setCell ⟨ge, 1, none⟩ (.int .u64 (v0 : Int))).setCell ⟨ge, 2, none⟩ (.int .u16 (v1 : Int))).cell? ⟨ge, 4, none⟩ = some (.int .u32 0) := by rw [← hW8, blk_at S1.out.2]; rfl
  have k5 : ((X1.setCell ⟨ge, 1, none⟩ (.int .u64 (v0 : Int))).setCell ⟨ge, 2, none⟩ (.int .u16 (v1 : Int))).cell? ⟨ge, 5, none⟩ = some (.int .u32 0) := by rw [← hW8, blk_at S1.out.2]; rfl
  have k6 : ((X1.setCell ⟨ge, 1, none⟩ (.int .u64 (v0 : Int))).setCell ⟨ge, 2, none⟩ (.int .u16 (v1 : Int))).cell? ⟨ge, 6, none⟩ = some (.int .u32 0) := by rw [← hW8, blk_at S1.out.2]; rfl
  have k7 : ((X1.setCell ⟨ge, 1, none⟩ (.int .u64 (v0 : Int))).setCell ⟨ge, 2, none⟩ (.int .u16 (v1 : Int))).cell? ⟨ge, 7, none⟩ = some (.slice none 0 0) := by rw [← hW8, blk_at S1.out.2]; rfl
  go_wp2_with fail
  rw [← hW8]
  refine (wholeI_ok V v0 v1 ⟨#[]⟩ 0 0 0 none 0 0 S1.out.1 HFn.out).mono ?_
  rintro e W9 ⟨rfl, hb9, hk9⟩
  have HY : Hid (Below w.heap.size w W9 ∧ W9.heap[w.heap.size]? = some (.cells #[.int .u16 0, .int .u64 0, .int .u16 0, .string ⟨#[]⟩, .int .u32 0, .int .u32 0, .int .u32 0, .slice none 0 0] 27 (0, 0))) := ⟨HX.out.bel.trans (hb9.mono HX.out.bel.size), by rw [hb9.block _ (by have := HX.out.size; omega)]; exact HX.out.a⟩
  have za0 : W9.cell? ⟨w.heap.size, 0, none⟩ = some (.int .u16 0) := by rw [blk_at HY.out.2]; rfl
  have ya0 : W9.frozen? ⟨w.heap.size, 0, none⟩ = false := blk_free HY.out.2 0
  have za1 : W9.cell? ⟨w.heap.size, 1, none⟩ = some (.int .u64 0) := by rw [blk_at HY.out.2]; rfl
  have ya1 : W9.frozen? ⟨w.heap.size, 1, none⟩ = false := blk_free HY.out.2 1
  have za2 : W9.cell? ⟨w.heap.size, 2, none⟩ = some (.int .u16 0) := by rw [blk_at HY.out.2]; rfl
  have ya2 : W9.frozen? ⟨w.heap.size, 2, none⟩ = false := blk_free HY.out.2 2
  have za3 : W9.cell? ⟨w.heap.size, 3, none⟩ = some (.string ⟨#[]⟩) := by rw [blk_at HY.out.2]; rfl
  have ya3 : W9.frozen? ⟨w.heap.size, 3, none⟩ = false := blk_free HY.out.2 3
  have za4 : W9.cell? ⟨w.heap.size, 4, none⟩ = some (.int .u32 0) := by rw [blk_at HY.out.2]; rfl
  have ya4 : W9.frozen? ⟨w.heap.size, 4, none⟩ = false := blk_free HY.out.2 4
  have za5 : W9.cell? ⟨w.heap.size, 5, none⟩ = some (.int .u32 0) := by rw [blk_at HY.out.2]; rfl
  have ya5 : W9.frozen? ⟨w.heap.size, 5, none⟩ = false := blk_free HY.out.2 5
  have za6 : W9.cell? ⟨w.heap.size, 6, none⟩ = some (.int .u32 0) := by rw [blk_at HY.out.2]; rfl
  have ya6 : W9.frozen? ⟨w.heap.size, 6, none⟩ = false := blk_free HY.out.2 6
  have za7 : W9.cell? ⟨w.heap.size, 7, none⟩ = some (.slice none 0 0) := by rw [blk_at HY.out.2]; rfl
  have ya7 : W9.frozen? ⟨w.heap.size, 7, none⟩ = false := blk_free HY.out.2 7
  have hs0 : w.heap.size < W0.heap.size := by have := HX.out.size; omega
  clear hb9 hk9 K1 S0 y0 fr0 S1 y1 fr1 k0 k1 k2 k3 k4 k5 k6 k7 hW8
  go_wp2
  obtain ⟨hp, hq⟩ := putc8 HY.out.2 (.int .u16 (V : Int)) (.int .u64 (v0 : Int)) (.int .u16 (v1 : Int)) (.string ⟨#[]⟩) (.int .u32 0) (.int .u32 0) (.int .u32 0) (.slice none 0 0)
  generalize ((((((((W9.setCell ⟨w.heap.size, 0, none⟩ (.int .u16 (V : Int))).setCell ⟨w.heap.size, 1, none⟩ (.int .u64 (v0 : Int))).setCell ⟨w.heap.size, 2, none⟩ (.int .u16 (v1 : Int))).setCell ⟨w.heap.size, 3, none⟩ (.string ⟨#[]⟩)).setCell ⟨w.heap.size, 4, none⟩ (.int .u32 0)).setCell ⟨w.heap.size, 5, none⟩ (.int .u32 0)).setCell ⟨w.heap.size, 6, none⟩ (.int .u32 0)).setCell ⟨w.heap.size, 7, none⟩ (.slice none 0 0)) = Wz at hp hq ⊢
  exact bodyPost_ret (results_cell_tmp1 rfl _ _ w.heap.size 27 _ (0, 0) _ rfl hp Tryd.underlying27 rfl infoI) rfl ⟨rfl, HY.out.1.trans (hq.below HY.out.1.size (fun g hg => by omega))⟩
set_option maxHeartbeats 4000000 in
theorem unpackInfo_0no (ao : Option Addr) (cap N : Nat) (l : List Nat) (w : World) (h : BRow w ao cap l) (hN : l.length = N) (V a1 e1 : Nat) (h1 : rvV l 0 2 = V ∧ raA l 0 2 = a1 ∧ ndE (okR l 0 2) 0 = e1) (v0 b0 d0 : Nat) (r0 : rvV l a1 8 = v0 ∧ raA l a1 8 = b0 ∧ ndE (okR l a1 8) e1 = d0) (v1 b1 d1 : Nat) (r1 : rvV l b0 2 = v1 ∧ raA l b0 2 = b1 ∧ ndE (okR l b0 2) d0 = d1) (g0 : V = 0) (hfin : ndE (decide (b1 = l.length)) d1 = 81) :
    Calls Tryd.prog 11 #[.slice ao N cap] w fun e w' => e = .returned (.tuple #[.agg #[.int .u16 0, .int .u64 0, .int .u16 0, .string ⟨#[]⟩, .int .u32 0, .int .u32 0, .int .u32 0, .slice none 0 0], .int .i64 81]) ∧ Below w.heap.size w w' := by
  have HUp : Hid (∀ W, Below w.heap.size w W → Calls Tryd.prog 52 #[.slice ao N cap] W fun e w' => ∃ c r ao' cap', e = .returned (.pointer (some ⟨c, 0, none⟩)) ∧ Bg W w' c r ao' cap' l 0 0) := fun W hb => unpackG ao cap N l W (h.later hb) hN
  have HFn : Hid (ndE (decide (b1 = l.length)) d1 = 81) := hfin
  have H1' : Hid (rvV l 0 2 = V ∧ raA l 0 2 = a1 ∧ ndE (okR l 0 2) 0 = e1) := h1
  have R0 : Hid _ := r0
  have R1 : Hid _ := r1
  have f0 : ((V : Int) == 0) = true := by rw [beq_iff_eq]; omega
  clear h hN hfin h1 r0 r1 g0
  go_enter Tryd.func11, Tryd.ntmps11
  go_wp2_with fail
  have hx := mkb1 w #[.int .u16 0, .int .u64 0, .int .u16 0, .string ⟨#[]⟩, .int .u32 0, .int .u32 0, .int .u32 0, .slice none 0 0] 27
  generalize w.alloc (Obj.cells #[.int .u16 0, .int .u64 0, .int .u16 0, .string ⟨#[]⟩, .int .u32 0, .int .u32 0, .int .u32 0, .slice none 0 0] 27) = W0 at *
  refine (HUp.out _ hx.bel).mono ?_
  rintro e W1 ⟨c, r, ao', cap', rfl, hbd⟩
  have HX : Hid (Bx1 w W0 #[.int .u16 0, .int .u64 0, .int .u16 0, .string ⟨#[]⟩, .int .u32 0, .int .u32 0, .int .u32 0, .slice none 0 0] 27) := hx
  have H1 : Hid (Bg W0 W1 c r ao' cap' l 0 0) := hbd
  clear hx hbd HUp
  go_wp2_with fail
  have hc1 := bu16G H1.out
  rw [H1'.out.1, H1'.out.2.1, H1'.out.2.2] at hc1
  refine hc1.mono ?_
  rintro e W2 ⟨rfl, hbd, _⟩
  have H2 : Hid (Bg W0 W2 c r ao' cap' l a1 e1) := hbd
  clear hbd H1 hc1
  go_wp2_with fail
  have h3 : Bg W0 (W2.alloc (Obj.cells #[.int .u16 (V : Int), .int .u64 0, .int .u16 0, .string ⟨#[]⟩, .int .u32 0, .int .u32 0, .int .u32 0, .slice none 0 0] 27)) c r ao' cap' l a1 e1 := H2.out.later (below1 W2 _)
  have eb3 := heap_new W2 (Obj.cells #[.int .u16 (V : Int), .int .u64 0, .int .u16 0, .string ⟨#[]⟩, .int .u32 0, .int .u32 0, .int .u32 0, .slice none 0 0] 27)
  have HG : Hid (W0.heap.size ≤ W2.heap.size) := H2.out.bel.size
  generalize W2.alloc (Obj.cells #[.int .u16 (V : Int), .int .u64 0, .int .u16 0, .string ⟨#[]⟩, .int .u32 0, .int .u32 0, .int .u32 0, .slice none 0 0] 27) = W3 at *
  generalize W2.heap.size = ge at *
  have H6 : Hid (Bg W0 W3 c r ao' cap' l a1 e1 ∧ W3.heap[ge]? = some (.cells #[.int .u16 (V : Int), .int .u64 0, .int .u16 0, .string ⟨#[]⟩, .int .u32 0, .int .u32 0, .int .u32 0, .slice none 0 0] 27 (0, 0))) := ⟨h3, eb3⟩
  clear h3 eb3 H2
  have hc2 := bu64G H6.out.1
  rw [R0.out.1, R0.out.2.1, R0.out.2.2] at hc2
  refine hc2.mono ?_
  rintro e X0 ⟨rfl, hb7, hk7⟩
  have K0 : Hid (Bg W0 X0 c r ao' cap' l b0 d0 ∧ X0.heap[ge]? = some (.cells #[.int .u16 (V : Int), .int .u64 0, .int .u16 0, .string ⟨#[]⟩, .int .u32 0, .int .u32 0, .int .u32 0, .slice none 0 0] 27 (0, 0))) := ⟨hb7, H6.out.1.keep H6.out.2 (by decide) (by decide) hk7⟩
  clear H6 hb7 hk7 hc2
  go_wp2_with fail
  have hc3 := bu16G K0.out.1
  rw [R1.out.1, R1.out.2.1, R1.out.2.2] at hc3
  refine hc3.mono ?_
  rintro e X1 ⟨rfl, hb7, hk7⟩
  have K1 : Hid (Bg W0 X1 c r ao' cap' l b1 d1 ∧ X1.heap[ge]? = some (.cells #[.int .u16 (V : Int), .int .u64 0, .int .u16 0, .string ⟨#[]⟩, .int .u32 0, .int .u32 0, .int .u32 0, .slice none 0 0] 27 (0, 0))) := ⟨hb7, K0.out.1.keep K0.out.2 (by decide) (by decide) hk7⟩
  clear K0 hb7 hk7 hc3
  have y0 : X1.cell? ⟨ge, 1, none⟩ = some (.int .u64 0) := by rw [blk_at K1.out.2]; rfl
  have fr0 := blk_free K1.out.2 1
  have S0 : Hid (Bg W0 (X1.setCell ⟨ge, 1, none⟩ (.int .u64 (v0 : Int))) c r ao' cap' l b1 d1 ∧ (X1.setCell ⟨ge, 1, none⟩ (.int .u64 (v0 : Int))).heap[ge]? = some (.cells #[.int .u16 (V : Int), .int .u64 (v0 : Int), .int .u16 0, .string ⟨#[]⟩, .int .u32 0, .int .u32 0, .int .u32 0, .slice none 0 0] 27 (0, 0))) := ⟨K1.out.1.put K1.out.2 (by decide) (by decide) (by decide) HG.out 1 _, put_boxX K1.out.2 1 _ (by simp)⟩
  have y1 : (X1.setCell ⟨ge, 1, none⟩ (.int .u64 (v0 : Int))).cell? ⟨ge, 2, none⟩ = some (.int .u16 0) := by rw [blk_at S0.out.2]; rfl
  have fr1 := blk_free S0.out.2 2
  have S1 : Hid (Bg W0 ((X1.setCell ⟨ge, 1, none⟩ (.int .u64 (v0 : Int))).setCell ⟨ge, 2, none⟩ (.int .u16 (v1 : Int))) c r ao' cap' l b1 d1 ∧ ((X1.setCell ⟨ge, 1, none⟩ (.int .u64 (v0 : Int))).setCell ⟨ge, 2, none⟩ (.int .u16 (v1 : Int))).heap[ge]? = some (.cells #[.int .u16 (V : Int), .int .u64 (v0 : Int), .int .u16 (v1 : Int), .string ⟨#[]⟩, .int .u32 0, .int .u32 0, .int .u32 0, .slice none 0 0] 27 (0, 0))) := ⟨S0.out.1.put S0.out.2 (by decide) (by decide) (by decide) HG.out 2 _, put_boxX S0.out.2 2 _ (by simp)⟩
  obtain ⟨W8, hW8⟩ : ∃ W8, W8 = ((X1.setCell ⟨ge, 1, none⟩ (.int .u64 (v0 : Int))).setCell ⟨ge, 2, none⟩ (.int .u16 (v1 : Int))) := ⟨_, rfl⟩
  rw [← hW8] at S1
  have k0 : ((X1.setCell ⟨ge, 1, none⟩ (.int .u64 (v0 : Int))).setCell ⟨ge, 2, none⟩ (.int .u16 (v1 : Int))).cell? ⟨ge, 0, none⟩ = some (.int .u16 (V : Int)) := by rw [← hW8, blk_at S1.out.2]; rfl
  have k1 : ((X1.setCell ⟨ge, 1, none⟩ (.int .u64 (v0 : Int))).setCell ⟨ge, 2, none⟩ (.int .u16 (v1 : Int))).cell? ⟨ge, 1, none⟩ = some (.int .u64 (v0 : Int)) := by rw [← hW8, blk_at S1.out.2]; rfl
  have k2 : ((X1.setCell ⟨ge, 1, none⟩ (.int .u64 (v0 : Int))).setCell ⟨ge, 2, none⟩ (.int .u16 (v1 : Int))).cell? ⟨ge, 2, none⟩ = some (.int .u16 (v1 : Int)) := by rw [← hW8, blk_at S1.out.2]; rfl
  have k3 : ((X1.setCell ⟨ge, 1, none⟩ (.int .u64 (v0 : Int))).setCell ⟨ge, 2, none⟩ (.int .u16 (v1 : Int))).cell? ⟨ge, 3, none⟩ = some (.string ⟨#[]⟩) := by rw [← hW8, blk_at S1.out.2]; rfl
  have k4 : ((X1.setCell ⟨ge, 1, none⟩ (.int .u64 (v0 : Int))).setCell ⟨ge, 2, none⟩ (.int .u16 (v1 : Int))).cell? ⟨ge, 4, none⟩ = some (.int .u32 0) := by rw [← hW8, blk_at S1.out.2]; rfl
  have k5 : ((X1.setCell ⟨ge, 1, none⟩ (.int .u64 (v0 : Int))).setCell ⟨ge, 2, none⟩ (.int .u16 (v1 : Int))).cell? ⟨ge, 5, none⟩ = some (.int .u32 0) := by rw [← hW8, blk_at S1.out.2]; rfl
  have k6 : ((X1.setCell ⟨ge, 1, none⟩ (.int .u64 (v0 : Int))).setCell ⟨ge, 2, none⟩ (.int .u16 (v1 : Int))).cell? ⟨ge, 6, none⟩ = some (.int .u32 0) := by rw [← hW8, blk_at S1.out.2]; rfl
  have k7 : ((X1.setCell ⟨ge, 1, none⟩ (.int .u64 (v0 : Int))).setCell ⟨ge, 2, none⟩ (.int .u16 (v1 : Int))).cell? ⟨ge, 7, none⟩ = some (.slice none 0 0) := by rw [← hW8, blk_at S1.out.2]; rfl
  go_wp2_with fail
  rw [← hW8]
  refine (wholeI_no V v0 v1 ⟨#[]⟩ 0 0 0 none 0 0 81 (by decide) S1.out.1 HFn.out).mono ?_
  rintro e W9 ⟨rfl, hb9, hk9⟩
  have HY : Hid (Below w.heap.size w W9 ∧ W9.heap[w.heap.size]? = some (.cells #[.int .u16 0, .int .u64 0, .int .u16 0, .string ⟨#[]⟩, .int .u32 0, .int .u32 0, .int .u32 0, .slice none 0 0] 27 (0, 0))) := ⟨HX.out.bel.trans (hb9.mono HX.out.bel.size), by rw [hb9.block _ (by have := HX.out.size; omega)]; exact HX.out.a⟩
  have za0 : W9.cell? ⟨w.heap.size, 0, none⟩ = some (.int .u16 0) := by rw [blk_at HY.out.2]; rfl
  have ya0 : W9.frozen? ⟨w.heap.size, 0, none⟩ = false := blk_free HY.out.2 0
  have za1 : W9.cell? ⟨w.heap.size, 1, none⟩ = some (.int .u64 0) := by rw [blk_at HY.out.2]; rfl
  have ya1 : W9.frozen? ⟨w.heap.size, 1, none⟩ = false := blk_free HY.out.2 1
  have za2 : W9.cell? ⟨w.heap.size, 2, none⟩ = some (.int .u16 0) := by rw [blk_at HY.out.2]; rfl
  have ya2 : W9.frozen? ⟨w.heap.size, 2, none⟩ = false := blk_free HY.out.2 2
  have za3 : W9.cell? ⟨w.heap.size, 3, none⟩ = some (.string ⟨#[]⟩) := by rw [blk_at HY.out.2]; rfl
  have ya3 : W9.frozen? ⟨w.heap.size, 3, none⟩ = false := blk_free HY.out.2 3
  have za4 : W9.cell? ⟨w.heap.size, 4, none⟩ = some (.int .u32 0) := by rw [blk_at HY.out.2]; rfl
  have ya4 : W9.frozen? ⟨w.heap.size, 4, none⟩ = false := blk_free HY.out.2 4
  have za5 : W9.cell? ⟨w.heap.size, 5, none⟩ = some (.int .u32 0) := by rw [blk_at HY.out.2]; rfl
  have ya5 : W9.frozen? ⟨w.heap.size, 5, none⟩ = false := blk_free HY.out.2 5
  have za6 : W9.cell? ⟨w.heap.size, 6, none⟩ = some (.int .u32 0) := by rw [blk_at HY.out.2]; rfl
  have ya6 : W9.frozen? ⟨w.heap.size, 6, none⟩ = false := blk_free HY.out.2 6
  have za7 : W9.cell? ⟨w.heap.size, 7, none⟩ = some (.slice none 0 0) := by rw [blk_at HY.out.2]; rfl
  have ya7 : W9.frozen? ⟨w.heap.size, 7, none⟩ = false := blk_free HY.out.2 7
  have hs0 : w.heap.size < W0.heap.size := by have := HX.out.size; omega
  clear hb9 hk9 K1 S0 y0 fr0 S1 y1 fr1 k0 k1 k2 k3 k4 k5 k6 k7 hW8
  go_wp2
  obtain ⟨hp, hq⟩ := putc8 HY.out.2 (.int .u16 0) (.int .u64 0) (.int .u16 0) (.string ⟨#[]⟩) (.int .u32 0) (.int .u32 0) (.int .u32 0) (.slice none 0 0)
  generalize ((((((((W9.setCell ⟨w.heap.size, 0, none⟩ (.int .u16 0)).setCell ⟨w.heap.size, 1, none⟩ (.int .u64 0)).setCell ⟨w.heap.size, 2, none⟩ (.int .u16 0)).setCell ⟨w.heap.size, 3, none⟩ (.string ⟨#[]⟩)).setCell ⟨w.heap.size, 4, none⟩ (.int .u32 0)).setCell ⟨w.heap.size, 5, none⟩ (.int .u32 0)).setCell ⟨w.heap.size, 6, none⟩ (.int .u32 0)).setCell ⟨w.heap.size, 7, none⟩ (.slice none 0 0)) = Wz at hp hq ⊢
  exact bodyPost_ret (results_cell_tmp1 rfl _ _ w.heap.size 27 _ (0, 0) _ rfl hp Tryd.underlying27 rfl infoI) rfl ⟨rfl, HY.out.1.trans (hq.below HY.out.1.size (fun g hg => by omega))⟩
end Go.Proofs.YtjikibhhhchgeaaDoor

namespace Go.Proofs.YtjikibhhhchgeaaDoor
open Go.RowKit
set_option linter.unusedVariables false
set_option linter.unusedSimpArgs false
set_option maxRecDepth 100000
theorem rvV_lt16 {l : List Nat} (hl : ∀ x ∈ l, x < 256) (at_ : Nat) : rvV l at_ 2 < 65536 := by
  unfold rvV; split
  · exact valB_bound l at_ 2 hl
  · decide
set_option maxHeartbeats 4000000 in
theorem unpackError_ok0 (ao : Option Addr) (cap N : Nat) (l : List Nat) (w : World) (h : BRow w ao cap l) (hN : l.length = N) (hT : Tabs w) (V a1 e1 n2 a2 e2 a3 e3 : Nat) (s : ByteArray) (h1 : rvV l 0 4 = V ∧ raA l 0 4 = a1 ∧ ndE (okR l 0 4) 0 = e1) (h2 : rvV l a1 2 = n2 ∧ raA l a1 2 = a2 ∧ ndE (okR l a1 2) e1 = e2) (h3 : bstr (rrL l a2 n2) = s ∧ raA l a2 n2 = a3 ∧ ndE (tx s) (ndE (okR l a2 n2) e2) = e3) (hfin : ndE (decide (a3 = l.length)) e3 = 0) :
    Calls Tryd.prog 22 #[.slice ao N cap, .bool false] w fun e w' => e = .returned (.tuple #[.agg #[.int .u32 (V : Int), .string s, .bool false, .int .u64 0], .int .i64 0]) ∧ Below w.heap.size w w' := by
  have HUp : Hid (∀ W, Below w.heap.size w W → Calls Tryd.prog 52 #[.slice ao N cap] W fun e w' => ∃ c r ao' cap', e = .returned (.pointer (some ⟨c, 0, none⟩)) ∧ Bg W w' c r ao' cap' l 0 0) := fun W hb => unpackG ao cap N l W (h.later hb) hN
  have HFn : Hid (ndE (decide (a3 = l.length)) e3 = 0) := hfin
  have HT : Hid (Tabs w) := hT
  have hw2 : IntKind.i64.wrap (n2 : Int) = (n2 : Int) := by have := rvV_lt16 h.lt a1; rw [h2.1] at this; rw [IntKind.wrap_i64]; omega
  have H1' : Hid (rvV l 0 4 = V ∧ raA l 0 4 = a1 ∧ ndE (okR l 0 4) 0 = e1) := h1
  have H2' : Hid (rvV l a1 2 = n2 ∧ raA l a1 2 = a2 ∧ ndE (okR l a1 2) e1 = e2) := h2
  have H3' : Hid (bstr (rrL l a2 n2) = s ∧ raA l a2 n2 = a3 ∧ ndE (tx s) (ndE (okR l a2 n2) e2) = e3) := h3
  
  clear h hN hfin hT h1 h2 h3 
  go_enter Tryd.func22, Tryd.ntmps22
  go_wp2_with fail
  have hx := mkb1 w #[.int .u32 0, .string ⟨#[]⟩, .bool false, .int .u64 0] 42
  generalize w.alloc (Obj.cells #[.int .u32 0, .string ⟨#[]⟩, .bool false, .int .u64 0] 42) = W0 at *
  refine (HUp.out _ hx.bel).mono ?_
  rintro e W1 ⟨c, r, ao', cap', rfl, hbd⟩
  have HX : Hid (Bx1 w W0 #[.int .u32 0, .string ⟨#[]⟩, .bool false, .int .u64 0] 42) := hx
  have HT0 : Hid (Tabs W0) := HT.out.later hx.bel
  have H1 : Hid (Bg W0 W1 c r ao' cap' l 0 0) := hbd
  clear hx hbd HUp HT
  go_wp2_with fail
  have hc1 := bu32G H1.out
  rw [H1'.out.1, H1'.out.2.1, H1'.out.2.2] at hc1
  refine hc1.mono ?_
  rintro e W2 ⟨rfl, hbd, _⟩
  have H2 : Hid (Bg W0 W2 c r ao' cap' l a1 e1) := hbd
  clear hbd H1 hc1
  go_wp2_with fail
  have h3 : Bg W0 (W2.alloc (Obj.cells #[.int .u32 (V : Int), .string ⟨#[]⟩, .bool false, .int .u64 0] 42)) c r ao' cap' l a1 e1 := H2.out.later (below1 W2 _)
  have eb3 := heap_new W2 (Obj.cells #[.int .u32 (V : Int), .string ⟨#[]⟩, .bool false, .int .u64 0] 42)
  have HG : Hid (W0.heap.size ≤ W2.heap.size) := H2.out.bel.size
  generalize W2.alloc (Obj.cells #[.int .u32 (V : Int), .string ⟨#[]⟩, .bool false, .int .u64 0] 42) = W3 at *
  generalize W2.heap.size = ge at *
  have hc2 := bu16G h3
  rw [H2'.out.1, H2'.out.2.1, H2'.out.2.2] at hc2
  refine hc2.mono ?_
  rintro e W4 ⟨rfl, hb4, hk4⟩
  have H4 : Hid (Bg W0 W4 c r ao' cap' l a2 e2 ∧ W4.heap[ge]? = some (.cells #[.int .u32 (V : Int), .string ⟨#[]⟩, .bool false, .int .u64 0] 42 (0, 0))) := ⟨hb4, h3.keep eb3 (by decide) (by decide) hk4⟩
  clear h3 eb3 H2 hb4 hk4 hc2
  go_wp2_with fail
  have hc7 := brawTextG n2 H4.out.1 HT0.out
  rw [H3'.out.1, H3'.out.2.1, H3'.out.2.2] at hc7
  refine hc7.mono ?_
  rintro e W7 ⟨rfl, hb7, hk7⟩
  have H7 : Hid (Bg W0 W7 c r ao' cap' l a3 e3 ∧ W7.heap[ge]? = some (.cells #[.int .u32 (V : Int), .string ⟨#[]⟩, .bool false, .int .u64 0] 42 (0, 0))) := ⟨hb7, H4.out.1.keep H4.out.2 (by decide) (by decide) hk7⟩
  clear H4 hb7 hk7 hc7
  have y1 : W7.cell? ⟨ge, 1, none⟩ = some (.string ⟨#[]⟩) := by rw [blk_at H7.out.2]; rfl
  have f1 := blk_free H7.out.2 1
  have H8 : Hid (Bg W0 (W7.setCell ⟨ge, 1, none⟩ (.string s)) c r ao' cap' l a3 e3 ∧ (W7.setCell ⟨ge, 1, none⟩ (.string s)).heap[ge]? = some (.cells #[.int .u32 (V : Int), .string s, .bool false, .int .u64 0] 42 (0, 0))) := ⟨H7.out.1.put H7.out.2 (by decide) (by decide) (by decide) HG.out 1 _, put_boxX H7.out.2 1 _ (by simp)⟩
  obtain ⟨W8, hW8⟩ : ∃ W8, W8 = W7.setCell ⟨ge, 1, none⟩ (.string s) := ⟨_, rfl⟩
  rw [← hW8] at H8
  have k0 : (W7.setCell ⟨ge, 1, none⟩ (.string s)).cell? ⟨ge, 0, none⟩ = some (.int .u32 (V : Int)) := by rw [← hW8, blk_at H8.out.2]; rfl
  have k1 : (W7.setCell ⟨ge, 1, none⟩ (.string s)).cell? ⟨ge, 1, none⟩ = some (.string s) := by rw [← hW8, blk_at H8.out.2]; rfl
  have k2 : (W7.setCell ⟨ge, 1, none⟩ (.string s)).cell? ⟨ge, 2, none⟩ = some (.bool false) := by rw [← hW8, blk_at H8.out.2]; rfl
  have k3 : (W7.setCell ⟨ge, 1, none⟩ (.string s)).cell? ⟨ge, 3, none⟩ = some (.int .u64 0) := by rw [← hW8, blk_at H8.out.2]; rfl
  clear H7
  go_wp2_with fail
  rw [← hW8]
  refine (wholeE_ok V s false 0 H8.out.1 HFn.out).mono ?_
  rintro e W9 ⟨rfl, hb9, hk9⟩
  have HY : Hid (Below w.heap.size w W9 ∧ W9.heap[w.heap.size]? = some (.cells #[.int .u32 0, .string ⟨#[]⟩, .bool false, .int .u64 0] 42 (0, 0))) := ⟨HX.out.bel.trans (hb9.mono HX.out.bel.size), by rw [hb9.block _ (by have := HX.out.size; omega)]; exact HX.out.a⟩
  have za0 : W9.cell? ⟨w.heap.size, 0, none⟩ = some (.int .u32 0) := by rw [blk_at HY.out.2]; rfl
  have ya0 : W9.frozen? ⟨w.heap.size, 0, none⟩ = false := blk_free HY.out.2 0
  have za1 : W9.cell? ⟨w.heap.size, 1, none⟩ = some (.string ⟨#[]⟩) := by rw [blk_at HY.out.2]; rfl
  have ya1 : W9.frozen? ⟨w.heap.size, 1, none⟩ = false := blk_free HY.out.2 1
  have za2 : W9.cell? ⟨w.heap.size, 2, none⟩ = some (.bool false) := by rw [blk_at HY.out.2]; rfl
  have ya2 : W9.frozen? ⟨w.heap.size, 2, none⟩ = false := blk_free HY.out.2 2
  have za3 : W9.cell? ⟨w.heap.size, 3, none⟩ = some (.int .u64 0) := by rw [blk_at HY.out.2]; rfl
  have ya3 : W9.frozen? ⟨w.heap.size, 3, none⟩ = false := blk_free HY.out.2 3
  have hs0 : w.heap.size < W0.heap.size := by have := HX.out.size; omega
  clear hb9 hk9 H8 k0 k1 k2 k3 y1 f1 hW8
  go_wp2
  obtain ⟨hp, hq⟩ := putc4 HY.out.2 (.int .u32 (V : Int)) (.string s) (.bool false) (.int .u64 0)
  exact bodyPost_ret (results_cell_tmp1 rfl _ _ w.heap.size 42 _ (0, 0) _ rfl hp Tryd.underlying42 rfl infoE) rfl ⟨rfl, HY.out.1.trans (hq.below HY.out.1.size (fun g hg => by omega))⟩
set_option maxHeartbeats 4000000 in
theorem unpackError_no0 (ao : Option Addr) (cap N : Nat) (l : List Nat) (w : World) (h : BRow w ao cap l) (hN : l.length = N) (hT : Tabs w) (V a1 e1 n2 a2 e2 a3 e3 : Nat) (s : ByteArray) (h1 : rvV l 0 4 = V ∧ raA l 0 4 = a1 ∧ ndE (okR l 0 4) 0 = e1) (h2 : rvV l a1 2 = n2 ∧ raA l a1 2 = a2 ∧ ndE (okR l a1 2) e1 = e2) (h3 : bstr (rrL l a2 n2) = s ∧ raA l a2 n2 = a3 ∧ ndE (tx s) (ndE (okR l a2 n2) e2) = e3) (hfin : ndE (decide (a3 = l.length)) e3 = 81) :
    Calls Tryd.prog 22 #[.slice ao N cap, .bool false] w fun e w' => e = .returned (.tuple #[.agg #[.int .u32 0, .string ⟨#[]⟩, .bool false, .int .u64 0], .int .i64 81]) ∧ Below w.heap.size w w' := by
  have HUp : Hid (∀ W, Below w.heap.size w W → Calls Tryd.prog 52 #[.slice ao N cap] W fun e w' => ∃ c r ao' cap', e = .returned (.pointer (some ⟨c, 0, none⟩)) ∧ Bg W w' c r ao' cap' l 0 0) := fun W hb => unpackG ao cap N l W (h.later hb) hN
  have HFn : Hid (ndE (decide (a3 = l.length)) e3 = 81) := hfin
  have HT : Hid (Tabs w) := hT
  have hw2 : IntKind.i64.wrap (n2 : Int) = (n2 : Int) := by have := rvV_lt16 h.lt a1; rw [h2.1] at this; rw [IntKind.wrap_i64]; omega
  have H1' : Hid (rvV l 0 4 = V ∧ raA l 0 4 = a1 ∧ ndE (okR l 0 4) 0 = e1) := h1
  have H2' : Hid (rvV l a1 2 = n2 ∧ raA l a1 2 = a2 ∧ ndE (okR l a1 2) e1 = e2) := h2
  have H3' : Hid (bstr (rrL l a2 n2) = s ∧ raA l a2 n2 = a3 ∧ ndE (tx s) (ndE (okR l a2 n2) e2) = e3) := h3
  
  clear h hN hfin hT h1 h2 h3 
  go_enter Tryd.func22, Tryd.ntmps22
  go_wp2_with fail
  have hx := mkb1 w #[.int .u32 0, .string ⟨#[]⟩, .bool false, .int .u64 0] 42
  generalize w.alloc (Obj.cells #[.int .u32 0, .string ⟨#[]⟩, .bool false, .int .u64 0] 42) = W0 at *
  refine (HUp.out _ hx.bel).mono ?_
  rintro e W1 ⟨c, r, ao', cap', rfl, hbd⟩
  have HX : Hid (Bx1 w W0 #[.int .u32 0, .string ⟨#[]⟩, .bool false, .int .u64 0] 42) := hx
  have HT0 : Hid (Tabs W0) := HT.out.later hx.bel
  have H1 : Hid (Bg W0 W1 c r ao' cap' l 0 0) := hbd
  clear hx hbd HUp HT
  go_wp2_with fail
  have hc1 := bu32G H1.out
  rw [H1'.out.1, H1'.out.2.1, H1'.out.2.2] at hc1
  refine hc1.mono ?_
  rintro e W2 ⟨rfl, hbd, _⟩
  have H2 : Hid (Bg W0 W2 c r ao' cap' l a1 e1) := hbd
  clear hbd H1 hc1
  go_wp2_with fail
  have h3 : Bg W0 (W2.alloc (Obj.cells #[.int .u32 (V : Int), .string ⟨#[]⟩, .bool false, .int .u64 0] 42)) c r ao' cap' l a1 e1 := H2.out.later (below1 W2 _)
  have eb3 := heap_new W2 (Obj.cells #[.int .u32 (V : Int), .string ⟨#[]⟩, .bool false, .int .u64 0] 42)
  have HG : Hid (W0.heap.size ≤ W2.heap.size) := H2.out.bel.size
  generalize W2.alloc (Obj.cells #[.int .u32 (V : Int), .string ⟨#[]⟩, .bool false, .int .u64 0] 42) = W3 at *
  generalize W2.heap.size = ge at *
  have hc2 := bu16G h3
  rw [H2'.out.1, H2'.out.2.1, H2'.out.2.2] at hc2
  refine hc2.mono ?_
  rintro e W4 ⟨rfl, hb4, hk4⟩
  have H4 : Hid (Bg W0 W4 c r ao' cap' l a2 e2 ∧ W4.heap[ge]? = some (.cells #[.int .u32 (V : Int), .string ⟨#[]⟩, .bool false, .int .u64 0] 42 (0, 0))) := ⟨hb4, h3.keep eb3 (by decide) (by decide) hk4⟩
  clear h3 eb3 H2 hb4 hk4 hc2
  go_wp2_with fail
  have hc7 := brawTextG n2 H4.out.1 HT0.out
  rw [H3'.out.1, H3'.out.2.1, H3'.out.2.2] at hc7
  refine hc7.mono ?_
  rintro e W7 ⟨rfl, hb7, hk7⟩
  have H7 : Hid (Bg W0 W7 c r ao' cap' l a3 e3 ∧ W7.heap[ge]? = some (.cells #[.int .u32 (V : Int), .string ⟨#[]⟩, .bool false, .int .u64 0] 42 (0, 0))) := ⟨hb7, H4.out.1.keep H4.out.2 (by decide) (by decide) hk7⟩
  clear H4 hb7 hk7 hc7
  have y1 : W7.cell? ⟨ge, 1, none⟩ = some (.string ⟨#[]⟩) := by rw [blk_at H7.out.2]; rfl
  have f1 := blk_free H7.out.2 1
  have H8 : Hid (Bg W0 (W7.setCell ⟨ge, 1, none⟩ (.string s)) c r ao' cap' l a3 e3 ∧ (W7.setCell ⟨ge, 1, none⟩ (.string s)).heap[ge]? = some (.cells #[.int .u32 (V : Int), .string s, .bool false, .int .u64 0] 42 (0, 0))) := ⟨H7.out.1.put H7.out.2 (by decide) (by decide) (by decide) HG.out 1 _, put_boxX H7.out.2 1 _ (by simp)⟩
  obtain ⟨W8, hW8⟩ : ∃ W8, W8 = W7.setCell ⟨ge, 1, none⟩ (.string s) := ⟨_, rfl⟩
  rw [← hW8] at H8
  have k0 : (W7.setCell ⟨ge, 1, none⟩ (.string s)).cell? ⟨ge, 0, none⟩ = some (.int .u32 (V : Int)) := by rw [← hW8, blk_at H8.out.2]; rfl
  have k1 : (W7.setCell ⟨ge, 1, none⟩ (.string s)).cell? ⟨ge, 1, none⟩ = some (.string s) := by rw [← hW8, blk_at H8.out.2]; rfl
  have k2 : (W7.setCell ⟨ge, 1, none⟩ (.string s)).cell? ⟨ge, 2, none⟩ = some (.bool false) := by rw [← hW8, blk_at H8.out.2]; rfl
  have k3 : (W7.setCell ⟨ge, 1, none⟩ (.string s)).cell? ⟨ge, 3, none⟩ = some (.int .u64 0) := by rw [← hW8, blk_at H8.out.2]; rfl
  clear H7
  go_wp2_with fail
  rw [← hW8]
  refine (wholeE_no V s false 0 81 (by decide) H8.out.1 HFn.out).mono ?_
  rintro e W9 ⟨rfl, hb9, hk9⟩
  have HY : Hid (Below w.heap.size w W9 ∧ W9.heap[w.heap.size]? = some (.cells #[.int .u32 0, .string ⟨#[]⟩, .bool false, .int .u64 0] 42 (0, 0))) := ⟨HX.out.bel.trans (hb9.mono HX.out.bel.size), by rw [hb9.block _ (by have := HX.out.size; omega)]; exact HX.out.a⟩
  have za0 : W9.cell? ⟨w.heap.size, 0, none⟩ = some (.int .u32 0) := by rw [blk_at HY.out.2]; rfl
  have ya0 : W9.frozen? ⟨w.heap.size, 0, none⟩ = false := blk_free HY.out.2 0
  have za1 : W9.cell? ⟨w.heap.size, 1, none⟩ = some (.string ⟨#[]⟩) := by rw [blk_at HY.out.2]; rfl
  have ya1 : W9.frozen? ⟨w.heap.size, 1, none⟩ = false := blk_free HY.out.2 1
  have za2 : W9.cell? ⟨w.heap.size, 2, none⟩ = some (.bool false) := by rw [blk_at HY.out.2]; rfl
  have ya2 : W9.frozen? ⟨w.heap.size, 2, none⟩ = false := blk_free HY.out.2 2
  have za3 : W9.cell? ⟨w.heap.size, 3, none⟩ = some (.int .u64 0) := by rw [blk_at HY.out.2]; rfl
  have ya3 : W9.frozen? ⟨w.heap.size, 3, none⟩ = false := blk_free HY.out.2 3
  have hs0 : w.heap.size < W0.heap.size := by have := HX.out.size; omega
  clear hb9 hk9 H8 k0 k1 k2 k3 y1 f1 hW8
  go_wp2
  obtain ⟨hp, hq⟩ := putc4 HY.out.2 (.int .u32 0) (.string ⟨#[]⟩) (.bool false) (.int .u64 0)
  exact bodyPost_ret (results_cell_tmp1 rfl _ _ w.heap.size 42 _ (0, 0) _ rfl hp Tryd.underlying42 rfl infoE) rfl ⟨rfl, HY.out.1.trans (hq.below HY.out.1.size (fun g hg => by omega))⟩
set_option maxHeartbeats 4000000 in
theorem unpackError_ok1 (ao : Option Addr) (cap N : Nat) (l : List Nat) (w : World) (h : BRow w ao cap l) (hN : l.length = N) (hT : Tabs w) (V a1 e1 n2 a2 e2 a3 e3 : Nat) (s : ByteArray) (h1 : rvV l 0 4 = V ∧ raA l 0 4 = a1 ∧ ndE (okR l 0 4) 0 = e1) (h2 : rvV l a1 2 = n2 ∧ raA l a1 2 = a2 ∧ ndE (okR l a1 2) e1 = e2) (h3 : bstr (rrL l a2 n2) = s ∧ raA l a2 n2 = a3 ∧ ndE (tx s) (ndE (okR l a2 n2) e2) = e3) (At a4 e4 : Nat) (h4 : rvV l a3 8 = At ∧ raA l a3 8 = a4 ∧ ndE (okR l a3 8) e3 = e4) (hfin : ndE (decide (a4 = l.length)) e4 = 0) :
    Calls Tryd.prog 22 #[.slice ao N cap, .bool true] w fun e w' => e = .returned (.tuple #[.agg #[.int .u32 (V : Int), .string s, .bool true, .int .u64 (At : Int)], .int .i64 0]) ∧ Below w.heap.size w w' := by
  have HUp : Hid (∀ W, Below w.heap.size w W → Calls Tryd.prog 52 #[.slice ao N cap] W fun e w' => ∃ c r ao' cap', e = .returned (.pointer (some ⟨c, 0, none⟩)) ∧ Bg W w' c r ao' cap' l 0 0) := fun W hb => unpackG ao cap N l W (h.later hb) hN
  have HFn : Hid (ndE (decide (a4 = l.length)) e4 = 0) := hfin
  have HT : Hid (Tabs w) := hT
  have hw2 : IntKind.i64.wrap (n2 : Int) = (n2 : Int) := by have := rvV_lt16 h.lt a1; rw [h2.1] at this; rw [IntKind.wrap_i64]; omega
  have H1' : Hid (rvV l 0 4 = V ∧ raA l 0 4 = a1 ∧ ndE (okR l 0 4) 0 = e1) := h1
  have H2' : Hid (rvV l a1 2 = n2 ∧ raA l a1 2 = a2 ∧ ndE (okR l a1 2) e1 = e2) := h2
  have H3' : Hid (bstr (rrL l a2 n2) = s ∧ raA l a2 n2 = a3 ∧ ndE (tx s) (ndE (okR l a2 n2) e2) = e3) := h3
  have H4' : Hid (rvV l a3 8 = At ∧ raA l a3 8 = a4 ∧ ndE (okR l a3 8) e3 = e4) := h4
  clear h hN hfin hT h1 h2 h3 h4
  go_enter Tryd.func22, Tryd.ntmps22
  go_wp2_with fail
  have hx := mkb1 w #[.int .u32 0, .string ⟨#[]⟩, .bool false, .int .u64 0] 42
  generalize w.alloc (Obj.cells #[.int .u32 0, .string ⟨#[]⟩, .bool false, .int .u64 0] 42) = W0 at *
  refine (HUp.out _ hx.bel).mono ?_
  rintro e W1 ⟨c, r, ao', cap', rfl, hbd⟩
  have HX : Hid (Bx1 w W0 #[.int .u32 0, .string ⟨#[]⟩, .bool false, .int .u64 0] 42) := hx
  have HT0 : Hid (Tabs W0) := HT.out.later hx.bel
  have H1 : Hid (Bg W0 W1 c r ao' cap' l 0 0) := hbd
  clear hx hbd HUp HT
  go_wp2_with fail
  have hc1 := bu32G H1.out
  rw [H1'.out.1, H1'.out.2.1, H1'.out.2.2] at hc1
  refine hc1.mono ?_
  rintro e W2 ⟨rfl, hbd, _⟩
  have H2 : Hid (Bg W0 W2 c r ao' cap' l a1 e1) := hbd
  clear hbd H1 hc1
  go_wp2_with fail
  have h3 : Bg W0 (W2.alloc (Obj.cells #[.int .u32 (V : Int), .string ⟨#[]⟩, .bool true, .int .u64 0] 42)) c r ao' cap' l a1 e1 := H2.out.later (below1 W2 _)
  have eb3 := heap_new W2 (Obj.cells #[.int .u32 (V : Int), .string ⟨#[]⟩, .bool true, .int .u64 0] 42)
  have HG : Hid (W0.heap.size ≤ W2.heap.size) := H2.out.bel.size
  generalize W2.alloc (Obj.cells #[.int .u32 (V : Int), .string ⟨#[]⟩, .bool true, .int .u64 0] 42) = W3 at *
  generalize W2.heap.size = ge at *
  have hc2 := bu16G h3
  rw [H2'.out.1, H2'.out.2.1, H2'.out.2.2] at hc2
  refine hc2.mono ?_
  rintro e W4 ⟨rfl, hb4, hk4⟩
  have H4 : Hid (Bg W0 W4 c r ao' cap' l a2 e2 ∧ W4.heap[ge]? = some (.cells #[.int .u32 (V : Int), .string ⟨#[]⟩, .bool true, .int .u64 0] 42 (0, 0))) := ⟨hb4, h3.keep eb3 (by decide) (by decide) hk4⟩
  clear h3 eb3 H2 hb4 hk4 hc2
  go_wp2_with fail
  have hc7 := brawTextG n2 H4.out.1 HT0.out
  rw [H3'.out.1, H3'.out.2.1, H3'.out.2.2] at hc7
  refine hc7.mono ?_
  rintro e W7 ⟨rfl, hb7, hk7⟩
  have H7 : Hid (Bg W0 W7 c r ao' cap' l a3 e3 ∧ W7.heap[ge]? = some (.cells #[.int .u32 (V : Int), .string ⟨#[]⟩, .bool true, .int .u64 0] 42 (0, 0))) := ⟨hb7, H4.out.1.keep H4.out.2 (by decide) (by decide) hk7⟩
  clear H4 hb7 hk7 hc7
  have y1 : W7.cell? ⟨ge, 1, none⟩ = some (.string ⟨#[]⟩) := by rw [blk_at H7.out.2]; rfl
  have f1 := blk_free H7.out.2 1
  have H8 : Hid (Bg W0 (W7.setCell ⟨ge, 1, none⟩ (.string s)) c r ao' cap' l a3 e3 ∧ (W7.setCell ⟨ge, 1, none⟩ (.string s)).heap[ge]? = some (.cells #[.int .u32 (V : Int), .string s, .bool true, .int .u64 0] 42 (0, 0))) := ⟨H7.out.1.put H7.out.2 (by decide) (by decide) (by decide) HG.out 1 _, put_boxX H7.out.2 1 _ (by simp)⟩
  obtain ⟨W8, hW8⟩ : ∃ W8, W8 = W7.setCell ⟨ge, 1, none⟩ (.string s) := ⟨_, rfl⟩
  rw [← hW8] at H8
  clear H7
  go_wp2_with fail
  rw [← hW8]
  have hc9 := bu64G H8.out.1
  rw [H4'.out.1, H4'.out.2.1, H4'.out.2.2] at hc9
  refine hc9.mono ?_
  rintro e Wb ⟨rfl, hb7, hk7⟩
  have H7 : Hid (Bg W0 Wb c r ao' cap' l a4 e4 ∧ Wb.heap[ge]? = some (.cells #[.int .u32 (V : Int), .string s, .bool true, .int .u64 0] 42 (0, 0))) := ⟨hb7, H8.out.1.keep H8.out.2 (by decide) (by decide) hk7⟩
  clear H8 hb7 hk7 hc9 y1 f1 hW8 W8
  have y1 : Wb.cell? ⟨ge, 3, none⟩ = some (.int .u64 0) := by rw [blk_at H7.out.2]; rfl
  have f1 := blk_free H7.out.2 3
  have H8 : Hid (Bg W0 (Wb.setCell ⟨ge, 3, none⟩ (.int .u64 (At : Int))) c r ao' cap' l a4 e4 ∧ (Wb.setCell ⟨ge, 3, none⟩ (.int .u64 (At : Int))).heap[ge]? = some (.cells #[.int .u32 (V : Int), .string s, .bool true, .int .u64 (At : Int)] 42 (0, 0))) := ⟨H7.out.1.put H7.out.2 (by decide) (by decide) (by decide) HG.out 3 _, put_boxX H7.out.2 3 _ (by simp)⟩
  obtain ⟨W8, hW8⟩ : ∃ W8, W8 = Wb.setCell ⟨ge, 3, none⟩ (.int .u64 (At : Int)) := ⟨_, rfl⟩
  rw [← hW8] at H8
  have k0 : (Wb.setCell ⟨ge, 3, none⟩ (.int .u64 (At : Int))).cell? ⟨ge, 0, none⟩ = some (.int .u32 (V : Int)) := by rw [← hW8, blk_at H8.out.2]; rfl
  have k1 : (Wb.setCell ⟨ge, 3, none⟩ (.int .u64 (At : Int))).cell? ⟨ge, 1, none⟩ = some (.string s) := by rw [← hW8, blk_at H8.out.2]; rfl
  have k2 : (Wb.setCell ⟨ge, 3, none⟩ (.int .u64 (At : Int))).cell? ⟨ge, 2, none⟩ = some (.bool true) := by rw [← hW8, blk_at H8.out.2]; rfl
  have k3 : (Wb.setCell ⟨ge, 3, none⟩ (.int .u64 (At : Int))).cell? ⟨ge, 3, none⟩ = some (.int .u64 (At : Int)) := by rw [← hW8, blk_at H8.out.2]; rfl
  clear H7
  go_wp2_with fail
  rw [← hW8]
  refine (wholeE_ok V s true At H8.out.1 HFn.out).mono ?_
  rintro e W9 ⟨rfl, hb9, hk9⟩
  have HY : Hid (Below w.heap.size w W9 ∧ W9.heap[w.heap.size]? = some (.cells #[.int .u32 0, .string ⟨#[]⟩, .bool false, .int .u64 0] 42 (0, 0))) := ⟨HX.out.bel.trans (hb9.mono HX.out.bel.size), by rw [hb9.block _ (by have := HX.out.size; omega)]; exact HX.out.a⟩
  have za0 : W9.cell? ⟨w.heap.size, 0, none⟩ = some (.int .u32 0) := by rw [blk_at HY.out.2]; rfl
  have ya0 : W9.frozen? ⟨w.heap.size, 0, none⟩ = false := blk_free HY.out.2 0
  have za1 : W9.cell? ⟨w.heap.size, 1, none⟩ = some (.string ⟨#[]⟩) := by rw [blk_at HY.out.2]; rfl
  have ya1 : W9.frozen? ⟨w.heap.size, 1, none⟩ = false := blk_free HY.out.2 1
  have za2 : W9.cell? ⟨w.heap.size, 2, none⟩ = some (.bool false) := by rw [blk_at HY.out.2]; rfl
  have ya2 : W9.frozen? ⟨w.heap.size, 2, none⟩ = false := blk_free HY.out.2 2
  have za3 : W9.cell? ⟨w.heap.size, 3, none⟩ = some (.int .u64 0) := by rw [blk_at HY.out.2]; rfl
  have ya3 : W9.frozen? ⟨w.heap.size, 3, none⟩ = false := blk_free HY.out.2 3
  have hs0 : w.heap.size < W0.heap.size := by have := HX.out.size; omega
  clear hb9 hk9 H8 k0 k1 k2 k3 y1 f1 hW8
  go_wp2
  obtain ⟨hp, hq⟩ := putc4 HY.out.2 (.int .u32 (V : Int)) (.string s) (.bool true) (.int .u64 (At : Int))
  exact bodyPost_ret (results_cell_tmp1 rfl _ _ w.heap.size 42 _ (0, 0) _ rfl hp Tryd.underlying42 rfl infoE) rfl ⟨rfl, HY.out.1.trans (hq.below HY.out.1.size (fun g hg => by omega))⟩
set_option maxHeartbeats 4000000 in
theorem unpackError_no1 (ao : Option Addr) (cap N : Nat) (l : List Nat) (w : World) (h : BRow w ao cap l) (hN : l.length = N) (hT : Tabs w) (V a1 e1 n2 a2 e2 a3 e3 : Nat) (s : ByteArray) (h1 : rvV l 0 4 = V ∧ raA l 0 4 = a1 ∧ ndE (okR l 0 4) 0 = e1) (h2 : rvV l a1 2 = n2 ∧ raA l a1 2 = a2 ∧ ndE (okR l a1 2) e1 = e2) (h3 : bstr (rrL l a2 n2) = s ∧ raA l a2 n2 = a3 ∧ ndE (tx s) (ndE (okR l a2 n2) e2) = e3) (At a4 e4 : Nat) (h4 : rvV l a3 8 = At ∧ raA l a3 8 = a4 ∧ ndE (okR l a3 8) e3 = e4) (hfin : ndE (decide (a4 = l.length)) e4 = 81) :
    Calls Tryd.prog 22 #[.slice ao N cap, .bool true] w fun e w' => e = .returned (.tuple #[.agg #[.int .u32 0, .string ⟨#[]⟩, .bool false, .int .u64 0], .int .i64 81]) ∧ Below w.heap.size w w' := by
  have HUp : Hid (∀ W, Below w.heap.size w W → Calls Tryd.prog 52 #[.slice ao N cap] W fun e w' => ∃ c r ao' cap', e = .returned (.pointer (some ⟨c, 0, none⟩)) ∧ Bg W w' c r ao' cap' l 0 0) := fun W hb => unpackG ao cap N l W (h.later hb) hN
  have HFn : Hid (ndE (decide (a4 = l.length)) e4 = 81) := hfin
  have HT : Hid (Tabs w) := hT
  have hw2 : IntKind.i64.wrap (n2 : Int) = (n2 : Int) := by have := rvV_lt16 h.lt a1; rw [h2.1] at this; rw [IntKind.wrap_i64]; omega
  have H1' : Hid (rvV l 0 4 = V ∧ raA l 0 4 = a1 ∧ ndE (okR l 0 4) 0 = e1) := h1
  have H2' : Hid (rvV l a1 2 = n2 ∧ raA l a1 2 = a2 ∧ ndE (okR l a1 2) e1 = e2) := h2
  have H3' : Hid (bstr (rrL l a2 n2) = s ∧ raA l a2 n2 = a3 ∧ ndE (tx s) (ndE (okR l a2 n2) e2) = e3) := h3
  have H4' : Hid (rvV l a3 8 = At ∧ raA l a3 8 = a4 ∧ ndE (okR l a3 8) e3 = e4) := h4
  clear h hN hfin hT h1 h2 h3 h4
  go_enter Tryd.func22, Tryd.ntmps22
  go_wp2_with fail
  have hx := mkb1 w #[.int .u32 0, .string ⟨#[]⟩, .bool false, .int .u64 0] 42
  generalize w.alloc (Obj.cells #[.int .u32 0, .string ⟨#[]⟩, .bool false, .int .u64 0] 42) = W0 at *
  refine (HUp.out _ hx.bel).mono ?_
  rintro e W1 ⟨c, r, ao', cap', rfl, hbd⟩
  have HX : Hid (Bx1 w W0 #[.int .u32 0, .string ⟨#[]⟩, .bool false, .int .u64 0] 42) := hx
  have HT0 : Hid (Tabs W0) := HT.out.later hx.bel
  have H1 : Hid (Bg W0 W1 c r ao' cap' l 0 0) := hbd
  clear hx hbd HUp HT
  go_wp2_with fail
  have hc1 := bu32G H1.out
  rw [H1'.out.1, H1'.out.2.1, H1'.out.2.2] at hc1
  refine hc1.mono ?_
  rintro e W2 ⟨rfl, hbd, _⟩
  have H2 : Hid (Bg W0 W2 c r ao' cap' l a1 e1) := hbd
  clear hbd H1 hc1
  go_wp2_with fail
  have h3 : Bg W0 (W2.alloc (Obj.cells #[.int .u32 (V : Int), .string ⟨#[]⟩, .bool true, .int .u64 0] 42)) c r ao' cap' l a1 e1 := H2.out.later (below1 W2 _)
  have eb3 := heap_new W2 (Obj.cells #[.int .u32 (V : Int), .string ⟨#[]⟩, .bool true, .int .u64 0] 42)
  have HG : Hid (W0.heap.size ≤ W2.heap.size) := H2.out.bel.size
  generalize W2.alloc (Obj.cells #[.int .u32 (V : Int), .string ⟨#[]⟩, .bool true, .int .u64 0] 42) = W3 at *
  generalize W2.heap.size = ge at *
  have hc2 := bu16G h3
  rw [H2'.out.1, H2'.out.2.1, H2'.out.2.2] at hc2
  refine hc2.mono ?_
  rintro e W4 ⟨rfl, hb4, hk4⟩
  have H4 : Hid (Bg W0 W4 c r ao' cap' l a2 e2 ∧ W4.heap[ge]? = some (.cells #[.int .u32 (V : Int), .string ⟨#[]⟩, .bool true, .int .u64 0] 42 (0, 0))) := ⟨hb4, h3.keep eb3 (by decide) (by decide) hk4⟩
  clear h3 eb3 H2 hb4 hk4 hc2
  go_wp2_with fail
  have hc7 := brawTextG n2 H4.out.1 HT0.out
  rw [H3'.out.1, H3'.out.2.1, H3'.out.2.2] at hc7
  refine hc7.mono ?_
  rintro e W7 ⟨rfl, hb7, hk7⟩
  have H7 : Hid (Bg W0 W7 c r ao' cap' l a3 e3 ∧ W7.heap[ge]? = some (.cells #[.int .u32 (V : Int), .string ⟨#[]⟩, .bool true, .int .u64 0] 42 (0, 0))) := ⟨hb7, H4.out.1.keep H4.out.2 (by decide) (by decide) hk7⟩
  clear H4 hb7 hk7 hc7
  have y1 : W7.cell? ⟨ge, 1, none⟩ = some (.string ⟨#[]⟩) := by rw [blk_at H7.out.2]; rfl
  have f1 := blk_free H7.out.2 1
  have H8 : Hid (Bg W0 (W7.setCell ⟨ge, 1, none⟩ (.string s)) c r ao' cap' l a3 e3 ∧ (W7.setCell ⟨ge, 1, none⟩ (.string s)).heap[ge]? = some (.cells #[.int .u32 (V : Int), .string s, .bool true, .int .u64 0] 42 (0, 0))) := ⟨H7.out.1.put H7.out.2 (by decide) (by decide) (by decide) HG.out 1 _, put_boxX H7.out.2 1 _ (by simp)⟩
  obtain ⟨W8, hW8⟩ : ∃ W8, W8 = W7.setCell ⟨ge, 1, none⟩ (.string s) := ⟨_, rfl⟩
  rw [← hW8] at H8
  clear H7
  go_wp2_with fail
  rw [← hW8]
  have hc9 := bu64G H8.out.1
  rw [H4'.out.1, H4'.out.2.1, H4'.out.2.2] at hc9
  refine hc9.mono ?_
  rintro e Wb ⟨rfl, hb7, hk7⟩
  have H7 : Hid (Bg W0 Wb c r ao' cap' l a4 e4 ∧ Wb.heap[ge]? = some (.cells #[.int .u32 (V : Int), .string s, .bool true, .int .u64 0] 42 (0, 0))) := ⟨hb7, H8.out.1.keep H8.out.2 (by decide) (by decide) hk7⟩
  clear H8 hb7 hk7 hc9 y1 f1 hW8 W8
  have y1 : Wb.cell? ⟨ge, 3, none⟩ = some (.int .u64 0) := by rw [blk_at H7.out.2]; rfl
  have f1 := blk_free H7.out.2 3
  have H8 : Hid (Bg W0 (Wb.setCell ⟨ge, 3, none⟩ (.int .u64 (At : Int))) c r ao' cap' l a4 e4 ∧ (Wb.setCell ⟨ge, 3, none⟩ (.int .u64 (At : Int))).heap[ge]? = some (.cells #[.int .u32 (V : Int), .string s, .bool true, .int .u64 (At : Int)] 42 (0, 0))) := ⟨H7.out.1.put H7.out.2 (by decide) (by decide) (by decide) HG.out 3 _, put_boxX H7.out.2 3 _ (by simp)⟩
  obtain ⟨W8, hW8⟩ : ∃ W8, W8 = Wb.setCell ⟨ge, 3, none⟩ (.int .u64 (At : Int)) := ⟨_, rfl⟩
  rw [← hW8] at H8
  have k0 : (Wb.setCell ⟨ge, 3, none⟩ (.int .u64 (At : Int))).cell? ⟨ge, 0, none⟩ = some (.int .u32 (V : Int)) := by rw [← hW8, blk_at H8.out.2]; rfl
  have k1 : (Wb.setCell ⟨ge, 3, none⟩ (.int .u64 (At : Int))).cell? ⟨ge, 1, none⟩ = some (.string s) := by rw [← hW8, blk_at H8.out.2]; rfl
  have k2 : (Wb.setCell ⟨ge, 3, none⟩ (.int .u64 (At : Int))).cell? ⟨ge, 2, none⟩ = some (.bool true) := by rw [← hW8, blk_at H8.out.2]; rfl
  have k3 : (Wb.setCell ⟨ge, 3, none⟩ (.int .u64 (At : Int))).cell? ⟨ge, 3, none⟩ = some (.int .u64 (At : Int)) := by rw [← hW8, blk_at H8.out.2]; rfl
  clear H7
  go_wp2_with fail
  rw [← hW8]
  refine (wholeE_no V s true At 81 (by decide) H8.out.1 HFn.out).mono ?_
  rintro e W9 ⟨rfl, hb9, hk9⟩
  have HY : Hid (Below w.heap.size w W9 ∧ W9.heap[w.heap.size]? = some (.cells #[.int .u32 0, .string ⟨#[]⟩, .bool false, .int .u64 0] 42 (0, 0))) := ⟨HX.out.bel.trans (hb9.mono HX.out.bel.size), by rw [hb9.block _ (by have := HX.out.size; omega)]; exact HX.out.a⟩
  have za0 : W9.cell? ⟨w.heap.size, 0, none⟩ = some (.int .u32 0) := by rw [blk_at HY.out.2]; rfl
  have ya0 : W9.frozen? ⟨w.heap.size, 0, none⟩ = false := blk_free HY.out.2 0
  have za1 : W9.cell? ⟨w.heap.size, 1, none⟩ = some (.string ⟨#[]⟩) := by rw [blk_at HY.out.2]; rfl
  have ya1 : W9.frozen? ⟨w.heap.size, 1, none⟩ = false := blk_free HY.out.2 1
  have za2 : W9.cell? ⟨w.heap.size, 2, none⟩ = some (.bool false) := by rw [blk_at HY.out.2]; rfl
  have ya2 : W9.frozen? ⟨w.heap.size, 2, none⟩ = false := blk_free HY.out.2 2
  have za3 : W9.cell? ⟨w.heap.size, 3, none⟩ = some (.int .u64 0) := by rw [blk_at HY.out.2]; rfl
  have ya3 : W9.frozen? ⟨w.heap.size, 3, none⟩ = false := blk_free HY.out.2 3
  have hs0 : w.heap.size < W0.heap.size := by have := HX.out.size; omega
  clear hb9 hk9 H8 k0 k1 k2 k3 y1 f1 hW8
  go_wp2
  obtain ⟨hp, hq⟩ := putc4 HY.out.2 (.int .u32 0) (.string ⟨#[]⟩) (.bool false) (.int .u64 0)
  exact bodyPost_ret (results_cell_tmp1 rfl _ _ w.heap.size 42 _ (0, 0) _ rfl hp Tryd.underlying42 rfl infoE) rfl ⟨rfl, HY.out.1.trans (hq.below HY.out.1.size (fun g hg => by omega))⟩
end Go.Proofs.YtjikibhhhchgeaaDoor

namespace Go.Proofs.YtjikibhhhchgeaaDoor
open Go.RowKit
set_option linter.unusedVariables false
set_option linter.unusedSimpArgs false
set_option maxRecDepth 100000
set_option maxHeartbeats 4000000 in
theorem unpackAsk_new (ao : Option Addr) (cap N : Nat) (l : List Nat) (w : World) (h : BRow w ao cap l) (hN : l.length = N) (hT : Tabs w) (hfin : uFin l = 0) :
    Calls Tryd.prog 14 #[.slice ao N cap] w fun e w' => ∃ ia ic, e = .returned (.tuple #[.agg #[.string (tvS l 0), .slice ia (uCnt l) ic], .int .i64 0]) ∧ (∀ ad, ia = some ad → w.heap.size ≤ ad.block) ∧ U16s w' ia (uVal l) ∧ Below w.heap.size w w' := by
  obtain ⟨i0, hi, hz0, hz1, hz2⟩ := info_parts infoEu
  have HUp : Hid (∀ W, Below w.heap.size w W → Calls Tryd.prog 52 #[.slice ao N cap] W fun e w' => ∃ c r ao' cap', e = .returned (.pointer (some ⟨c, 0, none⟩)) ∧ Bg W w' c r ao' cap' l 0 0) := fun W hb => unpackG ao cap N l W (h.later hb) hN
  have HFn : Hid _ := hfin
  unfold uFin at HFn
  have HT : Hid (Tabs w) := hT
  have HLt : Hid (∀ x ∈ l, x < 256) := h.lt
  clear h hN hfin hT
  unfold uVal uCnt
  obtain ⟨s, hs⟩ : ∃ V, tvS l 0 = V := ⟨_, rfl⟩
  obtain ⟨a1, ha1⟩ : ∃ a1, taA l 0 = a1 := ⟨_, rfl⟩
  obtain ⟨e1, he1⟩ : ∃ e1, ndE (okT l 0) 0 = e1 := ⟨_, rfl⟩
  rw [ha1, he1] at HFn
  rw [ha1, hs, he1]
  obtain ⟨n, hn⟩ : ∃ n, rvV l a1 2 = n := ⟨_, rfl⟩
  obtain ⟨a2, ha2⟩ : ∃ a2, raA l a1 2 = a2 := ⟨_, rfl⟩
  obtain ⟨e2, he2⟩ : ∃ e2, ndE (okR l a1 2) e1 = e2 := ⟨_, rfl⟩
  rw [hn, ha2, he2] at HFn ⊢
  have hn16 : n < 65536 := by rw [← hn]; exact rvV_lt2 _ _ _ _ HLt.out (by decide) (by decide)
  obtain ⟨m, hm⟩ : ∃ m, cnV n 64 e2 = m := ⟨_, rfl⟩
  obtain ⟨e3, he3⟩ : ∃ e3, cnE n 64 e2 = e3 := ⟨_, rfl⟩
  rw [hm, he3] at HFn
  rw [hm]
  have hm64 : m ≤ 64 := by rw [← hm]; exact cnV_leu _ _ _
  have HV : Hid (tvS l 0 = s ∧ taA l 0 = a1 ∧ ndE (okT l 0) 0 = e1) := ⟨hs, ha1, he1⟩
  have HV2 : Hid (rvV l a1 2 = n ∧ raA l a1 2 = a2 ∧ ndE (okR l a1 2) e1 = e2) := ⟨hn, ha2, he2⟩
  have HV3 : Hid (cnV n 64 e2 = m ∧ cnE n 64 e2 = e3) := ⟨hm, he3⟩
  have hwn : IntKind.u32.wrap (n : Int) = (n : Int) := by rw [IntKind.wrap_u32]; omega
  clear hs ha1 he1 hn ha2 he2 hm he3
  go_enter Tryd.func14, Tryd.ntmps14
  go_wp2_with fail
  have hx := mkb1 w #[.string ⟨#[]⟩, .slice none 0 0] 30
  generalize w.alloc (Obj.cells #[.string ⟨#[]⟩, .slice none 0 0] 30) = W0 at *
  refine (HUp.out _ hx.bel).mono ?_
  rintro e W1 ⟨c, r, ao', cap', rfl, hbd⟩
  have HX : Hid (Bx1 w W0 #[.string ⟨#[]⟩, .slice none 0 0] 30) := hx
  have HT0 : Hid (Tabs W0) := HT.out.later hx.bel
  have H1 : Hid (Bg W0 W1 c r ao' cap' l 0 0) := hbd
  clear hx hbd HUp HT
  go_wp2_with fail
  have hc1 := btextG H1.out (HT0.out.later H1.out.bel)
  rw [HV.out.1, HV.out.2.1, HV.out.2.2] at hc1
  refine hc1.mono ?_
  rintro e W2 ⟨rfl, hbd, _⟩
  have H2 : Hid (Bg W0 W2 c r ao' cap' l a1 e1) := hbd
  clear hbd H1 hc1
  go_wp2_with fail
  have hU : Ug W0 (W2.alloc (Obj.cells #[.string s, .slice none 0 0] 30)) c r ao' cap' l a1 e1 W2.heap.size (.string s) 30 (.slice none 0 0) 22 1 0 [] := ⟨H2.out.later (below1 W2 _), heap_new W2 _, World.ownsRow_nil _ _ _ _, H2.out.bel.size, by decide⟩
  generalize W2.alloc (Obj.cells #[.string s, .slice none 0 0] 30) = W3 at *
  generalize W2.heap.size = ge at *
  have HU3 : Hid _ := hU
  clear hU H2
  have hc2 := bu16G HU3.out.bd
  rw [HV2.out.1, HV2.out.2.1, HV2.out.2.2] at hc2
  refine hc2.mono ?_
  rintro e W4 ⟨rfl, hbd, hk4⟩
  have HU4 : Hid (Ug W0 W4 c r ao' cap' l a2 e2 ge (.string s) 30 (.slice none 0 0) 22 1 0 []) := HU3.out.keep hbd hk4
  clear hbd hk4 HU3 hc2
  go_wp2_with fail
  have hc3 := countG n 64 (by omega) (by decide) HU4.out.bd
  rw [HV3.out.1, HV3.out.2] at hc3
  refine hc3.mono ?_
  rintro e W5 ⟨rfl, hbd, hk5⟩
  have HU5 : Hid (Ug W0 W5 c r ao' cap' l a2 e3 ge (.string s) 30 (.slice none 0 0) 22 1 0 []) := HU4.out.keep hbd hk5
  clear hbd hk5 HU4 hc3
  go_wp2_with fail
  go_loopw [16] (fun iv wr => ∃ (k : Nat) (vo : Option Addr) (vc : Nat), k ≤ m ∧ iv = .int .i64 (k : Nat) ∧ Hid (Ug W0 wr c r ao' cap' l (uA l a2 k) (uE l a2 e3 k) ge (.string s) 30 (.slice vo k vc) 22 1 k ((uV l a2 k).map (fun x : Nat => Value.int .u16 (x : Int))))) (fun iv _ => m - (intOf iv).toNat)
  case atStart => exact ⟨0, none, 0, Nat.zero_le _, rfl, HU5.out⟩
  case round =>
    obtain ⟨k, vo, vc, hk, rfl, HU⟩ := hrel
    by_cases hlt : k < m
    · have HN1 : Hid (∀ W, Below wr.heap.size wr W → Calls Tryd.prog 53 #[.pointer (some ⟨c, 0, none⟩)] W fun e W6 => e = .returned (.int .u16 ((rvV l (uA l a2 k) 2 : Nat) : Int)) ∧ W6.cell? ⟨ge, 1, none⟩ = some (.slice vo k vc) ∧ (∀ o, (W6.alloc o).cell? ⟨ge, 1, none⟩ = some (.slice vo k vc)) ∧ Hid (Ug W0 W6 c r ao' cap' l (uA l a2 (k + 1)) (uE l a2 e3 (k + 1)) ge (.string s) 30 (.slice vo k vc) 22 1 k ((uV l a2 k).map (fun x : Nat => Value.int .u16 (x : Int))))) := fun W hW => by
        have hU := HU.out.later hW
        refine (bu16G hU.bd).mono ?_
        rintro e W6 ⟨rfl, hb, hk6⟩
        have h6 := hU.keep hb hk6
        exact ⟨rfl, h6.c1, fun o => (h6.later (below1 W6 o)).c1, h6⟩
      have b5 : wr.cell? ⟨ge, 1, none⟩ = some (.slice vo k vc) := HU.out.c1
      have HB0 : Hid (Below wr.heap.size wr wr.drew) := below_drewN wr 1
      have HV9 : Hid ((uV l a2 (k + 1)).map (fun x : Nat => Value.int .u16 (x : Int)) = (uV l a2 k).map (fun x : Nat => Value.int .u16 (x : Int)) ++ [.int .u16 ((rvV l (uA l a2 k) 2 : Nat) : Int)]) := by show _ = _; simp [uV]
      obtain ⟨x, hx⟩ : ∃ x, rvV l (uA l a2 k) 2 = x := ⟨_, rfl⟩
      rw [hx] at HN1 HV9
      have K1 : Hid True := trivial
      clear hx
      go_wp2
      go_region_law (first | (go_simp; go_at_call 53; have hk1 := K1; clear hk1 K1; refine Calls.mono (HN1.out _ HB0.out) ?_; rintro e W7 ⟨rfl, m7, m7a, HU7⟩; dsimp only) | (refine step_append_lies _ (by rfl) _ _ 28 (by rfl) W0.heap.size 22 i0 (.int .u16 0) 1 2 Tryd.underlying28 hi hz0 hz1 hz2 rfl (by decide) (.slice vo k vc) k ((uV l a2 k).map (fun x : Nat => Value.int .u16 (x : Int))) (by rfl) HU7.out.rowA ⟨W7.heap.size, 0, none⟩ 1 1 [.int .u16 ((x : Nat) : Int)] (by rfl) rfl (World.news_of_block (heap_alloc_new W7 _)) (by simp [Value.oneCell']) (by decide) (by unfold maxLen; omega) (by omega) HU7.out.szA _ rfl ?_; intro g8 cp8 W8 ho8 hg8 _ _; have hgr := HU7.out.growB hg8; have z1 : W8.cell? ⟨ge, 1, none⟩ = some (.slice vo k vc) := (blk_at hgr 1).trans rfl; have zf : W8.frozen? ⟨ge, 1, none⟩ = false := blk_free hgr 1; have HU8 : Hid _ := HU7.out.grow ho8 hg8; clear ho8 hg8 hgr))
      all_goals go_wp2
      all_goals go_roundw
      all_goals first
        | exact ⟨k + 1, some ⟨g8, 0, none⟩, cp8, by omega, by go_num, by rw [HV9.out]; exact HU8.out⟩
        | (simp [intOf]; omega)
    · obtain rfl : k = m := by omega
      have y0 := HU.out.c0
      have y1 := HU.out.c1
      go_wp2_with fail
      refine (wholeR_ok s vo k vc HU.out.bd HFn.out).mono ?_
      rintro e W9 ⟨rfl, hb9, hk9⟩
      have HY : Hid (Below w.heap.size w W9 ∧ W9.heap[w.heap.size]? = some (.cells #[.string ⟨#[]⟩, .slice none 0 0] 30 (0, 0))) := ⟨HX.out.bel.trans (hb9.mono HX.out.bel.size), by rw [hb9.block _ (by have := HX.out.size; omega)]; exact HX.out.a⟩
      have HR9 : Hid (W9.ownsRow W0.heap.size 22 1 (.slice vo k vc) k ((uV l a2 k).map (fun x : Nat => Value.int .u16 (x : Int)))) := owns_sameU HU.out.row (fun g hg => hk9.block g (owns_typeU HU.out.row g hg).2.2 (fun e => HU.out.nr.2.2.2.1 (e ▸ hg)))
      have za0 : W9.cell? ⟨w.heap.size, 0, none⟩ = some (.string ⟨#[]⟩) := by rw [blk_at HY.out.2]; rfl
      have za1 : W9.cell? ⟨w.heap.size, 1, none⟩ = some (.slice none 0 0) := by rw [blk_at HY.out.2]; rfl
      have ya0 : W9.frozen? ⟨w.heap.size, 0, none⟩ = false := blk_free HY.out.2 0
      have ya1 : W9.frozen? ⟨w.heap.size, 1, none⟩ = false := blk_free HY.out.2 1
      clear hb9 hk9 y0 y1 HU HU5
      go_wp2
      obtain ⟨hp, hq⟩ := putc2 HY.out.2 (.string s) (.slice vo k vc)
      have hs0 : w.heap.size < W0.heap.size := by have := HX.out.size; omega
      refine bodyPost_ret (results_cell_tmp1 rfl _ _ w.heap.size 30 _ (0, 0) _ rfl hp Tryd.underlying30 rfl infoR) rfl ⟨vo, vc, rfl, ?fresh, ⟨uV_lt l HLt.out a2 k, fun hne => ?_⟩, HY.out.1.trans (hq.below HY.out.1.size (fun g hg => by omega))⟩
      case fresh => intro ad e; have h1 := (owns_typeU HR9.out ad.block (by rw [e]; rfl)).2.1; omega
      have h9 := owns_sameU HR9.out (fun g hg => hq.block g (owns_typeU HR9.out g hg).2.2 (by have h1 := (owns_typeU HR9.out g hg).2.1; omega))
      obtain ⟨g, cp, hv, hc⟩ := owns_at h9 (by simpa using hne)
      injection hv with h1 h2 h3
      subst h1
      refine ⟨g, 0, rfl, fun j hj => hc j _ ?_⟩
      rw [List.getElem?_map, List.getElem?_eq_getElem hj]; rfl
end Go.Proofs.YtjikibhhhchgeaaDoor

namespace Go.Proofs.YtjikibhhhchgeaaDoor
open Go.RowKit
set_option linter.unusedVariables false
set_option linter.unusedSimpArgs false
set_option maxRecDepth 100000
theorem below_step {w a : World} (h : Below w.heap.size w a) : Below w.heap.size w a.drew := h.trans ((below_drewN a 1).mono h.size)
set_option maxHeartbeats 1000000 in
theorem kinds16_eq (a b : Option Addr) (n ca cb : Nat) (ks : List Nat) (w : World) (ha : U16s w a ks) (hb : U16s w b ks) (hl : ks.length = n) (hn : n ≤ 1048576) :
    Calls Tryd.prog 15 #[.slice a n ca, .slice b n cb] w fun e w' => e = .returned (.bool true) ∧ Below w.heap.size w w' := by
  have HA : Hid (U16s w a ks) := ha
  have HB : Hid (U16s w b ks) := hb
  have HL : Hid (ks.length = n) := hl
  clear ha hb hl
  go_enter Tryd.func15, Tryd.ntmps15
  go_wp2_with fail
  go_loopw [5] (fun iv wr => ∃ (j : Nat), j ≤ n ∧ iv = .int .i64 (j : Nat) ∧ Hid (Below w.heap.size w wr)) (fun iv _ => n - (intOf iv).toNat)
  case atStart => exact ⟨0, Nat.zero_le _, rfl, Below.refl _ _⟩
  case round =>
    obtain ⟨j, hj, rfl, HB0⟩ := hrel
    by_cases hlt : j < n
    · have hne : ks ≠ [] := by rintro rfl; have := HL.out; simp at this; omega
      have hjl : j < ks.length := by rw [HL.out]; exact hlt
      obtain ⟨b1, o1, rfl, hr1⟩ := (HA.out.later HB0.out).at_ hne
      obtain ⟨b2, o2, rfl, hr2⟩ := (HB.out.later HB0.out).at_ hne
      have c1 := hr1 j hjl
      have c2 := hr2 j hjl
      generalize ks[j] = v at c1 c2
      clear hr1 hr2 hne hjl
      go_wp2
      go_region
      go_wp2
      go_roundw
      case rel => exact ⟨j + 1, by omega, by go_num, below_step HB0.out⟩
      case measure => simp [intOf]; omega
    · go_wp2
      go_ret
      exact ⟨rfl, HB0.out⟩
set_option maxHeartbeats 1000000 in
theorem texts_eq (a b : Option Addr) (n ca cb : Nat) (ks : List ByteArray) (w : World) (ha : Strs w a ks) (hb : Strs w b ks) (hl : ks.length = n) (hn : n ≤ 1048576) :
    Calls Tryd.prog 17 #[.slice a n ca, .slice b n cb] w fun e w' => e = .returned (.bool true) ∧ Below w.heap.size w w' := by
  have HA : Hid (Strs w a ks) := ha
  have HB : Hid (Strs w b ks) := hb
  have HL : Hid (ks.length = n) := hl
  clear ha hb hl
  go_enter Tryd.func17, Tryd.ntmps17
  go_wp2_with fail
  go_loopw [5] (fun iv wr => ∃ (j : Nat), j ≤ n ∧ iv = .int .i64 (j : Nat) ∧ Hid (Below w.heap.size w wr)) (fun iv _ => n - (intOf iv).toNat)
  case atStart => exact ⟨0, Nat.zero_le _, rfl, Below.refl _ _⟩
  case round =>
    obtain ⟨j, hj, rfl, HB0⟩ := hrel
    by_cases hlt : j < n
    · have hne : ks ≠ [] := by rintro rfl; have := HL.out; simp at this; omega
      have hjl : j < ks.length := by rw [HL.out]; exact hlt
      obtain ⟨b1, o1, rfl, hr1⟩ := (HA.out.later HB0.out).at_ hne
      obtain ⟨b2, o2, rfl, hr2⟩ := (HB.out.later HB0.out).at_ hne
      have c1 := hr1 j hjl
      have c2 := hr2 j hjl
      generalize ks[j] = v at c1 c2
      clear hr1 hr2 hne hjl
      go_wp2
      go_region
      go_wp2
      go_roundw
      case rel => exact ⟨j + 1, by omega, by go_num, below_step HB0.out⟩
      case measure => simp [intOf]; omega
    · go_wp2
      go_ret
      exact ⟨rfl, HB0.out⟩
set_option maxHeartbeats 1000000 in
theorem runs_eq (a b : Option Addr) (n ca cb : Nat) (ks : List (Nat × Nat)) (w : World) (ha : Runs w a ks) (hb : Runs w b ks) (hl : ks.length = n) (hn : n ≤ 1048576) :
    Calls Tryd.prog 21 #[.slice a n ca, .slice b n cb] w fun e w' => e = .returned (.bool true) ∧ Below w.heap.size w w' := by
  have HA : Hid (Runs w a ks) := ha
  have HB : Hid (Runs w b ks) := hb
  have HL : Hid (ks.length = n) := hl
  clear ha hb hl
  go_enter Tryd.func21, Tryd.ntmps21
  go_wp2_with fail
  go_loopw [5] (fun iv wr => ∃ (j : Nat), j ≤ n ∧ iv = .int .i64 (j : Nat) ∧ Hid (Below w.heap.size w wr)) (fun iv _ => n - (intOf iv).toNat)
  case atStart => exact ⟨0, Nat.zero_le _, rfl, Below.refl _ _⟩
  case round =>
    obtain ⟨j, hj, rfl, HB0⟩ := hrel
    by_cases hlt : j < n
    · have hne : ks ≠ [] := by rintro rfl; have := HL.out; simp at this; omega
      have hjl : j < ks.length := by rw [HL.out]; exact hlt
      obtain ⟨b1, o1, rfl, hr1⟩ := (HA.out.later HB0.out).at_ hne
      obtain ⟨b2, o2, rfl, hr2⟩ := (HB.out.later HB0.out).at_ hne
      obtain ⟨c1, d1⟩ := hr1 j hjl
      obtain ⟨c2, d2⟩ := hr2 j hjl
      generalize ks[j] = v at c1 c2 d1 d2
      clear hr1 hr2 hne hjl
      go_wp2
      go_region
      go_wp2
      go_roundw
      case rel => exact ⟨j + 1, by omega, by go_num, below_step HB0.out⟩
      case measure => simp [intOf]; omega
    · go_wp2
      go_ret
      exact ⟨rfl, HB0.out⟩
set_option maxHeartbeats 1000000 in
theorem narrow_any (a : Option Addr) (n ca : Nat) (ks : List (Nat × Nat)) (w : World) (ha : Runs w a ks) (hl : ks.length = n) (hn : n ≤ 1048576) :
    Calls Tryd.prog 25 #[.slice a n ca] w fun e w' => e = .returned (.bool (fitA false ks)) ∧ w' = w := by
  have HA : Hid (Runs w a ks) := ha
  have HL : Hid (ks.length = n) := hl
  clear ha hl
  go_enter Tryd.func25, Tryd.ntmps25
  go_wp2_with fail
  have HF : Hid (∀ j (hj : j < ks.length), fitA false (ks.take j) = true → fit1 false ks[j] = true → fitA false (ks.take (j + 1)) = true) := fun j hj h1 h2 => fitA_take h1 hj h2
  have HFb : Hid (∀ j (hj : j < ks.length), fit1 false ks[j] = false → fitA false ks = false) := fun j hj h => fitA_bad hj h
  go_loopw [3] (fun iv wr => ∃ (j : Nat), j ≤ n ∧ iv = .int .i64 (j : Nat) ∧ Hid (fitA false (ks.take j) = true ∧ wr = w)) (fun iv _ => n - (intOf iv).toNat)
  case atStart => exact ⟨0, Nat.zero_le _, rfl, by simp [fitA], rfl⟩
  case round =>
    obtain ⟨j, hj, rfl, HJ⟩ := hrel
    obtain rfl : wr = w := HJ.out.2
    by_cases hlt : j < n
    · have hne : ks ≠ [] := by rintro rfl; have := HL.out; simp at this; omega
      have hjl : j < ks.length := by rw [HL.out]; exact hlt
      obtain ⟨b1, o1, rfl, hr1⟩ := HA.out.at_ hne
      obtain ⟨c1, d1⟩ := hr1 j hjl
      have HS1 : Hid _ := HF.out j hjl HJ.out.1
      have HS2 : Hid _ := HFb.out j hjl
      have hlt2 := HA.out.lt _ (List.getElem_mem hjl)
      generalize ks[j] = v at c1 d1 HS1 HS2 hlt2
      obtain ⟨x, y⟩ := v
      simp only [fit1, Bool.false_or] at HS1 HS2 c1 d1 hlt2
      clear hr1 hne hjl
      by_cases hx : x ≤ 4294967295
      · have fx : (x : Int) / 4294967296 = 0 := by omega
        by_cases hy : y ≤ 4294967295
        · have fy : (y : Int) / 4294967296 = 0 := by omega
          have HS3 : Hid (fitA false (ks.take (j + 1)) = true) := HS1.out (by simp [hx, hy])
          go_wp2
          go_roundw
          case rel => exact ⟨j + 1, by omega, by go_num, HS3.out, trivial⟩
          case measure => simp [intOf]; omega
        · have fy : ¬ ((y : Int) / 4294967296 = 0) := by omega
          have HS3 : Hid (fitA false ks = false) := HS2.out (by simp [hx, hy])
          go_wp2
          go_ret
          exact ⟨by rw [HS3.out]; rfl, rfl⟩
      · have fx : ¬ ((x : Int) / 4294967296 = 0) := by omega
        have HS3 : Hid (fitA false ks = false) := HS2.out (by simp [hx])
        go_wp2
        go_ret
        exact ⟨by rw [HS3.out]; rfl, rfl⟩
    · have e9 : ks.take j = ks := List.take_of_length_le (by rw [HL.out]; omega)
      have h9 := HJ.out.1
      rw [e9] at h9
      go_wp2
      go_ret
      exact ⟨rfl, rfl⟩
end Go.Proofs.YtjikibhhhchgeaaDoor
