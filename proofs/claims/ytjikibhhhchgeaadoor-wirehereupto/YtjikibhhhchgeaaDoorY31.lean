import Derived.Test.YtjikibhhhchgeaaDoorY15
import Derived.Test.YtjikibhhhchgeaaDoorY19
import Derived.Test.YtjikibhhhchgeaaDoorY20
import Derived.Test.YtjikibhhhchgeaaDoorY12
import Derived.Test.YtjikibhhhchgeaaDoorY16
namespace Go.Proofs.YtjikibhhhchgeaaDoor
open Go.RowKit
set_option linter.unusedVariables false
set_option linter.unusedSimpArgs false
set_option maxRecDepth 100000
/-- how UnpackServer ends -/
def svE (l : List Nat) : Nat := ndE (decide (raA l (taA l 0) (l.length - taA l 0) = l.length)) (ndE (okR l (taA l 0) (l.length - taA l 0)) (ndE (okT l 0) 0))
theorem svE_or (l : List Nat) : svE l = 0 ∨ svE l = 81 := ndE_01 _ (ndE_01 _ (ndE_01 _ (.inl rfl)))
set_option maxHeartbeats 4000000 in
theorem unpackServer_ok (ao : Option Addr) (cap N : Nat) (l : List Nat) (w : World) (h : BRow w ao cap l) (hN : l.length = N) (hT : Tabs w) (hfin : svE l = 0) :
    Calls Tryd.prog 19 #[.slice ao N cap] w fun e w' => ∃ da dc n, e = .returned (.tuple #[.agg #[.string (tvS l 0), .slice da n dc], .int .i64 0]) ∧ (rrL l (taA l 0) (l.length - taA l 0)).length = n ∧ Row w w' da dc (rrL l (taA l 0) (l.length - taA l 0)) := by
  have HUp : Hid (∀ W, Below w.heap.size w W → Calls Tryd.prog 52 #[.slice ao N cap] W fun e w' => ∃ c r ao' cap', e = .returned (.pointer (some ⟨c, 0, none⟩)) ∧ Bg W w' c r ao' cap' l 0 0) := fun W hb => unpackG ao cap N l W (h.later hb) hN
  have HFn : Hid (ndE (decide (raA l (taA l 0) (l.length - taA l 0) = l.length)) (ndE (okR l (taA l 0) (l.length - taA l 0)) (ndE (okT l 0) 0)) = 0) := hfin
  have HT : Hid (Tabs w) := hT
  have HLs : Hid (∀ x ∈ rrL l (taA l 0) (l.length - taA l 0), x < 256) := fun x hx => by
    unfold rrL at hx; split at hx
    · exact h.lt x (List.mem_of_mem_drop (List.mem_of_mem_take hx))
    · simp at hx
  clear h hN hfin hT
  obtain ⟨s, hV⟩ : ∃ V, tvS l 0 = V := ⟨_, rfl⟩
  obtain ⟨a1, ha1⟩ : ∃ a1, taA l 0 = a1 := ⟨_, rfl⟩
  obtain ⟨e1, he1⟩ : ∃ e1, ndE (okT l 0) 0 = e1 := ⟨_, rfl⟩
  rw [ha1, he1] at HFn
  rw [ha1] at HLs
  rw [ha1, hV]
  obtain ⟨nn, hnn⟩ : ∃ nn, l.length - a1 = nn := ⟨_, rfl⟩
  rw [hnn] at HFn HLs ⊢
  obtain ⟨L, hL⟩ : ∃ L, rrL l a1 nn = L := ⟨_, rfl⟩
  rw [hL] at HLs ⊢
  obtain ⟨a2, ha2⟩ : ∃ a2, raA l a1 nn = a2 := ⟨_, rfl⟩
  obtain ⟨e3, he3⟩ : ∃ e2, ndE (okR l a1 nn) e1 = e2 := ⟨_, rfl⟩
  rw [ha2, he3] at HFn
  have HV : Hid (tvS l 0 = s ∧ taA l 0 = a1 ∧ ndE (okT l 0) 0 = e1) := ⟨hV, ha1, he1⟩
  have HNN : Hid (l.length - a1 = nn) := hnn
  have HV2 : Hid (rrL l a1 nn = L ∧ raA l a1 nn = a2 ∧ ndE (okR l a1 nn) e1 = e3) := ⟨hL, ha2, he3⟩
  clear hV ha1 he1 hL ha2 he3 hnn
  go_enter Tryd.func19, Tryd.ntmps19
  go_wp2_with fail
  have hx := mkb1 w #[.string ⟨#[]⟩, .slice none 0 0] 37
  generalize w.alloc (Obj.cells #[.string ⟨#[]⟩, .slice none 0 0] 37) = W0 at *
  refine (HUp.out _ hx.bel).mono ?_
  rintro e W1 ⟨c, r, ao', cap', rfl, hbd⟩
  have HX : Hid (Bx1 w W0 #[.string ⟨#[]⟩, .slice none 0 0] 37) := hx
  have HT1 : Hid (Tabs W1) := (HT.out.later hx.bel).later hbd.bel
  have H1 : Hid (Bg W0 W1 c r ao' cap' l 0 0) := hbd
  clear hx hbd HUp HT
  go_wp2_with fail
  have hc1 := btextG H1.out HT1.out
  rw [HV.out.1, HV.out.2.1, HV.out.2.2] at hc1
  refine hc1.mono ?_
  rintro e W2 ⟨rfl, hbd, _⟩
  have H2 : Hid (Bg W0 W2 c r ao' cap' l a1 e1) := hbd
  clear hbd H1 hc1 HT1
  go_wp2_with fail
  have h3 : Bg W0 (W2.alloc (Obj.cells #[.string s, .slice none 0 0] 37)) c r ao' cap' l a1 e1 := H2.out.later (below1 W2 _)
  have eb3 := heap_new W2 (Obj.cells #[.string s, .slice none 0 0] 37)
  have HG : Hid (W0.heap.size ≤ W2.heap.size) := H2.out.bel.size
  generalize W2.alloc (Obj.cells #[.string s, .slice none 0 0] 37) = W3 at *
  generalize W2.heap.size = ge at *
  refine (bleftG h3 HNN.out).mono ?_
  rintro e W6 ⟨rfl, q, hw⟩
  have h4 : Bg W0 W6 c r ao' cap' l a1 e1 ∧ W6.heap[ge]? = some (.cells #[.string s, .slice none 0 0] 37 (0, 0)) := by rw [hw]; exact ⟨h3.later (below_drewN _ q), eb3⟩
  have H6 : Hid _ := h4
  clear h3 eb3 hw H2 h4
  go_wp2_with fail
  have hc7 := brawG nn H6.out.1
  rw [HV2.out.1, HV2.out.2.1, HV2.out.2.2] at hc7
  refine hc7.mono ?_
  rintro e W7 ⟨n7, a7, c7, rfl, hn7, ho7, hb7, hk7⟩
  have eb7 := H6.out.1.keep H6.out.2 (by decide) (by decide) hk7
  have hg6 : ge < W6.heap.size := block_lt H6.out.2
  have hs6 : W0.heap.size ≤ W6.heap.size := H6.out.1.bel.size
  clear hc7
  have HN7 : Hid (n7 = L.length) := hn7
  have HLt : Hid (c < W6.heap.size ∧ r < W6.heap.size) := ⟨block_lt H6.out.1.bd, block_lt H6.out.1.rd.blk⟩
  have HG6 : Hid (ge < W6.heap.size ∧ W0.heap.size ≤ W6.heap.size) := ⟨hg6, hs6⟩
  have H7 : Hid (Bg W0 W7 c r ao' cap' l a2 e3 ∧ W7.heap[ge]? = some (.cells #[.string s, .slice none 0 0] 37 (0, 0)) ∧ W7.ownsRow W6.heap.size 5 1 (.slice a7 n7 c7) n7 (L.map bv)) := ⟨hb7, eb7, ho7⟩
  clear H6 hb7 hk7 ho7 eb7 hn7 hg6 hs6
  have y1 : W7.cell? ⟨ge, 1, none⟩ = some (.slice none 0 0) := by rw [blk_at H7.out.2.1]; rfl
  have f1 := blk_free H7.out.2.1 1
  have H8 : Hid (Bg W0 (W7.setCell ⟨ge, 1, none⟩ (.slice a7 n7 c7)) c r ao' cap' l a2 e3 ∧ (W7.setCell ⟨ge, 1, none⟩ (.slice a7 n7 c7)).heap[ge]? = some (.cells #[.string s, .slice a7 n7 c7] 37 (0, 0)) ∧ (W7.setCell ⟨ge, 1, none⟩ (.slice a7 n7 c7)).ownsRow W6.heap.size 5 1 (.slice a7 n7 c7) n7 (L.map bv)) := ⟨H7.out.1.put H7.out.2.1 (by decide) (by decide) (by decide) HG.out 1 _, put_boxX H7.out.2.1 1 _ (by simp), owns_same H7.out.2.2 (fun g hg => (keptIn_set W7 ge 1 _).block g (owns_lt H7.out.2.2 g hg).1 (by have h1 := (owns_lt H7.out.2.2 g hg).2; have h2 := HG6.out.1; omega))⟩
  obtain ⟨W8, hW8⟩ : ∃ W8, W8 = W7.setCell ⟨ge, 1, none⟩ (.slice a7 n7 c7) := ⟨_, rfl⟩
  rw [← hW8] at H8
  have k0 : (W7.setCell ⟨ge, 1, none⟩ (.slice a7 n7 c7)).cell? ⟨ge, 0, none⟩ = some (.string s) := by rw [← hW8, blk_at H8.out.2.1]; rfl
  have k1 : (W7.setCell ⟨ge, 1, none⟩ (.slice a7 n7 c7)).cell? ⟨ge, 1, none⟩ = some (.slice a7 n7 c7) := by rw [← hW8, blk_at H8.out.2.1]; rfl
  clear H7
  go_wp2_with fail
  rw [← hW8]
  refine (wholeS_ok s a7 n7 c7 H8.out.1 HFn.out).mono ?_
  rintro e W9 ⟨rfl, hb9, hk9⟩
  have HY : Hid (Below w.heap.size w W9 ∧ W9.heap[w.heap.size]? = some (.cells #[.string ⟨#[]⟩, .slice none 0 0] 37 (0, 0))) := ⟨HX.out.bel.trans (hb9.mono HX.out.bel.size), by rw [hb9.block _ (by have := HX.out.size; omega)]; exact HX.out.a⟩
  have HR9 : Hid (W9.ownsRow W6.heap.size 5 1 (.slice a7 n7 c7) n7 (L.map bv)) := owns_same H8.out.2.2 (fun g hg => hk9.block g (owns_lt H8.out.2.2 g hg).1 (fun e => by have h1 := (owns_lt H8.out.2.2 g hg).2; have h2 := HLt.out.1; omega))
  have za0 : W9.cell? ⟨w.heap.size, 0, none⟩ = some (.string ⟨#[]⟩) := by rw [blk_at HY.out.2]; rfl
  have za1 : W9.cell? ⟨w.heap.size, 1, none⟩ = some (.slice none 0 0) := by rw [blk_at HY.out.2]; rfl
  have ya0 : W9.frozen? ⟨w.heap.size, 0, none⟩ = false := blk_free HY.out.2 0
  have ya1 : W9.frozen? ⟨w.heap.size, 1, none⟩ = false := blk_free HY.out.2 1
  clear hb9 hk9 H8 k0 k1 y1 f1 hW8
  go_wp2
  obtain ⟨hp, hq⟩ := putc2 HY.out.2 (.string s) (.slice a7 n7 c7)
  have hs0 : w.heap.size < W0.heap.size := by have := HX.out.size; omega
  refine bodyPost_ret (results_cell_tmp1 rfl _ _ w.heap.size 37 _ (0, 0) _ rfl hp Tryd.underlying37 rfl infoS) rfl ⟨a7, c7, n7, rfl, HN7.out.symm, ⟨?_, HLs.out, HY.out.1.trans (hq.below HY.out.1.size (fun g hg => by omega))⟩⟩
  have h9 := owns_mono (owns_same HR9.out (fun g hg => hq.block g (owns_lt HR9.out g hg).1 (by have h1 := (owns_lt HR9.out g hg).2; have h2 := HG6.out.2; omega))) (show w.heap.size ≤ W6.heap.size by have := HG6.out.2; omega)
  rw [← HN7.out]; exact h9
set_option maxHeartbeats 4000000 in
theorem unpackServer_no (ao : Option Addr) (cap N : Nat) (l : List Nat) (w : World) (h : BRow w ao cap l) (hN : l.length = N) (hT : Tabs w) (hfin : svE l = 81) :
    Calls Tryd.prog 19 #[.slice ao N cap] w fun e w' => e = .returned (.tuple #[.agg #[.string ⟨#[]⟩, .slice none 0 0], .int .i64 81]) ∧ Below w.heap.size w w' := by
  have HUp : Hid (∀ W, Below w.heap.size w W → Calls Tryd.prog 52 #[.slice ao N cap] W fun e w' => ∃ c r ao' cap', e = .returned (.pointer (some ⟨c, 0, none⟩)) ∧ Bg W w' c r ao' cap' l 0 0) := fun W hb => unpackG ao cap N l W (h.later hb) hN
  have HFn : Hid (ndE (decide (raA l (taA l 0) (l.length - taA l 0) = l.length)) (ndE (okR l (taA l 0) (l.length - taA l 0)) (ndE (okT l 0) 0)) = 81) := hfin
  have HT : Hid (Tabs w) := hT
  have HLs : Hid (∀ x ∈ rrL l (taA l 0) (l.length - taA l 0), x < 256) := fun x hx => by
    unfold rrL at hx; split at hx
    · exact h.lt x (List.mem_of_mem_drop (List.mem_of_mem_take hx))
    · simp at hx
  clear h hN hfin hT
  obtain ⟨s, hV⟩ : ∃ V, tvS l 0 = V := ⟨_, rfl⟩
  obtain ⟨a1, ha1⟩ : ∃ a1, taA l 0 = a1 := ⟨_, rfl⟩
  obtain ⟨e1, he1⟩ : ∃ e1, ndE (okT l 0) 0 = e1 := ⟨_, rfl⟩
  rw [ha1, he1] at HFn
  rw [ha1] at HLs
  
  obtain ⟨nn, hnn⟩ : ∃ nn, l.length - a1 = nn := ⟨_, rfl⟩
  rw [hnn] at HFn HLs
  obtain ⟨L, hL⟩ : ∃ L, rrL l a1 nn = L := ⟨_, rfl⟩
  rw [hL] at HLs
  obtain ⟨a2, ha2⟩ : ∃ a2, raA l a1 nn = a2 := ⟨_, rfl⟩
  obtain ⟨e3, he3⟩ : ∃ e2, ndE (okR l a1 nn) e1 = e2 := ⟨_, rfl⟩
  rw [ha2, he3] at HFn
  have HV : Hid (tvS l 0 = s ∧ taA l 0 = a1 ∧ ndE (okT l 0) 0 = e1) := ⟨hV, ha1, he1⟩
  have HNN : Hid (l.length - a1 = nn) := hnn
  have HV2 : Hid (rrL l a1 nn = L ∧ raA l a1 nn = a2 ∧ ndE (okR l a1 nn) e1 = e3) := ⟨hL, ha2, he3⟩
  clear hV ha1 he1 hL ha2 he3 hnn
  go_enter Tryd.func19, Tryd.ntmps19
  go_wp2_with fail
  have hx := mkb1 w #[.string ⟨#[]⟩, .slice none 0 0] 37
  generalize w.alloc (Obj.cells #[.string ⟨#[]⟩, .slice none 0 0] 37) = W0 at *
  refine (HUp.out _ hx.bel).mono ?_
  rintro e W1 ⟨c, r, ao', cap', rfl, hbd⟩
  have HX : Hid (Bx1 w W0 #[.string ⟨#[]⟩, .slice none 0 0] 37) := hx
  have HT1 : Hid (Tabs W1) := (HT.out.later hx.bel).later hbd.bel
  have H1 : Hid (Bg W0 W1 c r ao' cap' l 0 0) := hbd
  clear hx hbd HUp HT
  go_wp2_with fail
  have hc1 := btextG H1.out HT1.out
  rw [HV.out.1, HV.out.2.1, HV.out.2.2] at hc1
  refine hc1.mono ?_
  rintro e W2 ⟨rfl, hbd, _⟩
  have H2 : Hid (Bg W0 W2 c r ao' cap' l a1 e1) := hbd
  clear hbd H1 hc1 HT1
  go_wp2_with fail
  have h3 : Bg W0 (W2.alloc (Obj.cells #[.string s, .slice none 0 0] 37)) c r ao' cap' l a1 e1 := H2.out.later (below1 W2 _)
  have eb3 := heap_new W2 (Obj.cells #[.string s, .slice none 0 0] 37)
  have HG : Hid (W0.heap.size ≤ W2.heap.size) := H2.out.bel.size
  generalize W2.alloc (Obj.cells #[.string s, .slice none 0 0] 37) = W3 at *
  generalize W2.heap.size = ge at *
  refine (bleftG h3 HNN.out).mono ?_
  rintro e W6 ⟨rfl, q, hw⟩
  have h4 : Bg W0 W6 c r ao' cap' l a1 e1 ∧ W6.heap[ge]? = some (.cells #[.string s, .slice none 0 0] 37 (0, 0)) := by rw [hw]; exact ⟨h3.later (below_drewN _ q), eb3⟩
  have H6 : Hid _ := h4
  clear h3 eb3 hw H2 h4
  go_wp2_with fail
  have hc7 := brawG nn H6.out.1
  rw [HV2.out.1, HV2.out.2.1, HV2.out.2.2] at hc7
  refine hc7.mono ?_
  rintro e W7 ⟨n7, a7, c7, rfl, hn7, ho7, hb7, hk7⟩
  have eb7 := H6.out.1.keep H6.out.2 (by decide) (by decide) hk7
  have hg6 : ge < W6.heap.size := block_lt H6.out.2
  have hs6 : W0.heap.size ≤ W6.heap.size := H6.out.1.bel.size
  clear hc7
  have HN7 : Hid (n7 = L.length) := hn7
  have HLt : Hid (c < W6.heap.size ∧ r < W6.heap.size) := ⟨block_lt H6.out.1.bd, block_lt H6.out.1.rd.blk⟩
  have HG6 : Hid (ge < W6.heap.size ∧ W0.heap.size ≤ W6.heap.size) := ⟨hg6, hs6⟩
  have H7 : Hid (Bg W0 W7 c r ao' cap' l a2 e3 ∧ W7.heap[ge]? = some (.cells #[.string s, .slice none 0 0] 37 (0, 0)) ∧ W7.ownsRow W6.heap.size 5 1 (.slice a7 n7 c7) n7 (L.map bv)) := ⟨hb7, eb7, ho7⟩
  clear H6 hb7 hk7 ho7 eb7 hn7 hg6 hs6
  have y1 : W7.cell? ⟨ge, 1, none⟩ = some (.slice none 0 0) := by rw [blk_at H7.out.2.1]; rfl
  have f1 := blk_free H7.out.2.1 1
  have H8 : Hid (Bg W0 (W7.setCell ⟨ge, 1, none⟩ (.slice a7 n7 c7)) c r ao' cap' l a2 e3 ∧ (W7.setCell ⟨ge, 1, none⟩ (.slice a7 n7 c7)).heap[ge]? = some (.cells #[.string s, .slice a7 n7 c7] 37 (0, 0)) ∧ (W7.setCell ⟨ge, 1, none⟩ (.slice a7 n7 c7)).ownsRow W6.heap.size 5 1 (.slice a7 n7 c7) n7 (L.map bv)) := ⟨H7.out.1.put H7.out.2.1 (by decide) (by decide) (by decide) HG.out 1 _, put_boxX H7.out.2.1 1 _ (by simp), owns_same H7.out.2.2 (fun g hg => (keptIn_set W7 ge 1 _).block g (owns_lt H7.out.2.2 g hg).1 (by have h1 := (owns_lt H7.out.2.2 g hg).2; have h2 := HG6.out.1; omega))⟩
  obtain ⟨W8, hW8⟩ : ∃ W8, W8 = W7.setCell ⟨ge, 1, none⟩ (.slice a7 n7 c7) := ⟨_, rfl⟩
  rw [← hW8] at H8
  have k0 : (W7.setCell ⟨ge, 1, none⟩ (.slice a7 n7 c7)).cell? ⟨ge, 0, none⟩ = some (.string s) := by rw [← hW8, blk_at H8.out.2.1]; rfl
  have k1 : (W7.setCell ⟨ge, 1, none⟩ (.slice a7 n7 c7)).cell? ⟨ge, 1, none⟩ = some (.slice a7 n7 c7) := by rw [← hW8, blk_at H8.out.2.1]; rfl
  clear H7
  go_wp2_with fail
  rw [← hW8]
  refine (wholeS_no s a7 n7 c7 81 (by decide) H8.out.1 HFn.out).mono ?_
  rintro e W9 ⟨rfl, hb9, hk9⟩
  have HY : Hid (Below w.heap.size w W9 ∧ W9.heap[w.heap.size]? = some (.cells #[.string ⟨#[]⟩, .slice none 0 0] 37 (0, 0))) := ⟨HX.out.bel.trans (hb9.mono HX.out.bel.size), by rw [hb9.block _ (by have := HX.out.size; omega)]; exact HX.out.a⟩
  have za0 : W9.cell? ⟨w.heap.size, 0, none⟩ = some (.string ⟨#[]⟩) := by rw [blk_at HY.out.2]; rfl
  have za1 : W9.cell? ⟨w.heap.size, 1, none⟩ = some (.slice none 0 0) := by rw [blk_at HY.out.2]; rfl
  have ya0 : W9.frozen? ⟨w.heap.size, 0, none⟩ = false := blk_free HY.out.2 0
  have ya1 : W9.frozen? ⟨w.heap.size, 1, none⟩ = false := blk_free HY.out.2 1
  clear hb9 hk9 H8 k0 k1 y1 f1 hW8
  go_wp2
  obtain ⟨hp, hq⟩ := putc2 HY.out.2 (.string ⟨#[]⟩) (.slice none 0 0)
  have hs0 : w.heap.size < W0.heap.size := by have := HX.out.size; omega
  exact bodyPost_ret (results_cell_tmp1 rfl _ _ w.heap.size 37 _ (0, 0) _ rfl hp Tryd.underlying37 rfl infoS) rfl ⟨rfl, HY.out.1.trans (hq.below HY.out.1.size (fun g hg => by omega))⟩
end Go.Proofs.YtjikibhhhchgeaaDoor

namespace Go.Proofs.YtjikibhhhchgeaaDoor
open Go.RowKit
set_option linter.unusedVariables false
set_option linter.unusedSimpArgs false
set_option maxRecDepth 100000
set_option maxHeartbeats 4000000 in
theorem unpackData_ok (ao : Option Addr) (cap N : Nat) (l : List Nat) (w : World) (h : BRow w ao cap l) (hN : l.length = N) (hl9 : 9 ≤ l.length) :
    Calls Tryd.prog 23 #[.slice ao N cap] w fun e w' => ∃ da dc n, e = .returned (.tuple #[.agg #[.int .u64 ((rvV l 0 8 : Nat) : Int), .slice da n dc], .int .i64 0]) ∧ (rrL l (raA l 0 8) (l.length - raA l 0 8)).length = n ∧ Row w w' da dc (rrL l (raA l 0 8) (l.length - raA l 0 8)) := by
  have HUp : Hid (∀ W, Below w.heap.size w W → Calls Tryd.prog 52 #[.slice ao N cap] W fun e w' => ∃ c r ao' cap', e = .returned (.pointer (some ⟨c, 0, none⟩)) ∧ Bg W w' c r ao' cap' l 0 0) := fun W hb => unpackG ao cap N l W (h.later hb) hN
  have HFn : Hid (ndE (decide (raA l (raA l 0 8) (l.length - raA l 0 8) = l.length)) (ndE (okR l (raA l 0 8) (l.length - raA l 0 8)) (ndE (decide (0 < l.length - raA l 0 8)) (ndE (okR l 0 8) 0))) = 0) := by
    show _ = _
    have e1 : okR l 0 8 = true := by simp [okR]; omega
    have e2 : raA l 0 8 = 8 := by simp [raA, e1]
    have e3 : okR l 8 (l.length - 8) = true := by simp [okR]; omega
    have e4 : raA l 8 (l.length - 8) = l.length := by simp [raA, e3]; omega
    have e5 : decide (0 < l.length - 8) = true := by simp; omega
    simp only [e2, e4, e3, e5, e1, decide_true, ndE_true]
  have HLs : Hid (∀ x ∈ rrL l (raA l 0 8) (l.length - raA l 0 8), x < 256) := fun x hx => by
    unfold rrL at hx; split at hx
    · exact h.lt x (List.mem_of_mem_drop (List.mem_of_mem_take hx))
    · simp at hx
  clear h hN hl9
  obtain ⟨V, hV⟩ : ∃ V, rvV l 0 8 = V := ⟨_, rfl⟩
  obtain ⟨a1, ha1⟩ : ∃ a1, raA l 0 8 = a1 := ⟨_, rfl⟩
  obtain ⟨e1, he1⟩ : ∃ e1, ndE (okR l 0 8) 0 = e1 := ⟨_, rfl⟩
  rw [ha1, he1] at HFn
  rw [ha1] at HLs ⊢
  rw [hV]
  obtain ⟨nn, hnn⟩ : ∃ nn, l.length - a1 = nn := ⟨_, rfl⟩
  rw [hnn] at HFn HLs ⊢
  obtain ⟨L, hL⟩ : ∃ L, rrL l a1 nn = L := ⟨_, rfl⟩
  rw [hL] at HLs ⊢
  have HV : Hid (rvV l 0 8 = V) := hV
  have HA1 : Hid (raA l 0 8 = a1) := ha1
  have HE1 : Hid (ndE (okR l 0 8) 0 = e1) := he1
  have HNN : Hid (l.length - a1 = nn) := hnn
  have HL : Hid (rrL l a1 nn = L) := hL
  clear hV ha1 he1 hnn hL
  go_enter Tryd.func23, Tryd.ntmps23
  go_wp2_with fail
  have hx := mkb1 w #[.int .u64 0, .slice none 0 0] 44
  generalize w.alloc (Obj.cells #[.int .u64 0, .slice none 0 0] 44) = W0 at *
  refine (HUp.out _ hx.bel).mono ?_
  rintro e W1 ⟨c, r, ao', cap', rfl, hbd⟩
  have HX : Hid (Bx1 w W0 #[.int .u64 0, .slice none 0 0] 44) := hx
  have H1 : Hid (Bg W0 W1 c r ao' cap' l 0 0) := hbd
  clear hx hbd HUp
  go_wp2_with fail
  have hc1 := bu64G H1.out
  rw [HV.out, HA1.out, HE1.out] at hc1
  refine hc1.mono ?_
  rintro e W2 ⟨rfl, hbd, _⟩
  have H2 : Hid (Bg W0 W2 c r ao' cap' l a1 e1) := hbd
  clear hbd H1 hc1
  go_wp2_with fail
  have h3 : Bg W0 (W2.alloc (Obj.cells #[.int .u64 (V : Int), .slice none 0 0] 44)) c r ao' cap' l a1 e1 := H2.out.later (below1 W2 _)
  have eb3 := heap_new W2 (Obj.cells #[.int .u64 (V : Int), .slice none 0 0] 44)
  have HG : Hid (W0.heap.size ≤ W2.heap.size) := H2.out.bel.size
  generalize W2.alloc (Obj.cells #[.int .u64 (V : Int), .slice none 0 0] 44) = W3 at *
  generalize W2.heap.size = ge at *
  refine (bleftG h3 HNN.out).mono ?_
  rintro e W4 ⟨rfl, q, hw⟩
  have h4 : Bg W0 W4 c r ao' cap' l a1 e1 ∧ W4.heap[ge]? = some (.cells #[.int .u64 (V : Int), .slice none 0 0] 44 (0, 0)) := by rw [hw]; exact ⟨h3.later (below_drewN _ q), eb3⟩
  have H4 : Hid _ := h4
  clear h3 eb3 hw H2 h4
  go_wp2_with fail
  refine (needG (decide (0 < nn)) H4.out.1).mono ?_
  rintro e W5 ⟨rfl, hb5, hk5⟩
  have eb5 := H4.out.1.keep H4.out.2 (by decide) (by decide) (two_of_c hk5)
  have H5 : Hid (Bg W0 W5 c r ao' cap' l a1 (ndE (decide (0 < nn)) e1) ∧ W5.heap[ge]? = some (.cells #[.int .u64 (V : Int), .slice none 0 0] 44 (0, 0))) := ⟨hb5, eb5⟩
  clear hb5 hk5 eb5 H4
  go_wp2_with fail
  refine (bleftG H5.out.1 HNN.out).mono ?_
  rintro e W6 ⟨rfl, q6, hw⟩
  have H6 : Hid (Bg W0 W6 c r ao' cap' l a1 (ndE (decide (0 < nn)) e1) ∧ W6.heap[ge]? = some (.cells #[.int .u64 (V : Int), .slice none 0 0] 44 (0, 0))) := by rw [hw]; exact ⟨H5.out.1.later (below_drewN _ q6), H5.out.2⟩
  clear hw H5
  go_wp2_with fail
  have hc7 := brawG nn H6.out.1
  rw [HL.out] at hc7
  refine hc7.mono ?_
  rintro e W7 ⟨n7, a7, c7, rfl, hn7, ho7, hb7, hk7⟩
  have eb7 := H6.out.1.keep H6.out.2 (by decide) (by decide) hk7
  have hg6 : ge < W6.heap.size := block_lt H6.out.2
  have hs6 : W0.heap.size ≤ W6.heap.size := H6.out.1.bel.size
  generalize raA l a1 nn = a2 at *
  generalize ndE (okR l a1 nn) (ndE (decide (0 < nn)) e1) = e3 at *
  clear hc7
  have HN7 : Hid (n7 = L.length) := hn7
  have HLt : Hid (c < W6.heap.size ∧ r < W6.heap.size) := ⟨block_lt H6.out.1.bd, block_lt H6.out.1.rd.blk⟩
  have HG6 : Hid (ge < W6.heap.size ∧ W0.heap.size ≤ W6.heap.size) := ⟨hg6, hs6⟩
  have H7 : Hid (Bg W0 W7 c r ao' cap' l a2 e3 ∧ W7.heap[ge]? = some (.cells #[.int .u64 (V : Int), .slice none 0 0] 44 (0, 0)) ∧ W7.ownsRow W6.heap.size 5 1 (.slice a7 n7 c7) n7 (L.map bv)) := ⟨hb7, eb7, ho7⟩
  clear H6 hb7 hk7 ho7 eb7 hn7 hg6 hs6
  have y1 : W7.cell? ⟨ge, 1, none⟩ = some (.slice none 0 0) := by rw [blk_at H7.out.2.1]; rfl
  have f1 := blk_free H7.out.2.1 1
  have H8 : Hid (Bg W0 (W7.setCell ⟨ge, 1, none⟩ (.slice a7 n7 c7)) c r ao' cap' l a2 e3 ∧ (W7.setCell ⟨ge, 1, none⟩ (.slice a7 n7 c7)).heap[ge]? = some (.cells #[.int .u64 (V : Int), .slice a7 n7 c7] 44 (0, 0)) ∧ (W7.setCell ⟨ge, 1, none⟩ (.slice a7 n7 c7)).ownsRow W6.heap.size 5 1 (.slice a7 n7 c7) n7 (L.map bv)) := ⟨H7.out.1.put H7.out.2.1 (by decide) (by decide) (by decide) HG.out 1 _, put_boxX H7.out.2.1 1 _ (by simp), owns_same H7.out.2.2 (fun g hg => (keptIn_set W7 ge 1 _).block g (owns_lt H7.out.2.2 g hg).1 (by have h1 := (owns_lt H7.out.2.2 g hg).2; have h2 := HG6.out.1; omega))⟩
  obtain ⟨W8, hW8⟩ : ∃ W8, W8 = W7.setCell ⟨ge, 1, none⟩ (.slice a7 n7 c7) := ⟨_, rfl⟩
  rw [← hW8] at H8
  have k0 : (W7.setCell ⟨ge, 1, none⟩ (.slice a7 n7 c7)).cell? ⟨ge, 0, none⟩ = some (.int .u64 (V : Int)) := by rw [← hW8, blk_at H8.out.2.1]; rfl
  have k1 : (W7.setCell ⟨ge, 1, none⟩ (.slice a7 n7 c7)).cell? ⟨ge, 1, none⟩ = some (.slice a7 n7 c7) := by rw [← hW8, blk_at H8.out.2.1]; rfl
  clear H7
  go_wp2_with fail
  rw [← hW8]
  refine (wholeD_ok V a7 n7 c7 H8.out.1 HFn.out).mono ?_
  rintro e W9 ⟨rfl, hb9, hk9⟩
  have HY : Hid (Below w.heap.size w W9 ∧ W9.heap[w.heap.size]? = some (.cells #[.int .u64 0, .slice none 0 0] 44 (0, 0))) := ⟨HX.out.bel.trans (hb9.mono HX.out.bel.size), by rw [hb9.block _ (by have := HX.out.size; omega)]; exact HX.out.a⟩
  have HR9 : Hid (W9.ownsRow W6.heap.size 5 1 (.slice a7 n7 c7) n7 (L.map bv)) := owns_same H8.out.2.2 (fun g hg => hk9.block g (owns_lt H8.out.2.2 g hg).1 (fun e => by have h1 := (owns_lt H8.out.2.2 g hg).2; have h2 := HLt.out.1; omega))
  have HL256 : Hid (∀ x ∈ L, x < 256) := HLs.out
  have za0 : W9.cell? ⟨w.heap.size, 0, none⟩ = some (.int .u64 0) := by rw [blk_at HY.out.2]; rfl
  have za1 : W9.cell? ⟨w.heap.size, 1, none⟩ = some (.slice none 0 0) := by rw [blk_at HY.out.2]; rfl
  have ya0 : W9.frozen? ⟨w.heap.size, 0, none⟩ = false := blk_free HY.out.2 0
  have ya1 : W9.frozen? ⟨w.heap.size, 1, none⟩ = false := blk_free HY.out.2 1
  clear hb9 hk9 H8 k0 k1 y1 f1 hW8
  go_wp2
  obtain ⟨hp, hq⟩ := putc2 HY.out.2 (.int .u64 (V : Int)) (.slice a7 n7 c7)
  have hs0 : w.heap.size < W0.heap.size := by have := HX.out.size; omega
  refine bodyPost_ret (results_cell_tmp1 rfl _ _ w.heap.size 44 _ (0, 0) _ rfl hp Tryd.underlying44 rfl infoD) rfl ⟨a7, c7, n7, rfl, HN7.out.symm, ⟨?_, HL256.out, HY.out.1.trans (hq.below HY.out.1.size (fun g hg => by omega))⟩⟩
  have h9 := owns_mono (owns_same HR9.out (fun g hg => hq.block g (owns_lt HR9.out g hg).1 (by have h1 := (owns_lt HR9.out g hg).2; have h2 := HG6.out.2; omega))) (show w.heap.size ≤ W6.heap.size by have := HG6.out.2; omega)
  rw [← HN7.out]; exact h9
set_option maxHeartbeats 4000000 in
theorem unpackData_no (ao : Option Addr) (cap N : Nat) (l : List Nat) (w : World) (h : BRow w ao cap l) (hN : l.length = N) (hl9 : l.length < 9) :
    Calls Tryd.prog 23 #[.slice ao N cap] w fun e w' => e = .returned (.tuple #[.agg #[.int .u64 0, .slice none 0 0], .int .i64 81]) ∧ Below w.heap.size w w' := by
  have HUp : Hid (∀ W, Below w.heap.size w W → Calls Tryd.prog 52 #[.slice ao N cap] W fun e w' => ∃ c r ao' cap', e = .returned (.pointer (some ⟨c, 0, none⟩)) ∧ Bg W w' c r ao' cap' l 0 0) := fun W hb => unpackG ao cap N l W (h.later hb) hN
  have hl9' : l.length < 9 := hl9
  have HFn : Hid (ndE (decide (raA l (raA l 0 8) (l.length - raA l 0 8) = l.length)) (ndE (okR l (raA l 0 8) (l.length - raA l 0 8)) (ndE (decide (0 < l.length - raA l 0 8)) (ndE (okR l 0 8) 0))) = 81) := by
    show _ = _
    cases h8 : okR l 0 8 with
    | false =>
      have e2 : raA l 0 8 = 0 := by simp [raA, h8]
      have e3 : okR l 0 (l.length - 0) = true := by simp [okR]
      have e3' : okR l 0 l.length = true := by simp [okR]
      have e4 : raA l 0 (l.length - 0) = l.length := by simp [raA, e3']
      simp only [e2, e4, e3, decide_true, ndE_true, ndE_false0]
      unfold ndE; split <;> simp
    | true =>
      have hl8 : l.length = 8 := by simp [okR] at h8; omega
      have e2 : raA l 0 8 = 8 := by simp [raA, h8]
      have e3 : okR l 8 (l.length - 8) = true := by simp [okR]; omega
      have e4 : raA l 8 (l.length - 8) = l.length := by simp [raA, e3]; omega
      have e5 : decide (0 < l.length - 8) = false := by simp; omega
      simp only [e2, e4, e3, e5, decide_true, ndE_true]
      rfl
  clear h hN hl9
  obtain ⟨V, hV⟩ : ∃ V, rvV l 0 8 = V := ⟨_, rfl⟩
  obtain ⟨a1, ha1⟩ : ∃ a1, raA l 0 8 = a1 := ⟨_, rfl⟩
  obtain ⟨e1, he1⟩ : ∃ e1, ndE (okR l 0 8) 0 = e1 := ⟨_, rfl⟩
  rw [ha1, he1] at HFn
  
  
  obtain ⟨nn, hnn⟩ : ∃ nn, l.length - a1 = nn := ⟨_, rfl⟩
  rw [hnn] at HFn
  obtain ⟨L, hL⟩ : ∃ L, rrL l a1 nn = L := ⟨_, rfl⟩
  
  have HV : Hid (rvV l 0 8 = V) := hV
  have HA1 : Hid (raA l 0 8 = a1) := ha1
  have HE1 : Hid (ndE (okR l 0 8) 0 = e1) := he1
  have HNN : Hid (l.length - a1 = nn) := hnn
  have HL : Hid (rrL l a1 nn = L) := hL
  clear hV ha1 he1 hnn hL
  go_enter Tryd.func23, Tryd.ntmps23
  go_wp2_with fail
  have hx := mkb1 w #[.int .u64 0, .slice none 0 0] 44
  generalize w.alloc (Obj.cells #[.int .u64 0, .slice none 0 0] 44) = W0 at *
  refine (HUp.out _ hx.bel).mono ?_
  rintro e W1 ⟨c, r, ao', cap', rfl, hbd⟩
  have HX : Hid (Bx1 w W0 #[.int .u64 0, .slice none 0 0] 44) := hx
  have H1 : Hid (Bg W0 W1 c r ao' cap' l 0 0) := hbd
  clear hx hbd HUp
  go_wp2_with fail
  have hc1 := bu64G H1.out
  rw [HV.out, HA1.out, HE1.out] at hc1
  refine hc1.mono ?_
  rintro e W2 ⟨rfl, hbd, _⟩
  have H2 : Hid (Bg W0 W2 c r ao' cap' l a1 e1) := hbd
  clear hbd H1 hc1
  go_wp2_with fail
  have h3 : Bg W0 (W2.alloc (Obj.cells #[.int .u64 (V : Int), .slice none 0 0] 44)) c r ao' cap' l a1 e1 := H2.out.later (below1 W2 _)
  have eb3 := heap_new W2 (Obj.cells #[.int .u64 (V : Int), .slice none 0 0] 44)
  have HG : Hid (W0.heap.size ≤ W2.heap.size) := H2.out.bel.size
  generalize W2.alloc (Obj.cells #[.int .u64 (V : Int), .slice none 0 0] 44) = W3 at *
  generalize W2.heap.size = ge at *
  refine (bleftG h3 HNN.out).mono ?_
  rintro e W4 ⟨rfl, q, hw⟩
  have h4 : Bg W0 W4 c r ao' cap' l a1 e1 ∧ W4.heap[ge]? = some (.cells #[.int .u64 (V : Int), .slice none 0 0] 44 (0, 0)) := by rw [hw]; exact ⟨h3.later (below_drewN _ q), eb3⟩
  have H4 : Hid _ := h4
  clear h3 eb3 hw H2 h4
  go_wp2_with fail
  refine (needG (decide (0 < nn)) H4.out.1).mono ?_
  rintro e W5 ⟨rfl, hb5, hk5⟩
  have eb5 := H4.out.1.keep H4.out.2 (by decide) (by decide) (two_of_c hk5)
  have H5 : Hid (Bg W0 W5 c r ao' cap' l a1 (ndE (decide (0 < nn)) e1) ∧ W5.heap[ge]? = some (.cells #[.int .u64 (V : Int), .slice none 0 0] 44 (0, 0))) := ⟨hb5, eb5⟩
  clear hb5 hk5 eb5 H4
  go_wp2_with fail
  refine (bleftG H5.out.1 HNN.out).mono ?_
  rintro e W6 ⟨rfl, q6, hw⟩
  have H6 : Hid (Bg W0 W6 c r ao' cap' l a1 (ndE (decide (0 < nn)) e1) ∧ W6.heap[ge]? = some (.cells #[.int .u64 (V : Int), .slice none 0 0] 44 (0, 0))) := by rw [hw]; exact ⟨H5.out.1.later (below_drewN _ q6), H5.out.2⟩
  clear hw H5
  go_wp2_with fail
  have hc7 := brawG nn H6.out.1
  rw [HL.out] at hc7
  refine hc7.mono ?_
  rintro e W7 ⟨n7, a7, c7, rfl, hn7, ho7, hb7, hk7⟩
  have eb7 := H6.out.1.keep H6.out.2 (by decide) (by decide) hk7
  have hg6 : ge < W6.heap.size := block_lt H6.out.2
  have hs6 : W0.heap.size ≤ W6.heap.size := H6.out.1.bel.size
  generalize raA l a1 nn = a2 at *
  generalize ndE (okR l a1 nn) (ndE (decide (0 < nn)) e1) = e3 at *
  clear hc7
  have HN7 : Hid (n7 = L.length) := hn7
  have HLt : Hid (c < W6.heap.size ∧ r < W6.heap.size) := ⟨block_lt H6.out.1.bd, block_lt H6.out.1.rd.blk⟩
  have HG6 : Hid (ge < W6.heap.size ∧ W0.heap.size ≤ W6.heap.size) := ⟨hg6, hs6⟩
  have H7 : Hid (Bg W0 W7 c r ao' cap' l a2 e3 ∧ W7.heap[ge]? = some (.cells #[.int .u64 (V : Int), .slice none 0 0] 44 (0, 0)) ∧ W7.ownsRow W6.heap.size 5 1 (.slice a7 n7 c7) n7 (L.map bv)) := ⟨hb7, eb7, ho7⟩
  clear H6 hb7 hk7 ho7 eb7 hn7 hg6 hs6
  have y1 : W7.cell? ⟨ge, 1, none⟩ = some (.slice none 0 0) := by rw [blk_at H7.out.2.1]; rfl
  have f1 := blk_free H7.out.2.1 1
  have H8 : Hid (Bg W0 (W7.setCell ⟨ge, 1, none⟩ (.slice a7 n7 c7)) c r ao' cap' l a2 e3 ∧ (W7.setCell ⟨ge, 1, none⟩ (.slice a7 n7 c7)).heap[ge]? = some (.cells #[.int .u64 (V : Int), .slice a7 n7 c7] 44 (0, 0)) ∧ (W7.setCell ⟨ge, 1, none⟩ (.slice a7 n7 c7)).ownsRow W6.heap.size 5 1 (.slice a7 n7 c7) n7 (L.map bv)) := ⟨H7.out.1.put H7.out.2.1 (by decide) (by decide) (by decide) HG.out 1 _, put_boxX H7.out.2.1 1 _ (by simp), owns_same H7.out.2.2 (fun g hg => (keptIn_set W7 ge 1 _).block g (owns_lt H7.out.2.2 g hg).1 (by have h1 := (owns_lt H7.out.2.2 g hg).2; have h2 := HG6.out.1; omega))⟩
  obtain ⟨W8, hW8⟩ : ∃ W8, W8 = W7.setCell ⟨ge, 1, none⟩ (.slice a7 n7 c7) := ⟨_, rfl⟩
  rw [← hW8] at H8
  have k0 : (W7.setCell ⟨ge, 1, none⟩ (.slice a7 n7 c7)).cell? ⟨ge, 0, none⟩ = some (.int .u64 (V : Int)) := by rw [← hW8, blk_at H8.out.2.1]; rfl
  have k1 : (W7.setCell ⟨ge, 1, none⟩ (.slice a7 n7 c7)).cell? ⟨ge, 1, none⟩ = some (.slice a7 n7 c7) := by rw [← hW8, blk_at H8.out.2.1]; rfl
  clear H7
  go_wp2_with fail
  rw [← hW8]
  refine (wholeD_no V a7 n7 c7 81 (by decide) H8.out.1 HFn.out).mono ?_
  rintro e W9 ⟨rfl, hb9, hk9⟩
  have HY : Hid (Below w.heap.size w W9 ∧ W9.heap[w.heap.size]? = some (.cells #[.int .u64 0, .slice none 0 0] 44 (0, 0))) := ⟨HX.out.bel.trans (hb9.mono HX.out.bel.size), by rw [hb9.block _ (by have := HX.out.size; omega)]; exact HX.out.a⟩
  have za0 : W9.cell? ⟨w.heap.size, 0, none⟩ = some (.int .u64 0) := by rw [blk_at HY.out.2]; rfl
  have za1 : W9.cell? ⟨w.heap.size, 1, none⟩ = some (.slice none 0 0) := by rw [blk_at HY.out.2]; rfl
  have ya0 : W9.frozen? ⟨w.heap.size, 0, none⟩ = false := blk_free HY.out.2 0
  have ya1 : W9.frozen? ⟨w.heap.size, 1, none⟩ = false := blk_free HY.out.2 1
  clear hb9 hk9 H8 k0 k1 y1 f1 hW8
  go_wp2
  obtain ⟨hp, hq⟩ := putc2 HY.out.2 (.int .u64 0) (.slice none 0 0)
  have hs0 : w.heap.size < W0.heap.size := by have := HX.out.size; omega
  exact bodyPost_ret (results_cell_tmp1 rfl _ _ w.heap.size 44 _ (0, 0) _ rfl hp Tryd.underlying44 rfl infoD) rfl ⟨rfl, HY.out.1.trans (hq.below HY.out.1.size (fun g hg => by omega))⟩
end Go.Proofs.YtjikibhhhchgeaaDoor

namespace Go.Proofs.YtjikibhhhchgeaaDoor
open Go.RowKit
set_option linter.unusedVariables false
set_option linter.unusedSimpArgs false
set_option maxRecDepth 100000
theorem ndE81 (b : Bool) : ndE b 81 = 81 := by cases b <;> rfl
/-- what is left of a hole's bytes -/
def hoE (l : List Nat) : Nat := ndE (decide (raA l (raA l 0 8) 4 = l.length)) (ndE (okR l (raA l 0 8) 4) (ndE (okR l 0 8) 0))
theorem hoE_ok {l : List Nat} (h : l.length = 12) : hoE l = 0 := by
  have e1 : okR l 0 8 = true := by simp [okR]; omega
  have e2 : raA l 0 8 = 8 := by simp [raA, e1]
  have e3 : okR l 8 4 = true := by simp [okR]; omega
  have e4 : raA l 8 4 = l.length := by simp [raA, e3]; omega
  unfold hoE
  simp only [e2, e4, e3, e1, decide_true, ndE_true]
theorem hoE_no {l : List Nat} (h : l.length ≠ 12) : hoE l = 81 := by
  unfold hoE
  cases h8 : okR l 0 8 with
  | false => rw [show ndE false 0 = 81 from rfl, ndE81, ndE81]
  | true =>
    have e2 : raA l 0 8 = 8 := by simp [raA, h8]
    rw [e2]
    cases h4 : okR l 8 4 with
    | false => rw [ndE_true, show ndE false 0 = 81 from rfl, ndE81]
    | true =>
      have e4 : raA l 8 4 = 12 := by simp [raA, h4]
      rw [e4, decide_eq_false (fun e => h e.symm), ndE_true, ndE_true]; rfl
set_option maxHeartbeats 4000000 in
theorem unpackHole_ok (ao : Option Addr) (cap N : Nat) (l : List Nat) (w : World) (h : BRow w ao cap l) (hN : l.length = N) (hl9 : l.length = 12) :
    Calls Tryd.prog 24 #[.slice ao N cap] w fun e w' => e = .returned (.tuple #[.agg #[.int .u64 ((rvV l 0 8 : Nat) : Int), .int .u32 ((rvV l (raA l 0 8) 4 : Nat) : Int)], .int .i64 0]) ∧ Below w.heap.size w w' := by
  have HUp : Hid (∀ W, Below w.heap.size w W → Calls Tryd.prog 52 #[.slice ao N cap] W fun e w' => ∃ c r ao' cap', e = .returned (.pointer (some ⟨c, 0, none⟩)) ∧ Bg W w' c r ao' cap' l 0 0) := fun W hb => unpackG ao cap N l W (h.later hb) hN
  have HFn : Hid (ndE (decide (raA l (raA l 0 8) 4 = l.length)) (ndE (okR l (raA l 0 8) 4) (ndE (okR l 0 8) 0)) = 0) := hoE_ok hl9
  clear h hN hl9
  obtain ⟨V, hV⟩ : ∃ V, rvV l 0 8 = V := ⟨_, rfl⟩
  obtain ⟨a1, ha1⟩ : ∃ a1, raA l 0 8 = a1 := ⟨_, rfl⟩
  obtain ⟨e1, he1⟩ : ∃ e1, ndE (okR l 0 8) 0 = e1 := ⟨_, rfl⟩
  rw [ha1, he1] at HFn
  rw [ha1, hV]
  obtain ⟨V2, hV2⟩ : ∃ V2, rvV l a1 4 = V2 := ⟨_, rfl⟩
  obtain ⟨a2, ha2⟩ : ∃ a2, raA l a1 4 = a2 := ⟨_, rfl⟩
  obtain ⟨e2, he2⟩ : ∃ e2, ndE (okR l a1 4) e1 = e2 := ⟨_, rfl⟩
  rw [ha2, he2] at HFn
  rw [hV2]
  have HV : Hid (rvV l 0 8 = V ∧ raA l 0 8 = a1 ∧ ndE (okR l 0 8) 0 = e1) := ⟨hV, ha1, he1⟩
  have HV2 : Hid (rvV l a1 4 = V2 ∧ raA l a1 4 = a2 ∧ ndE (okR l a1 4) e1 = e2) := ⟨hV2, ha2, he2⟩
  clear hV ha1 he1 hV2 ha2 he2
  go_enter Tryd.func24, Tryd.ntmps24
  go_wp2_with fail
  have hx := mkb1 w #[.int .u64 0, .int .u32 0] 46
  generalize w.alloc (Obj.cells #[.int .u64 0, .int .u32 0] 46) = W0 at *
  refine (HUp.out _ hx.bel).mono ?_
  rintro e W1 ⟨c, r, ao', cap', rfl, hbd⟩
  have HX : Hid (Bx1 w W0 #[.int .u64 0, .int .u32 0] 46) := hx
  have H1 : Hid (Bg W0 W1 c r ao' cap' l 0 0) := hbd
  clear hx hbd HUp
  go_wp2_with fail
  have hc1 := bu64G H1.out
  rw [HV.out.1, HV.out.2.1, HV.out.2.2] at hc1
  refine hc1.mono ?_
  rintro e W2 ⟨rfl, hbd, _⟩
  have H2 : Hid (Bg W0 W2 c r ao' cap' l a1 e1) := hbd
  clear hbd H1 hc1
  go_wp2_with fail
  have hc2 := bu32G H2.out
  rw [HV2.out.1, HV2.out.2.1, HV2.out.2.2] at hc2
  refine hc2.mono ?_
  rintro e W3 ⟨rfl, hbd, _⟩
  have H3 : Hid (Bg W0 W3 c r ao' cap' l a2 e2) := hbd
  clear hbd H2 hc2
  go_wp2_with fail
  refine (wholeH_ok V V2 H3.out HFn.out).mono ?_
  rintro e W9 ⟨rfl, hb9, hk9⟩
  have HY : Hid (Below w.heap.size w W9 ∧ W9.heap[w.heap.size]? = some (.cells #[.int .u64 0, .int .u32 0] 46 (0, 0))) := ⟨HX.out.bel.trans (hb9.mono HX.out.bel.size), by rw [hb9.block _ (by have := HX.out.size; omega)]; exact HX.out.a⟩
  have za0 : W9.cell? ⟨w.heap.size, 0, none⟩ = some (.int .u64 0) := by rw [blk_at HY.out.2]; rfl
  have za1 : W9.cell? ⟨w.heap.size, 1, none⟩ = some (.int .u32 0) := by rw [blk_at HY.out.2]; rfl
  have ya0 : W9.frozen? ⟨w.heap.size, 0, none⟩ = false := blk_free HY.out.2 0
  have ya1 : W9.frozen? ⟨w.heap.size, 1, none⟩ = false := blk_free HY.out.2 1
  have hs0 : w.heap.size < W0.heap.size := by have := HX.out.size; omega
  clear hb9 hk9 H3
  go_wp2
  obtain ⟨hp, hq⟩ := putc2 HY.out.2 (.int .u64 (V : Int)) (.int .u32 (V2 : Int))
  exact bodyPost_ret (results_cell_tmp1 rfl _ _ w.heap.size 46 _ (0, 0) _ rfl hp Tryd.underlying46 rfl infoH) rfl ⟨rfl, HY.out.1.trans (hq.below HY.out.1.size (fun g hg => by omega))⟩
set_option maxHeartbeats 4000000 in
theorem unpackHole_no (ao : Option Addr) (cap N : Nat) (l : List Nat) (w : World) (h : BRow w ao cap l) (hN : l.length = N) (hl9 : l.length ≠ 12) :
    Calls Tryd.prog 24 #[.slice ao N cap] w fun e w' => e = .returned (.tuple #[.agg #[.int .u64 0, .int .u32 0], .int .i64 81]) ∧ Below w.heap.size w w' := by
  have HUp : Hid (∀ W, Below w.heap.size w W → Calls Tryd.prog 52 #[.slice ao N cap] W fun e w' => ∃ c r ao' cap', e = .returned (.pointer (some ⟨c, 0, none⟩)) ∧ Bg W w' c r ao' cap' l 0 0) := fun W hb => unpackG ao cap N l W (h.later hb) hN
  have HFn : Hid (ndE (decide (raA l (raA l 0 8) 4 = l.length)) (ndE (okR l (raA l 0 8) 4) (ndE (okR l 0 8) 0)) = 81) := hoE_no hl9
  clear h hN hl9
  obtain ⟨V, hV⟩ : ∃ V, rvV l 0 8 = V := ⟨_, rfl⟩
  obtain ⟨a1, ha1⟩ : ∃ a1, raA l 0 8 = a1 := ⟨_, rfl⟩
  obtain ⟨e1, he1⟩ : ∃ e1, ndE (okR l 0 8) 0 = e1 := ⟨_, rfl⟩
  rw [ha1, he1] at HFn
  
  obtain ⟨V2, hV2⟩ : ∃ V2, rvV l a1 4 = V2 := ⟨_, rfl⟩
  obtain ⟨a2, ha2⟩ : ∃ a2, raA l a1 4 = a2 := ⟨_, rfl⟩
  obtain ⟨e2, he2⟩ : ∃ e2, ndE (okR l a1 4) e1 = e2 := ⟨_, rfl⟩
  rw [ha2, he2] at HFn
  
  have HV : Hid (rvV l 0 8 = V ∧ raA l 0 8 = a1 ∧ ndE (okR l 0 8) 0 = e1) := ⟨hV, ha1, he1⟩
  have HV2 : Hid (rvV l a1 4 = V2 ∧ raA l a1 4 = a2 ∧ ndE (okR l a1 4) e1 = e2) := ⟨hV2, ha2, he2⟩
  clear hV ha1 he1 hV2 ha2 he2
  go_enter Tryd.func24, Tryd.ntmps24
  go_wp2_with fail
  have hx := mkb1 w #[.int .u64 0, .int .u32 0] 46
  generalize w.alloc (Obj.cells #[.int .u64 0, .int .u32 0] 46) = W0 at *
  refine (HUp.out _ hx.bel).mono ?_
  rintro e W1 ⟨c, r, ao', cap', rfl, hbd⟩
  have HX : Hid (Bx1 w W0 #[.int .u64 0, .int .u32 0] 46) := hx
  have H1 : Hid (Bg W0 W1 c r ao' cap' l 0 0) := hbd
  clear hx hbd HUp
  go_wp2_with fail
  have hc1 := bu64G H1.out
  rw [HV.out.1, HV.out.2.1, HV.out.2.2] at hc1
  refine hc1.mono ?_
  rintro e W2 ⟨rfl, hbd, _⟩
  have H2 : Hid (Bg W0 W2 c r ao' cap' l a1 e1) := hbd
  clear hbd H1 hc1
  go_wp2_with fail
  have hc2 := bu32G H2.out
  rw [HV2.out.1, HV2.out.2.1, HV2.out.2.2] at hc2
  refine hc2.mono ?_
  rintro e W3 ⟨rfl, hbd, _⟩
  have H3 : Hid (Bg W0 W3 c r ao' cap' l a2 e2) := hbd
  clear hbd H2 hc2
  go_wp2_with fail
  refine (wholeH_no V V2 81 (by decide) H3.out HFn.out).mono ?_
  rintro e W9 ⟨rfl, hb9, hk9⟩
  have HY : Hid (Below w.heap.size w W9 ∧ W9.heap[w.heap.size]? = some (.cells #[.int .u64 0, .int .u32 0] 46 (0, 0))) := ⟨HX.out.bel.trans (hb9.mono HX.out.bel.size), by rw [hb9.block _ (by have := HX.out.size; omega)]; exact HX.out.a⟩
  have za0 : W9.cell? ⟨w.heap.size, 0, none⟩ = some (.int .u64 0) := by rw [blk_at HY.out.2]; rfl
  have za1 : W9.cell? ⟨w.heap.size, 1, none⟩ = some (.int .u32 0) := by rw [blk_at HY.out.2]; rfl
  have ya0 : W9.frozen? ⟨w.heap.size, 0, none⟩ = false := blk_free HY.out.2 0
  have ya1 : W9.frozen? ⟨w.heap.size, 1, none⟩ = false := blk_free HY.out.2 1
  have hs0 : w.heap.size < W0.heap.size := by have := HX.out.size; omega
  clear hb9 hk9 H3
  go_wp2
  obtain ⟨hp, hq⟩ := putc2 HY.out.2 (.int .u64 0) (.int .u32 0)
  exact bodyPost_ret (results_cell_tmp1 rfl _ _ w.heap.size 46 _ (0, 0) _ rfl hp Tryd.underlying46 rfl infoH) rfl ⟨rfl, HY.out.1.trans (hq.below HY.out.1.size (fun g hg => by omega))⟩
end Go.Proofs.YtjikibhhhchgeaaDoor

namespace Go.Proofs.YtjikibhhhchgeaaDoor
open Go.RowKit
set_option linter.unusedVariables false
set_option linter.unusedSimpArgs false
set_option maxRecDepth 100000
set_option maxHeartbeats 4000000 in
theorem unpackInfo_3ok (ao : Option Addr) (cap N : Nat) (l : List Nat) (w : World) (h : BRow w ao cap l) (hN : l.length = N) (V a1 e1 : Nat) (h1 : rvV l 0 2 = V ∧ raA l 0 2 = a1 ∧ ndE (okR l 0 2) 0 = e1) (v0 b0 d0 : Nat) (r0 : rvV l a1 4 = v0 ∧ raA l a1 4 = b0 ∧ ndE (okR l a1 4) e1 = d0) (v1 b1 d1 : Nat) (r1 : rvV l b0 4 = v1 ∧ raA l b0 4 = b1 ∧ ndE (okR l b0 4) d0 = d1) (v2 b2 d2 : Nat) (r2 : rvV l b1 4 = v2 ∧ raA l b1 4 = b2 ∧ ndE (okR l b1 4) d1 = d2) (g0 : V ≠ 0) (g1 : V ≠ 1) (g2 : V ≠ 2) (g3 : V = 3) (hfin : ndE (decide (b2 = l.length)) d2 = 0) :
    Calls Tryd.prog 11 #[.slice ao N cap] w fun e w' => e = .returned (.tuple #[.agg #[.int .u16 (V : Int), .int .u64 0, .int .u16 0, .string ⟨#[]⟩, .int .u32 (v0 : Int), .int .u32 (v1 : Int), .int .u32 (v2 : Int), .slice none 0 0], .int .i64 0]) ∧ Below w.heap.size w w' := by
  have HUp : Hid (∀ W, Below w.heap.size w W → Calls Tryd.prog 52 #[.slice ao N cap] W fun e w' => ∃ c r ao' cap', e = .returned (.pointer (some ⟨c, 0, none⟩)) ∧ Bg W w' c r ao' cap' l 0 0) := fun W hb => unpackG ao cap N l W (h.later hb) hN
  have HFn : Hid (ndE (decide (b2 = l.length)) d2 = 0) := hfin
  have H1' : Hid (rvV l 0 2 = V ∧ raA l 0 2 = a1 ∧ ndE (okR l 0 2) 0 = e1) := h1
  have R0 : Hid _ := r0
  have R1 : Hid _ := r1
  have R2 : Hid _ := r2
  have f0 : ((V : Int) == 0) = false := by rw [beq_eq_false_iff_ne]; omega
  have f1 : ((V : Int) == 1) = false := by rw [beq_eq_false_iff_ne]; omega
  have f2 : ((V : Int) == 2) = false := by rw [beq_eq_false_iff_ne]; omega
  have f3 : ((V : Int) == 3) = true := by rw [beq_iff_eq]; omega
  clear h hN hfin h1 r0 r1 r2 g0 g1 g2 g3
  go_enter Tryd.func11, Tryd.ntmps11
  go_wp2_with fail
  have hx := mkb1 w #[.int .u16 0, .int .u64 0, .int .u16 0, .string ⟨#[]⟩, .int .u32 0, .int .u32 0, .int .u32 0, .slice none 0 0] 27
  generalize w.alloc (Obj.cells #[.int .u16 0, .int .u64 0, .int .u16 0, .string ⟨#[]⟩, .int .u32 0, .int .u32 0, .int .u32 0, .slice none 0 0] 27) = W0 at *
  refine (HUp.out _ hx.bel).mono ?_
  rintro e W1 ⟨c, r, ao', cap', rfl, hbd⟩
  have HX : Hid (Bx1 w W0 #[.int .u16 0, .int .u64 0, .int .u16 0, .string ⟨#[]⟩, .int .u32 0, .int .u32 0, .int .u32 0, .slice none 0 0] 27) := hx
  have H1 : Hid (Bg W0 W1 c r ao' cap' l 0 0) := hbd
  clear hx hbd HUp
  go_wp2_with fail
  have hc1 := bu16G H1.out
  rw [H1'.out.1, H1'.out.2.1, H1'.out.2.2] at hc1
  refine hc1.mono ?_
  rintro e W2 ⟨rfl, hbd, _⟩
  have H2 : Hid (Bg W0 W2 c r ao' cap' l a1 e1) := hbd
  clear hbd H1 hc1
  go_wp2_with fail
  have h3 : Bg W0 (W2.alloc (Obj.cells #[.int .u16 (V : Int), .int .u64 0, .int .u16 0, .string ⟨#[]⟩, .int .u32 0, .int .u32 0, .int .u32 0, .slice none 0 0] 27)) c r ao' cap' l a1 e1 := H2.out.later (below1 W2 _)
  have eb3 := heap_new W2 (Obj.cells #[.int .u16 (V : Int), .int .u64 0, .int .u16 0, .string ⟨#[]⟩, .int .u32 0, .int .u32 0, .int .u32 0, .slice none 0 0] 27)
  have HG : Hid (W0.heap.size ≤ W2.heap.size) := H2.out.bel.size
  generalize W2.alloc (Obj.cells #[.int .u16 (V : Int), .int .u64 0, .int .u16 0, .string ⟨#[]⟩, .int .u32 0, .int .u32 0, .int .u32 0, .slice none 0 0] 27) = W3 at *
  generalize W2.heap.size = ge at *
  have H6 : Hid (Bg W0 W3 c r ao' cap' l a1 e1 ∧ W3.heap[ge]? = some (.cells #[.int .u16 (V : Int), .int .u64 0, .int .u16 0, .string ⟨#[]⟩, .int .u32 0, .int .u32 0, .int .u32 0, .slice none 0 0] 27 (0, 0))) := ⟨h3, eb3⟩
  clear h3 eb3 H2
  have hc2 := bu32G H6.out.1
  rw [R0.out.1, R0.out.2.1, R0.out.2.2] at hc2
  refine hc2.mono ?_
  rintro e X0 ⟨rfl, hb7, hk7⟩
  have K0 : Hid (Bg W0 X0 c r ao' cap' l b0 d0 ∧ X0.heap[ge]? = some (.cells #[.int .u16 (V : Int), .int .u64 0, .int .u16 0, .string ⟨#[]⟩, .int .u32 0, .int .u32 0, .int .u32 0, .slice none 0 0] 27 (0, 0))) := ⟨hb7, H6.out.1.keep H6.out.2 (by decide) (by decide) hk7⟩
  clear H6 hb7 hk7 hc2
  go_wp2_with fail
  have hc3 := bu32G K0.out.1
  rw [R1.out.1, R1.out.2.1, R1.out.2.2] at hc3
  refine hc3.mono ?_
  rintro e X1 ⟨rfl, hb7, hk7⟩
  have K1 : Hid (Bg W0 X1 c r ao' cap' l b1 d1 ∧ X1.heap[ge]? = some (.cells #[.int .u16 (V : Int), .int .u64 0, .int .u16 0, .string ⟨#[]⟩, .int .u32 0, .int .u32 0, .int .u32 0, .slice none 0 0] 27 (0, 0))) := ⟨hb7, K0.out.1.keep K0.out.2 (by decide) (by decide) hk7⟩
  clear K0 hb7 hk7 hc3
  go_wp2_with fail
  have hc4 := bu32G K1.out.1
  rw [R2.out.1, R2.out.2.1, R2.out.2.2] at hc4
  refine hc4.mono ?_
  rintro e X2 ⟨rfl, hb7, hk7⟩
  have K2 : Hid (Bg W0 X2 c r ao' cap' l b2 d2 ∧ X2.heap[ge]? = some (.cells #[.int .u16 (V : Int), .int .u64 0, .int .u16 0, .string ⟨#[]⟩, .int .u32 0, .int .u32 0, .int .u32 0, .slice none 0 0] 27 (0, 0))) := ⟨hb7, K1.out.1.keep K1.out.2 (by decide) (by decide) hk7⟩
  clear K1 hb7 hk7 hc4
  have y0 : X2.cell? ⟨ge, 4, none⟩ = some (.int .u32 0) := by rw [blk_at K2.out.2]; rfl
  have fr0 := blk_free K2.out.2 4
  have S0 : Hid (Bg W0 (X2.setCell ⟨ge, 4, none⟩ (.int .u32 (v0 : Int))) c r ao' cap' l b2 d2 ∧ (X2.setCell ⟨ge, 4, none⟩ (.int .u32 (v0 : Int))).heap[ge]? = some (.cells #[.int .u16 (V : Int), .int .u64 0, .int .u16 0, .string ⟨#[]⟩, .int .u32 (v0 : Int), .int .u32 0, .int .u32 0, .slice none 0 0] 27 (0, 0))) := ⟨K2.out.1.put K2.out.2 (by decide) (by decide) (by decide) HG.out 4 _, put_boxX K2.out.2 4 _ (by simp)⟩
  have y1 : (X2.setCell ⟨ge, 4, none⟩ (.int .u32 (v0 : Int))).cell? ⟨ge, 5, none⟩ = some (.int .u32 0) := by rw [blk_at S0.out.2]; rfl
  have fr1 := blk_free S0.out.2 5
  have S1 : Hid (Bg W0 ((X2.setCell ⟨ge, 4, none⟩ (.int .u32 (v0 : Int))).setCell ⟨ge, 5, none⟩ (.int .u32 (v1 : Int))) c r ao' cap' l b2 d2 ∧ ((X2.setCell ⟨ge, 4, none⟩ (.int .u32 (v0 : Int))).setCell ⟨ge, 5, none⟩ (.int .u32 (v1 : Int))).heap[ge]? = some (.cells #[.int .u16 (V : Int), .int .u64 0, .int .u16 0, .string ⟨#[]⟩, .int .u32 (v0 : Int), .int .u32 (v1 : Int), .int .u32 0, .slice none 0 0] 27 (0, 0))) := ⟨S0.out.1.put S0.out.2 (by decide) (by decide) (by decide) HG.out 5 _, put_boxX S0.out.2 5 _ (by simp)⟩
  have y2 : ((X2.setCell ⟨ge, 4, none⟩ (.int .u32 (v0 : Int))).setCell ⟨ge, 5, none⟩ (.int .u32 (v1 : Int))).cell? ⟨ge, 6, none⟩ = some (.int .u32 0) := by rw [blk_at S1.out.2]; rfl
  have fr2 := blk_free S1.out.2 6
  have S2 : Hid (Bg W0 (((X2.setCell ⟨ge, 4, none⟩ (.int .u32 (v0 : Int))).setCell ⟨ge, 5, none⟩ (.int .u32 (v1 : Int))).setCell ⟨ge, 6, none⟩ (.int .u32 (v2 : Int))) c r ao' cap' l b2 d2 ∧ (((X2.setCell ⟨ge, 4, none⟩ (.int .u32 (v0 : Int))).setCell ⟨ge, 5, none⟩ (.int .u32 (v1 : Int))).setCell ⟨ge, 6, none⟩ (.int .u32 (v2 : Int))).heap[ge]? = some (.cells #[.int .u16 (V : Int), .int .u64 0, .int .u16 0, .string ⟨#[]⟩, .int .u32 (v0 : Int), .int .u32 (v1 : Int), .int .u32 (v2 : Int), .slice none 0 0] 27 (0, 0))) := ⟨S1.out.1.put S1.out.2 (by decide) (by decide) (by decide) HG.out 6 _, put_boxX S1.out.2 6 _ (by simp)⟩
  obtain ⟨W8, hW8⟩ : ∃ W8, W8 = (((X2.setCell ⟨ge, 4, none⟩ (.int .u32 (v0 : Int))).setCell ⟨ge, 5, none⟩ (.int .u32 (v1 : Int))).setCell ⟨ge, 6, none⟩ (.int .u32 (v2 : Int))) := ⟨_, rfl⟩
  rw [← hW8] at S2
  have k0 : (((X2.setCell ⟨ge, 4, none⟩ (.int .u32 (v0 : Int))).setCell ⟨ge, 5, none⟩ (.int .u32 (v1 : Int))).setCell ⟨ge, 6, none⟩ (.int .u32 (v2 : Int))).cell? ⟨ge, 0, none⟩ = some (.int .u16 (V : Int)) := by rw [← hW8, blk_at S2.out.2]; rfl
  have k1 : (((X2.setCell ⟨ge, 4, none⟩ (.int .u32 (v0 : Int))).setCell ⟨ge, 5, none⟩ (.int .u32 (v1 : Int))).setCell ⟨ge, 6, none⟩ (.int .u32 (v2 : Int))).cell? ⟨ge, 1, none⟩ = some (.int .u64 0) := by rw [← hW8, blk_at S2.out.2]; rfl
  have k2 : (((X2.setCell ⟨ge, 4, none⟩ (.int .u32 (v0 : Int))).setCell ⟨ge, 5, none⟩ (.int .u32 (v1 : Int))).setCell ⟨ge, 6, none⟩ (.int .u32 (v2 : Int))).cell? ⟨ge, 2, none⟩ = some (.int .u16 0) := by rw [← hW8, blk_at S2.out.2]; rfl
  have k3 : (((X2.setCell ⟨ge, 4, none⟩ (.int .u32 (v0 : Int))).setCell ⟨ge, 5, none⟩ (.int .u32 (v1 : Int))).setCell ⟨ge, 6, none⟩ (.int .u32 (v2 : Int))).cell? ⟨ge, 3, none⟩ = some (.string ⟨#[]⟩) := by rw [← hW8, blk_at S2.out.2]; rfl
  have k4 : (((X2.setCell ⟨ge, 4, none⟩ (.int .u32 (v0 : Int))).setCell ⟨ge, 5, none⟩ (.int .u32 (v1 : Int))).setCell ⟨ge, 6, none⟩ (.int .u32 (v2 : Int))).cell? ⟨ge, 4, none⟩ = some (.int .u32 (v0 : Int)) := by rw [← hW8, blk_at S2.out.2]; rfl
  have k5 : (((X2.setCell ⟨ge, 4, none⟩ (.int .u32 (v0 : Int))).setCell ⟨ge, 5, none⟩ (.int .u32 (v1 : Int))).setCell ⟨ge, 6, none⟩ (.int .u32 (v2 : Int))).cell? ⟨ge, 5, none⟩ = some (.int .u32 (v1 : Int)) := by rw [← hW8, blk_at S2.out.2]; rfl
  have k6 : (((X2.setCell ⟨ge, 4, none⟩ (.int .u32 (v0 : Int))).setCell ⟨ge, 5, none⟩ (.int .u32 (v1 : Int))).setCell ⟨ge, 6, none⟩ (.int .u32 (v2 : Int))).cell? ⟨ge, 6, none⟩ = some (.int .u32 (v2 : Int)) := by rw [← hW8, blk_at S2.out.2]; rfl
  have k7 : (((X2.setCell ⟨ge, 4, none⟩ (.int .u32 (v0 : Int))).setCell ⟨ge, 5, none⟩ (.int .u32 (v1 : Int))).setCell ⟨ge, 6, none⟩ (.int .u32 (v2 : Int))).cell? ⟨ge, 7, none⟩ = some (.slice none 0 0) := by rw [← hW8, blk_at S2.out.2]; rfl
  go_wp2_with fail
  rw [← hW8]
  refine (wholeI_ok V 0 0 ⟨#[]⟩ v0 v1 v2 none 0 0 S2.out.1 HFn.out).mono ?_
  rintro e W9 ⟨rfl, hb9, hk9⟩
  have HY : Hid (Below w.heap.size w W9 ∧ W9.heap[w.heap.size]? = some (.cells #[.int .u16 0, .int .u64 0, .int .u16 0, .string ⟨#[]⟩, .int .u32 0, .int .u32 0, .int .u32 0, .slice none 0 0] 27 (0, 0))) := ⟨HX.out.bel.trans (hb9.mono HX.out.bel.size), by rw [hb9.block _ (by have := HX.out.size; omega)]; exact HX.out.a⟩
  have za0 : W9.cell? ⟨w.heap.size, 0, none⟩ = some (.int .u16 0) := by rw [blk_at HY.out.2]; rfl
  have ya0 : W9.frozen? ⟨w.heap.size, 0, none⟩ = false := blk_free HY.out.2 0
  have za1 : W9.cell? ⟨w.heap.size, 1, none⟩ = some (.int .u64 0) := by rw [blk_at HY.out.2]; rfl
  have ya1 : W9.frozen? ⟨w.heap.size, 1, none⟩ = false := blk_free HY.out.2 1
  have za2 : W9.cell? ⟨w.heap.size, 2, none⟩ = some (.int .u16 0) := by rw [blk_at HY.out.2]; rfl
  have ya2 : W9.frozen? ⟨w.heap.size, 2, none⟩ = false := blk_free HY.out.2 2
  have za3 : W9.cell? ⟨w.heap.size, 3, none⟩ = some (.string ⟨#[]⟩) := by rw [blk_at HY.out.2]; rfl
  have ya3 : W9.frozen? ⟨w.heap.size, 3, none⟩ = false := blk_free HY.out.2 3
  have za4 : W9.cell? ⟨w.heap.size, 4, none⟩ = some (.int .u32 0) := by rw [blk_at HY.out.2]; rfl
  have ya4 : W9.frozen? ⟨w.heap.size, 4, none⟩ = false := blk_free HY.out.2 4
  have za5 : W9.cell? ⟨w.heap.size, 5, none⟩ = some (.int .u32 0) := by rw [blk_at HY.out.2]; rfl
  have ya5 : W9.frozen? ⟨w.heap.size, 5, none⟩ = false := blk_free HY.out.2 5
  have za6 : W9.cell? ⟨w.heap.size, 6, none⟩ = some (.int .u32 0) := by rw [blk_at HY.out.2]; rfl
  have ya6 : W9.frozen? ⟨w.heap.size, 6, none⟩ = false := blk_free HY.out.2 6
  have za7 : W9.cell? ⟨w.heap.size, 7, none⟩ = some (.slice none 0 0) := by rw [blk_at HY.out.2]; rfl
  have ya7 : W9.frozen? ⟨w.heap.size, 7, none⟩ = false := blk_free HY.out.2 7
  have hs0 : w.heap.size < W0.heap.size := by have := HX.out.size; omega
  clear hb9 hk9 K2 S0 y0 fr0 S1 y1 fr1 S2 y2 fr2 k0 k1 k2 k3 k4 k5 k6 k7 hW8
  go_wp2
  obtain ⟨hp, hq⟩ := putc8 HY.out.2 (.int .u16 (V : Int)) (.int .u64 0) (.int .u16 0) (.string ⟨#[]⟩) (.int .u32 (v0 : Int)) (.int .u32 (v1 : Int)) (.int .u32 (v2 : Int)) (.slice none 0 0)
  generalize ((((((((W9.setCell ⟨w.heap.size, 0, none⟩ (.int .u16 (V : Int))).setCell ⟨w.heap.size, 1, none⟩ (.int .u64 0)).setCell ⟨w.heap.size, 2, none⟩ (.int .u16 0)).setCell ⟨w.heap.size, 3, none⟩ (.string ⟨#[]⟩)).setCell ⟨w.heap.size, 4, none⟩ (.int .u32 (v0 : Int))).setCell ⟨w.heap.size, 5, none⟩ (.int .u32 (v1 : Int))).setCell ⟨w.heap.size, 6, none⟩ (.int .u32 (v2 : Int))).setCell ⟨w.heap.size, 7, none⟩ (.slice none 0 0)) = Wz at hp hq ⊢
  exact bodyPost_ret (results_cell_tmp1 rfl _ _ w.heap.size 27 _ (0, 0) _ rfl hp Tryd.underlying27 rfl infoI) rfl ⟨rfl, HY.out.1.trans (hq.below HY.out.1.size (fun g hg => by omega))⟩
set_option maxHeartbeats 4000000 in
theorem unpackInfo_3no (ao : Option Addr) (cap N : Nat) (l : List Nat) (w : World) (h : BRow w ao cap l) (hN : l.length = N) (V a1 e1 : Nat) (h1 : rvV l 0 2 = V ∧ raA l 0 2 = a1 ∧ ndE (okR l 0 2) 0 = e1) (v0 b0 d0 : Nat) (r0 : rvV l a1 4 = v0 ∧ raA l a1 4 = b0 ∧ ndE (okR l a1 4) e1 = d0) (v1 b1 d1 : Nat) (r1 : rvV l b0 4 = v1 ∧ raA l b0 4 = b1 ∧ ndE (okR l b0 4) d0 = d1) (v2 b2 d2 : Nat) (r2 : rvV l b1 4 = v2 ∧ raA l b1 4 = b2 ∧ ndE (okR l b1 4) d1 = d2) (g0 : V ≠ 0) (g1 : V ≠ 1) (g2 : V ≠ 2) (g3 : V = 3) (hfin : ndE (decide (b2 = l.length)) d2 = 81) :
    Calls Tryd.prog 11 #[.slice ao N cap] w fun e w' => e = .returned (.tuple #[.agg #[.int .u16 0, .int .u64 0, .int .u16 0, .string ⟨#[]⟩, .int .u32 0, .int .u32 0, .int .u32 0, .slice none 0 0], .int .i64 81]) ∧ Below w.heap.size w w' := by
  have HUp : Hid (∀ W, Below w.heap.size w W → Calls Tryd.prog 52 #[.slice ao N cap] W fun e w' => ∃ c r ao' cap', e = .returned (.pointer (some ⟨c, 0, none⟩)) ∧ Bg W w' c r ao' cap' l 0 0) := fun W hb => unpackG ao cap N l W (h.later hb) hN
  have HFn : Hid (ndE (decide (b2 = l.length)) d2 = 81) := hfin
  have H1' : Hid (rvV l 0 2 = V ∧ raA l 0 2 = a1 ∧ ndE (okR l 0 2) 0 = e1) := h1
  have R0 : Hid _ := r0
  have R1 : Hid _ := r1
  have R2 : Hid _ := r2
  have f0 : ((V : Int) == 0) = false := by rw [beq_eq_false_iff_ne]; omega
  have f1 : ((V : Int) == 1) = false := by rw [beq_eq_false_iff_ne]; omega
  have f2 : ((V : Int) == 2) = false := by rw [beq_eq_false_iff_ne]; omega
  have f3 : ((V : Int) == 3) = true := by rw [beq_iff_eq]; omega
  clear h hN hfin h1 r0 r1 r2 g0 g1 g2 g3
  go_enter Tryd.func11, Tryd.ntmps11
  go_wp2_with fail
  have hx := mkb1 w #[.int .u16 0, .int .u64 0, .int .u16 0, .string ⟨#[]⟩, .int .u32 0, .int .u32 0, .int .u32 0, .slice none 0 0] 27
  generalize w.alloc (Obj.cells #[.int .u16 0, .int .u64 0, .int .u16 0, .string ⟨#[]⟩, .int .u32 0, .int .u32 0, .int .u32 0, .slice none 0 0] 27) = W0 at *
  refine (HUp.out _ hx.bel).mono ?_
  rintro e W1 ⟨c, r, ao', cap', rfl, hbd⟩
  have HX : Hid (Bx1 w W0 #[.int .u16 0, .int .u64 0, .int .u16 0, .string ⟨#[]⟩, .int .u32 0, .int .u32 0, .int .u32 0, .slice none 0 0] 27) := hx
  have H1 : Hid (Bg W0 W1 c r ao' cap' l 0 0) := hbd
  clear hx hbd HUp
  go_wp2_with fail
  have hc1 := bu16G H1.out
  rw [H1'.out.1, H1'.out.2.1, H1'.out.2.2] at hc1
  refine hc1.mono ?_
  rintro e W2 ⟨rfl, hbd, _⟩
  have H2 : Hid (Bg W0 W2 c r ao' cap' l a1 e1) := hbd
  clear hbd H1 hc1
  go_wp2_with fail
  have h3 : Bg W0 (W2.alloc (Obj.cells #[.int .u16 (V : Int), .int .u64 0, .int .u16 0, .string ⟨#[]⟩, .int .u32 0, .int .u32 0, .int .u32 0, .slice none 0 0] 27)) c r ao' cap' l a1 e1 := H2.out.later (below1 W2 _)
  have eb3 := heap_new W2 (Obj.cells #[.int .u16 (V : Int), .int .u64 0, .int .u16 0, .string ⟨#[]⟩, .int .u32 0, .int .u32 0, .int .u32 0, .slice none 0 0] 27)
  have HG : Hid (W0.heap.size ≤ W2.heap.size) := H2.out.bel.size
  generalize W2.alloc (Obj.cells #[.int .u16 (V : Int), .int .u64 0, .int .u16 0, .string ⟨#[]⟩, .int .u32 0, .int .u32 0, .int .u32 0, .slice none 0 0] 27) = W3 at *
  generalize W2.heap.size = ge at *
  have H6 : Hid (Bg W0 W3 c r ao' cap' l a1 e1 ∧ W3.heap[ge]? = some (.cells #[.int .u16 (V : Int), .int .u64 0, .int .u16 0, .string ⟨#[]⟩, .int .u32 0, .int .u32 0, .int .u32 0, .slice none 0 0] 27 (0, 0))) := ⟨h3, eb3⟩
  clear h3 eb3 H2
  have hc2 := bu32G H6.out.1
  rw [R0.out.1, R0.out.2.1, R0.out.2.2] at hc2
  refine hc2.mono ?_
  rintro e X0 ⟨rfl, hb7, hk7⟩
  have K0 : Hid (Bg W0 X0 c r ao' cap' l b0 d0 ∧ X0.heap[ge]? = some (.cells #[.int .u16 (V : Int), .int .u64 0, .int .u16 0, .string ⟨#[]⟩, .int .u32 0, .int .u32 0, .int .u32 0, .slice none 0 0] 27 (0, 0))) := ⟨hb7, H6.out.1.keep H6.out.2 (by decide) (by decide) hk7⟩
  clear H6 hb7 hk7 hc2
  go_wp2_with fail
  have hc3 := bu32G K0.out.1
  rw [R1.out.1, R1.out.2.1, R1.out.2.2] at hc3
  refine hc3.mono ?_
  rintro e X1 ⟨rfl, hb7, hk7⟩
  have K1 : Hid (Bg W0 X1 c r ao' cap' l b1 d1 ∧ X1.heap[ge]? = some (.cells #[.int .u16 (V : Int), .int .u64 0, .int .u16 0, .string ⟨#[]⟩, .int .u32 0, .int .u32 0, .int .u32 0, .slice none 0 0] 27 (0, 0))) := ⟨hb7, K0.out.1.keep K0.out.2 (by decide) (by decide) hk7⟩
  clear K0 hb7 hk7 hc3
  go_wp2_with fail
  have hc4 := bu32G K1.out.1
  rw [R2.out.1, R2.out.2.1, R2.out.2.2] at hc4
  refine hc4.mono ?_
  rintro e X2 ⟨rfl, hb7, hk7⟩
  have K2 : Hid (Bg W0 X2 c r ao' cap' l b2 d2 ∧ X2.heap[ge]? = some (.cells #[.int .u16 (V : Int), .int .u64 0, .int .u16 0, .string ⟨#[]⟩, .int .u32 0, .int .u32 0, .int .u32 0, .slice none 0 0] 27 (0, 0))) := ⟨hb7, K1.out.1.keep K1.out.2 (by decide) (by decide) hk7⟩
  clear K1 hb7 hk7 hc4
  have y0 : X2.cell? ⟨ge, 4, none⟩ = some (.int .u32 0) := by rw [blk_at K2.out.2]; rfl
  have fr0 := blk_free K2.out.2 4
  have S0 : Hid (Bg W0 (X2.setCell ⟨ge, 4, none⟩ (.int .u32 (v0 : Int))) c r ao' cap' l b2 d2 ∧ (X2.setCell ⟨ge, 4, none⟩ (.int .u32 (v0 : Int))).heap[ge]? = some (.cells #[.int .u16 (V : Int), .int .u64 0, .int .u16 0, .string ⟨#[]⟩, .int .u32 (v0 : Int), .int .u32 0, .int .u32 0, .slice none 0 0] 27 (0, 0))) := ⟨K2.out.1.put K2.out.2 (by decide) (by decide) (by decide) HG.out 4 _, put_boxX K2.out.2 4 _ (by simp)⟩
  have y1 : (X2.setCell ⟨ge, 4, none⟩ (.int .u32 (v0 : Int))).cell? ⟨ge, 5, none⟩ = some (.int .u32 0) := by rw [blk_at S0.out.2]; rfl
  have fr1 := blk_free S0.out.2 5
  have S1 : Hid (Bg W0 ((X2.setCell ⟨ge, 4, none⟩ (.int .u32 (v0 : Int))).setCell ⟨ge, 5, none⟩ (.int .u32 (v1 : Int))) c r ao' cap' l b2 d2 ∧ ((X2.setCell ⟨ge, 4, none⟩ (.int .u32 (v0 : Int))).setCell ⟨ge, 5, none⟩ (.int .u32 (v1 : Int))).heap[ge]? = some (.cells #[.int .u16 (V : Int), .int .u64 0, .int .u16 0, .string ⟨#[]⟩, .int .u32 (v0 : Int), .int .u32 (v1 : Int), .int .u32 0, .slice none 0 0] 27 (0, 0))) := ⟨S0.out.1.put S0.out.2 (by decide) (by decide) (by decide) HG.out 5 _, put_boxX S0.out.2 5 _ (by simp)⟩
  have y2 : ((X2.setCell ⟨ge, 4, none⟩ (.int .u32 (v0 : Int))).setCell ⟨ge, 5, none⟩ (.int .u32 (v1 : Int))).cell? ⟨ge, 6, none⟩ = some (.int .u32 0) := by rw [blk_at S1.out.2]; rfl
  have fr2 := blk_free S1.out.2 6
  have S2 : Hid (Bg W0 (((X2.setCell ⟨ge, 4, none⟩ (.int .u32 (v0 : Int))).setCell ⟨ge, 5, none⟩ (.int .u32 (v1 : Int))).setCell ⟨ge, 6, none⟩ (.int .u32 (v2 : Int))) c r ao' cap' l b2 d2 ∧ (((X2.setCell ⟨ge, 4, none⟩ (.int .u32 (v0 : Int))).setCell ⟨ge, 5, none⟩ (.int .u32 (v1 : Int))).setCell ⟨ge, 6, none⟩ (.int .u32 (v2 : Int))).heap[ge]? = some (.cells #[.int .u16 (V : Int), .int .u64 0, .int .u16 0, .string ⟨#[]⟩, .int .u32 (v0 : Int), .int .u32 (v1 : Int), .int .u32 (v2 : Int), .slice none 0 0] 27 (0, 0))) := ⟨S1.out.1.put S1.out.2 (by decide) (by decide) (by decide) HG.out 6 _, put_boxX S1.out.2 6 _ (by simp)⟩
  obtain ⟨W8, hW8⟩ : ∃ W8, W8 = (((X2.setCell ⟨ge, 4, none⟩ (.int .u32 (v0 : Int))).setCell ⟨ge, 5, none⟩ (.int .u32 (v1 : Int))).setCell ⟨ge, 6, none⟩ (.int .u32 (v2 : Int))) := ⟨_, rfl⟩
  rw [← hW8] at S2
  have k0 : (((X2.setCell ⟨ge, 4, none⟩ (.int .u32 (v0 : Int))).setCell ⟨ge, 5, none⟩ (.int .u32 (v1 : Int))).setCell ⟨ge, 6, none⟩ (.int .u32 (v2 : Int))).cell? ⟨ge, 0, none⟩ = some (.int .u16 (V : Int)) := by rw [← hW8, blk_at S2.out.2]; rfl
  have k1 : (((X2.setCell ⟨ge, 4, none⟩ (.int .u32 (v0 : Int))).setCell ⟨ge, 5, none⟩ (.int .u32 (v1 : Int))).setCell ⟨ge, 6, none⟩ (.int .u32 (v2 : Int))).cell? ⟨ge, 1, none⟩ = some (.int .u64 0) := by rw [← hW8, blk_at S2.out.2]; rfl
  have k2 : (((X2.setCell ⟨ge, 4, none⟩ (.int .u32 (v0 : Int))).setCell ⟨ge, 5, none⟩ (.int .u32 (v1 : Int))).setCell ⟨ge, 6, none⟩ (.int .u32 (v2 : Int))).cell? ⟨ge, 2, none⟩ = some (.int .u16 0) := by rw [← hW8, blk_at S2.out.2]; rfl
  have k3 : (((X2.setCell ⟨ge, 4, none⟩ (.int .u32 (v0 : Int))).setCell ⟨ge, 5, none⟩ (.int .u32 (v1 : Int))).setCell ⟨ge, 6, none⟩ (.int .u32 (v2 : Int))).cell? ⟨ge, 3, none⟩ = some (.string ⟨#[]⟩) := by rw [← hW8, blk_at S2.out.2]; rfl
  have k4 : (((X2.setCell ⟨ge, 4, none⟩ (.int .u32 (v0 : Int))).setCell ⟨ge, 5, none⟩ (.int .u32 (v1 : Int))).setCell ⟨ge, 6, none⟩ (.int .u32 (v2 : Int))).cell? ⟨ge, 4, none⟩ = some (.int .u32 (v0 : Int)) := by rw [← hW8, blk_at S2.out.2]; rfl
  have k5 : (((X2.setCell ⟨ge, 4, none⟩ (.int .u32 (v0 : Int))).setCell ⟨ge, 5, none⟩ (.int .u32 (v1 : Int))).setCell ⟨ge, 6, none⟩ (.int .u32 (v2 : Int))).cell? ⟨ge, 5, none⟩ = some (.int .u32 (v1 : Int)) := by rw [← hW8, blk_at S2.out.2]; rfl
  have k6 : (((X2.setCell ⟨ge, 4, none⟩ (.int .u32 (v0 : Int))).setCell ⟨ge, 5, none⟩ (.int .u32 (v1 : Int))).setCell ⟨ge, 6, none⟩ (.int .u32 (v2 : Int))).cell? ⟨ge, 6, none⟩ = some (.int .u32 (v2 : Int)) := by rw [← hW8, blk_at S2.out.2]; rfl
  have k7 : (((X2.setCell ⟨ge, 4, none⟩ (.int .u32 (v0 : Int))).setCell ⟨ge, 5, none⟩ (.int .u32 (v1 : Int))).setCell ⟨ge, 6, none⟩ (.int .u32 (v2 : Int))).cell? ⟨ge, 7, none⟩ = some (.slice none 0 0) := by rw [← hW8, blk_at S2.out.2]; rfl
  go_wp2_with fail
  rw [← hW8]
  refine (wholeI_no V 0 0 ⟨#[]⟩ v0 v1 v2 none 0 0 81 (by decide) S2.out.1 HFn.out).mono ?_
  rintro e W9 ⟨rfl, hb9, hk9⟩
  have HY : Hid (Below w.heap.size w W9 ∧ W9.heap[w.heap.size]? = some (.cells #[.int .u16 0, .int .u64 0, .int .u16 0, .string ⟨#[]⟩, .int .u32 0, .int .u32 0, .int .u32 0, .slice none 0 0] 27 (0, 0))) := ⟨HX.out.bel.trans (hb9.mono HX.out.bel.size), by rw [hb9.block _ (by have := HX.out.size; omega)]; exact HX.out.a⟩
  have za0 : W9.cell? ⟨w.heap.size, 0, none⟩ = some (.int .u16 0) := by rw [blk_at HY.out.2]; rfl
  have ya0 : W9.frozen? ⟨w.heap.size, 0, none⟩ = false := blk_free HY.out.2 0
  have za1 : W9.cell? ⟨w.heap.size, 1, none⟩ = some (.int .u64 0) := by rw [blk_at HY.out.2]; rfl
  have ya1 : W9.frozen? ⟨w.heap.size, 1, none⟩ = false := blk_free HY.out.2 1
  have za2 : W9.cell? ⟨w.heap.size, 2, none⟩ = some (.int .u16 0) := by rw [blk_at HY.out.2]; rfl
  have ya2 : W9.frozen? ⟨w.heap.size, 2, none⟩ = false := blk_free HY.out.2 2
  have za3 : W9.cell? ⟨w.heap.size, 3, none⟩ = some (.string ⟨#[]⟩) := by rw [blk_at HY.out.2]; rfl
  have ya3 : W9.frozen? ⟨w.heap.size, 3, none⟩ = false := blk_free HY.out.2 3
  have za4 : W9.cell? ⟨w.heap.size, 4, none⟩ = some (.int .u32 0) := by rw [blk_at HY.out.2]; rfl
  have ya4 : W9.frozen? ⟨w.heap.size, 4, none⟩ = false := blk_free HY.out.2 4
  have za5 : W9.cell? ⟨w.heap.size, 5, none⟩ = some (.int .u32 0) := by rw [blk_at HY.out.2]; rfl
  have ya5 : W9.frozen? ⟨w.heap.size, 5, none⟩ = false := blk_free HY.out.2 5
  have za6 : W9.cell? ⟨w.heap.size, 6, none⟩ = some (.int .u32 0) := by rw [blk_at HY.out.2]; rfl
  have ya6 : W9.frozen? ⟨w.heap.size, 6, none⟩ = false := blk_free HY.out.2 6
  have za7 : W9.cell? ⟨w.heap.size, 7, none⟩ = some (.slice none 0 0) := by rw [blk_at HY.out.2]; rfl
  have ya7 : W9.frozen? ⟨w.heap.size, 7, none⟩ = false := blk_free HY.out.2 7
  have hs0 : w.heap.size < W0.heap.size := by have := HX.out.size; omega
  clear hb9 hk9 K2 S0 y0 fr0 S1 y1 fr1 S2 y2 fr2 k0 k1 k2 k3 k4 k5 k6 k7 hW8
  go_wp2
  obtain ⟨hp, hq⟩ := putc8 HY.out.2 (.int .u16 0) (.int .u64 0) (.int .u16 0) (.string ⟨#[]⟩) (.int .u32 0) (.int .u32 0) (.int .u32 0) (.slice none 0 0)
  generalize ((((((((W9.setCell ⟨w.heap.size, 0, none⟩ (.int .u16 0)).setCell ⟨w.heap.size, 1, none⟩ (.int .u64 0)).setCell ⟨w.heap.size, 2, none⟩ (.int .u16 0)).setCell ⟨w.heap.size, 3, none⟩ (.string ⟨#[]⟩)).setCell ⟨w.heap.size, 4, none⟩ (.int .u32 0)).setCell ⟨w.heap.size, 5, none⟩ (.int .u32 0)).setCell ⟨w.heap.size, 6, none⟩ (.int .u32 0)).setCell ⟨w.heap.size, 7, none⟩ (.slice none 0 0)) = Wz at hp hq ⊢
  exact bodyPost_ret (results_cell_tmp1 rfl _ _ w.heap.size 27 _ (0, 0) _ rfl hp Tryd.underlying27 rfl infoI) rfl ⟨rfl, HY.out.1.trans (hq.below HY.out.1.size (fun g hg => by omega))⟩
end Go.Proofs.YtjikibhhhchgeaaDoor

namespace Go.Proofs.YtjikibhhhchgeaaDoor
open Go.RowKit
set_option linter.unusedVariables false
set_option linter.unusedSimpArgs false
set_option maxRecDepth 100000
set_option maxHeartbeats 8000000 in
theorem decOption_ok (b off cap n : Nat) (l : List Nat) (most : Nat) (c k : Nat) (w : World) (h : CRow w (some ⟨b, off, none⟩) cap l) (HN : Hid (l.length = n)) (hs : 16 ≤ n) (HX : Hid (valB ((l.drop 0).take 8) = mHave)) (HX1 : Hid (valB ((l.drop 8).take 4) = c)) (HX2 : Hid (valB ((l.drop 12).take 4) = k)) (hc4 : c < 4294967296) (hk4 : k < 4294967296) (hm4 : most < 4294967296) (hle : k ≤ most) (hfit : k ≤ n - 16) (N : Nat) (hN : 16 + k = N) (m : List Nat) (hm : (l.drop 16).take k = m) :
    Calls Tryd.prog 49 #[.slice (some ⟨b, off, none⟩) n cap, .int .u32 (most : Int)] w fun e w' => ∃ ao2 cap2, e = .returned (.tuple #[.agg #[.int .u32 (c : Int), .int .u32 (k : Int), .bool false, .slice ao2 k cap2], .int .i64 (N : Int), .int .i64 0]) ∧ w'.ownsRow w.heap.size 5 1 (.slice ao2 k cap2) k (m.map bv) ∧ Below w.heap.size w w' := by
  have hnl := h.row.len
  rw [HN.out] at hnl
  have hsl : 16 ≤ l.length := by rw [HN.out]; exact hs
  have HC : Hid (CRow w (some ⟨b, off, none⟩) cap l) := h
  obtain ⟨W0, hW0⟩ : ∃ W0, W0 = (((w.alloc (.cells #[.int .u32 0, .int .u32 0, .bool false, nilV] 111)).alloc (.cells #[.int .u32 0, .int .u32 0, .bool false, nilV] 111)).alloc (.cells #[.int .u32 0, .int .u32 0, .bool false, nilV] 111)) := ⟨_, rfl⟩
  have HO : Hid (Calls Tryd.prog 81 #[.slice (some ⟨b, off, none⟩) n cap, .int .i64 16] W0 fun e W' => ∃ r hh ao' cap' a2 c2, e = .returned (.pointer (some ⟨r, 0, none⟩)) ∧ Dec w W' (bx3 w 111 #[.int .u32 0, .int .u32 0, .bool false, nilV] #[.int .u32 0, .int .u32 0, .bool false, nilV] #[.int .u32 0, .int .u32 0, .bool false, nilV]) W0.heap.size r hh ao' cap' (l.take 16) 0 (.slice (some a2) (n - 16) c2) 0 16 0 ∧ n - 16 ≤ c2 ∧ c2 ≤ 9223372036854775807 ∧ (n - 16 ≠ 0 → a2 = ⟨b, off + 16, none⟩)) := by
    rw [hW0]; exact open_ok b off cap n 16 l (bx3_bel w _ _ _) (bx3_new w _ _ _ _) (bx3_nd w _ _ _ _) (h.later (bx3_bel w _ _ _)) HN hs (by decide) (by decide)
  clear h
  go_enter Tryd.func49, Tryd.ntmps49
  go_wp2
  refine wp_scope_jumps 0 (fun _ _ => False) (fun _ _ => 0) rfl ?first ?pass
  case first =>
    go_wp2_with fail
    rw [← hW0]
    clear hW0
    refine HO.out.mono ?_
    rintro e W1 ⟨r, hh, ao', cap', a2, c2, rfl, h1, hc1, hc2, ha2⟩
    have H1 : Hid _ := h1
    have HA : Hid _ := ha2
    clear h1 HO ha2
    go_wp2_with fail
    refine (rx_u64 H1.out mHave HX.out (by decide) hsl).mono ?_
    rintro e W2 ⟨rfl, hx⟩
    have H2 : Hid _ := hx
    clear hx H1
    go_wp2_with fail
    refine (magic_ok H2.out mHave).mono ?_
    rintro e W3 ⟨rfl, hx⟩
    have H3 : Hid _ := hx
    clear hx H2
    go_wp2_with fail
    refine (rx_u32 H3.out c HX1.out (by decide) hsl).mono ?_
    rintro e W4 ⟨rfl, hx⟩
    have H4 : Hid _ := hx
    clear hx H3
    go_wp2_with fail
    refine (rx_u32 H4.out k HX2.out (by decide) hsl).mono ?_
    rintro e W5 ⟨rfl, hx⟩
    have H5 : Hid _ := hx
    clear hx H4
    obtain ⟨s0, u0⟩ := H5.out.b (.tail _ (.tail _ (.head _))) 0
    simp at s0
    obtain ⟨s1, u1⟩ := H5.out.b (.tail _ (.tail _ (.head _))) 1
    simp at s1
    go_wp2_with fail
    replace H5 : Hid _ := H5.out.putS 0 (.int .u32 (c : Int)) #[.int .u32 (c : Int), .int .u32 0, .bool false, nilV] rfl
    replace H5 : Hid _ := H5.out.putS 1 (.int .u32 (k : Int)) #[.int .u32 (c : Int), .int .u32 (k : Int), .bool false, nilV] rfl
    refine (measure_rest H5.out (by decide) (by omega) k most hm4 hle N hN).mono ?_
    rintro e W6 hx
    have HX9 : Hid _ := hx
    clear hx H5 s0 u0 s1 u1
    rcases HX9.out with ⟨hx, _⟩ | ⟨_, rfl, hx⟩
    · omega
    have H6 : Hid _ := hx
    clear hx HX9
    have r4 := H6.out.lb.ce
    have hml : m.length = k := by rw [← hm, List.length_take, List.length_drop, HN.out]; omega
    have hmt : ∀ x ∈ m, x < 256 := fun x hx => HC.out.row.lt x (by rw [← hm] at hx; exact List.mem_of_mem_drop (List.mem_of_mem_take hx))
    have HDt : Hid (∀ q, Calls Tryd.prog 87 #[.pointer (some ⟨r, 0, none⟩)] (W6.drewN q) fun e W' => ∃ ao2 cap2, e = .returned (.slice ao2 k cap2) ∧ W'.ownsRow W6.heap.size 5 1 (.slice ao2 k cap2) k (m.map bv) ∧ Below W6.heap.size (W6.drewN q) W' ∧ Dec w W' (bx3 w 111 #[.int .u32 0, .int .u32 0, .bool false, nilV] #[.int .u32 0, .int .u32 0, .bool false, nilV] #[.int .u32 (c : Int), .int .u32 (k : Int), .bool false, nilV]) W0.heap.size r hh ao' cap' (l.take 16) (0 + 8 + 4 + 4) (.slice (some a2) (n - 16) c2) ((k : Nat) : Int) (N : Int) 0) := fun q => data_any (len := k) (H6.out.drewN q) m hml hmt (by rw [← hm]; exact tail_news HC.out (H6.out.drewN q).bel (by rw [HN.out]; exact HA.out)) (by omega) hc1 (by omega) hc2
    have HB : Hid (w.heap.size + 1 + 1 < W6.heap.size) := by show _ < _; have h1 := block_lt H6.out.rd; have h2 := H6.out.hr; have h3 : w.heap.size + 1 + 1 < _ := (H6.out.box _ (.tail _ (.tail _ (.head _)))).2.2; omega
    obtain ⟨s2, u2⟩ := H6.out.b (.tail _ (.tail _ (.head _))) 2
    simp at s2
    obtain ⟨s3, u3⟩ := H6.out.b (.tail _ (.tail _ (.head _))) 3
    simp at s3
    clear H6 HX HX1 HX2 HN HC hml hmt HA
    go_wp2
    go_region_with (go_at_call 87; refine (HDt.out _).mono ?_; rintro e W7 ⟨ao2, cap2, rfl, ho, hb, h9⟩; have H7 : Hid _ := h9; have HR : Hid (W7.ownsRow W6.heap.size 5 1 (.slice ao2 k cap2) k (m.map bv)) := ho; clear h9 ho hb; have r4' := H7.out.lb.ce; obtain ⟨q2, w2⟩ := H7.out.b (.tail _ (.tail _ (.head _))) 2; obtain ⟨q3, w3⟩ := H7.out.b (.tail _ (.tail _ (.head _))) 3; simp at q2 q3)
    all_goals
      clear s2 u2 s3 u3 r4 r4' q2 w2 q3 w3
      obtain ⟨c10, f10⟩ := H7.out.b (.tail _ (.head _)) 0
      obtain ⟨c20, f20⟩ := H7.out.b (.tail _ (.tail _ (.head _))) 0
      obtain ⟨c11, f11⟩ := H7.out.b (.tail _ (.head _)) 1
      obtain ⟨c21, f21⟩ := H7.out.b (.tail _ (.tail _ (.head _))) 1
      obtain ⟨c12, f12⟩ := H7.out.b (.tail _ (.head _)) 2
      obtain ⟨c22, f22⟩ := H7.out.b (.tail _ (.tail _ (.head _))) 2
      obtain ⟨c13, f13⟩ := H7.out.b (.tail _ (.head _)) 3
      obtain ⟨c23, f23⟩ := H7.out.b (.tail _ (.tail _ (.head _))) 3
      simp at c10 c20 c11 c21 c12 c22 c13 c23
      go_wp2
      go_step3
      have HF : Hid _ := ((((((H7.out.putS 2 (.bool false) #[.int .u32 (c : Int), .int .u32 (k : Int), .bool false, nilV] rfl).putS 3 (.slice ao2 k cap2) #[.int .u32 (c : Int), .int .u32 (k : Int), .bool false, .slice ao2 k cap2] rfl).putO 0 (.int .u32 (c : Int)) #[.int .u32 (c : Int), .int .u32 0, .bool false, nilV] rfl).putO 1 (.int .u32 (k : Int)) #[.int .u32 (c : Int), .int .u32 (k : Int), .bool false, nilV] rfl).putO 2 (.bool false) #[.int .u32 (c : Int), .int .u32 (k : Int), .bool false, nilV] rfl).putO 3 (.slice ao2 k cap2) #[.int .u32 (c : Int), .int .u32 (k : Int), .bool false, .slice ao2 k cap2] rfl)
      have HW : Hid ((((((((W7.setCell ⟨w.heap.size + 1 + 1, 2, none⟩ (.bool false)).setCell ⟨w.heap.size + 1 + 1, 3, none⟩ (.slice ao2 k cap2)).setCell ⟨w.heap.size + 1, 0, none⟩ (.int .u32 (c : Int))).setCell ⟨w.heap.size + 1, 1, none⟩ (.int .u32 (k : Int))).setCell ⟨w.heap.size + 1, 2, none⟩ (.bool false)).setCell ⟨w.heap.size + 1, 3, none⟩ (.slice ao2 k cap2))).ownsRow W6.heap.size 5 1 (.slice ao2 k cap2) k (m.map bv)) := setAll_owns [(w.heap.size + 1 + 1, 2, .bool false), (w.heap.size + 1 + 1, 3, .slice ao2 k cap2), (w.heap.size + 1, 0, .int .u32 (c : Int)), (w.heap.size + 1, 1, .int .u32 (k : Int)), (w.heap.size + 1, 2, .bool false), (w.heap.size + 1, 3, .slice ao2 k cap2)] W7 HR.out (by have := HB.out; simp; omega)
      clear HR H7 c10 f10 c20 f20 c11 f11 c21 f21 c12 f12 c22 f22 c13 f13 c23 f23
      generalize ((((((W7.setCell ⟨w.heap.size + 1 + 1, 2, none⟩ (.bool false)).setCell ⟨w.heap.size + 1 + 1, 3, none⟩ (.slice ao2 k cap2)).setCell ⟨w.heap.size + 1, 0, none⟩ (.int .u32 (c : Int))).setCell ⟨w.heap.size + 1, 1, none⟩ (.int .u32 (k : Int))).setCell ⟨w.heap.size + 1, 2, none⟩ (.bool false)).setCell ⟨w.heap.size + 1, 3, none⟩ (.slice ao2 k cap2)) = Wx at *
      have hn1 : ¬ (w.heap.size = r) := (HF.out.lb.box _ (.head _)).2.2
      have hn2 : ¬ (r = w.heap.size) := fun e => hn1 e.symm
      have r3 := HF.out.lb.cn
      have r4 := HF.out.lb.ce
      obtain ⟨c00, f00⟩ := HF.out.b (.head _) 0
      obtain ⟨c10, f10⟩ := HF.out.b (.tail _ (.head _)) 0
      obtain ⟨c01, f01⟩ := HF.out.b (.head _) 1
      obtain ⟨c11, f11⟩ := HF.out.b (.tail _ (.head _)) 1
      obtain ⟨c02, f02⟩ := HF.out.b (.head _) 2
      obtain ⟨c12, f12⟩ := HF.out.b (.tail _ (.head _)) 2
      obtain ⟨c03, f03⟩ := HF.out.b (.head _) 3
      obtain ⟨c13, f13⟩ := HF.out.b (.tail _ (.head _)) 3
      simp at c00 c10 c01 c11 c02 c12 c03 c13
      go_wp2
      go_region
      all_goals
        go_wp2
        rw [jump_ret]
        have HW2 := setAll_owns [(w.heap.size, 0, .int .u32 (c : Int)), (w.heap.size, 1, .int .u32 (k : Int)), (w.heap.size, 2, .bool false), (w.heap.size, 3, .slice ao2 k cap2)] Wx HW.out (by have := HB.out; simp; omega)
        have HB2 := below_drew (setAll_below [(w.heap.size, 0, .int .u32 (c : Int)), (w.heap.size, 1, .int .u32 (k : Int)), (w.heap.size, 2, .bool false), (w.heap.size, 3, .slice ao2 k cap2)] Wx HF.out.bel (by simp))
        exact bodyPost_ret (results_cell_tmp2 rfl _ _ w.heap.size 111 #[.int .u32 (c : Int), .int .u32 (k : Int), .bool false, .slice ao2 k cap2] (0, 0) _ rfl (put_box (put_box (put_box (put_box (HF.out.box _ (.head _)).1 0 (.int .u32 (c : Int)) rfl) 1 (.int .u32 (k : Int)) rfl) 2 (.bool false) rfl) 3 (.slice ao2 k cap2) rfl) Tryd.underlying111 rfl infoOpt) rfl ⟨_, _, rfl, owns_mono HW2 (by have := HB.out; omega), HB2⟩
  case pass =>
    rintro a W hf
    exact hf.elim
end Go.Proofs.YtjikibhhhchgeaaDoor

namespace Go.Proofs.YtjikibhhhchgeaaDoor
open Go.RowKit
set_option linter.unusedVariables false
set_option linter.unusedSimpArgs false
set_option maxRecDepth 100000

set_option maxHeartbeats 400000 in
theorem num_any (e : Int) (w : World) : Calls Tryd.prog 12 #[.int .i64 e] w fun r w' => r = .returned (.int .i64 e) ∧ w' = w := by
  go_enter Tryd.func12, Tryd.ntmps12
  go_wp2
  go_ret
  exact ⟨rfl, rfl⟩
theorem oL3_len : (oL 3 []).length = 16 := by decide
theorem gL3_len : (gL 3).length = 18 := by decide
theorem brow_nil (w : World) : BRow w none 0 [] := ⟨by simp, by simp, fun _ => ⟨rfl, rfl⟩, fun h => absurd rfl h⟩
set_option maxHeartbeats 4000000 in
theorem alive_any (w : World) (hT : Tb w) : Calls Tryd.prog 10 #[] w fun e w' => e = .returned (.bool true) ∧ Below w.heap.size w w' := by
  have HE : Hid (Calls Tryd.prog 48 #[.agg #[.int .u32 3, .int .u32 0, .bool false, .slice none 0 0]] w fun e w' => ∃ ao cap, e = .returned (.tuple #[.slice ao 16 cap, .int .i64 0]) ∧ Row w w' ao cap (oL 3 [])) := by
    have := encOption 3 none 0 [] w (by decide) (brow_nil w) (by simp) (by simp)
    rw [oL3_len] at this
    exact this
  have HTb : Hid (Tb w) := hT
  have HNum : Hid (∀ (e : Int) (w : World), Calls Tryd.prog 12 #[.int .i64 e] w fun r w' => r = .returned (.int .i64 e) ∧ w' = w) := num_any
  clear hT
  go_enter Tryd.func10, Tryd.ntmps10
  go_wp2_with fail
  refine HE.out.mono ?_
  rintro e w1 ⟨ao, cap, rfl, hr⟩
  have hc := hr.crow (by rw [oL3_len]; decide)
  have hb1 := hr.bel
  obtain ⟨b, off, rfl⟩ := hc.some (by rw [oL3_len]; decide)
  have HD : Hid (Calls Tryd.prog 49 #[.slice (some ⟨b, off, none⟩) 16 cap, .int .u32 0] w1 fun e w' => ∃ ao2 cap2, e = .returned (.tuple #[.agg #[.int .u32 3, .int .u32 0, .bool false, .slice ao2 0 cap2], .int .i64 16, .int .i64 0]) ∧ Below w1.heap.size w1 w') :=
    (decOption_ok b off cap 16 (oL 3 []) 0 3 0 w1 hc oL3_len (by decide) (by show valB _ = _; decide) (by show valB _ = _; decide) (by show valB _ = _; decide) (by decide) (by decide) (by decide) (by decide) (by decide) 16 rfl [] (by simp)).mono fun e w' ⟨ao2, cap2, he, _, hb⟩ => ⟨ao2, cap2, he, hb⟩
  have HB1 : Hid (Below w.heap.size w w1) := hb1
  clear hr hc hb1 HE
  go_wp2_with fail
  refine HD.out.mono ?_
  rintro e w2 ⟨ao2, cap2, rfl, hb⟩
  have HB2 : Hid (Below w.heap.size w w2) := HB1.out.trans (hb.mono HB1.out.size)
  clear hb HD HB1
  go_wp2_with (first | (go_at_call 12; refine (HNum.out _ _).mono ?_; rintro e w9 ⟨rfl, rfl⟩))
  obtain ⟨W3, hW3⟩ : ∃ W3, W3 = w2.alloc (.cells #[.int .u32 3, .int .u32 0, .bool false, .slice ao2 0 cap2] 111) := ⟨_, rfl⟩
  have HB3 : Hid (Below w.heap.size w W3) := by rw [hW3]; exact HB2.out.alloc HB2.out.size _
  rw [← hW3]
  clear hW3
  have HG : Hid (Calls Tryd.prog 50 #[.agg #[.int .u16 3]] W3 fun e w' => ∃ ao cap, e = .returned (.slice ao 18 cap) ∧ Row W3 w' ao cap (gL 3)) := by
    have := encGreeting 3 W3 (by decide)
    rw [gL3_len] at this
    exact this
  refine HG.out.mono ?_
  rintro e w4 ⟨ao4, cap4, rfl, hr⟩
  have hb4 : Below w.heap.size w w4 := HB3.out.trans (hr.bel.mono HB3.out.size)
  have HN : Hid (Calls Tryd.prog 51 #[.int .i64 1, .int .u32 7] w4 fun e w' => e = .returned (.string ⟨#[103, 111]⟩) ∧ Below w4.heap.size w4 w') := by
    have := wname_any 1 7 w4 (HTb.out.later hb4)
    rw [show nameOf 1 7 = ⟨#[103, 111]⟩ by kernel_rfl] at this
    exact this
  have HB4 : Hid (Below w.heap.size w w4) := hb4
  clear hr hb4 HG HB3 HB2
  go_wp2_with fail
  refine HN.out.mono ?_
  rintro e w5 ⟨rfl, hb⟩
  have HB5 : Hid (Below w.heap.size w w5) := HB4.out.trans (hb.mono HB4.out.size)
  clear hb HN
  go_wp2
  go_ret
  exact ⟨rfl, HB5.out⟩
end Go.Proofs.YtjikibhhhchgeaaDoor
