import Derived.Test.YtfifaaopdhcaaaaGreatDoorY13
import Derived.Test.YtfifaaopdhcaaaaGreatDoorY17
import Derived.Test.YtfifaaopdhcaaaaGreatDoorY15
namespace Go.Proofs.YtfifaaopdhcaaaaGreatDoor
open Go.RowKit
set_option linter.unusedVariables false
set_option linter.unusedSimpArgs false
set_option maxRecDepth 100000
set_option maxHeartbeats 2000000 in
theorem wholeH_ok (x0 : Nat) (x1 : Nat) {w W : World} {c r : Nat} {ao : Option Addr} {cap : Nat} {l : List Nat} {at_ er : Nat} (h : Bg w W c r ao cap l at_ er) (hn : ndE (decide (at_ = l.length)) er = 0) :
    Calls Tryz.prog 57 #[.pointer (some ⟨c, 0, none⟩), .agg #[.int .u64 (x0 : Int), .int .u32 (x1 : Int)]] W fun e w' => e = .returned (.tuple #[.agg #[.int .u64 (x0 : Int), .int .u32 (x1 : Int)], .int .i64 0]) ∧ Below w.heap.size w w' ∧ KeptIn (fun g => g = c) W w' := by
  have HN : Hid (ndE (decide (at_ = l.length)) er = 0) := hn
  clear hn
  have HE : Hid (∀ W, Bg w W c r ao cap l at_ er → Calls Tryz.prog 69 #[.pointer (some ⟨r, 0, none⟩)] W fun e w' => ∃ E : Int, e = .returned (.int .i64 E) ∧ (E == 0) = decide (at_ = l.length) ∧ ∃ q, w' = W.drewN q) := fun W h => rendG h
  have H : Hid (Bg w W c r ao cap l at_ er) := h
  clear h
  have q00 : ∀ o o', ((W.alloc o).alloc o').cell? ⟨c, 0, none⟩ = some (.pointer (some ⟨r, 0, none⟩)) := fun o o' => (H.out.later (below2 W o o')).c0
  go_enter Tryz.func57, Tryz.ntmps57
  go_wp2_with fail
  have hx : Bx2 W ((W.alloc (Obj.cells #[.int .u64 (x0 : Int), .int .u32 (x1 : Int)] 86)).alloc (Obj.cells #[.int .u64 0, .int .u32 0] 86)) #[.int .u64 (x0 : Int), .int .u32 (x1 : Int)] #[.int .u64 0, .int .u32 0] 86 86 := mkb2 W _ _ _ _
  generalize ((W.alloc (Obj.cells #[.int .u64 (x0 : Int), .int .u32 (x1 : Int)] 86)).alloc (Obj.cells #[.int .u64 0, .int .u32 0] 86)) = W5 at *
  refine (HE.out _ (H.out.later hx.bel)).mono ?_
  rintro e W6 ⟨E, rfl, hE, q, hw⟩
  have hy : Bx2 W W6 #[.int .u64 (x0 : Int), .int .u32 (x1 : Int)] #[.int .u64 0, .int .u32 0] 86 86 := by rw [hw]; exact hx.later (below_drewN _ q)
  have H6 : Hid (Bg w W6 c r ao cap l at_ er ∧ Bx2 W W6 #[.int .u64 (x0 : Int), .int .u32 (x1 : Int)] #[.int .u64 0, .int .u32 0] 86 86) := ⟨H.out.later hy.bel, hy⟩
  clear hw hx hy HE q00
  generalize hD : decide (at_ = l.length) = D at *
  go_wp2_with fail
  refine (needG D H6.out.1).mono ?_
  rintro e W7 ⟨rfl, hb7, hk7⟩
  rw [HN.out] at hb7
  have hcW : c < W.heap.size := block_lt H.out.bd
  have H7 : Hid (Bg w W7 c r ao cap l at_ 0 ∧ Bk2 c W W7 #[.int .u64 (x0 : Int), .int .u32 (x1 : Int)] #[.int .u64 0, .int .u32 0] 86 86) := ⟨hb7, Bk2.of hk7 H6.out.2 hcW⟩
  have kc1 := hb7.c1
  clear hb7 hk7 H6 hD
  go_wp2_with fail
  refine (wellG c 0 W7 kc1).mono ?_
  rintro e W8 ⟨rfl, hw⟩
  rw [hw]; clear hw
  have hy := H7.out.2
  have za0 : W7.cell? ⟨W.heap.size, 0, none⟩ = some (.int .u64 (x0 : Int)) := by rw [blk_at hy.a]; rfl
  have zb0 : W7.cell? ⟨W.heap.size + 1, 0, none⟩ = some (.int .u64 0) := by rw [blk_at hy.b]; rfl
  have yb0 : W7.frozen? ⟨W.heap.size + 1, 0, none⟩ = false := blk_free hy.b 0
  have za1 : W7.cell? ⟨W.heap.size, 1, none⟩ = some (.int .u32 (x1 : Int)) := by rw [blk_at hy.a]; rfl
  have zb1 : W7.cell? ⟨W.heap.size + 1, 1, none⟩ = some (.int .u32 0) := by rw [blk_at hy.b]; rfl
  have yb1 : W7.frozen? ⟨W.heap.size + 1, 1, none⟩ = false := blk_free hy.b 1
  clear hy
  go_wp2
  obtain ⟨hp, hq⟩ := putc2 H7.out.2.b (.int .u64 (x0 : Int)) (.int .u32 (x1 : Int))
  exact bodyPost_ret (results_cell_tmp1 rfl _ _ (W.heap.size + 1) 86 _ (0, 0) _ rfl hp Tryz.underlying86 rfl infoH) rfl ⟨rfl, H7.out.1.bel.trans (hq.below H7.out.1.bel.size (fun g hg => by have := H.out.bel.size; omega)), H7.out.2.kept.trans hq (fun g hg _ => by omega)⟩
set_option maxHeartbeats 2000000 in
theorem wholeH_no (x0 : Nat) (x1 : Nat) {w W : World} {c r : Nat} {ao : Option Addr} {cap : Nat} {l : List Nat} {at_ er : Nat} (z : Nat) (hz : z ≠ 0) (h : Bg w W c r ao cap l at_ er) (hn : ndE (decide (at_ = l.length)) er = z) :
    Calls Tryz.prog 57 #[.pointer (some ⟨c, 0, none⟩), .agg #[.int .u64 (x0 : Int), .int .u32 (x1 : Int)]] W fun e w' => e = .returned (.tuple #[.agg #[.int .u64 0, .int .u32 0], .int .i64 (z : Int)]) ∧ Below w.heap.size w w' ∧ KeptIn (fun g => g = c) W w' := by
  have HN : Hid (ndE (decide (at_ = l.length)) er = z) := hn
  have f0 : ((z : Int) == 0) = false := by rw [beq_eq_false_iff_ne]; omega
  clear hn hz
  have HE : Hid (∀ W, Bg w W c r ao cap l at_ er → Calls Tryz.prog 69 #[.pointer (some ⟨r, 0, none⟩)] W fun e w' => ∃ E : Int, e = .returned (.int .i64 E) ∧ (E == 0) = decide (at_ = l.length) ∧ ∃ q, w' = W.drewN q) := fun W h => rendG h
  have H : Hid (Bg w W c r ao cap l at_ er) := h
  clear h
  have q00 : ∀ o o', ((W.alloc o).alloc o').cell? ⟨c, 0, none⟩ = some (.pointer (some ⟨r, 0, none⟩)) := fun o o' => (H.out.later (below2 W o o')).c0
  go_enter Tryz.func57, Tryz.ntmps57
  go_wp2_with fail
  have hx : Bx2 W ((W.alloc (Obj.cells #[.int .u64 (x0 : Int), .int .u32 (x1 : Int)] 86)).alloc (Obj.cells #[.int .u64 0, .int .u32 0] 86)) #[.int .u64 (x0 : Int), .int .u32 (x1 : Int)] #[.int .u64 0, .int .u32 0] 86 86 := mkb2 W _ _ _ _
  generalize ((W.alloc (Obj.cells #[.int .u64 (x0 : Int), .int .u32 (x1 : Int)] 86)).alloc (Obj.cells #[.int .u64 0, .int .u32 0] 86)) = W5 at *
  refine (HE.out _ (H.out.later hx.bel)).mono ?_
  rintro e W6 ⟨E, rfl, hE, q, hw⟩
  have hy : Bx2 W W6 #[.int .u64 (x0 : Int), .int .u32 (x1 : Int)] #[.int .u64 0, .int .u32 0] 86 86 := by rw [hw]; exact hx.later (below_drewN _ q)
  have H6 : Hid (Bg w W6 c r ao cap l at_ er ∧ Bx2 W W6 #[.int .u64 (x0 : Int), .int .u32 (x1 : Int)] #[.int .u64 0, .int .u32 0] 86 86) := ⟨H.out.later hy.bel, hy⟩
  clear hw hx hy HE q00
  generalize hD : decide (at_ = l.length) = D at *
  go_wp2_with fail
  refine (needG D H6.out.1).mono ?_
  rintro e W7 ⟨rfl, hb7, hk7⟩
  rw [HN.out] at hb7
  have hcW : c < W.heap.size := block_lt H.out.bd
  have H7 : Hid (Bg w W7 c r ao cap l at_ z ∧ Bk2 c W W7 #[.int .u64 (x0 : Int), .int .u32 (x1 : Int)] #[.int .u64 0, .int .u32 0] 86 86) := ⟨hb7, Bk2.of hk7 H6.out.2 hcW⟩
  have kc1 := hb7.c1
  clear hb7 hk7 H6 hD
  go_wp2_with fail
  refine (wellG c z W7 kc1).mono ?_
  rintro e W8 ⟨rfl, hw⟩
  rw [hw]; clear hw
  rw [f0]
  have hy := H7.out.2
  have zb0 : W7.cell? ⟨W.heap.size + 1, 0, none⟩ = some (.int .u64 0) := by rw [blk_at hy.b]; rfl
  have yb0 : W7.frozen? ⟨W.heap.size + 1, 0, none⟩ = false := blk_free hy.b 0
  have zb1 : W7.cell? ⟨W.heap.size + 1, 1, none⟩ = some (.int .u32 0) := by rw [blk_at hy.b]; rfl
  have yb1 : W7.frozen? ⟨W.heap.size + 1, 1, none⟩ = false := blk_free hy.b 1
  clear hy
  have hN := below1 W7 (Obj.cells #[.int .u64 0, .int .u32 0] 86)
  have hc8 : (W7.alloc (Obj.cells #[.int .u64 0, .int .u32 0] 86)).cell? ⟨c, 1, none⟩ = some (.int .i64 (z : Int)) := cell_later hN kc1
  have hb8 := (H7.out.2.later hN).b
  have H8 : Hid (Below w.heap.size w (W7.alloc (Obj.cells #[.int .u64 0, .int .u32 0] 86)) ∧ KeptIn (fun g => g = c) W (W7.alloc (Obj.cells #[.int .u64 0, .int .u32 0] 86)) ∧ (W7.alloc (Obj.cells #[.int .u64 0, .int .u32 0] 86)).heap[W.heap.size + 1]? = some (.cells #[.int .u64 0, .int .u32 0] 86 (0, 0))) := ⟨H7.out.1.bel.trans (hN.mono H7.out.1.bel.size), (H7.out.2.later hN).kept, hb8⟩
  have zn0 : (W7.alloc (Obj.cells #[.int .u64 0, .int .u32 0] 86)).cell? ⟨W.heap.size + 1, 0, none⟩ = some (.int .u64 0) := by rw [blk_at hb8]; rfl
  have yn0 : (W7.alloc (Obj.cells #[.int .u64 0, .int .u32 0] 86)).frozen? ⟨W.heap.size + 1, 0, none⟩ = false := blk_free hb8 0
  have zn1 : (W7.alloc (Obj.cells #[.int .u64 0, .int .u32 0] 86)).cell? ⟨W.heap.size + 1, 1, none⟩ = some (.int .u32 0) := by rw [blk_at hb8]; rfl
  have yn1 : (W7.alloc (Obj.cells #[.int .u64 0, .int .u32 0] 86)).frozen? ⟨W.heap.size + 1, 1, none⟩ = false := blk_free hb8 1
  clear hN hb8
  go_wp2
  go_region
  go_wp2
  obtain ⟨hp, hq⟩ := putc2 H8.out.2.2 (.int .u64 0) (.int .u32 0)
  have hq' := hq.drewd
  exact bodyPost_ret (results_cell_tmp1 rfl _ _ (W.heap.size + 1) 86 _ (0, 0) _ rfl hp Tryz.underlying86 rfl infoH) rfl ⟨rfl, H8.out.1.trans (hq'.below H8.out.1.size (fun g hg => by have := H.out.bel.size; omega)), H8.out.2.1.trans hq' (fun g hg _ => by omega)⟩
end Go.Proofs.YtfifaaopdhcaaaaGreatDoor

namespace Go.Proofs.YtfifaaopdhcaaaaGreatDoor
open Go.RowKit
set_option linter.unusedVariables false
set_option linter.unusedSimpArgs false
set_option maxRecDepth 100000
theorem ndE81 (b : Bool) : ndE b 81 = 81 := by cases b <;> rfl
/-- what is left of a hole's bytes -/
def hoE (l : List Nat) : Nat := ndE (decide (raA l (raA l 0 8) 4 = l.length)) (ndE (okR l (raA l 0 8) 4) (ndE (okR l 0 8) 0))
theorem hoE_ok {l : List Nat} (h : l.length = 12) : hoE l = 0 := by
  have e1 : okR l 0 8 = true := by simp [okR]; omega
  have e2 : raA l 0 8 = 8 := by simp [raA, e1]
  have e3 : okR l 8 4 = true := by simp [okR]; omega
  have e4 : raA l 8 4 = l.length := by simp [raA, e3]; omega
  unfold hoE
  simp only [e2, e4, e3, e1, decide_true, ndE_true]
theorem hoE_no {l : List Nat} (h : l.length ≠ 12) : hoE l = 81 := by
  unfold hoE
  cases h8 : okR l 0 8 with
  | false => rw [show ndE false 0 = 81 from rfl, ndE81, ndE81]
  | true =>
    have e2 : raA l 0 8 = 8 := by simp [raA, h8]
    rw [e2]
    cases h4 : okR l 8 4 with
    | false => rw [ndE_true, show ndE false 0 = 81 from rfl, ndE81]
    | true =>
      have e4 : raA l 8 4 = 12 := by simp [raA, h4]
      rw [e4, decide_eq_false (fun e => h e.symm), ndE_true, ndE_true]; rfl
set_option maxHeartbeats 4000000 in
theorem unpackHole_ok (ao : Option Addr) (cap N : Nat) (l : List Nat) (w : World) (h : BRow w ao cap l) (hN : l.length = N) (hl9 : l.length = 12) :
    Calls Tryz.prog 27 #[.slice ao N cap] w fun e w' => e = .returned (.tuple #[.agg #[.int .u64 ((rvV l 0 8 : Nat) : Int), .int .u32 ((rvV l (raA l 0 8) 4 : Nat) : Int)], .int .i64 0]) ∧ Below w.heap.size w w' := by
  have HUp : Hid (∀ W, Below w.heap.size w W → Calls Tryz.prog 31 #[.slice ao N cap] W fun e w' => ∃ c r ao' cap', e = .returned (.pointer (some ⟨c, 0, none⟩)) ∧ Bg W w' c r ao' cap' l 0 0) := fun W hb => unpackG ao cap N l W (h.later hb) hN
  have HFn : Hid (ndE (decide (raA l (raA l 0 8) 4 = l.length)) (ndE (okR l (raA l 0 8) 4) (ndE (okR l 0 8) 0)) = 0) := hoE_ok hl9
  clear h hN hl9
  obtain ⟨V, hV⟩ : ∃ V, rvV l 0 8 = V := ⟨_, rfl⟩
  obtain ⟨a1, ha1⟩ : ∃ a1, raA l 0 8 = a1 := ⟨_, rfl⟩
  obtain ⟨e1, he1⟩ : ∃ e1, ndE (okR l 0 8) 0 = e1 := ⟨_, rfl⟩
  rw [ha1, he1] at HFn
  rw [ha1, hV]
  obtain ⟨V2, hV2⟩ : ∃ V2, rvV l a1 4 = V2 := ⟨_, rfl⟩
  obtain ⟨a2, ha2⟩ : ∃ a2, raA l a1 4 = a2 := ⟨_, rfl⟩
  obtain ⟨e2, he2⟩ : ∃ e2, ndE (okR l a1 4) e1 = e2 := ⟨_, rfl⟩
  rw [ha2, he2] at HFn
  rw [hV2]
  have HV : Hid (rvV l 0 8 = V ∧ raA l 0 8 = a1 ∧ ndE (okR l 0 8) 0 = e1) := ⟨hV, ha1, he1⟩
  have HV2 : Hid (rvV l a1 4 = V2 ∧ raA l a1 4 = a2 ∧ ndE (okR l a1 4) e1 = e2) := ⟨hV2, ha2, he2⟩
  clear hV ha1 he1 hV2 ha2 he2
  go_enter Tryz.func27, Tryz.ntmps27
  go_wp2_with fail
  have hx := mkb1 w #[.int .u64 0, .int .u32 0] 86
  generalize w.alloc (Obj.cells #[.int .u64 0, .int .u32 0] 86) = W0 at *
  refine (HUp.out _ hx.bel).mono ?_
  rintro e W1 ⟨c, r, ao', cap', rfl, hbd⟩
  have HX : Hid (Bx1 w W0 #[.int .u64 0, .int .u32 0] 86) := hx
  have H1 : Hid (Bg W0 W1 c r ao' cap' l 0 0) := hbd
  clear hx hbd HUp
  go_wp2_with fail
  have hc1 := bu64G H1.out
  rw [HV.out.1, HV.out.2.1, HV.out.2.2] at hc1
  refine hc1.mono ?_
  rintro e W2 ⟨rfl, hbd, _⟩
  have H2 : Hid (Bg W0 W2 c r ao' cap' l a1 e1) := hbd
  clear hbd H1 hc1
  go_wp2_with fail
  have hc2 := bu32G H2.out
  rw [HV2.out.1, HV2.out.2.1, HV2.out.2.2] at hc2
  refine hc2.mono ?_
  rintro e W3 ⟨rfl, hbd, _⟩
  have H3 : Hid (Bg W0 W3 c r ao' cap' l a2 e2) := hbd
  clear hbd H2 hc2
  go_wp2_with fail
  refine (wholeH_ok V V2 H3.out HFn.out).mono ?_
  rintro e W9 ⟨rfl, hb9, hk9⟩
  have HY : Hid (Below w.heap.size w W9 ∧ W9.heap[w.heap.size]? = some (.cells #[.int .u64 0, .int .u32 0] 86 (0, 0))) := ⟨HX.out.bel.trans (hb9.mono HX.out.bel.size), by rw [hb9.block _ (by have := HX.out.size; omega)]; exact HX.out.a⟩
  have za0 : W9.cell? ⟨w.heap.size, 0, none⟩ = some (.int .u64 0) := by rw [blk_at HY.out.2]; rfl
  have za1 : W9.cell? ⟨w.heap.size, 1, none⟩ = some (.int .u32 0) := by rw [blk_at HY.out.2]; rfl
  have ya0 : W9.frozen? ⟨w.heap.size, 0, none⟩ = false := blk_free HY.out.2 0
  have ya1 : W9.frozen? ⟨w.heap.size, 1, none⟩ = false := blk_free HY.out.2 1
  have hs0 : w.heap.size < W0.heap.size := by have := HX.out.size; omega
  clear hb9 hk9 H3
  go_wp2
  obtain ⟨hp, hq⟩ := putc2 HY.out.2 (.int .u64 (V : Int)) (.int .u32 (V2 : Int))
  exact bodyPost_ret (results_cell_tmp1 rfl _ _ w.heap.size 86 _ (0, 0) _ rfl hp Tryz.underlying86 rfl infoH) rfl ⟨rfl, HY.out.1.trans (hq.below HY.out.1.size (fun g hg => by omega))⟩
set_option maxHeartbeats 4000000 in
theorem unpackHole_no (ao : Option Addr) (cap N : Nat) (l : List Nat) (w : World) (h : BRow w ao cap l) (hN : l.length = N) (hl9 : l.length ≠ 12) :
    Calls Tryz.prog 27 #[.slice ao N cap] w fun e w' => e = .returned (.tuple #[.agg #[.int .u64 0, .int .u32 0], .int .i64 81]) ∧ Below w.heap.size w w' := by
  have HUp : Hid (∀ W, Below w.heap.size w W → Calls Tryz.prog 31 #[.slice ao N cap] W fun e w' => ∃ c r ao' cap', e = .returned (.pointer (some ⟨c, 0, none⟩)) ∧ Bg W w' c r ao' cap' l 0 0) := fun W hb => unpackG ao cap N l W (h.later hb) hN
  have HFn : Hid (ndE (decide (raA l (raA l 0 8) 4 = l.length)) (ndE (okR l (raA l 0 8) 4) (ndE (okR l 0 8) 0)) = 81) := hoE_no hl9
  clear h hN hl9
  obtain ⟨V, hV⟩ : ∃ V, rvV l 0 8 = V := ⟨_, rfl⟩
  obtain ⟨a1, ha1⟩ : ∃ a1, raA l 0 8 = a1 := ⟨_, rfl⟩
  obtain ⟨e1, he1⟩ : ∃ e1, ndE (okR l 0 8) 0 = e1 := ⟨_, rfl⟩
  rw [ha1, he1] at HFn
  
  obtain ⟨V2, hV2⟩ : ∃ V2, rvV l a1 4 = V2 := ⟨_, rfl⟩
  obtain ⟨a2, ha2⟩ : ∃ a2, raA l a1 4 = a2 := ⟨_, rfl⟩
  obtain ⟨e2, he2⟩ : ∃ e2, ndE (okR l a1 4) e1 = e2 := ⟨_, rfl⟩
  rw [ha2, he2] at HFn
  
  have HV : Hid (rvV l 0 8 = V ∧ raA l 0 8 = a1 ∧ ndE (okR l 0 8) 0 = e1) := ⟨hV, ha1, he1⟩
  have HV2 : Hid (rvV l a1 4 = V2 ∧ raA l a1 4 = a2 ∧ ndE (okR l a1 4) e1 = e2) := ⟨hV2, ha2, he2⟩
  clear hV ha1 he1 hV2 ha2 he2
  go_enter Tryz.func27, Tryz.ntmps27
  go_wp2_with fail
  have hx := mkb1 w #[.int .u64 0, .int .u32 0] 86
  generalize w.alloc (Obj.cells #[.int .u64 0, .int .u32 0] 86) = W0 at *
  refine (HUp.out _ hx.bel).mono ?_
  rintro e W1 ⟨c, r, ao', cap', rfl, hbd⟩
  have HX : Hid (Bx1 w W0 #[.int .u64 0, .int .u32 0] 86) := hx
  have H1 : Hid (Bg W0 W1 c r ao' cap' l 0 0) := hbd
  clear hx hbd HUp
  go_wp2_with fail
  have hc1 := bu64G H1.out
  rw [HV.out.1, HV.out.2.1, HV.out.2.2] at hc1
  refine hc1.mono ?_
  rintro e W2 ⟨rfl, hbd, _⟩
  have H2 : Hid (Bg W0 W2 c r ao' cap' l a1 e1) := hbd
  clear hbd H1 hc1
  go_wp2_with fail
  have hc2 := bu32G H2.out
  rw [HV2.out.1, HV2.out.2.1, HV2.out.2.2] at hc2
  refine hc2.mono ?_
  rintro e W3 ⟨rfl, hbd, _⟩
  have H3 : Hid (Bg W0 W3 c r ao' cap' l a2 e2) := hbd
  clear hbd H2 hc2
  go_wp2_with fail
  refine (wholeH_no V V2 81 (by decide) H3.out HFn.out).mono ?_
  rintro e W9 ⟨rfl, hb9, hk9⟩
  have HY : Hid (Below w.heap.size w W9 ∧ W9.heap[w.heap.size]? = some (.cells #[.int .u64 0, .int .u32 0] 86 (0, 0))) := ⟨HX.out.bel.trans (hb9.mono HX.out.bel.size), by rw [hb9.block _ (by have := HX.out.size; omega)]; exact HX.out.a⟩
  have za0 : W9.cell? ⟨w.heap.size, 0, none⟩ = some (.int .u64 0) := by rw [blk_at HY.out.2]; rfl
  have za1 : W9.cell? ⟨w.heap.size, 1, none⟩ = some (.int .u32 0) := by rw [blk_at HY.out.2]; rfl
  have ya0 : W9.frozen? ⟨w.heap.size, 0, none⟩ = false := blk_free HY.out.2 0
  have ya1 : W9.frozen? ⟨w.heap.size, 1, none⟩ = false := blk_free HY.out.2 1
  have hs0 : w.heap.size < W0.heap.size := by have := HX.out.size; omega
  clear hb9 hk9 H3
  go_wp2
  obtain ⟨hp, hq⟩ := putc2 HY.out.2 (.int .u64 0) (.int .u32 0)
  exact bodyPost_ret (results_cell_tmp1 rfl _ _ w.heap.size 86 _ (0, 0) _ rfl hp Tryz.underlying86 rfl infoH) rfl ⟨rfl, HY.out.1.trans (hq.below HY.out.1.size (fun g hg => by omega))⟩
end Go.Proofs.YtfifaaopdhcaaaaGreatDoor

namespace Go.Proofs.YtfifaaopdhcaaaaGreatDoor
open Go.RowKit
set_option linter.unusedVariables false
set_option linter.unusedSimpArgs false
set_option maxRecDepth 100000
set_option maxHeartbeats 2000000 in
theorem wholeQ_ok (x0 : ByteArray) (x1 : Option Addr) (n1 c1 : Nat) {w W : World} {c r : Nat} {ao : Option Addr} {cap : Nat} {l : List Nat} {at_ er : Nat} (h : Bg w W c r ao cap l at_ er) (hn : ndE (decide (at_ = l.length)) er = 0) :
    Calls Tryz.prog 47 #[.pointer (some ⟨c, 0, none⟩), .agg #[.string x0, .slice x1 n1 c1]] W fun e w' => e = .returned (.tuple #[.agg #[.string x0, .slice x1 n1 c1], .int .i64 0]) ∧ Below w.heap.size w w' ∧ KeptIn (fun g => g = c) W w' := by
  have HN : Hid (ndE (decide (at_ = l.length)) er = 0) := hn
  clear hn
  have HE : Hid (∀ W, Bg w W c r ao cap l at_ er → Calls Tryz.prog 69 #[.pointer (some ⟨r, 0, none⟩)] W fun e w' => ∃ E : Int, e = .returned (.int .i64 E) ∧ (E == 0) = decide (at_ = l.length) ∧ ∃ q, w' = W.drewN q) := fun W h => rendG h
  have H : Hid (Bg w W c r ao cap l at_ er) := h
  clear h
  have q00 : ∀ o o', ((W.alloc o).alloc o').cell? ⟨c, 0, none⟩ = some (.pointer (some ⟨r, 0, none⟩)) := fun o o' => (H.out.later (below2 W o o')).c0
  go_enter Tryz.func47, Tryz.ntmps47
  go_wp2_with fail
  have hx : Bx2 W ((W.alloc (Obj.cells #[.string x0, .slice x1 n1 c1] 46)).alloc (Obj.cells #[.string ⟨#[]⟩, .slice none 0 0] 46)) #[.string x0, .slice x1 n1 c1] #[.string ⟨#[]⟩, .slice none 0 0] 46 46 := mkb2 W _ _ _ _
  generalize ((W.alloc (Obj.cells #[.string x0, .slice x1 n1 c1] 46)).alloc (Obj.cells #[.string ⟨#[]⟩, .slice none 0 0] 46)) = W5 at *
  refine (HE.out _ (H.out.later hx.bel)).mono ?_
  rintro e W6 ⟨E, rfl, hE, q, hw⟩
  have hy : Bx2 W W6 #[.string x0, .slice x1 n1 c1] #[.string ⟨#[]⟩, .slice none 0 0] 46 46 := by rw [hw]; exact hx.later (below_drewN _ q)
  have H6 : Hid (Bg w W6 c r ao cap l at_ er ∧ Bx2 W W6 #[.string x0, .slice x1 n1 c1] #[.string ⟨#[]⟩, .slice none 0 0] 46 46) := ⟨H.out.later hy.bel, hy⟩
  clear hw hx hy HE q00
  generalize hD : decide (at_ = l.length) = D at *
  go_wp2_with fail
  refine (needG D H6.out.1).mono ?_
  rintro e W7 ⟨rfl, hb7, hk7⟩
  rw [HN.out] at hb7
  have hcW : c < W.heap.size := block_lt H.out.bd
  have H7 : Hid (Bg w W7 c r ao cap l at_ 0 ∧ Bk2 c W W7 #[.string x0, .slice x1 n1 c1] #[.string ⟨#[]⟩, .slice none 0 0] 46 46) := ⟨hb7, Bk2.of hk7 H6.out.2 hcW⟩
  have kc1 := hb7.c1
  clear hb7 hk7 H6 hD
  go_wp2_with fail
  refine (wellG c 0 W7 kc1).mono ?_
  rintro e W8 ⟨rfl, hw⟩
  rw [hw]; clear hw
  have hy := H7.out.2
  have za0 : W7.cell? ⟨W.heap.size, 0, none⟩ = some (.string x0) := by rw [blk_at hy.a]; rfl
  have zb0 : W7.cell? ⟨W.heap.size + 1, 0, none⟩ = some (.string ⟨#[]⟩) := by rw [blk_at hy.b]; rfl
  have yb0 : W7.frozen? ⟨W.heap.size + 1, 0, none⟩ = false := blk_free hy.b 0
  have za1 : W7.cell? ⟨W.heap.size, 1, none⟩ = some (.slice x1 n1 c1) := by rw [blk_at hy.a]; rfl
  have zb1 : W7.cell? ⟨W.heap.size + 1, 1, none⟩ = some (.slice none 0 0) := by rw [blk_at hy.b]; rfl
  have yb1 : W7.frozen? ⟨W.heap.size + 1, 1, none⟩ = false := blk_free hy.b 1
  clear hy
  go_wp2
  obtain ⟨hp, hq⟩ := putc2 H7.out.2.b (.string x0) (.slice x1 n1 c1)
  exact bodyPost_ret (results_cell_tmp1 rfl _ _ (W.heap.size + 1) 46 _ (0, 0) _ rfl hp Tryz.underlying46 rfl infoQ) rfl ⟨rfl, H7.out.1.bel.trans (hq.below H7.out.1.bel.size (fun g hg => by have := H.out.bel.size; omega)), H7.out.2.kept.trans hq (fun g hg _ => by omega)⟩
set_option maxHeartbeats 2000000 in
theorem wholeQ_no (x0 : ByteArray) (x1 : Option Addr) (n1 c1 : Nat) {w W : World} {c r : Nat} {ao : Option Addr} {cap : Nat} {l : List Nat} {at_ er : Nat} (z : Nat) (hz : z ≠ 0) (h : Bg w W c r ao cap l at_ er) (hn : ndE (decide (at_ = l.length)) er = z) :
    Calls Tryz.prog 47 #[.pointer (some ⟨c, 0, none⟩), .agg #[.string x0, .slice x1 n1 c1]] W fun e w' => e = .returned (.tuple #[.agg #[.string ⟨#[]⟩, .slice none 0 0], .int .i64 (z : Int)]) ∧ Below w.heap.size w w' ∧ KeptIn (fun g => g = c) W w' := by
  have HN : Hid (ndE (decide (at_ = l.length)) er = z) := hn
  have f0 : ((z : Int) == 0) = false := by rw [beq_eq_false_iff_ne]; omega
  clear hn hz
  have HE : Hid (∀ W, Bg w W c r ao cap l at_ er → Calls Tryz.prog 69 #[.pointer (some ⟨r, 0, none⟩)] W fun e w' => ∃ E : Int, e = .returned (.int .i64 E) ∧ (E == 0) = decide (at_ = l.length) ∧ ∃ q, w' = W.drewN q) := fun W h => rendG h
  have H : Hid (Bg w W c r ao cap l at_ er) := h
  clear h
  have q00 : ∀ o o', ((W.alloc o).alloc o').cell? ⟨c, 0, none⟩ = some (.pointer (some ⟨r, 0, none⟩)) := fun o o' => (H.out.later (below2 W o o')).c0
  go_enter Tryz.func47, Tryz.ntmps47
  go_wp2_with fail
  have hx : Bx2 W ((W.alloc (Obj.cells #[.string x0, .slice x1 n1 c1] 46)).alloc (Obj.cells #[.string ⟨#[]⟩, .slice none 0 0] 46)) #[.string x0, .slice x1 n1 c1] #[.string ⟨#[]⟩, .slice none 0 0] 46 46 := mkb2 W _ _ _ _
  generalize ((W.alloc (Obj.cells #[.string x0, .slice x1 n1 c1] 46)).alloc (Obj.cells #[.string ⟨#[]⟩, .slice none 0 0] 46)) = W5 at *
  refine (HE.out _ (H.out.later hx.bel)).mono ?_
  rintro e W6 ⟨E, rfl, hE, q, hw⟩
  have hy : Bx2 W W6 #[.string x0, .slice x1 n1 c1] #[.string ⟨#[]⟩, .slice none 0 0] 46 46 := by rw [hw]; exact hx.later (below_drewN _ q)
  have H6 : Hid (Bg w W6 c r ao cap l at_ er ∧ Bx2 W W6 #[.string x0, .slice x1 n1 c1] #[.string ⟨#[]⟩, .slice none 0 0] 46 46) := ⟨H.out.later hy.bel, hy⟩
  clear hw hx hy HE q00
  generalize hD : decide (at_ = l.length) = D at *
  go_wp2_with fail
  refine (needG D H6.out.1).mono ?_
  rintro e W7 ⟨rfl, hb7, hk7⟩
  rw [HN.out] at hb7
  have hcW : c < W.heap.size := block_lt H.out.bd
  have H7 : Hid (Bg w W7 c r ao cap l at_ z ∧ Bk2 c W W7 #[.string x0, .slice x1 n1 c1] #[.string ⟨#[]⟩, .slice none 0 0] 46 46) := ⟨hb7, Bk2.of hk7 H6.out.2 hcW⟩
  have kc1 := hb7.c1
  clear hb7 hk7 H6 hD
  go_wp2_with fail
  refine (wellG c z W7 kc1).mono ?_
  rintro e W8 ⟨rfl, hw⟩
  rw [hw]; clear hw
  rw [f0]
  have hy := H7.out.2
  have zb0 : W7.cell? ⟨W.heap.size + 1, 0, none⟩ = some (.string ⟨#[]⟩) := by rw [blk_at hy.b]; rfl
  have yb0 : W7.frozen? ⟨W.heap.size + 1, 0, none⟩ = false := blk_free hy.b 0
  have zb1 : W7.cell? ⟨W.heap.size + 1, 1, none⟩ = some (.slice none 0 0) := by rw [blk_at hy.b]; rfl
  have yb1 : W7.frozen? ⟨W.heap.size + 1, 1, none⟩ = false := blk_free hy.b 1
  clear hy
  have hN := below1 W7 (Obj.cells #[.string ⟨#[]⟩, .slice none 0 0] 46)
  have hc8 : (W7.alloc (Obj.cells #[.string ⟨#[]⟩, .slice none 0 0] 46)).cell? ⟨c, 1, none⟩ = some (.int .i64 (z : Int)) := cell_later hN kc1
  have hb8 := (H7.out.2.later hN).b
  have H8 : Hid (Below w.heap.size w (W7.alloc (Obj.cells #[.string ⟨#[]⟩, .slice none 0 0] 46)) ∧ KeptIn (fun g => g = c) W (W7.alloc (Obj.cells #[.string ⟨#[]⟩, .slice none 0 0] 46)) ∧ (W7.alloc (Obj.cells #[.string ⟨#[]⟩, .slice none 0 0] 46)).heap[W.heap.size + 1]? = some (.cells #[.string ⟨#[]⟩, .slice none 0 0] 46 (0, 0))) := ⟨H7.out.1.bel.trans (hN.mono H7.out.1.bel.size), (H7.out.2.later hN).kept, hb8⟩
  have zn0 : (W7.alloc (Obj.cells #[.string ⟨#[]⟩, .slice none 0 0] 46)).cell? ⟨W.heap.size + 1, 0, none⟩ = some (.string ⟨#[]⟩) := by rw [blk_at hb8]; rfl
  have yn0 : (W7.alloc (Obj.cells #[.string ⟨#[]⟩, .slice none 0 0] 46)).frozen? ⟨W.heap.size + 1, 0, none⟩ = false := blk_free hb8 0
  have zn1 : (W7.alloc (Obj.cells #[.string ⟨#[]⟩, .slice none 0 0] 46)).cell? ⟨W.heap.size + 1, 1, none⟩ = some (.slice none 0 0) := by rw [blk_at hb8]; rfl
  have yn1 : (W7.alloc (Obj.cells #[.string ⟨#[]⟩, .slice none 0 0] 46)).frozen? ⟨W.heap.size + 1, 1, none⟩ = false := blk_free hb8 1
  clear hN hb8
  go_wp2
  go_region
  go_wp2
  obtain ⟨hp, hq⟩ := putc2 H8.out.2.2 (.string ⟨#[]⟩) (.slice none 0 0)
  have hq' := hq.drewd
  exact bodyPost_ret (results_cell_tmp1 rfl _ _ (W.heap.size + 1) 46 _ (0, 0) _ rfl hp Tryz.underlying46 rfl infoQ) rfl ⟨rfl, H8.out.1.trans (hq'.below H8.out.1.size (fun g hg => by have := H.out.bel.size; omega)), H8.out.2.1.trans hq' (fun g hg _ => by omega)⟩
end Go.Proofs.YtfifaaopdhcaaaaGreatDoor

namespace Go.Proofs.YtfifaaopdhcaaaaGreatDoor
open Go.RowKit
set_option linter.unusedVariables false
set_option linter.unusedSimpArgs false
set_option maxRecDepth 100000
set_option maxHeartbeats 2000000 in
theorem wholeT_ok (x0 : Nat) (x1 : Option Addr) (n1 c1 : Nat) {w W : World} {c r : Nat} {ao : Option Addr} {cap : Nat} {l : List Nat} {at_ er : Nat} (h : Bg w W c r ao cap l at_ er) (hn : ndE (decide (at_ = l.length)) er = 0) :
    Calls Tryz.prog 54 #[.pointer (some ⟨c, 0, none⟩), .agg #[.int .u32 (x0 : Int), .slice x1 n1 c1]] W fun e w' => e = .returned (.tuple #[.agg #[.int .u32 (x0 : Int), .slice x1 n1 c1], .int .i64 0]) ∧ Below w.heap.size w w' ∧ KeptIn (fun g => g = c) W w' := by
  have HN : Hid (ndE (decide (at_ = l.length)) er = 0) := hn
  clear hn
  have HE : Hid (∀ W, Bg w W c r ao cap l at_ er → Calls Tryz.prog 69 #[.pointer (some ⟨r, 0, none⟩)] W fun e w' => ∃ E : Int, e = .returned (.int .i64 E) ∧ (E == 0) = decide (at_ = l.length) ∧ ∃ q, w' = W.drewN q) := fun W h => rendG h
  have H : Hid (Bg w W c r ao cap l at_ er) := h
  clear h
  have q00 : ∀ o o', ((W.alloc o).alloc o').cell? ⟨c, 0, none⟩ = some (.pointer (some ⟨r, 0, none⟩)) := fun o o' => (H.out.later (below2 W o o')).c0
  go_enter Tryz.func54, Tryz.ntmps54
  go_wp2_with fail
  have hx : Bx2 W ((W.alloc (Obj.cells #[.int .u32 (x0 : Int), .slice x1 n1 c1] 67)).alloc (Obj.cells #[.int .u32 0, .slice none 0 0] 67)) #[.int .u32 (x0 : Int), .slice x1 n1 c1] #[.int .u32 0, .slice none 0 0] 67 67 := mkb2 W _ _ _ _
  generalize ((W.alloc (Obj.cells #[.int .u32 (x0 : Int), .slice x1 n1 c1] 67)).alloc (Obj.cells #[.int .u32 0, .slice none 0 0] 67)) = W5 at *
  refine (HE.out _ (H.out.later hx.bel)).mono ?_
  rintro e W6 ⟨E, rfl, hE, q, hw⟩
  have hy : Bx2 W W6 #[.int .u32 (x0 : Int), .slice x1 n1 c1] #[.int .u32 0, .slice none 0 0] 67 67 := by rw [hw]; exact hx.later (below_drewN _ q)
  have H6 : Hid (Bg w W6 c r ao cap l at_ er ∧ Bx2 W W6 #[.int .u32 (x0 : Int), .slice x1 n1 c1] #[.int .u32 0, .slice none 0 0] 67 67) := ⟨H.out.later hy.bel, hy⟩
  clear hw hx hy HE q00
  generalize hD : decide (at_ = l.length) = D at *
  go_wp2_with fail
  refine (needG D H6.out.1).mono ?_
  rintro e W7 ⟨rfl, hb7, hk7⟩
  rw [HN.out] at hb7
  have hcW : c < W.heap.size := block_lt H.out.bd
  have H7 : Hid (Bg w W7 c r ao cap l at_ 0 ∧ Bk2 c W W7 #[.int .u32 (x0 : Int), .slice x1 n1 c1] #[.int .u32 0, .slice none 0 0] 67 67) := ⟨hb7, Bk2.of hk7 H6.out.2 hcW⟩
  have kc1 := hb7.c1
  clear hb7 hk7 H6 hD
  go_wp2_with fail
  refine (wellG c 0 W7 kc1).mono ?_
  rintro e W8 ⟨rfl, hw⟩
  rw [hw]; clear hw
  have hy := H7.out.2
  have za0 : W7.cell? ⟨W.heap.size, 0, none⟩ = some (.int .u32 (x0 : Int)) := by rw [blk_at hy.a]; rfl
  have zb0 : W7.cell? ⟨W.heap.size + 1, 0, none⟩ = some (.int .u32 0) := by rw [blk_at hy.b]; rfl
  have yb0 : W7.frozen? ⟨W.heap.size + 1, 0, none⟩ = false := blk_free hy.b 0
  have za1 : W7.cell? ⟨W.heap.size, 1, none⟩ = some (.slice x1 n1 c1) := by rw [blk_at hy.a]; rfl
  have zb1 : W7.cell? ⟨W.heap.size + 1, 1, none⟩ = some (.slice none 0 0) := by rw [blk_at hy.b]; rfl
  have yb1 : W7.frozen? ⟨W.heap.size + 1, 1, none⟩ = false := blk_free hy.b 1
  clear hy
  go_wp2
  obtain ⟨hp, hq⟩ := putc2 H7.out.2.b (.int .u32 (x0 : Int)) (.slice x1 n1 c1)
  exact bodyPost_ret (results_cell_tmp1 rfl _ _ (W.heap.size + 1) 67 _ (0, 0) _ rfl hp Tryz.underlying67 rfl infoT) rfl ⟨rfl, H7.out.1.bel.trans (hq.below H7.out.1.bel.size (fun g hg => by have := H.out.bel.size; omega)), H7.out.2.kept.trans hq (fun g hg _ => by omega)⟩
set_option maxHeartbeats 2000000 in
theorem wholeT_no (x0 : Nat) (x1 : Option Addr) (n1 c1 : Nat) {w W : World} {c r : Nat} {ao : Option Addr} {cap : Nat} {l : List Nat} {at_ er : Nat} (z : Nat) (hz : z ≠ 0) (h : Bg w W c r ao cap l at_ er) (hn : ndE (decide (at_ = l.length)) er = z) :
    Calls Tryz.prog 54 #[.pointer (some ⟨c, 0, none⟩), .agg #[.int .u32 (x0 : Int), .slice x1 n1 c1]] W fun e w' => e = .returned (.tuple #[.agg #[.int .u32 0, .slice none 0 0], .int .i64 (z : Int)]) ∧ Below w.heap.size w w' ∧ KeptIn (fun g => g = c) W w' := by
  have HN : Hid (ndE (decide (at_ = l.length)) er = z) := hn
  have f0 : ((z : Int) == 0) = false := by rw [beq_eq_false_iff_ne]; omega
  clear hn hz
  have HE : Hid (∀ W, Bg w W c r ao cap l at_ er → Calls Tryz.prog 69 #[.pointer (some ⟨r, 0, none⟩)] W fun e w' => ∃ E : Int, e = .returned (.int .i64 E) ∧ (E == 0) = decide (at_ = l.length) ∧ ∃ q, w' = W.drewN q) := fun W h => rendG h
  have H : Hid (Bg w W c r ao cap l at_ er) := h
  clear h
  have q00 : ∀ o o', ((W.alloc o).alloc o').cell? ⟨c, 0, none⟩ = some (.pointer (some ⟨r, 0, none⟩)) := fun o o' => (H.out.later (below2 W o o')).c0
  go_enter Tryz.func54, Tryz.ntmps54
  go_wp2_with fail
  have hx : Bx2 W ((W.alloc (Obj.cells #[.int .u32 (x0 : Int), .slice x1 n1 c1] 67)).alloc (Obj.cells #[.int .u32 0, .slice none 0 0] 67)) #[.int .u32 (x0 : Int), .slice x1 n1 c1] #[.int .u32 0, .slice none 0 0] 67 67 := mkb2 W _ _ _ _
  generalize ((W.alloc (Obj.cells #[.int .u32 (x0 : Int), .slice x1 n1 c1] 67)).alloc (Obj.cells #[.int .u32 0, .slice none 0 0] 67)) = W5 at *
  refine (HE.out _ (H.out.later hx.bel)).mono ?_
  rintro e W6 ⟨E, rfl, hE, q, hw⟩
  have hy : Bx2 W W6 #[.int .u32 (x0 : Int), .slice x1 n1 c1] #[.int .u32 0, .slice none 0 0] 67 67 := by rw [hw]; exact hx.later (below_drewN _ q)
  have H6 : Hid (Bg w W6 c r ao cap l at_ er ∧ Bx2 W W6 #[.int .u32 (x0 : Int), .slice x1 n1 c1] #[.int .u32 0, .slice none 0 0] 67 67) := ⟨H.out.later hy.bel, hy⟩
  clear hw hx hy HE q00
  generalize hD : decide (at_ = l.length) = D at *
  go_wp2_with fail
  refine (needG D H6.out.1).mono ?_
  rintro e W7 ⟨rfl, hb7, hk7⟩
  rw [HN.out] at hb7
  have hcW : c < W.heap.size := block_lt H.out.bd
  have H7 : Hid (Bg w W7 c r ao cap l at_ z ∧ Bk2 c W W7 #[.int .u32 (x0 : Int), .slice x1 n1 c1] #[.int .u32 0, .slice none 0 0] 67 67) := ⟨hb7, Bk2.of hk7 H6.out.2 hcW⟩
  have kc1 := hb7.c1
  clear hb7 hk7 H6 hD
  go_wp2_with fail
  refine (wellG c z W7 kc1).mono ?_
  rintro e W8 ⟨rfl, hw⟩
  rw [hw]; clear hw
  rw [f0]
  have hy := H7.out.2
  have zb0 : W7.cell? ⟨W.heap.size + 1, 0, none⟩ = some (.int .u32 0) := by rw [blk_at hy.b]; rfl
  have yb0 : W7.frozen? ⟨W.heap.size + 1, 0, none⟩ = false := blk_free hy.b 0
  have zb1 : W7.cell? ⟨W.heap.size + 1, 1, none⟩ = some (.slice none 0 0) := by rw [blk_at hy.b]; rfl
  have yb1 : W7.frozen? ⟨W.heap.size + 1, 1, none⟩ = false := blk_free hy.b 1
  clear hy
  have hN := below1 W7 (Obj.cells #[.int .u32 0, .slice none 0 0] 67)
  have hc8 : (W7.alloc (Obj.cells #[.int .u32 0, .slice none 0 0] 67)).cell? ⟨c, 1, none⟩ = some (.int .i64 (z : Int)) := cell_later hN kc1
  have hb8 := (H7.out.2.later hN).b
  have H8 : Hid (Below w.heap.size w (W7.alloc (Obj.cells #[.int .u32 0, .slice none 0 0] 67)) ∧ KeptIn (fun g => g = c) W (W7.alloc (Obj.cells #[.int .u32 0, .slice none 0 0] 67)) ∧ (W7.alloc (Obj.cells #[.int .u32 0, .slice none 0 0] 67)).heap[W.heap.size + 1]? = some (.cells #[.int .u32 0, .slice none 0 0] 67 (0, 0))) := ⟨H7.out.1.bel.trans (hN.mono H7.out.1.bel.size), (H7.out.2.later hN).kept, hb8⟩
  have zn0 : (W7.alloc (Obj.cells #[.int .u32 0, .slice none 0 0] 67)).cell? ⟨W.heap.size + 1, 0, none⟩ = some (.int .u32 0) := by rw [blk_at hb8]; rfl
  have yn0 : (W7.alloc (Obj.cells #[.int .u32 0, .slice none 0 0] 67)).frozen? ⟨W.heap.size + 1, 0, none⟩ = false := blk_free hb8 0
  have zn1 : (W7.alloc (Obj.cells #[.int .u32 0, .slice none 0 0] 67)).cell? ⟨W.heap.size + 1, 1, none⟩ = some (.slice none 0 0) := by rw [blk_at hb8]; rfl
  have yn1 : (W7.alloc (Obj.cells #[.int .u32 0, .slice none 0 0] 67)).frozen? ⟨W.heap.size + 1, 1, none⟩ = false := blk_free hb8 1
  clear hN hb8
  go_wp2
  go_region
  go_wp2
  obtain ⟨hp, hq⟩ := putc2 H8.out.2.2 (.int .u32 0) (.slice none 0 0)
  have hq' := hq.drewd
  exact bodyPost_ret (results_cell_tmp1 rfl _ _ (W.heap.size + 1) 67 _ (0, 0) _ rfl hp Tryz.underlying67 rfl infoT) rfl ⟨rfl, H8.out.1.trans (hq'.below H8.out.1.size (fun g hg => by have := H.out.bel.size; omega)), H8.out.2.1.trans hq' (fun g hg _ => by omega)⟩
end Go.Proofs.YtfifaaopdhcaaaaGreatDoor

namespace Go.Proofs.YtfifaaopdhcaaaaGreatDoor
open Go.RowKit
set_option linter.unusedVariables false
set_option linter.unusedSimpArgs false
set_option maxRecDepth 100000
set_option maxHeartbeats 2000000 in
theorem wholeE_ok (x0 : Nat) (x1 : ByteArray) (x2 : Bool) (x3 : Nat) {w W : World} {c r : Nat} {ao : Option Addr} {cap : Nat} {l : List Nat} {at_ er : Nat} (h : Bg w W c r ao cap l at_ er) (hn : ndE (decide (at_ = l.length)) er = 0) :
    Calls Tryz.prog 55 #[.pointer (some ⟨c, 0, none⟩), .agg #[.int .u32 (x0 : Int), .string x1, .bool x2, .int .u64 (x3 : Int)]] W fun e w' => e = .returned (.tuple #[.agg #[.int .u32 (x0 : Int), .string x1, .bool x2, .int .u64 (x3 : Int)], .int .i64 0]) ∧ Below w.heap.size w w' ∧ KeptIn (fun g => g = c) W w' := by
  have HN : Hid (ndE (decide (at_ = l.length)) er = 0) := hn
  clear hn
  have HE : Hid (∀ W, Bg w W c r ao cap l at_ er → Calls Tryz.prog 69 #[.pointer (some ⟨r, 0, none⟩)] W fun e w' => ∃ E : Int, e = .returned (.int .i64 E) ∧ (E == 0) = decide (at_ = l.length) ∧ ∃ q, w' = W.drewN q) := fun W h => rendG h
  have H : Hid (Bg w W c r ao cap l at_ er) := h
  clear h
  have q00 : ∀ o o', ((W.alloc o).alloc o').cell? ⟨c, 0, none⟩ = some (.pointer (some ⟨r, 0, none⟩)) := fun o o' => (H.out.later (below2 W o o')).c0
  go_enter Tryz.func55, Tryz.ntmps55
  go_wp2_with fail
  have hx : Bx2 W ((W.alloc (Obj.cells #[.int .u32 (x0 : Int), .string x1, .bool x2, .int .u64 (x3 : Int)] 74)).alloc (Obj.cells #[.int .u32 0, .string ⟨#[]⟩, .bool false, .int .u64 0] 74)) #[.int .u32 (x0 : Int), .string x1, .bool x2, .int .u64 (x3 : Int)] #[.int .u32 0, .string ⟨#[]⟩, .bool false, .int .u64 0] 74 74 := mkb2 W _ _ _ _
  generalize ((W.alloc (Obj.cells #[.int .u32 (x0 : Int), .string x1, .bool x2, .int .u64 (x3 : Int)] 74)).alloc (Obj.cells #[.int .u32 0, .string ⟨#[]⟩, .bool false, .int .u64 0] 74)) = W5 at *
  refine (HE.out _ (H.out.later hx.bel)).mono ?_
  rintro e W6 ⟨E, rfl, hE, q, hw⟩
  have hy : Bx2 W W6 #[.int .u32 (x0 : Int), .string x1, .bool x2, .int .u64 (x3 : Int)] #[.int .u32 0, .string ⟨#[]⟩, .bool false, .int .u64 0] 74 74 := by rw [hw]; exact hx.later (below_drewN _ q)
  have H6 : Hid (Bg w W6 c r ao cap l at_ er ∧ Bx2 W W6 #[.int .u32 (x0 : Int), .string x1, .bool x2, .int .u64 (x3 : Int)] #[.int .u32 0, .string ⟨#[]⟩, .bool false, .int .u64 0] 74 74) := ⟨H.out.later hy.bel, hy⟩
  clear hw hx hy HE q00
  generalize hD : decide (at_ = l.length) = D at *
  go_wp2_with fail
  refine (needG D H6.out.1).mono ?_
  rintro e W7 ⟨rfl, hb7, hk7⟩
  rw [HN.out] at hb7
  have hcW : c < W.heap.size := block_lt H.out.bd
  have H7 : Hid (Bg w W7 c r ao cap l at_ 0 ∧ Bk2 c W W7 #[.int .u32 (x0 : Int), .string x1, .bool x2, .int .u64 (x3 : Int)] #[.int .u32 0, .string ⟨#[]⟩, .bool false, .int .u64 0] 74 74) := ⟨hb7, Bk2.of hk7 H6.out.2 hcW⟩
  have kc1 := hb7.c1
  clear hb7 hk7 H6 hD
  go_wp2_with fail
  refine (wellG c 0 W7 kc1).mono ?_
  rintro e W8 ⟨rfl, hw⟩
  rw [hw]; clear hw
  have hy := H7.out.2
  have za0 : W7.cell? ⟨W.heap.size, 0, none⟩ = some (.int .u32 (x0 : Int)) := by rw [blk_at hy.a]; rfl
  have zb0 : W7.cell? ⟨W.heap.size + 1, 0, none⟩ = some (.int .u32 0) := by rw [blk_at hy.b]; rfl
  have yb0 : W7.frozen? ⟨W.heap.size + 1, 0, none⟩ = false := blk_free hy.b 0
  have za1 : W7.cell? ⟨W.heap.size, 1, none⟩ = some (.string x1) := by rw [blk_at hy.a]; rfl
  have zb1 : W7.cell? ⟨W.heap.size + 1, 1, none⟩ = some (.string ⟨#[]⟩) := by rw [blk_at hy.b]; rfl
  have yb1 : W7.frozen? ⟨W.heap.size + 1, 1, none⟩ = false := blk_free hy.b 1
  have za2 : W7.cell? ⟨W.heap.size, 2, none⟩ = some (.bool x2) := by rw [blk_at hy.a]; rfl
  have zb2 : W7.cell? ⟨W.heap.size + 1, 2, none⟩ = some (.bool false) := by rw [blk_at hy.b]; rfl
  have yb2 : W7.frozen? ⟨W.heap.size + 1, 2, none⟩ = false := blk_free hy.b 2
  have za3 : W7.cell? ⟨W.heap.size, 3, none⟩ = some (.int .u64 (x3 : Int)) := by rw [blk_at hy.a]; rfl
  have zb3 : W7.cell? ⟨W.heap.size + 1, 3, none⟩ = some (.int .u64 0) := by rw [blk_at hy.b]; rfl
  have yb3 : W7.frozen? ⟨W.heap.size + 1, 3, none⟩ = false := blk_free hy.b 3
  clear hy
  go_wp2
  obtain ⟨hp, hq⟩ := putc4 H7.out.2.b (.int .u32 (x0 : Int)) (.string x1) (.bool x2) (.int .u64 (x3 : Int))
  exact bodyPost_ret (results_cell_tmp1 rfl _ _ (W.heap.size + 1) 74 _ (0, 0) _ rfl hp Tryz.underlying74 rfl infoE) rfl ⟨rfl, H7.out.1.bel.trans (hq.below H7.out.1.bel.size (fun g hg => by have := H.out.bel.size; omega)), H7.out.2.kept.trans hq (fun g hg _ => by omega)⟩
set_option maxHeartbeats 2000000 in
theorem wholeE_no (x0 : Nat) (x1 : ByteArray) (x2 : Bool) (x3 : Nat) {w W : World} {c r : Nat} {ao : Option Addr} {cap : Nat} {l : List Nat} {at_ er : Nat} (z : Nat) (hz : z ≠ 0) (h : Bg w W c r ao cap l at_ er) (hn : ndE (decide (at_ = l.length)) er = z) :
    Calls Tryz.prog 55 #[.pointer (some ⟨c, 0, none⟩), .agg #[.int .u32 (x0 : Int), .string x1, .bool x2, .int .u64 (x3 : Int)]] W fun e w' => e = .returned (.tuple #[.agg #[.int .u32 0, .string ⟨#[]⟩, .bool false, .int .u64 0], .int .i64 (z : Int)]) ∧ Below w.heap.size w w' ∧ KeptIn (fun g => g = c) W w' := by
  have HN : Hid (ndE (decide (at_ = l.length)) er = z) := hn
  have f0 : ((z : Int) == 0) = false := by rw [beq_eq_false_iff_ne]; omega
  clear hn hz
  have HE : Hid (∀ W, Bg w W c r ao cap l at_ er → Calls Tryz.prog 69 #[.pointer (some ⟨r, 0, none⟩)] W fun e w' => ∃ E : Int, e = .returned (.int .i64 E) ∧ (E == 0) = decide (at_ = l.length) ∧ ∃ q, w' = W.drewN q) := fun W h => rendG h
  have H : Hid (Bg w W c r ao cap l at_ er) := h
  clear h
  have q00 : ∀ o o', ((W.alloc o).alloc o').cell? ⟨c, 0, none⟩ = some (.pointer (some ⟨r, 0, none⟩)) := fun o o' => (H.out.later (below2 W o o')).c0
  go_enter Tryz.func55, Tryz.ntmps55
  go_wp2_with fail
  have hx : Bx2 W ((W.alloc (Obj.cells #[.int .u32 (x0 : Int), .string x1, .bool x2, .int .u64 (x3 : Int)] 74)).alloc (Obj.cells #[.int .u32 0, .string ⟨#[]⟩, .bool false, .int .u64 0] 74)) #[.int .u32 (x0 : Int), .string x1, .bool x2, .int .u64 (x3 : Int)] #[.int .u32 0, .string ⟨#[]⟩, .bool false, .int .u64 0] 74 74 := mkb2 W _ _ _ _
  generalize ((W.alloc (Obj.cells #[.int .u32 (x0 : Int), .string x1, .bool x2, .int .u64 (x3 : Int)] 74)).alloc (Obj.cells #[.int .u32 0, .string ⟨#[]⟩, .bool false, .int .u64 0] 74)) = W5 at *
  refine (HE.out _ (H.out.later hx.bel)).mono ?_
  rintro e W6 ⟨E, rfl, hE, q, hw⟩
  have hy : Bx2 W W6 #[.int .u32 (x0 : Int), .string x1, .bool x2, .int .u64 (x3 : Int)] #[.int .u32 0, .string ⟨#[]⟩, .bool false, .int .u64 0] 74 74 := by rw [hw]; exact hx.later (below_drewN _ q)
  have H6 : Hid (Bg w W6 c r ao cap l at_ er ∧ Bx2 W W6 #[.int .u32 (x0 : Int), .string x1, .bool x2, .int .u64 (x3 : Int)] #[.int .u32 0, .string ⟨#[]⟩, .bool false, .int .u64 0] 74 74) := ⟨H.out.later hy.bel, hy⟩
  clear hw hx hy HE q00
  generalize hD : decide (at_ = l.length) = D at *
  go_wp2_with fail
  refine (needG D H6.out.1).mono ?_
  rintro e W7 ⟨rfl, hb7, hk7⟩
  rw [HN.out] at hb7
  have hcW : c < W.heap.size := block_lt H.out.bd
  have H7 : Hid (Bg w W7 c r ao cap l at_ z ∧ Bk2 c W W7 #[.int .u32 (x0 : Int), .string x1, .bool x2, .int .u64 (x3 : Int)] #[.int .u32 0, .string ⟨#[]⟩, .bool false, .int .u64 0] 74 74) := ⟨hb7, Bk2.of hk7 H6.out.2 hcW⟩
  have kc1 := hb7.c1
  clear hb7 hk7 H6 hD
  go_wp2_with fail
  refine (wellG c z W7 kc1).mono ?_
  rintro e W8 ⟨rfl, hw⟩
  rw [hw]; clear hw
  rw [f0]
  have hy := H7.out.2
  have zb0 : W7.cell? ⟨W.heap.size + 1, 0, none⟩ = some (.int .u32 0) := by rw [blk_at hy.b]; rfl
  have yb0 : W7.frozen? ⟨W.heap.size + 1, 0, none⟩ = false := blk_free hy.b 0
  have zb1 : W7.cell? ⟨W.heap.size + 1, 1, none⟩ = some (.string ⟨#[]⟩) := by rw [blk_at hy.b]; rfl
  have yb1 : W7.frozen? ⟨W.heap.size + 1, 1, none⟩ = false := blk_free hy.b 1
  have zb2 : W7.cell? ⟨W.heap.size + 1, 2, none⟩ = some (.bool false) := by rw [blk_at hy.b]; rfl
  have yb2 : W7.frozen? ⟨W.heap.size + 1, 2, none⟩ = false := blk_free hy.b 2
  have zb3 : W7.cell? ⟨W.heap.size + 1, 3, none⟩ = some (.int .u64 0) := by rw [blk_at hy.b]; rfl
  have yb3 : W7.frozen? ⟨W.heap.size + 1, 3, none⟩ = false := blk_free hy.b 3
  clear hy
  have hN := below1 W7 (Obj.cells #[.int .u32 0, .string ⟨#[]⟩, .bool false, .int .u64 0] 74)
  have hc8 : (W7.alloc (Obj.cells #[.int .u32 0, .string ⟨#[]⟩, .bool false, .int .u64 0] 74)).cell? ⟨c, 1, none⟩ = some (.int .i64 (z : Int)) := cell_later hN kc1
  have hb8 := (H7.out.2.later hN).b
  have H8 : Hid (Below w.heap.size w (W7.alloc (Obj.cells #[.int .u32 0, .string ⟨#[]⟩, .bool false, .int .u64 0] 74)) ∧ KeptIn (fun g => g = c) W (W7.alloc (Obj.cells #[.int .u32 0, .string ⟨#[]⟩, .bool false, .int .u64 0] 74)) ∧ (W7.alloc (Obj.cells #[.int .u32 0, .string ⟨#[]⟩, .bool false, .int .u64 0] 74)).heap[W.heap.size + 1]? = some (.cells #[.int .u32 0, .string ⟨#[]⟩, .bool false, .int .u64 0] 74 (0, 0))) := ⟨H7.out.1.bel.trans (hN.mono H7.out.1.bel.size), (H7.out.2.later hN).kept, hb8⟩
  have zn0 : (W7.alloc (Obj.cells #[.int .u32 0, .string ⟨#[]⟩, .bool false, .int .u64 0] 74)).cell? ⟨W.heap.size + 1, 0, none⟩ = some (.int .u32 0) := by rw [blk_at hb8]; rfl
  have yn0 : (W7.alloc (Obj.cells #[.int .u32 0, .string ⟨#[]⟩, .bool false, .int .u64 0] 74)).frozen? ⟨W.heap.size + 1, 0, none⟩ = false := blk_free hb8 0
  have zn1 : (W7.alloc (Obj.cells #[.int .u32 0, .string ⟨#[]⟩, .bool false, .int .u64 0] 74)).cell? ⟨W.heap.size + 1, 1, none⟩ = some (.string ⟨#[]⟩) := by rw [blk_at hb8]; rfl
  have yn1 : (W7.alloc (Obj.cells #[.int .u32 0, .string ⟨#[]⟩, .bool false, .int .u64 0] 74)).frozen? ⟨W.heap.size + 1, 1, none⟩ = false := blk_free hb8 1
  have zn2 : (W7.alloc (Obj.cells #[.int .u32 0, .string ⟨#[]⟩, .bool false, .int .u64 0] 74)).cell? ⟨W.heap.size + 1, 2, none⟩ = some (.bool false) := by rw [blk_at hb8]; rfl
  have yn2 : (W7.alloc (Obj.cells #[.int .u32 0, .string ⟨#[]⟩, .bool false, .int .u64 0] 74)).frozen? ⟨W.heap.size + 1, 2, none⟩ = false := blk_free hb8 2
  have zn3 : (W7.alloc (Obj.cells #[.int .u32 0, .string ⟨#[]⟩, .bool false, .int .u64 0] 74)).cell? ⟨W.heap.size + 1, 3, none⟩ = some (.int .u64 0) := by rw [blk_at hb8]; rfl
  have yn3 : (W7.alloc (Obj.cells #[.int .u32 0, .string ⟨#[]⟩, .bool false, .int .u64 0] 74)).frozen? ⟨W.heap.size + 1, 3, none⟩ = false := blk_free hb8 3
  clear hN hb8
  go_wp2
  go_region
  go_wp2
  obtain ⟨hp, hq⟩ := putc4 H8.out.2.2 (.int .u32 0) (.string ⟨#[]⟩) (.bool false) (.int .u64 0)
  have hq' := hq.drewd
  exact bodyPost_ret (results_cell_tmp1 rfl _ _ (W.heap.size + 1) 74 _ (0, 0) _ rfl hp Tryz.underlying74 rfl infoE) rfl ⟨rfl, H8.out.1.trans (hq'.below H8.out.1.size (fun g hg => by have := H.out.bel.size; omega)), H8.out.2.1.trans hq' (fun g hg _ => by omega)⟩
end Go.Proofs.YtfifaaopdhcaaaaGreatDoor

namespace Go.Proofs.YtfifaaopdhcaaaaGreatDoor
open Go.RowKit
set_option linter.unusedVariables false
set_option linter.unusedSimpArgs false
set_option maxRecDepth 100000
set_option maxHeartbeats 8000000 in
theorem lay_gen (F : List (Nat × Nat)) (g k0 kc : Nat) (ao : Option Addr) (cap : Nat) (d : List Nat) (w : World) (hF : ∀ j x, F[j]? = some x → w.cell? ⟨g, j * 2, none⟩ = some (.int .u64 (x.1 : Int)) ∧ w.cell? ⟨g, j * 2 + 1, none⟩ = some (.int .i64 (x.2 : Int))) (hk0 : F.length = k0) (h8 : ∀ x ∈ F, x.1 < 18446744073709551616 ∧ 1 ≤ x.2 ∧ x.2 ≤ 8) (hk : k0 ≤ 10) (hd : BRow w ao cap d) (hn : d.length ≤ 1099511627776) :
    Calls Tryz.prog 72 #[.slice (some ⟨g, 0, none⟩) k0 kc, .slice ao d.length cap] w fun e w' => ∃ ao' cap', e = .returned (.slice ao' (layF F ++ d).length cap') ∧ Row w w' ao' cap' (layF F ++ d) := by
  obtain ⟨i0, hi, hz0, hz1, hz2⟩ := info_parts Tryz.info5
  have HD : Hid (BRow w ao cap d) := hd
  have HF : Hid (∀ j x, F[j]? = some x → w.cell? ⟨g, j * 2, none⟩ = some (.int .u64 (x.1 : Int)) ∧ w.cell? ⟨g, j * 2 + 1, none⟩ = some (.int .i64 (x.2 : Int))) := hF
  have H8 : Hid (∀ x ∈ F, x.1 < 18446744073709551616 ∧ 1 ≤ x.2 ∧ x.2 ≤ 8) := h8
  have HK : Hid (F.length = k0) := hk0
  have HLn : Hid (∀ k, (layF (F.take k)).length ≤ 80) := fun k => by
    have := layF_len (F.take k) (fun x hx => (H8.out x (List.mem_of_mem_take hx)).2.2)
    rw [List.length_take] at this
    omega
  clear hd hF h8 hk0
  go_enter Tryz.func72, Tryz.ntmps72
  go_wp2
  go_loopw [5, 6] (fun v i wr => ∃ k n ao' cap' : _, i = .int .i64 (k : Nat) ∧ k ≤ k0 ∧ v = .slice ao' n cap' ∧ Hid ((layF (F.take k)).length = n) ∧ Hid (wr.ownsRow w.heap.size 5 1 (.slice ao' n cap') n ((layF (F.take k)).map bv)) ∧ Hid (Below w.heap.size w wr)) (fun _ i _ => k0 - (intOf i).toNat)
  case atStart => exact ⟨0, 0, none, 0, rfl, Nat.zero_le _, rfl, by simp [layF, Hid], World.ownsRow_nil _ _ _ _, Below.refl _ _⟩
  case round =>
    obtain ⟨k, n, ao', cap', rfl, hkk, rfl, HNn, HO, HB⟩ := hrel
    have hn80 : n ≤ 80 := by rw [← HNn.out]; exact HLn.out k
    by_cases hlt : k < k0
    · obtain ⟨⟨x, m⟩, hx⟩ : ∃ x, F[k]? = some x := ⟨_, List.getElem?_eq_getElem (by rw [HK.out]; exact hlt)⟩
      obtain ⟨hx64, hm1, hm8⟩ := H8.out _ (List.mem_of_getElem? hx)
      simp only at hx64 hm1 hm8
      have z0 : wr.cell? ⟨g, k * 2, none⟩ = some (.int .u64 (x : Int)) := cell_later HB.out (HF.out k _ hx).1
      have z1 : wr.cell? ⟨g, k * 2 + 1, none⟩ = some (.int .i64 (m : Int)) := cell_later HB.out (HF.out k _ hx).2
      have HT : Hid (layF (F.take (k + 1)) = layF (F.take k) ++ bigTo x m m) := by show _ = _; rw [List.take_add_one, hx]; exact layF_snoc _ _
      have HBig : Hid (Calls Tryz.prog 94 #[.int .u64 (x : Int), .int .i64 (m : Int)] wr.drew fun e w' => e = .returned (.slice (some ⟨wr.heap.size, 0, none⟩) m m) ∧ w'.ownsRow wr.heap.size 5 1 (.slice (some ⟨wr.heap.size, 0, none⟩) m m) m ((bigTo x m m).map bv) ∧ Below wr.heap.size wr.drew w') := rbig_any x m wr.drew hx64 hm8
      have hkz : (k : Int) < (k0 : Int) := by omega
      have HS : Hid (w.heap.size ≤ wr.heap.size) := HB.out.size
      clear hx
      go_wp2
      go_region_law (first | (go_simp; go_at_call 94; refine HBig.out.mono ?_; rintro r W4 ⟨rfl, ho4, hb4⟩; have HO4 : Hid (W4.ownsRow wr.heap.size 5 1 (.slice (some ⟨wr.heap.size, 0, none⟩) m m) m ((bigTo x m m).map bv)) := ho4; have HB4 : Hid (Below wr.heap.size wr.drew W4) := hb4; clear ho4 hb4; dsimp only) | (refine step_append_two rfl (.tmp 13) (.tmp 24) 22 rfl w.heap.size 5 i0 (.int .u8 0) 1 Tryz.underlying22 hi hz0 hz1 hz2 rfl (.slice ao' n cap') n ((layF (F.take k)).map bv) (by first | (simp [Act.eval]; done) | simp [Act.eval, Act.put]) (owns_same HO.out fun g' hg' => HB4.out.block g' (owns_lt HO.out g' hg').1) ⟨wr.heap.size, 0, none⟩ m m ((bigTo x m m).map bv) (by first | (simp [Act.eval]; done) | simp [Act.eval, Act.put]) (by simp [bigTo_length]) (own_news HO4.out) (bv_one _) (by unfold maxLen; omega) (by omega) (Nat.le_trans HS.out HB4.out.size) ?_; intro ao5 cap5 W5 ho5 hg5 hf5))
      all_goals
        have hb5 : Below w.heap.size w W5 := (HB.out.trans ((show Below wr.heap.size wr W4 from ⟨HB4.out.os, HB4.out.tape, HB4.out.output, HB4.out.size, HB4.out.block⟩).mono HS.out)).grown hg5 (Nat.le_trans HS.out HB4.out.size) (fun g' hg' => (owns_lt HO.out g' hg').2)
        have HO5 : Hid (W5.ownsRow w.heap.size 5 1 (.slice ao5 (n + m) cap5) (n + m) ((layF (F.take (k + 1))).map bv)) := by rw [HT.out, List.map_append]; exact ho5
        have HB5 : Hid (Below w.heap.size w W5) := hb5
        have HN5 : Hid ((layF (F.take (k + 1))).length = n + m) := by show _ = _; rw [HT.out, List.length_append, bigTo_length, HNn.out]
        clear hb5 ho5 hg5 hf5 HO4 HB4
        go_wp2
        go_roundw
        case rel => exact ⟨k + 1, n + m, ao5, cap5, by go_num, by omega, rfl, HN5, HO5, HB5⟩
        case measure => simp [intOf]; omega
    · obtain rfl : k = k0 := by omega
      have HE : Hid (F.take k = F) := by show _ = _; rw [← HK.out]; exact List.take_length
      go_wp2_with (at_builtin; refine wpList_append_two _ rfl (.tmp 26) (.tmp 27) 22 rfl w.heap.size 5 i0 (.int .u8 0) 1 Tryz.underlying22 hi hz0 hz1 hz2 rfl (.slice ao' n cap') n ((layF (F.take k)).map bv) rfl HO.out ao d.length cap (d.map bv) rfl (HD.out.later HB.out).nil' (by simp) (HD.out.later HB.out).news (bv_one d) (by unfold maxLen; omega) (by omega) HB.out.size ?_)
      intro v' w1 ho hg hf
      have hb5 : Below w.heap.size w w1 := HB.out.grown hg HB.out.size (fun g' hg' => (owns_lt HO.out g' hg').2)
      obtain ⟨ao5, cap5, rfl⟩ := owns_form ho
      have HO5 : Hid (w1.ownsRow w.heap.size 5 1 (.slice ao5 (n + d.length) cap5) (n + d.length) ((layF F ++ d).map bv)) := by have := ho; rw [HE.out] at this; rw [List.map_append]; exact this
      have HB5 : Hid (Below w.heap.size w w1) := hb5
      have HN5 : Hid ((layF F ++ d).length = n + d.length) := by show _ = _; rw [List.length_append, ← HNn.out, HE.out]
      clear hb5 ho hg hf
      go_wp2
      go_ret
      refine ⟨ao5, cap5, by rw [HN5.out]; rfl, ?_, ?_, HB5.out⟩
      · rw [HN5.out]; exact HO5.out
      · intro x hx
        rcases List.mem_append.1 hx with hx | hx
        · exact layF_lt F x hx
        · exact HD.out.lt x hx
theorem own_built {W : World} {B g : Nat} {a b : Value} (h : W.heap[g]? = some (.cells #[a, b] TFd (0, 0))) (hB : B ≤ g) : W.ownsRow B TFd 2 (.slice (some ⟨g, 0, none⟩) 1 1) 1 [a, b] :=
  ⟨rfl, .inr ⟨g, 1, #[a, b], rfl, hB, h, Nat.le_refl _, by unfold maxLen; decide, rfl, rfl⟩⟩
theorem infoFd : (Tryz.prog.info? TFd).map (fun i => (i.zero, i.size, i.bytes)) = some (some (.agg #[.int .u64 0, .int .i64 0]), 2, 16) := by kernel_rfl
end Go.Proofs.YtfifaaopdhcaaaaGreatDoor

namespace Go.Proofs.YtfifaaopdhcaaaaGreatDoor
open Go.RowKit
set_option linter.unusedVariables false
set_option linter.unusedSimpArgs false
set_option maxRecDepth 100000
set_option maxHeartbeats 4000000 in
theorem wholeI_ok (x0 : Nat) (x1 : Nat) (x2 : Nat) (x3 : ByteArray) (x4 : Nat) (x5 : Nat) (x6 : Nat) (x7 : Option Addr) (n7 c7 : Nat) {w W : World} {c r : Nat} {ao : Option Addr} {cap : Nat} {l : List Nat} {at_ er : Nat} (h : Bg w W c r ao cap l at_ er) (hn : ndE (decide (at_ = l.length)) er = 0) :
    Calls Tryz.prog 38 #[.pointer (some ⟨c, 0, none⟩), .agg #[.int .u16 (x0 : Int), .int .u64 (x1 : Int), .int .u16 (x2 : Int), .string x3, .int .u32 (x4 : Int), .int .u32 (x5 : Int), .int .u32 (x6 : Int), .slice x7 n7 c7]] W fun e w' => e = .returned (.tuple #[.agg #[.int .u16 (x0 : Int), .int .u64 (x1 : Int), .int .u16 (x2 : Int), .string x3, .int .u32 (x4 : Int), .int .u32 (x5 : Int), .int .u32 (x6 : Int), .slice x7 n7 c7], .int .i64 0]) ∧ Below w.heap.size w w' ∧ KeptIn (fun g => g = c) W w' := by
  have HN : Hid (ndE (decide (at_ = l.length)) er = 0) := hn
  clear hn
  have HE : Hid (∀ W, Bg w W c r ao cap l at_ er → Calls Tryz.prog 69 #[.pointer (some ⟨r, 0, none⟩)] W fun e w' => ∃ E : Int, e = .returned (.int .i64 E) ∧ (E == 0) = decide (at_ = l.length) ∧ ∃ q, w' = W.drewN q) := fun W h => rendG h
  have H : Hid (Bg w W c r ao cap l at_ er) := h
  clear h
  have q00 : ∀ o o', ((W.alloc o).alloc o').cell? ⟨c, 0, none⟩ = some (.pointer (some ⟨r, 0, none⟩)) := fun o o' => (H.out.later (below2 W o o')).c0
  go_enter Tryz.func38, Tryz.ntmps38
  go_wp2_with fail
  have hx : Bx2 W ((W.alloc (Obj.cells #[.int .u16 (x0 : Int), .int .u64 (x1 : Int), .int .u16 (x2 : Int), .string x3, .int .u32 (x4 : Int), .int .u32 (x5 : Int), .int .u32 (x6 : Int), .slice x7 n7 c7] 28)).alloc (Obj.cells #[.int .u16 0, .int .u64 0, .int .u16 0, .string ⟨#[]⟩, .int .u32 0, .int .u32 0, .int .u32 0, .slice none 0 0] 28)) #[.int .u16 (x0 : Int), .int .u64 (x1 : Int), .int .u16 (x2 : Int), .string x3, .int .u32 (x4 : Int), .int .u32 (x5 : Int), .int .u32 (x6 : Int), .slice x7 n7 c7] #[.int .u16 0, .int .u64 0, .int .u16 0, .string ⟨#[]⟩, .int .u32 0, .int .u32 0, .int .u32 0, .slice none 0 0] 28 28 := mkb2 W _ _ _ _
  generalize ((W.alloc (Obj.cells #[.int .u16 (x0 : Int), .int .u64 (x1 : Int), .int .u16 (x2 : Int), .string x3, .int .u32 (x4 : Int), .int .u32 (x5 : Int), .int .u32 (x6 : Int), .slice x7 n7 c7] 28)).alloc (Obj.cells #[.int .u16 0, .int .u64 0, .int .u16 0, .string ⟨#[]⟩, .int .u32 0, .int .u32 0, .int .u32 0, .slice none 0 0] 28)) = W5 at *
  refine (HE.out _ (H.out.later hx.bel)).mono ?_
  rintro e W6 ⟨E, rfl, hE, q, hw⟩
  have hy : Bx2 W W6 #[.int .u16 (x0 : Int), .int .u64 (x1 : Int), .int .u16 (x2 : Int), .string x3, .int .u32 (x4 : Int), .int .u32 (x5 : Int), .int .u32 (x6 : Int), .slice x7 n7 c7] #[.int .u16 0, .int .u64 0, .int .u16 0, .string ⟨#[]⟩, .int .u32 0, .int .u32 0, .int .u32 0, .slice none 0 0] 28 28 := by rw [hw]; exact hx.later (below_drewN _ q)
  have H6 : Hid (Bg w W6 c r ao cap l at_ er ∧ Bx2 W W6 #[.int .u16 (x0 : Int), .int .u64 (x1 : Int), .int .u16 (x2 : Int), .string x3, .int .u32 (x4 : Int), .int .u32 (x5 : Int), .int .u32 (x6 : Int), .slice x7 n7 c7] #[.int .u16 0, .int .u64 0, .int .u16 0, .string ⟨#[]⟩, .int .u32 0, .int .u32 0, .int .u32 0, .slice none 0 0] 28 28) := ⟨H.out.later hy.bel, hy⟩
  clear hw hx hy HE q00
  generalize hD : decide (at_ = l.length) = D at *
  go_wp2_with fail
  refine (needG D H6.out.1).mono ?_
  rintro e W7 ⟨rfl, hb7, hk7⟩
  rw [HN.out] at hb7
  have hcW : c < W.heap.size := block_lt H.out.bd
  have H7 : Hid (Bg w W7 c r ao cap l at_ 0 ∧ Bk2 c W W7 #[.int .u16 (x0 : Int), .int .u64 (x1 : Int), .int .u16 (x2 : Int), .string x3, .int .u32 (x4 : Int), .int .u32 (x5 : Int), .int .u32 (x6 : Int), .slice x7 n7 c7] #[.int .u16 0, .int .u64 0, .int .u16 0, .string ⟨#[]⟩, .int .u32 0, .int .u32 0, .int .u32 0, .slice none 0 0] 28 28) := ⟨hb7, Bk2.of hk7 H6.out.2 hcW⟩
  have kc1 := hb7.c1
  clear hb7 hk7 H6 hD
  go_wp2_with fail
  refine (wellG c 0 W7 kc1).mono ?_
  rintro e W8 ⟨rfl, hw⟩
  rw [hw]; clear hw
  have hy := H7.out.2
  have za0 : W7.cell? ⟨W.heap.size, 0, none⟩ = some (.int .u16 (x0 : Int)) := by rw [blk_at hy.a]; rfl
  have zb0 : W7.cell? ⟨W.heap.size + 1, 0, none⟩ = some (.int .u16 0) := by rw [blk_at hy.b]; rfl
  have yb0 : W7.frozen? ⟨W.heap.size + 1, 0, none⟩ = false := blk_free hy.b 0
  have za1 : W7.cell? ⟨W.heap.size, 1, none⟩ = some (.int .u64 (x1 : Int)) := by rw [blk_at hy.a]; rfl
  have zb1 : W7.cell? ⟨W.heap.size + 1, 1, none⟩ = some (.int .u64 0) := by rw [blk_at hy.b]; rfl
  have yb1 : W7.frozen? ⟨W.heap.size + 1, 1, none⟩ = false := blk_free hy.b 1
  have za2 : W7.cell? ⟨W.heap.size, 2, none⟩ = some (.int .u16 (x2 : Int)) := by rw [blk_at hy.a]; rfl
  have zb2 : W7.cell? ⟨W.heap.size + 1, 2, none⟩ = some (.int .u16 0) := by rw [blk_at hy.b]; rfl
  have yb2 : W7.frozen? ⟨W.heap.size + 1, 2, none⟩ = false := blk_free hy.b 2
  have za3 : W7.cell? ⟨W.heap.size, 3, none⟩ = some (.string x3) := by rw [blk_at hy.a]; rfl
  have zb3 : W7.cell? ⟨W.heap.size + 1, 3, none⟩ = some (.string ⟨#[]⟩) := by rw [blk_at hy.b]; rfl
  have yb3 : W7.frozen? ⟨W.heap.size + 1, 3, none⟩ = false := blk_free hy.b 3
  have za4 : W7.cell? ⟨W.heap.size, 4, none⟩ = some (.int .u32 (x4 : Int)) := by rw [blk_at hy.a]; rfl
  have zb4 : W7.cell? ⟨W.heap.size + 1, 4, none⟩ = some (.int .u32 0) := by rw [blk_at hy.b]; rfl
  have yb4 : W7.frozen? ⟨W.heap.size + 1, 4, none⟩ = false := blk_free hy.b 4
  have za5 : W7.cell? ⟨W.heap.size, 5, none⟩ = some (.int .u32 (x5 : Int)) := by rw [blk_at hy.a]; rfl
  have zb5 : W7.cell? ⟨W.heap.size + 1, 5, none⟩ = some (.int .u32 0) := by rw [blk_at hy.b]; rfl
  have yb5 : W7.frozen? ⟨W.heap.size + 1, 5, none⟩ = false := blk_free hy.b 5
  have za6 : W7.cell? ⟨W.heap.size, 6, none⟩ = some (.int .u32 (x6 : Int)) := by rw [blk_at hy.a]; rfl
  have zb6 : W7.cell? ⟨W.heap.size + 1, 6, none⟩ = some (.int .u32 0) := by rw [blk_at hy.b]; rfl
  have yb6 : W7.frozen? ⟨W.heap.size + 1, 6, none⟩ = false := blk_free hy.b 6
  have za7 : W7.cell? ⟨W.heap.size, 7, none⟩ = some (.slice x7 n7 c7) := by rw [blk_at hy.a]; rfl
  have zb7 : W7.cell? ⟨W.heap.size + 1, 7, none⟩ = some (.slice none 0 0) := by rw [blk_at hy.b]; rfl
  have yb7 : W7.frozen? ⟨W.heap.size + 1, 7, none⟩ = false := blk_free hy.b 7
  clear hy
  go_wp2
  obtain ⟨hp, hq⟩ := putc8 H7.out.2.b (.int .u16 (x0 : Int)) (.int .u64 (x1 : Int)) (.int .u16 (x2 : Int)) (.string x3) (.int .u32 (x4 : Int)) (.int .u32 (x5 : Int)) (.int .u32 (x6 : Int)) (.slice x7 n7 c7)
  generalize ((((((((W7.setCell ⟨W.heap.size + 1, 0, none⟩ (.int .u16 (x0 : Int))).setCell ⟨W.heap.size + 1, 1, none⟩ (.int .u64 (x1 : Int))).setCell ⟨W.heap.size + 1, 2, none⟩ (.int .u16 (x2 : Int))).setCell ⟨W.heap.size + 1, 3, none⟩ (.string x3)).setCell ⟨W.heap.size + 1, 4, none⟩ (.int .u32 (x4 : Int))).setCell ⟨W.heap.size + 1, 5, none⟩ (.int .u32 (x5 : Int))).setCell ⟨W.heap.size + 1, 6, none⟩ (.int .u32 (x6 : Int))).setCell ⟨W.heap.size + 1, 7, none⟩ (.slice x7 n7 c7)) = Wz at hp hq ⊢
  exact bodyPost_ret (results_cell_tmp1 rfl _ _ (W.heap.size + 1) 28 _ (0, 0) _ rfl hp Tryz.underlying28 rfl infoI) rfl ⟨rfl, H7.out.1.bel.trans (hq.below H7.out.1.bel.size (fun g hg => by have := H.out.bel.size; omega)), H7.out.2.kept.trans hq (fun g hg _ => by omega)⟩
set_option maxHeartbeats 4000000 in
theorem wholeI_no (x0 : Nat) (x1 : Nat) (x2 : Nat) (x3 : ByteArray) (x4 : Nat) (x5 : Nat) (x6 : Nat) (x7 : Option Addr) (n7 c7 : Nat) {w W : World} {c r : Nat} {ao : Option Addr} {cap : Nat} {l : List Nat} {at_ er : Nat} (z : Nat) (hz : z ≠ 0) (h : Bg w W c r ao cap l at_ er) (hn : ndE (decide (at_ = l.length)) er = z) :
    Calls Tryz.prog 38 #[.pointer (some ⟨c, 0, none⟩), .agg #[.int .u16 (x0 : Int), .int .u64 (x1 : Int), .int .u16 (x2 : Int), .string x3, .int .u32 (x4 : Int), .int .u32 (x5 : Int), .int .u32 (x6 : Int), .slice x7 n7 c7]] W fun e w' => e = .returned (.tuple #[.agg #[.int .u16 0, .int .u64 0, .int .u16 0, .string ⟨#[]⟩, .int .u32 0, .int .u32 0, .int .u32 0, .slice none 0 0], .int .i64 (z : Int)]) ∧ Below w.heap.size w w' ∧ KeptIn (fun g => g = c) W w' := by
  have HN : Hid (ndE (decide (at_ = l.length)) er = z) := hn
  have f0 : ((z : Int) == 0) = false := by rw [beq_eq_false_iff_ne]; omega
  clear hn hz
  have HE : Hid (∀ W, Bg w W c r ao cap l at_ er → Calls Tryz.prog 69 #[.pointer (some ⟨r, 0, none⟩)] W fun e w' => ∃ E : Int, e = .returned (.int .i64 E) ∧ (E == 0) = decide (at_ = l.length) ∧ ∃ q, w' = W.drewN q) := fun W h => rendG h
  have H : Hid (Bg w W c r ao cap l at_ er) := h
  clear h
  have q00 : ∀ o o', ((W.alloc o).alloc o').cell? ⟨c, 0, none⟩ = some (.pointer (some ⟨r, 0, none⟩)) := fun o o' => (H.out.later (below2 W o o')).c0
  go_enter Tryz.func38, Tryz.ntmps38
  go_wp2_with fail
  have hx : Bx2 W ((W.alloc (Obj.cells #[.int .u16 (x0 : Int), .int .u64 (x1 : Int), .int .u16 (x2 : Int), .string x3, .int .u32 (x4 : Int), .int .u32 (x5 : Int), .int .u32 (x6 : Int), .slice x7 n7 c7] 28)).alloc (Obj.cells #[.int .u16 0, .int .u64 0, .int .u16 0, .string ⟨#[]⟩, .int .u32 0, .int .u32 0, .int .u32 0, .slice none 0 0] 28)) #[.int .u16 (x0 : Int), .int .u64 (x1 : Int), .int .u16 (x2 : Int), .string x3, .int .u32 (x4 : Int), .int .u32 (x5 : Int), .int .u32 (x6 : Int), .slice x7 n7 c7] #[.int .u16 0, .int .u64 0, .int .u16 0, .string ⟨#[]⟩, .int .u32 0, .int .u32 0, .int .u32 0, .slice none 0 0] 28 28 := mkb2 W _ _ _ _
  generalize ((W.alloc (Obj.cells #[.int .u16 (x0 : Int), .int .u64 (x1 : Int), .int .u16 (x2 : Int), .string x3, .int .u32 (x4 : Int), .int .u32 (x5 : Int), .int .u32 (x6 : Int), .slice x7 n7 c7] 28)).alloc (Obj.cells #[.int .u16 0, .int .u64 0, .int .u16 0, .string ⟨#[]⟩, .int .u32 0, .int .u32 0, .int .u32 0, .slice none 0 0] 28)) = W5 at *
  refine (HE.out _ (H.out.later hx.bel)).mono ?_
  rintro e W6 ⟨E, rfl, hE, q, hw⟩
  have hy : Bx2 W W6 #[.int .u16 (x0 : Int), .int .u64 (x1 : Int), .int .u16 (x2 : Int), .string x3, .int .u32 (x4 : Int), .int .u32 (x5 : Int), .int .u32 (x6 : Int), .slice x7 n7 c7] #[.int .u16 0, .int .u64 0, .int .u16 0, .string ⟨#[]⟩, .int .u32 0, .int .u32 0, .int .u32 0, .slice none 0 0] 28 28 := by rw [hw]; exact hx.later (below_drewN _ q)
  have H6 : Hid (Bg w W6 c r ao cap l at_ er ∧ Bx2 W W6 #[.int .u16 (x0 : Int), .int .u64 (x1 : Int), .int .u16 (x2 : Int), .string x3, .int .u32 (x4 : Int), .int .u32 (x5 : Int), .int .u32 (x6 : Int), .slice x7 n7 c7] #[.int .u16 0, .int .u64 0, .int .u16 0, .string ⟨#[]⟩, .int .u32 0, .int .u32 0, .int .u32 0, .slice none 0 0] 28 28) := ⟨H.out.later hy.bel, hy⟩
  clear hw hx hy HE q00
  generalize hD : decide (at_ = l.length) = D at *
  go_wp2_with fail
  refine (needG D H6.out.1).mono ?_
  rintro e W7 ⟨rfl, hb7, hk7⟩
  rw [HN.out] at hb7
  have hcW : c < W.heap.size := block_lt H.out.bd
  have H7 : Hid (Bg w W7 c r ao cap l at_ z ∧ Bk2 c W W7 #[.int .u16 (x0 : Int), .int .u64 (x1 : Int), .int .u16 (x2 : Int), .string x3, .int .u32 (x4 : Int), .int .u32 (x5 : Int), .int .u32 (x6 : Int), .slice x7 n7 c7] #[.int .u16 0, .int .u64 0, .int .u16 0, .string ⟨#[]⟩, .int .u32 0, .int .u32 0, .int .u32 0, .slice none 0 0] 28 28) := ⟨hb7, Bk2.of hk7 H6.out.2 hcW⟩
  have kc1 := hb7.c1
  clear hb7 hk7 H6 hD
  go_wp2_with fail
  refine (wellG c z W7 kc1).mono ?_
  rintro e W8 ⟨rfl, hw⟩
  rw [hw]; clear hw
  rw [f0]
  have hy := H7.out.2
  have zb0 : W7.cell? ⟨W.heap.size + 1, 0, none⟩ = some (.int .u16 0) := by rw [blk_at hy.b]; rfl
  have yb0 : W7.frozen? ⟨W.heap.size + 1, 0, none⟩ = false := blk_free hy.b 0
  have zb1 : W7.cell? ⟨W.heap.size + 1, 1, none⟩ = some (.int .u64 0) := by rw [blk_at hy.b]; rfl
  have yb1 : W7.frozen? ⟨W.heap.size + 1, 1, none⟩ = false := blk_free hy.b 1
  have zb2 : W7.cell? ⟨W.heap.size + 1, 2, none⟩ = some (.int .u16 0) := by rw [blk_at hy.b]; rfl
  have yb2 : W7.frozen? ⟨W.heap.size + 1, 2, none⟩ = false := blk_free hy.b 2
  have zb3 : W7.cell? ⟨W.heap.size + 1, 3, none⟩ = some (.string ⟨#[]⟩) := by rw [blk_at hy.b]; rfl
  have yb3 : W7.frozen? ⟨W.heap.size + 1, 3, none⟩ = false := blk_free hy.b 3
  have zb4 : W7.cell? ⟨W.heap.size + 1, 4, none⟩ = some (.int .u32 0) := by rw [blk_at hy.b]; rfl
  have yb4 : W7.frozen? ⟨W.heap.size + 1, 4, none⟩ = false := blk_free hy.b 4
  have zb5 : W7.cell? ⟨W.heap.size + 1, 5, none⟩ = some (.int .u32 0) := by rw [blk_at hy.b]; rfl
  have yb5 : W7.frozen? ⟨W.heap.size + 1, 5, none⟩ = false := blk_free hy.b 5
  have zb6 : W7.cell? ⟨W.heap.size + 1, 6, none⟩ = some (.int .u32 0) := by rw [blk_at hy.b]; rfl
  have yb6 : W7.frozen? ⟨W.heap.size + 1, 6, none⟩ = false := blk_free hy.b 6
  have zb7 : W7.cell? ⟨W.heap.size + 1, 7, none⟩ = some (.slice none 0 0) := by rw [blk_at hy.b]; rfl
  have yb7 : W7.frozen? ⟨W.heap.size + 1, 7, none⟩ = false := blk_free hy.b 7
  clear hy
  have hN := below1 W7 (Obj.cells #[.int .u16 0, .int .u64 0, .int .u16 0, .string ⟨#[]⟩, .int .u32 0, .int .u32 0, .int .u32 0, .slice none 0 0] 28)
  have hc8 : (W7.alloc (Obj.cells #[.int .u16 0, .int .u64 0, .int .u16 0, .string ⟨#[]⟩, .int .u32 0, .int .u32 0, .int .u32 0, .slice none 0 0] 28)).cell? ⟨c, 1, none⟩ = some (.int .i64 (z : Int)) := cell_later hN kc1
  have hb8 := (H7.out.2.later hN).b
  have H8 : Hid (Below w.heap.size w (W7.alloc (Obj.cells #[.int .u16 0, .int .u64 0, .int .u16 0, .string ⟨#[]⟩, .int .u32 0, .int .u32 0, .int .u32 0, .slice none 0 0] 28)) ∧ KeptIn (fun g => g = c) W (W7.alloc (Obj.cells #[.int .u16 0, .int .u64 0, .int .u16 0, .string ⟨#[]⟩, .int .u32 0, .int .u32 0, .int .u32 0, .slice none 0 0] 28)) ∧ (W7.alloc (Obj.cells #[.int .u16 0, .int .u64 0, .int .u16 0, .string ⟨#[]⟩, .int .u32 0, .int .u32 0, .int .u32 0, .slice none 0 0] 28)).heap[W.heap.size + 1]? = some (.cells #[.int .u16 0, .int .u64 0, .int .u16 0, .string ⟨#[]⟩, .int .u32 0, .int .u32 0, .int .u32 0, .slice none 0 0] 28 (0, 0))) := ⟨H7.out.1.bel.trans (hN.mono H7.out.1.bel.size), (H7.out.2.later hN).kept, hb8⟩
  have zn0 : (W7.alloc (Obj.cells #[.int .u16 0, .int .u64 0, .int .u16 0, .string ⟨#[]⟩, .int .u32 0, .int .u32 0, .int .u32 0, .slice none 0 0] 28)).cell? ⟨W.heap.size + 1, 0, none⟩ = some (.int .u16 0) := by rw [blk_at hb8]; rfl
  have yn0 : (W7.alloc (Obj.cells #[.int .u16 0, .int .u64 0, .int .u16 0, .string ⟨#[]⟩, .int .u32 0, .int .u32 0, .int .u32 0, .slice none 0 0] 28)).frozen? ⟨W.heap.size + 1, 0, none⟩ = false := blk_free hb8 0
  have zn1 : (W7.alloc (Obj.cells #[.int .u16 0, .int .u64 0, .int .u16 0, .string ⟨#[]⟩, .int .u32 0, .int .u32 0, .int .u32 0, .slice none 0 0] 28)).cell? ⟨W.heap.size + 1, 1, none⟩ = some (.int .u64 0) := by rw [blk_at hb8]; rfl
  have yn1 : (W7.alloc (Obj.cells #[.int .u16 0, .int .u64 0, .int .u16 0, .string ⟨#[]⟩, .int .u32 0, .int .u32 0, .int .u32 0, .slice none 0 0] 28)).frozen? ⟨W.heap.size + 1, 1, none⟩ = false := blk_free hb8 1
  have zn2 : (W7.alloc (Obj.cells #[.int .u16 0, .int .u64 0, .int .u16 0, .string ⟨#[]⟩, .int .u32 0, .int .u32 0, .int .u32 0, .slice none 0 0] 28)).cell? ⟨W.heap.size + 1, 2, none⟩ = some (.int .u16 0) := by rw [blk_at hb8]; rfl
  have yn2 : (W7.alloc (Obj.cells #[.int .u16 0, .int .u64 0, .int .u16 0, .string ⟨#[]⟩, .int .u32 0, .int .u32 0, .int .u32 0, .slice none 0 0] 28)).frozen? ⟨W.heap.size + 1, 2, none⟩ = false := blk_free hb8 2
  have zn3 : (W7.alloc (Obj.cells #[.int .u16 0, .int .u64 0, .int .u16 0, .string ⟨#[]⟩, .int .u32 0, .int .u32 0, .int .u32 0, .slice none 0 0] 28)).cell? ⟨W.heap.size + 1, 3, none⟩ = some (.string ⟨#[]⟩) := by rw [blk_at hb8]; rfl
  have yn3 : (W7.alloc (Obj.cells #[.int .u16 0, .int .u64 0, .int .u16 0, .string ⟨#[]⟩, .int .u32 0, .int .u32 0, .int .u32 0, .slice none 0 0] 28)).frozen? ⟨W.heap.size + 1, 3, none⟩ = false := blk_free hb8 3
  have zn4 : (W7.alloc (Obj.cells #[.int .u16 0, .int .u64 0, .int .u16 0, .string ⟨#[]⟩, .int .u32 0, .int .u32 0, .int .u32 0, .slice none 0 0] 28)).cell? ⟨W.heap.size + 1, 4, none⟩ = some (.int .u32 0) := by rw [blk_at hb8]; rfl
  have yn4 : (W7.alloc (Obj.cells #[.int .u16 0, .int .u64 0, .int .u16 0, .string ⟨#[]⟩, .int .u32 0, .int .u32 0, .int .u32 0, .slice none 0 0] 28)).frozen? ⟨W.heap.size + 1, 4, none⟩ = false := blk_free hb8 4
  have zn5 : (W7.alloc (Obj.cells #[.int .u16 0, .int .u64 0, .int .u16 0, .string ⟨#[]⟩, .int .u32 0, .int .u32 0, .int .u32 0, .slice none 0 0] 28)).cell? ⟨W.heap.size + 1, 5, none⟩ = some (.int .u32 0) := by rw [blk_at hb8]; rfl
  have yn5 : (W7.alloc (Obj.cells #[.int .u16 0, .int .u64 0, .int .u16 0, .string ⟨#[]⟩, .int .u32 0, .int .u32 0, .int .u32 0, .slice none 0 0] 28)).frozen? ⟨W.heap.size + 1, 5, none⟩ = false := blk_free hb8 5
  have zn6 : (W7.alloc (Obj.cells #[.int .u16 0, .int .u64 0, .int .u16 0, .string ⟨#[]⟩, .int .u32 0, .int .u32 0, .int .u32 0, .slice none 0 0] 28)).cell? ⟨W.heap.size + 1, 6, none⟩ = some (.int .u32 0) := by rw [blk_at hb8]; rfl
  have yn6 : (W7.alloc (Obj.cells #[.int .u16 0, .int .u64 0, .int .u16 0, .string ⟨#[]⟩, .int .u32 0, .int .u32 0, .int .u32 0, .slice none 0 0] 28)).frozen? ⟨W.heap.size + 1, 6, none⟩ = false := blk_free hb8 6
  have zn7 : (W7.alloc (Obj.cells #[.int .u16 0, .int .u64 0, .int .u16 0, .string ⟨#[]⟩, .int .u32 0, .int .u32 0, .int .u32 0, .slice none 0 0] 28)).cell? ⟨W.heap.size + 1, 7, none⟩ = some (.slice none 0 0) := by rw [blk_at hb8]; rfl
  have yn7 : (W7.alloc (Obj.cells #[.int .u16 0, .int .u64 0, .int .u16 0, .string ⟨#[]⟩, .int .u32 0, .int .u32 0, .int .u32 0, .slice none 0 0] 28)).frozen? ⟨W.heap.size + 1, 7, none⟩ = false := blk_free hb8 7
  clear hN hb8
  go_wp2
  go_region
  go_wp2
  obtain ⟨hp, hq⟩ := putc8 H8.out.2.2 (.int .u16 0) (.int .u64 0) (.int .u16 0) (.string ⟨#[]⟩) (.int .u32 0) (.int .u32 0) (.int .u32 0) (.slice none 0 0)
  generalize (((((((((W7.alloc (Obj.cells #[.int .u16 0, .int .u64 0, .int .u16 0, .string ⟨#[]⟩, .int .u32 0, .int .u32 0, .int .u32 0, .slice none 0 0] 28)).setCell ⟨W.heap.size + 1, 0, none⟩ (.int .u16 0)).setCell ⟨W.heap.size + 1, 1, none⟩ (.int .u64 0)).setCell ⟨W.heap.size + 1, 2, none⟩ (.int .u16 0)).setCell ⟨W.heap.size + 1, 3, none⟩ (.string ⟨#[]⟩)).setCell ⟨W.heap.size + 1, 4, none⟩ (.int .u32 0)).setCell ⟨W.heap.size + 1, 5, none⟩ (.int .u32 0)).setCell ⟨W.heap.size + 1, 6, none⟩ (.int .u32 0)).setCell ⟨W.heap.size + 1, 7, none⟩ (.slice none 0 0)) = Wz at hp hq ⊢
  have hq' := hq.drewd
  exact bodyPost_ret (results_cell_tmp1 rfl _ _ (W.heap.size + 1) 28 _ (0, 0) _ rfl hp Tryz.underlying28 rfl infoI) rfl ⟨rfl, H8.out.1.trans (hq'.below H8.out.1.size (fun g hg => by have := H.out.bel.size; omega)), H8.out.2.1.trans hq' (fun g hg _ => by omega)⟩
end Go.Proofs.YtfifaaopdhcaaaaGreatDoor
