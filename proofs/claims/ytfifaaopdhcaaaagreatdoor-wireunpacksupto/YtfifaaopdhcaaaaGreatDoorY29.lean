import Derived.Test.YtfifaaopdhcaaaaGreatDoorY13
import Derived.Test.YtfifaaopdhcaaaaGreatDoorY17
import Derived.Test.YtfifaaopdhcaaaaGreatDoorY20
import Derived.Test.YtfifaaopdhcaaaaGreatDoorY18
import Derived.Test.YtfifaaopdhcaaaaGreatDoorY6
import Derived.Test.YtfifaaopdhcaaaaGreatDoorY12
import Derived.Test.YtfifaaopdhcaaaaGreatDoorY21
import Derived.Test.YtfifaaopdhcaaaaGreatDoorY23
import Derived.Test.YtfifaaopdhcaaaaGreatDoorY25
import Derived.Test.YtfifaaopdhcaaaaGreatDoorY14
namespace Go.Proofs.YtfifaaopdhcaaaaGreatDoor
open Go.RowKit
set_option linter.unusedVariables false
set_option linter.unusedSimpArgs false
set_option maxRecDepth 100000
set_option maxHeartbeats 2000000 in
theorem wholeD_ok (x0 : Nat) (x1 : Option Addr) (n1 c1 : Nat) {w W : World} {c r : Nat} {ao : Option Addr} {cap : Nat} {l : List Nat} {at_ er : Nat} (h : Bg w W c r ao cap l at_ er) (hn : ndE (decide (at_ = l.length)) er = 0) :
    Calls Tryz.prog 56 #[.pointer (some ⟨c, 0, none⟩), .agg #[.int .u64 (x0 : Int), .slice x1 n1 c1]] W fun e w' => e = .returned (.tuple #[.agg #[.int .u64 (x0 : Int), .slice x1 n1 c1], .int .i64 0]) ∧ Below w.heap.size w w' ∧ KeptIn (fun g => g = c) W w' := by
  have HN : Hid (ndE (decide (at_ = l.length)) er = 0) := hn
  clear hn
  have HE : Hid (∀ W, Bg w W c r ao cap l at_ er → Calls Tryz.prog 69 #[.pointer (some ⟨r, 0, none⟩)] W fun e w' => ∃ E : Int, e = .returned (.int .i64 E) ∧ (E == 0) = decide (at_ = l.length) ∧ ∃ q, w' = W.drewN q) := fun W h => rendG h
  have H : Hid (Bg w W c r ao cap l at_ er) := h
  clear h
  have q00 : ∀ o o', ((W.alloc o).alloc o').cell? ⟨c, 0, none⟩ = some (.pointer (some ⟨r, 0, none⟩)) := fun o o' => (H.out.later (below2 W o o')).c0
  go_enter Tryz.func56, Tryz.ntmps56
  go_wp2_with fail
  have hx : Bx2 W ((W.alloc (Obj.cells #[.int .u64 (x0 : Int), .slice x1 n1 c1] 80)).alloc (Obj.cells #[.int .u64 0, .slice none 0 0] 80)) #[.int .u64 (x0 : Int), .slice x1 n1 c1] #[.int .u64 0, .slice none 0 0] 80 80 := mkb2 W _ _ _ _
  generalize ((W.alloc (Obj.cells #[.int .u64 (x0 : Int), .slice x1 n1 c1] 80)).alloc (Obj.cells #[.int .u64 0, .slice none 0 0] 80)) = W5 at *
  refine (HE.out _ (H.out.later hx.bel)).mono ?_
  rintro e W6 ⟨E, rfl, hE, q, hw⟩
  have hy : Bx2 W W6 #[.int .u64 (x0 : Int), .slice x1 n1 c1] #[.int .u64 0, .slice none 0 0] 80 80 := by rw [hw]; exact hx.later (below_drewN _ q)
  have H6 : Hid (Bg w W6 c r ao cap l at_ er ∧ Bx2 W W6 #[.int .u64 (x0 : Int), .slice x1 n1 c1] #[.int .u64 0, .slice none 0 0] 80 80) := ⟨H.out.later hy.bel, hy⟩
  clear hw hx hy HE q00
  generalize hD : decide (at_ = l.length) = D at *
  go_wp2_with fail
  refine (needG D H6.out.1).mono ?_
  rintro e W7 ⟨rfl, hb7, hk7⟩
  rw [HN.out] at hb7
  have hcW : c < W.heap.size := block_lt H.out.bd
  have H7 : Hid (Bg w W7 c r ao cap l at_ 0 ∧ Bk2 c W W7 #[.int .u64 (x0 : Int), .slice x1 n1 c1] #[.int .u64 0, .slice none 0 0] 80 80) := ⟨hb7, Bk2.of hk7 H6.out.2 hcW⟩
  have kc1 := hb7.c1
  clear hb7 hk7 H6 hD
  go_wp2_with fail
  refine (wellG c 0 W7 kc1).mono ?_
  rintro e W8 ⟨rfl, hw⟩
  rw [hw]; clear hw
  have hy := H7.out.2
  have za0 : W7.cell? ⟨W.heap.size, 0, none⟩ = some (.int .u64 (x0 : Int)) := by rw [blk_at hy.a]; rfl
  have zb0 : W7.cell? ⟨W.heap.size + 1, 0, none⟩ = some (.int .u64 0) := by rw [blk_at hy.b]; rfl
  have yb0 : W7.frozen? ⟨W.heap.size + 1, 0, none⟩ = false := blk_free hy.b 0
  have za1 : W7.cell? ⟨W.heap.size, 1, none⟩ = some (.slice x1 n1 c1) := by rw [blk_at hy.a]; rfl
  have zb1 : W7.cell? ⟨W.heap.size + 1, 1, none⟩ = some (.slice none 0 0) := by rw [blk_at hy.b]; rfl
  have yb1 : W7.frozen? ⟨W.heap.size + 1, 1, none⟩ = false := blk_free hy.b 1
  clear hy
  go_wp2
  obtain ⟨hp, hq⟩ := putc2 H7.out.2.b (.int .u64 (x0 : Int)) (.slice x1 n1 c1)
  exact bodyPost_ret (results_cell_tmp1 rfl _ _ (W.heap.size + 1) 80 _ (0, 0) _ rfl hp Tryz.underlying80 rfl infoD) rfl ⟨rfl, H7.out.1.bel.trans (hq.below H7.out.1.bel.size (fun g hg => by have := H.out.bel.size; omega)), H7.out.2.kept.trans hq (fun g hg _ => by omega)⟩
set_option maxHeartbeats 2000000 in
theorem wholeD_no (x0 : Nat) (x1 : Option Addr) (n1 c1 : Nat) {w W : World} {c r : Nat} {ao : Option Addr} {cap : Nat} {l : List Nat} {at_ er : Nat} (z : Nat) (hz : z ≠ 0) (h : Bg w W c r ao cap l at_ er) (hn : ndE (decide (at_ = l.length)) er = z) :
    Calls Tryz.prog 56 #[.pointer (some ⟨c, 0, none⟩), .agg #[.int .u64 (x0 : Int), .slice x1 n1 c1]] W fun e w' => e = .returned (.tuple #[.agg #[.int .u64 0, .slice none 0 0], .int .i64 (z : Int)]) ∧ Below w.heap.size w w' ∧ KeptIn (fun g => g = c) W w' := by
  have HN : Hid (ndE (decide (at_ = l.length)) er = z) := hn
  have f0 : ((z : Int) == 0) = false := by rw [beq_eq_false_iff_ne]; omega
  clear hn hz
  have HE : Hid (∀ W, Bg w W c r ao cap l at_ er → Calls Tryz.prog 69 #[.pointer (some ⟨r, 0, none⟩)] W fun e w' => ∃ E : Int, e = .returned (.int .i64 E) ∧ (E == 0) = decide (at_ = l.length) ∧ ∃ q, w' = W.drewN q) := fun W h => rendG h
  have H : Hid (Bg w W c r ao cap l at_ er) := h
  clear h
  have q00 : ∀ o o', ((W.alloc o).alloc o').cell? ⟨c, 0, none⟩ = some (.pointer (some ⟨r, 0, none⟩)) := fun o o' => (H.out.later (below2 W o o')).c0
  go_enter Tryz.func56, Tryz.ntmps56
  go_wp2_with fail
  have hx : Bx2 W ((W.alloc (Obj.cells #[.int .u64 (x0 : Int), .slice x1 n1 c1] 80)).alloc (Obj.cells #[.int .u64 0, .slice none 0 0] 80)) #[.int .u64 (x0 : Int), .slice x1 n1 c1] #[.int .u64 0, .slice none 0 0] 80 80 := mkb2 W _ _ _ _
  generalize ((W.alloc (Obj.cells #[.int .u64 (x0 : Int), .slice x1 n1 c1] 80)).alloc (Obj.cells #[.int .u64 0, .slice none 0 0] 80)) = W5 at *
  refine (HE.out _ (H.out.later hx.bel)).mono ?_
  rintro e W6 ⟨E, rfl, hE, q, hw⟩
  have hy : Bx2 W W6 #[.int .u64 (x0 : Int), .slice x1 n1 c1] #[.int .u64 0, .slice none 0 0] 80 80 := by rw [hw]; exact hx.later (below_drewN _ q)
  have H6 : Hid (Bg w W6 c r ao cap l at_ er ∧ Bx2 W W6 #[.int .u64 (x0 : Int), .slice x1 n1 c1] #[.int .u64 0, .slice none 0 0] 80 80) := ⟨H.out.later hy.bel, hy⟩
  clear hw hx hy HE q00
  generalize hD : decide (at_ = l.length) = D at *
  go_wp2_with fail
  refine (needG D H6.out.1).mono ?_
  rintro e W7 ⟨rfl, hb7, hk7⟩
  rw [HN.out] at hb7
  have hcW : c < W.heap.size := block_lt H.out.bd
  have H7 : Hid (Bg w W7 c r ao cap l at_ z ∧ Bk2 c W W7 #[.int .u64 (x0 : Int), .slice x1 n1 c1] #[.int .u64 0, .slice none 0 0] 80 80) := ⟨hb7, Bk2.of hk7 H6.out.2 hcW⟩
  have kc1 := hb7.c1
  clear hb7 hk7 H6 hD
  go_wp2_with fail
  refine (wellG c z W7 kc1).mono ?_
  rintro e W8 ⟨rfl, hw⟩
  rw [hw]; clear hw
  rw [f0]
  have hy := H7.out.2
  have zb0 : W7.cell? ⟨W.heap.size + 1, 0, none⟩ = some (.int .u64 0) := by rw [blk_at hy.b]; rfl
  have yb0 : W7.frozen? ⟨W.heap.size + 1, 0, none⟩ = false := blk_free hy.b 0
  have zb1 : W7.cell? ⟨W.heap.size + 1, 1, none⟩ = some (.slice none 0 0) := by rw [blk_at hy.b]; rfl
  have yb1 : W7.frozen? ⟨W.heap.size + 1, 1, none⟩ = false := blk_free hy.b 1
  clear hy
  have hN := below1 W7 (Obj.cells #[.int .u64 0, .slice none 0 0] 80)
  have hc8 : (W7.alloc (Obj.cells #[.int .u64 0, .slice none 0 0] 80)).cell? ⟨c, 1, none⟩ = some (.int .i64 (z : Int)) := cell_later hN kc1
  have hb8 := (H7.out.2.later hN).b
  have H8 : Hid (Below w.heap.size w (W7.alloc (Obj.cells #[.int .u64 0, .slice none 0 0] 80)) ∧ KeptIn (fun g => g = c) W (W7.alloc (Obj.cells #[.int .u64 0, .slice none 0 0] 80)) ∧ (W7.alloc (Obj.cells #[.int .u64 0, .slice none 0 0] 80)).heap[W.heap.size + 1]? = some (.cells #[.int .u64 0, .slice none 0 0] 80 (0, 0))) := ⟨H7.out.1.bel.trans (hN.mono H7.out.1.bel.size), (H7.out.2.later hN).kept, hb8⟩
  have zn0 : (W7.alloc (Obj.cells #[.int .u64 0, .slice none 0 0] 80)).cell? ⟨W.heap.size + 1, 0, none⟩ = some (.int .u64 0) := by rw [blk_at hb8]; rfl
  have yn0 : (W7.alloc (Obj.cells #[.int .u64 0, .slice none 0 0] 80)).frozen? ⟨W.heap.size + 1, 0, none⟩ = false := blk_free hb8 0
  have zn1 : (W7.alloc (Obj.cells #[.int .u64 0, .slice none 0 0] 80)).cell? ⟨W.heap.size + 1, 1, none⟩ = some (.slice none 0 0) := by rw [blk_at hb8]; rfl
  have yn1 : (W7.alloc (Obj.cells #[.int .u64 0, .slice none 0 0] 80)).frozen? ⟨W.heap.size + 1, 1, none⟩ = false := blk_free hb8 1
  clear hN hb8
  go_wp2
  go_region
  go_wp2
  obtain ⟨hp, hq⟩ := putc2 H8.out.2.2 (.int .u64 0) (.slice none 0 0)
  have hq' := hq.drewd
  exact bodyPost_ret (results_cell_tmp1 rfl _ _ (W.heap.size + 1) 80 _ (0, 0) _ rfl hp Tryz.underlying80 rfl infoD) rfl ⟨rfl, H8.out.1.trans (hq'.below H8.out.1.size (fun g hg => by have := H.out.bel.size; omega)), H8.out.2.1.trans hq' (fun g hg _ => by omega)⟩
end Go.Proofs.YtfifaaopdhcaaaaGreatDoor

namespace Go.Proofs.YtfifaaopdhcaaaaGreatDoor
open Go.RowKit
set_option linter.unusedVariables false
set_option linter.unusedSimpArgs false
set_option maxRecDepth 100000
set_option maxHeartbeats 4000000 in
theorem unpackData_ok (ao : Option Addr) (cap N : Nat) (l : List Nat) (w : World) (h : BRow w ao cap l) (hN : l.length = N) (hl9 : 9 ≤ l.length) :
    Calls Tryz.prog 25 #[.slice ao N cap] w fun e w' => ∃ da dc n, e = .returned (.tuple #[.agg #[.int .u64 ((rvV l 0 8 : Nat) : Int), .slice da n dc], .int .i64 0]) ∧ (rrL l (raA l 0 8) (l.length - raA l 0 8)).length = n ∧ Row w w' da dc (rrL l (raA l 0 8) (l.length - raA l 0 8)) := by
  have HUp : Hid (∀ W, Below w.heap.size w W → Calls Tryz.prog 31 #[.slice ao N cap] W fun e w' => ∃ c r ao' cap', e = .returned (.pointer (some ⟨c, 0, none⟩)) ∧ Bg W w' c r ao' cap' l 0 0) := fun W hb => unpackG ao cap N l W (h.later hb) hN
  have HFn : Hid (ndE (decide (raA l (raA l 0 8) (l.length - raA l 0 8) = l.length)) (ndE (okR l (raA l 0 8) (l.length - raA l 0 8)) (ndE (decide (0 < l.length - raA l 0 8)) (ndE (okR l 0 8) 0))) = 0) := by
    show _ = _
    have e1 : okR l 0 8 = true := by simp [okR]; omega
    have e2 : raA l 0 8 = 8 := by simp [raA, e1]
    have e3 : okR l 8 (l.length - 8) = true := by simp [okR]; omega
    have e4 : raA l 8 (l.length - 8) = l.length := by simp [raA, e3]; omega
    have e5 : decide (0 < l.length - 8) = true := by simp; omega
    simp only [e2, e4, e3, e5, e1, decide_true, ndE_true]
  have HLs : Hid (∀ x ∈ rrL l (raA l 0 8) (l.length - raA l 0 8), x < 256) := fun x hx => by
    unfold rrL at hx; split at hx
    · exact h.lt x (List.mem_of_mem_drop (List.mem_of_mem_take hx))
    · simp at hx
  clear h hN hl9
  obtain ⟨V, hV⟩ : ∃ V, rvV l 0 8 = V := ⟨_, rfl⟩
  obtain ⟨a1, ha1⟩ : ∃ a1, raA l 0 8 = a1 := ⟨_, rfl⟩
  obtain ⟨e1, he1⟩ : ∃ e1, ndE (okR l 0 8) 0 = e1 := ⟨_, rfl⟩
  rw [ha1, he1] at HFn
  rw [ha1] at HLs ⊢
  rw [hV]
  obtain ⟨nn, hnn⟩ : ∃ nn, l.length - a1 = nn := ⟨_, rfl⟩
  rw [hnn] at HFn HLs ⊢
  obtain ⟨L, hL⟩ : ∃ L, rrL l a1 nn = L := ⟨_, rfl⟩
  rw [hL] at HLs ⊢
  have HV : Hid (rvV l 0 8 = V) := hV
  have HA1 : Hid (raA l 0 8 = a1) := ha1
  have HE1 : Hid (ndE (okR l 0 8) 0 = e1) := he1
  have HNN : Hid (l.length - a1 = nn) := hnn
  have HL : Hid (rrL l a1 nn = L) := hL
  clear hV ha1 he1 hnn hL
  go_enter Tryz.func25, Tryz.ntmps25
  go_wp2_with fail
  have hx := mkb1 w #[.int .u64 0, .slice none 0 0] 80
  generalize w.alloc (Obj.cells #[.int .u64 0, .slice none 0 0] 80) = W0 at *
  refine (HUp.out _ hx.bel).mono ?_
  rintro e W1 ⟨c, r, ao', cap', rfl, hbd⟩
  have HX : Hid (Bx1 w W0 #[.int .u64 0, .slice none 0 0] 80) := hx
  have H1 : Hid (Bg W0 W1 c r ao' cap' l 0 0) := hbd
  clear hx hbd HUp
  go_wp2_with fail
  have hc1 := bu64G H1.out
  rw [HV.out, HA1.out, HE1.out] at hc1
  refine hc1.mono ?_
  rintro e W2 ⟨rfl, hbd, _⟩
  have H2 : Hid (Bg W0 W2 c r ao' cap' l a1 e1) := hbd
  clear hbd H1 hc1
  go_wp2_with fail
  have h3 : Bg W0 (W2.alloc (Obj.cells #[.int .u64 (V : Int), .slice none 0 0] 80)) c r ao' cap' l a1 e1 := H2.out.later (below1 W2 _)
  have eb3 := heap_new W2 (Obj.cells #[.int .u64 (V : Int), .slice none 0 0] 80)
  have HG : Hid (W0.heap.size ≤ W2.heap.size) := H2.out.bel.size
  generalize W2.alloc (Obj.cells #[.int .u64 (V : Int), .slice none 0 0] 80) = W3 at *
  generalize W2.heap.size = ge at *
  refine (bleftG h3 HNN.out).mono ?_
  rintro e W4 ⟨rfl, q, hw⟩
  have h4 : Bg W0 W4 c r ao' cap' l a1 e1 ∧ W4.heap[ge]? = some (.cells #[.int .u64 (V : Int), .slice none 0 0] 80 (0, 0)) := by rw [hw]; exact ⟨h3.later (below_drewN _ q), eb3⟩
  have H4 : Hid _ := h4
  clear h3 eb3 hw H2 h4
  go_wp2_with fail
  refine (needG (decide (0 < nn)) H4.out.1).mono ?_
  rintro e W5 ⟨rfl, hb5, hk5⟩
  have eb5 := H4.out.1.keep H4.out.2 (by decide) (by decide) (two_of_c hk5)
  have H5 : Hid (Bg W0 W5 c r ao' cap' l a1 (ndE (decide (0 < nn)) e1) ∧ W5.heap[ge]? = some (.cells #[.int .u64 (V : Int), .slice none 0 0] 80 (0, 0))) := ⟨hb5, eb5⟩
  clear hb5 hk5 eb5 H4
  go_wp2_with fail
  refine (bleftG H5.out.1 HNN.out).mono ?_
  rintro e W6 ⟨rfl, q6, hw⟩
  have H6 : Hid (Bg W0 W6 c r ao' cap' l a1 (ndE (decide (0 < nn)) e1) ∧ W6.heap[ge]? = some (.cells #[.int .u64 (V : Int), .slice none 0 0] 80 (0, 0))) := by rw [hw]; exact ⟨H5.out.1.later (below_drewN _ q6), H5.out.2⟩
  clear hw H5
  go_wp2_with fail
  have hc7 := brawG nn H6.out.1
  rw [HL.out] at hc7
  refine hc7.mono ?_
  rintro e W7 ⟨n7, a7, c7, rfl, hn7, ho7, hb7, hk7⟩
  have eb7 := H6.out.1.keep H6.out.2 (by decide) (by decide) hk7
  have hg6 : ge < W6.heap.size := block_lt H6.out.2
  have hs6 : W0.heap.size ≤ W6.heap.size := H6.out.1.bel.size
  generalize raA l a1 nn = a2 at *
  generalize ndE (okR l a1 nn) (ndE (decide (0 < nn)) e1) = e3 at *
  clear hc7
  have HN7 : Hid (n7 = L.length) := hn7
  have HLt : Hid (c < W6.heap.size ∧ r < W6.heap.size) := ⟨block_lt H6.out.1.bd, block_lt H6.out.1.rd.blk⟩
  have HG6 : Hid (ge < W6.heap.size ∧ W0.heap.size ≤ W6.heap.size) := ⟨hg6, hs6⟩
  have H7 : Hid (Bg W0 W7 c r ao' cap' l a2 e3 ∧ W7.heap[ge]? = some (.cells #[.int .u64 (V : Int), .slice none 0 0] 80 (0, 0)) ∧ W7.ownsRow W6.heap.size 5 1 (.slice a7 n7 c7) n7 (L.map bv)) := ⟨hb7, eb7, ho7⟩
  clear H6 hb7 hk7 ho7 eb7 hn7 hg6 hs6
  have y1 : W7.cell? ⟨ge, 1, none⟩ = some (.slice none 0 0) := by rw [blk_at H7.out.2.1]; rfl
  have f1 := blk_free H7.out.2.1 1
  have H8 : Hid (Bg W0 (W7.setCell ⟨ge, 1, none⟩ (.slice a7 n7 c7)) c r ao' cap' l a2 e3 ∧ (W7.setCell ⟨ge, 1, none⟩ (.slice a7 n7 c7)).heap[ge]? = some (.cells #[.int .u64 (V : Int), .slice a7 n7 c7] 80 (0, 0)) ∧ (W7.setCell ⟨ge, 1, none⟩ (.slice a7 n7 c7)).ownsRow W6.heap.size 5 1 (.slice a7 n7 c7) n7 (L.map bv)) := ⟨H7.out.1.put H7.out.2.1 (by decide) (by decide) (by decide) HG.out 1 _, put_boxX H7.out.2.1 1 _ (by simp), owns_same H7.out.2.2 (fun g hg => (keptIn_set W7 ge 1 _).block g (owns_lt H7.out.2.2 g hg).1 (by have h1 := (owns_lt H7.out.2.2 g hg).2; have h2 := HG6.out.1; omega))⟩
  obtain ⟨W8, hW8⟩ : ∃ W8, W8 = W7.setCell ⟨ge, 1, none⟩ (.slice a7 n7 c7) := ⟨_, rfl⟩
  rw [← hW8] at H8
  have k0 : (W7.setCell ⟨ge, 1, none⟩ (.slice a7 n7 c7)).cell? ⟨ge, 0, none⟩ = some (.int .u64 (V : Int)) := by rw [← hW8, blk_at H8.out.2.1]; rfl
  have k1 : (W7.setCell ⟨ge, 1, none⟩ (.slice a7 n7 c7)).cell? ⟨ge, 1, none⟩ = some (.slice a7 n7 c7) := by rw [← hW8, blk_at H8.out.2.1]; rfl
  clear H7
  go_wp2_with fail
  rw [← hW8]
  refine (wholeD_ok V a7 n7 c7 H8.out.1 HFn.out).mono ?_
  rintro e W9 ⟨rfl, hb9, hk9⟩
  have HY : Hid (Below w.heap.size w W9 ∧ W9.heap[w.heap.size]? = some (.cells #[.int .u64 0, .slice none 0 0] 80 (0, 0))) := ⟨HX.out.bel.trans (hb9.mono HX.out.bel.size), by rw [hb9.block _ (by have := HX.out.size; omega)]; exact HX.out.a⟩
  have HR9 : Hid (W9.ownsRow W6.heap.size 5 1 (.slice a7 n7 c7) n7 (L.map bv)) := owns_same H8.out.2.2 (fun g hg => hk9.block g (owns_lt H8.out.2.2 g hg).1 (fun e => by have h1 := (owns_lt H8.out.2.2 g hg).2; have h2 := HLt.out.1; omega))
  have HL256 : Hid (∀ x ∈ L, x < 256) := HLs.out
  have za0 : W9.cell? ⟨w.heap.size, 0, none⟩ = some (.int .u64 0) := by rw [blk_at HY.out.2]; rfl
  have za1 : W9.cell? ⟨w.heap.size, 1, none⟩ = some (.slice none 0 0) := by rw [blk_at HY.out.2]; rfl
  have ya0 : W9.frozen? ⟨w.heap.size, 0, none⟩ = false := blk_free HY.out.2 0
  have ya1 : W9.frozen? ⟨w.heap.size, 1, none⟩ = false := blk_free HY.out.2 1
  clear hb9 hk9 H8 k0 k1 y1 f1 hW8
  go_wp2
  obtain ⟨hp, hq⟩ := putc2 HY.out.2 (.int .u64 (V : Int)) (.slice a7 n7 c7)
  have hs0 : w.heap.size < W0.heap.size := by have := HX.out.size; omega
  refine bodyPost_ret (results_cell_tmp1 rfl _ _ w.heap.size 80 _ (0, 0) _ rfl hp Tryz.underlying80 rfl infoD) rfl ⟨a7, c7, n7, rfl, HN7.out.symm, ⟨?_, HL256.out, HY.out.1.trans (hq.below HY.out.1.size (fun g hg => by omega))⟩⟩
  have h9 := owns_mono (owns_same HR9.out (fun g hg => hq.block g (owns_lt HR9.out g hg).1 (by have h1 := (owns_lt HR9.out g hg).2; have h2 := HG6.out.2; omega))) (show w.heap.size ≤ W6.heap.size by have := HG6.out.2; omega)
  rw [← HN7.out]; exact h9
set_option maxHeartbeats 4000000 in
theorem unpackData_no (ao : Option Addr) (cap N : Nat) (l : List Nat) (w : World) (h : BRow w ao cap l) (hN : l.length = N) (hl9 : l.length < 9) :
    Calls Tryz.prog 25 #[.slice ao N cap] w fun e w' => e = .returned (.tuple #[.agg #[.int .u64 0, .slice none 0 0], .int .i64 81]) ∧ Below w.heap.size w w' := by
  have HUp : Hid (∀ W, Below w.heap.size w W → Calls Tryz.prog 31 #[.slice ao N cap] W fun e w' => ∃ c r ao' cap', e = .returned (.pointer (some ⟨c, 0, none⟩)) ∧ Bg W w' c r ao' cap' l 0 0) := fun W hb => unpackG ao cap N l W (h.later hb) hN
  have hl9' : l.length < 9 := hl9
  have HFn : Hid (ndE (decide (raA l (raA l 0 8) (l.length - raA l 0 8) = l.length)) (ndE (okR l (raA l 0 8) (l.length - raA l 0 8)) (ndE (decide (0 < l.length - raA l 0 8)) (ndE (okR l 0 8) 0))) = 81) := by
    show _ = _
    cases h8 : okR l 0 8 with
    | false =>
      have e2 : raA l 0 8 = 0 := by simp [raA, h8]
      have e3 : okR l 0 (l.length - 0) = true := by simp [okR]
      have e3' : okR l 0 l.length = true := by simp [okR]
      have e4 : raA l 0 (l.length - 0) = l.length := by simp [raA, e3']
      simp only [e2, e4, e3, decide_true, ndE_true, ndE_false0]
      unfold ndE; split <;> simp
    | true =>
      have hl8 : l.length = 8 := by simp [okR] at h8; omega
      have e2 : raA l 0 8 = 8 := by simp [raA, h8]
      have e3 : okR l 8 (l.length - 8) = true := by simp [okR]; omega
      have e4 : raA l 8 (l.length - 8) = l.length := by simp [raA, e3]; omega
      have e5 : decide (0 < l.length - 8) = false := by simp; omega
      simp only [e2, e4, e3, e5, decide_true, ndE_true]
      rfl
  clear h hN hl9
  obtain ⟨V, hV⟩ : ∃ V, rvV l 0 8 = V := ⟨_, rfl⟩
  obtain ⟨a1, ha1⟩ : ∃ a1, raA l 0 8 = a1 := ⟨_, rfl⟩
  obtain ⟨e1, he1⟩ : ∃ e1, ndE (okR l 0 8) 0 = e1 := ⟨_, rfl⟩
  rw [ha1, he1] at HFn
  
  
  obtain ⟨nn, hnn⟩ : ∃ nn, l.length - a1 = nn := ⟨_, rfl⟩
  rw [hnn] at HFn
  obtain ⟨L, hL⟩ : ∃ L, rrL l a1 nn = L := ⟨_, rfl⟩
  
  have HV : Hid (rvV l 0 8 = V) := hV
  have HA1 : Hid (raA l 0 8 = a1) := ha1
  have HE1 : Hid (ndE (okR l 0 8) 0 = e1) := he1
  have HNN : Hid (l.length - a1 = nn) := hnn
  have HL : Hid (rrL l a1 nn = L) := hL
  clear hV ha1 he1 hnn hL
  go_enter Tryz.func25, Tryz.ntmps25
  go_wp2_with fail
  have hx := mkb1 w #[.int .u64 0, .slice none 0 0] 80
  generalize w.alloc (Obj.cells #[.int .u64 0, .slice none 0 0] 80) = W0 at *
  refine (HUp.out _ hx.bel).mono ?_
  rintro e W1 ⟨c, r, ao', cap', rfl, hbd⟩
  have HX : Hid (Bx1 w W0 #[.int .u64 0, .slice none 0 0] 80) := hx
  have H1 : Hid (Bg W0 W1 c r ao' cap' l 0 0) := hbd
  clear hx hbd HUp
  go_wp2_with fail
  have hc1 := bu64G H1.out
  rw [HV.out, HA1.out, HE1.out] at hc1
  refine hc1.mono ?_
  rintro e W2 ⟨rfl, hbd, _⟩
  have H2 : Hid (Bg W0 W2 c r ao' cap' l a1 e1) := hbd
  clear hbd H1 hc1
  go_wp2_with fail
  have h3 : Bg W0 (W2.alloc (Obj.cells #[.int .u64 (V : Int), .slice none 0 0] 80)) c r ao' cap' l a1 e1 := H2.out.later (below1 W2 _)
  have eb3 := heap_new W2 (Obj.cells #[.int .u64 (V : Int), .slice none 0 0] 80)
  have HG : Hid (W0.heap.size ≤ W2.heap.size) := H2.out.bel.size
  generalize W2.alloc (Obj.cells #[.int .u64 (V : Int), .slice none 0 0] 80) = W3 at *
  generalize W2.heap.size = ge at *
  refine (bleftG h3 HNN.out).mono ?_
  rintro e W4 ⟨rfl, q, hw⟩
  have h4 : Bg W0 W4 c r ao' cap' l a1 e1 ∧ W4.heap[ge]? = some (.cells #[.int .u64 (V : Int), .slice none 0 0] 80 (0, 0)) := by rw [hw]; exact ⟨h3.later (below_drewN _ q), eb3⟩
  have H4 : Hid _ := h4
  clear h3 eb3 hw H2 h4
  go_wp2_with fail
  refine (needG (decide (0 < nn)) H4.out.1).mono ?_
  rintro e W5 ⟨rfl, hb5, hk5⟩
  have eb5 := H4.out.1.keep H4.out.2 (by decide) (by decide) (two_of_c hk5)
  have H5 : Hid (Bg W0 W5 c r ao' cap' l a1 (ndE (decide (0 < nn)) e1) ∧ W5.heap[ge]? = some (.cells #[.int .u64 (V : Int), .slice none 0 0] 80 (0, 0))) := ⟨hb5, eb5⟩
  clear hb5 hk5 eb5 H4
  go_wp2_with fail
  refine (bleftG H5.out.1 HNN.out).mono ?_
  rintro e W6 ⟨rfl, q6, hw⟩
  have H6 : Hid (Bg W0 W6 c r ao' cap' l a1 (ndE (decide (0 < nn)) e1) ∧ W6.heap[ge]? = some (.cells #[.int .u64 (V : Int), .slice none 0 0] 80 (0, 0))) := by rw [hw]; exact ⟨H5.out.1.later (below_drewN _ q6), H5.out.2⟩
  clear hw H5
  go_wp2_with fail
  have hc7 := brawG nn H6.out.1
  rw [HL.out] at hc7
  refine hc7.mono ?_
  rintro e W7 ⟨n7, a7, c7, rfl, hn7, ho7, hb7, hk7⟩
  have eb7 := H6.out.1.keep H6.out.2 (by decide) (by decide) hk7
  have hg6 : ge < W6.heap.size := block_lt H6.out.2
  have hs6 : W0.heap.size ≤ W6.heap.size := H6.out.1.bel.size
  generalize raA l a1 nn = a2 at *
  generalize ndE (okR l a1 nn) (ndE (decide (0 < nn)) e1) = e3 at *
  clear hc7
  have HN7 : Hid (n7 = L.length) := hn7
  have HLt : Hid (c < W6.heap.size ∧ r < W6.heap.size) := ⟨block_lt H6.out.1.bd, block_lt H6.out.1.rd.blk⟩
  have HG6 : Hid (ge < W6.heap.size ∧ W0.heap.size ≤ W6.heap.size) := ⟨hg6, hs6⟩
  have H7 : Hid (Bg W0 W7 c r ao' cap' l a2 e3 ∧ W7.heap[ge]? = some (.cells #[.int .u64 (V : Int), .slice none 0 0] 80 (0, 0)) ∧ W7.ownsRow W6.heap.size 5 1 (.slice a7 n7 c7) n7 (L.map bv)) := ⟨hb7, eb7, ho7⟩
  clear H6 hb7 hk7 ho7 eb7 hn7 hg6 hs6
  have y1 : W7.cell? ⟨ge, 1, none⟩ = some (.slice none 0 0) := by rw [blk_at H7.out.2.1]; rfl
  have f1 := blk_free H7.out.2.1 1
  have H8 : Hid (Bg W0 (W7.setCell ⟨ge, 1, none⟩ (.slice a7 n7 c7)) c r ao' cap' l a2 e3 ∧ (W7.setCell ⟨ge, 1, none⟩ (.slice a7 n7 c7)).heap[ge]? = some (.cells #[.int .u64 (V : Int), .slice a7 n7 c7] 80 (0, 0)) ∧ (W7.setCell ⟨ge, 1, none⟩ (.slice a7 n7 c7)).ownsRow W6.heap.size 5 1 (.slice a7 n7 c7) n7 (L.map bv)) := ⟨H7.out.1.put H7.out.2.1 (by decide) (by decide) (by decide) HG.out 1 _, put_boxX H7.out.2.1 1 _ (by simp), owns_same H7.out.2.2 (fun g hg => (keptIn_set W7 ge 1 _).block g (owns_lt H7.out.2.2 g hg).1 (by have h1 := (owns_lt H7.out.2.2 g hg).2; have h2 := HG6.out.1; omega))⟩
  obtain ⟨W8, hW8⟩ : ∃ W8, W8 = W7.setCell ⟨ge, 1, none⟩ (.slice a7 n7 c7) := ⟨_, rfl⟩
  rw [← hW8] at H8
  have k0 : (W7.setCell ⟨ge, 1, none⟩ (.slice a7 n7 c7)).cell? ⟨ge, 0, none⟩ = some (.int .u64 (V : Int)) := by rw [← hW8, blk_at H8.out.2.1]; rfl
  have k1 : (W7.setCell ⟨ge, 1, none⟩ (.slice a7 n7 c7)).cell? ⟨ge, 1, none⟩ = some (.slice a7 n7 c7) := by rw [← hW8, blk_at H8.out.2.1]; rfl
  clear H7
  go_wp2_with fail
  rw [← hW8]
  refine (wholeD_no V a7 n7 c7 81 (by decide) H8.out.1 HFn.out).mono ?_
  rintro e W9 ⟨rfl, hb9, hk9⟩
  have HY : Hid (Below w.heap.size w W9 ∧ W9.heap[w.heap.size]? = some (.cells #[.int .u64 0, .slice none 0 0] 80 (0, 0))) := ⟨HX.out.bel.trans (hb9.mono HX.out.bel.size), by rw [hb9.block _ (by have := HX.out.size; omega)]; exact HX.out.a⟩
  have za0 : W9.cell? ⟨w.heap.size, 0, none⟩ = some (.int .u64 0) := by rw [blk_at HY.out.2]; rfl
  have za1 : W9.cell? ⟨w.heap.size, 1, none⟩ = some (.slice none 0 0) := by rw [blk_at HY.out.2]; rfl
  have ya0 : W9.frozen? ⟨w.heap.size, 0, none⟩ = false := blk_free HY.out.2 0
  have ya1 : W9.frozen? ⟨w.heap.size, 1, none⟩ = false := blk_free HY.out.2 1
  clear hb9 hk9 H8 k0 k1 y1 f1 hW8
  go_wp2
  obtain ⟨hp, hq⟩ := putc2 HY.out.2 (.int .u64 0) (.slice none 0 0)
  have hs0 : w.heap.size < W0.heap.size := by have := HX.out.size; omega
  exact bodyPost_ret (results_cell_tmp1 rfl _ _ w.heap.size 80 _ (0, 0) _ rfl hp Tryz.underlying80 rfl infoD) rfl ⟨rfl, HY.out.1.trans (hq.below HY.out.1.size (fun g hg => by omega))⟩
end Go.Proofs.YtfifaaopdhcaaaaGreatDoor

namespace Go.Proofs.YtfifaaopdhcaaaaGreatDoor
open Go.RowKit
set_option linter.unusedVariables false
set_option linter.unusedSimpArgs false
set_option maxRecDepth 100000
theorem rvV_lt16 {l : List Nat} (hl : ∀ x ∈ l, x < 256) (at_ : Nat) : rvV l at_ 2 < 65536 := by
  unfold rvV; split
  · exact valB_bound l at_ 2 hl
  · decide
set_option maxHeartbeats 4000000 in
theorem unpackError_ok0 (ao : Option Addr) (cap N : Nat) (l : List Nat) (w : World) (h : BRow w ao cap l) (hN : l.length = N) (hT : Tabs w) (V a1 e1 n2 a2 e2 a3 e3 : Nat) (s : ByteArray) (h1 : rvV l 0 4 = V ∧ raA l 0 4 = a1 ∧ ndE (okR l 0 4) 0 = e1) (h2 : rvV l a1 2 = n2 ∧ raA l a1 2 = a2 ∧ ndE (okR l a1 2) e1 = e2) (h3 : bstr (rrL l a2 n2) = s ∧ raA l a2 n2 = a3 ∧ ndE (tx s) (ndE (okR l a2 n2) e2) = e3) (hfin : ndE (decide (a3 = l.length)) e3 = 0) :
    Calls Tryz.prog 23 #[.slice ao N cap, .bool false] w fun e w' => e = .returned (.tuple #[.agg #[.int .u32 (V : Int), .string s, .bool false, .int .u64 0], .int .i64 0]) ∧ Below w.heap.size w w' := by
  have HUp : Hid (∀ W, Below w.heap.size w W → Calls Tryz.prog 31 #[.slice ao N cap] W fun e w' => ∃ c r ao' cap', e = .returned (.pointer (some ⟨c, 0, none⟩)) ∧ Bg W w' c r ao' cap' l 0 0) := fun W hb => unpackG ao cap N l W (h.later hb) hN
  have HFn : Hid (ndE (decide (a3 = l.length)) e3 = 0) := hfin
  have HT : Hid (Tabs w) := hT
  have hw2 : IntKind.i64.wrap (n2 : Int) = (n2 : Int) := by have := rvV_lt16 h.lt a1; rw [h2.1] at this; rw [IntKind.wrap_i64]; omega
  have H1' : Hid (rvV l 0 4 = V ∧ raA l 0 4 = a1 ∧ ndE (okR l 0 4) 0 = e1) := h1
  have H2' : Hid (rvV l a1 2 = n2 ∧ raA l a1 2 = a2 ∧ ndE (okR l a1 2) e1 = e2) := h2
  have H3' : Hid (bstr (rrL l a2 n2) = s ∧ raA l a2 n2 = a3 ∧ ndE (tx s) (ndE (okR l a2 n2) e2) = e3) := h3
  
  clear h hN hfin hT h1 h2 h3 
  go_enter Tryz.func23, Tryz.ntmps23
  go_wp2_with fail
  have hx := mkb1 w #[.int .u32 0, .string ⟨#[]⟩, .bool false, .int .u64 0] 74
  generalize w.alloc (Obj.cells #[.int .u32 0, .string ⟨#[]⟩, .bool false, .int .u64 0] 74) = W0 at *
  refine (HUp.out _ hx.bel).mono ?_
  rintro e W1 ⟨c, r, ao', cap', rfl, hbd⟩
  have HX : Hid (Bx1 w W0 #[.int .u32 0, .string ⟨#[]⟩, .bool false, .int .u64 0] 74) := hx
  have HT0 : Hid (Tabs W0) := HT.out.later hx.bel
  have H1 : Hid (Bg W0 W1 c r ao' cap' l 0 0) := hbd
  clear hx hbd HUp HT
  go_wp2_with fail
  have hc1 := bu32G H1.out
  rw [H1'.out.1, H1'.out.2.1, H1'.out.2.2] at hc1
  refine hc1.mono ?_
  rintro e W2 ⟨rfl, hbd, _⟩
  have H2 : Hid (Bg W0 W2 c r ao' cap' l a1 e1) := hbd
  clear hbd H1 hc1
  go_wp2_with fail
  have h3 : Bg W0 (W2.alloc (Obj.cells #[.int .u32 (V : Int), .string ⟨#[]⟩, .bool false, .int .u64 0] 74)) c r ao' cap' l a1 e1 := H2.out.later (below1 W2 _)
  have eb3 := heap_new W2 (Obj.cells #[.int .u32 (V : Int), .string ⟨#[]⟩, .bool false, .int .u64 0] 74)
  have HG : Hid (W0.heap.size ≤ W2.heap.size) := H2.out.bel.size
  generalize W2.alloc (Obj.cells #[.int .u32 (V : Int), .string ⟨#[]⟩, .bool false, .int .u64 0] 74) = W3 at *
  generalize W2.heap.size = ge at *
  have hc2 := bu16G h3
  rw [H2'.out.1, H2'.out.2.1, H2'.out.2.2] at hc2
  refine hc2.mono ?_
  rintro e W4 ⟨rfl, hb4, hk4⟩
  have H4 : Hid (Bg W0 W4 c r ao' cap' l a2 e2 ∧ W4.heap[ge]? = some (.cells #[.int .u32 (V : Int), .string ⟨#[]⟩, .bool false, .int .u64 0] 74 (0, 0))) := ⟨hb4, h3.keep eb3 (by decide) (by decide) hk4⟩
  clear h3 eb3 H2 hb4 hk4 hc2
  go_wp2_with fail
  have hc7 := brawTextG n2 H4.out.1 HT0.out
  rw [H3'.out.1, H3'.out.2.1, H3'.out.2.2] at hc7
  refine hc7.mono ?_
  rintro e W7 ⟨rfl, hb7, hk7⟩
  have H7 : Hid (Bg W0 W7 c r ao' cap' l a3 e3 ∧ W7.heap[ge]? = some (.cells #[.int .u32 (V : Int), .string ⟨#[]⟩, .bool false, .int .u64 0] 74 (0, 0))) := ⟨hb7, H4.out.1.keep H4.out.2 (by decide) (by decide) hk7⟩
  clear H4 hb7 hk7 hc7
  have y1 : W7.cell? ⟨ge, 1, none⟩ = some (.string ⟨#[]⟩) := by rw [blk_at H7.out.2]; rfl
  have f1 := blk_free H7.out.2 1
  have H8 : Hid (Bg W0 (W7.setCell ⟨ge, 1, none⟩ (.string s)) c r ao' cap' l a3 e3 ∧ (W7.setCell ⟨ge, 1, none⟩ (.string s)).heap[ge]? = some (.cells #[.int .u32 (V : Int), .string s, .bool false, .int .u64 0] 74 (0, 0))) := ⟨H7.out.1.put H7.out.2 (by decide) (by decide) (by decide) HG.out 1 _, put_boxX H7.out.2 1 _ (by simp)⟩
  obtain ⟨W8, hW8⟩ : ∃ W8, W8 = W7.setCell ⟨ge, 1, none⟩ (.string s) := ⟨_, rfl⟩
  rw [← hW8] at H8
  have k0 : (W7.setCell ⟨ge, 1, none⟩ (.string s)).cell? ⟨ge, 0, none⟩ = some (.int .u32 (V : Int)) := by rw [← hW8, blk_at H8.out.2]; rfl
  have k1 : (W7.setCell ⟨ge, 1, none⟩ (.string s)).cell? ⟨ge, 1, none⟩ = some (.string s) := by rw [← hW8, blk_at H8.out.2]; rfl
  have k2 : (W7.setCell ⟨ge, 1, none⟩ (.string s)).cell? ⟨ge, 2, none⟩ = some (.bool false) := by rw [← hW8, blk_at H8.out.2]; rfl
  have k3 : (W7.setCell ⟨ge, 1, none⟩ (.string s)).cell? ⟨ge, 3, none⟩ = some (.int .u64 0) := by rw [← hW8, blk_at H8.out.2]; rfl
  clear H7
  go_wp2_with fail
  rw [← hW8]
  refine (wholeE_ok V s false 0 H8.out.1 HFn.out).mono ?_
  rintro e W9 ⟨rfl, hb9, hk9⟩
  have HY : Hid (Below w.heap.size w W9 ∧ W9.heap[w.heap.size]? = some (.cells #[.int .u32 0, .string ⟨#[]⟩, .bool false, .int .u64 0] 74 (0, 0))) := ⟨HX.out.bel.trans (hb9.mono HX.out.bel.size), by rw [hb9.block _ (by have := HX.out.size; omega)]; exact HX.out.a⟩
  have za0 : W9.cell? ⟨w.heap.size, 0, none⟩ = some (.int .u32 0) := by rw [blk_at HY.out.2]; rfl
  have ya0 : W9.frozen? ⟨w.heap.size, 0, none⟩ = false := blk_free HY.out.2 0
  have za1 : W9.cell? ⟨w.heap.size, 1, none⟩ = some (.string ⟨#[]⟩) := by rw [blk_at HY.out.2]; rfl
  have ya1 : W9.frozen? ⟨w.heap.size, 1, none⟩ = false := blk_free HY.out.2 1
  have za2 : W9.cell? ⟨w.heap.size, 2, none⟩ = some (.bool false) := by rw [blk_at HY.out.2]; rfl
  have ya2 : W9.frozen? ⟨w.heap.size, 2, none⟩ = false := blk_free HY.out.2 2
  have za3 : W9.cell? ⟨w.heap.size, 3, none⟩ = some (.int .u64 0) := by rw [blk_at HY.out.2]; rfl
  have ya3 : W9.frozen? ⟨w.heap.size, 3, none⟩ = false := blk_free HY.out.2 3
  have hs0 : w.heap.size < W0.heap.size := by have := HX.out.size; omega
  clear hb9 hk9 H8 k0 k1 k2 k3 y1 f1 hW8
  go_wp2
  obtain ⟨hp, hq⟩ := putc4 HY.out.2 (.int .u32 (V : Int)) (.string s) (.bool false) (.int .u64 0)
  exact bodyPost_ret (results_cell_tmp1 rfl _ _ w.heap.size 74 _ (0, 0) _ rfl hp Tryz.underlying74 rfl infoE) rfl ⟨rfl, HY.out.1.trans (hq.below HY.out.1.size (fun g hg => by omega))⟩
set_option maxHeartbeats 4000000 in
theorem unpackError_no0 (ao : Option Addr) (cap N : Nat) (l : List Nat) (w : World) (h : BRow w ao cap l) (hN : l.length = N) (hT : Tabs w) (V a1 e1 n2 a2 e2 a3 e3 : Nat) (s : ByteArray) (h1 : rvV l 0 4 = V ∧ raA l 0 4 = a1 ∧ ndE (okR l 0 4) 0 = e1) (h2 : rvV l a1 2 = n2 ∧ raA l a1 2 = a2 ∧ ndE (okR l a1 2) e1 = e2) (h3 : bstr (rrL l a2 n2) = s ∧ raA l a2 n2 = a3 ∧ ndE (tx s) (ndE (okR l a2 n2) e2) = e3) (hfin : ndE (decide (a3 = l.length)) e3 = 81) :
    Calls Tryz.prog 23 #[.slice ao N cap, .bool false] w fun e w' => e = .returned (.tuple #[.agg #[.int .u32 0, .string ⟨#[]⟩, .bool false, .int .u64 0], .int .i64 81]) ∧ Below w.heap.size w w' := by
  have HUp : Hid (∀ W, Below w.heap.size w W → Calls Tryz.prog 31 #[.slice ao N cap] W fun e w' => ∃ c r ao' cap', e = .returned (.pointer (some ⟨c, 0, none⟩)) ∧ Bg W w' c r ao' cap' l 0 0) := fun W hb => unpackG ao cap N l W (h.later hb) hN
  have HFn : Hid (ndE (decide (a3 = l.length)) e3 = 81) := hfin
  have HT : Hid (Tabs w) := hT
  have hw2 : IntKind.i64.wrap (n2 : Int) = (n2 : Int) := by have := rvV_lt16 h.lt a1; rw [h2.1] at this; rw [IntKind.wrap_i64]; omega
  have H1' : Hid (rvV l 0 4 = V ∧ raA l 0 4 = a1 ∧ ndE (okR l 0 4) 0 = e1) := h1
  have H2' : Hid (rvV l a1 2 = n2 ∧ raA l a1 2 = a2 ∧ ndE (okR l a1 2) e1 = e2) := h2
  have H3' : Hid (bstr (rrL l a2 n2) = s ∧ raA l a2 n2 = a3 ∧ ndE (tx s) (ndE (okR l a2 n2) e2) = e3) := h3
  
  clear h hN hfin hT h1 h2 h3 
  go_enter Tryz.func23, Tryz.ntmps23
  go_wp2_with fail
  have hx := mkb1 w #[.int .u32 0, .string ⟨#[]⟩, .bool false, .int .u64 0] 74
  generalize w.alloc (Obj.cells #[.int .u32 0, .string ⟨#[]⟩, .bool false, .int .u64 0] 74) = W0 at *
  refine (HUp.out _ hx.bel).mono ?_
  rintro e W1 ⟨c, r, ao', cap', rfl, hbd⟩
  have HX : Hid (Bx1 w W0 #[.int .u32 0, .string ⟨#[]⟩, .bool false, .int .u64 0] 74) := hx
  have HT0 : Hid (Tabs W0) := HT.out.later hx.bel
  have H1 : Hid (Bg W0 W1 c r ao' cap' l 0 0) := hbd
  clear hx hbd HUp HT
  go_wp2_with fail
  have hc1 := bu32G H1.out
  rw [H1'.out.1, H1'.out.2.1, H1'.out.2.2] at hc1
  refine hc1.mono ?_
  rintro e W2 ⟨rfl, hbd, _⟩
  have H2 : Hid (Bg W0 W2 c r ao' cap' l a1 e1) := hbd
  clear hbd H1 hc1
  go_wp2_with fail
  have h3 : Bg W0 (W2.alloc (Obj.cells #[.int .u32 (V : Int), .string ⟨#[]⟩, .bool false, .int .u64 0] 74)) c r ao' cap' l a1 e1 := H2.out.later (below1 W2 _)
  have eb3 := heap_new W2 (Obj.cells #[.int .u32 (V : Int), .string ⟨#[]⟩, .bool false, .int .u64 0] 74)
  have HG : Hid (W0.heap.size ≤ W2.heap.size) := H2.out.bel.size
  generalize W2.alloc (Obj.cells #[.int .u32 (V : Int), .string ⟨#[]⟩, .bool false, .int .u64 0] 74) = W3 at *
  generalize W2.heap.size = ge at *
  have hc2 := bu16G h3
  rw [H2'.out.1, H2'.out.2.1, H2'.out.2.2] at hc2
  refine hc2.mono ?_
  rintro e W4 ⟨rfl, hb4, hk4⟩
  have H4 : Hid (Bg W0 W4 c r ao' cap' l a2 e2 ∧ W4.heap[ge]? = some (.cells #[.int .u32 (V : Int), .string ⟨#[]⟩, .bool false, .int .u64 0] 74 (0, 0))) := ⟨hb4, h3.keep eb3 (by decide) (by decide) hk4⟩
  clear h3 eb3 H2 hb4 hk4 hc2
  go_wp2_with fail
  have hc7 := brawTextG n2 H4.out.1 HT0.out
  rw [H3'.out.1, H3'.out.2.1, H3'.out.2.2] at hc7
  refine hc7.mono ?_
  rintro e W7 ⟨rfl, hb7, hk7⟩
  have H7 : Hid (Bg W0 W7 c r ao' cap' l a3 e3 ∧ W7.heap[ge]? = some (.cells #[.int .u32 (V : Int), .string ⟨#[]⟩, .bool false, .int .u64 0] 74 (0, 0))) := ⟨hb7, H4.out.1.keep H4.out.2 (by decide) (by decide) hk7⟩
  clear H4 hb7 hk7 hc7
  have y1 : W7.cell? ⟨ge, 1, none⟩ = some (.string ⟨#[]⟩) := by rw [blk_at H7.out.2]; rfl
  have f1 := blk_free H7.out.2 1
  have H8 : Hid (Bg W0 (W7.setCell ⟨ge, 1, none⟩ (.string s)) c r ao' cap' l a3 e3 ∧ (W7.setCell ⟨ge, 1, none⟩ (.string s)).heap[ge]? = some (.cells #[.int .u32 (V : Int), .string s, .bool false, .int .u64 0] 74 (0, 0))) := ⟨H7.out.1.put H7.out.2 (by decide) (by decide) (by decide) HG.out 1 _, put_boxX H7.out.2 1 _ (by simp)⟩
  obtain ⟨W8, hW8⟩ : ∃ W8, W8 = W7.setCell ⟨ge, 1, none⟩ (.string s) := ⟨_, rfl⟩
  rw [← hW8] at H8
  have k0 : (W7.setCell ⟨ge, 1, none⟩ (.string s)).cell? ⟨ge, 0, none⟩ = some (.int .u32 (V : Int)) := by rw [← hW8, blk_at H8.out.2]; rfl
  have k1 : (W7.setCell ⟨ge, 1, none⟩ (.string s)).cell? ⟨ge, 1, none⟩ = some (.string s) := by rw [← hW8, blk_at H8.out.2]; rfl
  have k2 : (W7.setCell ⟨ge, 1, none⟩ (.string s)).cell? ⟨ge, 2, none⟩ = some (.bool false) := by rw [← hW8, blk_at H8.out.2]; rfl
  have k3 : (W7.setCell ⟨ge, 1, none⟩ (.string s)).cell? ⟨ge, 3, none⟩ = some (.int .u64 0) := by rw [← hW8, blk_at H8.out.2]; rfl
  clear H7
  go_wp2_with fail
  rw [← hW8]
  refine (wholeE_no V s false 0 81 (by decide) H8.out.1 HFn.out).mono ?_
  rintro e W9 ⟨rfl, hb9, hk9⟩
  have HY : Hid (Below w.heap.size w W9 ∧ W9.heap[w.heap.size]? = some (.cells #[.int .u32 0, .string ⟨#[]⟩, .bool false, .int .u64 0] 74 (0, 0))) := ⟨HX.out.bel.trans (hb9.mono HX.out.bel.size), by rw [hb9.block _ (by have := HX.out.size; omega)]; exact HX.out.a⟩
  have za0 : W9.cell? ⟨w.heap.size, 0, none⟩ = some (.int .u32 0) := by rw [blk_at HY.out.2]; rfl
  have ya0 : W9.frozen? ⟨w.heap.size, 0, none⟩ = false := blk_free HY.out.2 0
  have za1 : W9.cell? ⟨w.heap.size, 1, none⟩ = some (.string ⟨#[]⟩) := by rw [blk_at HY.out.2]; rfl
  have ya1 : W9.frozen? ⟨w.heap.size, 1, none⟩ = false := blk_free HY.out.2 1
  have za2 : W9.cell? ⟨w.heap.size, 2, none⟩ = some (.bool false) := by rw [blk_at HY.out.2]; rfl
  have ya2 : W9.frozen? ⟨w.heap.size, 2, none⟩ = false := blk_free HY.out.2 2
  have za3 : W9.cell? ⟨w.heap.size, 3, none⟩ = some (.int .u64 0) := by rw [blk_at HY.out.2]; rfl
  have ya3 : W9.frozen? ⟨w.heap.size, 3, none⟩ = false := blk_free HY.out.2 3
  have hs0 : w.heap.size < W0.heap.size := by have := HX.out.size; omega
  clear hb9 hk9 H8 k0 k1 k2 k3 y1 f1 hW8
  go_wp2
  obtain ⟨hp, hq⟩ := putc4 HY.out.2 (.int .u32 0) (.string ⟨#[]⟩) (.bool false) (.int .u64 0)
  exact bodyPost_ret (results_cell_tmp1 rfl _ _ w.heap.size 74 _ (0, 0) _ rfl hp Tryz.underlying74 rfl infoE) rfl ⟨rfl, HY.out.1.trans (hq.below HY.out.1.size (fun g hg => by omega))⟩
set_option maxHeartbeats 4000000 in
theorem unpackError_ok1 (ao : Option Addr) (cap N : Nat) (l : List Nat) (w : World) (h : BRow w ao cap l) (hN : l.length = N) (hT : Tabs w) (V a1 e1 n2 a2 e2 a3 e3 : Nat) (s : ByteArray) (h1 : rvV l 0 4 = V ∧ raA l 0 4 = a1 ∧ ndE (okR l 0 4) 0 = e1) (h2 : rvV l a1 2 = n2 ∧ raA l a1 2 = a2 ∧ ndE (okR l a1 2) e1 = e2) (h3 : bstr (rrL l a2 n2) = s ∧ raA l a2 n2 = a3 ∧ ndE (tx s) (ndE (okR l a2 n2) e2) = e3) (At a4 e4 : Nat) (h4 : rvV l a3 8 = At ∧ raA l a3 8 = a4 ∧ ndE (okR l a3 8) e3 = e4) (hfin : ndE (decide (a4 = l.length)) e4 = 0) :
    Calls Tryz.prog 23 #[.slice ao N cap, .bool true] w fun e w' => e = .returned (.tuple #[.agg #[.int .u32 (V : Int), .string s, .bool true, .int .u64 (At : Int)], .int .i64 0]) ∧ Below w.heap.size w w' := by
  have HUp : Hid (∀ W, Below w.heap.size w W → Calls Tryz.prog 31 #[.slice ao N cap] W fun e w' => ∃ c r ao' cap', e = .returned (.pointer (some ⟨c, 0, none⟩)) ∧ Bg W w' c r ao' cap' l 0 0) := fun W hb => unpackG ao cap N l W (h.later hb) hN
  have HFn : Hid (ndE (decide (a4 = l.length)) e4 = 0) := hfin
  have HT : Hid (Tabs w) := hT
  have hw2 : IntKind.i64.wrap (n2 : Int) = (n2 : Int) := by have := rvV_lt16 h.lt a1; rw [h2.1] at this; rw [IntKind.wrap_i64]; omega
  have H1' : Hid (rvV l 0 4 = V ∧ raA l 0 4 = a1 ∧ ndE (okR l 0 4) 0 = e1) := h1
  have H2' : Hid (rvV l a1 2 = n2 ∧ raA l a1 2 = a2 ∧ ndE (okR l a1 2) e1 = e2) := h2
  have H3' : Hid (bstr (rrL l a2 n2) = s ∧ raA l a2 n2 = a3 ∧ ndE (tx s) (ndE (okR l a2 n2) e2) = e3) := h3
  have H4' : Hid (rvV l a3 8 = At ∧ raA l a3 8 = a4 ∧ ndE (okR l a3 8) e3 = e4) := h4
  clear h hN hfin hT h1 h2 h3 h4
  go_enter Tryz.func23, Tryz.ntmps23
  go_wp2_with fail
  have hx := mkb1 w #[.int .u32 0, .string ⟨#[]⟩, .bool false, .int .u64 0] 74
  generalize w.alloc (Obj.cells #[.int .u32 0, .string ⟨#[]⟩, .bool false, .int .u64 0] 74) = W0 at *
  refine (HUp.out _ hx.bel).mono ?_
  rintro e W1 ⟨c, r, ao', cap', rfl, hbd⟩
  have HX : Hid (Bx1 w W0 #[.int .u32 0, .string ⟨#[]⟩, .bool false, .int .u64 0] 74) := hx
  have HT0 : Hid (Tabs W0) := HT.out.later hx.bel
  have H1 : Hid (Bg W0 W1 c r ao' cap' l 0 0) := hbd
  clear hx hbd HUp HT
  go_wp2_with fail
  have hc1 := bu32G H1.out
  rw [H1'.out.1, H1'.out.2.1, H1'.out.2.2] at hc1
  refine hc1.mono ?_
  rintro e W2 ⟨rfl, hbd, _⟩
  have H2 : Hid (Bg W0 W2 c r ao' cap' l a1 e1) := hbd
  clear hbd H1 hc1
  go_wp2_with fail
  have h3 : Bg W0 (W2.alloc (Obj.cells #[.int .u32 (V : Int), .string ⟨#[]⟩, .bool true, .int .u64 0] 74)) c r ao' cap' l a1 e1 := H2.out.later (below1 W2 _)
  have eb3 := heap_new W2 (Obj.cells #[.int .u32 (V : Int), .string ⟨#[]⟩, .bool true, .int .u64 0] 74)
  have HG : Hid (W0.heap.size ≤ W2.heap.size) := H2.out.bel.size
  generalize W2.alloc (Obj.cells #[.int .u32 (V : Int), .string ⟨#[]⟩, .bool true, .int .u64 0] 74) = W3 at *
  generalize W2.heap.size = ge at *
  have hc2 := bu16G h3
  rw [H2'.out.1, H2'.out.2.1, H2'.out.2.2] at hc2
  refine hc2.mono ?_
  rintro e W4 ⟨rfl, hb4, hk4⟩
  have H4 : Hid (Bg W0 W4 c r ao' cap' l a2 e2 ∧ W4.heap[ge]? = some (.cells #[.int .u32 (V : Int), .string ⟨#[]⟩, .bool true, .int .u64 0] 74 (0, 0))) := ⟨hb4, h3.keep eb3 (by decide) (by decide) hk4⟩
  clear h3 eb3 H2 hb4 hk4 hc2
  go_wp2_with fail
  have hc7 := brawTextG n2 H4.out.1 HT0.out
  rw [H3'.out.1, H3'.out.2.1, H3'.out.2.2] at hc7
  refine hc7.mono ?_
  rintro e W7 ⟨rfl, hb7, hk7⟩
  have H7 : Hid (Bg W0 W7 c r ao' cap' l a3 e3 ∧ W7.heap[ge]? = some (.cells #[.int .u32 (V : Int), .string ⟨#[]⟩, .bool true, .int .u64 0] 74 (0, 0))) := ⟨hb7, H4.out.1.keep H4.out.2 (by decide) (by decide) hk7⟩
  clear H4 hb7 hk7 hc7
  have y1 : W7.cell? ⟨ge, 1, none⟩ = some (.string ⟨#[]⟩) := by rw [blk_at H7.out.2]; rfl
  have f1 := blk_free H7.out.2 1
  have H8 : Hid (Bg W0 (W7.setCell ⟨ge, 1, none⟩ (.string s)) c r ao' cap' l a3 e3 ∧ (W7.setCell ⟨ge, 1, none⟩ (.string s)).heap[ge]? = some (.cells #[.int .u32 (V : Int), .string s, .bool true, .int .u64 0] 74 (0, 0))) := ⟨H7.out.1.put H7.out.2 (by decide) (by decide) (by decide) HG.out 1 _, put_boxX H7.out.2 1 _ (by simp)⟩
  obtain ⟨W8, hW8⟩ : ∃ W8, W8 = W7.setCell ⟨ge, 1, none⟩ (.string s) := ⟨_, rfl⟩
  rw [← hW8] at H8
  clear H7
  go_wp2_with fail
  rw [← hW8]
  have hc9 := bu64G H8.out.1
  rw [H4'.out.1, H4'.out.2.1, H4'.out.2.2] at hc9
  refine hc9.mono ?_
  rintro e Wb ⟨rfl, hb7, hk7⟩
  have H7 : Hid (Bg W0 Wb c r ao' cap' l a4 e4 ∧ Wb.heap[ge]? = some (.cells #[.int .u32 (V : Int), .string s, .bool true, .int .u64 0] 74 (0, 0))) := ⟨hb7, H8.out.1.keep H8.out.2 (by decide) (by decide) hk7⟩
  clear H8 hb7 hk7 hc9 y1 f1 hW8 W8
  have y1 : Wb.cell? ⟨ge, 3, none⟩ = some (.int .u64 0) := by rw [blk_at H7.out.2]; rfl
  have f1 := blk_free H7.out.2 3
  have H8 : Hid (Bg W0 (Wb.setCell ⟨ge, 3, none⟩ (.int .u64 (At : Int))) c r ao' cap' l a4 e4 ∧ (Wb.setCell ⟨ge, 3, none⟩ (.int .u64 (At : Int))).heap[ge]? = some (.cells #[.int .u32 (V : Int), .string s, .bool true, .int .u64 (At : Int)] 74 (0, 0))) := ⟨H7.out.1.put H7.out.2 (by decide) (by decide) (by decide) HG.out 3 _, put_boxX H7.out.2 3 _ (by simp)⟩
  obtain ⟨W8, hW8⟩ : ∃ W8, W8 = Wb.setCell ⟨ge, 3, none⟩ (.int .u64 (At : Int)) := ⟨_, rfl⟩
  rw [← hW8] at H8
  have k0 : (Wb.setCell ⟨ge, 3, none⟩ (.int .u64 (At : Int))).cell? ⟨ge, 0, none⟩ = some (.int .u32 (V : Int)) := by rw [← hW8, blk_at H8.out.2]; rfl
  have k1 : (Wb.setCell ⟨ge, 3, none⟩ (.int .u64 (At : Int))).cell? ⟨ge, 1, none⟩ = some (.string s) := by rw [← hW8, blk_at H8.out.2]; rfl
  have k2 : (Wb.setCell ⟨ge, 3, none⟩ (.int .u64 (At : Int))).cell? ⟨ge, 2, none⟩ = some (.bool true) := by rw [← hW8, blk_at H8.out.2]; rfl
  have k3 : (Wb.setCell ⟨ge, 3, none⟩ (.int .u64 (At : Int))).cell? ⟨ge, 3, none⟩ = some (.int .u64 (At : Int)) := by rw [← hW8, blk_at H8.out.2]; rfl
  clear H7
  go_wp2_with fail
  rw [← hW8]
  refine (wholeE_ok V s true At H8.out.1 HFn.out).mono ?_
  rintro e W9 ⟨rfl, hb9, hk9⟩
  have HY : Hid (Below w.heap.size w W9 ∧ W9.heap[w.heap.size]? = some (.cells #[.int .u32 0, .string ⟨#[]⟩, .bool false, .int .u64 0] 74 (0, 0))) := ⟨HX.out.bel.trans (hb9.mono HX.out.bel.size), by rw [hb9.block _ (by have := HX.out.size; omega)]; exact HX.out.a⟩
  have za0 : W9.cell? ⟨w.heap.size, 0, none⟩ = some (.int .u32 0) := by rw [blk_at HY.out.2]; rfl
  have ya0 : W9.frozen? ⟨w.heap.size, 0, none⟩ = false := blk_free HY.out.2 0
  have za1 : W9.cell? ⟨w.heap.size, 1, none⟩ = some (.string ⟨#[]⟩) := by rw [blk_at HY.out.2]; rfl
  have ya1 : W9.frozen? ⟨w.heap.size, 1, none⟩ = false := blk_free HY.out.2 1
  have za2 : W9.cell? ⟨w.heap.size, 2, none⟩ = some (.bool false) := by rw [blk_at HY.out.2]; rfl
  have ya2 : W9.frozen? ⟨w.heap.size, 2, none⟩ = false := blk_free HY.out.2 2
  have za3 : W9.cell? ⟨w.heap.size, 3, none⟩ = some (.int .u64 0) := by rw [blk_at HY.out.2]; rfl
  have ya3 : W9.frozen? ⟨w.heap.size, 3, none⟩ = false := blk_free HY.out.2 3
  have hs0 : w.heap.size < W0.heap.size := by have := HX.out.size; omega
  clear hb9 hk9 H8 k0 k1 k2 k3 y1 f1 hW8
  go_wp2
  obtain ⟨hp, hq⟩ := putc4 HY.out.2 (.int .u32 (V : Int)) (.string s) (.bool true) (.int .u64 (At : Int))
  exact bodyPost_ret (results_cell_tmp1 rfl _ _ w.heap.size 74 _ (0, 0) _ rfl hp Tryz.underlying74 rfl infoE) rfl ⟨rfl, HY.out.1.trans (hq.below HY.out.1.size (fun g hg => by omega))⟩
set_option maxHeartbeats 4000000 in
theorem unpackError_no1 (ao : Option Addr) (cap N : Nat) (l : List Nat) (w : World) (h : BRow w ao cap l) (hN : l.length = N) (hT : Tabs w) (V a1 e1 n2 a2 e2 a3 e3 : Nat) (s : ByteArray) (h1 : rvV l 0 4 = V ∧ raA l 0 4 = a1 ∧ ndE (okR l 0 4) 0 = e1) (h2 : rvV l a1 2 = n2 ∧ raA l a1 2 = a2 ∧ ndE (okR l a1 2) e1 = e2) (h3 : bstr (rrL l a2 n2) = s ∧ raA l a2 n2 = a3 ∧ ndE (tx s) (ndE (okR l a2 n2) e2) = e3) (At a4 e4 : Nat) (h4 : rvV l a3 8 = At ∧ raA l a3 8 = a4 ∧ ndE (okR l a3 8) e3 = e4) (hfin : ndE (decide (a4 = l.length)) e4 = 81) :
    Calls Tryz.prog 23 #[.slice ao N cap, .bool true] w fun e w' => e = .returned (.tuple #[.agg #[.int .u32 0, .string ⟨#[]⟩, .bool false, .int .u64 0], .int .i64 81]) ∧ Below w.heap.size w w' := by
  have HUp : Hid (∀ W, Below w.heap.size w W → Calls Tryz.prog 31 #[.slice ao N cap] W fun e w' => ∃ c r ao' cap', e = .returned (.pointer (some ⟨c, 0, none⟩)) ∧ Bg W w' c r ao' cap' l 0 0) := fun W hb => unpackG ao cap N l W (h.later hb) hN
  have HFn : Hid (ndE (decide (a4 = l.length)) e4 = 81) := hfin
  have HT : Hid (Tabs w) := hT
  have hw2 : IntKind.i64.wrap (n2 : Int) = (n2 : Int) := by have := rvV_lt16 h.lt a1; rw [h2.1] at this; rw [IntKind.wrap_i64]; omega
  have H1' : Hid (rvV l 0 4 = V ∧ raA l 0 4 = a1 ∧ ndE (okR l 0 4) 0 = e1) := h1
  have H2' : Hid (rvV l a1 2 = n2 ∧ raA l a1 2 = a2 ∧ ndE (okR l a1 2) e1 = e2) := h2
  have H3' : Hid (bstr (rrL l a2 n2) = s ∧ raA l a2 n2 = a3 ∧ ndE (tx s) (ndE (okR l a2 n2) e2) = e3) := h3
  have H4' : Hid (rvV l a3 8 = At ∧ raA l a3 8 = a4 ∧ ndE (okR l a3 8) e3 = e4) := h4
  clear h hN hfin hT h1 h2 h3 h4
  go_enter Tryz.func23, Tryz.ntmps23
  go_wp2_with fail
  have hx := mkb1 w #[.int .u32 0, .string ⟨#[]⟩, .bool false, .int .u64 0] 74
  generalize w.alloc (Obj.cells #[.int .u32 0, .string ⟨#[]⟩, .bool false, .int .u64 0] 74) = W0 at *
  refine (HUp.out _ hx.bel).mono ?_
  rintro e W1 ⟨c, r, ao', cap', rfl, hbd⟩
  have HX : Hid (Bx1 w W0 #[.int .u32 0, .string ⟨#[]⟩, .bool false, .int .u64 0] 74) := hx
  have HT0 : Hid (Tabs W0) := HT.out.later hx.bel
  have H1 : Hid (Bg W0 W1 c r ao' cap' l 0 0) := hbd
  clear hx hbd HUp HT
  go_wp2_with fail
  have hc1 := bu32G H1.out
  rw [H1'.out.1, H1'.out.2.1, H1'.out.2.2] at hc1
  refine hc1.mono ?_
  rintro e W2 ⟨rfl, hbd, _⟩
  have H2 : Hid (Bg W0 W2 c r ao' cap' l a1 e1) := hbd
  clear hbd H1 hc1
  go_wp2_with fail
  have h3 : Bg W0 (W2.alloc (Obj.cells #[.int .u32 (V : Int), .string ⟨#[]⟩, .bool true, .int .u64 0] 74)) c r ao' cap' l a1 e1 := H2.out.later (below1 W2 _)
  have eb3 := heap_new W2 (Obj.cells #[.int .u32 (V : Int), .string ⟨#[]⟩, .bool true, .int .u64 0] 74)
  have HG : Hid (W0.heap.size ≤ W2.heap.size) := H2.out.bel.size
  generalize W2.alloc (Obj.cells #[.int .u32 (V : Int), .string ⟨#[]⟩, .bool true, .int .u64 0] 74) = W3 at *
  generalize W2.heap.size = ge at *
  have hc2 := bu16G h3
  rw [H2'.out.1, H2'.out.2.1, H2'.out.2.2] at hc2
  refine hc2.mono ?_
  rintro e W4 ⟨rfl, hb4, hk4⟩
  have H4 : Hid (Bg W0 W4 c r ao' cap' l a2 e2 ∧ W4.heap[ge]? = some (.cells #[.int .u32 (V : Int), .string ⟨#[]⟩, .bool true, .int .u64 0] 74 (0, 0))) := ⟨hb4, h3.keep eb3 (by decide) (by decide) hk4⟩
  clear h3 eb3 H2 hb4 hk4 hc2
  go_wp2_with fail
  have hc7 := brawTextG n2 H4.out.1 HT0.out
  rw [H3'.out.1, H3'.out.2.1, H3'.out.2.2] at hc7
  refine hc7.mono ?_
  rintro e W7 ⟨rfl, hb7, hk7⟩
  have H7 : Hid (Bg W0 W7 c r ao' cap' l a3 e3 ∧ W7.heap[ge]? = some (.cells #[.int .u32 (V : Int), .string ⟨#[]⟩, .bool true, .int .u64 0] 74 (0, 0))) := ⟨hb7, H4.out.1.keep H4.out.2 (by decide) (by decide) hk7⟩
  clear H4 hb7 hk7 hc7
  have y1 : W7.cell? ⟨ge, 1, none⟩ = some (.string ⟨#[]⟩) := by rw [blk_at H7.out.2]; rfl
  have f1 := blk_free H7.out.2 1
  have H8 : Hid (Bg W0 (W7.setCell ⟨ge, 1, none⟩ (.string s)) c r ao' cap' l a3 e3 ∧ (W7.setCell ⟨ge, 1, none⟩ (.string s)).heap[ge]? = some (.cells #[.int .u32 (V : Int), .string s, .bool true, .int .u64 0] 74 (0, 0))) := ⟨H7.out.1.put H7.out.2 (by decide) (by decide) (by decide) HG.out 1 _, put_boxX H7.out.2 1 _ (by simp)⟩
  obtain ⟨W8, hW8⟩ : ∃ W8, W8 = W7.setCell ⟨ge, 1, none⟩ (.string s) := ⟨_, rfl⟩
  rw [← hW8] at H8
  clear H7
  go_wp2_with fail
  rw [← hW8]
  have hc9 := bu64G H8.out.1
  rw [H4'.out.1, H4'.out.2.1, H4'.out.2.2] at hc9
  refine hc9.mono ?_
  rintro e Wb ⟨rfl, hb7, hk7⟩
  have H7 : Hid (Bg W0 Wb c r ao' cap' l a4 e4 ∧ Wb.heap[ge]? = some (.cells #[.int .u32 (V : Int), .string s, .bool true, .int .u64 0] 74 (0, 0))) := ⟨hb7, H8.out.1.keep H8.out.2 (by decide) (by decide) hk7⟩
  clear H8 hb7 hk7 hc9 y1 f1 hW8 W8
  have y1 : Wb.cell? ⟨ge, 3, none⟩ = some (.int .u64 0) := by rw [blk_at H7.out.2]; rfl
  have f1 := blk_free H7.out.2 3
  have H8 : Hid (Bg W0 (Wb.setCell ⟨ge, 3, none⟩ (.int .u64 (At : Int))) c r ao' cap' l a4 e4 ∧ (Wb.setCell ⟨ge, 3, none⟩ (.int .u64 (At : Int))).heap[ge]? = some (.cells #[.int .u32 (V : Int), .string s, .bool true, .int .u64 (At : Int)] 74 (0, 0))) := ⟨H7.out.1.put H7.out.2 (by decide) (by decide) (by decide) HG.out 3 _, put_boxX H7.out.2 3 _ (by simp)⟩
  obtain ⟨W8, hW8⟩ : ∃ W8, W8 = Wb.setCell ⟨ge, 3, none⟩ (.int .u64 (At : Int)) := ⟨_, rfl⟩
  rw [← hW8] at H8
  have k0 : (Wb.setCell ⟨ge, 3, none⟩ (.int .u64 (At : Int))).cell? ⟨ge, 0, none⟩ = some (.int .u32 (V : Int)) := by rw [← hW8, blk_at H8.out.2]; rfl
  have k1 : (Wb.setCell ⟨ge, 3, none⟩ (.int .u64 (At : Int))).cell? ⟨ge, 1, none⟩ = some (.string s) := by rw [← hW8, blk_at H8.out.2]; rfl
  have k2 : (Wb.setCell ⟨ge, 3, none⟩ (.int .u64 (At : Int))).cell? ⟨ge, 2, none⟩ = some (.bool true) := by rw [← hW8, blk_at H8.out.2]; rfl
  have k3 : (Wb.setCell ⟨ge, 3, none⟩ (.int .u64 (At : Int))).cell? ⟨ge, 3, none⟩ = some (.int .u64 (At : Int)) := by rw [← hW8, blk_at H8.out.2]; rfl
  clear H7
  go_wp2_with fail
  rw [← hW8]
  refine (wholeE_no V s true At 81 (by decide) H8.out.1 HFn.out).mono ?_
  rintro e W9 ⟨rfl, hb9, hk9⟩
  have HY : Hid (Below w.heap.size w W9 ∧ W9.heap[w.heap.size]? = some (.cells #[.int .u32 0, .string ⟨#[]⟩, .bool false, .int .u64 0] 74 (0, 0))) := ⟨HX.out.bel.trans (hb9.mono HX.out.bel.size), by rw [hb9.block _ (by have := HX.out.size; omega)]; exact HX.out.a⟩
  have za0 : W9.cell? ⟨w.heap.size, 0, none⟩ = some (.int .u32 0) := by rw [blk_at HY.out.2]; rfl
  have ya0 : W9.frozen? ⟨w.heap.size, 0, none⟩ = false := blk_free HY.out.2 0
  have za1 : W9.cell? ⟨w.heap.size, 1, none⟩ = some (.string ⟨#[]⟩) := by rw [blk_at HY.out.2]; rfl
  have ya1 : W9.frozen? ⟨w.heap.size, 1, none⟩ = false := blk_free HY.out.2 1
  have za2 : W9.cell? ⟨w.heap.size, 2, none⟩ = some (.bool false) := by rw [blk_at HY.out.2]; rfl
  have ya2 : W9.frozen? ⟨w.heap.size, 2, none⟩ = false := blk_free HY.out.2 2
  have za3 : W9.cell? ⟨w.heap.size, 3, none⟩ = some (.int .u64 0) := by rw [blk_at HY.out.2]; rfl
  have ya3 : W9.frozen? ⟨w.heap.size, 3, none⟩ = false := blk_free HY.out.2 3
  have hs0 : w.heap.size < W0.heap.size := by have := HX.out.size; omega
  clear hb9 hk9 H8 k0 k1 k2 k3 y1 f1 hW8
  go_wp2
  obtain ⟨hp, hq⟩ := putc4 HY.out.2 (.int .u32 0) (.string ⟨#[]⟩) (.bool false) (.int .u64 0)
  exact bodyPost_ret (results_cell_tmp1 rfl _ _ w.heap.size 74 _ (0, 0) _ rfl hp Tryz.underlying74 rfl infoE) rfl ⟨rfl, HY.out.1.trans (hq.below HY.out.1.size (fun g hg => by omega))⟩
end Go.Proofs.YtfifaaopdhcaaaaGreatDoor

namespace Go.Proofs.YtfifaaopdhcaaaaGreatDoor
open Go.RowKit
set_option linter.unusedVariables false
set_option linter.unusedSimpArgs false
set_option maxRecDepth 100000
set_option maxHeartbeats 4000000 in
theorem unpackInfo_1ok (ao : Option Addr) (cap N : Nat) (l : List Nat) (w : World) (h : BRow w ao cap l) (hN : l.length = N) (hT : Tabs w) (V a1 e1 nn a2 e2 : Nat) (h1 : rvV l 0 2 = V ∧ raA l 0 2 = a1 ∧ ndE (okR l 0 2) 0 = e1) (hnn : l.length - a1 = nn) (s : ByteArray) (h3 : bstr (rrL l a1 nn) = s ∧ raA l a1 nn = a2 ∧ ndE (tx s) (ndE (okR l a1 nn) e1) = e2) (g0 : V ≠ 0) (g1 : V = 1) (hfin : ndE (decide (a2 = l.length)) e2 = 0) :
    Calls Tryz.prog 5 #[.slice ao N cap] w fun e w' => e = .returned (.tuple #[.agg #[.int .u16 (V : Int), .int .u64 0, .int .u16 0, .string s, .int .u32 0, .int .u32 0, .int .u32 0, .slice none 0 0], .int .i64 0]) ∧ Below w.heap.size w w' := by
  have HUp : Hid (∀ W, Below w.heap.size w W → Calls Tryz.prog 31 #[.slice ao N cap] W fun e w' => ∃ c r ao' cap', e = .returned (.pointer (some ⟨c, 0, none⟩)) ∧ Bg W w' c r ao' cap' l 0 0) := fun W hb => unpackG ao cap N l W (h.later hb) hN
  have HFn : Hid (ndE (decide (a2 = l.length)) e2 = 0) := hfin
  have HT : Hid (Tabs w) := hT
  have H1' : Hid (rvV l 0 2 = V ∧ raA l 0 2 = a1 ∧ ndE (okR l 0 2) 0 = e1) := h1
  have HNN : Hid (l.length - a1 = nn) := hnn
  have H3' : Hid _ := h3
  have f0 : ((V : Int) == 0) = false := by rw [beq_eq_false_iff_ne]; omega
  have f1 : ((V : Int) == 1) = true := by rw [beq_iff_eq]; omega
  clear h hN hfin hT h1 hnn h3 g0 g1
  go_enter Tryz.func5, Tryz.ntmps5
  go_wp2_with fail
  have hx := mkb1 w #[.int .u16 0, .int .u64 0, .int .u16 0, .string ⟨#[]⟩, .int .u32 0, .int .u32 0, .int .u32 0, .slice none 0 0] 28
  generalize w.alloc (Obj.cells #[.int .u16 0, .int .u64 0, .int .u16 0, .string ⟨#[]⟩, .int .u32 0, .int .u32 0, .int .u32 0, .slice none 0 0] 28) = W0 at *
  refine (HUp.out _ hx.bel).mono ?_
  rintro e W1 ⟨c, r, ao', cap', rfl, hbd⟩
  have HX : Hid (Bx1 w W0 #[.int .u16 0, .int .u64 0, .int .u16 0, .string ⟨#[]⟩, .int .u32 0, .int .u32 0, .int .u32 0, .slice none 0 0] 28) := hx
  have HT0 : Hid (Tabs W0) := HT.out.later hx.bel
  have H1 : Hid (Bg W0 W1 c r ao' cap' l 0 0) := hbd
  clear hx hbd HUp HT
  go_wp2_with fail
  have hc1 := bu16G H1.out
  rw [H1'.out.1, H1'.out.2.1, H1'.out.2.2] at hc1
  refine hc1.mono ?_
  rintro e W2 ⟨rfl, hbd, _⟩
  have H2 : Hid (Bg W0 W2 c r ao' cap' l a1 e1) := hbd
  clear hbd H1 hc1
  go_wp2_with fail
  have h3 : Bg W0 (W2.alloc (Obj.cells #[.int .u16 (V : Int), .int .u64 0, .int .u16 0, .string ⟨#[]⟩, .int .u32 0, .int .u32 0, .int .u32 0, .slice none 0 0] 28)) c r ao' cap' l a1 e1 := H2.out.later (below1 W2 _)
  have eb3 := heap_new W2 (Obj.cells #[.int .u16 (V : Int), .int .u64 0, .int .u16 0, .string ⟨#[]⟩, .int .u32 0, .int .u32 0, .int .u32 0, .slice none 0 0] 28)
  have HG : Hid (W0.heap.size ≤ W2.heap.size) := H2.out.bel.size
  generalize W2.alloc (Obj.cells #[.int .u16 (V : Int), .int .u64 0, .int .u16 0, .string ⟨#[]⟩, .int .u32 0, .int .u32 0, .int .u32 0, .slice none 0 0] 28) = W3 at *
  generalize W2.heap.size = ge at *
  refine (bleftG h3 HNN.out).mono ?_
  rintro e W6 ⟨rfl, q, hw⟩
  have h4 : Bg W0 W6 c r ao' cap' l a1 e1 ∧ W6.heap[ge]? = some (.cells #[.int .u16 (V : Int), .int .u64 0, .int .u16 0, .string ⟨#[]⟩, .int .u32 0, .int .u32 0, .int .u32 0, .slice none 0 0] 28 (0, 0)) := by rw [hw]; exact ⟨h3.later (below_drewN _ q), eb3⟩
  have H6 : Hid _ := h4
  clear h3 eb3 hw H2 h4
  go_wp2_with fail
  have hc7 := brawTextG nn H6.out.1 HT0.out
  rw [H3'.out.1, H3'.out.2.1, H3'.out.2.2] at hc7
  refine hc7.mono ?_
  rintro e W7 ⟨rfl, hb7, hk7⟩
  have H7 : Hid (Bg W0 W7 c r ao' cap' l a2 e2 ∧ W7.heap[ge]? = some (.cells #[.int .u16 (V : Int), .int .u64 0, .int .u16 0, .string ⟨#[]⟩, .int .u32 0, .int .u32 0, .int .u32 0, .slice none 0 0] 28 (0, 0))) := ⟨hb7, H6.out.1.keep H6.out.2 (by decide) (by decide) hk7⟩
  clear H6 hb7 hk7 hc7
  have y1 : W7.cell? ⟨ge, 3, none⟩ = some (.string ⟨#[]⟩) := by rw [blk_at H7.out.2]; rfl
  have f1' := blk_free H7.out.2 3
  have H8 : Hid (Bg W0 (W7.setCell ⟨ge, 3, none⟩ (.string s)) c r ao' cap' l a2 e2 ∧ (W7.setCell ⟨ge, 3, none⟩ (.string s)).heap[ge]? = some (.cells #[.int .u16 (V : Int), .int .u64 0, .int .u16 0, .string s, .int .u32 0, .int .u32 0, .int .u32 0, .slice none 0 0] 28 (0, 0))) := ⟨H7.out.1.put H7.out.2 (by decide) (by decide) (by decide) HG.out 3 _, put_boxX H7.out.2 3 _ (by simp)⟩
  obtain ⟨W8, hW8⟩ : ∃ W8, W8 = W7.setCell ⟨ge, 3, none⟩ (.string s) := ⟨_, rfl⟩
  rw [← hW8] at H8
  have k0 : (W7.setCell ⟨ge, 3, none⟩ (.string s)).cell? ⟨ge, 0, none⟩ = some (.int .u16 (V : Int)) := by rw [← hW8, blk_at H8.out.2]; rfl
  have k1 : (W7.setCell ⟨ge, 3, none⟩ (.string s)).cell? ⟨ge, 1, none⟩ = some (.int .u64 0) := by rw [← hW8, blk_at H8.out.2]; rfl
  have k2 : (W7.setCell ⟨ge, 3, none⟩ (.string s)).cell? ⟨ge, 2, none⟩ = some (.int .u16 0) := by rw [← hW8, blk_at H8.out.2]; rfl
  have k3 : (W7.setCell ⟨ge, 3, none⟩ (.string s)).cell? ⟨ge, 3, none⟩ = some (.string s) := by rw [← hW8, blk_at H8.out.2]; rfl
  have k4 : (W7.setCell ⟨ge, 3, none⟩ (.string s)).cell? ⟨ge, 4, none⟩ = some (.int .u32 0) := by rw [← hW8, blk_at H8.out.2]; rfl
  have k5 : (W7.setCell ⟨ge, 3, none⟩ (.string s)).cell? ⟨ge, 5, none⟩ = some (.int .u32 0) := by rw [← hW8, blk_at H8.out.2]; rfl
  have k6 : (W7.setCell ⟨ge, 3, none⟩ (.string s)).cell? ⟨ge, 6, none⟩ = some (.int .u32 0) := by rw [← hW8, blk_at H8.out.2]; rfl
  have k7 : (W7.setCell ⟨ge, 3, none⟩ (.string s)).cell? ⟨ge, 7, none⟩ = some (.slice none 0 0) := by rw [← hW8, blk_at H8.out.2]; rfl
  clear H7
  go_wp2_with fail
  rw [← hW8]
  refine (wholeI_ok V 0 0 s 0 0 0 none 0 0 H8.out.1 HFn.out).mono ?_
  rintro e W9 ⟨rfl, hb9, hk9⟩
  have HY : Hid (Below w.heap.size w W9 ∧ W9.heap[w.heap.size]? = some (.cells #[.int .u16 0, .int .u64 0, .int .u16 0, .string ⟨#[]⟩, .int .u32 0, .int .u32 0, .int .u32 0, .slice none 0 0] 28 (0, 0))) := ⟨HX.out.bel.trans (hb9.mono HX.out.bel.size), by rw [hb9.block _ (by have := HX.out.size; omega)]; exact HX.out.a⟩
  have za0 : W9.cell? ⟨w.heap.size, 0, none⟩ = some (.int .u16 0) := by rw [blk_at HY.out.2]; rfl
  have ya0 : W9.frozen? ⟨w.heap.size, 0, none⟩ = false := blk_free HY.out.2 0
  have za1 : W9.cell? ⟨w.heap.size, 1, none⟩ = some (.int .u64 0) := by rw [blk_at HY.out.2]; rfl
  have ya1 : W9.frozen? ⟨w.heap.size, 1, none⟩ = false := blk_free HY.out.2 1
  have za2 : W9.cell? ⟨w.heap.size, 2, none⟩ = some (.int .u16 0) := by rw [blk_at HY.out.2]; rfl
  have ya2 : W9.frozen? ⟨w.heap.size, 2, none⟩ = false := blk_free HY.out.2 2
  have za3 : W9.cell? ⟨w.heap.size, 3, none⟩ = some (.string ⟨#[]⟩) := by rw [blk_at HY.out.2]; rfl
  have ya3 : W9.frozen? ⟨w.heap.size, 3, none⟩ = false := blk_free HY.out.2 3
  have za4 : W9.cell? ⟨w.heap.size, 4, none⟩ = some (.int .u32 0) := by rw [blk_at HY.out.2]; rfl
  have ya4 : W9.frozen? ⟨w.heap.size, 4, none⟩ = false := blk_free HY.out.2 4
  have za5 : W9.cell? ⟨w.heap.size, 5, none⟩ = some (.int .u32 0) := by rw [blk_at HY.out.2]; rfl
  have ya5 : W9.frozen? ⟨w.heap.size, 5, none⟩ = false := blk_free HY.out.2 5
  have za6 : W9.cell? ⟨w.heap.size, 6, none⟩ = some (.int .u32 0) := by rw [blk_at HY.out.2]; rfl
  have ya6 : W9.frozen? ⟨w.heap.size, 6, none⟩ = false := blk_free HY.out.2 6
  have za7 : W9.cell? ⟨w.heap.size, 7, none⟩ = some (.slice none 0 0) := by rw [blk_at HY.out.2]; rfl
  have ya7 : W9.frozen? ⟨w.heap.size, 7, none⟩ = false := blk_free HY.out.2 7
  have hs0 : w.heap.size < W0.heap.size := by have := HX.out.size; omega
  clear hb9 hk9 H8 k0 k1 k2 k3 k4 k5 k6 k7 y1 f1' hW8
  go_wp2
  obtain ⟨hp, hq⟩ := putc8 HY.out.2 (.int .u16 (V : Int)) (.int .u64 0) (.int .u16 0) (.string s) (.int .u32 0) (.int .u32 0) (.int .u32 0) (.slice none 0 0)
  generalize ((((((((W9.setCell ⟨w.heap.size, 0, none⟩ (.int .u16 (V : Int))).setCell ⟨w.heap.size, 1, none⟩ (.int .u64 0)).setCell ⟨w.heap.size, 2, none⟩ (.int .u16 0)).setCell ⟨w.heap.size, 3, none⟩ (.string s)).setCell ⟨w.heap.size, 4, none⟩ (.int .u32 0)).setCell ⟨w.heap.size, 5, none⟩ (.int .u32 0)).setCell ⟨w.heap.size, 6, none⟩ (.int .u32 0)).setCell ⟨w.heap.size, 7, none⟩ (.slice none 0 0)) = Wz at hp hq ⊢
  exact bodyPost_ret (results_cell_tmp1 rfl _ _ w.heap.size 28 _ (0, 0) _ rfl hp Tryz.underlying28 rfl infoI) rfl ⟨rfl, HY.out.1.trans (hq.below HY.out.1.size (fun g hg => by omega))⟩
set_option maxHeartbeats 4000000 in
theorem unpackInfo_1no (ao : Option Addr) (cap N : Nat) (l : List Nat) (w : World) (h : BRow w ao cap l) (hN : l.length = N) (hT : Tabs w) (V a1 e1 nn a2 e2 : Nat) (h1 : rvV l 0 2 = V ∧ raA l 0 2 = a1 ∧ ndE (okR l 0 2) 0 = e1) (hnn : l.length - a1 = nn) (s : ByteArray) (h3 : bstr (rrL l a1 nn) = s ∧ raA l a1 nn = a2 ∧ ndE (tx s) (ndE (okR l a1 nn) e1) = e2) (g0 : V ≠ 0) (g1 : V = 1) (hfin : ndE (decide (a2 = l.length)) e2 = 81) :
    Calls Tryz.prog 5 #[.slice ao N cap] w fun e w' => e = .returned (.tuple #[.agg #[.int .u16 0, .int .u64 0, .int .u16 0, .string ⟨#[]⟩, .int .u32 0, .int .u32 0, .int .u32 0, .slice none 0 0], .int .i64 81]) ∧ Below w.heap.size w w' := by
  have HUp : Hid (∀ W, Below w.heap.size w W → Calls Tryz.prog 31 #[.slice ao N cap] W fun e w' => ∃ c r ao' cap', e = .returned (.pointer (some ⟨c, 0, none⟩)) ∧ Bg W w' c r ao' cap' l 0 0) := fun W hb => unpackG ao cap N l W (h.later hb) hN
  have HFn : Hid (ndE (decide (a2 = l.length)) e2 = 81) := hfin
  have HT : Hid (Tabs w) := hT
  have H1' : Hid (rvV l 0 2 = V ∧ raA l 0 2 = a1 ∧ ndE (okR l 0 2) 0 = e1) := h1
  have HNN : Hid (l.length - a1 = nn) := hnn
  have H3' : Hid _ := h3
  have f0 : ((V : Int) == 0) = false := by rw [beq_eq_false_iff_ne]; omega
  have f1 : ((V : Int) == 1) = true := by rw [beq_iff_eq]; omega
  clear h hN hfin hT h1 hnn h3 g0 g1
  go_enter Tryz.func5, Tryz.ntmps5
  go_wp2_with fail
  have hx := mkb1 w #[.int .u16 0, .int .u64 0, .int .u16 0, .string ⟨#[]⟩, .int .u32 0, .int .u32 0, .int .u32 0, .slice none 0 0] 28
  generalize w.alloc (Obj.cells #[.int .u16 0, .int .u64 0, .int .u16 0, .string ⟨#[]⟩, .int .u32 0, .int .u32 0, .int .u32 0, .slice none 0 0] 28) = W0 at *
  refine (HUp.out _ hx.bel).mono ?_
  rintro e W1 ⟨c, r, ao', cap', rfl, hbd⟩
  have HX : Hid (Bx1 w W0 #[.int .u16 0, .int .u64 0, .int .u16 0, .string ⟨#[]⟩, .int .u32 0, .int .u32 0, .int .u32 0, .slice none 0 0] 28) := hx
  have HT0 : Hid (Tabs W0) := HT.out.later hx.bel
  have H1 : Hid (Bg W0 W1 c r ao' cap' l 0 0) := hbd
  clear hx hbd HUp HT
  go_wp2_with fail
  have hc1 := bu16G H1.out
  rw [H1'.out.1, H1'.out.2.1, H1'.out.2.2] at hc1
  refine hc1.mono ?_
  rintro e W2 ⟨rfl, hbd, _⟩
  have H2 : Hid (Bg W0 W2 c r ao' cap' l a1 e1) := hbd
  clear hbd H1 hc1
  go_wp2_with fail
  have h3 : Bg W0 (W2.alloc (Obj.cells #[.int .u16 (V : Int), .int .u64 0, .int .u16 0, .string ⟨#[]⟩, .int .u32 0, .int .u32 0, .int .u32 0, .slice none 0 0] 28)) c r ao' cap' l a1 e1 := H2.out.later (below1 W2 _)
  have eb3 := heap_new W2 (Obj.cells #[.int .u16 (V : Int), .int .u64 0, .int .u16 0, .string ⟨#[]⟩, .int .u32 0, .int .u32 0, .int .u32 0, .slice none 0 0] 28)
  have HG : Hid (W0.heap.size ≤ W2.heap.size) := H2.out.bel.size
  generalize W2.alloc (Obj.cells #[.int .u16 (V : Int), .int .u64 0, .int .u16 0, .string ⟨#[]⟩, .int .u32 0, .int .u32 0, .int .u32 0, .slice none 0 0] 28) = W3 at *
  generalize W2.heap.size = ge at *
  refine (bleftG h3 HNN.out).mono ?_
  rintro e W6 ⟨rfl, q, hw⟩
  have h4 : Bg W0 W6 c r ao' cap' l a1 e1 ∧ W6.heap[ge]? = some (.cells #[.int .u16 (V : Int), .int .u64 0, .int .u16 0, .string ⟨#[]⟩, .int .u32 0, .int .u32 0, .int .u32 0, .slice none 0 0] 28 (0, 0)) := by rw [hw]; exact ⟨h3.later (below_drewN _ q), eb3⟩
  have H6 : Hid _ := h4
  clear h3 eb3 hw H2 h4
  go_wp2_with fail
  have hc7 := brawTextG nn H6.out.1 HT0.out
  rw [H3'.out.1, H3'.out.2.1, H3'.out.2.2] at hc7
  refine hc7.mono ?_
  rintro e W7 ⟨rfl, hb7, hk7⟩
  have H7 : Hid (Bg W0 W7 c r ao' cap' l a2 e2 ∧ W7.heap[ge]? = some (.cells #[.int .u16 (V : Int), .int .u64 0, .int .u16 0, .string ⟨#[]⟩, .int .u32 0, .int .u32 0, .int .u32 0, .slice none 0 0] 28 (0, 0))) := ⟨hb7, H6.out.1.keep H6.out.2 (by decide) (by decide) hk7⟩
  clear H6 hb7 hk7 hc7
  have y1 : W7.cell? ⟨ge, 3, none⟩ = some (.string ⟨#[]⟩) := by rw [blk_at H7.out.2]; rfl
  have f1' := blk_free H7.out.2 3
  have H8 : Hid (Bg W0 (W7.setCell ⟨ge, 3, none⟩ (.string s)) c r ao' cap' l a2 e2 ∧ (W7.setCell ⟨ge, 3, none⟩ (.string s)).heap[ge]? = some (.cells #[.int .u16 (V : Int), .int .u64 0, .int .u16 0, .string s, .int .u32 0, .int .u32 0, .int .u32 0, .slice none 0 0] 28 (0, 0))) := ⟨H7.out.1.put H7.out.2 (by decide) (by decide) (by decide) HG.out 3 _, put_boxX H7.out.2 3 _ (by simp)⟩
  obtain ⟨W8, hW8⟩ : ∃ W8, W8 = W7.setCell ⟨ge, 3, none⟩ (.string s) := ⟨_, rfl⟩
  rw [← hW8] at H8
  have k0 : (W7.setCell ⟨ge, 3, none⟩ (.string s)).cell? ⟨ge, 0, none⟩ = some (.int .u16 (V : Int)) := by rw [← hW8, blk_at H8.out.2]; rfl
  have k1 : (W7.setCell ⟨ge, 3, none⟩ (.string s)).cell? ⟨ge, 1, none⟩ = some (.int .u64 0) := by rw [← hW8, blk_at H8.out.2]; rfl
  have k2 : (W7.setCell ⟨ge, 3, none⟩ (.string s)).cell? ⟨ge, 2, none⟩ = some (.int .u16 0) := by rw [← hW8, blk_at H8.out.2]; rfl
  have k3 : (W7.setCell ⟨ge, 3, none⟩ (.string s)).cell? ⟨ge, 3, none⟩ = some (.string s) := by rw [← hW8, blk_at H8.out.2]; rfl
  have k4 : (W7.setCell ⟨ge, 3, none⟩ (.string s)).cell? ⟨ge, 4, none⟩ = some (.int .u32 0) := by rw [← hW8, blk_at H8.out.2]; rfl
  have k5 : (W7.setCell ⟨ge, 3, none⟩ (.string s)).cell? ⟨ge, 5, none⟩ = some (.int .u32 0) := by rw [← hW8, blk_at H8.out.2]; rfl
  have k6 : (W7.setCell ⟨ge, 3, none⟩ (.string s)).cell? ⟨ge, 6, none⟩ = some (.int .u32 0) := by rw [← hW8, blk_at H8.out.2]; rfl
  have k7 : (W7.setCell ⟨ge, 3, none⟩ (.string s)).cell? ⟨ge, 7, none⟩ = some (.slice none 0 0) := by rw [← hW8, blk_at H8.out.2]; rfl
  clear H7
  go_wp2_with fail
  rw [← hW8]
  refine (wholeI_no V 0 0 s 0 0 0 none 0 0 81 (by decide) H8.out.1 HFn.out).mono ?_
  rintro e W9 ⟨rfl, hb9, hk9⟩
  have HY : Hid (Below w.heap.size w W9 ∧ W9.heap[w.heap.size]? = some (.cells #[.int .u16 0, .int .u64 0, .int .u16 0, .string ⟨#[]⟩, .int .u32 0, .int .u32 0, .int .u32 0, .slice none 0 0] 28 (0, 0))) := ⟨HX.out.bel.trans (hb9.mono HX.out.bel.size), by rw [hb9.block _ (by have := HX.out.size; omega)]; exact HX.out.a⟩
  have za0 : W9.cell? ⟨w.heap.size, 0, none⟩ = some (.int .u16 0) := by rw [blk_at HY.out.2]; rfl
  have ya0 : W9.frozen? ⟨w.heap.size, 0, none⟩ = false := blk_free HY.out.2 0
  have za1 : W9.cell? ⟨w.heap.size, 1, none⟩ = some (.int .u64 0) := by rw [blk_at HY.out.2]; rfl
  have ya1 : W9.frozen? ⟨w.heap.size, 1, none⟩ = false := blk_free HY.out.2 1
  have za2 : W9.cell? ⟨w.heap.size, 2, none⟩ = some (.int .u16 0) := by rw [blk_at HY.out.2]; rfl
  have ya2 : W9.frozen? ⟨w.heap.size, 2, none⟩ = false := blk_free HY.out.2 2
  have za3 : W9.cell? ⟨w.heap.size, 3, none⟩ = some (.string ⟨#[]⟩) := by rw [blk_at HY.out.2]; rfl
  have ya3 : W9.frozen? ⟨w.heap.size, 3, none⟩ = false := blk_free HY.out.2 3
  have za4 : W9.cell? ⟨w.heap.size, 4, none⟩ = some (.int .u32 0) := by rw [blk_at HY.out.2]; rfl
  have ya4 : W9.frozen? ⟨w.heap.size, 4, none⟩ = false := blk_free HY.out.2 4
  have za5 : W9.cell? ⟨w.heap.size, 5, none⟩ = some (.int .u32 0) := by rw [blk_at HY.out.2]; rfl
  have ya5 : W9.frozen? ⟨w.heap.size, 5, none⟩ = false := blk_free HY.out.2 5
  have za6 : W9.cell? ⟨w.heap.size, 6, none⟩ = some (.int .u32 0) := by rw [blk_at HY.out.2]; rfl
  have ya6 : W9.frozen? ⟨w.heap.size, 6, none⟩ = false := blk_free HY.out.2 6
  have za7 : W9.cell? ⟨w.heap.size, 7, none⟩ = some (.slice none 0 0) := by rw [blk_at HY.out.2]; rfl
  have ya7 : W9.frozen? ⟨w.heap.size, 7, none⟩ = false := blk_free HY.out.2 7
  have hs0 : w.heap.size < W0.heap.size := by have := HX.out.size; omega
  clear hb9 hk9 H8 k0 k1 k2 k3 k4 k5 k6 k7 y1 f1' hW8
  go_wp2
  obtain ⟨hp, hq⟩ := putc8 HY.out.2 (.int .u16 0) (.int .u64 0) (.int .u16 0) (.string ⟨#[]⟩) (.int .u32 0) (.int .u32 0) (.int .u32 0) (.slice none 0 0)
  generalize ((((((((W9.setCell ⟨w.heap.size, 0, none⟩ (.int .u16 0)).setCell ⟨w.heap.size, 1, none⟩ (.int .u64 0)).setCell ⟨w.heap.size, 2, none⟩ (.int .u16 0)).setCell ⟨w.heap.size, 3, none⟩ (.string ⟨#[]⟩)).setCell ⟨w.heap.size, 4, none⟩ (.int .u32 0)).setCell ⟨w.heap.size, 5, none⟩ (.int .u32 0)).setCell ⟨w.heap.size, 6, none⟩ (.int .u32 0)).setCell ⟨w.heap.size, 7, none⟩ (.slice none 0 0)) = Wz at hp hq ⊢
  exact bodyPost_ret (results_cell_tmp1 rfl _ _ w.heap.size 28 _ (0, 0) _ rfl hp Tryz.underlying28 rfl infoI) rfl ⟨rfl, HY.out.1.trans (hq.below HY.out.1.size (fun g hg => by omega))⟩
set_option maxHeartbeats 4000000 in
theorem unpackInfo_2ok (ao : Option Addr) (cap N : Nat) (l : List Nat) (w : World) (h : BRow w ao cap l) (hN : l.length = N) (hT : Tabs w) (V a1 e1 nn a2 e2 : Nat) (h1 : rvV l 0 2 = V ∧ raA l 0 2 = a1 ∧ ndE (okR l 0 2) 0 = e1) (hnn : l.length - a1 = nn) (s : ByteArray) (h3 : bstr (rrL l a1 nn) = s ∧ raA l a1 nn = a2 ∧ ndE (tx s) (ndE (okR l a1 nn) e1) = e2) (g0 : V ≠ 0) (g1 : V ≠ 1) (g2 : V = 2) (hfin : ndE (decide (a2 = l.length)) e2 = 0) :
    Calls Tryz.prog 5 #[.slice ao N cap] w fun e w' => e = .returned (.tuple #[.agg #[.int .u16 (V : Int), .int .u64 0, .int .u16 0, .string s, .int .u32 0, .int .u32 0, .int .u32 0, .slice none 0 0], .int .i64 0]) ∧ Below w.heap.size w w' := by
  have HUp : Hid (∀ W, Below w.heap.size w W → Calls Tryz.prog 31 #[.slice ao N cap] W fun e w' => ∃ c r ao' cap', e = .returned (.pointer (some ⟨c, 0, none⟩)) ∧ Bg W w' c r ao' cap' l 0 0) := fun W hb => unpackG ao cap N l W (h.later hb) hN
  have HFn : Hid (ndE (decide (a2 = l.length)) e2 = 0) := hfin
  have HT : Hid (Tabs w) := hT
  have H1' : Hid (rvV l 0 2 = V ∧ raA l 0 2 = a1 ∧ ndE (okR l 0 2) 0 = e1) := h1
  have HNN : Hid (l.length - a1 = nn) := hnn
  have H3' : Hid _ := h3
  have f0 : ((V : Int) == 0) = false := by rw [beq_eq_false_iff_ne]; omega
  have f1 : ((V : Int) == 1) = false := by rw [beq_eq_false_iff_ne]; omega
  have f2 : ((V : Int) == 2) = true := by rw [beq_iff_eq]; omega
  clear h hN hfin hT h1 hnn h3 g0 g1 g2
  go_enter Tryz.func5, Tryz.ntmps5
  go_wp2_with fail
  have hx := mkb1 w #[.int .u16 0, .int .u64 0, .int .u16 0, .string ⟨#[]⟩, .int .u32 0, .int .u32 0, .int .u32 0, .slice none 0 0] 28
  generalize w.alloc (Obj.cells #[.int .u16 0, .int .u64 0, .int .u16 0, .string ⟨#[]⟩, .int .u32 0, .int .u32 0, .int .u32 0, .slice none 0 0] 28) = W0 at *
  refine (HUp.out _ hx.bel).mono ?_
  rintro e W1 ⟨c, r, ao', cap', rfl, hbd⟩
  have HX : Hid (Bx1 w W0 #[.int .u16 0, .int .u64 0, .int .u16 0, .string ⟨#[]⟩, .int .u32 0, .int .u32 0, .int .u32 0, .slice none 0 0] 28) := hx
  have HT0 : Hid (Tabs W0) := HT.out.later hx.bel
  have H1 : Hid (Bg W0 W1 c r ao' cap' l 0 0) := hbd
  clear hx hbd HUp HT
  go_wp2_with fail
  have hc1 := bu16G H1.out
  rw [H1'.out.1, H1'.out.2.1, H1'.out.2.2] at hc1
  refine hc1.mono ?_
  rintro e W2 ⟨rfl, hbd, _⟩
  have H2 : Hid (Bg W0 W2 c r ao' cap' l a1 e1) := hbd
  clear hbd H1 hc1
  go_wp2_with fail
  have h3 : Bg W0 (W2.alloc (Obj.cells #[.int .u16 (V : Int), .int .u64 0, .int .u16 0, .string ⟨#[]⟩, .int .u32 0, .int .u32 0, .int .u32 0, .slice none 0 0] 28)) c r ao' cap' l a1 e1 := H2.out.later (below1 W2 _)
  have eb3 := heap_new W2 (Obj.cells #[.int .u16 (V : Int), .int .u64 0, .int .u16 0, .string ⟨#[]⟩, .int .u32 0, .int .u32 0, .int .u32 0, .slice none 0 0] 28)
  have HG : Hid (W0.heap.size ≤ W2.heap.size) := H2.out.bel.size
  generalize W2.alloc (Obj.cells #[.int .u16 (V : Int), .int .u64 0, .int .u16 0, .string ⟨#[]⟩, .int .u32 0, .int .u32 0, .int .u32 0, .slice none 0 0] 28) = W3 at *
  generalize W2.heap.size = ge at *
  refine (bleftG h3 HNN.out).mono ?_
  rintro e W6 ⟨rfl, q, hw⟩
  have h4 : Bg W0 W6 c r ao' cap' l a1 e1 ∧ W6.heap[ge]? = some (.cells #[.int .u16 (V : Int), .int .u64 0, .int .u16 0, .string ⟨#[]⟩, .int .u32 0, .int .u32 0, .int .u32 0, .slice none 0 0] 28 (0, 0)) := by rw [hw]; exact ⟨h3.later (below_drewN _ q), eb3⟩
  have H6 : Hid _ := h4
  clear h3 eb3 hw H2 h4
  go_wp2_with fail
  have hc7 := brawTextG nn H6.out.1 HT0.out
  rw [H3'.out.1, H3'.out.2.1, H3'.out.2.2] at hc7
  refine hc7.mono ?_
  rintro e W7 ⟨rfl, hb7, hk7⟩
  have H7 : Hid (Bg W0 W7 c r ao' cap' l a2 e2 ∧ W7.heap[ge]? = some (.cells #[.int .u16 (V : Int), .int .u64 0, .int .u16 0, .string ⟨#[]⟩, .int .u32 0, .int .u32 0, .int .u32 0, .slice none 0 0] 28 (0, 0))) := ⟨hb7, H6.out.1.keep H6.out.2 (by decide) (by decide) hk7⟩
  clear H6 hb7 hk7 hc7
  have y1 : W7.cell? ⟨ge, 3, none⟩ = some (.string ⟨#[]⟩) := by rw [blk_at H7.out.2]; rfl
  have f1' := blk_free H7.out.2 3
  have H8 : Hid (Bg W0 (W7.setCell ⟨ge, 3, none⟩ (.string s)) c r ao' cap' l a2 e2 ∧ (W7.setCell ⟨ge, 3, none⟩ (.string s)).heap[ge]? = some (.cells #[.int .u16 (V : Int), .int .u64 0, .int .u16 0, .string s, .int .u32 0, .int .u32 0, .int .u32 0, .slice none 0 0] 28 (0, 0))) := ⟨H7.out.1.put H7.out.2 (by decide) (by decide) (by decide) HG.out 3 _, put_boxX H7.out.2 3 _ (by simp)⟩
  obtain ⟨W8, hW8⟩ : ∃ W8, W8 = W7.setCell ⟨ge, 3, none⟩ (.string s) := ⟨_, rfl⟩
  rw [← hW8] at H8
  have k0 : (W7.setCell ⟨ge, 3, none⟩ (.string s)).cell? ⟨ge, 0, none⟩ = some (.int .u16 (V : Int)) := by rw [← hW8, blk_at H8.out.2]; rfl
  have k1 : (W7.setCell ⟨ge, 3, none⟩ (.string s)).cell? ⟨ge, 1, none⟩ = some (.int .u64 0) := by rw [← hW8, blk_at H8.out.2]; rfl
  have k2 : (W7.setCell ⟨ge, 3, none⟩ (.string s)).cell? ⟨ge, 2, none⟩ = some (.int .u16 0) := by rw [← hW8, blk_at H8.out.2]; rfl
  have k3 : (W7.setCell ⟨ge, 3, none⟩ (.string s)).cell? ⟨ge, 3, none⟩ = some (.string s) := by rw [← hW8, blk_at H8.out.2]; rfl
  have k4 : (W7.setCell ⟨ge, 3, none⟩ (.string s)).cell? ⟨ge, 4, none⟩ = some (.int .u32 0) := by rw [← hW8, blk_at H8.out.2]; rfl
  have k5 : (W7.setCell ⟨ge, 3, none⟩ (.string s)).cell? ⟨ge, 5, none⟩ = some (.int .u32 0) := by rw [← hW8, blk_at H8.out.2]; rfl
  have k6 : (W7.setCell ⟨ge, 3, none⟩ (.string s)).cell? ⟨ge, 6, none⟩ = some (.int .u32 0) := by rw [← hW8, blk_at H8.out.2]; rfl
  have k7 : (W7.setCell ⟨ge, 3, none⟩ (.string s)).cell? ⟨ge, 7, none⟩ = some (.slice none 0 0) := by rw [← hW8, blk_at H8.out.2]; rfl
  clear H7
  go_wp2_with fail
  rw [← hW8]
  refine (wholeI_ok V 0 0 s 0 0 0 none 0 0 H8.out.1 HFn.out).mono ?_
  rintro e W9 ⟨rfl, hb9, hk9⟩
  have HY : Hid (Below w.heap.size w W9 ∧ W9.heap[w.heap.size]? = some (.cells #[.int .u16 0, .int .u64 0, .int .u16 0, .string ⟨#[]⟩, .int .u32 0, .int .u32 0, .int .u32 0, .slice none 0 0] 28 (0, 0))) := ⟨HX.out.bel.trans (hb9.mono HX.out.bel.size), by rw [hb9.block _ (by have := HX.out.size; omega)]; exact HX.out.a⟩
  have za0 : W9.cell? ⟨w.heap.size, 0, none⟩ = some (.int .u16 0) := by rw [blk_at HY.out.2]; rfl
  have ya0 : W9.frozen? ⟨w.heap.size, 0, none⟩ = false := blk_free HY.out.2 0
  have za1 : W9.cell? ⟨w.heap.size, 1, none⟩ = some (.int .u64 0) := by rw [blk_at HY.out.2]; rfl
  have ya1 : W9.frozen? ⟨w.heap.size, 1, none⟩ = false := blk_free HY.out.2 1
  have za2 : W9.cell? ⟨w.heap.size, 2, none⟩ = some (.int .u16 0) := by rw [blk_at HY.out.2]; rfl
  have ya2 : W9.frozen? ⟨w.heap.size, 2, none⟩ = false := blk_free HY.out.2 2
  have za3 : W9.cell? ⟨w.heap.size, 3, none⟩ = some (.string ⟨#[]⟩) := by rw [blk_at HY.out.2]; rfl
  have ya3 : W9.frozen? ⟨w.heap.size, 3, none⟩ = false := blk_free HY.out.2 3
  have za4 : W9.cell? ⟨w.heap.size, 4, none⟩ = some (.int .u32 0) := by rw [blk_at HY.out.2]; rfl
  have ya4 : W9.frozen? ⟨w.heap.size, 4, none⟩ = false := blk_free HY.out.2 4
  have za5 : W9.cell? ⟨w.heap.size, 5, none⟩ = some (.int .u32 0) := by rw [blk_at HY.out.2]; rfl
  have ya5 : W9.frozen? ⟨w.heap.size, 5, none⟩ = false := blk_free HY.out.2 5
  have za6 : W9.cell? ⟨w.heap.size, 6, none⟩ = some (.int .u32 0) := by rw [blk_at HY.out.2]; rfl
  have ya6 : W9.frozen? ⟨w.heap.size, 6, none⟩ = false := blk_free HY.out.2 6
  have za7 : W9.cell? ⟨w.heap.size, 7, none⟩ = some (.slice none 0 0) := by rw [blk_at HY.out.2]; rfl
  have ya7 : W9.frozen? ⟨w.heap.size, 7, none⟩ = false := blk_free HY.out.2 7
  have hs0 : w.heap.size < W0.heap.size := by have := HX.out.size; omega
  clear hb9 hk9 H8 k0 k1 k2 k3 k4 k5 k6 k7 y1 f1' hW8
  go_wp2
  obtain ⟨hp, hq⟩ := putc8 HY.out.2 (.int .u16 (V : Int)) (.int .u64 0) (.int .u16 0) (.string s) (.int .u32 0) (.int .u32 0) (.int .u32 0) (.slice none 0 0)
  generalize ((((((((W9.setCell ⟨w.heap.size, 0, none⟩ (.int .u16 (V : Int))).setCell ⟨w.heap.size, 1, none⟩ (.int .u64 0)).setCell ⟨w.heap.size, 2, none⟩ (.int .u16 0)).setCell ⟨w.heap.size, 3, none⟩ (.string s)).setCell ⟨w.heap.size, 4, none⟩ (.int .u32 0)).setCell ⟨w.heap.size, 5, none⟩ (.int .u32 0)).setCell ⟨w.heap.size, 6, none⟩ (.int .u32 0)).setCell ⟨w.heap.size, 7, none⟩ (.slice none 0 0)) = Wz at hp hq ⊢
  exact bodyPost_ret (results_cell_tmp1 rfl _ _ w.heap.size 28 _ (0, 0) _ rfl hp Tryz.underlying28 rfl infoI) rfl ⟨rfl, HY.out.1.trans (hq.below HY.out.1.size (fun g hg => by omega))⟩
set_option maxHeartbeats 4000000 in
theorem unpackInfo_2no (ao : Option Addr) (cap N : Nat) (l : List Nat) (w : World) (h : BRow w ao cap l) (hN : l.length = N) (hT : Tabs w) (V a1 e1 nn a2 e2 : Nat) (h1 : rvV l 0 2 = V ∧ raA l 0 2 = a1 ∧ ndE (okR l 0 2) 0 = e1) (hnn : l.length - a1 = nn) (s : ByteArray) (h3 : bstr (rrL l a1 nn) = s ∧ raA l a1 nn = a2 ∧ ndE (tx s) (ndE (okR l a1 nn) e1) = e2) (g0 : V ≠ 0) (g1 : V ≠ 1) (g2 : V = 2) (hfin : ndE (decide (a2 = l.length)) e2 = 81) :
    Calls Tryz.prog 5 #[.slice ao N cap] w fun e w' => e = .returned (.tuple #[.agg #[.int .u16 0, .int .u64 0, .int .u16 0, .string ⟨#[]⟩, .int .u32 0, .int .u32 0, .int .u32 0, .slice none 0 0], .int .i64 81]) ∧ Below w.heap.size w w' := by
  have HUp : Hid (∀ W, Below w.heap.size w W → Calls Tryz.prog 31 #[.slice ao N cap] W fun e w' => ∃ c r ao' cap', e = .returned (.pointer (some ⟨c, 0, none⟩)) ∧ Bg W w' c r ao' cap' l 0 0) := fun W hb => unpackG ao cap N l W (h.later hb) hN
  have HFn : Hid (ndE (decide (a2 = l.length)) e2 = 81) := hfin
  have HT : Hid (Tabs w) := hT
  have H1' : Hid (rvV l 0 2 = V ∧ raA l 0 2 = a1 ∧ ndE (okR l 0 2) 0 = e1) := h1
  have HNN : Hid (l.length - a1 = nn) := hnn
  have H3' : Hid _ := h3
  have f0 : ((V : Int) == 0) = false := by rw [beq_eq_false_iff_ne]; omega
  have f1 : ((V : Int) == 1) = false := by rw [beq_eq_false_iff_ne]; omega
  have f2 : ((V : Int) == 2) = true := by rw [beq_iff_eq]; omega
  clear h hN hfin hT h1 hnn h3 g0 g1 g2
  go_enter Tryz.func5, Tryz.ntmps5
  go_wp2_with fail
  have hx := mkb1 w #[.int .u16 0, .int .u64 0, .int .u16 0, .string ⟨#[]⟩, .int .u32 0, .int .u32 0, .int .u32 0, .slice none 0 0] 28
  generalize w.alloc (Obj.cells #[.int .u16 0, .int .u64 0, .int .u16 0, .string ⟨#[]⟩, .int .u32 0, .int .u32 0, .int .u32 0, .slice none 0 0] 28) = W0 at *
  refine (HUp.out _ hx.bel).mono ?_
  rintro e W1 ⟨c, r, ao', cap', rfl, hbd⟩
  have HX : Hid (Bx1 w W0 #[.int .u16 0, .int .u64 0, .int .u16 0, .string ⟨#[]⟩, .int .u32 0, .int .u32 0, .int .u32 0, .slice none 0 0] 28) := hx
  have HT0 : Hid (Tabs W0) := HT.out.later hx.bel
  have H1 : Hid (Bg W0 W1 c r ao' cap' l 0 0) := hbd
  clear hx hbd HUp HT
  go_wp2_with fail
  have hc1 := bu16G H1.out
  rw [H1'.out.1, H1'.out.2.1, H1'.out.2.2] at hc1
  refine hc1.mono ?_
  rintro e W2 ⟨rfl, hbd, _⟩
  have H2 : Hid (Bg W0 W2 c r ao' cap' l a1 e1) := hbd
  clear hbd H1 hc1
  go_wp2_with fail
  have h3 : Bg W0 (W2.alloc (Obj.cells #[.int .u16 (V : Int), .int .u64 0, .int .u16 0, .string ⟨#[]⟩, .int .u32 0, .int .u32 0, .int .u32 0, .slice none 0 0] 28)) c r ao' cap' l a1 e1 := H2.out.later (below1 W2 _)
  have eb3 := heap_new W2 (Obj.cells #[.int .u16 (V : Int), .int .u64 0, .int .u16 0, .string ⟨#[]⟩, .int .u32 0, .int .u32 0, .int .u32 0, .slice none 0 0] 28)
  have HG : Hid (W0.heap.size ≤ W2.heap.size) := H2.out.bel.size
  generalize W2.alloc (Obj.cells #[.int .u16 (V : Int), .int .u64 0, .int .u16 0, .string ⟨#[]⟩, .int .u32 0, .int .u32 0, .int .u32 0, .slice none 0 0] 28) = W3 at *
  generalize W2.heap.size = ge at *
  refine (bleftG h3 HNN.out).mono ?_
  rintro e W6 ⟨rfl, q, hw⟩
  have h4 : Bg W0 W6 c r ao' cap' l a1 e1 ∧ W6.heap[ge]? = some (.cells #[.int .u16 (V : Int), .int .u64 0, .int .u16 0, .string ⟨#[]⟩, .int .u32 0, .int .u32 0, .int .u32 0, .slice none 0 0] 28 (0, 0)) := by rw [hw]; exact ⟨h3.later (below_drewN _ q), eb3⟩
  have H6 : Hid _ := h4
  clear h3 eb3 hw H2 h4
  go_wp2_with fail
  have hc7 := brawTextG nn H6.out.1 HT0.out
  rw [H3'.out.1, H3'.out.2.1, H3'.out.2.2] at hc7
  refine hc7.mono ?_
  rintro e W7 ⟨rfl, hb7, hk7⟩
  have H7 : Hid (Bg W0 W7 c r ao' cap' l a2 e2 ∧ W7.heap[ge]? = some (.cells #[.int .u16 (V : Int), .int .u64 0, .int .u16 0, .string ⟨#[]⟩, .int .u32 0, .int .u32 0, .int .u32 0, .slice none 0 0] 28 (0, 0))) := ⟨hb7, H6.out.1.keep H6.out.2 (by decide) (by decide) hk7⟩
  clear H6 hb7 hk7 hc7
  have y1 : W7.cell? ⟨ge, 3, none⟩ = some (.string ⟨#[]⟩) := by rw [blk_at H7.out.2]; rfl
  have f1' := blk_free H7.out.2 3
  have H8 : Hid (Bg W0 (W7.setCell ⟨ge, 3, none⟩ (.string s)) c r ao' cap' l a2 e2 ∧ (W7.setCell ⟨ge, 3, none⟩ (.string s)).heap[ge]? = some (.cells #[.int .u16 (V : Int), .int .u64 0, .int .u16 0, .string s, .int .u32 0, .int .u32 0, .int .u32 0, .slice none 0 0] 28 (0, 0))) := ⟨H7.out.1.put H7.out.2 (by decide) (by decide) (by decide) HG.out 3 _, put_boxX H7.out.2 3 _ (by simp)⟩
  obtain ⟨W8, hW8⟩ : ∃ W8, W8 = W7.setCell ⟨ge, 3, none⟩ (.string s) := ⟨_, rfl⟩
  rw [← hW8] at H8
  have k0 : (W7.setCell ⟨ge, 3, none⟩ (.string s)).cell? ⟨ge, 0, none⟩ = some (.int .u16 (V : Int)) := by rw [← hW8, blk_at H8.out.2]; rfl
  have k1 : (W7.setCell ⟨ge, 3, none⟩ (.string s)).cell? ⟨ge, 1, none⟩ = some (.int .u64 0) := by rw [← hW8, blk_at H8.out.2]; rfl
  have k2 : (W7.setCell ⟨ge, 3, none⟩ (.string s)).cell? ⟨ge, 2, none⟩ = some (.int .u16 0) := by rw [← hW8, blk_at H8.out.2]; rfl
  have k3 : (W7.setCell ⟨ge, 3, none⟩ (.string s)).cell? ⟨ge, 3, none⟩ = some (.string s) := by rw [← hW8, blk_at H8.out.2]; rfl
  have k4 : (W7.setCell ⟨ge, 3, none⟩ (.string s)).cell? ⟨ge, 4, none⟩ = some (.int .u32 0) := by rw [← hW8, blk_at H8.out.2]; rfl
  have k5 : (W7.setCell ⟨ge, 3, none⟩ (.string s)).cell? ⟨ge, 5, none⟩ = some (.int .u32 0) := by rw [← hW8, blk_at H8.out.2]; rfl
  have k6 : (W7.setCell ⟨ge, 3, none⟩ (.string s)).cell? ⟨ge, 6, none⟩ = some (.int .u32 0) := by rw [← hW8, blk_at H8.out.2]; rfl
  have k7 : (W7.setCell ⟨ge, 3, none⟩ (.string s)).cell? ⟨ge, 7, none⟩ = some (.slice none 0 0) := by rw [← hW8, blk_at H8.out.2]; rfl
  clear H7
  go_wp2_with fail
  rw [← hW8]
  refine (wholeI_no V 0 0 s 0 0 0 none 0 0 81 (by decide) H8.out.1 HFn.out).mono ?_
  rintro e W9 ⟨rfl, hb9, hk9⟩
  have HY : Hid (Below w.heap.size w W9 ∧ W9.heap[w.heap.size]? = some (.cells #[.int .u16 0, .int .u64 0, .int .u16 0, .string ⟨#[]⟩, .int .u32 0, .int .u32 0, .int .u32 0, .slice none 0 0] 28 (0, 0))) := ⟨HX.out.bel.trans (hb9.mono HX.out.bel.size), by rw [hb9.block _ (by have := HX.out.size; omega)]; exact HX.out.a⟩
  have za0 : W9.cell? ⟨w.heap.size, 0, none⟩ = some (.int .u16 0) := by rw [blk_at HY.out.2]; rfl
  have ya0 : W9.frozen? ⟨w.heap.size, 0, none⟩ = false := blk_free HY.out.2 0
  have za1 : W9.cell? ⟨w.heap.size, 1, none⟩ = some (.int .u64 0) := by rw [blk_at HY.out.2]; rfl
  have ya1 : W9.frozen? ⟨w.heap.size, 1, none⟩ = false := blk_free HY.out.2 1
  have za2 : W9.cell? ⟨w.heap.size, 2, none⟩ = some (.int .u16 0) := by rw [blk_at HY.out.2]; rfl
  have ya2 : W9.frozen? ⟨w.heap.size, 2, none⟩ = false := blk_free HY.out.2 2
  have za3 : W9.cell? ⟨w.heap.size, 3, none⟩ = some (.string ⟨#[]⟩) := by rw [blk_at HY.out.2]; rfl
  have ya3 : W9.frozen? ⟨w.heap.size, 3, none⟩ = false := blk_free HY.out.2 3
  have za4 : W9.cell? ⟨w.heap.size, 4, none⟩ = some (.int .u32 0) := by rw [blk_at HY.out.2]; rfl
  have ya4 : W9.frozen? ⟨w.heap.size, 4, none⟩ = false := blk_free HY.out.2 4
  have za5 : W9.cell? ⟨w.heap.size, 5, none⟩ = some (.int .u32 0) := by rw [blk_at HY.out.2]; rfl
  have ya5 : W9.frozen? ⟨w.heap.size, 5, none⟩ = false := blk_free HY.out.2 5
  have za6 : W9.cell? ⟨w.heap.size, 6, none⟩ = some (.int .u32 0) := by rw [blk_at HY.out.2]; rfl
  have ya6 : W9.frozen? ⟨w.heap.size, 6, none⟩ = false := blk_free HY.out.2 6
  have za7 : W9.cell? ⟨w.heap.size, 7, none⟩ = some (.slice none 0 0) := by rw [blk_at HY.out.2]; rfl
  have ya7 : W9.frozen? ⟨w.heap.size, 7, none⟩ = false := blk_free HY.out.2 7
  have hs0 : w.heap.size < W0.heap.size := by have := HX.out.size; omega
  clear hb9 hk9 H8 k0 k1 k2 k3 k4 k5 k6 k7 y1 f1' hW8
  go_wp2
  obtain ⟨hp, hq⟩ := putc8 HY.out.2 (.int .u16 0) (.int .u64 0) (.int .u16 0) (.string ⟨#[]⟩) (.int .u32 0) (.int .u32 0) (.int .u32 0) (.slice none 0 0)
  generalize ((((((((W9.setCell ⟨w.heap.size, 0, none⟩ (.int .u16 0)).setCell ⟨w.heap.size, 1, none⟩ (.int .u64 0)).setCell ⟨w.heap.size, 2, none⟩ (.int .u16 0)).setCell ⟨w.heap.size, 3, none⟩ (.string ⟨#[]⟩)).setCell ⟨w.heap.size, 4, none⟩ (.int .u32 0)).setCell ⟨w.heap.size, 5, none⟩ (.int .u32 0)).setCell ⟨w.heap.size, 6, none⟩ (.int .u32 0)).setCell ⟨w.heap.size, 7, none⟩ (.slice none 0 0)) = Wz at hp hq ⊢
  exact bodyPost_ret (results_cell_tmp1 rfl _ _ w.heap.size 28 _ (0, 0) _ rfl hp Tryz.underlying28 rfl infoI) rfl ⟨rfl, HY.out.1.trans (hq.below HY.out.1.size (fun g hg => by omega))⟩
end Go.Proofs.YtfifaaopdhcaaaaGreatDoor

namespace Go.Proofs.YtfifaaopdhcaaaaGreatDoor
open Go.RowKit
set_option linter.unusedVariables false
set_option linter.unusedSimpArgs false
set_option maxRecDepth 100000
set_option maxHeartbeats 4000000 in
theorem unpackInfo_ook (ao : Option Addr) (cap N : Nat) (l : List Nat) (w : World) (h : BRow w ao cap l) (hN : l.length = N) (hT : Tabs w) (V a1 e1 nn a2 e2 : Nat) (h1 : rvV l 0 2 = V ∧ raA l 0 2 = a1 ∧ ndE (okR l 0 2) 0 = e1) (hnn : l.length - a1 = nn) (L : List Nat) (h3 : rrL l a1 nn = L ∧ raA l a1 nn = a2 ∧ ndE (okR l a1 nn) e1 = e2) (g0 : V ≠ 0) (g1 : V ≠ 1) (g2 : V ≠ 2) (g3 : V ≠ 3) (hfin : ndE (decide (a2 = l.length)) e2 = 0) :
    Calls Tryz.prog 5 #[.slice ao N cap] w fun e w' => ∃ a7 c7 n7, e = .returned (.tuple #[.agg #[.int .u16 (V : Int), .int .u64 0, .int .u16 0, .string ⟨#[]⟩, .int .u32 0, .int .u32 0, .int .u32 0, .slice a7 n7 c7], .int .i64 0]) ∧ L.length = n7 ∧ Row w w' a7 c7 L := by
  have HUp : Hid (∀ W, Below w.heap.size w W → Calls Tryz.prog 31 #[.slice ao N cap] W fun e w' => ∃ c r ao' cap', e = .returned (.pointer (some ⟨c, 0, none⟩)) ∧ Bg W w' c r ao' cap' l 0 0) := fun W hb => unpackG ao cap N l W (h.later hb) hN
  have HFn : Hid (ndE (decide (a2 = l.length)) e2 = 0) := hfin
  have HT : Hid (Tabs w) := hT
  have H1' : Hid (rvV l 0 2 = V ∧ raA l 0 2 = a1 ∧ ndE (okR l 0 2) 0 = e1) := h1
  have HNN : Hid (l.length - a1 = nn) := hnn
  have H3' : Hid _ := h3
  have HLs : Hid (∀ x ∈ L, x < 256) := fun x hx => by
    rw [← h3.1] at hx
    unfold rrL at hx; split at hx
    · exact h.lt x (List.mem_of_mem_drop (List.mem_of_mem_take hx))
    · simp at hx
  have f0 : ((V : Int) == 0) = false := by rw [beq_eq_false_iff_ne]; omega
  have f1 : ((V : Int) == 1) = false := by rw [beq_eq_false_iff_ne]; omega
  have f2 : ((V : Int) == 2) = false := by rw [beq_eq_false_iff_ne]; omega
  have f3 : ((V : Int) == 3) = false := by rw [beq_eq_false_iff_ne]; omega
  clear h hN hfin hT h1 hnn h3 g0 g1 g2 g3
  go_enter Tryz.func5, Tryz.ntmps5
  go_wp2_with fail
  have hx := mkb1 w #[.int .u16 0, .int .u64 0, .int .u16 0, .string ⟨#[]⟩, .int .u32 0, .int .u32 0, .int .u32 0, .slice none 0 0] 28
  generalize w.alloc (Obj.cells #[.int .u16 0, .int .u64 0, .int .u16 0, .string ⟨#[]⟩, .int .u32 0, .int .u32 0, .int .u32 0, .slice none 0 0] 28) = W0 at *
  refine (HUp.out _ hx.bel).mono ?_
  rintro e W1 ⟨c, r, ao', cap', rfl, hbd⟩
  have HX : Hid (Bx1 w W0 #[.int .u16 0, .int .u64 0, .int .u16 0, .string ⟨#[]⟩, .int .u32 0, .int .u32 0, .int .u32 0, .slice none 0 0] 28) := hx
  have HT0 : Hid (Tabs W0) := HT.out.later hx.bel
  have H1 : Hid (Bg W0 W1 c r ao' cap' l 0 0) := hbd
  clear hx hbd HUp HT
  go_wp2_with fail
  have hc1 := bu16G H1.out
  rw [H1'.out.1, H1'.out.2.1, H1'.out.2.2] at hc1
  refine hc1.mono ?_
  rintro e W2 ⟨rfl, hbd, _⟩
  have H2 : Hid (Bg W0 W2 c r ao' cap' l a1 e1) := hbd
  clear hbd H1 hc1
  go_wp2_with fail
  have h3 : Bg W0 (W2.alloc (Obj.cells #[.int .u16 (V : Int), .int .u64 0, .int .u16 0, .string ⟨#[]⟩, .int .u32 0, .int .u32 0, .int .u32 0, .slice none 0 0] 28)) c r ao' cap' l a1 e1 := H2.out.later (below1 W2 _)
  have eb3 := heap_new W2 (Obj.cells #[.int .u16 (V : Int), .int .u64 0, .int .u16 0, .string ⟨#[]⟩, .int .u32 0, .int .u32 0, .int .u32 0, .slice none 0 0] 28)
  have HG : Hid (W0.heap.size ≤ W2.heap.size) := H2.out.bel.size
  generalize W2.alloc (Obj.cells #[.int .u16 (V : Int), .int .u64 0, .int .u16 0, .string ⟨#[]⟩, .int .u32 0, .int .u32 0, .int .u32 0, .slice none 0 0] 28) = W3 at *
  generalize W2.heap.size = ge at *
  refine (bleftG h3 HNN.out).mono ?_
  rintro e W6 ⟨rfl, q, hw⟩
  have h4 : Bg W0 W6 c r ao' cap' l a1 e1 ∧ W6.heap[ge]? = some (.cells #[.int .u16 (V : Int), .int .u64 0, .int .u16 0, .string ⟨#[]⟩, .int .u32 0, .int .u32 0, .int .u32 0, .slice none 0 0] 28 (0, 0)) := by rw [hw]; exact ⟨h3.later (below_drewN _ q), eb3⟩
  have H6 : Hid _ := h4
  clear h3 eb3 hw H2 h4
  go_wp2_with fail
  have hc7 := brawG nn H6.out.1
  rw [H3'.out.1, H3'.out.2.1, H3'.out.2.2] at hc7
  refine hc7.mono ?_
  rintro e W7 ⟨n7, a7, c7, rfl, hn7, ho7, hb7, hk7⟩
  have HN7 : Hid (n7 = L.length) := hn7
  have HLt : Hid (c < W6.heap.size ∧ r < W6.heap.size) := ⟨block_lt H6.out.1.bd, block_lt H6.out.1.rd.blk⟩
  have HG6 : Hid (ge < W6.heap.size ∧ W0.heap.size ≤ W6.heap.size) := ⟨block_lt H6.out.2, H6.out.1.bel.size⟩
  have HR7 : Hid (W7.ownsRow W6.heap.size 5 1 (.slice a7 n7 c7) n7 (L.map bv)) := ho7
  have H7 : Hid (Bg W0 W7 c r ao' cap' l a2 e2 ∧ W7.heap[ge]? = some (.cells #[.int .u16 (V : Int), .int .u64 0, .int .u16 0, .string ⟨#[]⟩, .int .u32 0, .int .u32 0, .int .u32 0, .slice none 0 0] 28 (0, 0))) := ⟨hb7, H6.out.1.keep H6.out.2 (by decide) (by decide) hk7⟩
  clear H6 hb7 hk7 hc7 hn7 ho7
  have y1 : W7.cell? ⟨ge, 7, none⟩ = some (.slice none 0 0) := by rw [blk_at H7.out.2]; rfl
  have f1' := blk_free H7.out.2 7
  have H8 : Hid (Bg W0 (W7.setCell ⟨ge, 7, none⟩ (.slice a7 n7 c7)) c r ao' cap' l a2 e2 ∧ (W7.setCell ⟨ge, 7, none⟩ (.slice a7 n7 c7)).heap[ge]? = some (.cells #[.int .u16 (V : Int), .int .u64 0, .int .u16 0, .string ⟨#[]⟩, .int .u32 0, .int .u32 0, .int .u32 0, .slice a7 n7 c7] 28 (0, 0))) := ⟨H7.out.1.put H7.out.2 (by decide) (by decide) (by decide) HG.out 7 _, put_boxX H7.out.2 7 _ (by simp)⟩
  have HR8 : Hid ((W7.setCell ⟨ge, 7, none⟩ (.slice a7 n7 c7)).ownsRow W6.heap.size 5 1 (.slice a7 n7 c7) n7 (L.map bv)) := owns_same HR7.out (fun g hg => (keptIn_set W7 ge 7 _).block g (owns_lt HR7.out g hg).1 (by have h1 := (owns_lt HR7.out g hg).2; have h2 := HG6.out.1; omega))
  obtain ⟨W8, hW8⟩ : ∃ W8, W8 = W7.setCell ⟨ge, 7, none⟩ (.slice a7 n7 c7) := ⟨_, rfl⟩
  rw [← hW8] at H8 HR8
  have k0 : (W7.setCell ⟨ge, 7, none⟩ (.slice a7 n7 c7)).cell? ⟨ge, 0, none⟩ = some (.int .u16 (V : Int)) := by rw [← hW8, blk_at H8.out.2]; rfl
  have k1 : (W7.setCell ⟨ge, 7, none⟩ (.slice a7 n7 c7)).cell? ⟨ge, 1, none⟩ = some (.int .u64 0) := by rw [← hW8, blk_at H8.out.2]; rfl
  have k2 : (W7.setCell ⟨ge, 7, none⟩ (.slice a7 n7 c7)).cell? ⟨ge, 2, none⟩ = some (.int .u16 0) := by rw [← hW8, blk_at H8.out.2]; rfl
  have k3 : (W7.setCell ⟨ge, 7, none⟩ (.slice a7 n7 c7)).cell? ⟨ge, 3, none⟩ = some (.string ⟨#[]⟩) := by rw [← hW8, blk_at H8.out.2]; rfl
  have k4 : (W7.setCell ⟨ge, 7, none⟩ (.slice a7 n7 c7)).cell? ⟨ge, 4, none⟩ = some (.int .u32 0) := by rw [← hW8, blk_at H8.out.2]; rfl
  have k5 : (W7.setCell ⟨ge, 7, none⟩ (.slice a7 n7 c7)).cell? ⟨ge, 5, none⟩ = some (.int .u32 0) := by rw [← hW8, blk_at H8.out.2]; rfl
  have k6 : (W7.setCell ⟨ge, 7, none⟩ (.slice a7 n7 c7)).cell? ⟨ge, 6, none⟩ = some (.int .u32 0) := by rw [← hW8, blk_at H8.out.2]; rfl
  have k7 : (W7.setCell ⟨ge, 7, none⟩ (.slice a7 n7 c7)).cell? ⟨ge, 7, none⟩ = some (.slice a7 n7 c7) := by rw [← hW8, blk_at H8.out.2]; rfl
  clear H7 HR7
  go_wp2_with fail
  rw [← hW8]
  refine (wholeI_ok V 0 0 ⟨#[]⟩ 0 0 0 a7 n7 c7 H8.out.1 HFn.out).mono ?_
  rintro e W9 ⟨rfl, hb9, hk9⟩
  have HY : Hid (Below w.heap.size w W9 ∧ W9.heap[w.heap.size]? = some (.cells #[.int .u16 0, .int .u64 0, .int .u16 0, .string ⟨#[]⟩, .int .u32 0, .int .u32 0, .int .u32 0, .slice none 0 0] 28 (0, 0))) := ⟨HX.out.bel.trans (hb9.mono HX.out.bel.size), by rw [hb9.block _ (by have := HX.out.size; omega)]; exact HX.out.a⟩
  have HR9 : Hid (W9.ownsRow W6.heap.size 5 1 (.slice a7 n7 c7) n7 (L.map bv)) := owns_same HR8.out (fun g hg => hk9.block g (owns_lt HR8.out g hg).1 (fun e => by have h1 := (owns_lt HR8.out g hg).2; have h2 := HLt.out.1; omega))
  have za0 : W9.cell? ⟨w.heap.size, 0, none⟩ = some (.int .u16 0) := by rw [blk_at HY.out.2]; rfl
  have ya0 : W9.frozen? ⟨w.heap.size, 0, none⟩ = false := blk_free HY.out.2 0
  have za1 : W9.cell? ⟨w.heap.size, 1, none⟩ = some (.int .u64 0) := by rw [blk_at HY.out.2]; rfl
  have ya1 : W9.frozen? ⟨w.heap.size, 1, none⟩ = false := blk_free HY.out.2 1
  have za2 : W9.cell? ⟨w.heap.size, 2, none⟩ = some (.int .u16 0) := by rw [blk_at HY.out.2]; rfl
  have ya2 : W9.frozen? ⟨w.heap.size, 2, none⟩ = false := blk_free HY.out.2 2
  have za3 : W9.cell? ⟨w.heap.size, 3, none⟩ = some (.string ⟨#[]⟩) := by rw [blk_at HY.out.2]; rfl
  have ya3 : W9.frozen? ⟨w.heap.size, 3, none⟩ = false := blk_free HY.out.2 3
  have za4 : W9.cell? ⟨w.heap.size, 4, none⟩ = some (.int .u32 0) := by rw [blk_at HY.out.2]; rfl
  have ya4 : W9.frozen? ⟨w.heap.size, 4, none⟩ = false := blk_free HY.out.2 4
  have za5 : W9.cell? ⟨w.heap.size, 5, none⟩ = some (.int .u32 0) := by rw [blk_at HY.out.2]; rfl
  have ya5 : W9.frozen? ⟨w.heap.size, 5, none⟩ = false := blk_free HY.out.2 5
  have za6 : W9.cell? ⟨w.heap.size, 6, none⟩ = some (.int .u32 0) := by rw [blk_at HY.out.2]; rfl
  have ya6 : W9.frozen? ⟨w.heap.size, 6, none⟩ = false := blk_free HY.out.2 6
  have za7 : W9.cell? ⟨w.heap.size, 7, none⟩ = some (.slice none 0 0) := by rw [blk_at HY.out.2]; rfl
  have ya7 : W9.frozen? ⟨w.heap.size, 7, none⟩ = false := blk_free HY.out.2 7
  have hs0 : w.heap.size < W0.heap.size := by have := HX.out.size; omega
  clear hb9 hk9 H8 k0 k1 k2 k3 k4 k5 k6 k7 y1 f1' hW8
  go_wp2
  obtain ⟨hp, hq⟩ := putc8 HY.out.2 (.int .u16 (V : Int)) (.int .u64 0) (.int .u16 0) (.string ⟨#[]⟩) (.int .u32 0) (.int .u32 0) (.int .u32 0) (.slice a7 n7 c7)
  generalize ((((((((W9.setCell ⟨w.heap.size, 0, none⟩ (.int .u16 (V : Int))).setCell ⟨w.heap.size, 1, none⟩ (.int .u64 0)).setCell ⟨w.heap.size, 2, none⟩ (.int .u16 0)).setCell ⟨w.heap.size, 3, none⟩ (.string ⟨#[]⟩)).setCell ⟨w.heap.size, 4, none⟩ (.int .u32 0)).setCell ⟨w.heap.size, 5, none⟩ (.int .u32 0)).setCell ⟨w.heap.size, 6, none⟩ (.int .u32 0)).setCell ⟨w.heap.size, 7, none⟩ (.slice a7 n7 c7)) = Wz at hp hq ⊢
  refine bodyPost_ret (results_cell_tmp1 rfl _ _ w.heap.size 28 _ (0, 0) _ rfl hp Tryz.underlying28 rfl infoI) rfl ⟨a7, c7, n7, rfl, HN7.out.symm, ⟨?_, HLs.out, HY.out.1.trans (hq.below HY.out.1.size (fun g hg => by omega))⟩⟩
  have h9 := owns_mono (owns_same HR9.out (fun g hg => hq.block g (owns_lt HR9.out g hg).1 (by have h1 := (owns_lt HR9.out g hg).2; have h2 := HG6.out.2; omega))) (show w.heap.size ≤ W6.heap.size by have := HG6.out.2; omega)
  rw [← HN7.out]; exact h9
set_option maxHeartbeats 4000000 in
theorem unpackInfo_ono (ao : Option Addr) (cap N : Nat) (l : List Nat) (w : World) (h : BRow w ao cap l) (hN : l.length = N) (hT : Tabs w) (V a1 e1 nn a2 e2 : Nat) (h1 : rvV l 0 2 = V ∧ raA l 0 2 = a1 ∧ ndE (okR l 0 2) 0 = e1) (hnn : l.length - a1 = nn) (L : List Nat) (h3 : rrL l a1 nn = L ∧ raA l a1 nn = a2 ∧ ndE (okR l a1 nn) e1 = e2) (g0 : V ≠ 0) (g1 : V ≠ 1) (g2 : V ≠ 2) (g3 : V ≠ 3) (hfin : ndE (decide (a2 = l.length)) e2 = 81) :
    Calls Tryz.prog 5 #[.slice ao N cap] w fun e w' => e = .returned (.tuple #[.agg #[.int .u16 0, .int .u64 0, .int .u16 0, .string ⟨#[]⟩, .int .u32 0, .int .u32 0, .int .u32 0, .slice none 0 0], .int .i64 81]) ∧ Below w.heap.size w w' := by
  have HUp : Hid (∀ W, Below w.heap.size w W → Calls Tryz.prog 31 #[.slice ao N cap] W fun e w' => ∃ c r ao' cap', e = .returned (.pointer (some ⟨c, 0, none⟩)) ∧ Bg W w' c r ao' cap' l 0 0) := fun W hb => unpackG ao cap N l W (h.later hb) hN
  have HFn : Hid (ndE (decide (a2 = l.length)) e2 = 81) := hfin
  have HT : Hid (Tabs w) := hT
  have H1' : Hid (rvV l 0 2 = V ∧ raA l 0 2 = a1 ∧ ndE (okR l 0 2) 0 = e1) := h1
  have HNN : Hid (l.length - a1 = nn) := hnn
  have H3' : Hid _ := h3
  have HLs : Hid (∀ x ∈ L, x < 256) := fun x hx => by
    rw [← h3.1] at hx
    unfold rrL at hx; split at hx
    · exact h.lt x (List.mem_of_mem_drop (List.mem_of_mem_take hx))
    · simp at hx
  have f0 : ((V : Int) == 0) = false := by rw [beq_eq_false_iff_ne]; omega
  have f1 : ((V : Int) == 1) = false := by rw [beq_eq_false_iff_ne]; omega
  have f2 : ((V : Int) == 2) = false := by rw [beq_eq_false_iff_ne]; omega
  have f3 : ((V : Int) == 3) = false := by rw [beq_eq_false_iff_ne]; omega
  clear h hN hfin hT h1 hnn h3 g0 g1 g2 g3
  go_enter Tryz.func5, Tryz.ntmps5
  go_wp2_with fail
  have hx := mkb1 w #[.int .u16 0, .int .u64 0, .int .u16 0, .string ⟨#[]⟩, .int .u32 0, .int .u32 0, .int .u32 0, .slice none 0 0] 28
  generalize w.alloc (Obj.cells #[.int .u16 0, .int .u64 0, .int .u16 0, .string ⟨#[]⟩, .int .u32 0, .int .u32 0, .int .u32 0, .slice none 0 0] 28) = W0 at *
  refine (HUp.out _ hx.bel).mono ?_
  rintro e W1 ⟨c, r, ao', cap', rfl, hbd⟩
  have HX : Hid (Bx1 w W0 #[.int .u16 0, .int .u64 0, .int .u16 0, .string ⟨#[]⟩, .int .u32 0, .int .u32 0, .int .u32 0, .slice none 0 0] 28) := hx
  have HT0 : Hid (Tabs W0) := HT.out.later hx.bel
  have H1 : Hid (Bg W0 W1 c r ao' cap' l 0 0) := hbd
  clear hx hbd HUp HT
  go_wp2_with fail
  have hc1 := bu16G H1.out
  rw [H1'.out.1, H1'.out.2.1, H1'.out.2.2] at hc1
  refine hc1.mono ?_
  rintro e W2 ⟨rfl, hbd, _⟩
  have H2 : Hid (Bg W0 W2 c r ao' cap' l a1 e1) := hbd
  clear hbd H1 hc1
  go_wp2_with fail
  have h3 : Bg W0 (W2.alloc (Obj.cells #[.int .u16 (V : Int), .int .u64 0, .int .u16 0, .string ⟨#[]⟩, .int .u32 0, .int .u32 0, .int .u32 0, .slice none 0 0] 28)) c r ao' cap' l a1 e1 := H2.out.later (below1 W2 _)
  have eb3 := heap_new W2 (Obj.cells #[.int .u16 (V : Int), .int .u64 0, .int .u16 0, .string ⟨#[]⟩, .int .u32 0, .int .u32 0, .int .u32 0, .slice none 0 0] 28)
  have HG : Hid (W0.heap.size ≤ W2.heap.size) := H2.out.bel.size
  generalize W2.alloc (Obj.cells #[.int .u16 (V : Int), .int .u64 0, .int .u16 0, .string ⟨#[]⟩, .int .u32 0, .int .u32 0, .int .u32 0, .slice none 0 0] 28) = W3 at *
  generalize W2.heap.size = ge at *
  refine (bleftG h3 HNN.out).mono ?_
  rintro e W6 ⟨rfl, q, hw⟩
  have h4 : Bg W0 W6 c r ao' cap' l a1 e1 ∧ W6.heap[ge]? = some (.cells #[.int .u16 (V : Int), .int .u64 0, .int .u16 0, .string ⟨#[]⟩, .int .u32 0, .int .u32 0, .int .u32 0, .slice none 0 0] 28 (0, 0)) := by rw [hw]; exact ⟨h3.later (below_drewN _ q), eb3⟩
  have H6 : Hid _ := h4
  clear h3 eb3 hw H2 h4
  go_wp2_with fail
  have hc7 := brawG nn H6.out.1
  rw [H3'.out.1, H3'.out.2.1, H3'.out.2.2] at hc7
  refine hc7.mono ?_
  rintro e W7 ⟨n7, a7, c7, rfl, hn7, ho7, hb7, hk7⟩
  have HN7 : Hid (n7 = L.length) := hn7
  have HLt : Hid (c < W6.heap.size ∧ r < W6.heap.size) := ⟨block_lt H6.out.1.bd, block_lt H6.out.1.rd.blk⟩
  have HG6 : Hid (ge < W6.heap.size ∧ W0.heap.size ≤ W6.heap.size) := ⟨block_lt H6.out.2, H6.out.1.bel.size⟩
  have HR7 : Hid (W7.ownsRow W6.heap.size 5 1 (.slice a7 n7 c7) n7 (L.map bv)) := ho7
  have H7 : Hid (Bg W0 W7 c r ao' cap' l a2 e2 ∧ W7.heap[ge]? = some (.cells #[.int .u16 (V : Int), .int .u64 0, .int .u16 0, .string ⟨#[]⟩, .int .u32 0, .int .u32 0, .int .u32 0, .slice none 0 0] 28 (0, 0))) := ⟨hb7, H6.out.1.keep H6.out.2 (by decide) (by decide) hk7⟩
  clear H6 hb7 hk7 hc7 hn7 ho7
  have y1 : W7.cell? ⟨ge, 7, none⟩ = some (.slice none 0 0) := by rw [blk_at H7.out.2]; rfl
  have f1' := blk_free H7.out.2 7
  have H8 : Hid (Bg W0 (W7.setCell ⟨ge, 7, none⟩ (.slice a7 n7 c7)) c r ao' cap' l a2 e2 ∧ (W7.setCell ⟨ge, 7, none⟩ (.slice a7 n7 c7)).heap[ge]? = some (.cells #[.int .u16 (V : Int), .int .u64 0, .int .u16 0, .string ⟨#[]⟩, .int .u32 0, .int .u32 0, .int .u32 0, .slice a7 n7 c7] 28 (0, 0))) := ⟨H7.out.1.put H7.out.2 (by decide) (by decide) (by decide) HG.out 7 _, put_boxX H7.out.2 7 _ (by simp)⟩
  have HR8 : Hid ((W7.setCell ⟨ge, 7, none⟩ (.slice a7 n7 c7)).ownsRow W6.heap.size 5 1 (.slice a7 n7 c7) n7 (L.map bv)) := owns_same HR7.out (fun g hg => (keptIn_set W7 ge 7 _).block g (owns_lt HR7.out g hg).1 (by have h1 := (owns_lt HR7.out g hg).2; have h2 := HG6.out.1; omega))
  obtain ⟨W8, hW8⟩ : ∃ W8, W8 = W7.setCell ⟨ge, 7, none⟩ (.slice a7 n7 c7) := ⟨_, rfl⟩
  rw [← hW8] at H8 HR8
  have k0 : (W7.setCell ⟨ge, 7, none⟩ (.slice a7 n7 c7)).cell? ⟨ge, 0, none⟩ = some (.int .u16 (V : Int)) := by rw [← hW8, blk_at H8.out.2]; rfl
  have k1 : (W7.setCell ⟨ge, 7, none⟩ (.slice a7 n7 c7)).cell? ⟨ge, 1, none⟩ = some (.int .u64 0) := by rw [← hW8, blk_at H8.out.2]; rfl
  have k2 : (W7.setCell ⟨ge, 7, none⟩ (.slice a7 n7 c7)).cell? ⟨ge, 2, none⟩ = some (.int .u16 0) := by rw [← hW8, blk_at H8.out.2]; rfl
  have k3 : (W7.setCell ⟨ge, 7, none⟩ (.slice a7 n7 c7)).cell? ⟨ge, 3, none⟩ = some (.string ⟨#[]⟩) := by rw [← hW8, blk_at H8.out.2]; rfl
  have k4 : (W7.setCell ⟨ge, 7, none⟩ (.slice a7 n7 c7)).cell? ⟨ge, 4, none⟩ = some (.int .u32 0) := by rw [← hW8, blk_at H8.out.2]; rfl
  have k5 : (W7.setCell ⟨ge, 7, none⟩ (.slice a7 n7 c7)).cell? ⟨ge, 5, none⟩ = some (.int .u32 0) := by rw [← hW8, blk_at H8.out.2]; rfl
  have k6 : (W7.setCell ⟨ge, 7, none⟩ (.slice a7 n7 c7)).cell? ⟨ge, 6, none⟩ = some (.int .u32 0) := by rw [← hW8, blk_at H8.out.2]; rfl
  have k7 : (W7.setCell ⟨ge, 7, none⟩ (.slice a7 n7 c7)).cell? ⟨ge, 7, none⟩ = some (.slice a7 n7 c7) := by rw [← hW8, blk_at H8.out.2]; rfl
  clear H7 HR7
  go_wp2_with fail
  rw [← hW8]
  refine (wholeI_no V 0 0 ⟨#[]⟩ 0 0 0 a7 n7 c7 81 (by decide) H8.out.1 HFn.out).mono ?_
  rintro e W9 ⟨rfl, hb9, hk9⟩
  have HY : Hid (Below w.heap.size w W9 ∧ W9.heap[w.heap.size]? = some (.cells #[.int .u16 0, .int .u64 0, .int .u16 0, .string ⟨#[]⟩, .int .u32 0, .int .u32 0, .int .u32 0, .slice none 0 0] 28 (0, 0))) := ⟨HX.out.bel.trans (hb9.mono HX.out.bel.size), by rw [hb9.block _ (by have := HX.out.size; omega)]; exact HX.out.a⟩
  have za0 : W9.cell? ⟨w.heap.size, 0, none⟩ = some (.int .u16 0) := by rw [blk_at HY.out.2]; rfl
  have ya0 : W9.frozen? ⟨w.heap.size, 0, none⟩ = false := blk_free HY.out.2 0
  have za1 : W9.cell? ⟨w.heap.size, 1, none⟩ = some (.int .u64 0) := by rw [blk_at HY.out.2]; rfl
  have ya1 : W9.frozen? ⟨w.heap.size, 1, none⟩ = false := blk_free HY.out.2 1
  have za2 : W9.cell? ⟨w.heap.size, 2, none⟩ = some (.int .u16 0) := by rw [blk_at HY.out.2]; rfl
  have ya2 : W9.frozen? ⟨w.heap.size, 2, none⟩ = false := blk_free HY.out.2 2
  have za3 : W9.cell? ⟨w.heap.size, 3, none⟩ = some (.string ⟨#[]⟩) := by rw [blk_at HY.out.2]; rfl
  have ya3 : W9.frozen? ⟨w.heap.size, 3, none⟩ = false := blk_free HY.out.2 3
  have za4 : W9.cell? ⟨w.heap.size, 4, none⟩ = some (.int .u32 0) := by rw [blk_at HY.out.2]; rfl
  have ya4 : W9.frozen? ⟨w.heap.size, 4, none⟩ = false := blk_free HY.out.2 4
  have za5 : W9.cell? ⟨w.heap.size, 5, none⟩ = some (.int .u32 0) := by rw [blk_at HY.out.2]; rfl
  have ya5 : W9.frozen? ⟨w.heap.size, 5, none⟩ = false := blk_free HY.out.2 5
  have za6 : W9.cell? ⟨w.heap.size, 6, none⟩ = some (.int .u32 0) := by rw [blk_at HY.out.2]; rfl
  have ya6 : W9.frozen? ⟨w.heap.size, 6, none⟩ = false := blk_free HY.out.2 6
  have za7 : W9.cell? ⟨w.heap.size, 7, none⟩ = some (.slice none 0 0) := by rw [blk_at HY.out.2]; rfl
  have ya7 : W9.frozen? ⟨w.heap.size, 7, none⟩ = false := blk_free HY.out.2 7
  have hs0 : w.heap.size < W0.heap.size := by have := HX.out.size; omega
  clear hb9 hk9 H8 k0 k1 k2 k3 k4 k5 k6 k7 y1 f1' hW8
  go_wp2
  obtain ⟨hp, hq⟩ := putc8 HY.out.2 (.int .u16 0) (.int .u64 0) (.int .u16 0) (.string ⟨#[]⟩) (.int .u32 0) (.int .u32 0) (.int .u32 0) (.slice none 0 0)
  generalize ((((((((W9.setCell ⟨w.heap.size, 0, none⟩ (.int .u16 0)).setCell ⟨w.heap.size, 1, none⟩ (.int .u64 0)).setCell ⟨w.heap.size, 2, none⟩ (.int .u16 0)).setCell ⟨w.heap.size, 3, none⟩ (.string ⟨#[]⟩)).setCell ⟨w.heap.size, 4, none⟩ (.int .u32 0)).setCell ⟨w.heap.size, 5, none⟩ (.int .u32 0)).setCell ⟨w.heap.size, 6, none⟩ (.int .u32 0)).setCell ⟨w.heap.size, 7, none⟩ (.slice none 0 0)) = Wz at hp hq ⊢
  exact bodyPost_ret (results_cell_tmp1 rfl _ _ w.heap.size 28 _ (0, 0) _ rfl hp Tryz.underlying28 rfl infoI) rfl ⟨rfl, HY.out.1.trans (hq.below HY.out.1.size (fun g hg => by omega))⟩
end Go.Proofs.YtfifaaopdhcaaaaGreatDoor

namespace Go.Proofs.YtfifaaopdhcaaaaGreatDoor
open Go.RowKit
set_option linter.unusedVariables false
set_option linter.unusedSimpArgs false
set_option maxRecDepth 100000
set_option maxHeartbeats 4000000 in
theorem unpackInfo_0ok (ao : Option Addr) (cap N : Nat) (l : List Nat) (w : World) (h : BRow w ao cap l) (hN : l.length = N) (V a1 e1 : Nat) (h1 : rvV l 0 2 = V ∧ raA l 0 2 = a1 ∧ ndE (okR l 0 2) 0 = e1) (v0 b0 d0 : Nat) (r0 : rvV l a1 8 = v0 ∧ raA l a1 8 = b0 ∧ ndE (okR l a1 8) e1 = d0) (v1 b1 d1 : Nat) (r1 : rvV l b0 2 = v1 ∧ raA l b0 2 = b1 ∧ ndE (okR l b0 2) d0 = d1) (g0 : V = 0) (hfin : ndE (decide (b1 = l.length)) d1 = 0) :
    Calls Tryz.prog 5 #[.slice ao N cap] w fun e w' => e = .returned (.tuple #[.agg #[.int .u16 (V : Int), .int .u64 (v0 : Int), .int .u16 (v1 : Int), .string ⟨#[]⟩, .int .u32 0, .int .u32 0, .int .u32 0, .slice none 0 0], .int .i64 0]) ∧ Below w.heap.size w w' := by
  have HUp : Hid (∀ W, Below w.heap.size w W → Calls Tryz.prog 31 #[.slice ao N cap] W fun e w' => ∃ c r ao' cap', e = .returned (.pointer (some ⟨c, 0, none⟩)) ∧ Bg W w' c r ao' cap' l 0 0) := fun W hb => unpackG ao cap N l W (h.later hb) hN
  have HFn : Hid (ndE (decide (b1 = l.length)) d1 = 0) := hfin
  have H1' : Hid (rvV l 0 2 = V ∧ raA l 0 2 = a1 ∧ ndE (okR l 0 2) 0 = e1) := h1
  have R0 : Hid _ := r0
  have R1 : Hid _ := r1
  have f0 : ((V : Int) == 0) = true := by rw [beq_iff_eq]; omega
  clear h hN hfin h1 r0 r1 g0
  go_enter Tryz.func5, Tryz.ntmps5
  go_wp2_with fail
  have hx := mkb1 w #[.int .u16 0, .int .u64 0, .int .u16 0, .string ⟨#[]⟩, .int .u32 0, .int .u32 0, .int .u32 0, .slice none 0 0] 28
  generalize w.alloc (Obj.cells #[.int .u16 0, .int .u64 0, .int .u16 0, .string ⟨#[]⟩, .int .u32 0, .int .u32 0, .int .u32 0, .slice none 0 0] 28) = W0 at *
  refine (HUp.out _ hx.bel).mono ?_
  rintro e W1 ⟨c, r, ao', cap', rfl, hbd⟩
  have HX : Hid (Bx1 w W0 #[.int .u16 0, .int .u64 0, .int .u16 0, .string ⟨#[]⟩, .int .u32 0, .int .u32 0, .int .u32 0, .slice none 0 0] 28) := hx
  have H1 : Hid (Bg W0 W1 c r ao' cap' l 0 0) := hbd
  clear hx hbd HUp
  go_wp2_with fail
  have hc1 := bu16G H1.out
  rw [H1'.out.1, H1'.out.2.1, H1'.out.2.2] at hc1
  refine hc1.mono ?_
  rintro e W2 ⟨rfl, hbd, _⟩
  have H2 : Hid (Bg W0 W2 c r ao' cap' l a1 e1) := hbd
  clear hbd H1 hc1
  go_wp2_with fail
  have h3 : Bg W0 (W2.alloc (Obj.cells #[.int .u16 (V : Int), .int .u64 0, .int .u16 0, .string ⟨#[]⟩, .int .u32 0, .int .u32 0, .int .u32 0, .slice none 0 0] 28)) c r ao' cap' l a1 e1 := H2.out.later (below1 W2 _)
  have eb3 := heap_new W2 (Obj.cells #[.int .u16 (V : Int), .int .u64 0, .int .u16 0, .string ⟨#[]⟩, .int .u32 0, .int .u32 0, .int .u32 0, .slice none 0 0] 28)
  have HG : Hid (W0.heap.size ≤ W2.heap.size) := H2.out.bel.size
  generalize W2.alloc (Obj.cells #[.int .u16 (V : Int), .int .u64 0, .int .u16 0, .string ⟨#[]⟩, .int .u32 0, .int .u32 0, .int .u32 0, .slice none 0 0] 28) = W3 at *
  generalize W2.heap.size = ge at *
  have H6 : Hid (Bg W0 W3 c r ao' cap' l a1 e1 ∧ W3.heap[ge]? = some (.cells #[.int .u16 (V : Int), .int .u64 0, .int .u16 0, .string ⟨#[]⟩, .int .u32 0, .int .u32 0, .int .u32 0, .slice none 0 0] 28 (0, 0))) := ⟨h3, eb3⟩
  clear h3 eb3 H2
  have hc2 := bu64G H6.out.1
  rw [R0.out.1, R0.out.2.1, R0.out.2.2] at hc2
  refine hc2.mono ?_
  rintro e X0 ⟨rfl, hb7, hk7⟩
  have K0 : Hid (Bg W0 X0 c r ao' cap' l b0 d0 ∧ X0.heap[ge]? = some (.cells #[.int .u16 (V : Int), .int .u64 0, .int .u16 0, .string ⟨#[]⟩, .int .u32 0, .int .u32 0, .int .u32 0, .slice none 0 0] 28 (0, 0))) := ⟨hb7, H6.out.1.keep H6.out.2 (by decide) (by decide) hk7⟩
  clear H6 hb7 hk7 hc2
  go_wp2_with fail
  have hc3 := bu16G K0.out.1
  rw [R1.out.1, R1.out.2.1, R1.out.2.2] at hc3
  refine hc3.mono ?_
  rintro e X1 ⟨rfl, hb7, hk7⟩
  have K1 : Hid (Bg W0 X1 c r ao' cap' l b1 d1 ∧ X1.heap[ge]? = some (.cells #[.int .u16 (V : Int), .int .u64 0, .int .u16 0, .string ⟨#[]⟩, .int .u32 0, .int .u32 0, .int .u32 0, .slice none 0 0] 28 (0, 0))) := ⟨hb7, K0.out.1.keep K0.out.2 (by decide) (by decide) hk7⟩
  clear K0 hb7 hk7 hc3
  have y0 : X1.cell? ⟨ge, 1, none⟩ = some (.int .u64 0) := by rw [blk_at K1.out.2]; rfl
  have fr0 := blk_free K1.out.2 1
  have S0 : Hid (Bg W0 (X1.setCell ⟨ge, 1, none⟩ (.int .u64 (v0 : Int))) c r ao' cap' l b1 d1 ∧ (X1.setCell ⟨ge, 1, none⟩ (.int .u64 (v0 : Int))).heap[ge]? = some (.cells #[.int .u16 (V : Int), .int .u64 (v0 : Int), .int .u16 0, .string ⟨#[]⟩, .int .u32 0, .int .u32 0, .int .u32 0, .slice none 0 0] 28 (0, 0))) := ⟨K1.out.1.put K1.out.2 (by decide) (by decide) (by decide) HG.out 1 _, put_boxX K1.out.2 1 _ (by simp)⟩
  have y1 : (X1.setCell ⟨ge, 1, none⟩ (.int .u64 (v0 : Int))).cell? ⟨ge, 2, none⟩ = some (.int .u16 0) := by rw [blk_at S0.out.2]; rfl
  have fr1 := blk_free S0.out.2 2
  have S1 : Hid (Bg W0 ((X1.setCell ⟨ge, 1, none⟩ (.int .u64 (v0 : Int))).setCell ⟨ge, 2, none⟩ (.int .u16 (v1 : Int))) c r ao' cap' l b1 d1 ∧ ((X1.setCell ⟨ge, 1, none⟩ (.int .u64 (v0 : Int))).setCell ⟨ge, 2, none⟩ (.int .u16 (v1 : Int))).heap[ge]? = some (.cells #[.int .u16 (V : Int), .int .u64 (v0 : Int), .int .u16 (v1 : Int), .string ⟨#[]⟩, .int .u32 0, .int .u32 0, .int .u32 0, .slice none 0 0] 28 (0, 0))) := ⟨S0.out.1.put S0.out.2 (by decide) (by decide) (by decide) HG.out 2 _, put_boxX S0.out.2 2 _ (by simp)⟩
  obtain ⟨W8, hW8⟩ : ∃ W8, W8 = ((X1.setCell ⟨ge, 1, none⟩ (.int .u64 (v0 : Int))).setCell ⟨ge, 2, none⟩ (.int .u16 (v1 : Int))) := ⟨_, rfl⟩
  rw [← hW8] at S1
  have k0 : ((X1.setCell ⟨ge, 1, none⟩ (.int .u64 (v0 : Int))).setCell ⟨ge, 2, none⟩ (.int .u16 (v1 : Int))).cell? ⟨ge, 0, none⟩ = some (.int .u16 (V : Int)) := by rw [← hW8, blk_at S1.out.2]; rfl
  have k1 : ((X1.setCell ⟨ge, 1, none⟩ (.int .u64 (v0 : Int))).setCell ⟨ge, 2, none⟩ (.int .u16 (v1 : Int))).cell? ⟨ge, 1, none⟩ = some (.int .u64 (v0 : Int)) := by rw [← hW8, blk_at S1.out.2]; rfl
  have k2 : ((X1.setCell ⟨ge, 1, none⟩ (.int .u64 (v0 : Int))).setCell ⟨ge, 2, none⟩ (.int .u16 (v1 : Int))).cell? ⟨ge, 2, none⟩ = some (.int .u16 (v1 : Int)) := by rw [← hW8, blk_at S1.out.2]; rfl
  have k3 : ((X1.setCell ⟨ge, 1, none⟩ (.int .u64 (v0 : Int))).setCell ⟨ge, 2, none⟩ (.int .u16 (v1 : Int))).cell? ⟨ge, 3, none⟩ = some (.string ⟨#[]⟩) := by rw [← hW8, blk_at S1.out.2]; rfl
  have k4 : ((X1.setCell ⟨ge, 1, none⟩ (.int .u64 (v0 : Int))).setCell ⟨ge, 2, none⟩ (.int .u16 (v1 : Int))).cell? ⟨ge, 4, none⟩ = some (.int .u32 0) := by rw [← hW8, blk_at S1.out.2]; rfl
  have k5 : ((X1.setCell ⟨ge, 1, none⟩ (.int .u64 (v0 : Int))).setCell ⟨ge, 2, none⟩ (.int .u16 (v1 : Int))).cell? ⟨ge, 5, none⟩ = some (.int .u32 0) := by rw [← hW8, blk_at S1.out.2]; rfl
  have k6 : ((X1.setCell ⟨ge, 1, none⟩ (.int .u64 (v0 : Int))).setCell ⟨ge, 2, none⟩ (.int .u16 (v1 : Int))).cell? ⟨ge, 6, none⟩ = some (.int .u32 0) := by rw [← hW8, blk_at S1.out.2]; rfl
  have k7 : ((X1.setCell ⟨ge, 1, none⟩ (.int .u64 (v0 : Int))).setCell ⟨ge, 2, none⟩ (.int .u16 (v1 : Int))).cell? ⟨ge, 7, none⟩ = some (.slice none 0 0) := by rw [← hW8, blk_at S1.out.2]; rfl
  go_wp2_with fail
  rw [← hW8]
  refine (wholeI_ok V v0 v1 ⟨#[]⟩ 0 0 0 none 0 0 S1.out.1 HFn.out).mono ?_
  rintro e W9 ⟨rfl, hb9, hk9⟩
  have HY : Hid (Below w.heap.size w W9 ∧ W9.heap[w.heap.size]? = some (.cells #[.int .u16 0, .int .u64 0, .int .u16 0, .string ⟨#[]⟩, .int .u32 0, .int .u32 0, .int .u32 0, .slice none 0 0] 28 (0, 0))) := ⟨HX.out.bel.trans (hb9.mono HX.out.bel.size), by rw [hb9.block _ (by have := HX.out.size; omega)]; exact HX.out.a⟩
  have za0 : W9.cell? ⟨w.heap.size, 0, none⟩ = some (.int .u16 0) := by rw [blk_at HY.out.2]; rfl
  have ya0 : W9.frozen? ⟨w.heap.size, 0, none⟩ = false := blk_free HY.out.2 0
  have za1 : W9.cell? ⟨w.heap.size, 1, none⟩ = some (.int .u64 0) := by rw [blk_at HY.out.2]; rfl
  have ya1 : W9.frozen? ⟨w.heap.size, 1, none⟩ = false := blk_free HY.out.2 1
  have za2 : W9.cell? ⟨w.heap.size, 2, none⟩ = some (.int .u16 0) := by rw [blk_at HY.out.2]; rfl
  have ya2 : W9.frozen? ⟨w.heap.size, 2, none⟩ = false := blk_free HY.out.2 2
  have za3 : W9.cell? ⟨w.heap.size, 3, none⟩ = some (.string ⟨#[]⟩) := by rw [blk_at HY.out.2]; rfl
  have ya3 : W9.frozen? ⟨w.heap.size, 3, none⟩ = false := blk_free HY.out.2 3
  have za4 : W9.cell? ⟨w.heap.size, 4, none⟩ = some (.int .u32 0) := by rw [blk_at HY.out.2]; rfl
  have ya4 : W9.frozen? ⟨w.heap.size, 4, none⟩ = false := blk_free HY.out.2 4
  have za5 : W9.cell? ⟨w.heap.size, 5, none⟩ = some (.int .u32 0) := by rw [blk_at HY.out.2]; rfl
  have ya5 : W9.frozen? ⟨w.heap.size, 5, none⟩ = false := blk_free HY.out.2 5
  have za6 : W9.cell? ⟨w.heap.size, 6, none⟩ = some (.int .u32 0) := by rw [blk_at HY.out.2]; rfl
  have ya6 : W9.frozen? ⟨w.heap.size, 6, none⟩ = false := blk_free HY.out.2 6
  have za7 : W9.cell? ⟨w.heap.size, 7, none⟩ = some (.slice none 0 0) := by rw [blk_at HY.out.2]; rfl
  have ya7 : W9.frozen? ⟨w.heap.size, 7, none⟩ = false := blk_free HY.out.2 7
  have hs0 : w.heap.size < W0.heap.size := by have := HX.out.size; omega
  clear hb9 hk9 K1 S0 y0 fr0 S1 y1 fr1 k0 k1 k2 k3 k4 k5 k6 k7 hW8
  go_wp2
  obtain ⟨hp, hq⟩ := putc8 HY.out.2 (.int .u16 (V : Int)) (.int .u64 (v0 : Int)) (.int .u16 (v1 : Int)) (.string ⟨#[]⟩) (.int .u32 0) (.int .u32 0) (.int .u32 0) (.slice none 0 0)
  generalize ((((((((W9.setCell ⟨w.heap.size, 0, none⟩ (.int .u16 (V : Int))).setCell ⟨w.heap.size, 1, none⟩ (.int .u64 (v0 : Int))).setCell ⟨w.heap.size, 2, none⟩ (.int .u16 (v1 : Int))).setCell ⟨w.heap.size, 3, none⟩ (.string ⟨#[]⟩)).setCell ⟨w.heap.size, 4, none⟩ (.int .u32 0)).setCell ⟨w.heap.size, 5, none⟩ (.int .u32 0)).setCell ⟨w.heap.size, 6, none⟩ (.int .u32 0)).setCell ⟨w.heap.size, 7, none⟩ (.slice none 0 0)) = Wz at hp hq ⊢
  exact bodyPost_ret (results_cell_tmp1 rfl _ _ w.heap.size 28 _ (0, 0) _ rfl hp Tryz.underlying28 rfl infoI) rfl ⟨rfl, HY.out.1.trans (hq.below HY.out.1.size (fun g hg => by omega))⟩
set_option maxHeartbeats 4000000 in
theorem unpackInfo_0no (ao : Option Addr) (cap N : Nat) (l : List Nat) (w : World) (h : BRow w ao cap l) (hN : l.length = N) (V a1 e1 : Nat) (h1 : rvV l 0 2 = V ∧ raA l 0 2 = a1 ∧ ndE (okR l 0 2) 0 = e1) (v0 b0 d0 : Nat) (r0 : rvV l a1 8 = v0 ∧ raA l a1 8 = b0 ∧ ndE (okR l a1 8) e1 = d0) (v1 b1 d1 : Nat) (r1 : rvV l b0 2 = v1 ∧ raA l b0 2 = b1 ∧ ndE (okR l b0 2) d0 = d1) (g0 : V = 0) (hfin : ndE (decide (b1 = l.length)) d1 = 81) :
    Calls Tryz.prog 5 #[.slice ao N cap] w fun e w' => e = .returned (.tuple #[.agg #[.int .u16 0, .int .u64 0, .int .u16 0, .string ⟨#[]⟩, .int .u32 0, .int .u32 0, .int .u32 0, .slice none 0 0], .int .i64 81]) ∧ Below w.heap.size w w' := by
  have HUp : Hid (∀ W, Below w.heap.size w W → Calls Tryz.prog 31 #[.slice ao N cap] W fun e w' => ∃ c r ao' cap', e = .returned (.pointer (some ⟨c, 0, none⟩)) ∧ Bg W w' c r ao' cap' l 0 0) := fun W hb => unpackG ao cap N l W (h.later hb) hN
  have HFn : Hid (ndE (decide (b1 = l.length)) d1 = 81) := hfin
  have H1' : Hid (rvV l 0 2 = V ∧ raA l 0 2 = a1 ∧ ndE (okR l 0 2) 0 = e1) := h1
  have R0 : Hid _ := r0
  have R1 : Hid _ := r1
  have f0 : ((V : Int) == 0) = true := by rw [beq_iff_eq]; omega
  clear h hN hfin h1 r0 r1 g0
  go_enter Tryz.func5, Tryz.ntmps5
  go_wp2_with fail
  have hx := mkb1 w #[.int .u16 0, .int .u64 0, .int .u16 0, .string ⟨#[]⟩, .int .u32 0, .int .u32 0, .int .u32 0, .slice none 0 0] 28
  generalize w.alloc (Obj.cells #[.int .u16 0, .int .u64 0, .int .u16 0, .string ⟨#[]⟩, .int .u32 0, .int .u32 0, .int .u32 0, .slice none 0 0] 28) = W0 at *
  refine (HUp.out _ hx.bel).mono ?_
  rintro e W1 ⟨c, r, ao', cap', rfl, hbd⟩
  have HX : Hid (Bx1 w W0 #[.int .u16 0, .int .u64 0, .int .u16 0, .string ⟨#[]⟩, .int .u32 0, .int .u32 0, .int .u32 0, .slice none 0 0] 28) := hx
  have H1 : Hid (Bg W0 W1 c r ao' cap' l 0 0) := hbd
  clear hx hbd HUp
  go_wp2_with fail
  have hc1 := bu16G H1.out
  rw [H1'.out.1, H1'.out.2.1, H1'.out.2.2] at hc1
  refine hc1.mono ?_
  rintro e W2 ⟨rfl, hbd, _⟩
  have H2 : Hid (Bg W0 W2 c r ao' cap' l a1 e1) := hbd
  clear hbd H1 hc1
  go_wp2_with fail
  have h3 : Bg W0 (W2.alloc (Obj.cells #[.int .u16 (V : Int), .int .u64 0, .int .u16 0, .string ⟨#[]⟩, .int .u32 0, .int .u32 0, .int .u32 0, .slice none 0 0] 28)) c r ao' cap' l a1 e1 := H2.out.later (below1 W2 _)
  have eb3 := heap_new W2 (Obj.cells #[.int .u16 (V : Int), .int .u64 0, .int .u16 0, .string ⟨#[]⟩, .int .u32 0, .int .u32 0, .int .u32 0, .slice none 0 0] 28)
  have HG : Hid (W0.heap.size ≤ W2.heap.size) := H2.out.bel.size
  generalize W2.alloc (Obj.cells #[.int .u16 (V : Int), .int .u64 0, .int .u16 0, .string ⟨#[]⟩, .int .u32 0, .int .u32 0, .int .u32 0, .slice none 0 0] 28) = W3 at *
  generalize W2.heap.size = ge at *
  have H6 : Hid (Bg W0 W3 c r ao' cap' l a1 e1 ∧ W3.heap[ge]? = some (.cells #[.int .u16 (V : Int), .int .u64 0, .int .u16 0, .string ⟨#[]⟩, .int .u32 0, .int .u32 0, .int .u32 0, .slice none 0 0] 28 (0, 0))) := ⟨h3, eb3⟩
  clear h3 eb3 H2
  have hc2 := bu64G H6.out.1
  rw [R0.out.1, R0.out.2.1, R0.out.2.2] at hc2
  refine hc2.mono ?_
  rintro e X0 ⟨rfl, hb7, hk7⟩
  have K0 : Hid (Bg W0 X0 c r ao' cap' l b0 d0 ∧ X0.heap[ge]? = some (.cells #[.int .u16 (V : Int), .int .u64 0, .int .u16 0, .string ⟨#[]⟩, .int .u32 0, .int .u32 0, .int .u32 0, .slice none 0 0] 28 (0, 0))) := ⟨hb7, H6.out.1.keep H6.out.2 (by decide) (by decide) hk7⟩
  clear H6 hb7 hk7 hc2
  go_wp2_with fail
  have hc3 := bu16G K0.out.1
  rw [R1.out.1, R1.out.2.1, R1.out.2.2] at hc3
  refine hc3.mono ?_
  rintro e X1 ⟨rfl, hb7, hk7⟩
  have K1 : Hid (Bg W0 X1 c r ao' cap' l b1 d1 ∧ X1.heap[ge]? = some (.cells #[.int .u16 (V : Int), .int .u64 0, .int .u16 0, .string ⟨#[]⟩, .int .u32 0, .int .u32 0, .int .u32 0, .slice none 0 0] 28 (0, 0))) := ⟨hb7, K0.out.1.keep K0.out.2 (by decide) (by decide) hk7⟩
  clear K0 hb7 hk7 hc3
  have y0 : X1.cell? ⟨ge, 1, none⟩ = some (.int .u64 0) := by rw [blk_at K1.out.2]; rfl
  have fr0 := blk_free K1.out.2 1
  have S0 : Hid (Bg W0 (X1.setCell ⟨ge, 1, none⟩ (.int .u64 (v0 : Int))) c r ao' cap' l b1 d1 ∧ (X1.setCell ⟨ge, 1, none⟩ (.int .u64 (v0 : Int))).heap[ge]? = some (.cells #[.int .u16 (V : Int), .int .u64 (v0 : Int), .int .u16 0, .string ⟨#[]⟩, .int .u32 0, .int .u32 0, .int .u32 0, .slice none 0 0] 28 (0, 0))) := ⟨K1.out.1.put K1.out.2 (by decide) (by decide) (by decide) HG.out 1 _, put_boxX K1.out.2 1 _ (by simp)⟩
  have y1 : (X1.setCell ⟨ge, 1, none⟩ (.int .u64 (v0 : Int))).cell? ⟨ge, 2, none⟩ = some (.int .u16 0) := by rw [blk_at S0.out.2]; rfl
  have fr1 := blk_free S0.out.2 2
  have S1 : Hid (Bg W0 ((X1.setCell ⟨ge, 1, none⟩ (.int .u64 (v0 : Int))).setCell ⟨ge, 2, none⟩ (.int .u16 (v1 : Int))) c r ao' cap' l b1 d1 ∧ ((X1.setCell ⟨ge, 1, none⟩ (.int .u64 (v0 : Int))).setCell ⟨ge, 2, none⟩ (.int .u16 (v1 : Int))).heap[ge]? = some (.cells #[.int .u16 (V : Int), .int .u64 (v0 : Int), .int .u16 (v1 : Int), .string ⟨#[]⟩, .int .u32 0, .int .u32 0, .int .u32 0, .slice none 0 0] 28 (0, 0))) := ⟨S0.out.1.put S0.out.2 (by decide) (by decide) (by decide) HG.out 2 _, put_boxX S0.out.2 2 _ (by simp)⟩
  obtain ⟨W8, hW8⟩ : ∃ W8, W8 = ((X1.setCell ⟨ge, 1, none⟩ (.int .u64 (v0 : Int))).setCell ⟨ge, 2, none⟩ (.int .u16 (v1 : Int))) := ⟨_, rfl⟩
  rw [← hW8] at S1
  have k0 : ((X1.setCell ⟨ge, 1, none⟩ (.int .u64 (v0 : Int))).setCell ⟨ge, 2, none⟩ (.int .u16 (v1 : Int))).cell? ⟨ge, 0, none⟩ = some (.int .u16 (V : Int)) := by rw [← hW8, blk_at S1.out.2]; rfl
  have k1 : ((X1.setCell ⟨ge, 1, none⟩ (.int .u64 (v0 : Int))).setCell ⟨ge, 2, none⟩ (.int .u16 (v1 : Int))).cell? ⟨ge, 1, none⟩ = some (.int .u64 (v0 : Int)) := by rw [← hW8, blk_at S1.out.2]; rfl
  have k2 : ((X1.setCell ⟨ge, 1, none⟩ (.int .u64 (v0 : Int))).setCell ⟨ge, 2, none⟩ (.int .u16 (v1 : Int))).cell? ⟨ge, 2, none⟩ = some (.int .u16 (v1 : Int)) := by rw [← hW8, blk_at S1.out.2]; rfl
  have k3 : ((X1.setCell ⟨ge, 1, none⟩ (.int .u64 (v0 : Int))).setCell ⟨ge, 2, none⟩ (.int .u16 (v1 : Int))).cell? ⟨ge, 3, none⟩ = some (.string ⟨#[]⟩) := by rw [← hW8, blk_at S1.out.2]; rfl
  have k4 : ((X1.setCell ⟨ge, 1, none⟩ (.int .u64 (v0 : Int))).setCell ⟨ge, 2, none⟩ (.int .u16 (v1 : Int))).cell? ⟨ge, 4, none⟩ = some (.int .u32 0) := by rw [← hW8, blk_at S1.out.2]; rfl
  have k5 : ((X1.setCell ⟨ge, 1, none⟩ (.int .u64 (v0 : Int))).setCell ⟨ge, 2, none⟩ (.int .u16 (v1 : Int))).cell? ⟨ge, 5, none⟩ = some (.int .u32 0) := by rw [← hW8, blk_at S1.out.2]; rfl
  have k6 : ((X1.setCell ⟨ge, 1, none⟩ (.int .u64 (v0 : Int))).setCell ⟨ge, 2, none⟩ (.int .u16 (v1 : Int))).cell? ⟨ge, 6, none⟩ = some (.int .u32 0) := by rw [← hW8, blk_at S1.out.2]; rfl
  have k7 : ((X1.setCell ⟨ge, 1, none⟩ (.int .u64 (v0 : Int))).setCell ⟨ge, 2, none⟩ (.int .u16 (v1 : Int))).cell? ⟨ge, 7, none⟩ = some (.slice none 0 0) := by rw [← hW8, blk_at S1.out.2]; rfl
  go_wp2_with fail
  rw [← hW8]
  refine (wholeI_no V v0 v1 ⟨#[]⟩ 0 0 0 none 0 0 81 (by decide) S1.out.1 HFn.out).mono ?_
  rintro e W9 ⟨rfl, hb9, hk9⟩
  have HY : Hid (Below w.heap.size w W9 ∧ W9.heap[w.heap.size]? = some (.cells #[.int .u16 0, .int .u64 0, .int .u16 0, .string ⟨#[]⟩, .int .u32 0, .int .u32 0, .int .u32 0, .slice none 0 0] 28 (0, 0))) := ⟨HX.out.bel.trans (hb9.mono HX.out.bel.size), by rw [hb9.block _ (by have := HX.out.size; omega)]; exact HX.out.a⟩
  have za0 : W9.cell? ⟨w.heap.size, 0, none⟩ = some (.int .u16 0) := by rw [blk_at HY.out.2]; rfl
  have ya0 : W9.frozen? ⟨w.heap.size, 0, none⟩ = false := blk_free HY.out.2 0
  have za1 : W9.cell? ⟨w.heap.size, 1, none⟩ = some (.int .u64 0) := by rw [blk_at HY.out.2]; rfl
  have ya1 : W9.frozen? ⟨w.heap.size, 1, none⟩ = false := blk_free HY.out.2 1
  have za2 : W9.cell? ⟨w.heap.size, 2, none⟩ = some (.int .u16 0) := by rw [blk_at HY.out.2]; rfl
  have ya2 : W9.frozen? ⟨w.heap.size, 2, none⟩ = false := blk_free HY.out.2 2
  have za3 : W9.cell? ⟨w.heap.size, 3, none⟩ = some (.string ⟨#[]⟩) := by rw [blk_at HY.out.2]; rfl
  have ya3 : W9.frozen? ⟨w.heap.size, 3, none⟩ = false := blk_free HY.out.2 3
  have za4 : W9.cell? ⟨w.heap.size, 4, none⟩ = some (.int .u32 0) := by rw [blk_at HY.out.2]; rfl
  have ya4 : W9.frozen? ⟨w.heap.size, 4, none⟩ = false := blk_free HY.out.2 4
  have za5 : W9.cell? ⟨w.heap.size, 5, none⟩ = some (.int .u32 0) := by rw [blk_at HY.out.2]; rfl
  have ya5 : W9.frozen? ⟨w.heap.size, 5, none⟩ = false := blk_free HY.out.2 5
  have za6 : W9.cell? ⟨w.heap.size, 6, none⟩ = some (.int .u32 0) := by rw [blk_at HY.out.2]; rfl
  have ya6 : W9.frozen? ⟨w.heap.size, 6, none⟩ = false := blk_free HY.out.2 6
  have za7 : W9.cell? ⟨w.heap.size, 7, none⟩ = some (.slice none 0 0) := by rw [blk_at HY.out.2]; rfl
  have ya7 : W9.frozen? ⟨w.heap.size, 7, none⟩ = false := blk_free HY.out.2 7
  have hs0 : w.heap.size < W0.heap.size := by have := HX.out.size; omega
  clear hb9 hk9 K1 S0 y0 fr0 S1 y1 fr1 k0 k1 k2 k3 k4 k5 k6 k7 hW8
  go_wp2
  obtain ⟨hp, hq⟩ := putc8 HY.out.2 (.int .u16 0) (.int .u64 0) (.int .u16 0) (.string ⟨#[]⟩) (.int .u32 0) (.int .u32 0) (.int .u32 0) (.slice none 0 0)
  generalize ((((((((W9.setCell ⟨w.heap.size, 0, none⟩ (.int .u16 0)).setCell ⟨w.heap.size, 1, none⟩ (.int .u64 0)).setCell ⟨w.heap.size, 2, none⟩ (.int .u16 0)).setCell ⟨w.heap.size, 3, none⟩ (.string ⟨#[]⟩)).setCell ⟨w.heap.size, 4, none⟩ (.int .u32 0)).setCell ⟨w.heap.size, 5, none⟩ (.int .u32 0)).setCell ⟨w.heap.size, 6, none⟩ (.int .u32 0)).setCell ⟨w.heap.size, 7, none⟩ (.slice none 0 0)) = Wz at hp hq ⊢
  exact bodyPost_ret (results_cell_tmp1 rfl _ _ w.heap.size 28 _ (0, 0) _ rfl hp Tryz.underlying28 rfl infoI) rfl ⟨rfl, HY.out.1.trans (hq.below HY.out.1.size (fun g hg => by omega))⟩
end Go.Proofs.YtfifaaopdhcaaaaGreatDoor

namespace Go.Proofs.YtfifaaopdhcaaaaGreatDoor
open Go.RowKit
set_option linter.unusedVariables false
set_option linter.unusedSimpArgs false
set_option maxRecDepth 100000
set_option maxHeartbeats 4000000 in
theorem unpackInfo_3ok (ao : Option Addr) (cap N : Nat) (l : List Nat) (w : World) (h : BRow w ao cap l) (hN : l.length = N) (V a1 e1 : Nat) (h1 : rvV l 0 2 = V ∧ raA l 0 2 = a1 ∧ ndE (okR l 0 2) 0 = e1) (v0 b0 d0 : Nat) (r0 : rvV l a1 4 = v0 ∧ raA l a1 4 = b0 ∧ ndE (okR l a1 4) e1 = d0) (v1 b1 d1 : Nat) (r1 : rvV l b0 4 = v1 ∧ raA l b0 4 = b1 ∧ ndE (okR l b0 4) d0 = d1) (v2 b2 d2 : Nat) (r2 : rvV l b1 4 = v2 ∧ raA l b1 4 = b2 ∧ ndE (okR l b1 4) d1 = d2) (g0 : V ≠ 0) (g1 : V ≠ 1) (g2 : V ≠ 2) (g3 : V = 3) (hfin : ndE (decide (b2 = l.length)) d2 = 0) :
    Calls Tryz.prog 5 #[.slice ao N cap] w fun e w' => e = .returned (.tuple #[.agg #[.int .u16 (V : Int), .int .u64 0, .int .u16 0, .string ⟨#[]⟩, .int .u32 (v0 : Int), .int .u32 (v1 : Int), .int .u32 (v2 : Int), .slice none 0 0], .int .i64 0]) ∧ Below w.heap.size w w' := by
  have HUp : Hid (∀ W, Below w.heap.size w W → Calls Tryz.prog 31 #[.slice ao N cap] W fun e w' => ∃ c r ao' cap', e = .returned (.pointer (some ⟨c, 0, none⟩)) ∧ Bg W w' c r ao' cap' l 0 0) := fun W hb => unpackG ao cap N l W (h.later hb) hN
  have HFn : Hid (ndE (decide (b2 = l.length)) d2 = 0) := hfin
  have H1' : Hid (rvV l 0 2 = V ∧ raA l 0 2 = a1 ∧ ndE (okR l 0 2) 0 = e1) := h1
  have R0 : Hid _ := r0
  have R1 : Hid _ := r1
  have R2 : Hid _ := r2
  have f0 : ((V : Int) == 0) = false := by rw [beq_eq_false_iff_ne]; omega
  have f1 : ((V : Int) == 1) = false := by rw [beq_eq_false_iff_ne]; omega
  have f2 : ((V : Int) == 2) = false := by rw [beq_eq_false_iff_ne]; omega
  have f3 : ((V : Int) == 3) = true := by rw [beq_iff_eq]; omega
  clear h hN hfin h1 r0 r1 r2 g0 g1 g2 g3
  go_enter Tryz.func5, Tryz.ntmps5
  go_wp2_with fail
  have hx := mkb1 w #[.int .u16 0, .int .u64 0, .int .u16 0, .string ⟨#[]⟩, .int .u32 0, .int .u32 0, .int .u32 0, .slice none 0 0] 28
  generalize w.alloc (Obj.cells #[.int .u16 0, .int .u64 0, .int .u16 0, .string ⟨#[]⟩, .int .u32 0, .int .u32 0, .int .u32 0, .slice none 0 0] 28) = W0 at *
  refine (HUp.out _ hx.bel).mono ?_
  rintro e W1 ⟨c, r, ao', cap', rfl, hbd⟩
  have HX : Hid (Bx1 w W0 #[.int .u16 0, .int .u64 0, .int .u16 0, .string ⟨#[]⟩, .int .u32 0, .int .u32 0, .int .u32 0, .slice none 0 0] 28) := hx
  have H1 : Hid (Bg W0 W1 c r ao' cap' l 0 0) := hbd
  clear hx hbd HUp
  go_wp2_with fail
  have hc1 := bu16G H1.out
  rw [H1'.out.1, H1'.out.2.1, H1'.out.2.2] at hc1
  refine hc1.mono ?_
  rintro e W2 ⟨rfl, hbd, _⟩
  have H2 : Hid (Bg W0 W2 c r ao' cap' l a1 e1) := hbd
  clear hbd H1 hc1
  go_wp2_with fail
  have h3 : Bg W0 (W2.alloc (Obj.cells #[.int .u16 (V : Int), .int .u64 0, .int .u16 0, .string ⟨#[]⟩, .int .u32 0, .int .u32 0, .int .u32 0, .slice none 0 0] 28)) c r ao' cap' l a1 e1 := H2.out.later (below1 W2 _)
  have eb3 := heap_new W2 (Obj.cells #[.int .u16 (V : Int), .int .u64 0, .int .u16 0, .string ⟨#[]⟩, .int .u32 0, .int .u32 0, .int .u32 0, .slice none 0 0] 28)
  have HG : Hid (W0.heap.size ≤ W2.heap.size) := H2.out.bel.size
  generalize W2.alloc (Obj.cells #[.int .u16 (V : Int), .int .u64 0, .int .u16 0, .string ⟨#[]⟩, .int .u32 0, .int .u32 0, .int .u32 0, .slice none 0 0] 28) = W3 at *
  generalize W2.heap.size = ge at *
  have H6 : Hid (Bg W0 W3 c r ao' cap' l a1 e1 ∧ W3.heap[ge]? = some (.cells #[.int .u16 (V : Int), .int .u64 0, .int .u16 0, .string ⟨#[]⟩, .int .u32 0, .int .u32 0, .int .u32 0, .slice none 0 0] 28 (0, 0))) := ⟨h3, eb3⟩
  clear h3 eb3 H2
  have hc2 := bu32G H6.out.1
  rw [R0.out.1, R0.out.2.1, R0.out.2.2] at hc2
  refine hc2.mono ?_
  rintro e X0 ⟨rfl, hb7, hk7⟩
  have K0 : Hid (Bg W0 X0 c r ao' cap' l b0 d0 ∧ X0.heap[ge]? = some (.cells #[.int .u16 (V : Int), .int .u64 0, .int .u16 0, .string ⟨#[]⟩, .int .u32 0, .int .u32 0, .int .u32 0, .slice none 0 0] 28 (0, 0))) := ⟨hb7, H6.out.1.keep H6.out.2 (by decide) (by decide) hk7⟩
  clear H6 hb7 hk7 hc2
  go_wp2_with fail
  have hc3 := bu32G K0.out.1
  rw [R1.out.1, R1.out.2.1, R1.out.2.2] at hc3
  refine hc3.mono ?_
  rintro e X1 ⟨rfl, hb7, hk7⟩
  have K1 : Hid (Bg W0 X1 c r ao' cap' l b1 d1 ∧ X1.heap[ge]? = some (.cells #[.int .u16 (V : Int), .int .u64 0, .int .u16 0, .string ⟨#[]⟩, .int .u32 0, .int .u32 0, .int .u32 0, .slice none 0 0] 28 (0, 0))) := ⟨hb7, K0.out.1.keep K0.out.2 (by decide) (by decide) hk7⟩
  clear K0 hb7 hk7 hc3
  go_wp2_with fail
  have hc4 := bu32G K1.out.1
  rw [R2.out.1, R2.out.2.1, R2.out.2.2] at hc4
  refine hc4.mono ?_
  rintro e X2 ⟨rfl, hb7, hk7⟩
  have K2 : Hid (Bg W0 X2 c r ao' cap' l b2 d2 ∧ X2.heap[ge]? = some (.cells #[.int .u16 (V : Int), .int .u64 0, .int .u16 0, .string ⟨#[]⟩, .int .u32 0, .int .u32 0, .int .u32 0, .slice none 0 0] 28 (0, 0))) := ⟨hb7, K1.out.1.keep K1.out.2 (by decide) (by decide) hk7⟩
  clear K1 hb7 hk7 hc4
  have y0 : X2.cell? ⟨ge, 4, none⟩ = some (.int .u32 0) := by rw [blk_at K2.out.2]; rfl
  have fr0 := blk_free K2.out.2 4
  have S0 : Hid (Bg W0 (X2.setCell ⟨ge, 4, none⟩ (.int .u32 (v0 : Int))) c r ao' cap' l b2 d2 ∧ (X2.setCell ⟨ge, 4, none⟩ (.int .u32 (v0 : Int))).heap[ge]? = some (.cells #[.int .u16 (V : Int), .int .u64 0, .int .u16 0, .string ⟨#[]⟩, .int .u32 (v0 : Int), .int .u32 0, .int .u32 0, .slice none 0 0] 28 (0, 0))) := ⟨K2.out.1.put K2.out.2 (by decide) (by decide) (by decide) HG.out 4 _, put_boxX K2.out.2 4 _ (by simp)⟩
  have y1 : (X2.setCell ⟨ge, 4, none⟩ (.int .u32 (v0 : Int))).cell? ⟨ge, 5, none⟩ = some (.int .u32 0) := by rw [blk_at S0.out.2]; rfl
  have fr1 := blk_free S0.out.2 5
  have S1 : Hid (Bg W0 ((X2.setCell ⟨ge, 4, none⟩ (.int .u32 (v0 : Int))).setCell ⟨ge, 5, none⟩ (.int .u32 (v1 : Int))) c r ao' cap' l b2 d2 ∧ ((X2.setCell ⟨ge, 4, none⟩ (.int .u32 (v0 : Int))).setCell ⟨ge, 5, none⟩ (.int .u32 (v1 : Int))).heap[ge]? = some (.cells #[.int .u16 (V : Int), .int .u64 0, .int .u16 0, .string ⟨#[]⟩, .int .u32 (v0 : Int), .int .u32 (v1 : Int), .int .u32 0, .slice none 0 0] 28 (0, 0))) := ⟨S0.out.1.put S0.out.2 (by decide) (by decide) (by decide) HG.out 5 _, put_boxX S0.out.2 5 _ (by simp)⟩
  have y2 : ((X2.setCell ⟨ge, 4, none⟩ (.int .u32 (v0 : Int))).setCell ⟨ge, 5, none⟩ (.int .u32 (v1 : Int))).cell? ⟨ge, 6, none⟩ = some (.int .u32 0) := by rw [blk_at S1.out.2]; rfl
  have fr2 := blk_free S1.out.2 6
  have S2 : Hid (Bg W0 (((X2.setCell ⟨ge, 4, none⟩ (.int .u32 (v0 : Int))).setCell ⟨ge, 5, none⟩ (.int .u32 (v1 : Int))).setCell ⟨ge, 6, none⟩ (.int .u32 (v2 : Int))) c r ao' cap' l b2 d2 ∧ (((X2.setCell ⟨ge, 4, none⟩ (.int .u32 (v0 : Int))).setCell ⟨ge, 5, none⟩ (.int .u32 (v1 : Int))).setCell ⟨ge, 6, none⟩ (.int .u32 (v2 : Int))).heap[ge]? = some (.cells #[.int .u16 (V : Int), .int .u64 0, .int .u16 0, .string ⟨#[]⟩, .int .u32 (v0 : Int), .int .u32 (v1 : Int), .int .u32 (v2 : Int), .slice none 0 0] 28 (0, 0))) := ⟨S1.out.1.put S1.out.2 (by decide) (by decide) (by decide) HG.out 6 _, put_boxX S1.out.2 6 _ (by simp)⟩
  obtain ⟨W8, hW8⟩ : ∃ W8, W8 = (((X2.setCell ⟨ge, 4, none⟩ (.int .u32 (v0 : Int))).setCell ⟨ge, 5, none⟩ (.int .u32 (v1 : Int))).setCell ⟨ge, 6, none⟩ (.int .u32 (v2 : Int))) := ⟨_, rfl⟩
  rw [← hW8] at S2
  have k0 : (((X2.setCell ⟨ge, 4, none⟩ (.int .u32 (v0 : Int))).setCell ⟨ge, 5, none⟩ (.int .u32 (v1 : Int))).setCell ⟨ge, 6, none⟩ (.int .u32 (v2 : Int))).cell? ⟨ge, 0, none⟩ = some (.int .u16 (V : Int)) := by rw [← hW8, blk_at S2.out.2]; rfl
  have k1 : (((X2.setCell ⟨ge, 4, none⟩ (.int .u32 (v0 : Int))).setCell ⟨ge, 5, none⟩ (.int .u32 (v1 : Int))).setCell ⟨ge, 6, none⟩ (.int .u32 (v2 : Int))).cell? ⟨ge, 1, none⟩ = some (.int .u64 0) := by rw [← hW8, blk_at S2.out.2]; rfl
  have k2 : (((X2.setCell ⟨ge, 4, none⟩ (.int .u32 (v0 : Int))).setCell ⟨ge, 5, none⟩ (.int .u32 (v1 : Int))).setCell ⟨ge, 6, none⟩ (.int .u32 (v2 : Int))).cell? ⟨ge, 2, none⟩ = some (.int .u16 0) := by rw [← hW8, blk_at S2.out.2]; rfl
  have k3 : (((X2.setCell ⟨ge, 4, none⟩ (.int .u32 (v0 : Int))).setCell ⟨ge, 5, none⟩ (.int .u32 (v1 : Int))).setCell ⟨ge, 6, none⟩ (.int .u32 (v2 : Int))).cell? ⟨ge, 3, none⟩ = some (.string ⟨#[]⟩) := by rw [← hW8, blk_at S2.out.2]; rfl
  have k4 : (((X2.setCell ⟨ge, 4, none⟩ (.int .u32 (v0 : Int))).setCell ⟨ge, 5, none⟩ (.int .u32 (v1 : Int))).setCell ⟨ge, 6, none⟩ (.int .u32 (v2 : Int))).cell? ⟨ge, 4, none⟩ = some (.int .u32 (v0 : Int)) := by rw [← hW8, blk_at S2.out.2]; rfl
  have k5 : (((X2.setCell ⟨ge, 4, none⟩ (.int .u32 (v0 : Int))).setCell ⟨ge, 5, none⟩ (.int .u32 (v1 : Int))).setCell ⟨ge, 6, none⟩ (.int .u32 (v2 : Int))).cell? ⟨ge, 5, none⟩ = some (.int .u32 (v1 : Int)) := by rw [← hW8, blk_at S2.out.2]; rfl
  have k6 : (((X2.setCell ⟨ge, 4, none⟩ (.int .u32 (v0 : Int))).setCell ⟨ge, 5, none⟩ (.int .u32 (v1 : Int))).setCell ⟨ge, 6, none⟩ (.int .u32 (v2 : Int))).cell? ⟨ge, 6, none⟩ = some (.int .u32 (v2 : Int)) := by rw [← hW8, blk_at S2.out.2]; rfl
  have k7 : (((X2.setCell ⟨ge, 4, none⟩ (.int .u32 (v0 : Int))).setCell ⟨ge, 5, none⟩ (.int .u32 (v1 : Int))).setCell ⟨ge, 6, none⟩ (.int .u32 (v2 : Int))).cell? ⟨ge, 7, none⟩ = some (.slice none 0 0) := by rw [← hW8, blk_at S2.out.2]; rfl
  go_wp2_with fail
  rw [← hW8]
  refine (wholeI_ok V 0 0 ⟨#[]⟩ v0 v1 v2 none 0 0 S2.out.1 HFn.out).mono ?_
  rintro e W9 ⟨rfl, hb9, hk9⟩
  have HY : Hid (Below w.heap.size w W9 ∧ W9.heap[w.heap.size]? = some (.cells #[.int .u16 0, .int .u64 0, .int .u16 0, .string ⟨#[]⟩, .int .u32 0, .int .u32 0, .int .u32 0, .slice none 0 0] 28 (0, 0))) := ⟨HX.out.bel.trans (hb9.mono HX.out.bel.size), by rw [hb9.block _ (by have := HX.out.size; omega)]; exact HX.out.a⟩
  have za0 : W9.cell? ⟨w.heap.size, 0, none⟩ = some (.int .u16 0) := by rw [blk_at HY.out.2]; rfl
  have ya0 : W9.frozen? ⟨w.heap.size, 0, none⟩ = false := blk_free HY.out.2 0
  have za1 : W9.cell? ⟨w.heap.size, 1, none⟩ = some (.int .u64 0) := by rw [blk_at HY.out.2]; rfl
  have ya1 : W9.frozen? ⟨w.heap.size, 1, none⟩ = false := blk_free HY.out.2 1
  have za2 : W9.cell? ⟨w.heap.size, 2, none⟩ = some (.int .u16 0) := by rw [blk_at HY.out.2]; rfl
  have ya2 : W9.frozen? ⟨w.heap.size, 2, none⟩ = false := blk_free HY.out.2 2
  have za3 : W9.cell? ⟨w.heap.size, 3, none⟩ = some (.string ⟨#[]⟩) := by rw [blk_at HY.out.2]; rfl
  have ya3 : W9.frozen? ⟨w.heap.size, 3, none⟩ = false := blk_free HY.out.2 3
  have za4 : W9.cell? ⟨w.heap.size, 4, none⟩ = some (.int .u32 0) := by rw [blk_at HY.out.2]; rfl
  have ya4 : W9.frozen? ⟨w.heap.size, 4, none⟩ = false := blk_free HY.out.2 4
  have za5 : W9.cell? ⟨w.heap.size, 5, none⟩ = some (.int .u32 0) := by rw [blk_at HY.out.2]; rfl
  have ya5 : W9.frozen? ⟨w.heap.size, 5, none⟩ = false := blk_free HY.out.2 5
  have za6 : W9.cell? ⟨w.heap.size, 6, none⟩ = some (.int .u32 0) := by rw [blk_at HY.out.2]; rfl
  have ya6 : W9.frozen? ⟨w.heap.size, 6, none⟩ = false := blk_free HY.out.2 6
  have za7 : W9.cell? ⟨w.heap.size, 7, none⟩ = some (.slice none 0 0) := by rw [blk_at HY.out.2]; rfl
  have ya7 : W9.frozen? ⟨w.heap.size, 7, none⟩ = false := blk_free HY.out.2 7
  have hs0 : w.heap.size < W0.heap.size := by have := HX.out.size; omega
  clear hb9 hk9 K2 S0 y0 fr0 S1 y1 fr1 S2 y2 fr2 k0 k1 k2 k3 k4 k5 k6 k7 hW8
  go_wp2
  obtain ⟨hp, hq⟩ := putc8 HY.out.2 (.int .u16 (V : Int)) (.int .u64 0) (.int .u16 0) (.string ⟨#[]⟩) (.int .u32 (v0 : Int)) (.int .u32 (v1 : Int)) (.int .u32 (v2 : Int)) (.slice none 0 0)
  generalize ((((((((W9.setCell ⟨w.heap.size, 0, none⟩ (.int .u16 (V : Int))).setCell ⟨w.heap.size, 1, none⟩ (.int .u64 0)).setCell ⟨w.heap.size, 2, none⟩ (.int .u16 0)).setCell ⟨w.heap.size, 3, none⟩ (.string ⟨#[]⟩)).setCell ⟨w.heap.size, 4, none⟩ (.int .u32 (v0 : Int))).setCell ⟨w.heap.size, 5, none⟩ (.int .u32 (v1 : Int))).setCell ⟨w.heap.size, 6, none⟩ (.int .u32 (v2 : Int))).setCell ⟨w.heap.size, 7, none⟩ (.slice none 0 0)) = Wz at hp hq ⊢
  exact bodyPost_ret (results_cell_tmp1 rfl _ _ w.heap.size 28 _ (0, 0) _ rfl hp Tryz.underlying28 rfl infoI) rfl ⟨rfl, HY.out.1.trans (hq.below HY.out.1.size (fun g hg => by omega))⟩
set_option maxHeartbeats 4000000 in
theorem unpackInfo_3no (ao : Option Addr) (cap N : Nat) (l : List Nat) (w : World) (h : BRow w ao cap l) (hN : l.length = N) (V a1 e1 : Nat) (h1 : rvV l 0 2 = V ∧ raA l 0 2 = a1 ∧ ndE (okR l 0 2) 0 = e1) (v0 b0 d0 : Nat) (r0 : rvV l a1 4 = v0 ∧ raA l a1 4 = b0 ∧ ndE (okR l a1 4) e1 = d0) (v1 b1 d1 : Nat) (r1 : rvV l b0 4 = v1 ∧ raA l b0 4 = b1 ∧ ndE (okR l b0 4) d0 = d1) (v2 b2 d2 : Nat) (r2 : rvV l b1 4 = v2 ∧ raA l b1 4 = b2 ∧ ndE (okR l b1 4) d1 = d2) (g0 : V ≠ 0) (g1 : V ≠ 1) (g2 : V ≠ 2) (g3 : V = 3) (hfin : ndE (decide (b2 = l.length)) d2 = 81) :
    Calls Tryz.prog 5 #[.slice ao N cap] w fun e w' => e = .returned (.tuple #[.agg #[.int .u16 0, .int .u64 0, .int .u16 0, .string ⟨#[]⟩, .int .u32 0, .int .u32 0, .int .u32 0, .slice none 0 0], .int .i64 81]) ∧ Below w.heap.size w w' := by
  have HUp : Hid (∀ W, Below w.heap.size w W → Calls Tryz.prog 31 #[.slice ao N cap] W fun e w' => ∃ c r ao' cap', e = .returned (.pointer (some ⟨c, 0, none⟩)) ∧ Bg W w' c r ao' cap' l 0 0) := fun W hb => unpackG ao cap N l W (h.later hb) hN
  have HFn : Hid (ndE (decide (b2 = l.length)) d2 = 81) := hfin
  have H1' : Hid (rvV l 0 2 = V ∧ raA l 0 2 = a1 ∧ ndE (okR l 0 2) 0 = e1) := h1
  have R0 : Hid _ := r0
  have R1 : Hid _ := r1
  have R2 : Hid _ := r2
  have f0 : ((V : Int) == 0) = false := by rw [beq_eq_false_iff_ne]; omega
  have f1 : ((V : Int) == 1) = false := by rw [beq_eq_false_iff_ne]; omega
  have f2 : ((V : Int) == 2) = false := by rw [beq_eq_false_iff_ne]; omega
  have f3 : ((V : Int) == 3) = true := by rw [beq_iff_eq]; omega
  clear h hN hfin h1 r0 r1 r2 g0 g1 g2 g3
  go_enter Tryz.func5, Tryz.ntmps5
  go_wp2_with fail
  have hx := mkb1 w #[.int .u16 0, .int .u64 0, .int .u16 0, .string ⟨#[]⟩, .int .u32 0, .int .u32 0, .int .u32 0, .slice none 0 0] 28
  generalize w.alloc (Obj.cells #[.int .u16 0, .int .u64 0, .int .u16 0, .string ⟨#[]⟩, .int .u32 0, .int .u32 0, .int .u32 0, .slice none 0 0] 28) = W0 at *
  refine (HUp.out _ hx.bel).mono ?_
  rintro e W1 ⟨c, r, ao', cap', rfl, hbd⟩
  have HX : Hid (Bx1 w W0 #[.int .u16 0, .int .u64 0, .int .u16 0, .string ⟨#[]⟩, .int .u32 0, .int .u32 0, .int .u32 0, .slice none 0 0] 28) := hx
  have H1 : Hid (Bg W0 W1 c r ao' cap' l 0 0) := hbd
  clear hx hbd HUp
  go_wp2_with fail
  have hc1 := bu16G H1.out
  rw [H1'.out.1, H1'.out.2.1, H1'.out.2.2] at hc1
  refine hc1.mono ?_
  rintro e W2 ⟨rfl, hbd, _⟩
  have H2 : Hid (Bg W0 W2 c r ao' cap' l a1 e1) := hbd
  clear hbd H1 hc1
  go_wp2_with fail
  have h3 : Bg W0 (W2.alloc (Obj.cells #[.int .u16 (V : Int), .int .u64 0, .int .u16 0, .string ⟨#[]⟩, .int .u32 0, .int .u32 0, .int .u32 0, .slice none 0 0] 28)) c r ao' cap' l a1 e1 := H2.out.later (below1 W2 _)
  have eb3 := heap_new W2 (Obj.cells #[.int .u16 (V : Int), .int .u64 0, .int .u16 0, .string ⟨#[]⟩, .int .u32 0, .int .u32 0, .int .u32 0, .slice none 0 0] 28)
  have HG : Hid (W0.heap.size ≤ W2.heap.size) := H2.out.bel.size
  generalize W2.alloc (Obj.cells #[.int .u16 (V : Int), .int .u64 0, .int .u16 0, .string ⟨#[]⟩, .int .u32 0, .int .u32 0, .int .u32 0, .slice none 0 0] 28) = W3 at *
  generalize W2.heap.size = ge at *
  have H6 : Hid (Bg W0 W3 c r ao' cap' l a1 e1 ∧ W3.heap[ge]? = some (.cells #[.int .u16 (V : Int), .int .u64 0, .int .u16 0, .string ⟨#[]⟩, .int .u32 0, .int .u32 0, .int .u32 0, .slice none 0 0] 28 (0, 0))) := ⟨h3, eb3⟩
  clear h3 eb3 H2
  have hc2 := bu32G H6.out.1
  rw [R0.out.1, R0.out.2.1, R0.out.2.2] at hc2
  refine hc2.mono ?_
  rintro e X0 ⟨rfl, hb7, hk7⟩
  have K0 : Hid (Bg W0 X0 c r ao' cap' l b0 d0 ∧ X0.heap[ge]? = some (.cells #[.int .u16 (V : Int), .int .u64 0, .int .u16 0, .string ⟨#[]⟩, .int .u32 0, .int .u32 0, .int .u32 0, .slice none 0 0] 28 (0, 0))) := ⟨hb7, H6.out.1.keep H6.out.2 (by decide) (by decide) hk7⟩
  clear H6 hb7 hk7 hc2
  go_wp2_with fail
  have hc3 := bu32G K0.out.1
  rw [R1.out.1, R1.out.2.1, R1.out.2.2] at hc3
  refine hc3.mono ?_
  rintro e X1 ⟨rfl, hb7, hk7⟩
  have K1 : Hid (Bg W0 X1 c r ao' cap' l b1 d1 ∧ X1.heap[ge]? = some (.cells #[.int .u16 (V : Int), .int .u64 0, .int .u16 0, .string ⟨#[]⟩, .int .u32 0, .int .u32 0, .int .u32 0, .slice none 0 0] 28 (0, 0))) := ⟨hb7, K0.out.1.keep K0.out.2 (by decide) (by decide) hk7⟩
  clear K0 hb7 hk7 hc3
  go_wp2_with fail
  have hc4 := bu32G K1.out.1
  rw [R2.out.1, R2.out.2.1, R2.out.2.2] at hc4
  refine hc4.mono ?_
  rintro e X2 ⟨rfl, hb7, hk7⟩
  have K2 : Hid (Bg W0 X2 c r ao' cap' l b2 d2 ∧ X2.heap[ge]? = some (.cells #[.int .u16 (V : Int), .int .u64 0, .int .u16 0, .string ⟨#[]⟩, .int .u32 0, .int .u32 0, .int .u32 0, .slice none 0 0] 28 (0, 0))) := ⟨hb7, K1.out.1.keep K1.out.2 (by decide) (by decide) hk7⟩
  clear K1 hb7 hk7 hc4
  have y0 : X2.cell? ⟨ge, 4, none⟩ = some (.int .u32 0) := by rw [blk_at K2.out.2]; rfl
  have fr0 := blk_free K2.out.2 4
  have S0 : Hid (Bg W0 (X2.setCell ⟨ge, 4, none⟩ (.int .u32 (v0 : Int))) c r ao' cap' l b2 d2 ∧ (X2.setCell ⟨ge, 4, none⟩ (.int .u32 (v0 : Int))).heap[ge]? = some (.cells #[.int .u16 (V : Int), .int .u64 0, .int .u16 0, .string ⟨#[]⟩, .int .u32 (v0 : Int), .int .u32 0, .int .u32 0, .slice none 0 0] 28 (0, 0))) := ⟨K2.out.1.put K2.out.2 (by decide) (by decide) (by decide) HG.out 4 _, put_boxX K2.out.2 4 _ (by simp)⟩
  have y1 : (X2.setCell ⟨ge, 4, none⟩ (.int .u32 (v0 : Int))).cell? ⟨ge, 5, none⟩ = some (.int .u32 0) := by rw [blk_at S0.out.2]; rfl
  have fr1 := blk_free S0.out.2 5
  have S1 : Hid (Bg W0 ((X2.setCell ⟨ge, 4, none⟩ (.int .u32 (v0 : Int))).setCell ⟨ge, 5, none⟩ (.int .u32 (v1 : Int))) c r ao' cap' l b2 d2 ∧ ((X2.setCell ⟨ge, 4, none⟩ (.int .u32 (v0 : Int))).setCell ⟨ge, 5, none⟩ (.int .u32 (v1 : Int))).heap[ge]? = some (.cells #[.int .u16 (V : Int), .int .u64 0, .int .u16 0, .string ⟨#[]⟩, .int .u32 (v0 : Int), .int .u32 (v1 : Int), .int .u32 0, .slice none 0 0] 28 (0, 0))) := ⟨S0.out.1.put S0.out.2 (by decide) (by decide) (by decide) HG.out 5 _, put_boxX S0.out.2 5 _ (by simp)⟩
  have y2 : ((X2.setCell ⟨ge, 4, none⟩ (.int .u32 (v0 : Int))).setCell ⟨ge, 5, none⟩ (.int .u32 (v1 : Int))).cell? ⟨ge, 6, none⟩ = some (.int .u32 0) := by rw [blk_at S1.out.2]; rfl
  have fr2 := blk_free S1.out.2 6
  have S2 : Hid (Bg W0 (((X2.setCell ⟨ge, 4, none⟩ (.int .u32 (v0 : Int))).setCell ⟨ge, 5, none⟩ (.int .u32 (v1 : Int))).setCell ⟨ge, 6, none⟩ (.int .u32 (v2 : Int))) c r ao' cap' l b2 d2 ∧ (((X2.setCell ⟨ge, 4, none⟩ (.int .u32 (v0 : Int))).setCell ⟨ge, 5, none⟩ (.int .u32 (v1 : Int))).setCell ⟨ge, 6, none⟩ (.int .u32 (v2 : Int))).heap[ge]? = some (.cells #[.int .u16 (V : Int), .int .u64 0, .int .u16 0, .string ⟨#[]⟩, .int .u32 (v0 : Int), .int .u32 (v1 : Int), .int .u32 (v2 : Int), .slice none 0 0] 28 (0, 0))) := ⟨S1.out.1.put S1.out.2 (by decide) (by decide) (by decide) HG.out 6 _, put_boxX S1.out.2 6 _ (by simp)⟩
  obtain ⟨W8, hW8⟩ : ∃ W8, W8 = (((X2.setCell ⟨ge, 4, none⟩ (.int .u32 (v0 : Int))).setCell ⟨ge, 5, none⟩ (.int .u32 (v1 : Int))).setCell ⟨ge, 6, none⟩ (.int .u32 (v2 : Int))) := ⟨_, rfl⟩
  rw [← hW8] at S2
  have k0 : (((X2.setCell ⟨ge, 4, none⟩ (.int .u32 (v0 : Int))).setCell ⟨ge, 5, none⟩ (.int .u32 (v1 : Int))).setCell ⟨ge, 6, none⟩ (.int .u32 (v2 : Int))).cell? ⟨ge, 0, none⟩ = some (.int .u16 (V : Int)) := by rw [← hW8, blk_at S2.out.2]; rfl
  have k1 : (((X2.setCell ⟨ge, 4, none⟩ (.int .u32 (v0 : Int))).setCell ⟨ge, 5, none⟩ (.int .u32 (v1 : Int))).setCell ⟨ge, 6, none⟩ (.int .u32 (v2 : Int))).cell? ⟨ge, 1, none⟩ = some (.int .u64 0) := by rw [← hW8, blk_at S2.out.2]; rfl
  have k2 : (((X2.setCell ⟨ge, 4, none⟩ (.int .u32 (v0 : Int))).setCell ⟨ge, 5, none⟩ (.int .u32 (v1 : Int))).setCell ⟨ge, 6, none⟩ (.int .u32 (v2 : Int))).cell? ⟨ge, 2, none⟩ = some (.int .u16 0) := by rw [← hW8, blk_at S2.out.2]; rfl
  have k3 : (((X2.setCell ⟨ge, 4, none⟩ (.int .u32 (v0 : Int))).setCell ⟨ge, 5, none⟩ (.int .u32 (v1 : Int))).setCell ⟨ge, 6, none⟩ (.int .u32 (v2 : Int))).cell? ⟨ge, 3, none⟩ = some (.string ⟨#[]⟩) := by rw [← hW8, blk_at S2.out.2]; rfl
  have k4 : (((X2.setCell ⟨ge, 4, none⟩ (.int .u32 (v0 : Int))).setCell ⟨ge, 5, none⟩ (.int .u32 (v1 : Int))).setCell ⟨ge, 6, none⟩ (.int .u32 (v2 : Int))).cell? ⟨ge, 4, none⟩ = some (.int .u32 (v0 : Int)) := by rw [← hW8, blk_at S2.out.2]; rfl
  have k5 : (((X2.setCell ⟨ge, 4, none⟩ (.int .u32 (v0 : Int))).setCell ⟨ge, 5, none⟩ (.int .u32 (v1 : Int))).setCell ⟨ge, 6, none⟩ (.int .u32 (v2 : Int))).cell? ⟨ge, 5, none⟩ = some (.int .u32 (v1 : Int)) := by rw [← hW8, blk_at S2.out.2]; rfl
  have k6 : (((X2.setCell ⟨ge, 4, none⟩ (.int .u32 (v0 : Int))).setCell ⟨ge, 5, none⟩ (.int .u32 (v1 : Int))).setCell ⟨ge, 6, none⟩ (.int .u32 (v2 : Int))).cell? ⟨ge, 6, none⟩ = some (.int .u32 (v2 : Int)) := by rw [← hW8, blk_at S2.out.2]; rfl
  have k7 : (((X2.setCell ⟨ge, 4, none⟩ (.int .u32 (v0 : Int))).setCell ⟨ge, 5, none⟩ (.int .u32 (v1 : Int))).setCell ⟨ge, 6, none⟩ (.int .u32 (v2 : Int))).cell? ⟨ge, 7, none⟩ = some (.slice none 0 0) := by rw [← hW8, blk_at S2.out.2]; rfl
  go_wp2_with fail
  rw [← hW8]
  refine (wholeI_no V 0 0 ⟨#[]⟩ v0 v1 v2 none 0 0 81 (by decide) S2.out.1 HFn.out).mono ?_
  rintro e W9 ⟨rfl, hb9, hk9⟩
  have HY : Hid (Below w.heap.size w W9 ∧ W9.heap[w.heap.size]? = some (.cells #[.int .u16 0, .int .u64 0, .int .u16 0, .string ⟨#[]⟩, .int .u32 0, .int .u32 0, .int .u32 0, .slice none 0 0] 28 (0, 0))) := ⟨HX.out.bel.trans (hb9.mono HX.out.bel.size), by rw [hb9.block _ (by have := HX.out.size; omega)]; exact HX.out.a⟩
  have za0 : W9.cell? ⟨w.heap.size, 0, none⟩ = some (.int .u16 0) := by rw [blk_at HY.out.2]; rfl
  have ya0 : W9.frozen? ⟨w.heap.size, 0, none⟩ = false := blk_free HY.out.2 0
  have za1 : W9.cell? ⟨w.heap.size, 1, none⟩ = some (.int .u64 0) := by rw [blk_at HY.out.2]; rfl
  have ya1 : W9.frozen? ⟨w.heap.size, 1, none⟩ = false := blk_free HY.out.2 1
  have za2 : W9.cell? ⟨w.heap.size, 2, none⟩ = some (.int .u16 0) := by rw [blk_at HY.out.2]; rfl
  have ya2 : W9.frozen? ⟨w.heap.size, 2, none⟩ = false := blk_free HY.out.2 2
  have za3 : W9.cell? ⟨w.heap.size, 3, none⟩ = some (.string ⟨#[]⟩) := by rw [blk_at HY.out.2]; rfl
  have ya3 : W9.frozen? ⟨w.heap.size, 3, none⟩ = false := blk_free HY.out.2 3
  have za4 : W9.cell? ⟨w.heap.size, 4, none⟩ = some (.int .u32 0) := by rw [blk_at HY.out.2]; rfl
  have ya4 : W9.frozen? ⟨w.heap.size, 4, none⟩ = false := blk_free HY.out.2 4
  have za5 : W9.cell? ⟨w.heap.size, 5, none⟩ = some (.int .u32 0) := by rw [blk_at HY.out.2]; rfl
  have ya5 : W9.frozen? ⟨w.heap.size, 5, none⟩ = false := blk_free HY.out.2 5
  have za6 : W9.cell? ⟨w.heap.size, 6, none⟩ = some (.int .u32 0) := by rw [blk_at HY.out.2]; rfl
  have ya6 : W9.frozen? ⟨w.heap.size, 6, none⟩ = false := blk_free HY.out.2 6
  have za7 : W9.cell? ⟨w.heap.size, 7, none⟩ = some (.slice none 0 0) := by rw [blk_at HY.out.2]; rfl
  have ya7 : W9.frozen? ⟨w.heap.size, 7, none⟩ = false := blk_free HY.out.2 7
  have hs0 : w.heap.size < W0.heap.size := by have := HX.out.size; omega
  clear hb9 hk9 K2 S0 y0 fr0 S1 y1 fr1 S2 y2 fr2 k0 k1 k2 k3 k4 k5 k6 k7 hW8
  go_wp2
  obtain ⟨hp, hq⟩ := putc8 HY.out.2 (.int .u16 0) (.int .u64 0) (.int .u16 0) (.string ⟨#[]⟩) (.int .u32 0) (.int .u32 0) (.int .u32 0) (.slice none 0 0)
  generalize ((((((((W9.setCell ⟨w.heap.size, 0, none⟩ (.int .u16 0)).setCell ⟨w.heap.size, 1, none⟩ (.int .u64 0)).setCell ⟨w.heap.size, 2, none⟩ (.int .u16 0)).setCell ⟨w.heap.size, 3, none⟩ (.string ⟨#[]⟩)).setCell ⟨w.heap.size, 4, none⟩ (.int .u32 0)).setCell ⟨w.heap.size, 5, none⟩ (.int .u32 0)).setCell ⟨w.heap.size, 6, none⟩ (.int .u32 0)).setCell ⟨w.heap.size, 7, none⟩ (.slice none 0 0)) = Wz at hp hq ⊢
  exact bodyPost_ret (results_cell_tmp1 rfl _ _ w.heap.size 28 _ (0, 0) _ rfl hp Tryz.underlying28 rfl infoI) rfl ⟨rfl, HY.out.1.trans (hq.below HY.out.1.size (fun g hg => by omega))⟩
end Go.Proofs.YtfifaaopdhcaaaaGreatDoor

namespace Go.Proofs.YtfifaaopdhcaaaaGreatDoor
open Go.RowKit
set_option linter.unusedVariables false
set_option linter.unusedSimpArgs false
set_option maxRecDepth 100000
/-- a twin's bytes, with the marks in its spare room -/
def tw (l : List Nat) : List Nat := l ++ List.replicate 4 171
theorem tw_len (l : List Nat) : (tw l).length = l.length + 4 := by simp [tw]
theorem tw_lt {l : List Nat} (h : ∀ x ∈ l, x < 256) : ∀ x ∈ tw l, x < 256 := fun x hx => by
  rcases List.mem_append.1 hx with hx | hx
  · exact h x hx
  · rw [(List.mem_replicate.1 hx).2]; decide
set_option maxHeartbeats 4000000 in
theorem twin_any (ao : Option Addr) (cap n : Nat) (l : List Nat) (w : World) (h : BRow w ao cap l) (HN : Hid (l.length = n)) (hn : n ≤ 1099511627776) :
    Calls Tryz.prog 4 #[.slice ao n cap] w fun e w' => e = .returned (.slice (some ⟨w.heap.size, 0, none⟩) n (n + 4)) ∧ w'.heap[w.heap.size]? = some (.cells ((tw l).map bv).toArray 5 (0, 0)) ∧ Below w.heap.size w w' := by
  obtain ⟨i0, hi, hz0, hz1, hz2⟩ := info_parts Tryz.info5
  have HR : Hid (BRow w ao cap l) := h
  have hw4 : IntKind.i64.wrap ((n : Int) + 4) = ((n + 4 : Nat) : Int) := by rw [IntKind.wrap_i64]; omega
  have hc4 : ((n + 4 : Nat) : Int) = (n : Int) + 4 := by omega
  clear h
  obtain ⟨N, hN⟩ : ∃ N, N = n + 4 := ⟨_, rfl⟩
  go_enter Tryz.func4, Tryz.ntmps4
  go_wp2_with (at_make; refine wpList_make_full _ rfl _ _ 22 rfl w.heap.size 5 i0 (.int .u8 0) 1 Tryz.underlying22 hi hz0 hz1 .i64 .i64 ((n : Int) + 4) ((n : Int) + 4) (n + 4) rfl rfl (by omega) (by omega) (by rw [hz2]; omega) (by unfold maxLen; omega) (Nat.le_refl _) ?_; intro w1 hown1 hgrow1)
  have HB1 : Hid (Below w.heap.size w w1) := (Below.refl w.heap.size w).grown hgrow1 (Nat.le_refl _) (by simp)
  have HO1 : Hid (w1.ownsRow w.heap.size 5 1 (.slice (some ⟨w.heap.size, 0, none⟩) (n + 4) (n + 4)) (n + 4) ((List.replicate (n + 4) 0).map bv)) := by rw [← made_zeros]; exact hown1
  clear hown1 hgrow1 hN N
  go_wp2
  go_loopw [4] (fun i wr => ∃ k : Nat, k ≤ n + 4 ∧ i = .int .i64 (k : Int) ∧ ∃ C : List Nat, Hid (C.length = n + 4 ∧ wr.ownsRow w.heap.size 5 1 (.slice (some ⟨w.heap.size, 0, none⟩) (n + 4) (n + 4)) (n + 4) (C.map bv) ∧ (∀ j, j < k → C[j]? = (tw l)[j]?) ∧ Below w.heap.size w wr)) (fun i _ => n + 4 - (intOf i).toNat)
  case atStart => exact ⟨0, Nat.zero_le _, rfl, List.replicate (n + 4) 0, by simp, HO1.out, fun j hj => by omega, HB1.out⟩
  case round =>
    obtain ⟨k, hk, rfl, C, HCC⟩ := hrel
    by_cases hlt : k < n + 4
    · have hC := HCC.out.1
      have ho := HCC.out.2.1
      have hkz : (k : Int) < (n : Int) + 4 := by omega
      have hkz2 : (k : Int) < ((n + 4 : Nat) : Int) := by omega
      have hc0 : wr.cell? ⟨w.heap.size, k, none⟩ = some (.int .u8 ((C[k]?.getD 0 : Nat) : Int)) := by
        rw [ho.cellAt k (by omega)]; simp [bv, hC, hlt]
      have hf0 := ho.frozenAt k
      obtain ⟨hs1, hg1⟩ := ho.stored k (bv 171)
      have hc1 : (wr.setCell ⟨w.heap.size, k, none⟩ (.int .u8 171)).cell? ⟨w.heap.size, k, none⟩ = some (.int .u8 171) := by
        have := hs1.cellAt k (by omega)
        rw [show (Value.int .u8 171) = bv 171 from rfl, this]; simp [hC, hlt]
      have hf1 : (wr.setCell ⟨w.heap.size, k, none⟩ (.int .u8 171)).frozen? ⟨w.heap.size, k, none⟩ = false := hs1.frozenAt k
      have hb1 : Below w.heap.size w (wr.setCell ⟨w.heap.size, k, none⟩ (.int .u8 171)) := HCC.out.2.2.2.grown hg1 HCC.out.2.2.2.size (fun g hg => by simp at hg; omega)
      have hs1' : (wr.setCell ⟨w.heap.size, k, none⟩ (.int .u8 171)).ownsRow w.heap.size 5 1 (.slice (some ⟨w.heap.size, 0, none⟩) (n + 4) (n + 4)) (n + 4) ((C.set k 171).map bv) := by rw [List.map_set]; exact hs1
      by_cases hkn : k < n
      · obtain ⟨b, off, rfl, hrow⟩ := HR.out.at_ (by rintro rfl; have := HN.out; simp at this; omega)
        have hx := hrow k (by rw [HN.out]; exact hkn)
        have hxw : (wr.setCell ⟨w.heap.size, k, none⟩ (.int .u8 171)).cell? ⟨b, off + k, none⟩ = some (.int .u8 ((l[k]?.getD 0 : Nat) : Int)) := by
          rw [cell_later hb1 hx]; simp [bv, show k < l.length by rw [HN.out]; exact hkn]
        have hkn2 : (k : Int) < (n : Int) := by omega
        obtain ⟨hs2, hg2⟩ := hs1'.stored k (bv (l[k]?.getD 0))
        have H2 : Hid ((C.set k (l[k]?.getD 0)).length = n + 4 ∧ ((wr.setCell ⟨w.heap.size, k, none⟩ (.int .u8 171)).setCell ⟨w.heap.size, k, none⟩ (.int .u8 ((l[k]?.getD 0 : Nat) : Int))).ownsRow w.heap.size 5 1 (.slice (some ⟨w.heap.size, 0, none⟩) (n + 4) (n + 4)) (n + 4) ((C.set k (l[k]?.getD 0)).map bv) ∧ (∀ j, j < k + 1 → (C.set k (l[k]?.getD 0))[j]? = (tw l)[j]?) ∧ Below w.heap.size w ((wr.setCell ⟨w.heap.size, k, none⟩ (.int .u8 171)).setCell ⟨w.heap.size, k, none⟩ (.int .u8 ((l[k]?.getD 0 : Nat) : Int)))) := by
          refine ⟨by simp [hC], ?_, fun j hj => ?_, hb1.grown hg2 hb1.size (fun g hg => by simp at hg; omega)⟩
          · have := hs2
            rw [← List.map_set, List.set_set] at this
            exact this
          · by_cases e : j = k
            · subst e
              rw [List.getElem?_set_self (by omega), tw, List.getElem?_append_left (by rw [HN.out]; exact hkn)]
              simp [show j < l.length by rw [HN.out]; exact hkn]
            · rw [List.getElem?_set_ne (by omega)]
              exact HCC.out.2.2.1 j (by omega)
        clear hs1 hg1 hb1 hs1' hs2 hg2 hrow hx ho HCC
        generalize l[k]?.getD 0 = x at *
        go_wp2
        go_roundw
        case rel => exact ⟨k + 1, by omega, by go_num, _, H2⟩
        case measure => simp [intOf]; omega
      · have hkn2 : ¬ ((k : Int) < (n : Int)) := by omega
        have hkn3 : decide ((k : Int) < (n : Int)) = false := by simp; omega
        have H2 : Hid ((C.set k 171).length = n + 4 ∧ (wr.setCell ⟨w.heap.size, k, none⟩ (.int .u8 171)).ownsRow w.heap.size 5 1 (.slice (some ⟨w.heap.size, 0, none⟩) (n + 4) (n + 4)) (n + 4) ((C.set k 171).map bv) ∧ (∀ j, j < k + 1 → (C.set k 171)[j]? = (tw l)[j]?) ∧ Below w.heap.size w (wr.setCell ⟨w.heap.size, k, none⟩ (.int .u8 171))) := by
          refine ⟨by simp [hC], hs1', fun j hj => ?_, hb1⟩
          by_cases e : j = k
          · subst e
            have hl := HN.out
            rw [List.getElem?_set_self (by omega), tw, List.getElem?_append_right (by omega), List.getElem?_replicate, if_pos (by omega)]
          · rw [List.getElem?_set_ne (by omega)]
            exact HCC.out.2.2.1 j (by omega)
        clear hs1 hg1 hb1 hs1' ho HCC
        go_wp2
        go_roundw
        case rel => exact ⟨k + 1, by omega, by go_num, _, H2⟩
        case measure => simp [intOf]; omega
    · obtain rfl : k = n + 4 := by omega
      have HF : Hid (wr.heap[w.heap.size]? = some (.cells ((tw l).map bv).toArray 5 (0, 0)) ∧ Below w.heap.size w wr) := by
        obtain ⟨hC, ho, hj, hb⟩ := HCC.out
        have e : C = tw l := by
          apply List.ext_getElem?
          intro j
          by_cases h : j < n + 4
          · exact hj j h
          · rw [List.getElem?_eq_none (by omega), List.getElem?_eq_none (by rw [tw_len, HN.out]; omega)]
        subst e
        exact ⟨own_block ho (by rw [List.length_map]; exact hC), hb⟩
      clear HCC
      have hd : ¬ (((n + 4 : Nat) : Int) < (n : Int) + 4) := by omega
      go_wp2
      go_ret
      exact ⟨rfl, HF.out.1, HF.out.2⟩
theorem twin_brow {W : World} {g : Nat} {l : List Nat} (h : W.heap[g]? = some (.cells ((tw l).map bv).toArray 5 (0, 0))) (hlt : ∀ x ∈ l, x < 256) (hlen : l.length ≤ 140737488351232) (cap : Nat) : BRow W (some ⟨g, 0, none⟩) cap l := by
  refine ⟨hlt, hlen, fun h => by simp at h, fun _ => ⟨g, 0, rfl, fun k hk => ?_⟩⟩
  rw [Nat.zero_add, blk_cell h, List.getElem?_map, tw, List.getElem?_append_left hk, List.getElem?_eq_getElem hk]; rfl
end Go.Proofs.YtfifaaopdhcaaaaGreatDoor

namespace Go.Proofs.YtfifaaopdhcaaaaGreatDoor
open Go.RowKit
set_option linter.unusedVariables false
set_option linter.unusedSimpArgs false
set_option maxRecDepth 100000

set_option maxHeartbeats 4000000 in
theorem kept_any (g : Nat) (ao : Option Addr) (cap n : Nat) (l : List Nat) (W : World) (hblk : W.heap[g]? = some (.cells ((tw l).map bv).toArray 5 (0, 0))) (h : BRow W ao cap l) (HN : Hid (l.length = n)) (hn : n ≤ 1099511627776) :
    Calls Tryz.prog 29 #[.slice (some ⟨g, 0, none⟩) n (n + 4), .slice ao n cap] W fun e w' => e = .returned (.bool true) ∧ Below W.heap.size W w' := by
  have HC : Hid (∀ k, k < n → W.cell? ⟨g, k, none⟩ = some (.int .u8 ((l[k]?.getD 0 : Nat) : Int)) ∧ ∃ b off, ao = some ⟨b, off, none⟩ ∧ W.cell? ⟨b, off + k, none⟩ = some (.int .u8 ((l[k]?.getD 0 : Nat) : Int))) := fun k hk => by
    have hl := HN.out
    have hkl : k < l.length := by omega
    refine ⟨?_, ?_⟩
    · rw [blk_cell hblk, List.getElem?_map, tw, List.getElem?_append_left hkl]; simp [bv, hkl]
    · obtain ⟨b, off, e, hc⟩ := h.at_ (by rintro rfl; simp at hkl)
      exact ⟨b, off, e, by rw [hc k hkl]; simp [bv, hkl]⟩
  have HM : Hid (∀ k, n ≤ k → k < n + 4 → W.cell? ⟨g, k, none⟩ = some (.int .u8 171)) := fun k h1 h2 => by
    have hl := HN.out
    rw [blk_cell hblk, List.getElem?_map, tw, List.getElem?_append_right (by omega), List.getElem?_replicate, if_pos (by omega)]; rfl
  have hw4 : IntKind.i64.wrap ((n : Int) + 4) = (n : Int) + 4 := by rw [IntKind.wrap_i64]; omega
  have hc4 : ((n + 4 : Nat) : Int) = (n : Int) + 4 := by omega
  clear hblk h
  go_enter Tryz.func29, Tryz.ntmps29
  go_wp2
  go_loopw [6] (fun i wr => ∃ k q : Nat, k ≤ n + 4 ∧ i = .int .i64 (k : Int) ∧ wr = W.drewN q) (fun i _ => n + 4 - (intOf i).toNat)
  case atStart => exact ⟨0, 0, Nat.zero_le _, rfl, rfl⟩
  case round =>
    obtain ⟨k, q, hk, rfl, rfl⟩ := hrel
    by_cases hlt : k < n + 4
    · have hkz : (k : Int) < (n : Int) + 4 := by omega
      have hkz2 : (k : Int) < ((n + 4 : Nat) : Int) := by omega
      by_cases hkn : k < n
      · obtain ⟨z0, b, off, rfl, z1⟩ := HC.out k hkn
        have h1 : (k : Int) < (n : Int) := by omega
        have h2 : decide ((n : Int) ≤ (k : Int)) = false := by simp; omega
        have h3 : ¬ ((n : Int) ≤ (k : Int)) := by omega
        have h4 : decide ((k : Int) < (n : Int)) = true := by simp; omega
        have h5 : decide (n ≤ k) = false := by simp; omega
        generalize l[k]?.getD 0 = x at *
        go_wp2
        go_quiet (fail)
        go_wp2
        go_roundw
        case rel => exact ⟨k + 1, q + nq, by omega, by go_num, by first | rfl | rw [World.drewN_drewN]⟩
        case measure => simp [intOf]; omega
      · have z0 := HM.out k (by omega) hlt
        have h1 : decide ((k : Int) < (n : Int)) = false := by simp; omega
        have h2 : (n : Int) ≤ (k : Int) := by omega
        go_wp2
        go_quiet (fail)
        go_wp2
        go_roundw
        case rel => exact ⟨k + 1, q + nq, by omega, by go_num, by first | rfl | rw [World.drewN_drewN]⟩
        case measure => simp [intOf]; omega
    · obtain rfl : k = n + 4 := by omega
      have hd : ¬ (((n + 4 : Nat) : Int) < (n : Int) + 4) := by omega
      go_wp2
      go_ret
      exact ⟨rfl, ⟨rfl, rfl, rfl, Nat.le_refl _, fun _ _ => rfl⟩⟩
end Go.Proofs.YtfifaaopdhcaaaaGreatDoor

namespace Go.Proofs.YtfifaaopdhcaaaaGreatDoor
open Go.RowKit
set_option linter.unusedVariables false
set_option linter.unusedSimpArgs false
set_option maxRecDepth 100000
theorem below_step {w a : World} (h : Below w.heap.size w a) : Below w.heap.size w a.drew := h.trans ((below_drewN a 1).mono h.size)
set_option maxHeartbeats 1000000 in
theorem kinds16_eq (a b : Option Addr) (n ca cb : Nat) (ks : List Nat) (w : World) (ha : U16s w a ks) (hb : U16s w b ks) (hl : ks.length = n) (hn : n ≤ 1048576) :
    Calls Tryz.prog 11 #[.slice a n ca, .slice b n cb] w fun e w' => e = .returned (.bool true) ∧ Below w.heap.size w w' := by
  have HA : Hid (U16s w a ks) := ha
  have HB : Hid (U16s w b ks) := hb
  have HL : Hid (ks.length = n) := hl
  clear ha hb hl
  go_enter Tryz.func11, Tryz.ntmps11
  go_wp2_with fail
  go_loopw [5] (fun iv wr => ∃ (j : Nat), j ≤ n ∧ iv = .int .i64 (j : Nat) ∧ Hid (Below w.heap.size w wr)) (fun iv _ => n - (intOf iv).toNat)
  case atStart => exact ⟨0, Nat.zero_le _, rfl, Below.refl _ _⟩
  case round =>
    obtain ⟨j, hj, rfl, HB0⟩ := hrel
    by_cases hlt : j < n
    · have hne : ks ≠ [] := by rintro rfl; have := HL.out; simp at this; omega
      have hjl : j < ks.length := by rw [HL.out]; exact hlt
      obtain ⟨b1, o1, rfl, hr1⟩ := (HA.out.later HB0.out).at_ hne
      obtain ⟨b2, o2, rfl, hr2⟩ := (HB.out.later HB0.out).at_ hne
      have c1 := hr1 j hjl
      have c2 := hr2 j hjl
      generalize ks[j] = v at c1 c2
      clear hr1 hr2 hne hjl
      go_wp2
      go_region
      go_wp2
      go_roundw
      case rel => exact ⟨j + 1, by omega, by go_num, below_step HB0.out⟩
      case measure => simp [intOf]; omega
    · go_wp2
      go_ret
      exact ⟨rfl, HB0.out⟩
set_option maxHeartbeats 1000000 in
theorem texts_eq (a b : Option Addr) (n ca cb : Nat) (ks : List ByteArray) (w : World) (ha : Strs w a ks) (hb : Strs w b ks) (hl : ks.length = n) (hn : n ≤ 1048576) :
    Calls Tryz.prog 14 #[.slice a n ca, .slice b n cb] w fun e w' => e = .returned (.bool true) ∧ Below w.heap.size w w' := by
  have HA : Hid (Strs w a ks) := ha
  have HB : Hid (Strs w b ks) := hb
  have HL : Hid (ks.length = n) := hl
  clear ha hb hl
  go_enter Tryz.func14, Tryz.ntmps14
  go_wp2_with fail
  go_loopw [5] (fun iv wr => ∃ (j : Nat), j ≤ n ∧ iv = .int .i64 (j : Nat) ∧ Hid (Below w.heap.size w wr)) (fun iv _ => n - (intOf iv).toNat)
  case atStart => exact ⟨0, Nat.zero_le _, rfl, Below.refl _ _⟩
  case round =>
    obtain ⟨j, hj, rfl, HB0⟩ := hrel
    by_cases hlt : j < n
    · have hne : ks ≠ [] := by rintro rfl; have := HL.out; simp at this; omega
      have hjl : j < ks.length := by rw [HL.out]; exact hlt
      obtain ⟨b1, o1, rfl, hr1⟩ := (HA.out.later HB0.out).at_ hne
      obtain ⟨b2, o2, rfl, hr2⟩ := (HB.out.later HB0.out).at_ hne
      have c1 := hr1 j hjl
      have c2 := hr2 j hjl
      generalize ks[j] = v at c1 c2
      clear hr1 hr2 hne hjl
      go_wp2
      go_region
      go_wp2
      go_roundw
      case rel => exact ⟨j + 1, by omega, by go_num, below_step HB0.out⟩
      case measure => simp [intOf]; omega
    · go_wp2
      go_ret
      exact ⟨rfl, HB0.out⟩
set_option maxHeartbeats 1000000 in
theorem runs_eq (a b : Option Addr) (n ca cb : Nat) (ks : List (Nat × Nat)) (w : World) (ha : Runs w a ks) (hb : Runs w b ks) (hl : ks.length = n) (hn : n ≤ 1048576) :
    Calls Tryz.prog 22 #[.slice a n ca, .slice b n cb] w fun e w' => e = .returned (.bool true) ∧ Below w.heap.size w w' := by
  have HA : Hid (Runs w a ks) := ha
  have HB : Hid (Runs w b ks) := hb
  have HL : Hid (ks.length = n) := hl
  clear ha hb hl
  go_enter Tryz.func22, Tryz.ntmps22
  go_wp2_with fail
  go_loopw [5] (fun iv wr => ∃ (j : Nat), j ≤ n ∧ iv = .int .i64 (j : Nat) ∧ Hid (Below w.heap.size w wr)) (fun iv _ => n - (intOf iv).toNat)
  case atStart => exact ⟨0, Nat.zero_le _, rfl, Below.refl _ _⟩
  case round =>
    obtain ⟨j, hj, rfl, HB0⟩ := hrel
    by_cases hlt : j < n
    · have hne : ks ≠ [] := by rintro rfl; have := HL.out; simp at this; omega
      have hjl : j < ks.length := by rw [HL.out]; exact hlt
      obtain ⟨b1, o1, rfl, hr1⟩ := (HA.out.later HB0.out).at_ hne
      obtain ⟨b2, o2, rfl, hr2⟩ := (HB.out.later HB0.out).at_ hne
      obtain ⟨c1, d1⟩ := hr1 j hjl
      obtain ⟨c2, d2⟩ := hr2 j hjl
      generalize ks[j] = v at c1 c2 d1 d2
      clear hr1 hr2 hne hjl
      go_wp2
      go_region
      go_wp2
      go_roundw
      case rel => exact ⟨j + 1, by omega, by go_num, below_step HB0.out⟩
      case measure => simp [intOf]; omega
    · go_wp2
      go_ret
      exact ⟨rfl, HB0.out⟩
end Go.Proofs.YtfifaaopdhcaaaaGreatDoor

namespace Go.Proofs.YtfifaaopdhcaaaaGreatDoor
open Go.RowKit
set_option linter.unusedVariables false
set_option linter.unusedSimpArgs false
set_option maxRecDepth 100000
set_option maxHeartbeats 8000000 in
theorem decOption_ok (b off cap n : Nat) (l : List Nat) (most : Nat) (c k : Nat) (w : World) (h : CRow w (some ⟨b, off, none⟩) cap l) (HN : Hid (l.length = n)) (hs : 16 ≤ n) (HX : Hid (valB ((l.drop 0).take 8) = mHave)) (HX1 : Hid (valB ((l.drop 8).take 4) = c)) (HX2 : Hid (valB ((l.drop 12).take 4) = k)) (hc4 : c < 4294967296) (hk4 : k < 4294967296) (hm4 : most < 4294967296) (hle : k ≤ most) (hfit : k ≤ n - 16) (N : Nat) (hN : 16 + k = N) (m : List Nat) (hm : (l.drop 16).take k = m) :
    Calls Tryz.prog 59 #[.slice (some ⟨b, off, none⟩) n cap, .int .u32 (most : Int)] w fun e w' => ∃ ao2 cap2, e = .returned (.tuple #[.agg #[.int .u32 (c : Int), .int .u32 (k : Int), .bool false, .slice ao2 k cap2], .int .i64 (N : Int), .int .i64 0]) ∧ w'.ownsRow w.heap.size 5 1 (.slice ao2 k cap2) k (m.map bv) ∧ Below w.heap.size w w' := by
  have hnl := h.row.len
  rw [HN.out] at hnl
  have hsl : 16 ≤ l.length := by rw [HN.out]; exact hs
  have HC : Hid (CRow w (some ⟨b, off, none⟩) cap l) := h
  obtain ⟨W0, hW0⟩ : ∃ W0, W0 = (((w.alloc (.cells #[.int .u32 0, .int .u32 0, .bool false, nilV] 125)).alloc (.cells #[.int .u32 0, .int .u32 0, .bool false, nilV] 125)).alloc (.cells #[.int .u32 0, .int .u32 0, .bool false, nilV] 125)) := ⟨_, rfl⟩
  have HO : Hid (Calls Tryz.prog 82 #[.slice (some ⟨b, off, none⟩) n cap, .int .i64 16] W0 fun e W' => ∃ r hh ao' cap' a2 c2, e = .returned (.pointer (some ⟨r, 0, none⟩)) ∧ Dec w W' (bx3 w 125 #[.int .u32 0, .int .u32 0, .bool false, nilV] #[.int .u32 0, .int .u32 0, .bool false, nilV] #[.int .u32 0, .int .u32 0, .bool false, nilV]) W0.heap.size r hh ao' cap' (l.take 16) 0 (.slice (some a2) (n - 16) c2) 0 16 0 ∧ n - 16 ≤ c2 ∧ c2 ≤ 9223372036854775807 ∧ (n - 16 ≠ 0 → a2 = ⟨b, off + 16, none⟩)) := by
    rw [hW0]; exact open_ok b off cap n 16 l (bx3_bel w _ _ _) (bx3_new w _ _ _ _) (bx3_nd w _ _ _ _) (h.later (bx3_bel w _ _ _)) HN hs (by decide) (by decide)
  clear h
  go_enter Tryz.func59, Tryz.ntmps59
  go_wp2
  refine wp_scope_jumps 0 (fun _ _ => False) (fun _ _ => 0) rfl ?first ?pass
  case first =>
    go_wp2_with fail
    rw [← hW0]
    clear hW0
    refine HO.out.mono ?_
    rintro e W1 ⟨r, hh, ao', cap', a2, c2, rfl, h1, hc1, hc2, ha2⟩
    have H1 : Hid _ := h1
    have HA : Hid _ := ha2
    clear h1 HO ha2
    go_wp2_with fail
    refine (rx_u64 H1.out mHave HX.out (by decide) hsl).mono ?_
    rintro e W2 ⟨rfl, hx⟩
    have H2 : Hid _ := hx
    clear hx H1
    go_wp2_with fail
    refine (magic_ok H2.out mHave).mono ?_
    rintro e W3 ⟨rfl, hx⟩
    have H3 : Hid _ := hx
    clear hx H2
    go_wp2_with fail
    refine (rx_u32 H3.out c HX1.out (by decide) hsl).mono ?_
    rintro e W4 ⟨rfl, hx⟩
    have H4 : Hid _ := hx
    clear hx H3
    go_wp2_with fail
    refine (rx_u32 H4.out k HX2.out (by decide) hsl).mono ?_
    rintro e W5 ⟨rfl, hx⟩
    have H5 : Hid _ := hx
    clear hx H4
    obtain ⟨s0, u0⟩ := H5.out.b (.tail _ (.tail _ (.head _))) 0
    simp at s0
    obtain ⟨s1, u1⟩ := H5.out.b (.tail _ (.tail _ (.head _))) 1
    simp at s1
    go_wp2_with fail
    replace H5 : Hid _ := H5.out.putS 0 (.int .u32 (c : Int)) #[.int .u32 (c : Int), .int .u32 0, .bool false, nilV] rfl
    replace H5 : Hid _ := H5.out.putS 1 (.int .u32 (k : Int)) #[.int .u32 (c : Int), .int .u32 (k : Int), .bool false, nilV] rfl
    refine (measure_rest H5.out (by decide) (by omega) k most hm4 hle N hN).mono ?_
    rintro e W6 hx
    have HX9 : Hid _ := hx
    clear hx H5 s0 u0 s1 u1
    rcases HX9.out with ⟨hx, _⟩ | ⟨_, rfl, hx⟩
    · omega
    have H6 : Hid _ := hx
    clear hx HX9
    have r4 := H6.out.lb.ce
    have hml : m.length = k := by rw [← hm, List.length_take, List.length_drop, HN.out]; omega
    have hmt : ∀ x ∈ m, x < 256 := fun x hx => HC.out.row.lt x (by rw [← hm] at hx; exact List.mem_of_mem_drop (List.mem_of_mem_take hx))
    have HDt : Hid (∀ q, Calls Tryz.prog 87 #[.pointer (some ⟨r, 0, none⟩)] (W6.drewN q) fun e W' => ∃ ao2 cap2, e = .returned (.slice ao2 k cap2) ∧ W'.ownsRow W6.heap.size 5 1 (.slice ao2 k cap2) k (m.map bv) ∧ Below W6.heap.size (W6.drewN q) W' ∧ Dec w W' (bx3 w 125 #[.int .u32 0, .int .u32 0, .bool false, nilV] #[.int .u32 0, .int .u32 0, .bool false, nilV] #[.int .u32 (c : Int), .int .u32 (k : Int), .bool false, nilV]) W0.heap.size r hh ao' cap' (l.take 16) (0 + 8 + 4 + 4) (.slice (some a2) (n - 16) c2) ((k : Nat) : Int) (N : Int) 0) := fun q => data_any (len := k) (H6.out.drewN q) m hml hmt (by rw [← hm]; exact tail_news HC.out (H6.out.drewN q).bel (by rw [HN.out]; exact HA.out)) (by omega) hc1 (by omega) hc2
    have HB : Hid (w.heap.size + 1 + 1 < W6.heap.size) := by show _ < _; have h1 := block_lt H6.out.rd; have h2 := H6.out.hr; have h3 : w.heap.size + 1 + 1 < _ := (H6.out.box _ (.tail _ (.tail _ (.head _)))).2.2; omega
    obtain ⟨s2, u2⟩ := H6.out.b (.tail _ (.tail _ (.head _))) 2
    simp at s2
    obtain ⟨s3, u3⟩ := H6.out.b (.tail _ (.tail _ (.head _))) 3
    simp at s3
    clear H6 HX HX1 HX2 HN HC hml hmt HA
    go_wp2
    go_region_with (go_at_call 87; refine (HDt.out _).mono ?_; rintro e W7 ⟨ao2, cap2, rfl, ho, hb, h9⟩; have H7 : Hid _ := h9; have HR : Hid (W7.ownsRow W6.heap.size 5 1 (.slice ao2 k cap2) k (m.map bv)) := ho; clear h9 ho hb; have r4' := H7.out.lb.ce; obtain ⟨q2, w2⟩ := H7.out.b (.tail _ (.tail _ (.head _))) 2; obtain ⟨q3, w3⟩ := H7.out.b (.tail _ (.tail _ (.head _))) 3; simp at q2 q3)
    all_goals
      clear s2 u2 s3 u3 r4 r4' q2 w2 q3 w3
      obtain ⟨c10, f10⟩ := H7.out.b (.tail _ (.head _)) 0
      obtain ⟨c20, f20⟩ := H7.out.b (.tail _ (.tail _ (.head _))) 0
      obtain ⟨c11, f11⟩ := H7.out.b (.tail _ (.head _)) 1
      obtain ⟨c21, f21⟩ := H7.out.b (.tail _ (.tail _ (.head _))) 1
      obtain ⟨c12, f12⟩ := H7.out.b (.tail _ (.head _)) 2
      obtain ⟨c22, f22⟩ := H7.out.b (.tail _ (.tail _ (.head _))) 2
      obtain ⟨c13, f13⟩ := H7.out.b (.tail _ (.head _)) 3
      obtain ⟨c23, f23⟩ := H7.out.b (.tail _ (.tail _ (.head _))) 3
      simp at c10 c20 c11 c21 c12 c22 c13 c23
      go_wp2
      go_step3
      have HF : Hid _ := ((((((H7.out.putS 2 (.bool false) #[.int .u32 (c : Int), .int .u32 (k : Int), .bool false, nilV] rfl).putS 3 (.slice ao2 k cap2) #[.int .u32 (c : Int), .int .u32 (k : Int), .bool false, .slice ao2 k cap2] rfl).putO 0 (.int .u32 (c : Int)) #[.int .u32 (c : Int), .int .u32 0, .bool false, nilV] rfl).putO 1 (.int .u32 (k : Int)) #[.int .u32 (c : Int), .int .u32 (k : Int), .bool false, nilV] rfl).putO 2 (.bool false) #[.int .u32 (c : Int), .int .u32 (k : Int), .bool false, nilV] rfl).putO 3 (.slice ao2 k cap2) #[.int .u32 (c : Int), .int .u32 (k : Int), .bool false, .slice ao2 k cap2] rfl)
      have HW : Hid ((((((((W7.setCell ⟨w.heap.size + 1 + 1, 2, none⟩ (.bool false)).setCell ⟨w.heap.size + 1 + 1, 3, none⟩ (.slice ao2 k cap2)).setCell ⟨w.heap.size + 1, 0, none⟩ (.int .u32 (c : Int))).setCell ⟨w.heap.size + 1, 1, none⟩ (.int .u32 (k : Int))).setCell ⟨w.heap.size + 1, 2, none⟩ (.bool false)).setCell ⟨w.heap.size + 1, 3, none⟩ (.slice ao2 k cap2))).ownsRow W6.heap.size 5 1 (.slice ao2 k cap2) k (m.map bv)) := setAll_owns [(w.heap.size + 1 + 1, 2, .bool false), (w.heap.size + 1 + 1, 3, .slice ao2 k cap2), (w.heap.size + 1, 0, .int .u32 (c : Int)), (w.heap.size + 1, 1, .int .u32 (k : Int)), (w.heap.size + 1, 2, .bool false), (w.heap.size + 1, 3, .slice ao2 k cap2)] W7 HR.out (by have := HB.out; simp; omega)
      clear HR H7 c10 f10 c20 f20 c11 f11 c21 f21 c12 f12 c22 f22 c13 f13 c23 f23
      generalize ((((((W7.setCell ⟨w.heap.size + 1 + 1, 2, none⟩ (.bool false)).setCell ⟨w.heap.size + 1 + 1, 3, none⟩ (.slice ao2 k cap2)).setCell ⟨w.heap.size + 1, 0, none⟩ (.int .u32 (c : Int))).setCell ⟨w.heap.size + 1, 1, none⟩ (.int .u32 (k : Int))).setCell ⟨w.heap.size + 1, 2, none⟩ (.bool false)).setCell ⟨w.heap.size + 1, 3, none⟩ (.slice ao2 k cap2)) = Wx at *
      have hn1 : ¬ (w.heap.size = r) := (HF.out.lb.box _ (.head _)).2.2
      have hn2 : ¬ (r = w.heap.size) := fun e => hn1 e.symm
      have r3 := HF.out.lb.cn
      have r4 := HF.out.lb.ce
      obtain ⟨c00, f00⟩ := HF.out.b (.head _) 0
      obtain ⟨c10, f10⟩ := HF.out.b (.tail _ (.head _)) 0
      obtain ⟨c01, f01⟩ := HF.out.b (.head _) 1
      obtain ⟨c11, f11⟩ := HF.out.b (.tail _ (.head _)) 1
      obtain ⟨c02, f02⟩ := HF.out.b (.head _) 2
      obtain ⟨c12, f12⟩ := HF.out.b (.tail _ (.head _)) 2
      obtain ⟨c03, f03⟩ := HF.out.b (.head _) 3
      obtain ⟨c13, f13⟩ := HF.out.b (.tail _ (.head _)) 3
      simp at c00 c10 c01 c11 c02 c12 c03 c13
      go_wp2
      go_region
      all_goals
        go_wp2
        rw [jump_ret]
        have HW2 := setAll_owns [(w.heap.size, 0, .int .u32 (c : Int)), (w.heap.size, 1, .int .u32 (k : Int)), (w.heap.size, 2, .bool false), (w.heap.size, 3, .slice ao2 k cap2)] Wx HW.out (by have := HB.out; simp; omega)
        have HB2 := below_drew (setAll_below [(w.heap.size, 0, .int .u32 (c : Int)), (w.heap.size, 1, .int .u32 (k : Int)), (w.heap.size, 2, .bool false), (w.heap.size, 3, .slice ao2 k cap2)] Wx HF.out.bel (by simp))
        exact bodyPost_ret (results_cell_tmp2 rfl _ _ w.heap.size 125 #[.int .u32 (c : Int), .int .u32 (k : Int), .bool false, .slice ao2 k cap2] (0, 0) _ rfl (put_box (put_box (put_box (put_box (HF.out.box _ (.head _)).1 0 (.int .u32 (c : Int)) rfl) 1 (.int .u32 (k : Int)) rfl) 2 (.bool false) rfl) 3 (.slice ao2 k cap2) rfl) Tryz.underlying125 rfl infoOpt) rfl ⟨_, _, rfl, owns_mono HW2 (by have := HB.out; omega), HB2⟩
  case pass =>
    rintro a W hf
    exact hf.elim
end Go.Proofs.YtfifaaopdhcaaaaGreatDoor

namespace Go.Proofs.YtfifaaopdhcaaaaGreatDoor
open Go.RowKit
set_option linter.unusedVariables false
set_option linter.unusedSimpArgs false
set_option maxRecDepth 100000

set_option maxHeartbeats 400000 in
theorem num_any (e : Int) (w : World) : Calls Tryz.prog 7 #[.int .i64 e] w fun r w' => r = .returned (.int .i64 e) ∧ w' = w := by
  go_enter Tryz.func7, Tryz.ntmps7
  go_wp2
  go_ret
  exact ⟨rfl, rfl⟩
theorem oL3_len : (oL 3 []).length = 16 := by decide
theorem gL3_len : (gL 3).length = 18 := by decide
theorem brow_nil (w : World) : BRow w none 0 [] := ⟨by simp, by simp, fun _ => ⟨rfl, rfl⟩, fun h => absurd rfl h⟩
set_option maxHeartbeats 4000000 in
theorem alive_any (w : World) (hT : Tb w) : Calls Tryz.prog 30 #[] w fun e w' => e = .returned (.bool true) ∧ Below w.heap.size w w' := by
  have HE : Hid (Calls Tryz.prog 58 #[.agg #[.int .u32 3, .int .u32 0, .bool false, .slice none 0 0]] w fun e w' => ∃ ao cap, e = .returned (.tuple #[.slice ao 16 cap, .int .i64 0]) ∧ Row w w' ao cap (oL 3 [])) := by
    have := encOption 3 none 0 [] w (by decide) (brow_nil w) (by simp) (by simp)
    rw [oL3_len] at this
    exact this
  have HTb : Hid (Tb w) := hT
  have HNum : Hid (∀ (e : Int) (w : World), Calls Tryz.prog 7 #[.int .i64 e] w fun r w' => r = .returned (.int .i64 e) ∧ w' = w) := num_any
  clear hT
  go_enter Tryz.func30, Tryz.ntmps30
  go_wp2_with fail
  refine HE.out.mono ?_
  rintro e w1 ⟨ao, cap, rfl, hr⟩
  have hc := hr.crow (by rw [oL3_len]; decide)
  have hb1 := hr.bel
  obtain ⟨b, off, rfl⟩ := hc.some (by rw [oL3_len]; decide)
  have HD : Hid (Calls Tryz.prog 59 #[.slice (some ⟨b, off, none⟩) 16 cap, .int .u32 0] w1 fun e w' => ∃ ao2 cap2, e = .returned (.tuple #[.agg #[.int .u32 3, .int .u32 0, .bool false, .slice ao2 0 cap2], .int .i64 16, .int .i64 0]) ∧ Below w1.heap.size w1 w') :=
    (decOption_ok b off cap 16 (oL 3 []) 0 3 0 w1 hc oL3_len (by decide) (by show valB _ = _; decide) (by show valB _ = _; decide) (by show valB _ = _; decide) (by decide) (by decide) (by decide) (by decide) (by decide) 16 rfl [] (by simp)).mono fun e w' ⟨ao2, cap2, he, _, hb⟩ => ⟨ao2, cap2, he, hb⟩
  have HB1 : Hid (Below w.heap.size w w1) := hb1
  clear hr hc hb1 HE
  go_wp2_with fail
  refine HD.out.mono ?_
  rintro e w2 ⟨ao2, cap2, rfl, hb⟩
  have HB2 : Hid (Below w.heap.size w w2) := HB1.out.trans (hb.mono HB1.out.size)
  clear hb HD HB1
  go_wp2_with (first | (go_at_call 7; refine (HNum.out _ _).mono ?_; rintro e w9 ⟨rfl, rfl⟩))
  obtain ⟨W3, hW3⟩ : ∃ W3, W3 = w2.alloc (.cells #[.int .u32 3, .int .u32 0, .bool false, .slice ao2 0 cap2] 125) := ⟨_, rfl⟩
  have HB3 : Hid (Below w.heap.size w W3) := by rw [hW3]; exact HB2.out.alloc HB2.out.size _
  rw [← hW3]
  clear hW3
  have HG : Hid (Calls Tryz.prog 60 #[.agg #[.int .u16 3]] W3 fun e w' => ∃ ao cap, e = .returned (.slice ao 18 cap) ∧ Row W3 w' ao cap (gL 3)) := by
    have := encGreeting 3 W3 (by decide)
    rw [gL3_len] at this
    exact this
  refine HG.out.mono ?_
  rintro e w4 ⟨ao4, cap4, rfl, hr⟩
  have hb4 : Below w.heap.size w w4 := HB3.out.trans (hr.bel.mono HB3.out.size)
  have HN : Hid (Calls Tryz.prog 61 #[.int .i64 1, .int .u32 7] w4 fun e w' => e = .returned (.string ⟨#[103, 111]⟩) ∧ Below w4.heap.size w4 w') := by
    have := wname_any 1 7 w4 (HTb.out.later hb4)
    rw [show nameOf 1 7 = ⟨#[103, 111]⟩ by kernel_rfl] at this
    exact this
  have HB4 : Hid (Below w.heap.size w w4) := hb4
  clear hr hb4 HG HB3 HB2
  go_wp2_with fail
  refine HN.out.mono ?_
  rintro e w5 ⟨rfl, hb⟩
  have HB5 : Hid (Below w.heap.size w w5) := HB4.out.trans (hb.mono HB4.out.size)
  clear hb HN
  go_wp2
  go_ret
  exact ⟨rfl, HB5.out⟩
end Go.Proofs.YtfifaaopdhcaaaaGreatDoor
