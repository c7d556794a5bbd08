import Derived.Test.YtefgdhoapmikhaaDoorRpUh
import Derived.Test.YtefgdhoapmikhaaDoorRpQ
namespace Go.Proofs.YtefgdhoapmikhaaDoor
open Go.RowKit
set_option linter.unusedVariables false
set_option linter.unusedSimpArgs false
set_option maxRecDepth 100000
theorem Bd.keepD {w W W' : World} {c r : Nat} {ao : Option Addr} {cap : Nat} {l : List Nat} {at_ ge : Nat} {A : Array Value} (h : Bd w W c r ao cap l at_) (eb : W.heap[ge]? = some (.cells A 72 (0, 0))) (k : KeptIn (fun g => g = r) W W') : W'.heap[ge]? = some (.cells A 72 (0, 0)) := by
  rw [k.block ge (block_lt eb) (by rintro rfl; have := h.rd.blk; rw [eb] at this; simp at this)]
  exact eb
theorem Bd.putD {w W : World} {c r : Nat} {ao : Option Addr} {cap : Nat} {l : List Nat} {at_ ge : Nat} {A : Array Value} (h : Bd w W c r ao cap l at_) (eb : W.heap[ge]? = some (.cells A 72 (0, 0))) (hge : w.heap.size ≤ ge) (j : Nat) (v : Value) : Bd w (W.setCell ⟨ge, j, none⟩ v) c r ao cap l at_ := by
  have k := keptIn_set W ge j v
  have n1 : c ≠ ge := by rintro rfl; have := h.bd; rw [eb] at this; simp at this
  have n2 : r ≠ ge := by rintro rfl; have := h.rd.blk; rw [eb] at this; simp at this
  refine ⟨h.bel.trans (k.below h.bel.size (fun g hg e => by omega)), by rw [k.block c (block_lt h.bd) n1]; exact h.bd, h.hc, ⟨by rw [k.block r (block_lt h.rd.blk) n2]; exact h.rd.blk, owns_same h.rd.own (fun g hg => k.block g (owns_lt h.rd.own g hg).1 (fun e => ?_)), h.rd.lt, h.rd.len, h.rd.le, h.rd.hr⟩⟩
  obtain ⟨cur, h1⟩ := owns_type h.rd.own g hg
  rw [e, eb] at h1
  simp at h1
set_option maxHeartbeats 2000000 in
theorem unpackData (x n : Nat) (ao : Option Addr) (cap : Nat) (m : List Nat) (w : World) (h1 : x < 18446744073709551616) (hm : m.length = n) (hn : 0 < n) (h : BRow w ao cap (daL x m)) :
    Calls Tryd.prog 28 #[.slice ao (8 + n) cap] w fun e w' => ∃ da dc, e = .returned (.tuple #[.agg #[.int .u64 (x : Int), .slice da n dc], .int .i64 0]) ∧ Row w w' da dc m := by
  have hl : (daL x m).length = 8 + n := by simp [daL, bigTo_length, hm]
  have hle := h.len
  rw [hl] at hle
  have HV0 : Hid (valB (((daL x m).drop 0).take 8) = x) := val_of' (pre := []) (tl := m) x 8 0 (by simp [daL]) rfl (by omega)
  have HD : Hid (((daL x m).drop (0 + 8)).take n = m) := by
    show ((daL x m).drop (0 + 8)).take n = m
    have e : daL x m = bigTo x 8 8 ++ m := by simp [daL]
    rw [e, show 0 + 8 = (bigTo x 8 8).length by rw [bigTo_length], List.drop_left, ← hm, List.take_length]
  have HLt : Hid (∀ y ∈ m, y < 256) := fun y hy => h.lt y (by simp [daL, hy])
  generalize daL x m = l at *
  have HUp : Hid (∀ W, Below w.heap.size w W → Calls Tryd.prog 51 #[.slice ao (8 + n) cap] W fun e w' => ∃ c r ao' cap', e = .returned (.pointer (some ⟨c, 0, none⟩)) ∧ Bd W w' c r ao' cap' l 0) := fun W hb => unpack_any ao cap (8 + n) l W (h.later hb) hl
  have HL : Hid (l.length = 8 + n) := hl
  clear h hl
  generalize hN : 8 + n = nn at *
  have HNn : Hid (8 + n = nn) := hN
  clear hN
  go_enter Tryd.func28, Tryd.ntmps28
  go_wp2_with fail
  have hx := mkb1 w #[.int .u64 0, .slice none 0 0] 72
  generalize w.alloc (Obj.cells #[.int .u64 0, .slice none 0 0] 72) = W0 at *
  refine (HUp.out _ hx.bel).mono ?_
  rintro e W1 ⟨c, r, ao', cap', rfl, hbd⟩
  have HX : Hid (Bx1 w W0 #[.int .u64 0, .slice none 0 0] 72) := hx
  have H1 : Hid (Bd W0 W1 c r ao' cap' l 0) := hbd
  clear hx hbd HUp
  go_wp2_with fail
  refine (bu64 H1.out (by rw [HL.out, ← HNn.out]; omega)).mono ?_
  rintro e W2 ⟨rfl, hbd, _⟩
  rw [HV0.out]
  have H2 : Hid (Bd W0 W2 c r ao' cap' l (0 + 8)) := hbd
  clear hbd H1 HV0
  go_wp2_with fail
  have h3 : Bd W0 (W2.alloc (Obj.cells #[.int .u64 (x : Int), .slice none 0 0] 72)) c r ao' cap' l (0 + 8) := H2.out.later (below1 W2 _)
  have eb3 := heap_new W2 (Obj.cells #[.int .u64 (x : Int), .slice none 0 0] 72)
  have HG : Hid (W0.heap.size ≤ W2.heap.size) := H2.out.bel.size
  generalize W2.alloc (Obj.cells #[.int .u64 (x : Int), .slice none 0 0] 72) = W3 at *
  generalize W2.heap.size = ge at *
  have hz : (l.length : Int) - ((0 + 8 : Nat) : Int) = (n : Int) := by rw [HL.out, ← HNn.out]; omega
  refine (bleft h3).mono ?_
  rintro e W4 ⟨rfl, q, hw⟩
  rw [hz]
  have h4 : Bd W0 W4 c r ao' cap' l (0 + 8) ∧ W4.heap[ge]? = some (.cells #[.int .u64 (x : Int), .slice none 0 0] 72 (0, 0)) := by rw [hw]; exact ⟨h3.later (below_drewN _ q), eb3⟩
  clear h3 eb3 hw H2
  have f0 : decide ((0 : Int) < (n : Int)) = true := by simp; omega
  go_wp2_with fail
  refine (need_true c W4).mono ?_
  rintro e W5 ⟨rfl, hw⟩
  rw [hw]; clear hw
  go_wp2_with fail
  refine (bleft h4.1).mono ?_
  rintro e W6 ⟨rfl, q6, hw⟩
  rw [hz]
  have h6 : Bd W0 W6 c r ao' cap' l (0 + 8) ∧ W6.heap[ge]? = some (.cells #[.int .u64 (x : Int), .slice none 0 0] 72 (0, 0)) := by rw [hw]; exact ⟨h4.1.later (below_drewN _ q6), h4.2⟩
  have HGe : Hid (W0.heap.size ≤ ge) := HG.out
  clear hw h4
  go_wp2_with fail
  refine (braw h6.1 (by rw [HL.out, ← HNn.out]; omega) n (by rw [HL.out, ← HNn.out]; omega)).mono ?_
  rintro e W7 ⟨a7, c7, rfl, hb7, hk7, ho7⟩
  rw [HD.out] at ho7
  have eb7 := h6.1.keepD h6.2 hk7
  have H7 : Hid (Bd W0 W7 c r ao' cap' l l.length ∧ W7.heap[ge]? = some (.cells #[.int .u64 (x : Int), .slice none 0 0] 72 (0, 0)) ∧ W7.ownsRow W6.heap.size 5 1 (.slice a7 n c7) n (m.map bv)) := ⟨by have h9 := hb7; rw [show 0 + 8 + n = l.length by have h1 := HL.out; have h2 := HNn.out; omega] at h9; exact h9, eb7, ho7⟩
  have hg6 : ge < W6.heap.size := block_lt h6.2
  have hs6 : W0.heap.size ≤ W6.heap.size := h6.1.bel.size
  clear h6 hb7 hk7 ho7 eb7 f0 hz
  have y1 : W7.cell? ⟨ge, 1, none⟩ = some (.slice none 0 0) := by rw [blk_at H7.out.2.1]; rfl
  have f1 := blk_free H7.out.2.1 1
  have H8 : Hid (Bd W0 (W7.setCell ⟨ge, 1, none⟩ (.slice a7 n c7)) c r ao' cap' l l.length ∧ (W7.setCell ⟨ge, 1, none⟩ (.slice a7 n c7)).heap[ge]? = some (.cells #[.int .u64 (x : Int), .slice a7 n c7] 72 (0, 0)) ∧ (W7.setCell ⟨ge, 1, none⟩ (.slice a7 n c7)).ownsRow W6.heap.size 5 1 (.slice a7 n c7) n (m.map bv)) := ⟨H7.out.1.putD H7.out.2.1 HGe.out 1 _, put_boxX H7.out.2.1 1 _ (by simp), owns_sameK H7.out.2.2 (fun g hg => (keptIn_set W7 ge 1 _).block g (owns_ltK H7.out.2.2 g hg).1 (by have := (owns_ltK H7.out.2.2 g hg).2.1; omega))⟩
  obtain ⟨W8, hW8⟩ : ∃ W8, W8 = W7.setCell ⟨ge, 1, none⟩ (.slice a7 n c7) := ⟨_, rfl⟩
  rw [← hW8] at H8
  have k0 : (W7.setCell ⟨ge, 1, none⟩ (.slice a7 n c7)).cell? ⟨ge, 0, none⟩ = some (.int .u64 (x : Int)) := by rw [← hW8, blk_at H8.out.2.1]; rfl
  have k1 : (W7.setCell ⟨ge, 1, none⟩ (.slice a7 n c7)).cell? ⟨ge, 1, none⟩ = some (.slice a7 n c7) := by rw [← hW8, blk_at H8.out.2.1]; rfl
  clear H7
  go_wp2_with fail
  rw [← hW8]
  refine (wholeD (at_ := 0) x n a7 c7 H8.out.1).mono ?_
  rintro e W9 ⟨rfl, hb9, hb9'⟩
  have H9 : Hid (Bx1 w W9 #[.int .u64 0, .slice none 0 0] 72) := HX.out.later hb9
  have HR9 : Hid (W9.ownsRow W6.heap.size 5 1 (.slice a7 n c7) n (m.map bv)) := owns_sameK H8.out.2.2 (fun g hg => hb9'.block g (owns_ltK H8.out.2.2 g hg).1)
  have hy := H9.out
  have za0 : W9.cell? ⟨w.heap.size, 0, none⟩ = some (.int .u64 0) := by rw [blk_at hy.a]; rfl
  have za1 : W9.cell? ⟨w.heap.size, 1, none⟩ = some (.slice none 0 0) := by rw [blk_at hy.a]; rfl
  have ya0 : W9.frozen? ⟨w.heap.size, 0, none⟩ = false := blk_free hy.a 0
  have ya1 : W9.frozen? ⟨w.heap.size, 1, none⟩ = false := blk_free hy.a 1
  clear hy hb9 hb9' H8 k0 k1 y1 f1 hW8
  go_wp2
  obtain ⟨hp, hq⟩ := put2 H9.out.a (.int .u64 (x : Int)) (.slice a7 n c7)
  have hs0 : w.heap.size < W0.heap.size := block_lt HX.out.a
  refine bodyPost_ret (results_cell_tmp1 rfl _ _ w.heap.size 72 _ (0, 0) _ rfl hp Tryd.underlying72 rfl infoD) rfl ⟨a7, c7, rfl, ⟨?_, HLt.out, H9.out.bel.trans (hq.below H9.out.bel.size (fun g hg => by omega))⟩⟩
  have h9 := owns_monoK (owns_sameK HR9.out (fun g hg => hq.block g (owns_ltK HR9.out g hg).1 (by have := (owns_ltK HR9.out g hg).2.1; omega))) (show w.heap.size ≤ W6.heap.size by omega)
  rw [hm]; exact h9
end Go.Proofs.YtefgdhoapmikhaaDoor
