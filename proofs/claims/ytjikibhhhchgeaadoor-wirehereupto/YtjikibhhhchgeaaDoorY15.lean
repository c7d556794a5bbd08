import Derived.Test.YtjikibhhhchgeaaDoorY14
namespace Go.Proofs.YtjikibhhhchgeaaDoor
open Go.RowKit
set_option linter.unusedVariables false
set_option linter.unusedSimpArgs false
set_option maxRecDepth 100000
set_option maxHeartbeats 2000000 in
theorem wholeQ_ok (x0 : ByteArray) (x1 : Option Addr) (n1 c1 : Nat) {w W : World} {c r : Nat} {ao : Option Addr} {cap : Nat} {l : List Nat} {at_ er : Nat} (h : Bg w W c r ao cap l at_ er) (hn : ndE (decide (at_ = l.length)) er = 0) :
    Calls Tryd.prog 63 #[.pointer (some ⟨c, 0, none⟩), .agg #[.string x0, .slice x1 n1 c1]] W fun e w' => e = .returned (.tuple #[.agg #[.string x0, .slice x1 n1 c1], .int .i64 0]) ∧ Below w.heap.size w w' ∧ KeptIn (fun g => g = c) W w' := by
  have HN : Hid (ndE (decide (at_ = l.length)) er = 0) := hn
  clear hn
  have HE : Hid (∀ W, Bg w W c r ao cap l at_ er → Calls Tryd.prog 108 #[.pointer (some ⟨r, 0, none⟩)] W fun e w' => ∃ E : Int, e = .returned (.int .i64 E) ∧ (E == 0) = decide (at_ = l.length) ∧ ∃ q, w' = W.drewN q) := fun W h => rendG h
  have H : Hid (Bg w W c r ao cap l at_ er) := h
  clear h
  have q00 : ∀ o o', ((W.alloc o).alloc o').cell? ⟨c, 0, none⟩ = some (.pointer (some ⟨r, 0, none⟩)) := fun o o' => (H.out.later (below2 W o o')).c0
  go_enter Tryd.func63, Tryd.ntmps63
  go_wp2_with fail
  have hx : Bx2 W ((W.alloc (Obj.cells #[.string x0, .slice x1 n1 c1] 33)).alloc (Obj.cells #[.string ⟨#[]⟩, .slice none 0 0] 33)) #[.string x0, .slice x1 n1 c1] #[.string ⟨#[]⟩, .slice none 0 0] 33 33 := mkb2 W _ _ _ _
  generalize ((W.alloc (Obj.cells #[.string x0, .slice x1 n1 c1] 33)).alloc (Obj.cells #[.string ⟨#[]⟩, .slice none 0 0] 33)) = W5 at *
  refine (HE.out _ (H.out.later hx.bel)).mono ?_
  rintro e W6 ⟨E, rfl, hE, q, hw⟩
  have hy : Bx2 W W6 #[.string x0, .slice x1 n1 c1] #[.string ⟨#[]⟩, .slice none 0 0] 33 33 := by rw [hw]; exact hx.later (below_drewN _ q)
  have H6 : Hid (Bg w W6 c r ao cap l at_ er ∧ Bx2 W W6 #[.string x0, .slice x1 n1 c1] #[.string ⟨#[]⟩, .slice none 0 0] 33 33) := ⟨H.out.later hy.bel, hy⟩
  clear hw hx hy HE q00
  generalize hD : decide (at_ = l.length) = D at *
  go_wp2_with fail
  refine (needG D H6.out.1).mono ?_
  rintro e W7 ⟨rfl, hb7, hk7⟩
  rw [HN.out] at hb7
  have hcW : c < W.heap.size := block_lt H.out.bd
  have H7 : Hid (Bg w W7 c r ao cap l at_ 0 ∧ Bk2 c W W7 #[.string x0, .slice x1 n1 c1] #[.string ⟨#[]⟩, .slice none 0 0] 33 33) := ⟨hb7, Bk2.of hk7 H6.out.2 hcW⟩
  have kc1 := hb7.c1
  clear hb7 hk7 H6 hD
  go_wp2_with fail
  refine (wellG c 0 W7 kc1).mono ?_
  rintro e W8 ⟨rfl, hw⟩
  rw [hw]; clear hw
  have hy := H7.out.2
  have za0 : W7.cell? ⟨W.heap.size, 0, none⟩ = some (.string x0) := by rw [blk_at hy.a]; rfl
  have zb0 : W7.cell? ⟨W.heap.size + 1, 0, none⟩ = some (.string ⟨#[]⟩) := by rw [blk_at hy.b]; rfl
  have yb0 : W7.frozen? ⟨W.heap.size + 1, 0, none⟩ = false := blk_free hy.b 0
  have za1 : W7.cell? ⟨W.heap.size, 1, none⟩ = some (.slice x1 n1 c1) := by rw [blk_at hy.a]; rfl
  have zb1 : W7.cell? ⟨W.heap.size + 1, 1, none⟩ = some (.slice none 0 0) := by rw [blk_at hy.b]; rfl
  have yb1 : W7.frozen? ⟨W.heap.size + 1, 1, none⟩ = false := blk_free hy.b 1
  clear hy
  go_wp2
  obtain ⟨hp, hq⟩ := putc2 H7.out.2.b (.string x0) (.slice x1 n1 c1)
  exact bodyPost_ret (results_cell_tmp1 rfl _ _ (W.heap.size + 1) 33 _ (0, 0) _ rfl hp Tryd.underlying33 rfl infoQ) rfl ⟨rfl, H7.out.1.bel.trans (hq.below H7.out.1.bel.size (fun g hg => by have := H.out.bel.size; omega)), H7.out.2.kept.trans hq (fun g hg _ => by omega)⟩
set_option maxHeartbeats 2000000 in
theorem wholeQ_no (x0 : ByteArray) (x1 : Option Addr) (n1 c1 : Nat) {w W : World} {c r : Nat} {ao : Option Addr} {cap : Nat} {l : List Nat} {at_ er : Nat} (z : Nat) (hz : z ≠ 0) (h : Bg w W c r ao cap l at_ er) (hn : ndE (decide (at_ = l.length)) er = z) :
    Calls Tryd.prog 63 #[.pointer (some ⟨c, 0, none⟩), .agg #[.string x0, .slice x1 n1 c1]] W fun e w' => e = .returned (.tuple #[.agg #[.string ⟨#[]⟩, .slice none 0 0], .int .i64 (z : Int)]) ∧ Below w.heap.size w w' ∧ KeptIn (fun g => g = c) W w' := by
  have HN : Hid (ndE (decide (at_ = l.length)) er = z) := hn
  have f0 : ((z : Int) == 0) = false := by rw [beq_eq_false_iff_ne]; omega
  clear hn hz
  have HE : Hid (∀ W, Bg w W c r ao cap l at_ er → Calls Tryd.prog 108 #[.pointer (some ⟨r, 0, none⟩)] W fun e w' => ∃ E : Int, e = .returned (.int .i64 E) ∧ (E == 0) = decide (at_ = l.length) ∧ ∃ q, w' = W.drewN q) := fun W h => rendG h
  have H : Hid (Bg w W c r ao cap l at_ er) := h
  clear h
  have q00 : ∀ o o', ((W.alloc o).alloc o').cell? ⟨c, 0, none⟩ = some (.pointer (some ⟨r, 0, none⟩)) := fun o o' => (H.out.later (below2 W o o')).c0
  go_enter Tryd.func63, Tryd.ntmps63
  go_wp2_with fail
  have hx : Bx2 W ((W.alloc (Obj.cells #[.string x0, .slice x1 n1 c1] 33)).alloc (Obj.cells #[.string ⟨#[]⟩, .slice none 0 0] 33)) #[.string x0, .slice x1 n1 c1] #[.string ⟨#[]⟩, .slice none 0 0] 33 33 := mkb2 W _ _ _ _
  generalize ((W.alloc (Obj.cells #[.string x0, .slice x1 n1 c1] 33)).alloc (Obj.cells #[.string ⟨#[]⟩, .slice none 0 0] 33)) = W5 at *
  refine (HE.out _ (H.out.later hx.bel)).mono ?_
  rintro e W6 ⟨E, rfl, hE, q, hw⟩
  have hy : Bx2 W W6 #[.string x0, .slice x1 n1 c1] #[.string ⟨#[]⟩, .slice none 0 0] 33 33 := by rw [hw]; exact hx.later (below_drewN _ q)
  have H6 : Hid (Bg w W6 c r ao cap l at_ er ∧ Bx2 W W6 #[.string x0, .slice x1 n1 c1] #[.string ⟨#[]⟩, .slice none 0 0] 33 33) := ⟨H.out.later hy.bel, hy⟩
  clear hw hx hy HE q00
  generalize hD : decide (at_ = l.length) = D at *
  go_wp2_with fail
  refine (needG D H6.out.1).mono ?_
  rintro e W7 ⟨rfl, hb7, hk7⟩
  rw [HN.out] at hb7
  have hcW : c < W.heap.size := block_lt H.out.bd
  have H7 : Hid (Bg w W7 c r ao cap l at_ z ∧ Bk2 c W W7 #[.string x0, .slice x1 n1 c1] #[.string ⟨#[]⟩, .slice none 0 0] 33 33) := ⟨hb7, Bk2.of hk7 H6.out.2 hcW⟩
  have kc1 := hb7.c1
  clear hb7 hk7 H6 hD
  go_wp2_with fail
  refine (wellG c z W7 kc1).mono ?_
  rintro e W8 ⟨rfl, hw⟩
  rw [hw]; clear hw
  rw [f0]
  have hy := H7.out.2
  have zb0 : W7.cell? ⟨W.heap.size + 1, 0, none⟩ = some (.string ⟨#[]⟩) := by rw [blk_at hy.b]; rfl
  have yb0 : W7.frozen? ⟨W.heap.size + 1, 0, none⟩ = false := blk_free hy.b 0
  have zb1 : W7.cell? ⟨W.heap.size + 1, 1, none⟩ = some (.slice none 0 0) := by rw [blk_at hy.b]; rfl
  have yb1 : W7.frozen? ⟨W.heap.size + 1, 1, none⟩ = false := blk_free hy.b 1
  clear hy
  have hN := below1 W7 (Obj.cells #[.string ⟨#[]⟩, .slice none 0 0] 33)
  have hc8 : (W7.alloc (Obj.cells #[.string ⟨#[]⟩, .slice none 0 0] 33)).cell? ⟨c, 1, none⟩ = some (.int .i64 (z : Int)) := cell_later hN kc1
  have hb8 := (H7.out.2.later hN).b
  have H8 : Hid (Below w.heap.size w (W7.alloc (Obj.cells #[.string ⟨#[]⟩, .slice none 0 0] 33)) ∧ KeptIn (fun g => g = c) W (W7.alloc (Obj.cells #[.string ⟨#[]⟩, .slice none 0 0] 33)) ∧ (W7.alloc (Obj.cells #[.string ⟨#[]⟩, .slice none 0 0] 33)).heap[W.heap.size + 1]? = some (.cells #[.string ⟨#[]⟩, .slice none 0 0] 33 (0, 0))) := ⟨H7.out.1.bel.trans (hN.mono H7.out.1.bel.size), (H7.out.2.later hN).kept, hb8⟩
  have zn0 : (W7.alloc (Obj.cells #[.string ⟨#[]⟩, .slice none 0 0] 33)).cell? ⟨W.heap.size + 1, 0, none⟩ = some (.string ⟨#[]⟩) := by rw [blk_at hb8]; rfl
  have yn0 : (W7.alloc (Obj.cells #[.string ⟨#[]⟩, .slice none 0 0] 33)).frozen? ⟨W.heap.size + 1, 0, none⟩ = false := blk_free hb8 0
  have zn1 : (W7.alloc (Obj.cells #[.string ⟨#[]⟩, .slice none 0 0] 33)).cell? ⟨W.heap.size + 1, 1, none⟩ = some (.slice none 0 0) := by rw [blk_at hb8]; rfl
  have yn1 : (W7.alloc (Obj.cells #[.string ⟨#[]⟩, .slice none 0 0] 33)).frozen? ⟨W.heap.size + 1, 1, none⟩ = false := blk_free hb8 1
  clear hN hb8
  go_wp2
  go_region
  go_wp2
  obtain ⟨hp, hq⟩ := putc2 H8.out.2.2 (.string ⟨#[]⟩) (.slice none 0 0)
  have hq' := hq.drewd
  exact bodyPost_ret (results_cell_tmp1 rfl _ _ (W.heap.size + 1) 33 _ (0, 0) _ rfl hp Tryd.underlying33 rfl infoQ) rfl ⟨rfl, H8.out.1.trans (hq'.below H8.out.1.size (fun g hg => by have := H.out.bel.size; omega)), H8.out.2.1.trans hq' (fun g hg _ => by omega)⟩
end Go.Proofs.YtjikibhhhchgeaaDoor

namespace Go.Proofs.YtjikibhhhchgeaaDoor
open Go.RowKit
set_option linter.unusedVariables false
set_option linter.unusedSimpArgs false
set_option maxRecDepth 100000
set_option maxHeartbeats 2000000 in
theorem wholeS_ok (x0 : ByteArray) (x1 : Option Addr) (n1 c1 : Nat) {w W : World} {c r : Nat} {ao : Option Addr} {cap : Nat} {l : List Nat} {at_ er : Nat} (h : Bg w W c r ao cap l at_ er) (hn : ndE (decide (at_ = l.length)) er = 0) :
    Calls Tryd.prog 65 #[.pointer (some ⟨c, 0, none⟩), .agg #[.string x0, .slice x1 n1 c1]] W fun e w' => e = .returned (.tuple #[.agg #[.string x0, .slice x1 n1 c1], .int .i64 0]) ∧ Below w.heap.size w w' ∧ KeptIn (fun g => g = c) W w' := by
  have HN : Hid (ndE (decide (at_ = l.length)) er = 0) := hn
  clear hn
  have HE : Hid (∀ W, Bg w W c r ao cap l at_ er → Calls Tryd.prog 108 #[.pointer (some ⟨r, 0, none⟩)] W fun e w' => ∃ E : Int, e = .returned (.int .i64 E) ∧ (E == 0) = decide (at_ = l.length) ∧ ∃ q, w' = W.drewN q) := fun W h => rendG h
  have H : Hid (Bg w W c r ao cap l at_ er) := h
  clear h
  have q00 : ∀ o o', ((W.alloc o).alloc o').cell? ⟨c, 0, none⟩ = some (.pointer (some ⟨r, 0, none⟩)) := fun o o' => (H.out.later (below2 W o o')).c0
  go_enter Tryd.func65, Tryd.ntmps65
  go_wp2_with fail
  have hx : Bx2 W ((W.alloc (Obj.cells #[.string x0, .slice x1 n1 c1] 37)).alloc (Obj.cells #[.string ⟨#[]⟩, .slice none 0 0] 37)) #[.string x0, .slice x1 n1 c1] #[.string ⟨#[]⟩, .slice none 0 0] 37 37 := mkb2 W _ _ _ _
  generalize ((W.alloc (Obj.cells #[.string x0, .slice x1 n1 c1] 37)).alloc (Obj.cells #[.string ⟨#[]⟩, .slice none 0 0] 37)) = W5 at *
  refine (HE.out _ (H.out.later hx.bel)).mono ?_
  rintro e W6 ⟨E, rfl, hE, q, hw⟩
  have hy : Bx2 W W6 #[.string x0, .slice x1 n1 c1] #[.string ⟨#[]⟩, .slice none 0 0] 37 37 := by rw [hw]; exact hx.later (below_drewN _ q)
  have H6 : Hid (Bg w W6 c r ao cap l at_ er ∧ Bx2 W W6 #[.string x0, .slice x1 n1 c1] #[.string ⟨#[]⟩, .slice none 0 0] 37 37) := ⟨H.out.later hy.bel, hy⟩
  clear hw hx hy HE q00
  generalize hD : decide (at_ = l.length) = D at *
  go_wp2_with fail
  refine (needG D H6.out.1).mono ?_
  rintro e W7 ⟨rfl, hb7, hk7⟩
  rw [HN.out] at hb7
  have hcW : c < W.heap.size := block_lt H.out.bd
  have H7 : Hid (Bg w W7 c r ao cap l at_ 0 ∧ Bk2 c W W7 #[.string x0, .slice x1 n1 c1] #[.string ⟨#[]⟩, .slice none 0 0] 37 37) := ⟨hb7, Bk2.of hk7 H6.out.2 hcW⟩
  have kc1 := hb7.c1
  clear hb7 hk7 H6 hD
  go_wp2_with fail
  refine (wellG c 0 W7 kc1).mono ?_
  rintro e W8 ⟨rfl, hw⟩
  rw [hw]; clear hw
  have hy := H7.out.2
  have za0 : W7.cell? ⟨W.heap.size, 0, none⟩ = some (.string x0) := by rw [blk_at hy.a]; rfl
  have zb0 : W7.cell? ⟨W.heap.size + 1, 0, none⟩ = some (.string ⟨#[]⟩) := by rw [blk_at hy.b]; rfl
  have yb0 : W7.frozen? ⟨W.heap.size + 1, 0, none⟩ = false := blk_free hy.b 0
  have za1 : W7.cell? ⟨W.heap.size, 1, none⟩ = some (.slice x1 n1 c1) := by rw [blk_at hy.a]; rfl
  have zb1 : W7.cell? ⟨W.heap.size + 1, 1, none⟩ = some (.slice none 0 0) := by rw [blk_at hy.b]; rfl
  have yb1 : W7.frozen? ⟨W.heap.size + 1, 1, none⟩ = false := blk_free hy.b 1
  clear hy
  go_wp2
  obtain ⟨hp, hq⟩ := putc2 H7.out.2.b (.string x0) (.slice x1 n1 c1)
  exact bodyPost_ret (results_cell_tmp1 rfl _ _ (W.heap.size + 1) 37 _ (0, 0) _ rfl hp Tryd.underlying37 rfl infoS) rfl ⟨rfl, H7.out.1.bel.trans (hq.below H7.out.1.bel.size (fun g hg => by have := H.out.bel.size; omega)), H7.out.2.kept.trans hq (fun g hg _ => by omega)⟩
set_option maxHeartbeats 2000000 in
theorem wholeS_no (x0 : ByteArray) (x1 : Option Addr) (n1 c1 : Nat) {w W : World} {c r : Nat} {ao : Option Addr} {cap : Nat} {l : List Nat} {at_ er : Nat} (z : Nat) (hz : z ≠ 0) (h : Bg w W c r ao cap l at_ er) (hn : ndE (decide (at_ = l.length)) er = z) :
    Calls Tryd.prog 65 #[.pointer (some ⟨c, 0, none⟩), .agg #[.string x0, .slice x1 n1 c1]] W fun e w' => e = .returned (.tuple #[.agg #[.string ⟨#[]⟩, .slice none 0 0], .int .i64 (z : Int)]) ∧ Below w.heap.size w w' ∧ KeptIn (fun g => g = c) W w' := by
  have HN : Hid (ndE (decide (at_ = l.length)) er = z) := hn
  have f0 : ((z : Int) == 0) = false := by rw [beq_eq_false_iff_ne]; omega
  clear hn hz
  have HE : Hid (∀ W, Bg w W c r ao cap l at_ er → Calls Tryd.prog 108 #[.pointer (some ⟨r, 0, none⟩)] W fun e w' => ∃ E : Int, e = .returned (.int .i64 E) ∧ (E == 0) = decide (at_ = l.length) ∧ ∃ q, w' = W.drewN q) := fun W h => rendG h
  have H : Hid (Bg w W c r ao cap l at_ er) := h
  clear h
  have q00 : ∀ o o', ((W.alloc o).alloc o').cell? ⟨c, 0, none⟩ = some (.pointer (some ⟨r, 0, none⟩)) := fun o o' => (H.out.later (below2 W o o')).c0
  go_enter Tryd.func65, Tryd.ntmps65
  go_wp2_with fail
  have hx : Bx2 W ((W.alloc (Obj.cells #[.string x0, .slice x1 n1 c1] 37)).alloc (Obj.cells #[.string ⟨#[]⟩, .slice none 0 0] 37)) #[.string x0, .slice x1 n1 c1] #[.string ⟨#[]⟩, .slice none 0 0] 37 37 := mkb2 W _ _ _ _
  generalize ((W.alloc (Obj.cells #[.string x0, .slice x1 n1 c1] 37)).alloc (Obj.cells #[.string ⟨#[]⟩, .slice none 0 0] 37)) = W5 at *
  refine (HE.out _ (H.out.later hx.bel)).mono ?_
  rintro e W6 ⟨E, rfl, hE, q, hw⟩
  have hy : Bx2 W W6 #[.string x0, .slice x1 n1 c1] #[.string ⟨#[]⟩, .slice none 0 0] 37 37 := by rw [hw]; exact hx.later (below_drewN _ q)
  have H6 : Hid (Bg w W6 c r ao cap l at_ er ∧ Bx2 W W6 #[.string x0, .slice x1 n1 c1] #[.string ⟨#[]⟩, .slice none 0 0] 37 37) := ⟨H.out.later hy.bel, hy⟩
  clear hw hx hy HE q00
  generalize hD : decide (at_ = l.length) = D at *
  go_wp2_with fail
  refine (needG D H6.out.1).mono ?_
  rintro e W7 ⟨rfl, hb7, hk7⟩
  rw [HN.out] at hb7
  have hcW : c < W.heap.size := block_lt H.out.bd
  have H7 : Hid (Bg w W7 c r ao cap l at_ z ∧ Bk2 c W W7 #[.string x0, .slice x1 n1 c1] #[.string ⟨#[]⟩, .slice none 0 0] 37 37) := ⟨hb7, Bk2.of hk7 H6.out.2 hcW⟩
  have kc1 := hb7.c1
  clear hb7 hk7 H6 hD
  go_wp2_with fail
  refine (wellG c z W7 kc1).mono ?_
  rintro e W8 ⟨rfl, hw⟩
  rw [hw]; clear hw
  rw [f0]
  have hy := H7.out.2
  have zb0 : W7.cell? ⟨W.heap.size + 1, 0, none⟩ = some (.string ⟨#[]⟩) := by rw [blk_at hy.b]; rfl
  have yb0 : W7.frozen? ⟨W.heap.size + 1, 0, none⟩ = false := blk_free hy.b 0
  have zb1 : W7.cell? ⟨W.heap.size + 1, 1, none⟩ = some (.slice none 0 0) := by rw [blk_at hy.b]; rfl
  have yb1 : W7.frozen? ⟨W.heap.size + 1, 1, none⟩ = false := blk_free hy.b 1
  clear hy
  have hN := below1 W7 (Obj.cells #[.string ⟨#[]⟩, .slice none 0 0] 37)
  have hc8 : (W7.alloc (Obj.cells #[.string ⟨#[]⟩, .slice none 0 0] 37)).cell? ⟨c, 1, none⟩ = some (.int .i64 (z : Int)) := cell_later hN kc1
  have hb8 := (H7.out.2.later hN).b
  have H8 : Hid (Below w.heap.size w (W7.alloc (Obj.cells #[.string ⟨#[]⟩, .slice none 0 0] 37)) ∧ KeptIn (fun g => g = c) W (W7.alloc (Obj.cells #[.string ⟨#[]⟩, .slice none 0 0] 37)) ∧ (W7.alloc (Obj.cells #[.string ⟨#[]⟩, .slice none 0 0] 37)).heap[W.heap.size + 1]? = some (.cells #[.string ⟨#[]⟩, .slice none 0 0] 37 (0, 0))) := ⟨H7.out.1.bel.trans (hN.mono H7.out.1.bel.size), (H7.out.2.later hN).kept, hb8⟩
  have zn0 : (W7.alloc (Obj.cells #[.string ⟨#[]⟩, .slice none 0 0] 37)).cell? ⟨W.heap.size + 1, 0, none⟩ = some (.string ⟨#[]⟩) := by rw [blk_at hb8]; rfl
  have yn0 : (W7.alloc (Obj.cells #[.string ⟨#[]⟩, .slice none 0 0] 37)).frozen? ⟨W.heap.size + 1, 0, none⟩ = false := blk_free hb8 0
  have zn1 : (W7.alloc (Obj.cells #[.string ⟨#[]⟩, .slice none 0 0] 37)).cell? ⟨W.heap.size + 1, 1, none⟩ = some (.slice none 0 0) := by rw [blk_at hb8]; rfl
  have yn1 : (W7.alloc (Obj.cells #[.string ⟨#[]⟩, .slice none 0 0] 37)).frozen? ⟨W.heap.size + 1, 1, none⟩ = false := blk_free hb8 1
  clear hN hb8
  go_wp2
  go_region
  go_wp2
  obtain ⟨hp, hq⟩ := putc2 H8.out.2.2 (.string ⟨#[]⟩) (.slice none 0 0)
  have hq' := hq.drewd
  exact bodyPost_ret (results_cell_tmp1 rfl _ _ (W.heap.size + 1) 37 _ (0, 0) _ rfl hp Tryd.underlying37 rfl infoS) rfl ⟨rfl, H8.out.1.trans (hq'.below H8.out.1.size (fun g hg => by have := H.out.bel.size; omega)), H8.out.2.1.trans hq' (fun g hg _ => by omega)⟩
end Go.Proofs.YtjikibhhhchgeaaDoor

namespace Go.Proofs.YtjikibhhhchgeaaDoor
open Go.RowKit
set_option linter.unusedVariables false
set_option linter.unusedSimpArgs false
set_option maxRecDepth 100000
set_option maxHeartbeats 2000000 in
theorem wholeD_ok (x0 : Nat) (x1 : Option Addr) (n1 c1 : Nat) {w W : World} {c r : Nat} {ao : Option Addr} {cap : Nat} {l : List Nat} {at_ er : Nat} (h : Bg w W c r ao cap l at_ er) (hn : ndE (decide (at_ = l.length)) er = 0) :
    Calls Tryd.prog 71 #[.pointer (some ⟨c, 0, none⟩), .agg #[.int .u64 (x0 : Int), .slice x1 n1 c1]] W fun e w' => e = .returned (.tuple #[.agg #[.int .u64 (x0 : Int), .slice x1 n1 c1], .int .i64 0]) ∧ Below w.heap.size w w' ∧ KeptIn (fun g => g = c) W w' := by
  have HN : Hid (ndE (decide (at_ = l.length)) er = 0) := hn
  clear hn
  have HE : Hid (∀ W, Bg w W c r ao cap l at_ er → Calls Tryd.prog 108 #[.pointer (some ⟨r, 0, none⟩)] W fun e w' => ∃ E : Int, e = .returned (.int .i64 E) ∧ (E == 0) = decide (at_ = l.length) ∧ ∃ q, w' = W.drewN q) := fun W h => rendG h
  have H : Hid (Bg w W c r ao cap l at_ er) := h
  clear h
  have q00 : ∀ o o', ((W.alloc o).alloc o').cell? ⟨c, 0, none⟩ = some (.pointer (some ⟨r, 0, none⟩)) := fun o o' => (H.out.later (below2 W o o')).c0
  go_enter Tryd.func71, Tryd.ntmps71
  go_wp2_with fail
  have hx : Bx2 W ((W.alloc (Obj.cells #[.int .u64 (x0 : Int), .slice x1 n1 c1] 44)).alloc (Obj.cells #[.int .u64 0, .slice none 0 0] 44)) #[.int .u64 (x0 : Int), .slice x1 n1 c1] #[.int .u64 0, .slice none 0 0] 44 44 := mkb2 W _ _ _ _
  generalize ((W.alloc (Obj.cells #[.int .u64 (x0 : Int), .slice x1 n1 c1] 44)).alloc (Obj.cells #[.int .u64 0, .slice none 0 0] 44)) = W5 at *
  refine (HE.out _ (H.out.later hx.bel)).mono ?_
  rintro e W6 ⟨E, rfl, hE, q, hw⟩
  have hy : Bx2 W W6 #[.int .u64 (x0 : Int), .slice x1 n1 c1] #[.int .u64 0, .slice none 0 0] 44 44 := by rw [hw]; exact hx.later (below_drewN _ q)
  have H6 : Hid (Bg w W6 c r ao cap l at_ er ∧ Bx2 W W6 #[.int .u64 (x0 : Int), .slice x1 n1 c1] #[.int .u64 0, .slice none 0 0] 44 44) := ⟨H.out.later hy.bel, hy⟩
  clear hw hx hy HE q00
  generalize hD : decide (at_ = l.length) = D at *
  go_wp2_with fail
  refine (needG D H6.out.1).mono ?_
  rintro e W7 ⟨rfl, hb7, hk7⟩
  rw [HN.out] at hb7
  have hcW : c < W.heap.size := block_lt H.out.bd
  have H7 : Hid (Bg w W7 c r ao cap l at_ 0 ∧ Bk2 c W W7 #[.int .u64 (x0 : Int), .slice x1 n1 c1] #[.int .u64 0, .slice none 0 0] 44 44) := ⟨hb7, Bk2.of hk7 H6.out.2 hcW⟩
  have kc1 := hb7.c1
  clear hb7 hk7 H6 hD
  go_wp2_with fail
  refine (wellG c 0 W7 kc1).mono ?_
  rintro e W8 ⟨rfl, hw⟩
  rw [hw]; clear hw
  have hy := H7.out.2
  have za0 : W7.cell? ⟨W.heap.size, 0, none⟩ = some (.int .u64 (x0 : Int)) := by rw [blk_at hy.a]; rfl
  have zb0 : W7.cell? ⟨W.heap.size + 1, 0, none⟩ = some (.int .u64 0) := by rw [blk_at hy.b]; rfl
  have yb0 : W7.frozen? ⟨W.heap.size + 1, 0, none⟩ = false := blk_free hy.b 0
  have za1 : W7.cell? ⟨W.heap.size, 1, none⟩ = some (.slice x1 n1 c1) := by rw [blk_at hy.a]; rfl
  have zb1 : W7.cell? ⟨W.heap.size + 1, 1, none⟩ = some (.slice none 0 0) := by rw [blk_at hy.b]; rfl
  have yb1 : W7.frozen? ⟨W.heap.size + 1, 1, none⟩ = false := blk_free hy.b 1
  clear hy
  go_wp2
  obtain ⟨hp, hq⟩ := putc2 H7.out.2.b (.int .u64 (x0 : Int)) (.slice x1 n1 c1)
  exact bodyPost_ret (results_cell_tmp1 rfl _ _ (W.heap.size + 1) 44 _ (0, 0) _ rfl hp Tryd.underlying44 rfl infoD) rfl ⟨rfl, H7.out.1.bel.trans (hq.below H7.out.1.bel.size (fun g hg => by have := H.out.bel.size; omega)), H7.out.2.kept.trans hq (fun g hg _ => by omega)⟩
set_option maxHeartbeats 2000000 in
theorem wholeD_no (x0 : Nat) (x1 : Option Addr) (n1 c1 : Nat) {w W : World} {c r : Nat} {ao : Option Addr} {cap : Nat} {l : List Nat} {at_ er : Nat} (z : Nat) (hz : z ≠ 0) (h : Bg w W c r ao cap l at_ er) (hn : ndE (decide (at_ = l.length)) er = z) :
    Calls Tryd.prog 71 #[.pointer (some ⟨c, 0, none⟩), .agg #[.int .u64 (x0 : Int), .slice x1 n1 c1]] W fun e w' => e = .returned (.tuple #[.agg #[.int .u64 0, .slice none 0 0], .int .i64 (z : Int)]) ∧ Below w.heap.size w w' ∧ KeptIn (fun g => g = c) W w' := by
  have HN : Hid (ndE (decide (at_ = l.length)) er = z) := hn
  have f0 : ((z : Int) == 0) = false := by rw [beq_eq_false_iff_ne]; omega
  clear hn hz
  have HE : Hid (∀ W, Bg w W c r ao cap l at_ er → Calls Tryd.prog 108 #[.pointer (some ⟨r, 0, none⟩)] W fun e w' => ∃ E : Int, e = .returned (.int .i64 E) ∧ (E == 0) = decide (at_ = l.length) ∧ ∃ q, w' = W.drewN q) := fun W h => rendG h
  have H : Hid (Bg w W c r ao cap l at_ er) := h
  clear h
  have q00 : ∀ o o', ((W.alloc o).alloc o').cell? ⟨c, 0, none⟩ = some (.pointer (some ⟨r, 0, none⟩)) := fun o o' => (H.out.later (below2 W o o')).c0
  go_enter Tryd.func71, Tryd.ntmps71
  go_wp2_with fail
  have hx : Bx2 W ((W.alloc (Obj.cells #[.int .u64 (x0 : Int), .slice x1 n1 c1] 44)).alloc (Obj.cells #[.int .u64 0, .slice none 0 0] 44)) #[.int .u64 (x0 : Int), .slice x1 n1 c1] #[.int .u64 0, .slice none 0 0] 44 44 := mkb2 W _ _ _ _
  generalize ((W.alloc (Obj.cells #[.int .u64 (x0 : Int), .slice x1 n1 c1] 44)).alloc (Obj.cells #[.int .u64 0, .slice none 0 0] 44)) = W5 at *
  refine (HE.out _ (H.out.later hx.bel)).mono ?_
  rintro e W6 ⟨E, rfl, hE, q, hw⟩
  have hy : Bx2 W W6 #[.int .u64 (x0 : Int), .slice x1 n1 c1] #[.int .u64 0, .slice none 0 0] 44 44 := by rw [hw]; exact hx.later (below_drewN _ q)
  have H6 : Hid (Bg w W6 c r ao cap l at_ er ∧ Bx2 W W6 #[.int .u64 (x0 : Int), .slice x1 n1 c1] #[.int .u64 0, .slice none 0 0] 44 44) := ⟨H.out.later hy.bel, hy⟩
  clear hw hx hy HE q00
  generalize hD : decide (at_ = l.length) = D at *
  go_wp2_with fail
  refine (needG D H6.out.1).mono ?_
  rintro e W7 ⟨rfl, hb7, hk7⟩
  rw [HN.out] at hb7
  have hcW : c < W.heap.size := block_lt H.out.bd
  have H7 : Hid (Bg w W7 c r ao cap l at_ z ∧ Bk2 c W W7 #[.int .u64 (x0 : Int), .slice x1 n1 c1] #[.int .u64 0, .slice none 0 0] 44 44) := ⟨hb7, Bk2.of hk7 H6.out.2 hcW⟩
  have kc1 := hb7.c1
  clear hb7 hk7 H6 hD
  go_wp2_with fail
  refine (wellG c z W7 kc1).mono ?_
  rintro e W8 ⟨rfl, hw⟩
  rw [hw]; clear hw
  rw [f0]
  have hy := H7.out.2
  have zb0 : W7.cell? ⟨W.heap.size + 1, 0, none⟩ = some (.int .u64 0) := by rw [blk_at hy.b]; rfl
  have yb0 : W7.frozen? ⟨W.heap.size + 1, 0, none⟩ = false := blk_free hy.b 0
  have zb1 : W7.cell? ⟨W.heap.size + 1, 1, none⟩ = some (.slice none 0 0) := by rw [blk_at hy.b]; rfl
  have yb1 : W7.frozen? ⟨W.heap.size + 1, 1, none⟩ = false := blk_free hy.b 1
  clear hy
  have hN := below1 W7 (Obj.cells #[.int .u64 0, .slice none 0 0] 44)
  have hc8 : (W7.alloc (Obj.cells #[.int .u64 0, .slice none 0 0] 44)).cell? ⟨c, 1, none⟩ = some (.int .i64 (z : Int)) := cell_later hN kc1
  have hb8 := (H7.out.2.later hN).b
  have H8 : Hid (Below w.heap.size w (W7.alloc (Obj.cells #[.int .u64 0, .slice none 0 0] 44)) ∧ KeptIn (fun g => g = c) W (W7.alloc (Obj.cells #[.int .u64 0, .slice none 0 0] 44)) ∧ (W7.alloc (Obj.cells #[.int .u64 0, .slice none 0 0] 44)).heap[W.heap.size + 1]? = some (.cells #[.int .u64 0, .slice none 0 0] 44 (0, 0))) := ⟨H7.out.1.bel.trans (hN.mono H7.out.1.bel.size), (H7.out.2.later hN).kept, hb8⟩
  have zn0 : (W7.alloc (Obj.cells #[.int .u64 0, .slice none 0 0] 44)).cell? ⟨W.heap.size + 1, 0, none⟩ = some (.int .u64 0) := by rw [blk_at hb8]; rfl
  have yn0 : (W7.alloc (Obj.cells #[.int .u64 0, .slice none 0 0] 44)).frozen? ⟨W.heap.size + 1, 0, none⟩ = false := blk_free hb8 0
  have zn1 : (W7.alloc (Obj.cells #[.int .u64 0, .slice none 0 0] 44)).cell? ⟨W.heap.size + 1, 1, none⟩ = some (.slice none 0 0) := by rw [blk_at hb8]; rfl
  have yn1 : (W7.alloc (Obj.cells #[.int .u64 0, .slice none 0 0] 44)).frozen? ⟨W.heap.size + 1, 1, none⟩ = false := blk_free hb8 1
  clear hN hb8
  go_wp2
  go_region
  go_wp2
  obtain ⟨hp, hq⟩ := putc2 H8.out.2.2 (.int .u64 0) (.slice none 0 0)
  have hq' := hq.drewd
  exact bodyPost_ret (results_cell_tmp1 rfl _ _ (W.heap.size + 1) 44 _ (0, 0) _ rfl hp Tryd.underlying44 rfl infoD) rfl ⟨rfl, H8.out.1.trans (hq'.below H8.out.1.size (fun g hg => by have := H.out.bel.size; omega)), H8.out.2.1.trans hq' (fun g hg _ => by omega)⟩
end Go.Proofs.YtjikibhhhchgeaaDoor

namespace Go.Proofs.YtjikibhhhchgeaaDoor
open Go.RowKit
set_option linter.unusedVariables false
set_option linter.unusedSimpArgs false
set_option maxRecDepth 100000
set_option maxHeartbeats 2000000 in
theorem wholeH_ok (x0 : Nat) (x1 : Nat) {w W : World} {c r : Nat} {ao : Option Addr} {cap : Nat} {l : List Nat} {at_ er : Nat} (h : Bg w W c r ao cap l at_ er) (hn : ndE (decide (at_ = l.length)) er = 0) :
    Calls Tryd.prog 72 #[.pointer (some ⟨c, 0, none⟩), .agg #[.int .u64 (x0 : Int), .int .u32 (x1 : Int)]] W fun e w' => e = .returned (.tuple #[.agg #[.int .u64 (x0 : Int), .int .u32 (x1 : Int)], .int .i64 0]) ∧ Below w.heap.size w w' ∧ KeptIn (fun g => g = c) W w' := by
  have HN : Hid (ndE (decide (at_ = l.length)) er = 0) := hn
  clear hn
  have HE : Hid (∀ W, Bg w W c r ao cap l at_ er → Calls Tryd.prog 108 #[.pointer (some ⟨r, 0, none⟩)] W fun e w' => ∃ E : Int, e = .returned (.int .i64 E) ∧ (E == 0) = decide (at_ = l.length) ∧ ∃ q, w' = W.drewN q) := fun W h => rendG h
  have H : Hid (Bg w W c r ao cap l at_ er) := h
  clear h
  have q00 : ∀ o o', ((W.alloc o).alloc o').cell? ⟨c, 0, none⟩ = some (.pointer (some ⟨r, 0, none⟩)) := fun o o' => (H.out.later (below2 W o o')).c0
  go_enter Tryd.func72, Tryd.ntmps72
  go_wp2_with fail
  have hx : Bx2 W ((W.alloc (Obj.cells #[.int .u64 (x0 : Int), .int .u32 (x1 : Int)] 46)).alloc (Obj.cells #[.int .u64 0, .int .u32 0] 46)) #[.int .u64 (x0 : Int), .int .u32 (x1 : Int)] #[.int .u64 0, .int .u32 0] 46 46 := mkb2 W _ _ _ _
  generalize ((W.alloc (Obj.cells #[.int .u64 (x0 : Int), .int .u32 (x1 : Int)] 46)).alloc (Obj.cells #[.int .u64 0, .int .u32 0] 46)) = W5 at *
  refine (HE.out _ (H.out.later hx.bel)).mono ?_
  rintro e W6 ⟨E, rfl, hE, q, hw⟩
  have hy : Bx2 W W6 #[.int .u64 (x0 : Int), .int .u32 (x1 : Int)] #[.int .u64 0, .int .u32 0] 46 46 := by rw [hw]; exact hx.later (below_drewN _ q)
  have H6 : Hid (Bg w W6 c r ao cap l at_ er ∧ Bx2 W W6 #[.int .u64 (x0 : Int), .int .u32 (x1 : Int)] #[.int .u64 0, .int .u32 0] 46 46) := ⟨H.out.later hy.bel, hy⟩
  clear hw hx hy HE q00
  generalize hD : decide (at_ = l.length) = D at *
  go_wp2_with fail
  refine (needG D H6.out.1).mono ?_
  rintro e W7 ⟨rfl, hb7, hk7⟩
  rw [HN.out] at hb7
  have hcW : c < W.heap.size := block_lt H.out.bd
  have H7 : Hid (Bg w W7 c r ao cap l at_ 0 ∧ Bk2 c W W7 #[.int .u64 (x0 : Int), .int .u32 (x1 : Int)] #[.int .u64 0, .int .u32 0] 46 46) := ⟨hb7, Bk2.of hk7 H6.out.2 hcW⟩
  have kc1 := hb7.c1
  clear hb7 hk7 H6 hD
  go_wp2_with fail
  refine (wellG c 0 W7 kc1).mono ?_
  rintro e W8 ⟨rfl, hw⟩
  rw [hw]; clear hw
  have hy := H7.out.2
  have za0 : W7.cell? ⟨W.heap.size, 0, none⟩ = some (.int .u64 (x0 : Int)) := by rw [blk_at hy.a]; rfl
  have zb0 : W7.cell? ⟨W.heap.size + 1, 0, none⟩ = some (.int .u64 0) := by rw [blk_at hy.b]; rfl
  have yb0 : W7.frozen? ⟨W.heap.size + 1, 0, none⟩ = false := blk_free hy.b 0
  have za1 : W7.cell? ⟨W.heap.size, 1, none⟩ = some (.int .u32 (x1 : Int)) := by rw [blk_at hy.a]; rfl
  have zb1 : W7.cell? ⟨W.heap.size + 1, 1, none⟩ = some (.int .u32 0) := by rw [blk_at hy.b]; rfl
  have yb1 : W7.frozen? ⟨W.heap.size + 1, 1, none⟩ = false := blk_free hy.b 1
  clear hy
  go_wp2
  obtain ⟨hp, hq⟩ := putc2 H7.out.2.b (.int .u64 (x0 : Int)) (.int .u32 (x1 : Int))
  exact bodyPost_ret (results_cell_tmp1 rfl _ _ (W.heap.size + 1) 46 _ (0, 0) _ rfl hp Tryd.underlying46 rfl infoH) rfl ⟨rfl, H7.out.1.bel.trans (hq.below H7.out.1.bel.size (fun g hg => by have := H.out.bel.size; omega)), H7.out.2.kept.trans hq (fun g hg _ => by omega)⟩
set_option maxHeartbeats 2000000 in
theorem wholeH_no (x0 : Nat) (x1 : Nat) {w W : World} {c r : Nat} {ao : Option Addr} {cap : Nat} {l : List Nat} {at_ er : Nat} (z : Nat) (hz : z ≠ 0) (h : Bg w W c r ao cap l at_ er) (hn : ndE (decide (at_ = l.length)) er = z) :
    Calls Tryd.prog 72 #[.pointer (some ⟨c, 0, none⟩), .agg #[.int .u64 (x0 : Int), .int .u32 (x1 : Int)]] W fun e w' => e = .returned (.tuple #[.agg #[.int .u64 0, .int .u32 0], .int .i64 (z : Int)]) ∧ Below w.heap.size w w' ∧ KeptIn (fun g => g = c) W w' := by
  have HN : Hid (ndE (decide (at_ = l.length)) er = z) := hn
  have f0 : ((z : Int) == 0) = false := by rw [beq_eq_false_iff_ne]; omega
  clear hn hz
  have HE : Hid (∀ W, Bg w W c r ao cap l at_ er → Calls Tryd.prog 108 #[.pointer (some ⟨r, 0, none⟩)] W fun e w' => ∃ E : Int, e = .returned (.int .i64 E) ∧ (E == 0) = decide (at_ = l.length) ∧ ∃ q, w' = W.drewN q) := fun W h => rendG h
  have H : Hid (Bg w W c r ao cap l at_ er) := h
  clear h
  have q00 : ∀ o o', ((W.alloc o).alloc o').cell? ⟨c, 0, none⟩ = some (.pointer (some ⟨r, 0, none⟩)) := fun o o' => (H.out.later (below2 W o o')).c0
  go_enter Tryd.func72, Tryd.ntmps72
  go_wp2_with fail
  have hx : Bx2 W ((W.alloc (Obj.cells #[.int .u64 (x0 : Int), .int .u32 (x1 : Int)] 46)).alloc (Obj.cells #[.int .u64 0, .int .u32 0] 46)) #[.int .u64 (x0 : Int), .int .u32 (x1 : Int)] #[.int .u64 0, .int .u32 0] 46 46 := mkb2 W _ _ _ _
  generalize ((W.alloc (Obj.cells #[.int .u64 (x0 : Int), .int .u32 (x1 : Int)] 46)).alloc (Obj.cells #[.int .u64 0, .int .u32 0] 46)) = W5 at *
  refine (HE.out _ (H.out.later hx.bel)).mono ?_
  rintro e W6 ⟨E, rfl, hE, q, hw⟩
  have hy : Bx2 W W6 #[.int .u64 (x0 : Int), .int .u32 (x1 : Int)] #[.int .u64 0, .int .u32 0] 46 46 := by rw [hw]; exact hx.later (below_drewN _ q)
  have H6 : Hid (Bg w W6 c r ao cap l at_ er ∧ Bx2 W W6 #[.int .u64 (x0 : Int), .int .u32 (x1 : Int)] #[.int .u64 0, .int .u32 0] 46 46) := ⟨H.out.later hy.bel, hy⟩
  clear hw hx hy HE q00
  generalize hD : decide (at_ = l.length) = D at *
  go_wp2_with fail
  refine (needG D H6.out.1).mono ?_
  rintro e W7 ⟨rfl, hb7, hk7⟩
  rw [HN.out] at hb7
  have hcW : c < W.heap.size := block_lt H.out.bd
  have H7 : Hid (Bg w W7 c r ao cap l at_ z ∧ Bk2 c W W7 #[.int .u64 (x0 : Int), .int .u32 (x1 : Int)] #[.int .u64 0, .int .u32 0] 46 46) := ⟨hb7, Bk2.of hk7 H6.out.2 hcW⟩
  have kc1 := hb7.c1
  clear hb7 hk7 H6 hD
  go_wp2_with fail
  refine (wellG c z W7 kc1).mono ?_
  rintro e W8 ⟨rfl, hw⟩
  rw [hw]; clear hw
  rw [f0]
  have hy := H7.out.2
  have zb0 : W7.cell? ⟨W.heap.size + 1, 0, none⟩ = some (.int .u64 0) := by rw [blk_at hy.b]; rfl
  have yb0 : W7.frozen? ⟨W.heap.size + 1, 0, none⟩ = false := blk_free hy.b 0
  have zb1 : W7.cell? ⟨W.heap.size + 1, 1, none⟩ = some (.int .u32 0) := by rw [blk_at hy.b]; rfl
  have yb1 : W7.frozen? ⟨W.heap.size + 1, 1, none⟩ = false := blk_free hy.b 1
  clear hy
  have hN := below1 W7 (Obj.cells #[.int .u64 0, .int .u32 0] 46)
  have hc8 : (W7.alloc (Obj.cells #[.int .u64 0, .int .u32 0] 46)).cell? ⟨c, 1, none⟩ = some (.int .i64 (z : Int)) := cell_later hN kc1
  have hb8 := (H7.out.2.later hN).b
  have H8 : Hid (Below w.heap.size w (W7.alloc (Obj.cells #[.int .u64 0, .int .u32 0] 46)) ∧ KeptIn (fun g => g = c) W (W7.alloc (Obj.cells #[.int .u64 0, .int .u32 0] 46)) ∧ (W7.alloc (Obj.cells #[.int .u64 0, .int .u32 0] 46)).heap[W.heap.size + 1]? = some (.cells #[.int .u64 0, .int .u32 0] 46 (0, 0))) := ⟨H7.out.1.bel.trans (hN.mono H7.out.1.bel.size), (H7.out.2.later hN).kept, hb8⟩
  have zn0 : (W7.alloc (Obj.cells #[.int .u64 0, .int .u32 0] 46)).cell? ⟨W.heap.size + 1, 0, none⟩ = some (.int .u64 0) := by rw [blk_at hb8]; rfl
  have yn0 : (W7.alloc (Obj.cells #[.int .u64 0, .int .u32 0] 46)).frozen? ⟨W.heap.size + 1, 0, none⟩ = false := blk_free hb8 0
  have zn1 : (W7.alloc (Obj.cells #[.int .u64 0, .int .u32 0] 46)).cell? ⟨W.heap.size + 1, 1, none⟩ = some (.int .u32 0) := by rw [blk_at hb8]; rfl
  have yn1 : (W7.alloc (Obj.cells #[.int .u64 0, .int .u32 0] 46)).frozen? ⟨W.heap.size + 1, 1, none⟩ = false := blk_free hb8 1
  clear hN hb8
  go_wp2
  go_region
  go_wp2
  obtain ⟨hp, hq⟩ := putc2 H8.out.2.2 (.int .u64 0) (.int .u32 0)
  have hq' := hq.drewd
  exact bodyPost_ret (results_cell_tmp1 rfl _ _ (W.heap.size + 1) 46 _ (0, 0) _ rfl hp Tryd.underlying46 rfl infoH) rfl ⟨rfl, H8.out.1.trans (hq'.below H8.out.1.size (fun g hg => by have := H.out.bel.size; omega)), H8.out.2.1.trans hq' (fun g hg _ => by omega)⟩
end Go.Proofs.YtjikibhhhchgeaaDoor

namespace Go.Proofs.YtjikibhhhchgeaaDoor
open Go.RowKit
set_option linter.unusedVariables false
set_option linter.unusedSimpArgs false
set_option maxRecDepth 100000
set_option maxHeartbeats 4000000 in
theorem wholeI_ok (x0 : Nat) (x1 : Nat) (x2 : Nat) (x3 : ByteArray) (x4 : Nat) (x5 : Nat) (x6 : Nat) (x7 : Option Addr) (n7 c7 : Nat) {w W : World} {c r : Nat} {ao : Option Addr} {cap : Nat} {l : List Nat} {at_ er : Nat} (h : Bg w W c r ao cap l at_ er) (hn : ndE (decide (at_ = l.length)) er = 0) :
    Calls Tryd.prog 59 #[.pointer (some ⟨c, 0, none⟩), .agg #[.int .u16 (x0 : Int), .int .u64 (x1 : Int), .int .u16 (x2 : Int), .string x3, .int .u32 (x4 : Int), .int .u32 (x5 : Int), .int .u32 (x6 : Int), .slice x7 n7 c7]] W fun e w' => e = .returned (.tuple #[.agg #[.int .u16 (x0 : Int), .int .u64 (x1 : Int), .int .u16 (x2 : Int), .string x3, .int .u32 (x4 : Int), .int .u32 (x5 : Int), .int .u32 (x6 : Int), .slice x7 n7 c7], .int .i64 0]) ∧ Below w.heap.size w w' ∧ KeptIn (fun g => g = c) W w' := by
  have HN : Hid (ndE (decide (at_ = l.length)) er = 0) := hn
  clear hn
  have HE : Hid (∀ W, Bg w W c r ao cap l at_ er → Calls Tryd.prog 108 #[.pointer (some ⟨r, 0, none⟩)] W fun e w' => ∃ E : Int, e = .returned (.int .i64 E) ∧ (E == 0) = decide (at_ = l.length) ∧ ∃ q, w' = W.drewN q) := fun W h => rendG h
  have H : Hid (Bg w W c r ao cap l at_ er) := h
  clear h
  have q00 : ∀ o o', ((W.alloc o).alloc o').cell? ⟨c, 0, none⟩ = some (.pointer (some ⟨r, 0, none⟩)) := fun o o' => (H.out.later (below2 W o o')).c0
  go_enter Tryd.func59, Tryd.ntmps59
  go_wp2_with fail
  have hx : Bx2 W ((W.alloc (Obj.cells #[.int .u16 (x0 : Int), .int .u64 (x1 : Int), .int .u16 (x2 : Int), .string x3, .int .u32 (x4 : Int), .int .u32 (x5 : Int), .int .u32 (x6 : Int), .slice x7 n7 c7] 27)).alloc (Obj.cells #[.int .u16 0, .int .u64 0, .int .u16 0, .string ⟨#[]⟩, .int .u32 0, .int .u32 0, .int .u32 0, .slice none 0 0] 27)) #[.int .u16 (x0 : Int), .int .u64 (x1 : Int), .int .u16 (x2 : Int), .string x3, .int .u32 (x4 : Int), .int .u32 (x5 : Int), .int .u32 (x6 : Int), .slice x7 n7 c7] #[.int .u16 0, .int .u64 0, .int .u16 0, .string ⟨#[]⟩, .int .u32 0, .int .u32 0, .int .u32 0, .slice none 0 0] 27 27 := mkb2 W _ _ _ _
  generalize ((W.alloc (Obj.cells #[.int .u16 (x0 : Int), .int .u64 (x1 : Int), .int .u16 (x2 : Int), .string x3, .int .u32 (x4 : Int), .int .u32 (x5 : Int), .int .u32 (x6 : Int), .slice x7 n7 c7] 27)).alloc (Obj.cells #[.int .u16 0, .int .u64 0, .int .u16 0, .string ⟨#[]⟩, .int .u32 0, .int .u32 0, .int .u32 0, .slice none 0 0] 27)) = W5 at *
  refine (HE.out _ (H.out.later hx.bel)).mono ?_
  rintro e W6 ⟨E, rfl, hE, q, hw⟩
  have hy : Bx2 W W6 #[.int .u16 (x0 : Int), .int .u64 (x1 : Int), .int .u16 (x2 : Int), .string x3, .int .u32 (x4 : Int), .int .u32 (x5 : Int), .int .u32 (x6 : Int), .slice x7 n7 c7] #[.int .u16 0, .int .u64 0, .int .u16 0, .string ⟨#[]⟩, .int .u32 0, .int .u32 0, .int .u32 0, .slice none 0 0] 27 27 := by rw [hw]; exact hx.later (below_drewN _ q)
  have H6 : Hid (Bg w W6 c r ao cap l at_ er ∧ Bx2 W W6 #[.int .u16 (x0 : Int), .int .u64 (x1 : Int), .int .u16 (x2 : Int), .string x3, .int .u32 (x4 : Int), .int .u32 (x5 : Int), .int .u32 (x6 : Int), .slice x7 n7 c7] #[.int .u16 0, .int .u64 0, .int .u16 0, .string ⟨#[]⟩, .int .u32 0, .int .u32 0, .int .u32 0, .slice none 0 0] 27 27) := ⟨H.out.later hy.bel, hy⟩
  clear hw hx hy HE q00
  generalize hD : decide (at_ = l.length) = D at *
  go_wp2_with fail
  refine (needG D H6.out.1).mono ?_
  rintro e W7 ⟨rfl, hb7, hk7⟩
  rw [HN.out] at hb7
  have hcW : c < W.heap.size := block_lt H.out.bd
  have H7 : Hid (Bg w W7 c r ao cap l at_ 0 ∧ Bk2 c W W7 #[.int .u16 (x0 : Int), .int .u64 (x1 : Int), .int .u16 (x2 : Int), .string x3, .int .u32 (x4 : Int), .int .u32 (x5 : Int), .int .u32 (x6 : Int), .slice x7 n7 c7] #[.int .u16 0, .int .u64 0, .int .u16 0, .string ⟨#[]⟩, .int .u32 0, .int .u32 0, .int .u32 0, .slice none 0 0] 27 27) := ⟨hb7, Bk2.of hk7 H6.out.2 hcW⟩
  have kc1 := hb7.c1
  clear hb7 hk7 H6 hD
  go_wp2_with fail
  refine (wellG c 0 W7 kc1).mono ?_
  rintro e W8 ⟨rfl, hw⟩
  rw [hw]; clear hw
  have hy := H7.out.2
  have za0 : W7.cell? ⟨W.heap.size, 0, none⟩ = some (.int .u16 (x0 : Int)) := by rw [blk_at hy.a]; rfl
  have zb0 : W7.cell? ⟨W.heap.size + 1, 0, none⟩ = some (.int .u16 0) := by rw [blk_at hy.b]; rfl
  have yb0 : W7.frozen? ⟨W.heap.size + 1, 0, none⟩ = false := blk_free hy.b 0
  have za1 : W7.cell? ⟨W.heap.size, 1, none⟩ = some (.int .u64 (x1 : Int)) := by rw [blk_at hy.a]; rfl
  have zb1 : W7.cell? ⟨W.heap.size + 1, 1, none⟩ = some (.int .u64 0) := by rw [blk_at hy.b]; rfl
  have yb1 : W7.frozen? ⟨W.heap.size + 1, 1, none⟩ = false := blk_free hy.b 1
  have za2 : W7.cell? ⟨W.heap.size, 2, none⟩ = some (.int .u16 (x2 : Int)) := by rw [blk_at hy.a]; rfl
  have zb2 : W7.cell? ⟨W.heap.size + 1, 2, none⟩ = some (.int .u16 0) := by rw [blk_at hy.b]; rfl
  have yb2 : W7.frozen? ⟨W.heap.size + 1, 2, none⟩ = false := blk_free hy.b 2
  have za3 : W7.cell? ⟨W.heap.size, 3, none⟩ = some (.string x3) := by rw [blk_at hy.a]; rfl
  have zb3 : W7.cell? ⟨W.heap.size + 1, 3, none⟩ = some (.string ⟨#[]⟩) := by rw [blk_at hy.b]; rfl
  have yb3 : W7.frozen? ⟨W.heap.size + 1, 3, none⟩ = false := blk_free hy.b 3
  have za4 : W7.cell? ⟨W.heap.size, 4, none⟩ = some (.int .u32 (x4 : Int)) := by rw [blk_at hy.a]; rfl
  have zb4 : W7.cell? ⟨W.heap.size + 1, 4, none⟩ = some (.int .u32 0) := by rw [blk_at hy.b]; rfl
  have yb4 : W7.frozen? ⟨W.heap.size + 1, 4, none⟩ = false := blk_free hy.b 4
  have za5 : W7.cell? ⟨W.heap.size, 5, none⟩ = some (.int .u32 (x5 : Int)) := by rw [blk_at hy.a]; rfl
  have zb5 : W7.cell? ⟨W.heap.size + 1, 5, none⟩ = some (.int .u32 0) := by rw [blk_at hy.b]; rfl
  have yb5 : W7.frozen? ⟨W.heap.size + 1, 5, none⟩ = false := blk_free hy.b 5
  have za6 : W7.cell? ⟨W.heap.size, 6, none⟩ = some (.int .u32 (x6 : Int)) := by rw [blk_at hy.a]; rfl
  have zb6 : W7.cell? ⟨W.heap.size + 1, 6, none⟩ = some (.int .u32 0) := by rw [blk_at hy.b]; rfl
  have yb6 : W7.frozen? ⟨W.heap.size + 1, 6, none⟩ = false := blk_free hy.b 6
  have za7 : W7.cell? ⟨W.heap.size, 7, none⟩ = some (.slice x7 n7 c7) := by rw [blk_at hy.a]; rfl
  have zb7 : W7.cell? ⟨W.heap.size + 1, 7, none⟩ = some (.slice none 0 0) := by rw [blk_at hy.b]; rfl
  have yb7 : W7.frozen? ⟨W.heap.size + 1, 7, none⟩ = false := blk_free hy.b 7
  clear hy
  go_wp2
  obtain ⟨hp, hq⟩ := putc8 H7.out.2.b (.int .u16 (x0 : Int)) (.int .u64 (x1 : Int)) (.int .u16 (x2 : Int)) (.string x3) (.int .u32 (x4 : Int)) (.int .u32 (x5 : Int)) (.int .u32 (x6 : Int)) (.slice x7 n7 c7)
  generalize ((((((((W7.setCell ⟨W.heap.size + 1, 0, none⟩ (.int .u16 (x0 : Int))).setCell ⟨W.heap.size + 1, 1, none⟩ (.int .u64 (x1 : Int))).setCell ⟨W.heap.size + 1, 2, none⟩ (.int .u16 (x2 : Int))).setCell ⟨W.heap.size + 1, 3, none⟩ (.string x3)).setCell ⟨W.heap.size + 1, 4, none⟩ (.int .u32 (x4 : Int))).setCell ⟨W.heap.size + 1, 5, none⟩ (.int .u32 (x5 : Int))).setCell ⟨W.heap.size + 1, 6, none⟩ (.int .u32 (x6 : Int))).setCell ⟨W.heap.size + 1, 7, none⟩ (.slice x7 n7 c7)) = Wz at hp hq ⊢
  exact bodyPost_ret (results_cell_tmp1 rfl _ _ (W.heap.size + 1) 27 _ (0, 0) _ rfl hp Tryd.underlying27 rfl infoI) rfl ⟨rfl, H7.out.1.bel.trans (hq.below H7.out.1.bel.size (fun g hg => by have := H.out.bel.size; omega)), H7.out.2.kept.trans hq (fun g hg _ => by omega)⟩
set_option maxHeartbeats 4000000 in
theorem wholeI_no (x0 : Nat) (x1 : Nat) (x2 : Nat) (x3 : ByteArray) (x4 : Nat) (x5 : Nat) (x6 : Nat) (x7 : Option Addr) (n7 c7 : Nat) {w W : World} {c r : Nat} {ao : Option Addr} {cap : Nat} {l : List Nat} {at_ er : Nat} (z : Nat) (hz : z ≠ 0) (h : Bg w W c r ao cap l at_ er) (hn : ndE (decide (at_ = l.length)) er = z) :
    Calls Tryd.prog 59 #[.pointer (some ⟨c, 0, none⟩), .agg #[.int .u16 (x0 : Int), .int .u64 (x1 : Int), .int .u16 (x2 : Int), .string x3, .int .u32 (x4 : Int), .int .u32 (x5 : Int), .int .u32 (x6 : Int), .slice x7 n7 c7]] W fun e w' => e = .returned (.tuple #[.agg #[.int .u16 0, .int .u64 0, .int .u16 0, .string ⟨#[]⟩, .int .u32 0, .int .u32 0, .int .u32 0, .slice none 0 0], .int .i64 (z : Int)]) ∧ Below w.heap.size w w' ∧ KeptIn (fun g => g = c) W w' := by
  have HN : Hid (ndE (decide (at_ = l.length)) er = z) := hn
  have f0 : ((z : Int) == 0) = false := by rw [beq_eq_false_iff_ne]; omega
  clear hn hz
  have HE : Hid (∀ W, Bg w W c r ao cap l at_ er → Calls Tryd.prog 108 #[.pointer (some ⟨r, 0, none⟩)] W fun e w' => ∃ E : Int, e = .returned (.int .i64 E) ∧ (E == 0) = decide (at_ = l.length) ∧ ∃ q, w' = W.drewN q) := fun W h => rendG h
  have H : Hid (Bg w W c r ao cap l at_ er) := h
  clear h
  have q00 : ∀ o o', ((W.alloc o).alloc o').cell? ⟨c, 0, none⟩ = some (.pointer (some ⟨r, 0, none⟩)) := fun o o' => (H.out.later (below2 W o o')).c0
  go_enter Tryd.func59, Tryd.ntmps59
  go_wp2_with fail
  have hx : Bx2 W ((W.alloc (Obj.cells #[.int .u16 (x0 : Int), .int .u64 (x1 : Int), .int .u16 (x2 : Int), .string x3, .int .u32 (x4 : Int), .int .u32 (x5 : Int), .int .u32 (x6 : Int), .slice x7 n7 c7] 27)).alloc (Obj.cells #[.int .u16 0, .int .u64 0, .int .u16 0, .string ⟨#[]⟩, .int .u32 0, .int .u32 0, .int .u32 0, .slice none 0 0] 27)) #[.int .u16 (x0 : Int), .int .u64 (x1 : Int), .int .u16 (x2 : Int), .string x3, .int .u32 (x4 : Int), .int .u32 (x5 : Int), .int .u32 (x6 : Int), .slice x7 n7 c7] #[.int .u16 0, .int .u64 0, .int .u16 0, .string ⟨#[]⟩, .int .u32 0, .int .u32 0, .int .u32 0, .slice none 0 0] 27 27 := mkb2 W _ _ _ _
  generalize ((W.alloc (Obj.cells #[.int .u16 (x0 : Int), .int .u64 (x1 : Int), .int .u16 (x2 : Int), .string x3, .int .u32 (x4 : Int), .int .u32 (x5 : Int), .int .u32 (x6 : Int), .slice x7 n7 c7] 27)).alloc (Obj.cells #[.int .u16 0, .int .u64 0, .int .u16 0, .string ⟨#[]⟩, .int .u32 0, .int .u32 0, .int .u32 0, .slice none 0 0] 27)) = W5 at *
  refine (HE.out _ (H.out.later hx.bel)).mono ?_
  rintro e W6 ⟨E, rfl, hE, q, hw⟩
  have hy : Bx2 W W6 #[.int .u16 (x0 : Int), .int .u64 (x1 : Int), .int .u16 (x2 : Int), .string x3, .int .u32 (x4 : Int), .int .u32 (x5 : Int), .int .u32 (x6 : Int), .slice x7 n7 c7] #[.int .u16 0, .int .u64 0, .int .u16 0, .string ⟨#[]⟩, .int .u32 0, .int .u32 0, .int .u32 0, .slice none 0 0] 27 27 := by rw [hw]; exact hx.later (below_drewN _ q)
  have H6 : Hid (Bg w W6 c r ao cap l at_ er ∧ Bx2 W W6 #[.int .u16 (x0 : Int), .int .u64 (x1 : Int), .int .u16 (x2 : Int), .string x3, .int .u32 (x4 : Int), .int .u32 (x5 : Int), .int .u32 (x6 : Int), .slice x7 n7 c7] #[.int .u16 0, .int .u64 0, .int .u16 0, .string ⟨#[]⟩, .int .u32 0, .int .u32 0, .int .u32 0, .slice none 0 0] 27 27) := ⟨H.out.later hy.bel, hy⟩
  clear hw hx hy HE q00
  generalize hD : decide (at_ = l.length) = D at *
  go_wp2_with fail
  refine (needG D H6.out.1).mono ?_
  rintro e W7 ⟨rfl, hb7, hk7⟩
  rw [HN.out] at hb7
  have hcW : c < W.heap.size := block_lt H.out.bd
  have H7 : Hid (Bg w W7 c r ao cap l at_ z ∧ Bk2 c W W7 #[.int .u16 (x0 : Int), .int .u64 (x1 : Int), .int .u16 (x2 : Int), .string x3, .int .u32 (x4 : Int), .int .u32 (x5 : Int), .int .u32 (x6 : Int), .slice x7 n7 c7] #[.int .u16 0, .int .u64 0, .int .u16 0, .string ⟨#[]⟩, .int .u32 0, .int .u32 0, .int .u32 0, .slice none 0 0] 27 27) := ⟨hb7, Bk2.of hk7 H6.out.2 hcW⟩
  have kc1 := hb7.c1
  clear hb7 hk7 H6 hD
  go_wp2_with fail
  refine (wellG c z W7 kc1).mono ?_
  rintro e W8 ⟨rfl, hw⟩
  rw [hw]; clear hw
  rw [f0]
  have hy := H7.out.2
  have zb0 : W7.cell? ⟨W.heap.size + 1, 0, none⟩ = some (.int .u16 0) := by rw [blk_at hy.b]; rfl
  have yb0 : W7.frozen? ⟨W.heap.size + 1, 0, none⟩ = false := blk_free hy.b 0
  have zb1 : W7.cell? ⟨W.heap.size + 1, 1, none⟩ = some (.int .u64 0) := by rw [blk_at hy.b]; rfl
  have yb1 : W7.frozen? ⟨W.heap.size + 1, 1, none⟩ = false := blk_free hy.b 1
  have zb2 : W7.cell? ⟨W.heap.size + 1, 2, none⟩ = some (.int .u16 0) := by rw [blk_at hy.b]; rfl
  have yb2 : W7.frozen? ⟨W.heap.size + 1, 2, none⟩ = false := blk_free hy.b 2
  have zb3 : W7.cell? ⟨W.heap.size + 1, 3, none⟩ = some (.string ⟨#[]⟩) := by rw [blk_at hy.b]; rfl
  have yb3 : W7.frozen? ⟨W.heap.size + 1, 3, none⟩ = false := blk_free hy.b 3
  have zb4 : W7.cell? ⟨W.heap.size + 1, 4, none⟩ = some (.int .u32 0) := by rw [blk_at hy.b]; rfl
  have yb4 : W7.frozen? ⟨W.heap.size + 1, 4, none⟩ = false := blk_free hy.b 4
  have zb5 : W7.cell? ⟨W.heap.size + 1, 5, none⟩ = some (.int .u32 0) := by rw [blk_at hy.b]; rfl
  have yb5 : W7.frozen? ⟨W.heap.size + 1, 5, none⟩ = false := blk_free hy.b 5
  have zb6 : W7.cell? ⟨W.heap.size + 1, 6, none⟩ = some (.int .u32 0) := by rw [blk_at hy.b]; rfl
  have yb6 : W7.frozen? ⟨W.heap.size + 1, 6, none⟩ = false := blk_free hy.b 6
  have zb7 : W7.cell? ⟨W.heap.size + 1, 7, none⟩ = some (.slice none 0 0) := by rw [blk_at hy.b]; rfl
  have yb7 : W7.frozen? ⟨W.heap.size + 1, 7, none⟩ = false := blk_free hy.b 7
  clear hy
  have hN := below1 W7 (Obj.cells #[.int .u16 0, .int .u64 0, .int .u16 0, .string ⟨#[]⟩, .int .u32 0, .int .u32 0, .int .u32 0, .slice none 0 0] 27)
  have hc8 : (W7.alloc (Obj.cells #[.int .u16 0, .int .u64 0, .int .u16 0, .string ⟨#[]⟩, .int .u32 0, .int .u32 0, .int .u32 0, .slice none 0 0] 27)).cell? ⟨c, 1, none⟩ = some (.int .i64 (z : Int)) := cell_later hN kc1
  have hb8 := (H7.out.2.later hN).b
  have H8 : Hid (Below w.heap.size w (W7.alloc (Obj.cells #[.int .u16 0, .int .u64 0, .int .u16 0, .string ⟨#[]⟩, .int .u32 0, .int .u32 0, .int .u32 0, .slice none 0 0] 27)) ∧ KeptIn (fun g => g = c) W (W7.alloc (Obj.cells #[.int .u16 0, .int .u64 0, .int .u16 0, .string ⟨#[]⟩, .int .u32 0, .int .u32 0, .int .u32 0, .slice none 0 0] 27)) ∧ (W7.alloc (Obj.cells #[.int .u16 0, .int .u64 0, .int .u16 0, .string ⟨#[]⟩, .int .u32 0, .int .u32 0, .int .u32 0, .slice none 0 0] 27)).heap[W.heap.size + 1]? = some (.cells #[.int .u16 0, .int .u64 0, .int .u16 0, .string ⟨#[]⟩, .int .u32 0, .int .u32 0, .int .u32 0, .slice none 0 0] 27 (0, 0))) := ⟨H7.out.1.bel.trans (hN.mono H7.out.1.bel.size), (H7.out.2.later hN).kept, hb8⟩
  have zn0 : (W7.alloc (Obj.cells #[.int .u16 0, .int .u64 0, .int .u16 0, .string ⟨#[]⟩, .int .u32 0, .int .u32 0, .int .u32 0, .slice none 0 0] 27)).cell? ⟨W.heap.size + 1, 0, none⟩ = some (.int .u16 0) := by rw [blk_at hb8]; rfl
  have yn0 : (W7.alloc (Obj.cells #[.int .u16 0, .int .u64 0, .int .u16 0, .string ⟨#[]⟩, .int .u32 0, .int .u32 0, .int .u32 0, .slice none 0 0] 27)).frozen? ⟨W.heap.size + 1, 0, none⟩ = false := blk_free hb8 0
  have zn1 : (W7.alloc (Obj.cells #[.int .u16 0, .int .u64 0, .int .u16 0, .string ⟨#[]⟩, .int .u32 0, .int .u32 0, .int .u32 0, .slice none 0 0] 27)).cell? ⟨W.heap.size + 1, 1, none⟩ = some (.int .u64 0) := by rw [blk_at hb8]; rfl
  have yn1 : (W7.alloc (Obj.cells #[.int .u16 0, .int .u64 0, .int .u16 0, .string ⟨#[]⟩, .int .u32 0, .int .u32 0, .int .u32 0, .slice none 0 0] 27)).frozen? ⟨W.heap.size + 1, 1, none⟩ = false := blk_free hb8 1
  have zn2 : (W7.alloc (Obj.cells #[.int .u16 0, .int .u64 0, .int .u16 0, .string ⟨#[]⟩, .int .u32 0, .int .u32 0, .int .u32 0, .slice none 0 0] 27)).cell? ⟨W.heap.size + 1, 2, none⟩ = some (.int .u16 0) := by rw [blk_at hb8]; rfl
  have yn2 : (W7.alloc (Obj.cells #[.int .u16 0, .int .u64 0, .int .u16 0, .string ⟨#[]⟩, .int .u32 0, .int .u32 0, .int .u32 0, .slice none 0 0] 27)).frozen? ⟨W.heap.size + 1, 2, none⟩ = false := blk_free hb8 2
  have zn3 : (W7.alloc (Obj.cells #[.int .u16 0, .int .u64 0, .int .u16 0, .string ⟨#[]⟩, .int .u32 0, .int .u32 0, .int .u32 0, .slice none 0 0] 27)).cell? ⟨W.heap.size + 1, 3, none⟩ = some (.string ⟨#[]⟩) := by rw [blk_at hb8]; rfl
  have yn3 : (W7.alloc (Obj.cells #[.int .u16 0, .int .u64 0, .int .u16 0, .string ⟨#[]⟩, .int .u32 0, .int .u32 0, .int .u32 0, .slice none 0 0] 27)).frozen? ⟨W.heap.size + 1, 3, none⟩ = false := blk_free hb8 3
  have zn4 : (W7.alloc (Obj.cells #[.int .u16 0, .int .u64 0, .int .u16 0, .string ⟨#[]⟩, .int .u32 0, .int .u32 0, .int .u32 0, .slice none 0 0] 27)).cell? ⟨W.heap.size + 1, 4, none⟩ = some (.int .u32 0) := by rw [blk_at hb8]; rfl
  have yn4 : (W7.alloc (Obj.cells #[.int .u16 0, .int .u64 0, .int .u16 0, .string ⟨#[]⟩, .int .u32 0, .int .u32 0, .int .u32 0, .slice none 0 0] 27)).frozen? ⟨W.heap.size + 1, 4, none⟩ = false := blk_free hb8 4
  have zn5 : (W7.alloc (Obj.cells #[.int .u16 0, .int .u64 0, .int .u16 0, .string ⟨#[]⟩, .int .u32 0, .int .u32 0, .int .u32 0, .slice none 0 0] 27)).cell? ⟨W.heap.size + 1, 5, none⟩ = some (.int .u32 0) := by rw [blk_at hb8]; rfl
  have yn5 : (W7.alloc (Obj.cells #[.int .u16 0, .int .u64 0, .int .u16 0, .string ⟨#[]⟩, .int .u32 0, .int .u32 0, .int .u32 0, .slice none 0 0] 27)).frozen? ⟨W.heap.size + 1, 5, none⟩ = false := blk_free hb8 5
  have zn6 : (W7.alloc (Obj.cells #[.int .u16 0, .int .u64 0, .int .u16 0, .string ⟨#[]⟩, .int .u32 0, .int .u32 0, .int .u32 0, .slice none 0 0] 27)).cell? ⟨W.heap.size + 1, 6, none⟩ = some (.int .u32 0) := by rw [blk_at hb8]; rfl
  have yn6 : (W7.alloc (Obj.cells #[.int .u16 0, .int .u64 0, .int .u16 0, .string ⟨#[]⟩, .int .u32 0, .int .u32 0, .int .u32 0, .slice none 0 0] 27)).frozen? ⟨W.heap.size + 1, 6, none⟩ = false := blk_free hb8 6
  have zn7 : (W7.alloc (Obj.cells #[.int .u16 0, .int .u64 0, .int .u16 0, .string ⟨#[]⟩, .int .u32 0, .int .u32 0, .int .u32 0, .slice none 0 0] 27)).cell? ⟨W.heap.size + 1, 7, none⟩ = some (.slice none 0 0) := by rw [blk_at hb8]; rfl
  have yn7 : (W7.alloc (Obj.cells #[.int .u16 0, .int .u64 0, .int .u16 0, .string ⟨#[]⟩, .int .u32 0, .int .u32 0, .int .u32 0, .slice none 0 0] 27)).frozen? ⟨W.heap.size + 1, 7, none⟩ = false := blk_free hb8 7
  clear hN hb8
  go_wp2
  go_region
  go_wp2
  obtain ⟨hp, hq⟩ := putc8 H8.out.2.2 (.int .u16 0) (.int .u64 0) (.int .u16 0) (.string ⟨#[]⟩) (.int .u32 0) (.int .u32 0) (.int .u32 0) (.slice none 0 0)
  generalize (((((((((W7.alloc (Obj.cells #[.int .u16 0, .int .u64 0, .int .u16 0, .string ⟨#[]⟩, .int .u32 0, .int .u32 0, .int .u32 0, .slice none 0 0] 27)).setCell ⟨W.heap.size + 1, 0, none⟩ (.int .u16 0)).setCell ⟨W.heap.size + 1, 1, none⟩ (.int .u64 0)).setCell ⟨W.heap.size + 1, 2, none⟩ (.int .u16 0)).setCell ⟨W.heap.size + 1, 3, none⟩ (.string ⟨#[]⟩)).setCell ⟨W.heap.size + 1, 4, none⟩ (.int .u32 0)).setCell ⟨W.heap.size + 1, 5, none⟩ (.int .u32 0)).setCell ⟨W.heap.size + 1, 6, none⟩ (.int .u32 0)).setCell ⟨W.heap.size + 1, 7, none⟩ (.slice none 0 0)) = Wz at hp hq ⊢
  have hq' := hq.drewd
  exact bodyPost_ret (results_cell_tmp1 rfl _ _ (W.heap.size + 1) 27 _ (0, 0) _ rfl hp Tryd.underlying27 rfl infoI) rfl ⟨rfl, H8.out.1.trans (hq'.below H8.out.1.size (fun g hg => by have := H.out.bel.size; omega)), H8.out.2.1.trans hq' (fun g hg _ => by omega)⟩
end Go.Proofs.YtjikibhhhchgeaaDoor

namespace Go.Proofs.YtjikibhhhchgeaaDoor
open Go.RowKit
set_option linter.unusedVariables false
set_option linter.unusedSimpArgs false
set_option maxRecDepth 100000
set_option maxHeartbeats 2000000 in
theorem wholeE_ok (x0 : Nat) (x1 : ByteArray) (x2 : Bool) (x3 : Nat) {w W : World} {c r : Nat} {ao : Option Addr} {cap : Nat} {l : List Nat} {at_ er : Nat} (h : Bg w W c r ao cap l at_ er) (hn : ndE (decide (at_ = l.length)) er = 0) :
    Calls Tryd.prog 70 #[.pointer (some ⟨c, 0, none⟩), .agg #[.int .u32 (x0 : Int), .string x1, .bool x2, .int .u64 (x3 : Int)]] W fun e w' => e = .returned (.tuple #[.agg #[.int .u32 (x0 : Int), .string x1, .bool x2, .int .u64 (x3 : Int)], .int .i64 0]) ∧ Below w.heap.size w w' ∧ KeptIn (fun g => g = c) W w' := by
  have HN : Hid (ndE (decide (at_ = l.length)) er = 0) := hn
  clear hn
  have HE : Hid (∀ W, Bg w W c r ao cap l at_ er → Calls Tryd.prog 108 #[.pointer (some ⟨r, 0, none⟩)] W fun e w' => ∃ E : Int, e = .returned (.int .i64 E) ∧ (E == 0) = decide (at_ = l.length) ∧ ∃ q, w' = W.drewN q) := fun W h => rendG h
  have H : Hid (Bg w W c r ao cap l at_ er) := h
  clear h
  have q00 : ∀ o o', ((W.alloc o).alloc o').cell? ⟨c, 0, none⟩ = some (.pointer (some ⟨r, 0, none⟩)) := fun o o' => (H.out.later (below2 W o o')).c0
  go_enter Tryd.func70, Tryd.ntmps70
  go_wp2_with fail
  have hx : Bx2 W ((W.alloc (Obj.cells #[.int .u32 (x0 : Int), .string x1, .bool x2, .int .u64 (x3 : Int)] 42)).alloc (Obj.cells #[.int .u32 0, .string ⟨#[]⟩, .bool false, .int .u64 0] 42)) #[.int .u32 (x0 : Int), .string x1, .bool x2, .int .u64 (x3 : Int)] #[.int .u32 0, .string ⟨#[]⟩, .bool false, .int .u64 0] 42 42 := mkb2 W _ _ _ _
  generalize ((W.alloc (Obj.cells #[.int .u32 (x0 : Int), .string x1, .bool x2, .int .u64 (x3 : Int)] 42)).alloc (Obj.cells #[.int .u32 0, .string ⟨#[]⟩, .bool false, .int .u64 0] 42)) = W5 at *
  refine (HE.out _ (H.out.later hx.bel)).mono ?_
  rintro e W6 ⟨E, rfl, hE, q, hw⟩
  have hy : Bx2 W W6 #[.int .u32 (x0 : Int), .string x1, .bool x2, .int .u64 (x3 : Int)] #[.int .u32 0, .string ⟨#[]⟩, .bool false, .int .u64 0] 42 42 := by rw [hw]; exact hx.later (below_drewN _ q)
  have H6 : Hid (Bg w W6 c r ao cap l at_ er ∧ Bx2 W W6 #[.int .u32 (x0 : Int), .string x1, .bool x2, .int .u64 (x3 : Int)] #[.int .u32 0, .string ⟨#[]⟩, .bool false, .int .u64 0] 42 42) := ⟨H.out.later hy.bel, hy⟩
  clear hw hx hy HE q00
  generalize hD : decide (at_ = l.length) = D at *
  go_wp2_with fail
  refine (needG D H6.out.1).mono ?_
  rintro e W7 ⟨rfl, hb7, hk7⟩
  rw [HN.out] at hb7
  have hcW : c < W.heap.size := block_lt H.out.bd
  have H7 : Hid (Bg w W7 c r ao cap l at_ 0 ∧ Bk2 c W W7 #[.int .u32 (x0 : Int), .string x1, .bool x2, .int .u64 (x3 : Int)] #[.int .u32 0, .string ⟨#[]⟩, .bool false, .int .u64 0] 42 42) := ⟨hb7, Bk2.of hk7 H6.out.2 hcW⟩
  have kc1 := hb7.c1
  clear hb7 hk7 H6 hD
  go_wp2_with fail
  refine (wellG c 0 W7 kc1).mono ?_
  rintro e W8 ⟨rfl, hw⟩
  rw [hw]; clear hw
  have hy := H7.out.2
  have za0 : W7.cell? ⟨W.heap.size, 0, none⟩ = some (.int .u32 (x0 : Int)) := by rw [blk_at hy.a]; rfl
  have zb0 : W7.cell? ⟨W.heap.size + 1, 0, none⟩ = some (.int .u32 0) := by rw [blk_at hy.b]; rfl
  have yb0 : W7.frozen? ⟨W.heap.size + 1, 0, none⟩ = false := blk_free hy.b 0
  have za1 : W7.cell? ⟨W.heap.size, 1, none⟩ = some (.string x1) := by rw [blk_at hy.a]; rfl
  have zb1 : W7.cell? ⟨W.heap.size + 1, 1, none⟩ = some (.string ⟨#[]⟩) := by rw [blk_at hy.b]; rfl
  have yb1 : W7.frozen? ⟨W.heap.size + 1, 1, none⟩ = false := blk_free hy.b 1
  have za2 : W7.cell? ⟨W.heap.size, 2, none⟩ = some (.bool x2) := by rw [blk_at hy.a]; rfl
  have zb2 : W7.cell? ⟨W.heap.size + 1, 2, none⟩ = some (.bool false) := by rw [blk_at hy.b]; rfl
  have yb2 : W7.frozen? ⟨W.heap.size + 1, 2, none⟩ = false := blk_free hy.b 2
  have za3 : W7.cell? ⟨W.heap.size, 3, none⟩ = some (.int .u64 (x3 : Int)) := by rw [blk_at hy.a]; rfl
  have zb3 : W7.cell? ⟨W.heap.size + 1, 3, none⟩ = some (.int .u64 0) := by rw [blk_at hy.b]; rfl
  have yb3 : W7.frozen? ⟨W.heap.size + 1, 3, none⟩ = false := blk_free hy.b 3
  clear hy
  go_wp2
  obtain ⟨hp, hq⟩ := putc4 H7.out.2.b (.int .u32 (x0 : Int)) (.string x1) (.bool x2) (.int .u64 (x3 : Int))
  exact bodyPost_ret (results_cell_tmp1 rfl _ _ (W.heap.size + 1) 42 _ (0, 0) _ rfl hp Tryd.underlying42 rfl infoE) rfl ⟨rfl, H7.out.1.bel.trans (hq.below H7.out.1.bel.size (fun g hg => by have := H.out.bel.size; omega)), H7.out.2.kept.trans hq (fun g hg _ => by omega)⟩
set_option maxHeartbeats 2000000 in
theorem wholeE_no (x0 : Nat) (x1 : ByteArray) (x2 : Bool) (x3 : Nat) {w W : World} {c r : Nat} {ao : Option Addr} {cap : Nat} {l : List Nat} {at_ er : Nat} (z : Nat) (hz : z ≠ 0) (h : Bg w W c r ao cap l at_ er) (hn : ndE (decide (at_ = l.length)) er = z) :
    Calls Tryd.prog 70 #[.pointer (some ⟨c, 0, none⟩), .agg #[.int .u32 (x0 : Int), .string x1, .bool x2, .int .u64 (x3 : Int)]] W fun e w' => e = .returned (.tuple #[.agg #[.int .u32 0, .string ⟨#[]⟩, .bool false, .int .u64 0], .int .i64 (z : Int)]) ∧ Below w.heap.size w w' ∧ KeptIn (fun g => g = c) W w' := by
  have HN : Hid (ndE (decide (at_ = l.length)) er = z) := hn
  have f0 : ((z : Int) == 0) = false := by rw [beq_eq_false_iff_ne]; omega
  clear hn hz
  have HE : Hid (∀ W, Bg w W c r ao cap l at_ er → Calls Tryd.prog 108 #[.pointer (some ⟨r, 0, none⟩)] W fun e w' => ∃ E : Int, e = .returned (.int .i64 E) ∧ (E == 0) = decide (at_ = l.length) ∧ ∃ q, w' = W.drewN q) := fun W h => rendG h
  have H : Hid (Bg w W c r ao cap l at_ er) := h
  clear h
  have q00 : ∀ o o', ((W.alloc o).alloc o').cell? ⟨c, 0, none⟩ = some (.pointer (some ⟨r, 0, none⟩)) := fun o o' => (H.out.later (below2 W o o')).c0
  go_enter Tryd.func70, Tryd.ntmps70
  go_wp2_with fail
  have hx : Bx2 W ((W.alloc (Obj.cells #[.int .u32 (x0 : Int), .string x1, .bool x2, .int .u64 (x3 : Int)] 42)).alloc (Obj.cells #[.int .u32 0, .string ⟨#[]⟩, .bool false, .int .u64 0] 42)) #[.int .u32 (x0 : Int), .string x1, .bool x2, .int .u64 (x3 : Int)] #[.int .u32 0, .string ⟨#[]⟩, .bool false, .int .u64 0] 42 42 := mkb2 W _ _ _ _
  generalize ((W.alloc (Obj.cells #[.int .u32 (x0 : Int), .string x1, .bool x2, .int .u64 (x3 : Int)] 42)).alloc (Obj.cells #[.int .u32 0, .string ⟨#[]⟩, .bool false, .int .u64 0] 42)) = W5 at *
  refine (HE.out _ (H.out.later hx.bel)).mono ?_
  rintro e W6 ⟨E, rfl, hE, q, hw⟩
  have hy : Bx2 W W6 #[.int .u32 (x0 : Int), .string x1, .bool x2, .int .u64 (x3 : Int)] #[.int .u32 0, .string ⟨#[]⟩, .bool false, .int .u64 0] 42 42 := by rw [hw]; exact hx.later (below_drewN _ q)
  have H6 : Hid (Bg w W6 c r ao cap l at_ er ∧ Bx2 W W6 #[.int .u32 (x0 : Int), .string x1, .bool x2, .int .u64 (x3 : Int)] #[.int .u32 0, .string ⟨#[]⟩, .bool false, .int .u64 0] 42 42) := ⟨H.out.later hy.bel, hy⟩
  clear hw hx hy HE q00
  generalize hD : decide (at_ = l.length) = D at *
  go_wp2_with fail
  refine (needG D H6.out.1).mono ?_
  rintro e W7 ⟨rfl, hb7, hk7⟩
  rw [HN.out] at hb7
  have hcW : c < W.heap.size := block_lt H.out.bd
  have H7 : Hid (Bg w W7 c r ao cap l at_ z ∧ Bk2 c W W7 #[.int .u32 (x0 : Int), .string x1, .bool x2, .int .u64 (x3 : Int)] #[.int .u32 0, .string ⟨#[]⟩, .bool false, .int .u64 0] 42 42) := ⟨hb7, Bk2.of hk7 H6.out.2 hcW⟩
  have kc1 := hb7.c1
  clear hb7 hk7 H6 hD
  go_wp2_with fail
  refine (wellG c z W7 kc1).mono ?_
  rintro e W8 ⟨rfl, hw⟩
  rw [hw]; clear hw
  rw [f0]
  have hy := H7.out.2
  have zb0 : W7.cell? ⟨W.heap.size + 1, 0, none⟩ = some (.int .u32 0) := by rw [blk_at hy.b]; rfl
  have yb0 : W7.frozen? ⟨W.heap.size + 1, 0, none⟩ = false := blk_free hy.b 0
  have zb1 : W7.cell? ⟨W.heap.size + 1, 1, none⟩ = some (.string ⟨#[]⟩) := by rw [blk_at hy.b]; rfl
  have yb1 : W7.frozen? ⟨W.heap.size + 1, 1, none⟩ = false := blk_free hy.b 1
  have zb2 : W7.cell? ⟨W.heap.size + 1, 2, none⟩ = some (.bool false) := by rw [blk_at hy.b]; rfl
  have yb2 : W7.frozen? ⟨W.heap.size + 1, 2, none⟩ = false := blk_free hy.b 2
  have zb3 : W7.cell? ⟨W.heap.size + 1, 3, none⟩ = some (.int .u64 0) := by rw [blk_at hy.b]; rfl
  have yb3 : W7.frozen? ⟨W.heap.size + 1, 3, none⟩ = false := blk_free hy.b 3
  clear hy
  have hN := below1 W7 (Obj.cells #[.int .u32 0, .string ⟨#[]⟩, .bool false, .int .u64 0] 42)
  have hc8 : (W7.alloc (Obj.cells #[.int .u32 0, .string ⟨#[]⟩, .bool false, .int .u64 0] 42)).cell? ⟨c, 1, none⟩ = some (.int .i64 (z : Int)) := cell_later hN kc1
  have hb8 := (H7.out.2.later hN).b
  have H8 : Hid (Below w.heap.size w (W7.alloc (Obj.cells #[.int .u32 0, .string ⟨#[]⟩, .bool false, .int .u64 0] 42)) ∧ KeptIn (fun g => g = c) W (W7.alloc (Obj.cells #[.int .u32 0, .string ⟨#[]⟩, .bool false, .int .u64 0] 42)) ∧ (W7.alloc (Obj.cells #[.int .u32 0, .string ⟨#[]⟩, .bool false, .int .u64 0] 42)).heap[W.heap.size + 1]? = some (.cells #[.int .u32 0, .string ⟨#[]⟩, .bool false, .int .u64 0] 42 (0, 0))) := ⟨H7.out.1.bel.trans (hN.mono H7.out.1.bel.size), (H7.out.2.later hN).kept, hb8⟩
  have zn0 : (W7.alloc (Obj.cells #[.int .u32 0, .string ⟨#[]⟩, .bool false, .int .u64 0] 42)).cell? ⟨W.heap.size + 1, 0, none⟩ = some (.int .u32 0) := by rw [blk_at hb8]; rfl
  have yn0 : (W7.alloc (Obj.cells #[.int .u32 0, .string ⟨#[]⟩, .bool false, .int .u64 0] 42)).frozen? ⟨W.heap.size + 1, 0, none⟩ = false := blk_free hb8 0
  have zn1 : (W7.alloc (Obj.cells #[.int .u32 0, .string ⟨#[]⟩, .bool false, .int .u64 0] 42)).cell? ⟨W.heap.size + 1, 1, none⟩ = some (.string ⟨#[]⟩) := by rw [blk_at hb8]; rfl
  have yn1 : (W7.alloc (Obj.cells #[.int .u32 0, .string ⟨#[]⟩, .bool false, .int .u64 0] 42)).frozen? ⟨W.heap.size + 1, 1, none⟩ = false := blk_free hb8 1
  have zn2 : (W7.alloc (Obj.cells #[.int .u32 0, .string ⟨#[]⟩, .bool false, .int .u64 0] 42)).cell? ⟨W.heap.size + 1, 2, none⟩ = some (.bool false) := by rw [blk_at hb8]; rfl
  have yn2 : (W7.alloc (Obj.cells #[.int .u32 0, .string ⟨#[]⟩, .bool false, .int .u64 0] 42)).frozen? ⟨W.heap.size + 1, 2, none⟩ = false := blk_free hb8 2
  have zn3 : (W7.alloc (Obj.cells #[.int .u32 0, .string ⟨#[]⟩, .bool false, .int .u64 0] 42)).cell? ⟨W.heap.size + 1, 3, none⟩ = some (.int .u64 0) := by rw [blk_at hb8]; rfl
  have yn3 : (W7.alloc (Obj.cells #[.int .u32 0, .string ⟨#[]⟩, .bool false, .int .u64 0] 42)).frozen? ⟨W.heap.size + 1, 3, none⟩ = false := blk_free hb8 3
  clear hN hb8
  go_wp2
  go_region
  go_wp2
  obtain ⟨hp, hq⟩ := putc4 H8.out.2.2 (.int .u32 0) (.string ⟨#[]⟩) (.bool false) (.int .u64 0)
  have hq' := hq.drewd
  exact bodyPost_ret (results_cell_tmp1 rfl _ _ (W.heap.size + 1) 42 _ (0, 0) _ rfl hp Tryd.underlying42 rfl infoE) rfl ⟨rfl, H8.out.1.trans (hq'.below H8.out.1.size (fun g hg => by have := H.out.bel.size; omega)), H8.out.2.1.trans hq' (fun g hg _ => by omega)⟩
end Go.Proofs.YtjikibhhhchgeaaDoor
