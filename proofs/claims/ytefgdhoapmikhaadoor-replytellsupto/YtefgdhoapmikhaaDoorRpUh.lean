import Derived.Test.YtefgdhoapmikhaaDoorRqUe
import Derived.Test.YtefgdhoapmikhaaDoorRpP
namespace Go.Proofs.YtefgdhoapmikhaaDoor
open Go.RowKit
set_option linter.unusedVariables false
set_option linter.unusedSimpArgs false
set_option maxRecDepth 100000
theorem put2 {W : World} {g : Nat} {t : TypeId} {a0 a1 : Value} (h : W.heap[g]? = some (.cells #[a0, a1] t (0, 0))) (v0 v1 : Value) :
    ((W.setCell ⟨g, 0, none⟩ v0).setCell ⟨g, 1, none⟩ v1).heap[g]? = some (.cells #[v0, v1] t (0, 0)) ∧ KeptIn (fun k => k = g) W ((W.setCell ⟨g, 0, none⟩ v0).setCell ⟨g, 1, none⟩ v1) :=
  ⟨put_boxX (put_boxX h 0 v0 (cs' := #[v0, a1]) (by simp)) 1 v1 (by simp), (keptIn_set _ _ _ _).trans (keptIn_set _ _ _ _) (fun _ _ hn => hn)⟩
theorem infoH : (Tryd.prog.info? 76).map (·.size) = some 2 := by kernel_rfl
set_option maxHeartbeats 1000000 in
theorem wholeH (x y : Nat) {w W : World} {c r : Nat} {ao : Option Addr} {cap : Nat} {l : List Nat} {at_ : Nat} (h : Bd w W c r ao cap l l.length) :
    Calls Tryd.prog 57 #[.pointer (some ⟨c, 0, none⟩), .agg #[.int .u64 (x : Int), .int .u32 (y : Int)]] W fun e w' => e = .returned (.tuple #[.agg #[.int .u64 (x : Int), .int .u32 (y : Int)], .int .i64 0]) ∧ Below w.heap.size w w' ∧ Below W.heap.size W w' := by
  have HE : Hid (∀ W, Bd w W c r ao cap l l.length → Calls Tryd.prog 92 #[.pointer (some ⟨r, 0, none⟩)] W fun e w' => e = .returned (.int .i64 0) ∧ ∃ q, w' = W.drewN q) := fun W h => rend_any w.heap.size r ao cap l W h.rd
  have HN : Hid (∀ W, Calls Tryd.prog 53 #[.pointer (some ⟨c, 0, none⟩), .bool true] W fun e w' => e = .returned (.tuple #[]) ∧ w' = W) := fun W => need_true c W
  have HW : Hid (∀ W, Bd w W c r ao cap l l.length → Calls Tryd.prog 62 #[.pointer (some ⟨c, 0, none⟩)] W fun e w' => e = .returned (.bool true) ∧ w' = W) := fun W h => well_true h
  have H : Hid (Bd w W c r ao cap l l.length) := h
  clear h
  have q00 : ∀ o o', ((W.alloc o).alloc o').cell? ⟨c, 0, none⟩ = some (.pointer (some ⟨r, 0, none⟩)) := fun o o' => (H.out.later (below2 W o o')).c0
  go_enter Tryd.func57, Tryd.ntmps57
  go_wp2_with fail
  have hx : Bx2 W ((W.alloc (Obj.cells #[.int .u64 (x : Int), .int .u32 (y : Int)] 76)).alloc (Obj.cells #[.int .u64 0, .int .u32 0] 76)) #[.int .u64 (x : Int), .int .u32 (y : Int)] #[.int .u64 0, .int .u32 0] 76 76 := mkb2 W _ _ _ _
  generalize ((W.alloc (Obj.cells #[.int .u64 (x : Int), .int .u32 (y : Int)] 76)).alloc (Obj.cells #[.int .u64 0, .int .u32 0] 76)) = W5 at *
  refine (HE.out _ (H.out.later hx.bel)).mono ?_
  rintro e W6 ⟨rfl, q, hw⟩
  have hy : Bx2 W W6 #[.int .u64 (x : Int), .int .u32 (y : Int)] #[.int .u64 0, .int .u32 0] 76 76 := by rw [hw]; exact hx.later (below_drewN _ q)
  have H6 : Hid (Bd w W6 c r ao cap l l.length ∧ Bx2 W W6 #[.int .u64 (x : Int), .int .u32 (y : Int)] #[.int .u64 0, .int .u32 0] 76 76) := ⟨H.out.later hy.bel, hy⟩
  clear hw hx hy HE q00
  go_wp2_with fail
  refine (HN.out _).mono ?_
  rintro e W7 ⟨rfl, hw⟩
  rw [hw]; clear hw
  go_wp2_with fail
  refine (HW.out _ H6.out.1).mono ?_
  rintro e W7 ⟨rfl, hw⟩
  rw [hw]; clear hw HN HW
  have hy := H6.out.2
  have za0 : W6.cell? ⟨W.heap.size, 0, none⟩ = some (.int .u64 (x : Int)) := by rw [blk_at hy.a]; rfl
  have za1 : W6.cell? ⟨W.heap.size, 1, none⟩ = some (.int .u32 (y : Int)) := by rw [blk_at hy.a]; rfl
  have zb0 : W6.cell? ⟨W.heap.size + 1, 0, none⟩ = some (.int .u64 0) := by rw [blk_at hy.b]; rfl
  have zb1 : W6.cell? ⟨W.heap.size + 1, 1, none⟩ = some (.int .u32 0) := by rw [blk_at hy.b]; rfl
  have yb0 : W6.frozen? ⟨W.heap.size + 1, 0, none⟩ = false := blk_free hy.b 0
  have yb1 : W6.frozen? ⟨W.heap.size + 1, 1, none⟩ = false := blk_free hy.b 1
  clear hy
  go_wp2
  obtain ⟨hp, hq⟩ := put2 H6.out.2.b (.int .u64 (x : Int)) (.int .u32 (y : Int))
  exact bodyPost_ret (results_cell_tmp1 rfl _ _ (W.heap.size + 1) 76 _ (0, 0) _ rfl hp Tryd.underlying76 rfl infoH) rfl ⟨rfl, H6.out.1.bel.trans (hq.below H6.out.1.bel.size (fun g hg => by have := H.out.bel.size; omega)), H6.out.2.bel.trans (hq.below H6.out.2.bel.size (fun g hg => by omega))⟩
theorem infoD : (Tryd.prog.info? 72).map (·.size) = some 2 := by kernel_rfl
set_option maxHeartbeats 1000000 in
theorem wholeD (x n : Nat) (da : Option Addr) (dc : Nat) {w W : World} {c r : Nat} {ao : Option Addr} {cap : Nat} {l : List Nat} {at_ : Nat} (h : Bd w W c r ao cap l l.length) :
    Calls Tryd.prog 56 #[.pointer (some ⟨c, 0, none⟩), .agg #[.int .u64 (x : Int), .slice da n dc]] W fun e w' => e = .returned (.tuple #[.agg #[.int .u64 (x : Int), .slice da n dc], .int .i64 0]) ∧ Below w.heap.size w w' ∧ Below W.heap.size W w' := by
  have HE : Hid (∀ W, Bd w W c r ao cap l l.length → Calls Tryd.prog 92 #[.pointer (some ⟨r, 0, none⟩)] W fun e w' => e = .returned (.int .i64 0) ∧ ∃ q, w' = W.drewN q) := fun W h => rend_any w.heap.size r ao cap l W h.rd
  have HN : Hid (∀ W, Calls Tryd.prog 53 #[.pointer (some ⟨c, 0, none⟩), .bool true] W fun e w' => e = .returned (.tuple #[]) ∧ w' = W) := fun W => need_true c W
  have HW : Hid (∀ W, Bd w W c r ao cap l l.length → Calls Tryd.prog 62 #[.pointer (some ⟨c, 0, none⟩)] W fun e w' => e = .returned (.bool true) ∧ w' = W) := fun W h => well_true h
  have H : Hid (Bd w W c r ao cap l l.length) := h
  clear h
  have q00 : ∀ o o', ((W.alloc o).alloc o').cell? ⟨c, 0, none⟩ = some (.pointer (some ⟨r, 0, none⟩)) := fun o o' => (H.out.later (below2 W o o')).c0
  go_enter Tryd.func56, Tryd.ntmps56
  go_wp2_with fail
  have hx : Bx2 W ((W.alloc (Obj.cells #[.int .u64 (x : Int), .slice da n dc] 72)).alloc (Obj.cells #[.int .u64 0, .slice none 0 0] 72)) #[.int .u64 (x : Int), .slice da n dc] #[.int .u64 0, .slice none 0 0] 72 72 := mkb2 W _ _ _ _
  generalize ((W.alloc (Obj.cells #[.int .u64 (x : Int), .slice da n dc] 72)).alloc (Obj.cells #[.int .u64 0, .slice none 0 0] 72)) = W5 at *
  refine (HE.out _ (H.out.later hx.bel)).mono ?_
  rintro e W6 ⟨rfl, q, hw⟩
  have hy : Bx2 W W6 #[.int .u64 (x : Int), .slice da n dc] #[.int .u64 0, .slice none 0 0] 72 72 := by rw [hw]; exact hx.later (below_drewN _ q)
  have H6 : Hid (Bd w W6 c r ao cap l l.length ∧ Bx2 W W6 #[.int .u64 (x : Int), .slice da n dc] #[.int .u64 0, .slice none 0 0] 72 72) := ⟨H.out.later hy.bel, hy⟩
  clear hw hx hy HE q00
  go_wp2_with fail
  refine (HN.out _).mono ?_
  rintro e W7 ⟨rfl, hw⟩
  rw [hw]; clear hw
  go_wp2_with fail
  refine (HW.out _ H6.out.1).mono ?_
  rintro e W7 ⟨rfl, hw⟩
  rw [hw]; clear hw HN HW
  have hy := H6.out.2
  have za0 : W6.cell? ⟨W.heap.size, 0, none⟩ = some (.int .u64 (x : Int)) := by rw [blk_at hy.a]; rfl
  have za1 : W6.cell? ⟨W.heap.size, 1, none⟩ = some (.slice da n dc) := by rw [blk_at hy.a]; rfl
  have zb0 : W6.cell? ⟨W.heap.size + 1, 0, none⟩ = some (.int .u64 0) := by rw [blk_at hy.b]; rfl
  have zb1 : W6.cell? ⟨W.heap.size + 1, 1, none⟩ = some (.slice none 0 0) := by rw [blk_at hy.b]; rfl
  have yb0 : W6.frozen? ⟨W.heap.size + 1, 0, none⟩ = false := blk_free hy.b 0
  have yb1 : W6.frozen? ⟨W.heap.size + 1, 1, none⟩ = false := blk_free hy.b 1
  clear hy
  go_wp2
  obtain ⟨hp, hq⟩ := put2 H6.out.2.b (.int .u64 (x : Int)) (.slice da n dc)
  exact bodyPost_ret (results_cell_tmp1 rfl _ _ (W.heap.size + 1) 72 _ (0, 0) _ rfl hp Tryd.underlying72 rfl infoD) rfl ⟨rfl, H6.out.1.bel.trans (hq.below H6.out.1.bel.size (fun g hg => by have := H.out.bel.size; omega)), H6.out.2.bel.trans (hq.below H6.out.2.bel.size (fun g hg => by omega))⟩
set_option maxHeartbeats 1000000 in
theorem bleft {w W : World} {c r : Nat} {ao : Option Addr} {cap : Nat} {l : List Nat} {at_ : Nat} (h : Bd w W c r ao cap l at_) : Calls Tryd.prog 54 #[.pointer (some ⟨c, 0, none⟩)] W fun e w' => e = .returned (.int .i64 ((l.length : Int) - (at_ : Int))) ∧ ∃ q, w' = W.drewN q := by
  have HLf : Hid (Calls Tryd.prog 90 #[.pointer (some ⟨r, 0, none⟩)] W fun e w' => e = .returned (.int .i64 ((l.length : Int) - (at_ : Int))) ∧ ∃ q, w' = W.drewN q) := rleft_any w.heap.size r ao cap l at_ l.length W h.rd rfl
  have c0 := h.c0
  clear h
  generalize (l.length : Int) - (at_ : Int) = z at *
  go_enter Tryd.func54, Tryd.ntmps54
  go_wp2_with fail
  refine HLf.out.mono ?_
  rintro e w1 ⟨rfl, q, hw⟩
  rw [hw]; clear hw
  go_wp2
  go_ret
  exact ⟨rfl, _, rfl⟩
set_option maxHeartbeats 1000000 in
theorem braw {w W : World} {c r : Nat} {ao : Option Addr} {cap : Nat} {l : List Nat} {at_ : Nat} (h : Bd w W c r ao cap l at_) (hl : 0 < l.length) (n : Nat) (hn : at_ + n ≤ l.length) : Calls Tryd.prog 55 #[.pointer (some ⟨c, 0, none⟩), .int .i64 (n : Int)] W fun e w' => ∃ ao2 cap2, e = .returned (.slice ao2 n cap2) ∧ Bd w w' c r ao cap l (at_ + n) ∧ KeptIn (fun g => g = r) W w' ∧ w'.ownsRow W.heap.size 5 1 (.slice ao2 n cap2) n (((l.drop at_).take n).map bv) := by
  obtain ⟨g, rfl⟩ := some_of_len h.rd hl
  have HU : Hid (Calls Tryd.prog 91 #[.pointer (some ⟨r, 0, none⟩), .int .i64 (n : Int)] W fun e w' => ∃ ao' cap', e = .returned (.tuple #[.slice ao' n cap', .int .i64 0]) ∧ w'.ownsRow W.heap.size 5 1 (.slice ao' n cap') n (((l.drop at_).take n).map bv) ∧ RPost W w' w.heap.size r (some ⟨g, 0, none⟩) cap l (at_ + n)) := rraw_ok w.heap.size r g cap l at_ l.length n W h.rd rfl hn
  have HN : Hid (∀ W, Calls Tryd.prog 53 #[.pointer (some ⟨c, 0, none⟩), .bool true] W fun e w' => e = .returned (.tuple #[]) ∧ w' = W) := fun W => need_true c W
  have c0 := h.c0
  have H : Hid (Bd w W c r (some ⟨g, 0, none⟩) cap l at_) := h
  clear h
  generalize ((l.drop at_).take n).map bv = xs at *
  go_enter Tryd.func55, Tryd.ntmps55
  go_wp2_with fail
  refine HU.out.mono ?_
  rintro e W1 ⟨a2, c2, rfl, how, hp⟩
  have H1 : Hid (Bd w W1 c r (some ⟨g, 0, none⟩) cap l (at_ + n) ∧ KeptIn (fun g => g = r) W W1 ∧ W1.ownsRow W.heap.size 5 1 (.slice a2 n c2) n xs) := ⟨H.out.moved hp, hp.kept, how⟩
  clear hp HU H c0 how
  go_wp2_with fail
  refine (HN.out _).mono ?_
  rintro e W2 ⟨rfl, hw⟩
  rw [hw]; clear hw
  go_wp2
  go_ret
  exact ⟨_, _, rfl, H1.out⟩
set_option maxHeartbeats 2000000 in
theorem unpackHole (x y : Nat) (ao : Option Addr) (cap : Nat) (w : World) (h1 : x < 18446744073709551616) (h2 : y < 4294967296) (h : BRow w ao cap (hoL x y)) :
    Calls Tryd.prog 29 #[.slice ao 12 cap] w fun e w' => e = .returned (.tuple #[.agg #[.int .u64 (x : Int), .int .u32 (y : Int)], .int .i64 0]) ∧ Below w.heap.size w w' := by
  have hl : (hoL x y).length = 12 := by simp [hoL, bigTo_length]
  have HV0 : Hid (valB (((hoL x y).drop 0).take 8) = x) := val_of' (pre := []) (tl := bigTo y 4 4) x 8 0 (by simp [hoL]) rfl (by omega)
  have HV8 : Hid (valB (((hoL x y).drop (0 + 8)).take 4) = y) := val_of' (pre := bigTo x 8 8) (tl := []) y 4 8 (by simp [hoL]) (by simp [bigTo_length]) (by omega)
  generalize hoL x y = l at *
  have HUp : Hid (∀ W, Below w.heap.size w W → Calls Tryd.prog 51 #[.slice ao 12 cap] W fun e w' => ∃ c r ao' cap', e = .returned (.pointer (some ⟨c, 0, none⟩)) ∧ Bd W w' c r ao' cap' l 0) := fun W hb => unpack_any ao cap 12 l W (h.later hb) hl
  have HL : Hid (l.length = 12) := hl
  clear h hl
  go_enter Tryd.func29, Tryd.ntmps29
  go_wp2_with fail
  have hx := mkb1 w #[.int .u64 0, .int .u32 0] 76
  generalize w.alloc (Obj.cells #[.int .u64 0, .int .u32 0] 76) = W0 at *
  refine (HUp.out _ hx.bel).mono ?_
  rintro e W1 ⟨c, r, ao', cap', rfl, hbd⟩
  have HX : Hid (Bx1 w W0 #[.int .u64 0, .int .u32 0] 76) := hx
  have H1 : Hid (Bd W0 W1 c r ao' cap' l 0) := hbd
  clear hx hbd HUp
  go_wp2_with fail
  refine (bu64 H1.out (by rw [HL.out]; decide)).mono ?_
  rintro e W2 ⟨rfl, hbd, _⟩
  rw [HV0.out]
  have H2 : Hid (Bd W0 W2 c r ao' cap' l (0 + 8)) := hbd
  clear hbd H1 HV0
  go_wp2_with fail
  refine (bu32 H2.out (by rw [HL.out]; decide)).mono ?_
  rintro e W3 ⟨rfl, hbd, _⟩
  rw [HV8.out]
  have H3 : Hid (Bd W0 W3 c r ao' cap' l l.length) := by rw [show 0 + 8 + 4 = l.length by rw [HL.out]] at hbd; exact hbd
  clear hbd H2 HV8
  go_wp2_with fail
  refine (wholeH (at_ := 0) x y H3.out).mono ?_
  rintro e W9 ⟨rfl, hb9, _⟩
  have H9 : Hid (Bx1 w W9 #[.int .u64 0, .int .u32 0] 76) := HX.out.later hb9
  have hy := H9.out
  have za0 : W9.cell? ⟨w.heap.size, 0, none⟩ = some (.int .u64 0) := by rw [blk_at hy.a]; rfl
  have za1 : W9.cell? ⟨w.heap.size, 1, none⟩ = some (.int .u32 0) := by rw [blk_at hy.a]; rfl
  have ya0 : W9.frozen? ⟨w.heap.size, 0, none⟩ = false := blk_free hy.a 0
  have ya1 : W9.frozen? ⟨w.heap.size, 1, none⟩ = false := blk_free hy.a 1
  clear hy hb9 H3
  go_wp2
  obtain ⟨hp, hq⟩ := put2 H9.out.a (.int .u64 (x : Int)) (.int .u32 (y : Int))
  exact bodyPost_ret (results_cell_tmp1 rfl _ _ w.heap.size 76 _ (0, 0) _ rfl hp Tryd.underlying76 rfl infoH) rfl ⟨rfl, H9.out.bel.trans (hq.below H9.out.bel.size (fun g hg => by omega))⟩
end Go.Proofs.YtefgdhoapmikhaaDoor
