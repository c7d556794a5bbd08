import Derived.Test.YtefgdhoapmikhaaDoorRpT
import Derived.Test.YtefgdhoapmikhaaDoorRpP
namespace Go.Proofs.YtefgdhoapmikhaaDoor
open Go.RowKit
set_option linter.unusedVariables false
set_option linter.unusedSimpArgs false
set_option maxRecDepth 100000
set_option maxHeartbeats 1000000 in
theorem sdat_any (ix : Int) (st ex : Bool) (co : Option Addr) (cn cc : Nat) (fl ty ck off len : Nat) (d : Value) (cd : Nat) (pl : Bool) (at_ : Nat) (po : Option Addr) (pn pc : Nat) (lo : Option Addr) (ln lc : Nat) (w : World) (x n : Nat) (da : Option Addr) (dc : Nat) (m : List Nat) (h1 : x < 18446744073709551616) (hr : BRow w da dc m) (hm0 : m.length = n) (hn : 0 < n) (hn2 : n ≤ 70368744177664) :
    Calls Tryd.prog 98 #[.agg #[.int .i64 ix, .bool st, .bool ex, .slice co cn cc, .int .u16 (fl : Int), .int .u16 (ty : Int), .int .u64 (ck : Int), .int .u64 (off : Int), .int .u64 (len : Int), d, .int .u32 (cd : Int), .bool pl, .int .u64 (at_ : Int), .slice po pn pc, .slice lo ln lc], .int .u64 (x : Int), .slice da n dc] w fun e w' => ∃ ao cap, e = .returned (.agg #[.int .u16 0, .int .u16 1, .int .u64 (ck : Int), .int .u64 (if ex = true then (off : Int) else 0), .slice ao (daL x m).length cap]) ∧ Row w w' ao cap (daL x m) := by
  have HBR : Hid (BRow w da dc m) := hr
  have HP : Hid (∀ W, Below w.heap.size w W → Calls Tryd.prog 114 #[.agg #[.int .u64 (x : Int), .slice da n dc]] W fun e w' => ∃ ao cap, e = .returned (.tuple #[.slice ao (daL x m).length cap, .int .i64 0]) ∧ Row W w' ao cap (daL x m)) := fun W hb => packData x n da dc m W h1 (hr.later hb) hm0 hn hn2
  have HC : Hid (∀ W ao k cap, Calls Tryd.prog 73 #[.agg #[.int .i64 ix, .bool st, .bool ex, .slice co cn cc, .int .u16 (fl : Int), .int .u16 (ty : Int), .int .u64 (ck : Int), .int .u64 (off : Int), .int .u64 (len : Int), d, .int .u32 (cd : Int), .bool pl, .int .u64 (at_ : Int), .slice po pn pc, .slice lo ln lc], .int .u16 1, .slice ao k cap] W fun e w' => e = .returned (.agg #[.int .u16 0, .int .u16 1, .int .u64 (ck : Int), .int .u64 (if ex = true then (off : Int) else 0), .slice ao k cap]) ∧ Below W.heap.size W w') := fun W ao k cap => chunk_any ix st ex co cn cc fl ty ck off len d cd pl at_ po pn pc lo ln lc W 1 ao k cap
  clear hr
  generalize (if ex = true then (off : Int) else 0) = eo at *
  go_enter Tryd.func98, Tryd.ntmps98
  go_wp2_with fail
  have hx : Bx2 w ((w.alloc (Obj.cells #[.int .i64 ix, .bool st, .bool ex, .slice co cn cc, .int .u16 (fl : Int), .int .u16 (ty : Int), .int .u64 (ck : Int), .int .u64 (off : Int), .int .u64 (len : Int), d, .int .u32 (cd : Int), .bool pl, .int .u64 (at_ : Int), .slice po pn pc, .slice lo ln lc] 105)).alloc (Obj.cells #[.int .u16 0, .int .u16 0, .int .u64 0, .int .u64 0, .slice none 0 0] 70)) #[.int .i64 ix, .bool st, .bool ex, .slice co cn cc, .int .u16 (fl : Int), .int .u16 (ty : Int), .int .u64 (ck : Int), .int .u64 (off : Int), .int .u64 (len : Int), d, .int .u32 (cd : Int), .bool pl, .int .u64 (at_ : Int), .slice po pn pc, .slice lo ln lc] #[.int .u16 0, .int .u16 0, .int .u64 0, .int .u64 0, .slice none 0 0] 105 70 := mkb2 w _ _ _ _
  generalize ((w.alloc (Obj.cells #[.int .i64 ix, .bool st, .bool ex, .slice co cn cc, .int .u16 (fl : Int), .int .u16 (ty : Int), .int .u64 (ck : Int), .int .u64 (off : Int), .int .u64 (len : Int), d, .int .u32 (cd : Int), .bool pl, .int .u64 (at_ : Int), .slice po pn pc, .slice lo ln lc] 105)).alloc (Obj.cells #[.int .u16 0, .int .u16 0, .int .u64 0, .int .u64 0, .slice none 0 0] 70)) = W0 at *
  refine (HP.out _ hx.bel).mono ?_
  rintro e W1 ⟨ao, cap, rfl, hr⟩
  have hy := hx.later hr.bel
  have za0 : W1.cell? ⟨w.heap.size, 0, none⟩ = some (.int .i64 ix) := by rw [blk_at hy.a]; rfl
  have za1 : W1.cell? ⟨w.heap.size, 1, none⟩ = some (.bool st) := by rw [blk_at hy.a]; rfl
  have za2 : W1.cell? ⟨w.heap.size, 2, none⟩ = some (.bool ex) := by rw [blk_at hy.a]; rfl
  have za3 : W1.cell? ⟨w.heap.size, 3, none⟩ = some (.slice co cn cc) := by rw [blk_at hy.a]; rfl
  have za4 : W1.cell? ⟨w.heap.size, 4, none⟩ = some (.int .u16 (fl : Int)) := by rw [blk_at hy.a]; rfl
  have za5 : W1.cell? ⟨w.heap.size, 5, none⟩ = some (.int .u16 (ty : Int)) := by rw [blk_at hy.a]; rfl
  have za6 : W1.cell? ⟨w.heap.size, 6, none⟩ = some (.int .u64 (ck : Int)) := by rw [blk_at hy.a]; rfl
  have za7 : W1.cell? ⟨w.heap.size, 7, none⟩ = some (.int .u64 (off : Int)) := by rw [blk_at hy.a]; rfl
  have za8 : W1.cell? ⟨w.heap.size, 8, none⟩ = some (.int .u64 (len : Int)) := by rw [blk_at hy.a]; rfl
  have za9 : W1.cell? ⟨w.heap.size, 9, none⟩ = some (d) := by rw [blk_at hy.a]; rfl
  have za10 : W1.cell? ⟨w.heap.size, 10, none⟩ = some (.int .u32 (cd : Int)) := by rw [blk_at hy.a]; rfl
  have za11 : W1.cell? ⟨w.heap.size, 11, none⟩ = some (.bool pl) := by rw [blk_at hy.a]; rfl
  have za12 : W1.cell? ⟨w.heap.size, 12, none⟩ = some (.int .u64 (at_ : Int)) := by rw [blk_at hy.a]; rfl
  have za13 : W1.cell? ⟨w.heap.size, 13, none⟩ = some (.slice po pn pc) := by rw [blk_at hy.a]; rfl
  have za14 : W1.cell? ⟨w.heap.size, 14, none⟩ = some (.slice lo ln lc) := by rw [blk_at hy.a]; rfl
  have HR : Hid (Row W0 W1 ao cap (daL x m)) := hr
  have HY : Hid (Bx2 w W1 #[.int .i64 ix, .bool st, .bool ex, .slice co cn cc, .int .u16 (fl : Int), .int .u16 (ty : Int), .int .u64 (ck : Int), .int .u64 (off : Int), .int .u64 (len : Int), d, .int .u32 (cd : Int), .bool pl, .int .u64 (at_ : Int), .slice po pn pc, .slice lo ln lc] #[.int .u16 0, .int .u16 0, .int .u64 0, .int .u64 0, .slice none 0 0] 105 70) := hy
  have HX : Hid (Bx2 w W0 #[.int .i64 ix, .bool st, .bool ex, .slice co cn cc, .int .u16 (fl : Int), .int .u16 (ty : Int), .int .u64 (ck : Int), .int .u64 (off : Int), .int .u64 (len : Int), d, .int .u32 (cd : Int), .bool pl, .int .u64 (at_ : Int), .slice po pn pc, .slice lo ln lc] #[.int .u16 0, .int .u16 0, .int .u64 0, .int .u64 0, .slice none 0 0] 105 70) := hx
  clear hr hy hx HP
  generalize hk : (daL x m).length = k at *
  have HK : Hid ((daL x m).length = k) := hk
  clear hk
  go_wp2_with fail
  refine (HC.out _ _ _ _).mono ?_
  rintro e W2 ⟨rfl, hbe⟩
  have hy := HY.out.later hbe
  have zb0 : W2.cell? ⟨w.heap.size + 1, 0, none⟩ = some (.int .u16 0) := by rw [blk_at hy.b]; rfl
  have zb1 : W2.cell? ⟨w.heap.size + 1, 1, none⟩ = some (.int .u16 0) := by rw [blk_at hy.b]; rfl
  have zb2 : W2.cell? ⟨w.heap.size + 1, 2, none⟩ = some (.int .u64 0) := by rw [blk_at hy.b]; rfl
  have zb3 : W2.cell? ⟨w.heap.size + 1, 3, none⟩ = some (.int .u64 0) := by rw [blk_at hy.b]; rfl
  have zb4 : W2.cell? ⟨w.heap.size + 1, 4, none⟩ = some (.slice none 0 0) := by rw [blk_at hy.b]; rfl
  have yb0 : W2.frozen? ⟨w.heap.size + 1, 0, none⟩ = false := blk_free hy.b 0
  have yb1 : W2.frozen? ⟨w.heap.size + 1, 1, none⟩ = false := blk_free hy.b 1
  have yb2 : W2.frozen? ⟨w.heap.size + 1, 2, none⟩ = false := blk_free hy.b 2
  have yb3 : W2.frozen? ⟨w.heap.size + 1, 3, none⟩ = false := blk_free hy.b 3
  have yb4 : W2.frozen? ⟨w.heap.size + 1, 4, none⟩ = false := blk_free hy.b 4
  have HY2 : Hid (Bx2 w W2 #[.int .i64 ix, .bool st, .bool ex, .slice co cn cc, .int .u16 (fl : Int), .int .u16 (ty : Int), .int .u64 (ck : Int), .int .u64 (off : Int), .int .u64 (len : Int), d, .int .u32 (cd : Int), .bool pl, .int .u64 (at_ : Int), .slice po pn pc, .slice lo ln lc] #[.int .u16 0, .int .u16 0, .int .u64 0, .int .u64 0, .slice none 0 0] 105 70) := hy
  have HR2 : Hid (Below W1.heap.size W1 W2) := hbe
  clear hbe hy HC
  clear za0 za1 za2 za3 za4 za5 za6 za7 za8 za9 za10 za11 za12 za13 za14
  go_wp2
  obtain ⟨hp, hq⟩ := put5 HY2.out.b (.int .u16 0) (.int .u16 1) (.int .u64 (ck : Int)) (.int .u64 eo) (.slice ao k cap)
  refine bodyPost_ret (results_cell_one rfl _ _ (w.heap.size + 1) 70 _ (0, 0) _ rfl hp Tryd.underlying70 rfl infoChk) rfl ⟨_, _, by rw [HK.out], ?_, HR.out.lt, ?_⟩
  · exact owns_mono (owns_same (owns_same HR.out.own (fun g hg => HR2.out.block g (owns_lt HR.out.own g hg).1)) (fun g hg => hq.block g (Nat.lt_of_lt_of_le (owns_lt HR.out.own g hg).1 HR2.out.size) (by have := (owns_lt HR.out.own g hg).2; have := HX.out.size; omega))) HX.out.bel.size
  · exact HY2.out.bel.trans (hq.below HY2.out.bel.size (fun g hg => by omega))
end Go.Proofs.YtefgdhoapmikhaaDoor
