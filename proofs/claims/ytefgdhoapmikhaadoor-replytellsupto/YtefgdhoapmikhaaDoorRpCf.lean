import Derived.Test.YtefgdhoapmikhaaDoorRpU
import Derived.Test.YtefgdhoapmikhaaDoorRpPe
import Derived.Test.YtefgdhoapmikhaaDoorRpN
namespace Go.Proofs.YtefgdhoapmikhaaDoor
open Go.RowKit
set_option linter.unusedVariables false
set_option linter.unusedSimpArgs false
set_option maxRecDepth 100000
set_option maxHeartbeats 1000000 in
theorem fail_true (ix : Int) (st ex : Bool) (co : Option Addr) (cn cc : Nat) (fl ty ck off len : Nat) (d : Value) (cd : Nat) (at_ : Nat) (po : Option Addr) (pn pc : Nat) (lo : Option Addr) (ln lc : Nat) (w : World) (h1 : cd < 4294967296) (h2 : at_ < 18446744073709551616) :
    Calls Tryd.prog 70 #[.agg #[.int .i64 ix, .bool st, .bool ex, .slice co cn cc, .int .u16 (fl : Int), .int .u16 (ty : Int), .int .u64 (ck : Int), .int .u64 (off : Int), .int .u64 (len : Int), d, .int .u32 (cd : Int), .bool true, .int .u64 (at_ : Int), .slice po pn pc, .slice lo ln lc]] w fun e w' => ∃ ao cap, e = .returned (.agg #[.int .u16 0, .int .u16 32770, .int .u64 (ck : Int), .int .u64 (if ex = true then (off : Int) else 0), .slice ao (erL cd true at_).length cap]) ∧ Row w w' ao cap (erL cd true at_) := by
  have HP : Hid (∀ W, Calls Tryd.prog 97 #[.agg #[.int .u32 (cd : Int), .string ⟨#[]⟩, .bool true, .int .u64 (at_ : Int)]] W fun e w' => ∃ ao cap, e = .returned (.tuple #[.slice ao (erL cd true at_).length cap, .int .i64 0]) ∧ Row W w' ao cap (erL cd true at_)) := fun W => packError1 cd at_ W h1 h2
  have HC : Hid (∀ W ao k cap, Calls Tryd.prog 73 #[.agg #[.int .i64 ix, .bool st, .bool ex, .slice co cn cc, .int .u16 (fl : Int), .int .u16 (ty : Int), .int .u64 (ck : Int), .int .u64 (off : Int), .int .u64 (len : Int), d, .int .u32 (cd : Int), .bool true, .int .u64 (at_ : Int), .slice po pn pc, .slice lo ln lc], .int .u16 32770, .slice ao k cap] W fun e w' => e = .returned (.agg #[.int .u16 0, .int .u16 32770, .int .u64 (ck : Int), .int .u64 (if ex = true then (off : Int) else 0), .slice ao k cap]) ∧ Below W.heap.size W w') := fun W ao k cap => chunk_any ix st ex co cn cc fl ty ck off len d cd true at_ po pn pc lo ln lc W 32770 ao k cap
  
  generalize (if ex = true then (off : Int) else 0) = eo at *
  generalize hdl : erL cd true at_ = dl at *
  clear hdl
  go_enter Tryd.func70, Tryd.ntmps70
  go_wp2_with fail
  have hx : Bx2 w ((w.alloc (Obj.cells #[.int .i64 ix, .bool st, .bool ex, .slice co cn cc, .int .u16 (fl : Int), .int .u16 (ty : Int), .int .u64 (ck : Int), .int .u64 (off : Int), .int .u64 (len : Int), d, .int .u32 (cd : Int), .bool true, .int .u64 (at_ : Int), .slice po pn pc, .slice lo ln lc] 105)).alloc (Obj.cells #[.int .u16 0, .int .u16 0, .int .u64 0, .int .u64 0, .slice none 0 0] 70)) #[.int .i64 ix, .bool st, .bool ex, .slice co cn cc, .int .u16 (fl : Int), .int .u16 (ty : Int), .int .u64 (ck : Int), .int .u64 (off : Int), .int .u64 (len : Int), d, .int .u32 (cd : Int), .bool true, .int .u64 (at_ : Int), .slice po pn pc, .slice lo ln lc] #[.int .u16 0, .int .u16 0, .int .u64 0, .int .u64 0, .slice none 0 0] 105 70 := mkb2 w _ _ _ _
  generalize ((w.alloc (Obj.cells #[.int .i64 ix, .bool st, .bool ex, .slice co cn cc, .int .u16 (fl : Int), .int .u16 (ty : Int), .int .u64 (ck : Int), .int .u64 (off : Int), .int .u64 (len : Int), d, .int .u32 (cd : Int), .bool true, .int .u64 (at_ : Int), .slice po pn pc, .slice lo ln lc] 105)).alloc (Obj.cells #[.int .u16 0, .int .u16 0, .int .u64 0, .int .u64 0, .slice none 0 0] 70)) = W0 at *
  refine (HP.out _).mono ?_
  rintro e W1 ⟨ao, cap, rfl, hr⟩
  have hy := hx.later hr.bel
  have za0 : W1.cell? ⟨w.heap.size, 0, none⟩ = some (.int .i64 ix) := by rw [blk_at hy.a]; rfl
  have za1 : W1.cell? ⟨w.heap.size, 1, none⟩ = some (.bool st) := by rw [blk_at hy.a]; rfl
  have za2 : W1.cell? ⟨w.heap.size, 2, none⟩ = some (.bool ex) := by rw [blk_at hy.a]; rfl
  have za3 : W1.cell? ⟨w.heap.size, 3, none⟩ = some (.slice co cn cc) := by rw [blk_at hy.a]; rfl
  have za4 : W1.cell? ⟨w.heap.size, 4, none⟩ = some (.int .u16 (fl : Int)) := by rw [blk_at hy.a]; rfl
  have za5 : W1.cell? ⟨w.heap.size, 5, none⟩ = some (.int .u16 (ty : Int)) := by rw [blk_at hy.a]; rfl
  have za6 : W1.cell? ⟨w.heap.size, 6, none⟩ = some (.int .u64 (ck : Int)) := by rw [blk_at hy.a]; rfl
  have za7 : W1.cell? ⟨w.heap.size, 7, none⟩ = some (.int .u64 (off : Int)) := by rw [blk_at hy.a]; rfl
  have za8 : W1.cell? ⟨w.heap.size, 8, none⟩ = some (.int .u64 (len : Int)) := by rw [blk_at hy.a]; rfl
  have za9 : W1.cell? ⟨w.heap.size, 9, none⟩ = some (d) := by rw [blk_at hy.a]; rfl
  have za10 : W1.cell? ⟨w.heap.size, 10, none⟩ = some (.int .u32 (cd : Int)) := by rw [blk_at hy.a]; rfl
  have za11 : W1.cell? ⟨w.heap.size, 11, none⟩ = some (.bool true) := by rw [blk_at hy.a]; rfl
  have za12 : W1.cell? ⟨w.heap.size, 12, none⟩ = some (.int .u64 (at_ : Int)) := by rw [blk_at hy.a]; rfl
  have za13 : W1.cell? ⟨w.heap.size, 13, none⟩ = some (.slice po pn pc) := by rw [blk_at hy.a]; rfl
  have za14 : W1.cell? ⟨w.heap.size, 14, none⟩ = some (.slice lo ln lc) := by rw [blk_at hy.a]; rfl
  have HR : Hid (Row W0 W1 ao cap dl) := hr
  have HY : Hid (Bx2 w W1 #[.int .i64 ix, .bool st, .bool ex, .slice co cn cc, .int .u16 (fl : Int), .int .u16 (ty : Int), .int .u64 (ck : Int), .int .u64 (off : Int), .int .u64 (len : Int), d, .int .u32 (cd : Int), .bool true, .int .u64 (at_ : Int), .slice po pn pc, .slice lo ln lc] #[.int .u16 0, .int .u16 0, .int .u64 0, .int .u64 0, .slice none 0 0] 105 70) := hy
  have HX : Hid (Bx2 w W0 #[.int .i64 ix, .bool st, .bool ex, .slice co cn cc, .int .u16 (fl : Int), .int .u16 (ty : Int), .int .u64 (ck : Int), .int .u64 (off : Int), .int .u64 (len : Int), d, .int .u32 (cd : Int), .bool true, .int .u64 (at_ : Int), .slice po pn pc, .slice lo ln lc] #[.int .u16 0, .int .u16 0, .int .u64 0, .int .u64 0, .slice none 0 0] 105 70) := hx
  clear hr hy hx HP
  generalize hk : dl.length = k at *
  have HK : Hid (dl.length = k) := hk
  clear hk
  go_wp2_with fail
  refine (HC.out _ _ _ _).mono ?_
  rintro e W2 ⟨rfl, hbe⟩
  have hy := HY.out.later hbe
  have zb0 : W2.cell? ⟨w.heap.size + 1, 0, none⟩ = some (.int .u16 0) := by rw [blk_at hy.b]; rfl
  have zb1 : W2.cell? ⟨w.heap.size + 1, 1, none⟩ = some (.int .u16 0) := by rw [blk_at hy.b]; rfl
  have zb2 : W2.cell? ⟨w.heap.size + 1, 2, none⟩ = some (.int .u64 0) := by rw [blk_at hy.b]; rfl
  have zb3 : W2.cell? ⟨w.heap.size + 1, 3, none⟩ = some (.int .u64 0) := by rw [blk_at hy.b]; rfl
  have zb4 : W2.cell? ⟨w.heap.size + 1, 4, none⟩ = some (.slice none 0 0) := by rw [blk_at hy.b]; rfl
  have yb0 : W2.frozen? ⟨w.heap.size + 1, 0, none⟩ = false := blk_free hy.b 0
  have yb1 : W2.frozen? ⟨w.heap.size + 1, 1, none⟩ = false := blk_free hy.b 1
  have yb2 : W2.frozen? ⟨w.heap.size + 1, 2, none⟩ = false := blk_free hy.b 2
  have yb3 : W2.frozen? ⟨w.heap.size + 1, 3, none⟩ = false := blk_free hy.b 3
  have yb4 : W2.frozen? ⟨w.heap.size + 1, 4, none⟩ = false := blk_free hy.b 4
  have HY2 : Hid (Bx2 w W2 #[.int .i64 ix, .bool st, .bool ex, .slice co cn cc, .int .u16 (fl : Int), .int .u16 (ty : Int), .int .u64 (ck : Int), .int .u64 (off : Int), .int .u64 (len : Int), d, .int .u32 (cd : Int), .bool true, .int .u64 (at_ : Int), .slice po pn pc, .slice lo ln lc] #[.int .u16 0, .int .u16 0, .int .u64 0, .int .u64 0, .slice none 0 0] 105 70) := hy
  have HR2 : Hid (Below W1.heap.size W1 W2) := hbe
  clear hbe hy HC
  clear za0 za1 za2 za3 za4 za5 za6 za7 za8 za9 za10 za11 za12 za13 za14
  go_wp2
  obtain ⟨hp, hq⟩ := put5 HY2.out.b (.int .u16 0) (.int .u16 32770) (.int .u64 (ck : Int)) (.int .u64 eo) (.slice ao k cap)
  refine bodyPost_ret (results_cell_one rfl _ _ (w.heap.size + 1) 70 _ (0, 0) _ rfl hp Tryd.underlying70 rfl infoChk) rfl ⟨_, _, by rw [HK.out], ?_, HR.out.lt, ?_⟩
  · exact owns_mono (owns_same (owns_same HR.out.own (fun g hg => HR2.out.block g (owns_lt HR.out.own g hg).1)) (fun g hg => hq.block g (Nat.lt_of_lt_of_le (owns_lt HR.out.own g hg).1 HR2.out.size) (by have := (owns_lt HR.out.own g hg).2; have := HX.out.size; omega))) HX.out.bel.size
  · exact HY2.out.bel.trans (hq.below HY2.out.bel.size (fun g hg => by omega))
set_option maxHeartbeats 1000000 in
theorem fail_false (ix : Int) (st ex : Bool) (co : Option Addr) (cn cc : Nat) (fl ty ck off len : Nat) (d : Value) (cd : Nat) (at_ : Nat) (po : Option Addr) (pn pc : Nat) (lo : Option Addr) (ln lc : Nat) (w : World) (h1 : cd < 4294967296) (h2 : at_ < 18446744073709551616) (ha : at_ = 0) :
    Calls Tryd.prog 70 #[.agg #[.int .i64 ix, .bool st, .bool ex, .slice co cn cc, .int .u16 (fl : Int), .int .u16 (ty : Int), .int .u64 (ck : Int), .int .u64 (off : Int), .int .u64 (len : Int), d, .int .u32 (cd : Int), .bool false, .int .u64 (at_ : Int), .slice po pn pc, .slice lo ln lc]] w fun e w' => ∃ ao cap, e = .returned (.agg #[.int .u16 0, .int .u16 32769, .int .u64 (ck : Int), .int .u64 (if ex = true then (off : Int) else 0), .slice ao (erL cd false at_).length cap]) ∧ Row w w' ao cap (erL cd false at_) := by
  have HP : Hid (∀ W, Calls Tryd.prog 97 #[.agg #[.int .u32 (cd : Int), .string ⟨#[]⟩, .bool false, .int .u64 (at_ : Int)]] W fun e w' => ∃ ao cap, e = .returned (.tuple #[.slice ao (erL cd false at_).length cap, .int .i64 0]) ∧ Row W w' ao cap (erL cd false at_)) := fun W => packError0 cd at_ W h1 h2 ha
  have HC : Hid (∀ W ao k cap, Calls Tryd.prog 73 #[.agg #[.int .i64 ix, .bool st, .bool ex, .slice co cn cc, .int .u16 (fl : Int), .int .u16 (ty : Int), .int .u64 (ck : Int), .int .u64 (off : Int), .int .u64 (len : Int), d, .int .u32 (cd : Int), .bool false, .int .u64 (at_ : Int), .slice po pn pc, .slice lo ln lc], .int .u16 32769, .slice ao k cap] W fun e w' => e = .returned (.agg #[.int .u16 0, .int .u16 32769, .int .u64 (ck : Int), .int .u64 (if ex = true then (off : Int) else 0), .slice ao k cap]) ∧ Below W.heap.size W w') := fun W ao k cap => chunk_any ix st ex co cn cc fl ty ck off len d cd false at_ po pn pc lo ln lc W 32769 ao k cap
  clear ha
  generalize (if ex = true then (off : Int) else 0) = eo at *
  generalize hdl : erL cd false at_ = dl at *
  clear hdl
  go_enter Tryd.func70, Tryd.ntmps70
  go_wp2_with fail
  have hx : Bx2 w ((w.alloc (Obj.cells #[.int .i64 ix, .bool st, .bool ex, .slice co cn cc, .int .u16 (fl : Int), .int .u16 (ty : Int), .int .u64 (ck : Int), .int .u64 (off : Int), .int .u64 (len : Int), d, .int .u32 (cd : Int), .bool false, .int .u64 (at_ : Int), .slice po pn pc, .slice lo ln lc] 105)).alloc (Obj.cells #[.int .u16 0, .int .u16 0, .int .u64 0, .int .u64 0, .slice none 0 0] 70)) #[.int .i64 ix, .bool st, .bool ex, .slice co cn cc, .int .u16 (fl : Int), .int .u16 (ty : Int), .int .u64 (ck : Int), .int .u64 (off : Int), .int .u64 (len : Int), d, .int .u32 (cd : Int), .bool false, .int .u64 (at_ : Int), .slice po pn pc, .slice lo ln lc] #[.int .u16 0, .int .u16 0, .int .u64 0, .int .u64 0, .slice none 0 0] 105 70 := mkb2 w _ _ _ _
  generalize ((w.alloc (Obj.cells #[.int .i64 ix, .bool st, .bool ex, .slice co cn cc, .int .u16 (fl : Int), .int .u16 (ty : Int), .int .u64 (ck : Int), .int .u64 (off : Int), .int .u64 (len : Int), d, .int .u32 (cd : Int), .bool false, .int .u64 (at_ : Int), .slice po pn pc, .slice lo ln lc] 105)).alloc (Obj.cells #[.int .u16 0, .int .u16 0, .int .u64 0, .int .u64 0, .slice none 0 0] 70)) = W0 at *
  refine (HP.out _).mono ?_
  rintro e W1 ⟨ao, cap, rfl, hr⟩
  have hy := hx.later hr.bel
  have za0 : W1.cell? ⟨w.heap.size, 0, none⟩ = some (.int .i64 ix) := by rw [blk_at hy.a]; rfl
  have za1 : W1.cell? ⟨w.heap.size, 1, none⟩ = some (.bool st) := by rw [blk_at hy.a]; rfl
  have za2 : W1.cell? ⟨w.heap.size, 2, none⟩ = some (.bool ex) := by rw [blk_at hy.a]; rfl
  have za3 : W1.cell? ⟨w.heap.size, 3, none⟩ = some (.slice co cn cc) := by rw [blk_at hy.a]; rfl
  have za4 : W1.cell? ⟨w.heap.size, 4, none⟩ = some (.int .u16 (fl : Int)) := by rw [blk_at hy.a]; rfl
  have za5 : W1.cell? ⟨w.heap.size, 5, none⟩ = some (.int .u16 (ty : Int)) := by rw [blk_at hy.a]; rfl
  have za6 : W1.cell? ⟨w.heap.size, 6, none⟩ = some (.int .u64 (ck : Int)) := by rw [blk_at hy.a]; rfl
  have za7 : W1.cell? ⟨w.heap.size, 7, none⟩ = some (.int .u64 (off : Int)) := by rw [blk_at hy.a]; rfl
  have za8 : W1.cell? ⟨w.heap.size, 8, none⟩ = some (.int .u64 (len : Int)) := by rw [blk_at hy.a]; rfl
  have za9 : W1.cell? ⟨w.heap.size, 9, none⟩ = some (d) := by rw [blk_at hy.a]; rfl
  have za10 : W1.cell? ⟨w.heap.size, 10, none⟩ = some (.int .u32 (cd : Int)) := by rw [blk_at hy.a]; rfl
  have za11 : W1.cell? ⟨w.heap.size, 11, none⟩ = some (.bool false) := by rw [blk_at hy.a]; rfl
  have za12 : W1.cell? ⟨w.heap.size, 12, none⟩ = some (.int .u64 (at_ : Int)) := by rw [blk_at hy.a]; rfl
  have za13 : W1.cell? ⟨w.heap.size, 13, none⟩ = some (.slice po pn pc) := by rw [blk_at hy.a]; rfl
  have za14 : W1.cell? ⟨w.heap.size, 14, none⟩ = some (.slice lo ln lc) := by rw [blk_at hy.a]; rfl
  have HR : Hid (Row W0 W1 ao cap dl) := hr
  have HY : Hid (Bx2 w W1 #[.int .i64 ix, .bool st, .bool ex, .slice co cn cc, .int .u16 (fl : Int), .int .u16 (ty : Int), .int .u64 (ck : Int), .int .u64 (off : Int), .int .u64 (len : Int), d, .int .u32 (cd : Int), .bool false, .int .u64 (at_ : Int), .slice po pn pc, .slice lo ln lc] #[.int .u16 0, .int .u16 0, .int .u64 0, .int .u64 0, .slice none 0 0] 105 70) := hy
  have HX : Hid (Bx2 w W0 #[.int .i64 ix, .bool st, .bool ex, .slice co cn cc, .int .u16 (fl : Int), .int .u16 (ty : Int), .int .u64 (ck : Int), .int .u64 (off : Int), .int .u64 (len : Int), d, .int .u32 (cd : Int), .bool false, .int .u64 (at_ : Int), .slice po pn pc, .slice lo ln lc] #[.int .u16 0, .int .u16 0, .int .u64 0, .int .u64 0, .slice none 0 0] 105 70) := hx
  clear hr hy hx HP
  generalize hk : dl.length = k at *
  have HK : Hid (dl.length = k) := hk
  clear hk
  go_wp2_with fail
  refine (HC.out _ _ _ _).mono ?_
  rintro e W2 ⟨rfl, hbe⟩
  have hy := HY.out.later hbe
  have zb0 : W2.cell? ⟨w.heap.size + 1, 0, none⟩ = some (.int .u16 0) := by rw [blk_at hy.b]; rfl
  have zb1 : W2.cell? ⟨w.heap.size + 1, 1, none⟩ = some (.int .u16 0) := by rw [blk_at hy.b]; rfl
  have zb2 : W2.cell? ⟨w.heap.size + 1, 2, none⟩ = some (.int .u64 0) := by rw [blk_at hy.b]; rfl
  have zb3 : W2.cell? ⟨w.heap.size + 1, 3, none⟩ = some (.int .u64 0) := by rw [blk_at hy.b]; rfl
  have zb4 : W2.cell? ⟨w.heap.size + 1, 4, none⟩ = some (.slice none 0 0) := by rw [blk_at hy.b]; rfl
  have yb0 : W2.frozen? ⟨w.heap.size + 1, 0, none⟩ = false := blk_free hy.b 0
  have yb1 : W2.frozen? ⟨w.heap.size + 1, 1, none⟩ = false := blk_free hy.b 1
  have yb2 : W2.frozen? ⟨w.heap.size + 1, 2, none⟩ = false := blk_free hy.b 2
  have yb3 : W2.frozen? ⟨w.heap.size + 1, 3, none⟩ = false := blk_free hy.b 3
  have yb4 : W2.frozen? ⟨w.heap.size + 1, 4, none⟩ = false := blk_free hy.b 4
  have HY2 : Hid (Bx2 w W2 #[.int .i64 ix, .bool st, .bool ex, .slice co cn cc, .int .u16 (fl : Int), .int .u16 (ty : Int), .int .u64 (ck : Int), .int .u64 (off : Int), .int .u64 (len : Int), d, .int .u32 (cd : Int), .bool false, .int .u64 (at_ : Int), .slice po pn pc, .slice lo ln lc] #[.int .u16 0, .int .u16 0, .int .u64 0, .int .u64 0, .slice none 0 0] 105 70) := hy
  have HR2 : Hid (Below W1.heap.size W1 W2) := hbe
  clear hbe hy HC
  clear za0 za1 za2 za3 za4 za5 za6 za7 za8 za9 za10 za11 za12 za13 za14
  go_wp2
  obtain ⟨hp, hq⟩ := put5 HY2.out.b (.int .u16 0) (.int .u16 32769) (.int .u64 (ck : Int)) (.int .u64 eo) (.slice ao k cap)
  refine bodyPost_ret (results_cell_one rfl _ _ (w.heap.size + 1) 70 _ (0, 0) _ rfl hp Tryd.underlying70 rfl infoChk) rfl ⟨_, _, by rw [HK.out], ?_, HR.out.lt, ?_⟩
  · exact owns_mono (owns_same (owns_same HR.out.own (fun g hg => HR2.out.block g (owns_lt HR.out.own g hg).1)) (fun g hg => hq.block g (Nat.lt_of_lt_of_le (owns_lt HR.out.own g hg).1 HR2.out.size) (by have := (owns_lt HR.out.own g hg).2; have := HX.out.size; omega))) HX.out.bel.size
  · exact HY2.out.bel.trans (hq.below HY2.out.bel.size (fun g hg => by omega))
set_option maxHeartbeats 2000000 in
/-- an error is one chunk -/
theorem chunks_fail (ix : Int) (st ex : Bool) (co : Option Addr) (cn cc : Nat) (fl ty ck off len : Nat) (d : Value) (cd : Nat) (pl : Bool) (at_ : Nat) (po : Option Addr) (pn pc : Nat) (lo : Option Addr) (ln lc : Nat) (w : World) (kd eo : Nat) (dl : List Nat) (hcd : cd ≠ 0) (hcd2 : cd < 4294967296)
    (HFl : Hid (∀ W, Calls Tryd.prog 70 #[.agg #[.int .i64 ix, .bool st, .bool ex, .slice co cn cc, .int .u16 (fl : Int), .int .u16 (ty : Int), .int .u64 (ck : Int), .int .u64 (off : Int), .int .u64 (len : Int), d, .int .u32 (cd : Int), .bool pl, .int .u64 (at_ : Int), .slice po pn pc, .slice lo ln lc]] W fun e w' => ∃ ao cap, e = .returned (.agg #[.int .u16 0, .int .u16 (kd : Int), .int .u64 (ck : Int), .int .u64 (eo : Int), .slice ao dl.length cap]) ∧ Row W w' ao cap dl)) :
    Calls Tryd.prog 41 #[.agg #[.int .i64 ix, .bool st, .bool ex, .slice co cn cc, .int .u16 (fl : Int), .int .u16 (ty : Int), .int .u64 (ck : Int), .int .u64 (off : Int), .int .u64 (len : Int), d, .int .u32 (cd : Int), .bool pl, .int .u64 (at_ : Int), .slice po pn pc, .slice lo ln lc]] w fun e w' => ∃ g cap L, e = .returned (.slice (some ⟨g, 0, none⟩) L.length cap) ∧ Cks w w' (.slice (some ⟨g, 0, none⟩) L.length cap) L ∧ L.map Ck.say = [(1, kd, ck, eo, dl)] ∧ Below w.heap.size w w' := by
  have f1 : ((cd : Int) != 0) = true := by rw [bne_iff_ne]; omega
  clear hcd
  obtain ⟨i0, hi, hz0, hz1, hz2⟩ := info_parts infoCk
  go_enter Tryd.func41, Tryd.ntmps41
  go_wp2_with fail
  have hx := mkb1 w #[.int .i64 ix, .bool st, .bool ex, .slice co cn cc, .int .u16 (fl : Int), .int .u16 (ty : Int), .int .u64 (ck : Int), .int .u64 (off : Int), .int .u64 (len : Int), d, .int .u32 (cd : Int), .bool pl, .int .u64 (at_ : Int), .slice po pn pc, .slice lo ln lc] 105
  generalize w.alloc (Obj.cells #[.int .i64 ix, .bool st, .bool ex, .slice co cn cc, .int .u16 (fl : Int), .int .u16 (ty : Int), .int .u64 (ck : Int), .int .u64 (off : Int), .int .u64 (len : Int), d, .int .u32 (cd : Int), .bool pl, .int .u64 (at_ : Int), .slice po pn pc, .slice lo ln lc] 105) = W0 at *
  refine (HFl.out _).mono ?_
  rintro e W1 ⟨ao, cap, rfl, hr⟩
  have H1 : Hid (Bx1 w W1 #[.int .i64 ix, .bool st, .bool ex, .slice co cn cc, .int .u16 (fl : Int), .int .u16 (ty : Int), .int .u64 (ck : Int), .int .u64 (off : Int), .int .u64 (len : Int), d, .int .u32 (cd : Int), .bool pl, .int .u64 (at_ : Int), .slice po pn pc, .slice lo ln lc] 105 ∧ Cks w W1 (.slice none 0 0) [] ∧ W1.ownsRow w.heap.size 5 1 (.slice ao dl.length cap) dl.length (dl.map bv) ∧ ∀ x ∈ dl, x < 256) := ⟨hx.later hr.bel, ((Cks.nil w).later hx.bel).later hr.bel, owns_mono hr.own hx.bel.size, hr.lt⟩
  clear hr hx HFl
  have hO : (W1.alloc (.cells (⟨0, kd, ck, eo, ao, cap, dl⟩ : Ck).cells.toArray 70)).ownsRow w.heap.size 70 5 (.slice none 0 0) 0 (([] : List Ck).flatMap Ck.cells) := (H1.out.2.1.later (below1 W1 _)).own
  obtain ⟨vo, k, vc, hnil, hk0⟩ : ∃ vo k vc, Value.slice none 0 0 = Value.slice vo k vc ∧ k = 0 := ⟨none, 0, 0, rfl, rfl⟩
  have HNil : Hid (Value.slice none 0 0 = Value.slice vo k vc) := hnil
  have HK0 : Hid (k = 0) := hk0
  have hO' : (W1.alloc (.cells (⟨0, kd, ck, eo, ao, cap, dl⟩ : Ck).cells.toArray 70)).ownsRow w.heap.size 70 5 (.slice vo k vc) k (([] : List Ck).flatMap Ck.cells) := by rw [← hnil]; subst hk0; exact hO
  have HO : Hid _ := hO'
  rw [hnil]
  clear hO hnil hO' hk0
  go_wp2_with (at_builtin; refine wpList_append_lies _ rfl _ _ 50 rfl w.heap.size 70 i0 (.agg #[.int .u16 0, .int .u16 0, .int .u64 0, .int .u64 0, .slice none 0 0]) 5 48 Tryd.underlying50 hi hz0 hz1 hz2 rfl (by decide) (.slice vo k vc) k (([] : List Ck).flatMap Ck.cells) rfl HO.out ⟨W1.heap.size, 0, none⟩ 1 1 (⟨0, kd, ck, eo, ao, cap, dl⟩ : Ck).cells rfl rfl (news5 W1 ⟨0, kd, ck, eo, ao, cap, dl⟩ _) (ck_one _) (by decide) (by rw [HK0.out]; decide) (by rw [HK0.out]; decide) (Nat.le_trans H1.out.1.bel.size (by simp)) (W1.heap.size + 1) (by simp) ?_)
  intro g7 cap7 W7 ho7 hg7 _ _
  rw [← HNil.out] at hg7
  obtain rfl := HK0.out
  have h7 := push_all H1.out.1 (by decide) H1.out.2.1 (k := 0) rfl ⟨0, kd, ck, eo, ao, cap, dl⟩ _ H1.out.2.2.1 H1.out.2.2.2 ho7 hg7
  obtain ⟨g, cp, hv, hg1, hg2, hg3, hg4, hg5, u, hg6⟩ := cks_form h7.2 (by simp)
  simp at hv
  obtain ⟨rfl, rfl⟩ := hv
  simp at hg5 hg6
  have H7 : Hid (Bx1 w W7 #[.int .i64 ix, .bool st, .bool ex, .slice co cn cc, .int .u16 (fl : Int), .int .u16 (ty : Int), .int .u64 (ck : Int), .int .u64 (off : Int), .int .u64 (len : Int), d, .int .u32 (cd : Int), .bool pl, .int .u64 (at_ : Int), .slice po pn pc, .slice lo ln lc] 105 ∧ Cks w W7 (.slice (some ⟨g7, 0, none⟩) 1 cap7) [⟨0, kd, ck, eo, ao, cap, dl⟩]) := h7
  clear ho7 hg7 HO H1 h7
  go_wp2
  go_ret
  refine ⟨g7, cap7, doneK [⟨0, kd, ck, eo, ao, cap, dl⟩], rfl, H7.out.2.done rfl (by decide), ⟨_, rfl, rfl⟩, H7.out.1.bel.setCell hg1 _⟩
end Go.Proofs.YtefgdhoapmikhaaDoor
