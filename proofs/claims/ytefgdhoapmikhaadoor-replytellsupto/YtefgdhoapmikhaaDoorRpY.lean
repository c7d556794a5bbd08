import Derived.Test.YtefgdhoapmikhaaDoorRpE
import Derived.Test.YtefgdhoapmikhaaDoorJK
import Derived.Test.YtefgdhoapmikhaaDoorRpX
namespace Go.Proofs.YtefgdhoapmikhaaDoor
open Go.RowKit
set_option linter.unusedVariables false
set_option linter.unusedSimpArgs false
set_option maxRecDepth 100000
set_option maxHeartbeats 1000000 in
theorem makerOf_sim (ix : Int) (st ex : Bool) (co : Option Addr) (cn cc : Nat) (fl ty ck off len : Nat) (d : Value) (cd : Nat) (pl : Bool) (at_ : Nat) (po : Option Addr) (pn pc : Nat) (lo : Option Addr) (ln lc : Nat) (w : World) (hty : ty < 65536) (hs : strB st ex ty = false) :
    Calls Tryd.prog 43 #[.agg #[.int .i64 ix, .bool st, .bool ex, .slice co cn cc], .agg #[.int .u16 (fl : Int), .int .u16 (ty : Int), .int .u64 (ck : Int), .int .u64 (off : Int), .int .u64 (len : Int), d], .agg #[.int .u32 (cd : Int), .bool pl, .int .u64 (at_ : Int), .slice po pn pc, .slice lo ln lc]] w fun e w' => e = .returned (.iface 100 (.agg #[.int .u16 (fl : Int), .int .u16 (ty : Int), .int .u64 (ck : Int), .int .u64 (off : Int), .int .u64 (len : Int), d, .int .u32 (cd : Int), .bool pl, .int .u64 (at_ : Int), .slice po pn pc, .slice lo ln lc])) ∧ Below w.heap.size w w' := by
  have HST : Hid (∀ W, Calls Tryd.prog 12 #[.agg #[.int .i64 ix, .bool st, .bool ex, .slice co cn cc], .agg #[.int .u16 (fl : Int), .int .u16 (ty : Int), .int .u64 (ck : Int), .int .u64 (off : Int), .int .u64 (len : Int), d]] W fun e w' => e = .returned (.bool false) ∧ Below W.heap.size W w') := fun W => hs ▸ struct_any ix st ex _ fl ty ck off len d W hty
  clear hs
  go_enter Tryd.func43, Tryd.ntmps43
  go_wp2_with fail
  have hx := mkb3 w #[.int .i64 ix, .bool st, .bool ex, .slice co cn cc] #[.int .u16 (fl : Int), .int .u16 (ty : Int), .int .u64 (ck : Int), .int .u64 (off : Int), .int .u64 (len : Int), d] #[.int .u32 (cd : Int), .bool pl, .int .u64 (at_ : Int), .slice po pn pc, .slice lo ln lc] 24 29 34
  generalize (((w.alloc (Obj.cells #[.int .i64 ix, .bool st, .bool ex, .slice co cn cc] 24)).alloc (Obj.cells #[.int .u16 (fl : Int), .int .u16 (ty : Int), .int .u64 (ck : Int), .int .u64 (off : Int), .int .u64 (len : Int), d] 29)).alloc (Obj.cells #[.int .u32 (cd : Int), .bool pl, .int .u64 (at_ : Int), .slice po pn pc, .slice lo ln lc] 34)) = W0 at *
  refine (HST.out _).mono ?_
  rintro e W1 ⟨rfl, hbe⟩
  have hy := hx.later hbe
  have za0 : W1.cell? ⟨w.heap.size, 0, none⟩ = some (.int .i64 ix) := by rw [blk_at hy.a]; rfl
  have za1 : W1.cell? ⟨w.heap.size, 1, none⟩ = some (.bool st) := by rw [blk_at hy.a]; rfl
  have za2 : W1.cell? ⟨w.heap.size, 2, none⟩ = some (.bool ex) := by rw [blk_at hy.a]; rfl
  have za3 : W1.cell? ⟨w.heap.size, 3, none⟩ = some (.slice co cn cc) := by rw [blk_at hy.a]; rfl
  have zb0 : W1.cell? ⟨w.heap.size + 1, 0, none⟩ = some (.int .u16 (fl : Int)) := by rw [blk_at hy.b]; rfl
  have zb1 : W1.cell? ⟨w.heap.size + 1, 1, none⟩ = some (.int .u16 (ty : Int)) := by rw [blk_at hy.b]; rfl
  have zb2 : W1.cell? ⟨w.heap.size + 1, 2, none⟩ = some (.int .u64 (ck : Int)) := by rw [blk_at hy.b]; rfl
  have zb3 : W1.cell? ⟨w.heap.size + 1, 3, none⟩ = some (.int .u64 (off : Int)) := by rw [blk_at hy.b]; rfl
  have zb4 : W1.cell? ⟨w.heap.size + 1, 4, none⟩ = some (.int .u64 (len : Int)) := by rw [blk_at hy.b]; rfl
  have zb5 : W1.cell? ⟨w.heap.size + 1, 5, none⟩ = some (d) := by rw [blk_at hy.b]; rfl
  have zc0 : W1.cell? ⟨w.heap.size + 1 + 1, 0, none⟩ = some (.int .u32 (cd : Int)) := by rw [blk_at hy.c]; rfl
  have zc1 : W1.cell? ⟨w.heap.size + 1 + 1, 1, none⟩ = some (.bool pl) := by rw [blk_at hy.c]; rfl
  have zc2 : W1.cell? ⟨w.heap.size + 1 + 1, 2, none⟩ = some (.int .u64 (at_ : Int)) := by rw [blk_at hy.c]; rfl
  have zc3 : W1.cell? ⟨w.heap.size + 1 + 1, 3, none⟩ = some (.slice po pn pc) := by rw [blk_at hy.c]; rfl
  have zc4 : W1.cell? ⟨w.heap.size + 1 + 1, 4, none⟩ = some (.slice lo ln lc) := by rw [blk_at hy.c]; rfl
  have HB : Hid (Below w.heap.size w W1) := hy.bel
  clear hy hx hbe HST
  go_wp2
  go_ret
  exact ⟨rfl, HB.out⟩
set_option maxHeartbeats 1000000 in
theorem makerOf_str (ix : Int) (st ex : Bool) (co : Option Addr) (cn cc : Nat) (fl ty ck off len : Nat) (d : Value) (cd : Nat) (pl : Bool) (at_ : Nat) (po : Option Addr) (pn pc : Nat) (lo : Option Addr) (ln lc : Nat) (w : World) (hty : ty < 65536) (hs : strB st ex ty = true) :
    Calls Tryd.prog 43 #[.agg #[.int .i64 ix, .bool st, .bool ex, .slice co cn cc], .agg #[.int .u16 (fl : Int), .int .u16 (ty : Int), .int .u64 (ck : Int), .int .u64 (off : Int), .int .u64 (len : Int), d], .agg #[.int .u32 (cd : Int), .bool pl, .int .u64 (at_ : Int), .slice po pn pc, .slice lo ln lc]] w fun e w' => e = .returned (.iface 105 (.agg #[.int .i64 ix, .bool st, .bool ex, .slice co cn cc, .int .u16 (fl : Int), .int .u16 (ty : Int), .int .u64 (ck : Int), .int .u64 (off : Int), .int .u64 (len : Int), d, .int .u32 (cd : Int), .bool pl, .int .u64 (at_ : Int), .slice po pn pc, .slice lo ln lc])) ∧ Below w.heap.size w w' := by
  have HST : Hid (∀ W, Calls Tryd.prog 12 #[.agg #[.int .i64 ix, .bool st, .bool ex, .slice co cn cc], .agg #[.int .u16 (fl : Int), .int .u16 (ty : Int), .int .u64 (ck : Int), .int .u64 (off : Int), .int .u64 (len : Int), d]] W fun e w' => e = .returned (.bool true) ∧ Below W.heap.size W w') := fun W => hs ▸ struct_any ix st ex _ fl ty ck off len d W hty
  clear hs
  go_enter Tryd.func43, Tryd.ntmps43
  go_wp2_with fail
  have hx := mkb3 w #[.int .i64 ix, .bool st, .bool ex, .slice co cn cc] #[.int .u16 (fl : Int), .int .u16 (ty : Int), .int .u64 (ck : Int), .int .u64 (off : Int), .int .u64 (len : Int), d] #[.int .u32 (cd : Int), .bool pl, .int .u64 (at_ : Int), .slice po pn pc, .slice lo ln lc] 24 29 34
  generalize (((w.alloc (Obj.cells #[.int .i64 ix, .bool st, .bool ex, .slice co cn cc] 24)).alloc (Obj.cells #[.int .u16 (fl : Int), .int .u16 (ty : Int), .int .u64 (ck : Int), .int .u64 (off : Int), .int .u64 (len : Int), d] 29)).alloc (Obj.cells #[.int .u32 (cd : Int), .bool pl, .int .u64 (at_ : Int), .slice po pn pc, .slice lo ln lc] 34)) = W0 at *
  refine (HST.out _).mono ?_
  rintro e W1 ⟨rfl, hbe⟩
  have hy := hx.later hbe
  have za0 : W1.cell? ⟨w.heap.size, 0, none⟩ = some (.int .i64 ix) := by rw [blk_at hy.a]; rfl
  have za1 : W1.cell? ⟨w.heap.size, 1, none⟩ = some (.bool st) := by rw [blk_at hy.a]; rfl
  have za2 : W1.cell? ⟨w.heap.size, 2, none⟩ = some (.bool ex) := by rw [blk_at hy.a]; rfl
  have za3 : W1.cell? ⟨w.heap.size, 3, none⟩ = some (.slice co cn cc) := by rw [blk_at hy.a]; rfl
  have zb0 : W1.cell? ⟨w.heap.size + 1, 0, none⟩ = some (.int .u16 (fl : Int)) := by rw [blk_at hy.b]; rfl
  have zb1 : W1.cell? ⟨w.heap.size + 1, 1, none⟩ = some (.int .u16 (ty : Int)) := by rw [blk_at hy.b]; rfl
  have zb2 : W1.cell? ⟨w.heap.size + 1, 2, none⟩ = some (.int .u64 (ck : Int)) := by rw [blk_at hy.b]; rfl
  have zb3 : W1.cell? ⟨w.heap.size + 1, 3, none⟩ = some (.int .u64 (off : Int)) := by rw [blk_at hy.b]; rfl
  have zb4 : W1.cell? ⟨w.heap.size + 1, 4, none⟩ = some (.int .u64 (len : Int)) := by rw [blk_at hy.b]; rfl
  have zb5 : W1.cell? ⟨w.heap.size + 1, 5, none⟩ = some (d) := by rw [blk_at hy.b]; rfl
  have zc0 : W1.cell? ⟨w.heap.size + 1 + 1, 0, none⟩ = some (.int .u32 (cd : Int)) := by rw [blk_at hy.c]; rfl
  have zc1 : W1.cell? ⟨w.heap.size + 1 + 1, 1, none⟩ = some (.bool pl) := by rw [blk_at hy.c]; rfl
  have zc2 : W1.cell? ⟨w.heap.size + 1 + 1, 2, none⟩ = some (.int .u64 (at_ : Int)) := by rw [blk_at hy.c]; rfl
  have zc3 : W1.cell? ⟨w.heap.size + 1 + 1, 3, none⟩ = some (.slice po pn pc) := by rw [blk_at hy.c]; rfl
  have zc4 : W1.cell? ⟨w.heap.size + 1 + 1, 4, none⟩ = some (.slice lo ln lc) := by rw [blk_at hy.c]; rfl
  have HB : Hid (Below w.heap.size w W1) := hy.bel
  clear hy hx hbe HST
  go_wp2
  go_ret
  exact ⟨rfl, HB.out⟩
set_option maxHeartbeats 1000000 in
theorem head_any (fl ty ck off len : Nat) (d : Value) (cd : Nat) (pl : Bool) (at_ : Nat) (po : Option Addr) (pn pc : Nat) (lo : Option Addr) (ln lc : Nat) (w : World) :
    Calls Tryd.prog 37 #[.agg #[.int .u16 (fl : Int), .int .u16 (ty : Int), .int .u64 (ck : Int), .int .u64 (off : Int), .int .u64 (len : Int), d, .int .u32 (cd : Int), .bool pl, .int .u64 (at_ : Int), .slice po pn pc, .slice lo ln lc]] w fun e w' => e = .returned (.agg #[.int .u32 (cd : Int), .int .u64 (ck : Int)]) ∧ Below w.heap.size w w' := by
  go_enter Tryd.func37, Tryd.ntmps37
  go_wp2
  exact bodyPost_ret (results_cell_one rfl _ _ (w.heap.size + 1) 44 #[.int .u32 (cd : Int), .int .u64 (ck : Int)] (0, 0) _ rfl (mkb2 w _ _ _ _).b Tryd.underlying44 rfl infoSim) rfl ⟨rfl, below2 _ _ _⟩
set_option maxHeartbeats 1000000 in
theorem chunk_any (ix : Int) (st ex : Bool) (co : Option Addr) (cn cc : Nat) (fl ty ck off len : Nat) (d : Value) (cd : Nat) (pl : Bool) (at_ : Nat) (po : Option Addr) (pn pc : Nat) (lo : Option Addr) (ln lc : Nat) (w : World) (kd : Nat) (da : Option Addr) (dn dc : Nat) :
    Calls Tryd.prog 73 #[.agg #[.int .i64 ix, .bool st, .bool ex, .slice co cn cc, .int .u16 (fl : Int), .int .u16 (ty : Int), .int .u64 (ck : Int), .int .u64 (off : Int), .int .u64 (len : Int), d, .int .u32 (cd : Int), .bool pl, .int .u64 (at_ : Int), .slice po pn pc, .slice lo ln lc], .int .u16 (kd : Int), .slice da dn dc] w fun e w' => e = .returned (.agg #[.int .u16 0, .int .u16 (kd : Int), .int .u64 (ck : Int), .int .u64 (if ex = true then (off : Int) else 0), .slice da dn dc]) ∧ Below w.heap.size w w' := by
  go_enter Tryd.func73, Tryd.ntmps73
  rcases ex with _ | _
  · go_wp2
    exact bodyPost_ret (results_cell_one rfl _ _ (w.heap.size + 1) 70 #[.int .u16 0, .int .u16 (kd : Int), .int .u64 (ck : Int), .int .u64 0, .slice da dn dc] (0, 0) _ rfl (mkb3 w _ _ _ _ _ _).b Tryd.underlying70 rfl infoChk) rfl ⟨rfl, (mkb3 w _ _ _ _ _ _).bel⟩
  · go_wp2
    exact bodyPost_ret (results_cell_one rfl _ _ (w.heap.size + 1) 70 #[.int .u16 0, .int .u16 (kd : Int), .int .u64 (ck : Int), .int .u64 (off : Int), .slice da dn dc] (0, 0) _ rfl (mkb3 w _ _ _ _ _ _).b Tryd.underlying70 rfl infoChk) rfl ⟨rfl, (mkb3 w _ _ _ _ _ _).bel⟩
end Go.Proofs.YtefgdhoapmikhaaDoor
