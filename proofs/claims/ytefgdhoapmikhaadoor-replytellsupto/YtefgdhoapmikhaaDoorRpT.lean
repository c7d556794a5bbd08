import Derived.Test.YtefgdhoapmikhaaDoorRpS
namespace Go.Proofs.YtefgdhoapmikhaaDoor
open Go.RowKit
set_option linter.unusedVariables false
set_option linter.unusedSimpArgs false
set_option maxRecDepth 100000
set_option maxHeartbeats 2000000 in
theorem bytes_no (ix : Int) (st ex : Bool) (co : Option Addr) (cn cc : Nat) (fl ty ck off len : Nat) (d : Value) (cd : Nat) (pl : Bool) (at_ : Nat) (po : Option Addr) (pn pc : Nat) (lo : Option Addr) (ln lc : Nat) (w : World) (HF : Hid (∀ W, Below w.heap.size w W → Calls Tryd.prog 10 #[.agg #[.int .i64 ix, .bool st, .bool ex, .slice co cn cc], .agg #[.int .u16 (fl : Int), .int .u16 (ty : Int), .int .u64 (ck : Int), .int .u64 (off : Int), .int .u64 (len : Int), d], .agg #[.int .u32 (cd : Int), .bool pl, .int .u64 (at_ : Int), .slice po pn pc, .slice lo ln lc]] W fun e w' => e = .returned (.int .i64 120) ∧ Below W.heap.size W w')) :
    Calls Tryd.prog 22 #[.agg #[.int .i64 ix, .bool st, .bool ex, .slice co cn cc], .agg #[.int .u16 (fl : Int), .int .u16 (ty : Int), .int .u64 (ck : Int), .int .u64 (off : Int), .int .u64 (len : Int), d], .agg #[.int .u32 (cd : Int), .bool pl, .int .u64 (at_ : Int), .slice po pn pc, .slice lo ln lc]] w fun e w' => e = .returned (.tuple #[.slice none 0 0, .int .i64 120]) ∧ Below w.heap.size w w' := by
  go_enter Tryd.func22, Tryd.ntmps22
  go_wp2_with fail
  have hx := mkb3 w #[.int .i64 ix, .bool st, .bool ex, .slice co cn cc] #[.int .u16 (fl : Int), .int .u16 (ty : Int), .int .u64 (ck : Int), .int .u64 (off : Int), .int .u64 (len : Int), d] #[.int .u32 (cd : Int), .bool pl, .int .u64 (at_ : Int), .slice po pn pc, .slice lo ln lc] 24 29 34
  generalize (((w.alloc (Obj.cells #[.int .i64 ix, .bool st, .bool ex, .slice co cn cc] 24)).alloc (Obj.cells #[.int .u16 (fl : Int), .int .u16 (ty : Int), .int .u64 (ck : Int), .int .u64 (off : Int), .int .u64 (len : Int), d] 29)).alloc (Obj.cells #[.int .u32 (cd : Int), .bool pl, .int .u64 (at_ : Int), .slice po pn pc, .slice lo ln lc] 34)) = W0 at *
  refine (HF.out _ hx.bel).mono ?_
  rintro e W1 ⟨rfl, hbe⟩
  have HB : Hid (Below w.heap.size w W1) := (hx.later hbe).bel
  clear hbe hx HF
  go_wp2
  go_ret2
  exact ⟨rfl, HB.out⟩
set_option maxHeartbeats 2000000 in
theorem bytes_sim (ix : Int) (st ex : Bool) (co : Option Addr) (cn cc : Nat) (fl ty ck off len : Nat) (d : Value) (cd : Nat) (pl : Bool) (at_ : Nat) (po : Option Addr) (pn pc : Nat) (lo : Option Addr) (ln lc : Nat) (w : World) (L : List Nat) (HF : Hid (∀ W, Below w.heap.size w W → Calls Tryd.prog 10 #[.agg #[.int .i64 ix, .bool st, .bool ex, .slice co cn cc], .agg #[.int .u16 (fl : Int), .int .u16 (ty : Int), .int .u64 (ck : Int), .int .u64 (off : Int), .int .u64 (len : Int), d], .agg #[.int .u32 (cd : Int), .bool pl, .int .u64 (at_ : Int), .slice po pn pc, .slice lo ln lc]] W fun e w' => e = .returned (.int .i64 0) ∧ Below W.heap.size W w')) (hty : ty < 65536) (hs : strB st ex ty = false)
    (HS : Hid (∀ W, Below w.heap.size w W → Calls Tryd.prog 141 #[.agg #[.int .u16 (fl : Int), .int .u16 (ty : Int), .int .u64 (ck : Int), .int .u64 (off : Int), .int .u64 (len : Int), d, .int .u32 (cd : Int), .bool pl, .int .u64 (at_ : Int), .slice po pn pc, .slice lo ln lc]] W fun e w' => ∃ ao cap, e = .returned (.slice ao L.length cap) ∧ Row W w' ao cap L)) :
    Calls Tryd.prog 22 #[.agg #[.int .i64 ix, .bool st, .bool ex, .slice co cn cc], .agg #[.int .u16 (fl : Int), .int .u16 (ty : Int), .int .u64 (ck : Int), .int .u64 (off : Int), .int .u64 (len : Int), d], .agg #[.int .u32 (cd : Int), .bool pl, .int .u64 (at_ : Int), .slice po pn pc, .slice lo ln lc]] w fun e w' => ∃ ao cap, e = .returned (.tuple #[.slice ao L.length cap, .int .i64 0]) ∧ Row w w' ao cap L := by
  have HM : Hid (∀ W, Calls Tryd.prog 43 #[.agg #[.int .i64 ix, .bool st, .bool ex, .slice co cn cc], .agg #[.int .u16 (fl : Int), .int .u16 (ty : Int), .int .u64 (ck : Int), .int .u64 (off : Int), .int .u64 (len : Int), d], .agg #[.int .u32 (cd : Int), .bool pl, .int .u64 (at_ : Int), .slice po pn pc, .slice lo ln lc]] W fun e w' => e = .returned (.iface 100 (.agg #[.int .u16 (fl : Int), .int .u16 (ty : Int), .int .u64 (ck : Int), .int .u64 (off : Int), .int .u64 (len : Int), d, .int .u32 (cd : Int), .bool pl, .int .u64 (at_ : Int), .slice po pn pc, .slice lo ln lc])) ∧ Below W.heap.size W w') := fun W => makerOf_sim ix st ex co cn cc fl ty ck off len d cd pl at_ po pn pc lo ln lc W hty hs
  clear hs
  go_enter Tryd.func22, Tryd.ntmps22
  go_wp2_with fail
  have hx := mkb3 w #[.int .i64 ix, .bool st, .bool ex, .slice co cn cc] #[.int .u16 (fl : Int), .int .u16 (ty : Int), .int .u64 (ck : Int), .int .u64 (off : Int), .int .u64 (len : Int), d] #[.int .u32 (cd : Int), .bool pl, .int .u64 (at_ : Int), .slice po pn pc, .slice lo ln lc] 24 29 34
  generalize (((w.alloc (Obj.cells #[.int .i64 ix, .bool st, .bool ex, .slice co cn cc] 24)).alloc (Obj.cells #[.int .u16 (fl : Int), .int .u16 (ty : Int), .int .u64 (ck : Int), .int .u64 (off : Int), .int .u64 (len : Int), d] 29)).alloc (Obj.cells #[.int .u32 (cd : Int), .bool pl, .int .u64 (at_ : Int), .slice po pn pc, .slice lo ln lc] 34)) = W0 at *
  refine (HF.out _ hx.bel).mono ?_
  rintro e W1 ⟨rfl, hbe⟩
  have hy := hx.later hbe
  have za0 : W1.cell? ⟨w.heap.size, 0, none⟩ = some (.int .i64 ix) := by rw [blk_at hy.a]; rfl
  have za1 : W1.cell? ⟨w.heap.size, 1, none⟩ = some (.bool st) := by rw [blk_at hy.a]; rfl
  have za2 : W1.cell? ⟨w.heap.size, 2, none⟩ = some (.bool ex) := by rw [blk_at hy.a]; rfl
  have za3 : W1.cell? ⟨w.heap.size, 3, none⟩ = some (.slice co cn cc) := by rw [blk_at hy.a]; rfl
  have zb0 : W1.cell? ⟨w.heap.size + 1, 0, none⟩ = some (.int .u16 (fl : Int)) := by rw [blk_at hy.b]; rfl
  have zb1 : W1.cell? ⟨w.heap.size + 1, 1, none⟩ = some (.int .u16 (ty : Int)) := by rw [blk_at hy.b]; rfl
  have zb2 : W1.cell? ⟨w.heap.size + 1, 2, none⟩ = some (.int .u64 (ck : Int)) := by rw [blk_at hy.b]; rfl
  have zb3 : W1.cell? ⟨w.heap.size + 1, 3, none⟩ = some (.int .u64 (off : Int)) := by rw [blk_at hy.b]; rfl
  have zb4 : W1.cell? ⟨w.heap.size + 1, 4, none⟩ = some (.int .u64 (len : Int)) := by rw [blk_at hy.b]; rfl
  have zb5 : W1.cell? ⟨w.heap.size + 1, 5, none⟩ = some (d) := by rw [blk_at hy.b]; rfl
  have zc0 : W1.cell? ⟨w.heap.size + 1 + 1, 0, none⟩ = some (.int .u32 (cd : Int)) := by rw [blk_at hy.c]; rfl
  have zc1 : W1.cell? ⟨w.heap.size + 1 + 1, 1, none⟩ = some (.bool pl) := by rw [blk_at hy.c]; rfl
  have zc2 : W1.cell? ⟨w.heap.size + 1 + 1, 2, none⟩ = some (.int .u64 (at_ : Int)) := by rw [blk_at hy.c]; rfl
  have zc3 : W1.cell? ⟨w.heap.size + 1 + 1, 3, none⟩ = some (.slice po pn pc) := by rw [blk_at hy.c]; rfl
  have zc4 : W1.cell? ⟨w.heap.size + 1 + 1, 4, none⟩ = some (.slice lo ln lc) := by rw [blk_at hy.c]; rfl
  have HB : Hid (Bx3 w W1 #[.int .i64 ix, .bool st, .bool ex, .slice co cn cc] #[.int .u16 (fl : Int), .int .u16 (ty : Int), .int .u64 (ck : Int), .int .u64 (off : Int), .int .u64 (len : Int), d] #[.int .u32 (cd : Int), .bool pl, .int .u64 (at_ : Int), .slice po pn pc, .slice lo ln lc] 24 29 34) := hy
  clear hbe hx hy HF
  go_wp2_with fail
  refine (HM.out _).mono ?_
  rintro e W2 ⟨rfl, hbe⟩
  have HB2 : Hid (Below w.heap.size w W2) := (HB.out.later hbe).bel
  clear hbe HM
  go_wp2_with fail
  refine (HS.out _ HB2.out).mono ?_
  rintro e W3 ⟨ao, cap, rfl, hr⟩
  have HR : Hid (Row w W3 ao cap L) := ⟨owns_mono hr.own HB2.out.size, hr.lt, HB2.out.trans (hr.bel.mono HB2.out.size)⟩
  clear hr HS
  go_wp2
  go_ret2
  exact ⟨_, _, rfl, HR.out⟩
end Go.Proofs.YtefgdhoapmikhaaDoor
