import Derived.Test.YtefgdhoapmikhaaDoorRvFa
namespace Go.Proofs.YtefgdhoapmikhaaDoor
open Go.RowKit
set_option linter.unusedVariables false
set_option linter.unusedSimpArgs false
set_option maxRecDepth 100000
set_option maxHeartbeats 4000000 in
theorem fails_tS1 (ix : Int) (co : Option Addr) (cn cc : Nat) (fl ty ck off len : Nat) (d : Value) (cd : Nat) (by_ : Nat) (w : World) (hcn : True) (hty : ty < 65536) (hck : ck < 18446744073709551616) (h1 : off < 18446744073709551616) (h2 : len < 18446744073709551616) (h4 : cd < 4294967296) (hcd : cd ≠ 0) (hby : by_ < 4294967296) (hl0 : 0 < len) (ho0 : off ≤ 9223372036854775808) :
    Calls Tryd.prog 6 #[.agg #[.int .i64 ix, .bool false, .bool false, .slice co cn cc], .agg #[.int .u16 (fl : Int), .int .u16 (ty : Int), .int .u64 (ck : Int), .int .u64 (off : Int), .int .u64 (len : Int), d], .int .u32 (cd : Int), .bool true, .int .u32 (by_ : Int)] w fun e w' => e = .returned (.bool true) ∧ Below w.heap.size w w' := by
  have hs : strB false false ty = false := by simp [strB]
  obtain ⟨at_, hat⟩ : ∃ at_, at_ = off + by_ % len := ⟨_, rfl⟩
  have hm : by_ % len < len := Nat.mod_lt _ hl0
  have hm2 : by_ % len ≤ by_ := Nat.mod_le _ _
  have h3 : at_ < 18446744073709551616 := by omega
  have hp : off ≤ at_ ∧ at_ < off + len := by omega
  have HBy : Hid (∀ W, Calls Tryd.prog 22 #[.agg #[.int .i64 ix, .bool false, .bool false, .slice co cn cc], .agg #[.int .u16 (fl : Int), .int .u16 (ty : Int), .int .u64 (ck : Int), .int .u64 (off : Int), .int .u64 (len : Int), d], .agg #[.int .u32 (cd : Int), .bool true, .int .u64 (at_ : Int), .slice none 0 0, .slice none 0 0]] W fun e w' => ∃ ao cap, e = .returned (.tuple #[.slice ao 16 cap, .int .i64 0]) ∧ Row W w' ao cap (sL cd ck)) := fun W => bytesE_sim ix false false co cn cc fl ty ck off len d cd true at_ W hcn hty hck h1 h2 h3 h4 hcd (by simpa using hp) hs
  have HDs : Hid (∀ W b o cap, CRow W (some ⟨b, o, none⟩) cap (sL cd ck) → Calls Tryd.prog 26 #[.slice (some ⟨b, o, none⟩) 16 cap] W fun e w' => e = .returned (.tuple #[.agg #[.int .u32 (cd : Int), .int .u64 (ck : Int)], .int .i64 16, .int .i64 0]) ∧ Below W.heap.size W w') := fun W b o cap h => by
    have := dec_simple cd ck [] h4 hck b o cap W (by rw [List.append_nil]; exact h)
    simpa [sL, bigTo_length] using this
  have H5 : Hid (∀ W, Calls Tryd.prog 14 #[] W fun e w' => e = .returned (.bool true) ∧ Below W.heap.size W w') := alive_any
  have HNm : Hid (∀ e W, Calls Tryd.prog 9 #[.int .i64 e] W fun r w' => r = .returned (.int .i64 e) ∧ w' = W) := num_any
  have f1 : ((cd : Int) == 0) = false := by rw [beq_eq_false_iff_ne]; omega
  have f2 : decide ((0 : Int) < (len : Int)) = true := by simp; omega
  have f3 : decide ((off : Int) ≤ 9223372036854775808) = true := by simp; omega
  have f4 : ((len : Int) == 0) = false := by rw [beq_eq_false_iff_ne]; omega
  have f5 : ¬ (len : Int) = 0 := by omega
  have a1 : IntKind.u64.wrap (by_ : Int) = by_ := wu64 (by omega) (by omega)
  have a2 : (by_ : Int).tmod (len : Int) = ((by_ % len : Nat) : Int) := by rw [Int.ofNat_tmod]
  have a4 : IntKind.u64.wrap ((by_ % len : Nat) : Int) = ((by_ % len : Nat) : Int) := wu64 (by omega) (by omega)
  have a3 : IntKind.u64.wrap ((off : Int) + ((by_ % len : Nat) : Int)) = (at_ : Int) := by rw [wu64 (by omega) (by omega)]; omega
  clear hs hp hat 
  go_enter Tryd.func6, Tryd.ntmps6
  go_wp2_with fail
  have hx : Bx3 w (((w.alloc (Obj.cells #[.int .i64 ix, .bool false, .bool false, .slice co cn cc] 24)).alloc (Obj.cells #[.int .u16 (fl : Int), .int .u16 (ty : Int), .int .u64 (ck : Int), .int .u64 (off : Int), .int .u64 (len : Int), d] 29)).alloc (Obj.cells #[.int .u32 (cd : Int), .bool true, .int .u64 0, .slice none 0 0, .slice none 0 0] 34)) #[.int .i64 ix, .bool false, .bool false, .slice co cn cc] #[.int .u16 (fl : Int), .int .u16 (ty : Int), .int .u64 (ck : Int), .int .u64 (off : Int), .int .u64 (len : Int), d] #[.int .u32 (cd : Int), .bool true, .int .u64 0, .slice none 0 0, .slice none 0 0] 24 29 34 := mkb3 w _ _ _ _ _ _
  generalize (((w.alloc (Obj.cells #[.int .i64 ix, .bool false, .bool false, .slice co cn cc] 24)).alloc (Obj.cells #[.int .u16 (fl : Int), .int .u16 (ty : Int), .int .u64 (ck : Int), .int .u64 (off : Int), .int .u64 (len : Int), d] 29)).alloc (Obj.cells #[.int .u32 (cd : Int), .bool true, .int .u64 0, .slice none 0 0, .slice none 0 0] 34)) = W3 at *
  have r3 : W3.cell? ⟨w.heap.size + 1, 3, none⟩ = some (.int .u64 (off : Int)) := by rw [blk_at hx.b]; rfl
  have r4 : W3.cell? ⟨w.heap.size + 1, 4, none⟩ = some (.int .u64 (len : Int)) := by rw [blk_at hx.b]; rfl
  have o2 : W3.cell? ⟨w.heap.size + 1 + 1, 2, none⟩ = some (.int .u64 0) := by rw [blk_at hx.c]; rfl
  have fr2 : W3.frozen? ⟨w.heap.size + 1 + 1, 2, none⟩ = false := blk_free hx.c 2
  have HX : Hid (Bx3 w W3 #[.int .i64 ix, .bool false, .bool false, .slice co cn cc] #[.int .u16 (fl : Int), .int .u16 (ty : Int), .int .u64 (ck : Int), .int .u64 (off : Int), .int .u64 (len : Int), d] #[.int .u32 (cd : Int), .bool true, .int .u64 0, .slice none 0 0, .slice none 0 0] 24 29 34) := hx
  clear hx
  generalize hbm : by_ % len = bm at *
  clear hbm
  go_region
  have hx5 : Bx3 w (W3.setCell ⟨w.heap.size + 1 + 1, 2, none⟩ (.int .u64 (at_ : Int))) #[.int .i64 ix, .bool false, .bool false, .slice co cn cc] #[.int .u16 (fl : Int), .int .u16 (ty : Int), .int .u64 (ck : Int), .int .u64 (off : Int), .int .u64 (len : Int), d] #[.int .u32 (cd : Int), .bool true, .int .u64 (at_ : Int), .slice none 0 0, .slice none 0 0] 24 29 34 := HX.out.put2 (.int .u64 (at_ : Int)) trivial
  clear r3 r4 o2 fr2 HX
  have xa0 : (W3.setCell ⟨w.heap.size + 1 + 1, 2, none⟩ (.int .u64 (at_ : Int))).cell? ⟨w.heap.size, 0, none⟩ = some (.int .i64 ix) := by rw [blk_at hx5.a]; rfl
  have xa1 : (W3.setCell ⟨w.heap.size + 1 + 1, 2, none⟩ (.int .u64 (at_ : Int))).cell? ⟨w.heap.size, 1, none⟩ = some (.bool false) := by rw [blk_at hx5.a]; rfl
  have xa2 : (W3.setCell ⟨w.heap.size + 1 + 1, 2, none⟩ (.int .u64 (at_ : Int))).cell? ⟨w.heap.size, 2, none⟩ = some (.bool false) := by rw [blk_at hx5.a]; rfl
  have xa3 : (W3.setCell ⟨w.heap.size + 1 + 1, 2, none⟩ (.int .u64 (at_ : Int))).cell? ⟨w.heap.size, 3, none⟩ = some (.slice co cn cc) := by rw [blk_at hx5.a]; rfl
  have xb0 : (W3.setCell ⟨w.heap.size + 1 + 1, 2, none⟩ (.int .u64 (at_ : Int))).cell? ⟨w.heap.size + 1, 0, none⟩ = some (.int .u16 (fl : Int)) := by rw [blk_at hx5.b]; rfl
  have xb1 : (W3.setCell ⟨w.heap.size + 1 + 1, 2, none⟩ (.int .u64 (at_ : Int))).cell? ⟨w.heap.size + 1, 1, none⟩ = some (.int .u16 (ty : Int)) := by rw [blk_at hx5.b]; rfl
  have xb2 : (W3.setCell ⟨w.heap.size + 1 + 1, 2, none⟩ (.int .u64 (at_ : Int))).cell? ⟨w.heap.size + 1, 2, none⟩ = some (.int .u64 (ck : Int)) := by rw [blk_at hx5.b]; rfl
  have xb3 : (W3.setCell ⟨w.heap.size + 1 + 1, 2, none⟩ (.int .u64 (at_ : Int))).cell? ⟨w.heap.size + 1, 3, none⟩ = some (.int .u64 (off : Int)) := by rw [blk_at hx5.b]; rfl
  have xb4 : (W3.setCell ⟨w.heap.size + 1 + 1, 2, none⟩ (.int .u64 (at_ : Int))).cell? ⟨w.heap.size + 1, 4, none⟩ = some (.int .u64 (len : Int)) := by rw [blk_at hx5.b]; rfl
  have xb5 : (W3.setCell ⟨w.heap.size + 1 + 1, 2, none⟩ (.int .u64 (at_ : Int))).cell? ⟨w.heap.size + 1, 5, none⟩ = some (d) := by rw [blk_at hx5.b]; rfl
  have xc0 : (W3.setCell ⟨w.heap.size + 1 + 1, 2, none⟩ (.int .u64 (at_ : Int))).cell? ⟨w.heap.size + 1 + 1, 0, none⟩ = some (.int .u32 (cd : Int)) := by rw [blk_at hx5.c]; rfl
  have xc1 : (W3.setCell ⟨w.heap.size + 1 + 1, 2, none⟩ (.int .u64 (at_ : Int))).cell? ⟨w.heap.size + 1 + 1, 1, none⟩ = some (.bool true) := by rw [blk_at hx5.c]; rfl
  have xc2 : (W3.setCell ⟨w.heap.size + 1 + 1, 2, none⟩ (.int .u64 (at_ : Int))).cell? ⟨w.heap.size + 1 + 1, 2, none⟩ = some (.int .u64 (at_ : Int)) := by rw [blk_at hx5.c]; rfl
  have xc3 : (W3.setCell ⟨w.heap.size + 1 + 1, 2, none⟩ (.int .u64 (at_ : Int))).cell? ⟨w.heap.size + 1 + 1, 3, none⟩ = some (.slice none 0 0) := by rw [blk_at hx5.c]; rfl
  have xc4 : (W3.setCell ⟨w.heap.size + 1 + 1, 2, none⟩ (.int .u64 (at_ : Int))).cell? ⟨w.heap.size + 1 + 1, 4, none⟩ = some (.slice none 0 0) := by rw [blk_at hx5.c]; rfl
  go_wp2_with fail
  have H5x : Hid (Bx3 w (W3.setCell ⟨w.heap.size + 1 + 1, 2, none⟩ (.int .u64 (at_ : Int))).drew #[.int .i64 ix, .bool false, .bool false, .slice co cn cc] #[.int .u16 (fl : Int), .int .u16 (ty : Int), .int .u64 (ck : Int), .int .u64 (off : Int), .int .u64 (len : Int), d] #[.int .u32 (cd : Int), .bool true, .int .u64 (at_ : Int), .slice none 0 0, .slice none 0 0] 24 29 34) := hx5.later (below_drewN _ 1)
  generalize (W3.setCell ⟨w.heap.size + 1 + 1, 2, none⟩ (.int .u64 (at_ : Int))).drew = W5 at *
  clear hx5
  refine (HBy.out _).mono ?_
  rintro e W6 ⟨ao, cap, rfl, hr⟩
  have hy := H5x.out.later hr.bel
  have za0 : W6.cell? ⟨w.heap.size, 0, none⟩ = some (.int .i64 ix) := by rw [blk_at hy.a]; rfl
  have za1 : W6.cell? ⟨w.heap.size, 1, none⟩ = some (.bool false) := by rw [blk_at hy.a]; rfl
  have za2 : W6.cell? ⟨w.heap.size, 2, none⟩ = some (.bool false) := by rw [blk_at hy.a]; rfl
  have za3 : W6.cell? ⟨w.heap.size, 3, none⟩ = some (.slice co cn cc) := by rw [blk_at hy.a]; rfl
  have zb0 : W6.cell? ⟨w.heap.size + 1, 0, none⟩ = some (.int .u16 (fl : Int)) := by rw [blk_at hy.b]; rfl
  have zb1 : W6.cell? ⟨w.heap.size + 1, 1, none⟩ = some (.int .u16 (ty : Int)) := by rw [blk_at hy.b]; rfl
  have zb2 : W6.cell? ⟨w.heap.size + 1, 2, none⟩ = some (.int .u64 (ck : Int)) := by rw [blk_at hy.b]; rfl
  have zb3 : W6.cell? ⟨w.heap.size + 1, 3, none⟩ = some (.int .u64 (off : Int)) := by rw [blk_at hy.b]; rfl
  have zb4 : W6.cell? ⟨w.heap.size + 1, 4, none⟩ = some (.int .u64 (len : Int)) := by rw [blk_at hy.b]; rfl
  have zb5 : W6.cell? ⟨w.heap.size + 1, 5, none⟩ = some (d) := by rw [blk_at hy.b]; rfl
  have zc0 : W6.cell? ⟨w.heap.size + 1 + 1, 0, none⟩ = some (.int .u32 (cd : Int)) := by rw [blk_at hy.c]; rfl
  have zc1 : W6.cell? ⟨w.heap.size + 1 + 1, 1, none⟩ = some (.bool true) := by rw [blk_at hy.c]; rfl
  have zc2 : W6.cell? ⟨w.heap.size + 1 + 1, 2, none⟩ = some (.int .u64 (at_ : Int)) := by rw [blk_at hy.c]; rfl
  have zc3 : W6.cell? ⟨w.heap.size + 1 + 1, 3, none⟩ = some (.slice none 0 0) := by rw [blk_at hy.c]; rfl
  have zc4 : W6.cell? ⟨w.heap.size + 1 + 1, 4, none⟩ = some (.slice none 0 0) := by rw [blk_at hy.c]; rfl
  have H6 : Hid (Bx3 w W6 #[.int .i64 ix, .bool false, .bool false, .slice co cn cc] #[.int .u16 (fl : Int), .int .u16 (ty : Int), .int .u64 (ck : Int), .int .u64 (off : Int), .int .u64 (len : Int), d] #[.int .u32 (cd : Int), .bool true, .int .u64 (at_ : Int), .slice none 0 0, .slice none 0 0] 24 29 34) := hy
  have HR : Hid (Row W5 W6 ao cap (sL cd ck)) := hr
  clear hy hr HBy H5x xa0 xa1 xa2 xa3 xb0 xb1 xb2 xb3 xb4 xb5 xc0 xc1 xc2 xc3 xc4
  go_wp2_with fail
  refine (HNm.out _ _).mono ?_
  rintro e W7 ⟨rfl, hw⟩
  rw [hw]; clear hw
  have hcr := HR.out.crow (by simp [sL, bigTo_length])
  obtain ⟨b0, o0, rfl⟩ := hcr.some (by simp [sL, bigTo_length])
  go_wp2_with fail
  refine (HDs.out _ _ _ _ hcr).mono ?_
  rintro e W8 ⟨rfl, hb⟩
  have hy := H6.out.later hb
  have uq2 : ∀ o, (W8.alloc o).cell? ⟨w.heap.size + 1, 2, none⟩ = some (.int .u64 (ck : Int)) := fun o => by rw [blk_at (hy.later (below1 W8 o)).b]; rfl
  have H8 : Hid (Bx3 w W8 #[.int .i64 ix, .bool false, .bool false, .slice co cn cc] #[.int .u16 (fl : Int), .int .u16 (ty : Int), .int .u64 (ck : Int), .int .u64 (off : Int), .int .u64 (len : Int), d] #[.int .u32 (cd : Int), .bool true, .int .u64 (at_ : Int), .slice none 0 0, .slice none 0 0] 24 29 34) := hy
  clear hy hb hcr HDs HR H6 za0 za1 za2 za3 zb0 zb1 zb2 zb3 zb4 zb5 zc0 zc1 zc2 zc3 zc4
  go_wp2_with fail
  refine (HNm.out _ _).mono ?_
  rintro e W9 ⟨rfl, hw⟩
  rw [hw]; clear hw
  go_wp2_with fail
  refine (H5.out _).mono ?_
  rintro e W9 ⟨rfl, hb⟩
  have H9 : Hid (Below w.heap.size w W9) := ((H8.out.later (below1 W8 _)).later hb).bel
  clear hb H8
  go_wp2
  go_ret
  exact ⟨rfl, H9.out⟩
set_option maxHeartbeats 4000000 in
theorem fails_tS2 (ix : Int) (co : Option Addr) (cn cc : Nat) (fl ty ck off len : Nat) (d : Value) (cd : Nat) (by_ : Nat) (w : World) (hcn : True) (hty : ty < 65536) (hck : ck < 18446744073709551616) (h1 : off < 18446744073709551616) (h2 : len < 18446744073709551616) (h4 : cd < 4294967296) (hcd : cd ≠ 0) (ht0 : ty ≠ 0) (ht7 : ty ≠ 7) (hby : by_ < 4294967296) (hl0 : 0 < len) (ho0 : off ≤ 9223372036854775808) :
    Calls Tryd.prog 6 #[.agg #[.int .i64 ix, .bool true, .bool false, .slice co cn cc], .agg #[.int .u16 (fl : Int), .int .u16 (ty : Int), .int .u64 (ck : Int), .int .u64 (off : Int), .int .u64 (len : Int), d], .int .u32 (cd : Int), .bool true, .int .u32 (by_ : Int)] w fun e w' => e = .returned (.bool true) ∧ Below w.heap.size w w' := by
  have hs : strB true false ty = false := by simp [strB, ht0, ht7]
  obtain ⟨at_, hat⟩ : ∃ at_, at_ = off + by_ % len := ⟨_, rfl⟩
  have hm : by_ % len < len := Nat.mod_lt _ hl0
  have hm2 : by_ % len ≤ by_ := Nat.mod_le _ _
  have h3 : at_ < 18446744073709551616 := by omega
  have hp : off ≤ at_ ∧ at_ < off + len := by omega
  have HBy : Hid (∀ W, Calls Tryd.prog 22 #[.agg #[.int .i64 ix, .bool true, .bool false, .slice co cn cc], .agg #[.int .u16 (fl : Int), .int .u16 (ty : Int), .int .u64 (ck : Int), .int .u64 (off : Int), .int .u64 (len : Int), d], .agg #[.int .u32 (cd : Int), .bool true, .int .u64 (at_ : Int), .slice none 0 0, .slice none 0 0]] W fun e w' => ∃ ao cap, e = .returned (.tuple #[.slice ao 16 cap, .int .i64 0]) ∧ Row W w' ao cap (sL cd ck)) := fun W => bytesE_sim ix true false co cn cc fl ty ck off len d cd true at_ W hcn hty hck h1 h2 h3 h4 hcd (by simpa using hp) hs
  have HDs : Hid (∀ W b o cap, CRow W (some ⟨b, o, none⟩) cap (sL cd ck) → Calls Tryd.prog 26 #[.slice (some ⟨b, o, none⟩) 16 cap] W fun e w' => e = .returned (.tuple #[.agg #[.int .u32 (cd : Int), .int .u64 (ck : Int)], .int .i64 16, .int .i64 0]) ∧ Below W.heap.size W w') := fun W b o cap h => by
    have := dec_simple cd ck [] h4 hck b o cap W (by rw [List.append_nil]; exact h)
    simpa [sL, bigTo_length] using this
  have H5 : Hid (∀ W, Calls Tryd.prog 14 #[] W fun e w' => e = .returned (.bool true) ∧ Below W.heap.size W w') := alive_any
  have HNm : Hid (∀ e W, Calls Tryd.prog 9 #[.int .i64 e] W fun r w' => r = .returned (.int .i64 e) ∧ w' = W) := num_any
  have f1 : ((cd : Int) == 0) = false := by rw [beq_eq_false_iff_ne]; omega
  have t0 : ((ty : Int) != 0) = true := by rw [bne_iff_ne]; omega
  have t7 : ((ty : Int) != 7) = true := by rw [bne_iff_ne]; omega
  have f2 : decide ((0 : Int) < (len : Int)) = true := by simp; omega
  have f3 : decide ((off : Int) ≤ 9223372036854775808) = true := by simp; omega
  have f4 : ((len : Int) == 0) = false := by rw [beq_eq_false_iff_ne]; omega
  have f5 : ¬ (len : Int) = 0 := by omega
  have a1 : IntKind.u64.wrap (by_ : Int) = by_ := wu64 (by omega) (by omega)
  have a2 : (by_ : Int).tmod (len : Int) = ((by_ % len : Nat) : Int) := by rw [Int.ofNat_tmod]
  have a4 : IntKind.u64.wrap ((by_ % len : Nat) : Int) = ((by_ % len : Nat) : Int) := wu64 (by omega) (by omega)
  have a3 : IntKind.u64.wrap ((off : Int) + ((by_ % len : Nat) : Int)) = (at_ : Int) := by rw [wu64 (by omega) (by omega)]; omega
  clear hs hp hat ht0 ht7
  go_enter Tryd.func6, Tryd.ntmps6
  go_wp2_with fail
  have hx : Bx3 w (((w.alloc (Obj.cells #[.int .i64 ix, .bool true, .bool false, .slice co cn cc] 24)).alloc (Obj.cells #[.int .u16 (fl : Int), .int .u16 (ty : Int), .int .u64 (ck : Int), .int .u64 (off : Int), .int .u64 (len : Int), d] 29)).alloc (Obj.cells #[.int .u32 (cd : Int), .bool true, .int .u64 0, .slice none 0 0, .slice none 0 0] 34)) #[.int .i64 ix, .bool true, .bool false, .slice co cn cc] #[.int .u16 (fl : Int), .int .u16 (ty : Int), .int .u64 (ck : Int), .int .u64 (off : Int), .int .u64 (len : Int), d] #[.int .u32 (cd : Int), .bool true, .int .u64 0, .slice none 0 0, .slice none 0 0] 24 29 34 := mkb3 w _ _ _ _ _ _
  generalize (((w.alloc (Obj.cells #[.int .i64 ix, .bool true, .bool false, .slice co cn cc] 24)).alloc (Obj.cells #[.int .u16 (fl : Int), .int .u16 (ty : Int), .int .u64 (ck : Int), .int .u64 (off : Int), .int .u64 (len : Int), d] 29)).alloc (Obj.cells #[.int .u32 (cd : Int), .bool true, .int .u64 0, .slice none 0 0, .slice none 0 0] 34)) = W3 at *
  have r3 : W3.cell? ⟨w.heap.size + 1, 3, none⟩ = some (.int .u64 (off : Int)) := by rw [blk_at hx.b]; rfl
  have r4 : W3.cell? ⟨w.heap.size + 1, 4, none⟩ = some (.int .u64 (len : Int)) := by rw [blk_at hx.b]; rfl
  have o2 : W3.cell? ⟨w.heap.size + 1 + 1, 2, none⟩ = some (.int .u64 0) := by rw [blk_at hx.c]; rfl
  have fr2 : W3.frozen? ⟨w.heap.size + 1 + 1, 2, none⟩ = false := blk_free hx.c 2
  have HX : Hid (Bx3 w W3 #[.int .i64 ix, .bool true, .bool false, .slice co cn cc] #[.int .u16 (fl : Int), .int .u16 (ty : Int), .int .u64 (ck : Int), .int .u64 (off : Int), .int .u64 (len : Int), d] #[.int .u32 (cd : Int), .bool true, .int .u64 0, .slice none 0 0, .slice none 0 0] 24 29 34) := hx
  clear hx
  generalize hbm : by_ % len = bm at *
  clear hbm
  go_region
  have hx5 : Bx3 w (W3.setCell ⟨w.heap.size + 1 + 1, 2, none⟩ (.int .u64 (at_ : Int))) #[.int .i64 ix, .bool true, .bool false, .slice co cn cc] #[.int .u16 (fl : Int), .int .u16 (ty : Int), .int .u64 (ck : Int), .int .u64 (off : Int), .int .u64 (len : Int), d] #[.int .u32 (cd : Int), .bool true, .int .u64 (at_ : Int), .slice none 0 0, .slice none 0 0] 24 29 34 := HX.out.put2 (.int .u64 (at_ : Int)) trivial
  clear r3 r4 o2 fr2 HX
  have xa0 : (W3.setCell ⟨w.heap.size + 1 + 1, 2, none⟩ (.int .u64 (at_ : Int))).cell? ⟨w.heap.size, 0, none⟩ = some (.int .i64 ix) := by rw [blk_at hx5.a]; rfl
  have xa1 : (W3.setCell ⟨w.heap.size + 1 + 1, 2, none⟩ (.int .u64 (at_ : Int))).cell? ⟨w.heap.size, 1, none⟩ = some (.bool true) := by rw [blk_at hx5.a]; rfl
  have xa2 : (W3.setCell ⟨w.heap.size + 1 + 1, 2, none⟩ (.int .u64 (at_ : Int))).cell? ⟨w.heap.size, 2, none⟩ = some (.bool false) := by rw [blk_at hx5.a]; rfl
  have xa3 : (W3.setCell ⟨w.heap.size + 1 + 1, 2, none⟩ (.int .u64 (at_ : Int))).cell? ⟨w.heap.size, 3, none⟩ = some (.slice co cn cc) := by rw [blk_at hx5.a]; rfl
  have xb0 : (W3.setCell ⟨w.heap.size + 1 + 1, 2, none⟩ (.int .u64 (at_ : Int))).cell? ⟨w.heap.size + 1, 0, none⟩ = some (.int .u16 (fl : Int)) := by rw [blk_at hx5.b]; rfl
  have xb1 : (W3.setCell ⟨w.heap.size + 1 + 1, 2, none⟩ (.int .u64 (at_ : Int))).cell? ⟨w.heap.size + 1, 1, none⟩ = some (.int .u16 (ty : Int)) := by rw [blk_at hx5.b]; rfl
  have xb2 : (W3.setCell ⟨w.heap.size + 1 + 1, 2, none⟩ (.int .u64 (at_ : Int))).cell? ⟨w.heap.size + 1, 2, none⟩ = some (.int .u64 (ck : Int)) := by rw [blk_at hx5.b]; rfl
  have xb3 : (W3.setCell ⟨w.heap.size + 1 + 1, 2, none⟩ (.int .u64 (at_ : Int))).cell? ⟨w.heap.size + 1, 3, none⟩ = some (.int .u64 (off : Int)) := by rw [blk_at hx5.b]; rfl
  have xb4 : (W3.setCell ⟨w.heap.size + 1 + 1, 2, none⟩ (.int .u64 (at_ : Int))).cell? ⟨w.heap.size + 1, 4, none⟩ = some (.int .u64 (len : Int)) := by rw [blk_at hx5.b]; rfl
  have xb5 : (W3.setCell ⟨w.heap.size + 1 + 1, 2, none⟩ (.int .u64 (at_ : Int))).cell? ⟨w.heap.size + 1, 5, none⟩ = some (d) := by rw [blk_at hx5.b]; rfl
  have xc0 : (W3.setCell ⟨w.heap.size + 1 + 1, 2, none⟩ (.int .u64 (at_ : Int))).cell? ⟨w.heap.size + 1 + 1, 0, none⟩ = some (.int .u32 (cd : Int)) := by rw [blk_at hx5.c]; rfl
  have xc1 : (W3.setCell ⟨w.heap.size + 1 + 1, 2, none⟩ (.int .u64 (at_ : Int))).cell? ⟨w.heap.size + 1 + 1, 1, none⟩ = some (.bool true) := by rw [blk_at hx5.c]; rfl
  have xc2 : (W3.setCell ⟨w.heap.size + 1 + 1, 2, none⟩ (.int .u64 (at_ : Int))).cell? ⟨w.heap.size + 1 + 1, 2, none⟩ = some (.int .u64 (at_ : Int)) := by rw [blk_at hx5.c]; rfl
  have xc3 : (W3.setCell ⟨w.heap.size + 1 + 1, 2, none⟩ (.int .u64 (at_ : Int))).cell? ⟨w.heap.size + 1 + 1, 3, none⟩ = some (.slice none 0 0) := by rw [blk_at hx5.c]; rfl
  have xc4 : (W3.setCell ⟨w.heap.size + 1 + 1, 2, none⟩ (.int .u64 (at_ : Int))).cell? ⟨w.heap.size + 1 + 1, 4, none⟩ = some (.slice none 0 0) := by rw [blk_at hx5.c]; rfl
  go_wp2_with fail
  have H5x : Hid (Bx3 w (W3.setCell ⟨w.heap.size + 1 + 1, 2, none⟩ (.int .u64 (at_ : Int))).drew #[.int .i64 ix, .bool true, .bool false, .slice co cn cc] #[.int .u16 (fl : Int), .int .u16 (ty : Int), .int .u64 (ck : Int), .int .u64 (off : Int), .int .u64 (len : Int), d] #[.int .u32 (cd : Int), .bool true, .int .u64 (at_ : Int), .slice none 0 0, .slice none 0 0] 24 29 34) := hx5.later (below_drewN _ 1)
  generalize (W3.setCell ⟨w.heap.size + 1 + 1, 2, none⟩ (.int .u64 (at_ : Int))).drew = W5 at *
  clear hx5
  refine (HBy.out _).mono ?_
  rintro e W6 ⟨ao, cap, rfl, hr⟩
  have hy := H5x.out.later hr.bel
  have za0 : W6.cell? ⟨w.heap.size, 0, none⟩ = some (.int .i64 ix) := by rw [blk_at hy.a]; rfl
  have za1 : W6.cell? ⟨w.heap.size, 1, none⟩ = some (.bool true) := by rw [blk_at hy.a]; rfl
  have za2 : W6.cell? ⟨w.heap.size, 2, none⟩ = some (.bool false) := by rw [blk_at hy.a]; rfl
  have za3 : W6.cell? ⟨w.heap.size, 3, none⟩ = some (.slice co cn cc) := by rw [blk_at hy.a]; rfl
  have zb0 : W6.cell? ⟨w.heap.size + 1, 0, none⟩ = some (.int .u16 (fl : Int)) := by rw [blk_at hy.b]; rfl
  have zb1 : W6.cell? ⟨w.heap.size + 1, 1, none⟩ = some (.int .u16 (ty : Int)) := by rw [blk_at hy.b]; rfl
  have zb2 : W6.cell? ⟨w.heap.size + 1, 2, none⟩ = some (.int .u64 (ck : Int)) := by rw [blk_at hy.b]; rfl
  have zb3 : W6.cell? ⟨w.heap.size + 1, 3, none⟩ = some (.int .u64 (off : Int)) := by rw [blk_at hy.b]; rfl
  have zb4 : W6.cell? ⟨w.heap.size + 1, 4, none⟩ = some (.int .u64 (len : Int)) := by rw [blk_at hy.b]; rfl
  have zb5 : W6.cell? ⟨w.heap.size + 1, 5, none⟩ = some (d) := by rw [blk_at hy.b]; rfl
  have zc0 : W6.cell? ⟨w.heap.size + 1 + 1, 0, none⟩ = some (.int .u32 (cd : Int)) := by rw [blk_at hy.c]; rfl
  have zc1 : W6.cell? ⟨w.heap.size + 1 + 1, 1, none⟩ = some (.bool true) := by rw [blk_at hy.c]; rfl
  have zc2 : W6.cell? ⟨w.heap.size + 1 + 1, 2, none⟩ = some (.int .u64 (at_ : Int)) := by rw [blk_at hy.c]; rfl
  have zc3 : W6.cell? ⟨w.heap.size + 1 + 1, 3, none⟩ = some (.slice none 0 0) := by rw [blk_at hy.c]; rfl
  have zc4 : W6.cell? ⟨w.heap.size + 1 + 1, 4, none⟩ = some (.slice none 0 0) := by rw [blk_at hy.c]; rfl
  have H6 : Hid (Bx3 w W6 #[.int .i64 ix, .bool true, .bool false, .slice co cn cc] #[.int .u16 (fl : Int), .int .u16 (ty : Int), .int .u64 (ck : Int), .int .u64 (off : Int), .int .u64 (len : Int), d] #[.int .u32 (cd : Int), .bool true, .int .u64 (at_ : Int), .slice none 0 0, .slice none 0 0] 24 29 34) := hy
  have HR : Hid (Row W5 W6 ao cap (sL cd ck)) := hr
  clear hy hr HBy H5x xa0 xa1 xa2 xa3 xb0 xb1 xb2 xb3 xb4 xb5 xc0 xc1 xc2 xc3 xc4
  go_wp2_with fail
  refine (HNm.out _ _).mono ?_
  rintro e W7 ⟨rfl, hw⟩
  rw [hw]; clear hw
  have hcr := HR.out.crow (by simp [sL, bigTo_length])
  obtain ⟨b0, o0, rfl⟩ := hcr.some (by simp [sL, bigTo_length])
  go_wp2_with fail
  refine (HDs.out _ _ _ _ hcr).mono ?_
  rintro e W8 ⟨rfl, hb⟩
  have hy := H6.out.later hb
  have uq2 : ∀ o, (W8.alloc o).cell? ⟨w.heap.size + 1, 2, none⟩ = some (.int .u64 (ck : Int)) := fun o => by rw [blk_at (hy.later (below1 W8 o)).b]; rfl
  have H8 : Hid (Bx3 w W8 #[.int .i64 ix, .bool true, .bool false, .slice co cn cc] #[.int .u16 (fl : Int), .int .u16 (ty : Int), .int .u64 (ck : Int), .int .u64 (off : Int), .int .u64 (len : Int), d] #[.int .u32 (cd : Int), .bool true, .int .u64 (at_ : Int), .slice none 0 0, .slice none 0 0] 24 29 34) := hy
  clear hy hb hcr HDs HR H6 za0 za1 za2 za3 zb0 zb1 zb2 zb3 zb4 zb5 zc0 zc1 zc2 zc3 zc4
  go_wp2_with fail
  refine (HNm.out _ _).mono ?_
  rintro e W9 ⟨rfl, hw⟩
  rw [hw]; clear hw
  go_wp2_with fail
  refine (H5.out _).mono ?_
  rintro e W9 ⟨rfl, hb⟩
  have H9 : Hid (Below w.heap.size w W9) := ((H8.out.later (below1 W8 _)).later hb).bel
  clear hb H8
  go_wp2
  go_ret
  exact ⟨rfl, H9.out⟩
end Go.Proofs.YtefgdhoapmikhaaDoor
namespace Go.Proofs.YtefgdhoapmikhaaDoor
open Go.RowKit
set_option linter.unusedVariables false
set_option linter.unusedSimpArgs false
set_option maxRecDepth 100000
set_option maxHeartbeats 4000000 in
theorem fails_nS1a (ix : Int) (co : Option Addr) (cn cc : Nat) (fl ty ck off len : Nat) (d : Value) (cd : Nat) (by_ : Nat) (w : World) (hcn : True) (hty : ty < 65536) (hck : ck < 18446744073709551616) (h1 : off < 18446744073709551616) (h2 : len < 18446744073709551616) (h4 : cd < 4294967296) (hcd : cd ≠ 0) (hby : by_ < 4294967296) :
    Calls Tryd.prog 6 #[.agg #[.int .i64 ix, .bool false, .bool false, .slice co cn cc], .agg #[.int .u16 (fl : Int), .int .u16 (ty : Int), .int .u64 (ck : Int), .int .u64 (off : Int), .int .u64 (len : Int), d], .int .u32 (cd : Int), .bool false, .int .u32 (by_ : Int)] w fun e w' => e = .returned (.bool true) ∧ Below w.heap.size w w' := by
  have hs : strB false false ty = false := by simp [strB]
  have HBy : Hid (∀ W, Calls Tryd.prog 22 #[.agg #[.int .i64 ix, .bool false, .bool false, .slice co cn cc], .agg #[.int .u16 (fl : Int), .int .u16 (ty : Int), .int .u64 (ck : Int), .int .u64 (off : Int), .int .u64 (len : Int), d], .agg #[.int .u32 (cd : Int), .bool false, .int .u64 0, .slice none 0 0, .slice none 0 0]] W fun e w' => ∃ ao cap, e = .returned (.tuple #[.slice ao 16 cap, .int .i64 0]) ∧ Row W w' ao cap (sL cd ck)) := fun W => bytesE_sim ix false false co cn cc fl ty ck off len d cd false 0 W hcn hty hck h1 h2 (by decide) h4 hcd (by simp) hs
  have HDs : Hid (∀ W b o cap, CRow W (some ⟨b, o, none⟩) cap (sL cd ck) → Calls Tryd.prog 26 #[.slice (some ⟨b, o, none⟩) 16 cap] W fun e w' => e = .returned (.tuple #[.agg #[.int .u32 (cd : Int), .int .u64 (ck : Int)], .int .i64 16, .int .i64 0]) ∧ Below W.heap.size W w') := fun W b o cap h => by
    have := dec_simple cd ck [] h4 hck b o cap W (by rw [List.append_nil]; exact h)
    simpa [sL, bigTo_length] using this
  have H5 : Hid (∀ W, Calls Tryd.prog 14 #[] W fun e w' => e = .returned (.bool true) ∧ Below W.heap.size W w') := alive_any
  have HNm : Hid (∀ e W, Calls Tryd.prog 9 #[.int .i64 e] W fun r w' => r = .returned (.int .i64 e) ∧ w' = W) := num_any
  have f1 : ((cd : Int) == 0) = false := by rw [beq_eq_false_iff_ne]; omega
  clear hs  
  go_enter Tryd.func6, Tryd.ntmps6
  go_wp2_with fail
  have hx5 : Bx3 w (((w.alloc (Obj.cells #[.int .i64 ix, .bool false, .bool false, .slice co cn cc] 24)).alloc (Obj.cells #[.int .u16 (fl : Int), .int .u16 (ty : Int), .int .u64 (ck : Int), .int .u64 (off : Int), .int .u64 (len : Int), d] 29)).alloc (Obj.cells #[.int .u32 (cd : Int), .bool false, .int .u64 0, .slice none 0 0, .slice none 0 0] 34)) #[.int .i64 ix, .bool false, .bool false, .slice co cn cc] #[.int .u16 (fl : Int), .int .u16 (ty : Int), .int .u64 (ck : Int), .int .u64 (off : Int), .int .u64 (len : Int), d] #[.int .u32 (cd : Int), .bool false, .int .u64 0, .slice none 0 0, .slice none 0 0] 24 29 34 := mkb3 w _ _ _ _ _ _
  have H5x : Hid (Bx3 w (((w.alloc (Obj.cells #[.int .i64 ix, .bool false, .bool false, .slice co cn cc] 24)).alloc (Obj.cells #[.int .u16 (fl : Int), .int .u16 (ty : Int), .int .u64 (ck : Int), .int .u64 (off : Int), .int .u64 (len : Int), d] 29)).alloc (Obj.cells #[.int .u32 (cd : Int), .bool false, .int .u64 0, .slice none 0 0, .slice none 0 0] 34)) #[.int .i64 ix, .bool false, .bool false, .slice co cn cc] #[.int .u16 (fl : Int), .int .u16 (ty : Int), .int .u64 (ck : Int), .int .u64 (off : Int), .int .u64 (len : Int), d] #[.int .u32 (cd : Int), .bool false, .int .u64 0, .slice none 0 0, .slice none 0 0] 24 29 34) := hx5
  generalize (((w.alloc (Obj.cells #[.int .i64 ix, .bool false, .bool false, .slice co cn cc] 24)).alloc (Obj.cells #[.int .u16 (fl : Int), .int .u16 (ty : Int), .int .u64 (ck : Int), .int .u64 (off : Int), .int .u64 (len : Int), d] 29)).alloc (Obj.cells #[.int .u32 (cd : Int), .bool false, .int .u64 0, .slice none 0 0, .slice none 0 0] 34)) = W5 at *
  clear hx5
  refine (HBy.out _).mono ?_
  rintro e W6 ⟨ao, cap, rfl, hr⟩
  have hy := H5x.out.later hr.bel
  have za0 : W6.cell? ⟨w.heap.size, 0, none⟩ = some (.int .i64 ix) := by rw [blk_at hy.a]; rfl
  have za1 : W6.cell? ⟨w.heap.size, 1, none⟩ = some (.bool false) := by rw [blk_at hy.a]; rfl
  have za2 : W6.cell? ⟨w.heap.size, 2, none⟩ = some (.bool false) := by rw [blk_at hy.a]; rfl
  have za3 : W6.cell? ⟨w.heap.size, 3, none⟩ = some (.slice co cn cc) := by rw [blk_at hy.a]; rfl
  have zb0 : W6.cell? ⟨w.heap.size + 1, 0, none⟩ = some (.int .u16 (fl : Int)) := by rw [blk_at hy.b]; rfl
  have zb1 : W6.cell? ⟨w.heap.size + 1, 1, none⟩ = some (.int .u16 (ty : Int)) := by rw [blk_at hy.b]; rfl
  have zb2 : W6.cell? ⟨w.heap.size + 1, 2, none⟩ = some (.int .u64 (ck : Int)) := by rw [blk_at hy.b]; rfl
  have zb3 : W6.cell? ⟨w.heap.size + 1, 3, none⟩ = some (.int .u64 (off : Int)) := by rw [blk_at hy.b]; rfl
  have zb4 : W6.cell? ⟨w.heap.size + 1, 4, none⟩ = some (.int .u64 (len : Int)) := by rw [blk_at hy.b]; rfl
  have zb5 : W6.cell? ⟨w.heap.size + 1, 5, none⟩ = some (d) := by rw [blk_at hy.b]; rfl
  have zc0 : W6.cell? ⟨w.heap.size + 1 + 1, 0, none⟩ = some (.int .u32 (cd : Int)) := by rw [blk_at hy.c]; rfl
  have zc1 : W6.cell? ⟨w.heap.size + 1 + 1, 1, none⟩ = some (.bool false) := by rw [blk_at hy.c]; rfl
  have zc2 : W6.cell? ⟨w.heap.size + 1 + 1, 2, none⟩ = some (.int .u64 0) := by rw [blk_at hy.c]; rfl
  have zc3 : W6.cell? ⟨w.heap.size + 1 + 1, 3, none⟩ = some (.slice none 0 0) := by rw [blk_at hy.c]; rfl
  have zc4 : W6.cell? ⟨w.heap.size + 1 + 1, 4, none⟩ = some (.slice none 0 0) := by rw [blk_at hy.c]; rfl
  have H6 : Hid (Bx3 w W6 #[.int .i64 ix, .bool false, .bool false, .slice co cn cc] #[.int .u16 (fl : Int), .int .u16 (ty : Int), .int .u64 (ck : Int), .int .u64 (off : Int), .int .u64 (len : Int), d] #[.int .u32 (cd : Int), .bool false, .int .u64 0, .slice none 0 0, .slice none 0 0] 24 29 34) := hy
  have HR : Hid (Row W5 W6 ao cap (sL cd ck)) := hr
  clear hy hr HBy H5x 
  go_wp2_with fail
  refine (HNm.out _ _).mono ?_
  rintro e W7 ⟨rfl, hw⟩
  rw [hw]; clear hw
  have hcr := HR.out.crow (by simp [sL, bigTo_length])
  obtain ⟨b0, o0, rfl⟩ := hcr.some (by simp [sL, bigTo_length])
  go_wp2_with fail
  refine (HDs.out _ _ _ _ hcr).mono ?_
  rintro e W8 ⟨rfl, hb⟩
  have hy := H6.out.later hb
  have uq2 : ∀ o, (W8.alloc o).cell? ⟨w.heap.size + 1, 2, none⟩ = some (.int .u64 (ck : Int)) := fun o => by rw [blk_at (hy.later (below1 W8 o)).b]; rfl
  have H8 : Hid (Bx3 w W8 #[.int .i64 ix, .bool false, .bool false, .slice co cn cc] #[.int .u16 (fl : Int), .int .u16 (ty : Int), .int .u64 (ck : Int), .int .u64 (off : Int), .int .u64 (len : Int), d] #[.int .u32 (cd : Int), .bool false, .int .u64 0, .slice none 0 0, .slice none 0 0] 24 29 34) := hy
  clear hy hb hcr HDs HR H6 za0 za1 za2 za3 zb0 zb1 zb2 zb3 zb4 zb5 zc0 zc1 zc2 zc3 zc4
  go_wp2_with fail
  refine (HNm.out _ _).mono ?_
  rintro e W9 ⟨rfl, hw⟩
  rw [hw]; clear hw
  go_wp2_with fail
  refine (H5.out _).mono ?_
  rintro e W9 ⟨rfl, hb⟩
  have H9 : Hid (Below w.heap.size w W9) := ((H8.out.later (below1 W8 _)).later hb).bel
  clear hb H8
  go_wp2
  go_ret
  exact ⟨rfl, H9.out⟩
set_option maxHeartbeats 4000000 in
theorem fails_nS1b (ix : Int) (co : Option Addr) (cn cc : Nat) (fl ty ck off : Nat) (d : Value) (cd : Nat) (by_ : Nat) (w : World) (hcn : True) (hty : ty < 65536) (hck : ck < 18446744073709551616) (h1 : off < 18446744073709551616) (h4 : cd < 4294967296) (hcd : cd ≠ 0) (hby : by_ < 4294967296) :
    Calls Tryd.prog 6 #[.agg #[.int .i64 ix, .bool false, .bool false, .slice co cn cc], .agg #[.int .u16 (fl : Int), .int .u16 (ty : Int), .int .u64 (ck : Int), .int .u64 (off : Int), .int .u64 0, d], .int .u32 (cd : Int), .bool true, .int .u32 (by_ : Int)] w fun e w' => e = .returned (.bool true) ∧ Below w.heap.size w w' := by
  have hs : strB false false ty = false := by simp [strB]
  have HBy : Hid (∀ W, Calls Tryd.prog 22 #[.agg #[.int .i64 ix, .bool false, .bool false, .slice co cn cc], .agg #[.int .u16 (fl : Int), .int .u16 (ty : Int), .int .u64 (ck : Int), .int .u64 (off : Int), .int .u64 0, d], .agg #[.int .u32 (cd : Int), .bool false, .int .u64 0, .slice none 0 0, .slice none 0 0]] W fun e w' => ∃ ao cap, e = .returned (.tuple #[.slice ao 16 cap, .int .i64 0]) ∧ Row W w' ao cap (sL cd ck)) := fun W => bytesE_sim ix false false co cn cc fl ty ck off 0 d cd false 0 W hcn hty hck h1 (by decide) (by decide) h4 hcd (by simp) hs
  have HDs : Hid (∀ W b o cap, CRow W (some ⟨b, o, none⟩) cap (sL cd ck) → Calls Tryd.prog 26 #[.slice (some ⟨b, o, none⟩) 16 cap] W fun e w' => e = .returned (.tuple #[.agg #[.int .u32 (cd : Int), .int .u64 (ck : Int)], .int .i64 16, .int .i64 0]) ∧ Below W.heap.size W w') := fun W b o cap h => by
    have := dec_simple cd ck [] h4 hck b o cap W (by rw [List.append_nil]; exact h)
    simpa [sL, bigTo_length] using this
  have H5 : Hid (∀ W, Calls Tryd.prog 14 #[] W fun e w' => e = .returned (.bool true) ∧ Below W.heap.size W w') := alive_any
  have HNm : Hid (∀ e W, Calls Tryd.prog 9 #[.int .i64 e] W fun r w' => r = .returned (.int .i64 e) ∧ w' = W) := num_any
  have f1 : ((cd : Int) == 0) = false := by rw [beq_eq_false_iff_ne]; omega
  clear hs 
  go_enter Tryd.func6, Tryd.ntmps6
  go_wp2_with fail
  have hx5 : Bx3 w (((w.alloc (Obj.cells #[.int .i64 ix, .bool false, .bool false, .slice co cn cc] 24)).alloc (Obj.cells #[.int .u16 (fl : Int), .int .u16 (ty : Int), .int .u64 (ck : Int), .int .u64 (off : Int), .int .u64 0, d] 29)).alloc (Obj.cells #[.int .u32 (cd : Int), .bool false, .int .u64 0, .slice none 0 0, .slice none 0 0] 34)) #[.int .i64 ix, .bool false, .bool false, .slice co cn cc] #[.int .u16 (fl : Int), .int .u16 (ty : Int), .int .u64 (ck : Int), .int .u64 (off : Int), .int .u64 0, d] #[.int .u32 (cd : Int), .bool false, .int .u64 0, .slice none 0 0, .slice none 0 0] 24 29 34 := mkb3 w _ _ _ _ _ _
  have H5x : Hid (Bx3 w (((w.alloc (Obj.cells #[.int .i64 ix, .bool false, .bool false, .slice co cn cc] 24)).alloc (Obj.cells #[.int .u16 (fl : Int), .int .u16 (ty : Int), .int .u64 (ck : Int), .int .u64 (off : Int), .int .u64 0, d] 29)).alloc (Obj.cells #[.int .u32 (cd : Int), .bool false, .int .u64 0, .slice none 0 0, .slice none 0 0] 34)) #[.int .i64 ix, .bool false, .bool false, .slice co cn cc] #[.int .u16 (fl : Int), .int .u16 (ty : Int), .int .u64 (ck : Int), .int .u64 (off : Int), .int .u64 0, d] #[.int .u32 (cd : Int), .bool false, .int .u64 0, .slice none 0 0, .slice none 0 0] 24 29 34) := hx5
  generalize (((w.alloc (Obj.cells #[.int .i64 ix, .bool false, .bool false, .slice co cn cc] 24)).alloc (Obj.cells #[.int .u16 (fl : Int), .int .u16 (ty : Int), .int .u64 (ck : Int), .int .u64 (off : Int), .int .u64 0, d] 29)).alloc (Obj.cells #[.int .u32 (cd : Int), .bool false, .int .u64 0, .slice none 0 0, .slice none 0 0] 34)) = W5 at *
  clear hx5
  refine (HBy.out _).mono ?_
  rintro e W6 ⟨ao, cap, rfl, hr⟩
  have hy := H5x.out.later hr.bel
  have za0 : W6.cell? ⟨w.heap.size, 0, none⟩ = some (.int .i64 ix) := by rw [blk_at hy.a]; rfl
  have za1 : W6.cell? ⟨w.heap.size, 1, none⟩ = some (.bool false) := by rw [blk_at hy.a]; rfl
  have za2 : W6.cell? ⟨w.heap.size, 2, none⟩ = some (.bool false) := by rw [blk_at hy.a]; rfl
  have za3 : W6.cell? ⟨w.heap.size, 3, none⟩ = some (.slice co cn cc) := by rw [blk_at hy.a]; rfl
  have zb0 : W6.cell? ⟨w.heap.size + 1, 0, none⟩ = some (.int .u16 (fl : Int)) := by rw [blk_at hy.b]; rfl
  have zb1 : W6.cell? ⟨w.heap.size + 1, 1, none⟩ = some (.int .u16 (ty : Int)) := by rw [blk_at hy.b]; rfl
  have zb2 : W6.cell? ⟨w.heap.size + 1, 2, none⟩ = some (.int .u64 (ck : Int)) := by rw [blk_at hy.b]; rfl
  have zb3 : W6.cell? ⟨w.heap.size + 1, 3, none⟩ = some (.int .u64 (off : Int)) := by rw [blk_at hy.b]; rfl
  have zb4 : W6.cell? ⟨w.heap.size + 1, 4, none⟩ = some (.int .u64 0) := by rw [blk_at hy.b]; rfl
  have zb5 : W6.cell? ⟨w.heap.size + 1, 5, none⟩ = some (d) := by rw [blk_at hy.b]; rfl
  have zc0 : W6.cell? ⟨w.heap.size + 1 + 1, 0, none⟩ = some (.int .u32 (cd : Int)) := by rw [blk_at hy.c]; rfl
  have zc1 : W6.cell? ⟨w.heap.size + 1 + 1, 1, none⟩ = some (.bool false) := by rw [blk_at hy.c]; rfl
  have zc2 : W6.cell? ⟨w.heap.size + 1 + 1, 2, none⟩ = some (.int .u64 0) := by rw [blk_at hy.c]; rfl
  have zc3 : W6.cell? ⟨w.heap.size + 1 + 1, 3, none⟩ = some (.slice none 0 0) := by rw [blk_at hy.c]; rfl
  have zc4 : W6.cell? ⟨w.heap.size + 1 + 1, 4, none⟩ = some (.slice none 0 0) := by rw [blk_at hy.c]; rfl
  have H6 : Hid (Bx3 w W6 #[.int .i64 ix, .bool false, .bool false, .slice co cn cc] #[.int .u16 (fl : Int), .int .u16 (ty : Int), .int .u64 (ck : Int), .int .u64 (off : Int), .int .u64 0, d] #[.int .u32 (cd : Int), .bool false, .int .u64 0, .slice none 0 0, .slice none 0 0] 24 29 34) := hy
  have HR : Hid (Row W5 W6 ao cap (sL cd ck)) := hr
  clear hy hr HBy H5x 
  go_wp2_with fail
  refine (HNm.out _ _).mono ?_
  rintro e W7 ⟨rfl, hw⟩
  rw [hw]; clear hw
  have hcr := HR.out.crow (by simp [sL, bigTo_length])
  obtain ⟨b0, o0, rfl⟩ := hcr.some (by simp [sL, bigTo_length])
  go_wp2_with fail
  refine (HDs.out _ _ _ _ hcr).mono ?_
  rintro e W8 ⟨rfl, hb⟩
  have hy := H6.out.later hb
  have uq2 : ∀ o, (W8.alloc o).cell? ⟨w.heap.size + 1, 2, none⟩ = some (.int .u64 (ck : Int)) := fun o => by rw [blk_at (hy.later (below1 W8 o)).b]; rfl
  have H8 : Hid (Bx3 w W8 #[.int .i64 ix, .bool false, .bool false, .slice co cn cc] #[.int .u16 (fl : Int), .int .u16 (ty : Int), .int .u64 (ck : Int), .int .u64 (off : Int), .int .u64 0, d] #[.int .u32 (cd : Int), .bool false, .int .u64 0, .slice none 0 0, .slice none 0 0] 24 29 34) := hy
  clear hy hb hcr HDs HR H6 za0 za1 za2 za3 zb0 zb1 zb2 zb3 zb4 zb5 zc0 zc1 zc2 zc3 zc4
  go_wp2_with fail
  refine (HNm.out _ _).mono ?_
  rintro e W9 ⟨rfl, hw⟩
  rw [hw]; clear hw
  go_wp2_with fail
  refine (H5.out _).mono ?_
  rintro e W9 ⟨rfl, hb⟩
  have H9 : Hid (Below w.heap.size w W9) := ((H8.out.later (below1 W8 _)).later hb).bel
  clear hb H8
  go_wp2
  go_ret
  exact ⟨rfl, H9.out⟩
set_option maxHeartbeats 4000000 in
theorem fails_nS1c (ix : Int) (co : Option Addr) (cn cc : Nat) (fl ty ck off len : Nat) (d : Value) (cd : Nat) (by_ : Nat) (w : World) (hcn : True) (hty : ty < 65536) (hck : ck < 18446744073709551616) (h1 : off < 18446744073709551616) (h2 : len < 18446744073709551616) (h4 : cd < 4294967296) (hcd : cd ≠ 0) (hby : by_ < 4294967296) (hl0 : 0 < len) (ho0 : 9223372036854775808 < off) :
    Calls Tryd.prog 6 #[.agg #[.int .i64 ix, .bool false, .bool false, .slice co cn cc], .agg #[.int .u16 (fl : Int), .int .u16 (ty : Int), .int .u64 (ck : Int), .int .u64 (off : Int), .int .u64 (len : Int), d], .int .u32 (cd : Int), .bool true, .int .u32 (by_ : Int)] w fun e w' => e = .returned (.bool true) ∧ Below w.heap.size w w' := by
  have hs : strB false false ty = false := by simp [strB]
  have HBy : Hid (∀ W, Calls Tryd.prog 22 #[.agg #[.int .i64 ix, .bool false, .bool false, .slice co cn cc], .agg #[.int .u16 (fl : Int), .int .u16 (ty : Int), .int .u64 (ck : Int), .int .u64 (off : Int), .int .u64 (len : Int), d], .agg #[.int .u32 (cd : Int), .bool false, .int .u64 0, .slice none 0 0, .slice none 0 0]] W fun e w' => ∃ ao cap, e = .returned (.tuple #[.slice ao 16 cap, .int .i64 0]) ∧ Row W w' ao cap (sL cd ck)) := fun W => bytesE_sim ix false false co cn cc fl ty ck off len d cd false 0 W hcn hty hck h1 h2 (by decide) h4 hcd (by simp) hs
  have HDs : Hid (∀ W b o cap, CRow W (some ⟨b, o, none⟩) cap (sL cd ck) → Calls Tryd.prog 26 #[.slice (some ⟨b, o, none⟩) 16 cap] W fun e w' => e = .returned (.tuple #[.agg #[.int .u32 (cd : Int), .int .u64 (ck : Int)], .int .i64 16, .int .i64 0]) ∧ Below W.heap.size W w') := fun W b o cap h => by
    have := dec_simple cd ck [] h4 hck b o cap W (by rw [List.append_nil]; exact h)
    simpa [sL, bigTo_length] using this
  have H5 : Hid (∀ W, Calls Tryd.prog 14 #[] W fun e w' => e = .returned (.bool true) ∧ Below W.heap.size W w') := alive_any
  have HNm : Hid (∀ e W, Calls Tryd.prog 9 #[.int .i64 e] W fun r w' => r = .returned (.int .i64 e) ∧ w' = W) := num_any
  have f1 : ((cd : Int) == 0) = false := by rw [beq_eq_false_iff_ne]; omega
  have f2 : decide ((0 : Int) < (len : Int)) = true := by simp; omega
  have f3 : decide ((off : Int) ≤ 9223372036854775808) = false := by simp; omega
  have ho1 : ¬ off ≤ 9223372036854775808 := by omega
  clear hs  
  go_enter Tryd.func6, Tryd.ntmps6
  go_wp2_with fail
  have hx5 : Bx3 w (((w.alloc (Obj.cells #[.int .i64 ix, .bool false, .bool false, .slice co cn cc] 24)).alloc (Obj.cells #[.int .u16 (fl : Int), .int .u16 (ty : Int), .int .u64 (ck : Int), .int .u64 (off : Int), .int .u64 (len : Int), d] 29)).alloc (Obj.cells #[.int .u32 (cd : Int), .bool false, .int .u64 0, .slice none 0 0, .slice none 0 0] 34)) #[.int .i64 ix, .bool false, .bool false, .slice co cn cc] #[.int .u16 (fl : Int), .int .u16 (ty : Int), .int .u64 (ck : Int), .int .u64 (off : Int), .int .u64 (len : Int), d] #[.int .u32 (cd : Int), .bool false, .int .u64 0, .slice none 0 0, .slice none 0 0] 24 29 34 := mkb3 w _ _ _ _ _ _
  have H5x : Hid (Bx3 w (((w.alloc (Obj.cells #[.int .i64 ix, .bool false, .bool false, .slice co cn cc] 24)).alloc (Obj.cells #[.int .u16 (fl : Int), .int .u16 (ty : Int), .int .u64 (ck : Int), .int .u64 (off : Int), .int .u64 (len : Int), d] 29)).alloc (Obj.cells #[.int .u32 (cd : Int), .bool false, .int .u64 0, .slice none 0 0, .slice none 0 0] 34)) #[.int .i64 ix, .bool false, .bool false, .slice co cn cc] #[.int .u16 (fl : Int), .int .u16 (ty : Int), .int .u64 (ck : Int), .int .u64 (off : Int), .int .u64 (len : Int), d] #[.int .u32 (cd : Int), .bool false, .int .u64 0, .slice none 0 0, .slice none 0 0] 24 29 34) := hx5
  generalize (((w.alloc (Obj.cells #[.int .i64 ix, .bool false, .bool false, .slice co cn cc] 24)).alloc (Obj.cells #[.int .u16 (fl : Int), .int .u16 (ty : Int), .int .u64 (ck : Int), .int .u64 (off : Int), .int .u64 (len : Int), d] 29)).alloc (Obj.cells #[.int .u32 (cd : Int), .bool false, .int .u64 0, .slice none 0 0, .slice none 0 0] 34)) = W5 at *
  clear hx5
  refine (HBy.out _).mono ?_
  rintro e W6 ⟨ao, cap, rfl, hr⟩
  have hy := H5x.out.later hr.bel
  have za0 : W6.cell? ⟨w.heap.size, 0, none⟩ = some (.int .i64 ix) := by rw [blk_at hy.a]; rfl
  have za1 : W6.cell? ⟨w.heap.size, 1, none⟩ = some (.bool false) := by rw [blk_at hy.a]; rfl
  have za2 : W6.cell? ⟨w.heap.size, 2, none⟩ = some (.bool false) := by rw [blk_at hy.a]; rfl
  have za3 : W6.cell? ⟨w.heap.size, 3, none⟩ = some (.slice co cn cc) := by rw [blk_at hy.a]; rfl
  have zb0 : W6.cell? ⟨w.heap.size + 1, 0, none⟩ = some (.int .u16 (fl : Int)) := by rw [blk_at hy.b]; rfl
  have zb1 : W6.cell? ⟨w.heap.size + 1, 1, none⟩ = some (.int .u16 (ty : Int)) := by rw [blk_at hy.b]; rfl
  have zb2 : W6.cell? ⟨w.heap.size + 1, 2, none⟩ = some (.int .u64 (ck : Int)) := by rw [blk_at hy.b]; rfl
  have zb3 : W6.cell? ⟨w.heap.size + 1, 3, none⟩ = some (.int .u64 (off : Int)) := by rw [blk_at hy.b]; rfl
  have zb4 : W6.cell? ⟨w.heap.size + 1, 4, none⟩ = some (.int .u64 (len : Int)) := by rw [blk_at hy.b]; rfl
  have zb5 : W6.cell? ⟨w.heap.size + 1, 5, none⟩ = some (d) := by rw [blk_at hy.b]; rfl
  have zc0 : W6.cell? ⟨w.heap.size + 1 + 1, 0, none⟩ = some (.int .u32 (cd : Int)) := by rw [blk_at hy.c]; rfl
  have zc1 : W6.cell? ⟨w.heap.size + 1 + 1, 1, none⟩ = some (.bool false) := by rw [blk_at hy.c]; rfl
  have zc2 : W6.cell? ⟨w.heap.size + 1 + 1, 2, none⟩ = some (.int .u64 0) := by rw [blk_at hy.c]; rfl
  have zc3 : W6.cell? ⟨w.heap.size + 1 + 1, 3, none⟩ = some (.slice none 0 0) := by rw [blk_at hy.c]; rfl
  have zc4 : W6.cell? ⟨w.heap.size + 1 + 1, 4, none⟩ = some (.slice none 0 0) := by rw [blk_at hy.c]; rfl
  have H6 : Hid (Bx3 w W6 #[.int .i64 ix, .bool false, .bool false, .slice co cn cc] #[.int .u16 (fl : Int), .int .u16 (ty : Int), .int .u64 (ck : Int), .int .u64 (off : Int), .int .u64 (len : Int), d] #[.int .u32 (cd : Int), .bool false, .int .u64 0, .slice none 0 0, .slice none 0 0] 24 29 34) := hy
  have HR : Hid (Row W5 W6 ao cap (sL cd ck)) := hr
  clear hy hr HBy H5x 
  go_wp2_with fail
  refine (HNm.out _ _).mono ?_
  rintro e W7 ⟨rfl, hw⟩
  rw [hw]; clear hw
  have hcr := HR.out.crow (by simp [sL, bigTo_length])
  obtain ⟨b0, o0, rfl⟩ := hcr.some (by simp [sL, bigTo_length])
  go_wp2_with fail
  refine (HDs.out _ _ _ _ hcr).mono ?_
  rintro e W8 ⟨rfl, hb⟩
  have hy := H6.out.later hb
  have uq2 : ∀ o, (W8.alloc o).cell? ⟨w.heap.size + 1, 2, none⟩ = some (.int .u64 (ck : Int)) := fun o => by rw [blk_at (hy.later (below1 W8 o)).b]; rfl
  have H8 : Hid (Bx3 w W8 #[.int .i64 ix, .bool false, .bool false, .slice co cn cc] #[.int .u16 (fl : Int), .int .u16 (ty : Int), .int .u64 (ck : Int), .int .u64 (off : Int), .int .u64 (len : Int), d] #[.int .u32 (cd : Int), .bool false, .int .u64 0, .slice none 0 0, .slice none 0 0] 24 29 34) := hy
  clear hy hb hcr HDs HR H6 za0 za1 za2 za3 zb0 zb1 zb2 zb3 zb4 zb5 zc0 zc1 zc2 zc3 zc4
  go_wp2_with fail
  refine (HNm.out _ _).mono ?_
  rintro e W9 ⟨rfl, hw⟩
  rw [hw]; clear hw
  go_wp2_with fail
  refine (H5.out _).mono ?_
  rintro e W9 ⟨rfl, hb⟩
  have H9 : Hid (Below w.heap.size w W9) := ((H8.out.later (below1 W8 _)).later hb).bel
  clear hb H8
  go_wp2
  go_ret
  exact ⟨rfl, H9.out⟩
set_option maxHeartbeats 4000000 in
theorem fails_nS2a (ix : Int) (co : Option Addr) (cn cc : Nat) (fl ty ck off len : Nat) (d : Value) (cd : Nat) (by_ : Nat) (w : World) (hcn : True) (hty : ty < 65536) (hck : ck < 18446744073709551616) (h1 : off < 18446744073709551616) (h2 : len < 18446744073709551616) (h4 : cd < 4294967296) (hcd : cd ≠ 0) (ht0 : ty ≠ 0) (ht7 : ty ≠ 7) (hby : by_ < 4294967296) :
    Calls Tryd.prog 6 #[.agg #[.int .i64 ix, .bool true, .bool false, .slice co cn cc], .agg #[.int .u16 (fl : Int), .int .u16 (ty : Int), .int .u64 (ck : Int), .int .u64 (off : Int), .int .u64 (len : Int), d], .int .u32 (cd : Int), .bool false, .int .u32 (by_ : Int)] w fun e w' => e = .returned (.bool true) ∧ Below w.heap.size w w' := by
  have hs : strB true false ty = false := by simp [strB, ht0, ht7]
  have HBy : Hid (∀ W, Calls Tryd.prog 22 #[.agg #[.int .i64 ix, .bool true, .bool false, .slice co cn cc], .agg #[.int .u16 (fl : Int), .int .u16 (ty : Int), .int .u64 (ck : Int), .int .u64 (off : Int), .int .u64 (len : Int), d], .agg #[.int .u32 (cd : Int), .bool false, .int .u64 0, .slice none 0 0, .slice none 0 0]] W fun e w' => ∃ ao cap, e = .returned (.tuple #[.slice ao 16 cap, .int .i64 0]) ∧ Row W w' ao cap (sL cd ck)) := fun W => bytesE_sim ix true false co cn cc fl ty ck off len d cd false 0 W hcn hty hck h1 h2 (by decide) h4 hcd (by simp) hs
  have HDs : Hid (∀ W b o cap, CRow W (some ⟨b, o, none⟩) cap (sL cd ck) → Calls Tryd.prog 26 #[.slice (some ⟨b, o, none⟩) 16 cap] W fun e w' => e = .returned (.tuple #[.agg #[.int .u32 (cd : Int), .int .u64 (ck : Int)], .int .i64 16, .int .i64 0]) ∧ Below W.heap.size W w') := fun W b o cap h => by
    have := dec_simple cd ck [] h4 hck b o cap W (by rw [List.append_nil]; exact h)
    simpa [sL, bigTo_length] using this
  have H5 : Hid (∀ W, Calls Tryd.prog 14 #[] W fun e w' => e = .returned (.bool true) ∧ Below W.heap.size W w') := alive_any
  have HNm : Hid (∀ e W, Calls Tryd.prog 9 #[.int .i64 e] W fun r w' => r = .returned (.int .i64 e) ∧ w' = W) := num_any
  have f1 : ((cd : Int) == 0) = false := by rw [beq_eq_false_iff_ne]; omega
  have t0 : ((ty : Int) != 0) = true := by rw [bne_iff_ne]; omega
  have t7 : ((ty : Int) != 7) = true := by rw [bne_iff_ne]; omega
  clear hs ht0 ht7 
  go_enter Tryd.func6, Tryd.ntmps6
  go_wp2_with fail
  have hx5 : Bx3 w (((w.alloc (Obj.cells #[.int .i64 ix, .bool true, .bool false, .slice co cn cc] 24)).alloc (Obj.cells #[.int .u16 (fl : Int), .int .u16 (ty : Int), .int .u64 (ck : Int), .int .u64 (off : Int), .int .u64 (len : Int), d] 29)).alloc (Obj.cells #[.int .u32 (cd : Int), .bool false, .int .u64 0, .slice none 0 0, .slice none 0 0] 34)) #[.int .i64 ix, .bool true, .bool false, .slice co cn cc] #[.int .u16 (fl : Int), .int .u16 (ty : Int), .int .u64 (ck : Int), .int .u64 (off : Int), .int .u64 (len : Int), d] #[.int .u32 (cd : Int), .bool false, .int .u64 0, .slice none 0 0, .slice none 0 0] 24 29 34 := mkb3 w _ _ _ _ _ _
  have H5x : Hid (Bx3 w (((w.alloc (Obj.cells #[.int .i64 ix, .bool true, .bool false, .slice co cn cc] 24)).alloc (Obj.cells #[.int .u16 (fl : Int), .int .u16 (ty : Int), .int .u64 (ck : Int), .int .u64 (off : Int), .int .u64 (len : Int), d] 29)).alloc (Obj.cells #[.int .u32 (cd : Int), .bool false, .int .u64 0, .slice none 0 0, .slice none 0 0] 34)) #[.int .i64 ix, .bool true, .bool false, .slice co cn cc] #[.int .u16 (fl : Int), .int .u16 (ty : Int), .int .u64 (ck : Int), .int .u64 (off : Int), .int .u64 (len : Int), d] #[.int .u32 (cd : Int), .bool false, .int .u64 0, .slice none 0 0, .slice none 0 0] 24 29 34) := hx5
  generalize (((w.alloc (Obj.cells #[.int .i64 ix, .bool true, .bool false, .slice co cn cc] 24)).alloc (Obj.cells #[.int .u16 (fl : Int), .int .u16 (ty : Int), .int .u64 (ck : Int), .int .u64 (off : Int), .int .u64 (len : Int), d] 29)).alloc (Obj.cells #[.int .u32 (cd : Int), .bool false, .int .u64 0, .slice none 0 0, .slice none 0 0] 34)) = W5 at *
  clear hx5
  refine (HBy.out _).mono ?_
  rintro e W6 ⟨ao, cap, rfl, hr⟩
  have hy := H5x.out.later hr.bel
  have za0 : W6.cell? ⟨w.heap.size, 0, none⟩ = some (.int .i64 ix) := by rw [blk_at hy.a]; rfl
  have za1 : W6.cell? ⟨w.heap.size, 1, none⟩ = some (.bool true) := by rw [blk_at hy.a]; rfl
  have za2 : W6.cell? ⟨w.heap.size, 2, none⟩ = some (.bool false) := by rw [blk_at hy.a]; rfl
  have za3 : W6.cell? ⟨w.heap.size, 3, none⟩ = some (.slice co cn cc) := by rw [blk_at hy.a]; rfl
  have zb0 : W6.cell? ⟨w.heap.size + 1, 0, none⟩ = some (.int .u16 (fl : Int)) := by rw [blk_at hy.b]; rfl
  have zb1 : W6.cell? ⟨w.heap.size + 1, 1, none⟩ = some (.int .u16 (ty : Int)) := by rw [blk_at hy.b]; rfl
  have zb2 : W6.cell? ⟨w.heap.size + 1, 2, none⟩ = some (.int .u64 (ck : Int)) := by rw [blk_at hy.b]; rfl
  have zb3 : W6.cell? ⟨w.heap.size + 1, 3, none⟩ = some (.int .u64 (off : Int)) := by rw [blk_at hy.b]; rfl
  have zb4 : W6.cell? ⟨w.heap.size + 1, 4, none⟩ = some (.int .u64 (len : Int)) := by rw [blk_at hy.b]; rfl
  have zb5 : W6.cell? ⟨w.heap.size + 1, 5, none⟩ = some (d) := by rw [blk_at hy.b]; rfl
  have zc0 : W6.cell? ⟨w.heap.size + 1 + 1, 0, none⟩ = some (.int .u32 (cd : Int)) := by rw [blk_at hy.c]; rfl
  have zc1 : W6.cell? ⟨w.heap.size + 1 + 1, 1, none⟩ = some (.bool false) := by rw [blk_at hy.c]; rfl
  have zc2 : W6.cell? ⟨w.heap.size + 1 + 1, 2, none⟩ = some (.int .u64 0) := by rw [blk_at hy.c]; rfl
  have zc3 : W6.cell? ⟨w.heap.size + 1 + 1, 3, none⟩ = some (.slice none 0 0) := by rw [blk_at hy.c]; rfl
  have zc4 : W6.cell? ⟨w.heap.size + 1 + 1, 4, none⟩ = some (.slice none 0 0) := by rw [blk_at hy.c]; rfl
  have H6 : Hid (Bx3 w W6 #[.int .i64 ix, .bool true, .bool false, .slice co cn cc] #[.int .u16 (fl : Int), .int .u16 (ty : Int), .int .u64 (ck : Int), .int .u64 (off : Int), .int .u64 (len : Int), d] #[.int .u32 (cd : Int), .bool false, .int .u64 0, .slice none 0 0, .slice none 0 0] 24 29 34) := hy
  have HR : Hid (Row W5 W6 ao cap (sL cd ck)) := hr
  clear hy hr HBy H5x 
  go_wp2_with fail
  refine (HNm.out _ _).mono ?_
  rintro e W7 ⟨rfl, hw⟩
  rw [hw]; clear hw
  have hcr := HR.out.crow (by simp [sL, bigTo_length])
  obtain ⟨b0, o0, rfl⟩ := hcr.some (by simp [sL, bigTo_length])
  go_wp2_with fail
  refine (HDs.out _ _ _ _ hcr).mono ?_
  rintro e W8 ⟨rfl, hb⟩
  have hy := H6.out.later hb
  have uq2 : ∀ o, (W8.alloc o).cell? ⟨w.heap.size + 1, 2, none⟩ = some (.int .u64 (ck : Int)) := fun o => by rw [blk_at (hy.later (below1 W8 o)).b]; rfl
  have H8 : Hid (Bx3 w W8 #[.int .i64 ix, .bool true, .bool false, .slice co cn cc] #[.int .u16 (fl : Int), .int .u16 (ty : Int), .int .u64 (ck : Int), .int .u64 (off : Int), .int .u64 (len : Int), d] #[.int .u32 (cd : Int), .bool false, .int .u64 0, .slice none 0 0, .slice none 0 0] 24 29 34) := hy
  clear hy hb hcr HDs HR H6 za0 za1 za2 za3 zb0 zb1 zb2 zb3 zb4 zb5 zc0 zc1 zc2 zc3 zc4
  go_wp2_with fail
  refine (HNm.out _ _).mono ?_
  rintro e W9 ⟨rfl, hw⟩
  rw [hw]; clear hw
  go_wp2_with fail
  refine (H5.out _).mono ?_
  rintro e W9 ⟨rfl, hb⟩
  have H9 : Hid (Below w.heap.size w W9) := ((H8.out.later (below1 W8 _)).later hb).bel
  clear hb H8
  go_wp2
  go_ret
  exact ⟨rfl, H9.out⟩
set_option maxHeartbeats 4000000 in
theorem fails_nS2b (ix : Int) (co : Option Addr) (cn cc : Nat) (fl ty ck off : Nat) (d : Value) (cd : Nat) (by_ : Nat) (w : World) (hcn : True) (hty : ty < 65536) (hck : ck < 18446744073709551616) (h1 : off < 18446744073709551616) (h4 : cd < 4294967296) (hcd : cd ≠ 0) (ht0 : ty ≠ 0) (ht7 : ty ≠ 7) (hby : by_ < 4294967296) :
    Calls Tryd.prog 6 #[.agg #[.int .i64 ix, .bool true, .bool false, .slice co cn cc], .agg #[.int .u16 (fl : Int), .int .u16 (ty : Int), .int .u64 (ck : Int), .int .u64 (off : Int), .int .u64 0, d], .int .u32 (cd : Int), .bool true, .int .u32 (by_ : Int)] w fun e w' => e = .returned (.bool true) ∧ Below w.heap.size w w' := by
  have hs : strB true false ty = false := by simp [strB, ht0, ht7]
  have HBy : Hid (∀ W, Calls Tryd.prog 22 #[.agg #[.int .i64 ix, .bool true, .bool false, .slice co cn cc], .agg #[.int .u16 (fl : Int), .int .u16 (ty : Int), .int .u64 (ck : Int), .int .u64 (off : Int), .int .u64 0, d], .agg #[.int .u32 (cd : Int), .bool false, .int .u64 0, .slice none 0 0, .slice none 0 0]] W fun e w' => ∃ ao cap, e = .returned (.tuple #[.slice ao 16 cap, .int .i64 0]) ∧ Row W w' ao cap (sL cd ck)) := fun W => bytesE_sim ix true false co cn cc fl ty ck off 0 d cd false 0 W hcn hty hck h1 (by decide) (by decide) h4 hcd (by simp) hs
  have HDs : Hid (∀ W b o cap, CRow W (some ⟨b, o, none⟩) cap (sL cd ck) → Calls Tryd.prog 26 #[.slice (some ⟨b, o, none⟩) 16 cap] W fun e w' => e = .returned (.tuple #[.agg #[.int .u32 (cd : Int), .int .u64 (ck : Int)], .int .i64 16, .int .i64 0]) ∧ Below W.heap.size W w') := fun W b o cap h => by
    have := dec_simple cd ck [] h4 hck b o cap W (by rw [List.append_nil]; exact h)
    simpa [sL, bigTo_length] using this
  have H5 : Hid (∀ W, Calls Tryd.prog 14 #[] W fun e w' => e = .returned (.bool true) ∧ Below W.heap.size W w') := alive_any
  have HNm : Hid (∀ e W, Calls Tryd.prog 9 #[.int .i64 e] W fun r w' => r = .returned (.int .i64 e) ∧ w' = W) := num_any
  have f1 : ((cd : Int) == 0) = false := by rw [beq_eq_false_iff_ne]; omega
  have t0 : ((ty : Int) != 0) = true := by rw [bne_iff_ne]; omega
  have t7 : ((ty : Int) != 7) = true := by rw [bne_iff_ne]; omega
  clear hs ht0 ht7
  go_enter Tryd.func6, Tryd.ntmps6
  go_wp2_with fail
  have hx5 : Bx3 w (((w.alloc (Obj.cells #[.int .i64 ix, .bool true, .bool false, .slice co cn cc] 24)).alloc (Obj.cells #[.int .u16 (fl : Int), .int .u16 (ty : Int), .int .u64 (ck : Int), .int .u64 (off : Int), .int .u64 0, d] 29)).alloc (Obj.cells #[.int .u32 (cd : Int), .bool false, .int .u64 0, .slice none 0 0, .slice none 0 0] 34)) #[.int .i64 ix, .bool true, .bool false, .slice co cn cc] #[.int .u16 (fl : Int), .int .u16 (ty : Int), .int .u64 (ck : Int), .int .u64 (off : Int), .int .u64 0, d] #[.int .u32 (cd : Int), .bool false, .int .u64 0, .slice none 0 0, .slice none 0 0] 24 29 34 := mkb3 w _ _ _ _ _ _
  have H5x : Hid (Bx3 w (((w.alloc (Obj.cells #[.int .i64 ix, .bool true, .bool false, .slice co cn cc] 24)).alloc (Obj.cells #[.int .u16 (fl : Int), .int .u16 (ty : Int), .int .u64 (ck : Int), .int .u64 (off : Int), .int .u64 0, d] 29)).alloc (Obj.cells #[.int .u32 (cd : Int), .bool false, .int .u64 0, .slice none 0 0, .slice none 0 0] 34)) #[.int .i64 ix, .bool true, .bool false, .slice co cn cc] #[.int .u16 (fl : Int), .int .u16 (ty : Int), .int .u64 (ck : Int), .int .u64 (off : Int), .int .u64 0, d] #[.int .u32 (cd : Int), .bool false, .int .u64 0, .slice none 0 0, .slice none 0 0] 24 29 34) := hx5
  generalize (((w.alloc (Obj.cells #[.int .i64 ix, .bool true, .bool false, .slice co cn cc] 24)).alloc (Obj.cells #[.int .u16 (fl : Int), .int .u16 (ty : Int), .int .u64 (ck : Int), .int .u64 (off : Int), .int .u64 0, d] 29)).alloc (Obj.cells #[.int .u32 (cd : Int), .bool false, .int .u64 0, .slice none 0 0, .slice none 0 0] 34)) = W5 at *
  clear hx5
  refine (HBy.out _).mono ?_
  rintro e W6 ⟨ao, cap, rfl, hr⟩
  have hy := H5x.out.later hr.bel
  have za0 : W6.cell? ⟨w.heap.size, 0, none⟩ = some (.int .i64 ix) := by rw [blk_at hy.a]; rfl
  have za1 : W6.cell? ⟨w.heap.size, 1, none⟩ = some (.bool true) := by rw [blk_at hy.a]; rfl
  have za2 : W6.cell? ⟨w.heap.size, 2, none⟩ = some (.bool false) := by rw [blk_at hy.a]; rfl
  have za3 : W6.cell? ⟨w.heap.size, 3, none⟩ = some (.slice co cn cc) := by rw [blk_at hy.a]; rfl
  have zb0 : W6.cell? ⟨w.heap.size + 1, 0, none⟩ = some (.int .u16 (fl : Int)) := by rw [blk_at hy.b]; rfl
  have zb1 : W6.cell? ⟨w.heap.size + 1, 1, none⟩ = some (.int .u16 (ty : Int)) := by rw [blk_at hy.b]; rfl
  have zb2 : W6.cell? ⟨w.heap.size + 1, 2, none⟩ = some (.int .u64 (ck : Int)) := by rw [blk_at hy.b]; rfl
  have zb3 : W6.cell? ⟨w.heap.size + 1, 3, none⟩ = some (.int .u64 (off : Int)) := by rw [blk_at hy.b]; rfl
  have zb4 : W6.cell? ⟨w.heap.size + 1, 4, none⟩ = some (.int .u64 0) := by rw [blk_at hy.b]; rfl
  have zb5 : W6.cell? ⟨w.heap.size + 1, 5, none⟩ = some (d) := by rw [blk_at hy.b]; rfl
  have zc0 : W6.cell? ⟨w.heap.size + 1 + 1, 0, none⟩ = some (.int .u32 (cd : Int)) := by rw [blk_at hy.c]; rfl
  have zc1 : W6.cell? ⟨w.heap.size + 1 + 1, 1, none⟩ = some (.bool false) := by rw [blk_at hy.c]; rfl
  have zc2 : W6.cell? ⟨w.heap.size + 1 + 1, 2, none⟩ = some (.int .u64 0) := by rw [blk_at hy.c]; rfl
  have zc3 : W6.cell? ⟨w.heap.size + 1 + 1, 3, none⟩ = some (.slice none 0 0) := by rw [blk_at hy.c]; rfl
  have zc4 : W6.cell? ⟨w.heap.size + 1 + 1, 4, none⟩ = some (.slice none 0 0) := by rw [blk_at hy.c]; rfl
  have H6 : Hid (Bx3 w W6 #[.int .i64 ix, .bool true, .bool false, .slice co cn cc] #[.int .u16 (fl : Int), .int .u16 (ty : Int), .int .u64 (ck : Int), .int .u64 (off : Int), .int .u64 0, d] #[.int .u32 (cd : Int), .bool false, .int .u64 0, .slice none 0 0, .slice none 0 0] 24 29 34) := hy
  have HR : Hid (Row W5 W6 ao cap (sL cd ck)) := hr
  clear hy hr HBy H5x 
  go_wp2_with fail
  refine (HNm.out _ _).mono ?_
  rintro e W7 ⟨rfl, hw⟩
  rw [hw]; clear hw
  have hcr := HR.out.crow (by simp [sL, bigTo_length])
  obtain ⟨b0, o0, rfl⟩ := hcr.some (by simp [sL, bigTo_length])
  go_wp2_with fail
  refine (HDs.out _ _ _ _ hcr).mono ?_
  rintro e W8 ⟨rfl, hb⟩
  have hy := H6.out.later hb
  have uq2 : ∀ o, (W8.alloc o).cell? ⟨w.heap.size + 1, 2, none⟩ = some (.int .u64 (ck : Int)) := fun o => by rw [blk_at (hy.later (below1 W8 o)).b]; rfl
  have H8 : Hid (Bx3 w W8 #[.int .i64 ix, .bool true, .bool false, .slice co cn cc] #[.int .u16 (fl : Int), .int .u16 (ty : Int), .int .u64 (ck : Int), .int .u64 (off : Int), .int .u64 0, d] #[.int .u32 (cd : Int), .bool false, .int .u64 0, .slice none 0 0, .slice none 0 0] 24 29 34) := hy
  clear hy hb hcr HDs HR H6 za0 za1 za2 za3 zb0 zb1 zb2 zb3 zb4 zb5 zc0 zc1 zc2 zc3 zc4
  go_wp2_with fail
  refine (HNm.out _ _).mono ?_
  rintro e W9 ⟨rfl, hw⟩
  rw [hw]; clear hw
  go_wp2_with fail
  refine (H5.out _).mono ?_
  rintro e W9 ⟨rfl, hb⟩
  have H9 : Hid (Below w.heap.size w W9) := ((H8.out.later (below1 W8 _)).later hb).bel
  clear hb H8
  go_wp2
  go_ret
  exact ⟨rfl, H9.out⟩
set_option maxHeartbeats 4000000 in
theorem fails_nS2c (ix : Int) (co : Option Addr) (cn cc : Nat) (fl ty ck off len : Nat) (d : Value) (cd : Nat) (by_ : Nat) (w : World) (hcn : True) (hty : ty < 65536) (hck : ck < 18446744073709551616) (h1 : off < 18446744073709551616) (h2 : len < 18446744073709551616) (h4 : cd < 4294967296) (hcd : cd ≠ 0) (ht0 : ty ≠ 0) (ht7 : ty ≠ 7) (hby : by_ < 4294967296) (hl0 : 0 < len) (ho0 : 9223372036854775808 < off) :
    Calls Tryd.prog 6 #[.agg #[.int .i64 ix, .bool true, .bool false, .slice co cn cc], .agg #[.int .u16 (fl : Int), .int .u16 (ty : Int), .int .u64 (ck : Int), .int .u64 (off : Int), .int .u64 (len : Int), d], .int .u32 (cd : Int), .bool true, .int .u32 (by_ : Int)] w fun e w' => e = .returned (.bool true) ∧ Below w.heap.size w w' := by
  have hs : strB true false ty = false := by simp [strB, ht0, ht7]
  have HBy : Hid (∀ W, Calls Tryd.prog 22 #[.agg #[.int .i64 ix, .bool true, .bool false, .slice co cn cc], .agg #[.int .u16 (fl : Int), .int .u16 (ty : Int), .int .u64 (ck : Int), .int .u64 (off : Int), .int .u64 (len : Int), d], .agg #[.int .u32 (cd : Int), .bool false, .int .u64 0, .slice none 0 0, .slice none 0 0]] W fun e w' => ∃ ao cap, e = .returned (.tuple #[.slice ao 16 cap, .int .i64 0]) ∧ Row W w' ao cap (sL cd ck)) := fun W => bytesE_sim ix true false co cn cc fl ty ck off len d cd false 0 W hcn hty hck h1 h2 (by decide) h4 hcd (by simp) hs
  have HDs : Hid (∀ W b o cap, CRow W (some ⟨b, o, none⟩) cap (sL cd ck) → Calls Tryd.prog 26 #[.slice (some ⟨b, o, none⟩) 16 cap] W fun e w' => e = .returned (.tuple #[.agg #[.int .u32 (cd : Int), .int .u64 (ck : Int)], .int .i64 16, .int .i64 0]) ∧ Below W.heap.size W w') := fun W b o cap h => by
    have := dec_simple cd ck [] h4 hck b o cap W (by rw [List.append_nil]; exact h)
    simpa [sL, bigTo_length] using this
  have H5 : Hid (∀ W, Calls Tryd.prog 14 #[] W fun e w' => e = .returned (.bool true) ∧ Below W.heap.size W w') := alive_any
  have HNm : Hid (∀ e W, Calls Tryd.prog 9 #[.int .i64 e] W fun r w' => r = .returned (.int .i64 e) ∧ w' = W) := num_any
  have f1 : ((cd : Int) == 0) = false := by rw [beq_eq_false_iff_ne]; omega
  have t0 : ((ty : Int) != 0) = true := by rw [bne_iff_ne]; omega
  have t7 : ((ty : Int) != 7) = true := by rw [bne_iff_ne]; omega
  have f2 : decide ((0 : Int) < (len : Int)) = true := by simp; omega
  have f3 : decide ((off : Int) ≤ 9223372036854775808) = false := by simp; omega
  have ho1 : ¬ off ≤ 9223372036854775808 := by omega
  clear hs ht0 ht7 
  go_enter Tryd.func6, Tryd.ntmps6
  go_wp2_with fail
  have hx5 : Bx3 w (((w.alloc (Obj.cells #[.int .i64 ix, .bool true, .bool false, .slice co cn cc] 24)).alloc (Obj.cells #[.int .u16 (fl : Int), .int .u16 (ty : Int), .int .u64 (ck : Int), .int .u64 (off : Int), .int .u64 (len : Int), d] 29)).alloc (Obj.cells #[.int .u32 (cd : Int), .bool false, .int .u64 0, .slice none 0 0, .slice none 0 0] 34)) #[.int .i64 ix, .bool true, .bool false, .slice co cn cc] #[.int .u16 (fl : Int), .int .u16 (ty : Int), .int .u64 (ck : Int), .int .u64 (off : Int), .int .u64 (len : Int), d] #[.int .u32 (cd : Int), .bool false, .int .u64 0, .slice none 0 0, .slice none 0 0] 24 29 34 := mkb3 w _ _ _ _ _ _
  have H5x : Hid (Bx3 w (((w.alloc (Obj.cells #[.int .i64 ix, .bool true, .bool false, .slice co cn cc] 24)).alloc (Obj.cells #[.int .u16 (fl : Int), .int .u16 (ty : Int), .int .u64 (ck : Int), .int .u64 (off : Int), .int .u64 (len : Int), d] 29)).alloc (Obj.cells #[.int .u32 (cd : Int), .bool false, .int .u64 0, .slice none 0 0, .slice none 0 0] 34)) #[.int .i64 ix, .bool true, .bool false, .slice co cn cc] #[.int .u16 (fl : Int), .int .u16 (ty : Int), .int .u64 (ck : Int), .int .u64 (off : Int), .int .u64 (len : Int), d] #[.int .u32 (cd : Int), .bool false, .int .u64 0, .slice none 0 0, .slice none 0 0] 24 29 34) := hx5
  generalize (((w.alloc (Obj.cells #[.int .i64 ix, .bool true, .bool false, .slice co cn cc] 24)).alloc (Obj.cells #[.int .u16 (fl : Int), .int .u16 (ty : Int), .int .u64 (ck : Int), .int .u64 (off : Int), .int .u64 (len : Int), d] 29)).alloc (Obj.cells #[.int .u32 (cd : Int), .bool false, .int .u64 0, .slice none 0 0, .slice none 0 0] 34)) = W5 at *
  clear hx5
  refine (HBy.out _).mono ?_
  rintro e W6 ⟨ao, cap, rfl, hr⟩
  have hy := H5x.out.later hr.bel
  have za0 : W6.cell? ⟨w.heap.size, 0, none⟩ = some (.int .i64 ix) := by rw [blk_at hy.a]; rfl
  have za1 : W6.cell? ⟨w.heap.size, 1, none⟩ = some (.bool true) := by rw [blk_at hy.a]; rfl
  have za2 : W6.cell? ⟨w.heap.size, 2, none⟩ = some (.bool false) := by rw [blk_at hy.a]; rfl
  have za3 : W6.cell? ⟨w.heap.size, 3, none⟩ = some (.slice co cn cc) := by rw [blk_at hy.a]; rfl
  have zb0 : W6.cell? ⟨w.heap.size + 1, 0, none⟩ = some (.int .u16 (fl : Int)) := by rw [blk_at hy.b]; rfl
  have zb1 : W6.cell? ⟨w.heap.size + 1, 1, none⟩ = some (.int .u16 (ty : Int)) := by rw [blk_at hy.b]; rfl
  have zb2 : W6.cell? ⟨w.heap.size + 1, 2, none⟩ = some (.int .u64 (ck : Int)) := by rw [blk_at hy.b]; rfl
  have zb3 : W6.cell? ⟨w.heap.size + 1, 3, none⟩ = some (.int .u64 (off : Int)) := by rw [blk_at hy.b]; rfl
  have zb4 : W6.cell? ⟨w.heap.size + 1, 4, none⟩ = some (.int .u64 (len : Int)) := by rw [blk_at hy.b]; rfl
  have zb5 : W6.cell? ⟨w.heap.size + 1, 5, none⟩ = some (d) := by rw [blk_at hy.b]; rfl
  have zc0 : W6.cell? ⟨w.heap.size + 1 + 1, 0, none⟩ = some (.int .u32 (cd : Int)) := by rw [blk_at hy.c]; rfl
  have zc1 : W6.cell? ⟨w.heap.size + 1 + 1, 1, none⟩ = some (.bool false) := by rw [blk_at hy.c]; rfl
  have zc2 : W6.cell? ⟨w.heap.size + 1 + 1, 2, none⟩ = some (.int .u64 0) := by rw [blk_at hy.c]; rfl
  have zc3 : W6.cell? ⟨w.heap.size + 1 + 1, 3, none⟩ = some (.slice none 0 0) := by rw [blk_at hy.c]; rfl
  have zc4 : W6.cell? ⟨w.heap.size + 1 + 1, 4, none⟩ = some (.slice none 0 0) := by rw [blk_at hy.c]; rfl
  have H6 : Hid (Bx3 w W6 #[.int .i64 ix, .bool true, .bool false, .slice co cn cc] #[.int .u16 (fl : Int), .int .u16 (ty : Int), .int .u64 (ck : Int), .int .u64 (off : Int), .int .u64 (len : Int), d] #[.int .u32 (cd : Int), .bool false, .int .u64 0, .slice none 0 0, .slice none 0 0] 24 29 34) := hy
  have HR : Hid (Row W5 W6 ao cap (sL cd ck)) := hr
  clear hy hr HBy H5x 
  go_wp2_with fail
  refine (HNm.out _ _).mono ?_
  rintro e W7 ⟨rfl, hw⟩
  rw [hw]; clear hw
  have hcr := HR.out.crow (by simp [sL, bigTo_length])
  obtain ⟨b0, o0, rfl⟩ := hcr.some (by simp [sL, bigTo_length])
  go_wp2_with fail
  refine (HDs.out _ _ _ _ hcr).mono ?_
  rintro e W8 ⟨rfl, hb⟩
  have hy := H6.out.later hb
  have uq2 : ∀ o, (W8.alloc o).cell? ⟨w.heap.size + 1, 2, none⟩ = some (.int .u64 (ck : Int)) := fun o => by rw [blk_at (hy.later (below1 W8 o)).b]; rfl
  have H8 : Hid (Bx3 w W8 #[.int .i64 ix, .bool true, .bool false, .slice co cn cc] #[.int .u16 (fl : Int), .int .u16 (ty : Int), .int .u64 (ck : Int), .int .u64 (off : Int), .int .u64 (len : Int), d] #[.int .u32 (cd : Int), .bool false, .int .u64 0, .slice none 0 0, .slice none 0 0] 24 29 34) := hy
  clear hy hb hcr HDs HR H6 za0 za1 za2 za3 zb0 zb1 zb2 zb3 zb4 zb5 zc0 zc1 zc2 zc3 zc4
  go_wp2_with fail
  refine (HNm.out _ _).mono ?_
  rintro e W9 ⟨rfl, hw⟩
  rw [hw]; clear hw
  go_wp2_with fail
  refine (H5.out _).mono ?_
  rintro e W9 ⟨rfl, hb⟩
  have H9 : Hid (Below w.heap.size w W9) := ((H8.out.later (below1 W8 _)).later hb).bel
  clear hb H8
  go_wp2
  go_ret
  exact ⟨rfl, H9.out⟩
end Go.Proofs.YtefgdhoapmikhaaDoor
