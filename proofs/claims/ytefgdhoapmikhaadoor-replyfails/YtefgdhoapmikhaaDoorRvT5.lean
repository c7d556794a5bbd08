import Derived.Test.YtefgdhoapmikhaaDoorRvFa
namespace Go.Proofs.YtefgdhoapmikhaaDoor
open Go.RowKit
set_option linter.unusedVariables false
set_option linter.unusedSimpArgs false
set_option maxRecDepth 100000
set_option maxHeartbeats 4000000 in
theorem fails_nT2c (ix : Int) (co : Option Addr) (cn cc : Nat) (fl ty ck off len : Nat) (d : Value) (cd : Nat) (by_ : Nat) (w : World) (hcn : True) (hty : ty < 65536) (hck : ck < 18446744073709551616) (h1 : off < 18446744073709551616) (h2 : len < 18446744073709551616) (h4 : cd < 4294967296) (hcd : cd ≠ 0) (ht0 : ty = 0) (hby : by_ < 4294967296) (hl0 : 0 < len) (ho0 : 9223372036854775808 < off) :
    Calls Tryd.prog 6 #[.agg #[.int .i64 ix, .bool true, .bool false, .slice co cn cc], .agg #[.int .u16 (fl : Int), .int .u16 (ty : Int), .int .u64 (ck : Int), .int .u64 (off : Int), .int .u64 (len : Int), d], .int .u32 (cd : Int), .bool true, .int .u32 (by_ : Int)] w fun e w' => e = .returned (.bool true) ∧ Below w.heap.size w w' := by
  have hs : strB true false ty = true := by simp [strB, ht0]
  have HBy : Hid (∀ W, Calls Tryd.prog 22 #[.agg #[.int .i64 ix, .bool true, .bool false, .slice co cn cc], .agg #[.int .u16 (fl : Int), .int .u16 (ty : Int), .int .u64 (ck : Int), .int .u64 (off : Int), .int .u64 (len : Int), d], .agg #[.int .u32 (cd : Int), .bool false, .int .u64 0, .slice none 0 0, .slice none 0 0]] W fun e w' => ∃ ao cap, e = .returned (.tuple #[.slice ao (encS false (sayE cd ck off false 0 false)).length cap, .int .i64 0]) ∧ Row W w' ao cap (encS false (sayE cd ck off false 0 false))) := fun W => bytesE_str ix true false co cn cc fl ty ck off len d cd false 0 W hcn hty hck h1 h2 (by decide) h4 hcd (by simp) hs
  have HCut : Hid (∀ W ao cap, CRow W ao cap (encS false (sayE cd ck off false 0 false)) → Calls Tryd.prog 27 #[.slice ao (encS false (sayE cd ck off false 0 false)).length cap, .bool false] W fun e w' => ∃ v L, e = .returned (.tuple #[v, .bool true]) ∧ Cks W w' v L ∧ L.map Ck.say = sayE cd ck off false 0 false ∧ Below W.heap.size W w') := fun W ao cap h => cut_any ao cap _ _ false W h rfl (sayE_ok cd ck off false 0 false hck h1) (by simp [sayE])
  have HUn : Hid (∀ W ao cap, BRow W ao cap (erL cd false 0) → Calls Tryd.prog 30 #[.slice ao 6 cap, .bool false] W fun e w' => e = .returned (.tuple #[.agg #[.int .u32 (cd : Int), .string ⟨#[]⟩, .bool false, .int .u64 0], .int .i64 0]) ∧ Below W.heap.size W w') := fun W ao cap h => unpackE0 cd 0 ao cap W h4 (by decide) rfl h
  have HLe : Hid ((encS false (sayE cd ck off false 0 false)).length ≤ 140737488351232) := by
    have := enS_len false (1, kdE false, ck, eoE false off, erL cd false 0)
    simp only [erL_len] at this
    show (encS false (sayE cd ck off false 0 false)).length ≤ _
    unfold encS sayE
    simp at this ⊢
    omega
  generalize (encS false (sayE cd ck off false 0 false)) = LL at *
  have H5 : Hid (∀ W, Calls Tryd.prog 14 #[] W fun e w' => e = .returned (.bool true) ∧ Below W.heap.size W w') := alive_any
  have HNm : Hid (∀ e W, Calls Tryd.prog 9 #[.int .i64 e] W fun r w' => r = .returned (.int .i64 e) ∧ w' = W) := num_any
  have f1 : ((cd : Int) == 0) = false := by rw [beq_eq_false_iff_ne]; omega
  have t0 : ((ty : Int) != 0) = false := by rw [bne_eq_false_iff_eq]; omega
  have f2 : decide ((0 : Int) < (len : Int)) = true := by simp; omega
  have f3 : decide ((off : Int) ≤ 9223372036854775808) = false := by simp; omega
  have ho1 : ¬ off ≤ 9223372036854775808 := by omega
  clear hs ht0 
  go_enter Tryd.func6, Tryd.ntmps6
  go_wp2_with fail
  have hx5 : Bx3 w (((w.alloc (Obj.cells #[.int .i64 ix, .bool true, .bool false, .slice co cn cc] 24)).alloc (Obj.cells #[.int .u16 (fl : Int), .int .u16 (ty : Int), .int .u64 (ck : Int), .int .u64 (off : Int), .int .u64 (len : Int), d] 29)).alloc (Obj.cells #[.int .u32 (cd : Int), .bool false, .int .u64 0, .slice none 0 0, .slice none 0 0] 34)) #[.int .i64 ix, .bool true, .bool false, .slice co cn cc] #[.int .u16 (fl : Int), .int .u16 (ty : Int), .int .u64 (ck : Int), .int .u64 (off : Int), .int .u64 (len : Int), d] #[.int .u32 (cd : Int), .bool false, .int .u64 0, .slice none 0 0, .slice none 0 0] 24 29 34 := mkb3 w _ _ _ _ _ _
  have H5x : Hid (Bx3 w (((w.alloc (Obj.cells #[.int .i64 ix, .bool true, .bool false, .slice co cn cc] 24)).alloc (Obj.cells #[.int .u16 (fl : Int), .int .u16 (ty : Int), .int .u64 (ck : Int), .int .u64 (off : Int), .int .u64 (len : Int), d] 29)).alloc (Obj.cells #[.int .u32 (cd : Int), .bool false, .int .u64 0, .slice none 0 0, .slice none 0 0] 34)) #[.int .i64 ix, .bool true, .bool false, .slice co cn cc] #[.int .u16 (fl : Int), .int .u16 (ty : Int), .int .u64 (ck : Int), .int .u64 (off : Int), .int .u64 (len : Int), d] #[.int .u32 (cd : Int), .bool false, .int .u64 0, .slice none 0 0, .slice none 0 0] 24 29 34) := hx5
  generalize (((w.alloc (Obj.cells #[.int .i64 ix, .bool true, .bool false, .slice co cn cc] 24)).alloc (Obj.cells #[.int .u16 (fl : Int), .int .u16 (ty : Int), .int .u64 (ck : Int), .int .u64 (off : Int), .int .u64 (len : Int), d] 29)).alloc (Obj.cells #[.int .u32 (cd : Int), .bool false, .int .u64 0, .slice none 0 0, .slice none 0 0] 34)) = W5 at *
  clear hx5
  refine (HBy.out _).mono ?_
  rintro e W6 ⟨ao, cap, rfl, hr⟩
  have hy := H5x.out.later hr.bel
  have za0 : W6.cell? ⟨w.heap.size, 0, none⟩ = some (.int .i64 ix) := by rw [blk_at hy.a]; rfl
  have za1 : W6.cell? ⟨w.heap.size, 1, none⟩ = some (.bool true) := by rw [blk_at hy.a]; rfl
  have za2 : W6.cell? ⟨w.heap.size, 2, none⟩ = some (.bool false) := by rw [blk_at hy.a]; rfl
  have za3 : W6.cell? ⟨w.heap.size, 3, none⟩ = some (.slice co cn cc) := by rw [blk_at hy.a]; rfl
  have zb0 : W6.cell? ⟨w.heap.size + 1, 0, none⟩ = some (.int .u16 (fl : Int)) := by rw [blk_at hy.b]; rfl
  have zb1 : W6.cell? ⟨w.heap.size + 1, 1, none⟩ = some (.int .u16 (ty : Int)) := by rw [blk_at hy.b]; rfl
  have zb2 : W6.cell? ⟨w.heap.size + 1, 2, none⟩ = some (.int .u64 (ck : Int)) := by rw [blk_at hy.b]; rfl
  have zb3 : W6.cell? ⟨w.heap.size + 1, 3, none⟩ = some (.int .u64 (off : Int)) := by rw [blk_at hy.b]; rfl
  have zb4 : W6.cell? ⟨w.heap.size + 1, 4, none⟩ = some (.int .u64 (len : Int)) := by rw [blk_at hy.b]; rfl
  have zb5 : W6.cell? ⟨w.heap.size + 1, 5, none⟩ = some (d) := by rw [blk_at hy.b]; rfl
  have zc0 : W6.cell? ⟨w.heap.size + 1 + 1, 0, none⟩ = some (.int .u32 (cd : Int)) := by rw [blk_at hy.c]; rfl
  have zc1 : W6.cell? ⟨w.heap.size + 1 + 1, 1, none⟩ = some (.bool false) := by rw [blk_at hy.c]; rfl
  have zc2 : W6.cell? ⟨w.heap.size + 1 + 1, 2, none⟩ = some (.int .u64 0) := by rw [blk_at hy.c]; rfl
  have zc3 : W6.cell? ⟨w.heap.size + 1 + 1, 3, none⟩ = some (.slice none 0 0) := by rw [blk_at hy.c]; rfl
  have zc4 : W6.cell? ⟨w.heap.size + 1 + 1, 4, none⟩ = some (.slice none 0 0) := by rw [blk_at hy.c]; rfl
  have H6 : Hid (Bx3 w W6 #[.int .i64 ix, .bool true, .bool false, .slice co cn cc] #[.int .u16 (fl : Int), .int .u16 (ty : Int), .int .u64 (ck : Int), .int .u64 (off : Int), .int .u64 (len : Int), d] #[.int .u32 (cd : Int), .bool false, .int .u64 0, .slice none 0 0, .slice none 0 0] 24 29 34) := hy
  have HR : Hid (Row W5 W6 ao cap LL) := hr
  clear hy hr HBy H5x 
  go_wp2_with fail
  refine (HNm.out _ _).mono ?_
  rintro e W7 ⟨rfl, hw⟩
  rw [hw]; clear hw
  have hcr := HR.out.crow HLe.out
  have hln : LL.length ≤ 140737488351232 := HLe.out
  generalize hlq : LL.length = lq at *
  clear hlq
  go_wp2_with fail
  refine (HCut.out _ _ _ hcr).mono ?_
  rintro e W8 ⟨v, L, rfl, hck, hsay, hb⟩
  obtain ⟨ca, ccap, rfl⟩ := one_of hsay
  obtain ⟨g, cp, rfl, hg1, hg2, hg3, hg4, _, _, _⟩ := cks_form hck (by simp)
  have k0 := hck.cell 0 0 (by simp) (by decide)
  have k1 := hck.cell 0 1 (by simp) (by decide)
  have k2 := hck.cell 0 2 (by simp) (by decide)
  have k4 := hck.cell 0 4 (by simp) (by decide)
  simp [Ck.cells, kdE, erL_len] at k0 k1 k2 k4
  have hda := hck.dat _ (List.mem_cons_self)
  have hbr : BRow W8 ca ccap (erL cd false 0) := by
    obtain ⟨ao', cap', hv, hb'⟩ := BRow.own hda.1 hda.2 (by show (erL cd false 0).length ≤ _; rw [erL_len]; decide)
    simp only [Value.slice.injEq] at hv
    obtain ⟨rfl, _, rfl⟩ := hv
    exact hb'
  have hy := H6.out.later hb
  have ub0 : W8.cell? ⟨w.heap.size + 1, 0, none⟩ = some (.int .u16 (fl : Int)) := by rw [blk_at hy.b]; rfl
  have ub1 : W8.cell? ⟨w.heap.size + 1, 1, none⟩ = some (.int .u16 (ty : Int)) := by rw [blk_at hy.b]; rfl
  have ub2 : W8.cell? ⟨w.heap.size + 1, 2, none⟩ = some (.int .u64 (ck : Int)) := by rw [blk_at hy.b]; rfl
  have ub3 : W8.cell? ⟨w.heap.size + 1, 3, none⟩ = some (.int .u64 (off : Int)) := by rw [blk_at hy.b]; rfl
  have ub4 : W8.cell? ⟨w.heap.size + 1, 4, none⟩ = some (.int .u64 (len : Int)) := by rw [blk_at hy.b]; rfl
  have ub5 : W8.cell? ⟨w.heap.size + 1, 5, none⟩ = some (d) := by rw [blk_at hy.b]; rfl
  have uc0 : W8.cell? ⟨w.heap.size + 1 + 1, 0, none⟩ = some (.int .u32 (cd : Int)) := by rw [blk_at hy.c]; rfl
  have uc1 : W8.cell? ⟨w.heap.size + 1 + 1, 1, none⟩ = some (.bool false) := by rw [blk_at hy.c]; rfl
  have uc2 : W8.cell? ⟨w.heap.size + 1 + 1, 2, none⟩ = some (.int .u64 0) := by rw [blk_at hy.c]; rfl
  have uc3 : W8.cell? ⟨w.heap.size + 1 + 1, 3, none⟩ = some (.slice none 0 0) := by rw [blk_at hy.c]; rfl
  have uc4 : W8.cell? ⟨w.heap.size + 1 + 1, 4, none⟩ = some (.slice none 0 0) := by rw [blk_at hy.c]; rfl
  have v4 : ∀ q o, ((W8.drewN q).alloc o).cell? ⟨g, 4, none⟩ = some (.slice ca 6 ccap) := fun q o => cell_later (below1 (W8.drewN q) o) k4
  have v1 : ∀ q o, ((W8.drewN q).alloc o).cell? ⟨w.heap.size + 1 + 1, 1, none⟩ = some (.bool false) := fun q o => cell_later (below1 (W8.drewN q) o) uc1
  have H8 : Hid (Bx3 w W8 #[.int .i64 ix, .bool true, .bool false, .slice co cn cc] #[.int .u16 (fl : Int), .int .u16 (ty : Int), .int .u64 (ck : Int), .int .u64 (off : Int), .int .u64 (len : Int), d] #[.int .u32 (cd : Int), .bool false, .int .u64 0, .slice none 0 0, .slice none 0 0] 24 29 34) := hy
  have HUx : Hid (∀ W, Below W8.heap.size W8 W → Calls Tryd.prog 30 #[.slice ca 6 ccap, .bool false] W fun e w' => e = .returned (.tuple #[.agg #[.int .u32 (cd : Int), .string ⟨#[]⟩, .bool false, .int .u64 0], .int .i64 0]) ∧ Below W8.heap.size W8 w' ∧ Below W.heap.size W w') := fun W hbW => (HUn.out _ _ _ (hbr.later hbW)).mono fun e w' ⟨he, hb⟩ => ⟨he, hbW.trans (hb.mono hbW.size), hb⟩
  clear hy hb hcr HCut HR H6 hck hsay hda hbr HUn HLe za0 za1 za2 za3 zb0 zb1 zb2 zb3 zb4 zb5 zc0 zc1 zc2 zc3 zc4
  go_wp2_with fail
  go_quiet (fail)
  go_wp2_with fail
  go_region_with (first
    | (go_at_call 30; refine (HUx.out _ (below_drewN W8 (nq + 1))).mono ?_; rintro e W9 ⟨rfl, hb, hb2⟩)
    | (go_at_call 30; refine (HUx.out _ ((below_drewN W8 (nq + 1)).alloc (Nat.le_refl _) (Obj.cells #[.int .u32 0, .string ⟨#[]⟩, .bool false, .int .u64 0] 81))).mono ?_; rintro e W9 ⟨rfl, hb, hb2⟩; have bx9 : W9.heap[W8.heap.size]? = some (.cells #[.int .u32 0, .string ⟨#[]⟩, .bool false, .int .u64 0] 81 (0, 0)) := box_later (boxD W8 (nq + 1) _ _) hb2; have y0 : W9.cell? ⟨W8.heap.size, 0, none⟩ = some (.int .u32 0) := (by rw [blk_at bx9]; rfl); have y1 : W9.cell? ⟨W8.heap.size, 1, none⟩ = some (.string ⟨#[]⟩) := (by rw [blk_at bx9]; rfl); have y2 : W9.cell? ⟨W8.heap.size, 2, none⟩ = some (.bool false) := (by rw [blk_at bx9]; rfl); have y3 : W9.cell? ⟨W8.heap.size, 3, none⟩ = some (.int .u64 0) := (by rw [blk_at bx9]; rfl); have fz0 : W9.frozen? ⟨W8.heap.size, 0, none⟩ = false := blk_free bx9 0; have fz1 : W9.frozen? ⟨W8.heap.size, 1, none⟩ = false := blk_free bx9 1; have fz2 : W9.frozen? ⟨W8.heap.size, 2, none⟩ = false := blk_free bx9 2; have fz3 : W9.frozen? ⟨W8.heap.size, 3, none⟩ = false := blk_free bx9 3))
  all_goals first
    | (obtain ⟨hy, hxb, _⟩ := tailA H8.out hb bx9 (.int .u32 (cd : Int)) (.string ⟨#[]⟩) (.bool false) (.int .u64 0)
       have x0 : ((((W9.setCell ⟨W8.heap.size, 0, none⟩ (.int .u32 (cd : Int))).setCell ⟨W8.heap.size, 1, none⟩ (.string ⟨#[]⟩)).setCell ⟨W8.heap.size, 2, none⟩ (.bool false)).setCell ⟨W8.heap.size, 3, none⟩ (.int .u64 0)).cell? ⟨W8.heap.size, 0, none⟩ = some (.int .u32 (cd : Int)) := by rw [blk_at hxb]; rfl
       have x1 : ((((W9.setCell ⟨W8.heap.size, 0, none⟩ (.int .u32 (cd : Int))).setCell ⟨W8.heap.size, 1, none⟩ (.string ⟨#[]⟩)).setCell ⟨W8.heap.size, 2, none⟩ (.bool false)).setCell ⟨W8.heap.size, 3, none⟩ (.int .u64 0)).cell? ⟨W8.heap.size, 1, none⟩ = some (.string ⟨#[]⟩) := by rw [blk_at hxb]; rfl
       have x2 : ((((W9.setCell ⟨W8.heap.size, 0, none⟩ (.int .u32 (cd : Int))).setCell ⟨W8.heap.size, 1, none⟩ (.string ⟨#[]⟩)).setCell ⟨W8.heap.size, 2, none⟩ (.bool false)).setCell ⟨W8.heap.size, 3, none⟩ (.int .u64 0)).cell? ⟨W8.heap.size, 2, none⟩ = some (.bool false) := by rw [blk_at hxb]; rfl
       have x3 : ((((W9.setCell ⟨W8.heap.size, 0, none⟩ (.int .u32 (cd : Int))).setCell ⟨W8.heap.size, 1, none⟩ (.string ⟨#[]⟩)).setCell ⟨W8.heap.size, 2, none⟩ (.bool false)).setCell ⟨W8.heap.size, 3, none⟩ (.int .u64 0)).cell? ⟨W8.heap.size, 3, none⟩ = some (.int .u64 0) := by rw [blk_at hxb]; rfl
       have p1 : ((((W9.setCell ⟨W8.heap.size, 0, none⟩ (.int .u32 (cd : Int))).setCell ⟨W8.heap.size, 1, none⟩ (.string ⟨#[]⟩)).setCell ⟨W8.heap.size, 2, none⟩ (.bool false)).setCell ⟨W8.heap.size, 3, none⟩ (.int .u64 0)).cell? ⟨w.heap.size + 1 + 1, 1, none⟩ = some (.bool false) := by rw [blk_at hy.c]; rfl
       have p2 : ((((W9.setCell ⟨W8.heap.size, 0, none⟩ (.int .u32 (cd : Int))).setCell ⟨W8.heap.size, 1, none⟩ (.string ⟨#[]⟩)).setCell ⟨W8.heap.size, 2, none⟩ (.bool false)).setCell ⟨W8.heap.size, 3, none⟩ (.int .u64 0)).cell? ⟨w.heap.size + 1 + 1, 2, none⟩ = some (.int .u64 0) := by rw [blk_at hy.c]; rfl
       generalize ((((W9.setCell ⟨W8.heap.size, 0, none⟩ (.int .u32 (cd : Int))).setCell ⟨W8.heap.size, 1, none⟩ (.string ⟨#[]⟩)).setCell ⟨W8.heap.size, 2, none⟩ (.bool false)).setCell ⟨W8.heap.size, 3, none⟩ (.int .u64 0)) = Wx at *
       have H9 : Hid (Bx3 w Wx #[.int .i64 ix, .bool true, .bool false, .slice co cn cc] #[.int .u16 (fl : Int), .int .u16 (ty : Int), .int .u64 (ck : Int), .int .u64 (off : Int), .int .u64 (len : Int), d] #[.int .u32 (cd : Int), .bool false, .int .u64 0, .slice none 0 0, .slice none 0 0] 24 29 34) := hy
       clear hy hxb hb hb2 bx9 y0 y1 y2 y3 fz0 fz1 fz2 fz3 HUx H8 k0 k1 k2 k4 v4 v1 ub0 ub1 ub2 ub3 ub4 ub5 uc0 uc1 uc2 uc3 uc4
       go_wp2_with fail
       refine (HNm.out _ _).mono ?_
       rintro e W10 ⟨rfl, hw⟩
       rw [hw]; clear hw
       go_wp2_with fail
       refine (H5.out _).mono ?_
       rintro e W11 ⟨rfl, hb⟩
       have H11 : Hid (Below w.heap.size w W11) := (H9.out.later hb).bel
       clear hb H9
       go_wp2
       go_ret
       exact ⟨rfl, H11.out⟩)
    | (have hy := H8.out.later hb
       have uq1 : ∀ o, (W9.alloc o).cell? ⟨w.heap.size + 1 + 1, 1, none⟩ = some (.bool false) := fun o => by rw [blk_at (hy.later (below1 W9 o)).c]; rfl
       have uq2 : ∀ o, (W9.alloc o).cell? ⟨w.heap.size + 1 + 1, 2, none⟩ = some (.int .u64 0) := fun o => by rw [blk_at (hy.later (below1 W9 o)).c]; rfl
       have H9 : Hid (Bx3 w W9 #[.int .i64 ix, .bool true, .bool false, .slice co cn cc] #[.int .u16 (fl : Int), .int .u16 (ty : Int), .int .u64 (ck : Int), .int .u64 (off : Int), .int .u64 (len : Int), d] #[.int .u32 (cd : Int), .bool false, .int .u64 0, .slice none 0 0, .slice none 0 0] 24 29 34) := hy
       clear hy hb hb2 HUx H8 k0 k1 k2 k4 v4 v1 ub0 ub1 ub2 ub3 ub4 ub5 uc0 uc1 uc2 uc3 uc4
       go_wp2_with fail
       refine (HNm.out _ _).mono ?_
       rintro e W10 ⟨rfl, hw⟩
       rw [hw]; clear hw
       go_wp2_with fail
       refine (H5.out _).mono ?_
       rintro e W11 ⟨rfl, hb⟩
       have H11 : Hid (Below w.heap.size w W11) := ((H9.out.later (below1 W9 _)).later hb).bel
       clear hb H9
       go_wp2
       go_ret
       exact ⟨rfl, H11.out⟩)
end Go.Proofs.YtefgdhoapmikhaaDoor
namespace Go.Proofs.YtefgdhoapmikhaaDoor
open Go.RowKit
set_option linter.unusedVariables false
set_option linter.unusedSimpArgs false
set_option maxRecDepth 100000
set_option maxHeartbeats 4000000 in
theorem fails_nT3c (ix : Int) (co : Option Addr) (cn cc : Nat) (fl ty ck off len : Nat) (d : Value) (cd : Nat) (by_ : Nat) (w : World) (hcn : True) (hty : ty < 65536) (hck : ck < 18446744073709551616) (h1 : off < 18446744073709551616) (h2 : len < 18446744073709551616) (h4 : cd < 4294967296) (hcd : cd ≠ 0) (ht7 : ty = 7) (hby : by_ < 4294967296) (hl0 : 0 < len) (ho0 : 9223372036854775808 < off) :
    Calls Tryd.prog 6 #[.agg #[.int .i64 ix, .bool true, .bool false, .slice co cn cc], .agg #[.int .u16 (fl : Int), .int .u16 (ty : Int), .int .u64 (ck : Int), .int .u64 (off : Int), .int .u64 (len : Int), d], .int .u32 (cd : Int), .bool true, .int .u32 (by_ : Int)] w fun e w' => e = .returned (.bool true) ∧ Below w.heap.size w w' := by
  have hs : strB true false ty = true := by simp [strB, ht7]
  have HBy : Hid (∀ W, Calls Tryd.prog 22 #[.agg #[.int .i64 ix, .bool true, .bool false, .slice co cn cc], .agg #[.int .u16 (fl : Int), .int .u16 (ty : Int), .int .u64 (ck : Int), .int .u64 (off : Int), .int .u64 (len : Int), d], .agg #[.int .u32 (cd : Int), .bool false, .int .u64 0, .slice none 0 0, .slice none 0 0]] W fun e w' => ∃ ao cap, e = .returned (.tuple #[.slice ao (encS false (sayE cd ck off false 0 false)).length cap, .int .i64 0]) ∧ Row W w' ao cap (encS false (sayE cd ck off false 0 false))) := fun W => bytesE_str ix true false co cn cc fl ty ck off len d cd false 0 W hcn hty hck h1 h2 (by decide) h4 hcd (by simp) hs
  have HCut : Hid (∀ W ao cap, CRow W ao cap (encS false (sayE cd ck off false 0 false)) → Calls Tryd.prog 27 #[.slice ao (encS false (sayE cd ck off false 0 false)).length cap, .bool false] W fun e w' => ∃ v L, e = .returned (.tuple #[v, .bool true]) ∧ Cks W w' v L ∧ L.map Ck.say = sayE cd ck off false 0 false ∧ Below W.heap.size W w') := fun W ao cap h => cut_any ao cap _ _ false W h rfl (sayE_ok cd ck off false 0 false hck h1) (by simp [sayE])
  have HUn : Hid (∀ W ao cap, BRow W ao cap (erL cd false 0) → Calls Tryd.prog 30 #[.slice ao 6 cap, .bool false] W fun e w' => e = .returned (.tuple #[.agg #[.int .u32 (cd : Int), .string ⟨#[]⟩, .bool false, .int .u64 0], .int .i64 0]) ∧ Below W.heap.size W w') := fun W ao cap h => unpackE0 cd 0 ao cap W h4 (by decide) rfl h
  have HLe : Hid ((encS false (sayE cd ck off false 0 false)).length ≤ 140737488351232) := by
    have := enS_len false (1, kdE false, ck, eoE false off, erL cd false 0)
    simp only [erL_len] at this
    show (encS false (sayE cd ck off false 0 false)).length ≤ _
    unfold encS sayE
    simp at this ⊢
    omega
  generalize (encS false (sayE cd ck off false 0 false)) = LL at *
  have H5 : Hid (∀ W, Calls Tryd.prog 14 #[] W fun e w' => e = .returned (.bool true) ∧ Below W.heap.size W w') := alive_any
  have HNm : Hid (∀ e W, Calls Tryd.prog 9 #[.int .i64 e] W fun r w' => r = .returned (.int .i64 e) ∧ w' = W) := num_any
  have f1 : ((cd : Int) == 0) = false := by rw [beq_eq_false_iff_ne]; omega
  have t0 : ((ty : Int) != 0) = true := by rw [bne_iff_ne]; omega
  have t7 : ((ty : Int) != 7) = false := by rw [bne_eq_false_iff_eq]; omega
  have f2 : decide ((0 : Int) < (len : Int)) = true := by simp; omega
  have f3 : decide ((off : Int) ≤ 9223372036854775808) = false := by simp; omega
  have ho1 : ¬ off ≤ 9223372036854775808 := by omega
  clear hs ht7 
  go_enter Tryd.func6, Tryd.ntmps6
  go_wp2_with fail
  have hx5 : Bx3 w (((w.alloc (Obj.cells #[.int .i64 ix, .bool true, .bool false, .slice co cn cc] 24)).alloc (Obj.cells #[.int .u16 (fl : Int), .int .u16 (ty : Int), .int .u64 (ck : Int), .int .u64 (off : Int), .int .u64 (len : Int), d] 29)).alloc (Obj.cells #[.int .u32 (cd : Int), .bool false, .int .u64 0, .slice none 0 0, .slice none 0 0] 34)) #[.int .i64 ix, .bool true, .bool false, .slice co cn cc] #[.int .u16 (fl : Int), .int .u16 (ty : Int), .int .u64 (ck : Int), .int .u64 (off : Int), .int .u64 (len : Int), d] #[.int .u32 (cd : Int), .bool false, .int .u64 0, .slice none 0 0, .slice none 0 0] 24 29 34 := mkb3 w _ _ _ _ _ _
  have H5x : Hid (Bx3 w (((w.alloc (Obj.cells #[.int .i64 ix, .bool true, .bool false, .slice co cn cc] 24)).alloc (Obj.cells #[.int .u16 (fl : Int), .int .u16 (ty : Int), .int .u64 (ck : Int), .int .u64 (off : Int), .int .u64 (len : Int), d] 29)).alloc (Obj.cells #[.int .u32 (cd : Int), .bool false, .int .u64 0, .slice none 0 0, .slice none 0 0] 34)) #[.int .i64 ix, .bool true, .bool false, .slice co cn cc] #[.int .u16 (fl : Int), .int .u16 (ty : Int), .int .u64 (ck : Int), .int .u64 (off : Int), .int .u64 (len : Int), d] #[.int .u32 (cd : Int), .bool false, .int .u64 0, .slice none 0 0, .slice none 0 0] 24 29 34) := hx5
  generalize (((w.alloc (Obj.cells #[.int .i64 ix, .bool true, .bool false, .slice co cn cc] 24)).alloc (Obj.cells #[.int .u16 (fl : Int), .int .u16 (ty : Int), .int .u64 (ck : Int), .int .u64 (off : Int), .int .u64 (len : Int), d] 29)).alloc (Obj.cells #[.int .u32 (cd : Int), .bool false, .int .u64 0, .slice none 0 0, .slice none 0 0] 34)) = W5 at *
  clear hx5
  refine (HBy.out _).mono ?_
  rintro e W6 ⟨ao, cap, rfl, hr⟩
  have hy := H5x.out.later hr.bel
  have za0 : W6.cell? ⟨w.heap.size, 0, none⟩ = some (.int .i64 ix) := by rw [blk_at hy.a]; rfl
  have za1 : W6.cell? ⟨w.heap.size, 1, none⟩ = some (.bool true) := by rw [blk_at hy.a]; rfl
  have za2 : W6.cell? ⟨w.heap.size, 2, none⟩ = some (.bool false) := by rw [blk_at hy.a]; rfl
  have za3 : W6.cell? ⟨w.heap.size, 3, none⟩ = some (.slice co cn cc) := by rw [blk_at hy.a]; rfl
  have zb0 : W6.cell? ⟨w.heap.size + 1, 0, none⟩ = some (.int .u16 (fl : Int)) := by rw [blk_at hy.b]; rfl
  have zb1 : W6.cell? ⟨w.heap.size + 1, 1, none⟩ = some (.int .u16 (ty : Int)) := by rw [blk_at hy.b]; rfl
  have zb2 : W6.cell? ⟨w.heap.size + 1, 2, none⟩ = some (.int .u64 (ck : Int)) := by rw [blk_at hy.b]; rfl
  have zb3 : W6.cell? ⟨w.heap.size + 1, 3, none⟩ = some (.int .u64 (off : Int)) := by rw [blk_at hy.b]; rfl
  have zb4 : W6.cell? ⟨w.heap.size + 1, 4, none⟩ = some (.int .u64 (len : Int)) := by rw [blk_at hy.b]; rfl
  have zb5 : W6.cell? ⟨w.heap.size + 1, 5, none⟩ = some (d) := by rw [blk_at hy.b]; rfl
  have zc0 : W6.cell? ⟨w.heap.size + 1 + 1, 0, none⟩ = some (.int .u32 (cd : Int)) := by rw [blk_at hy.c]; rfl
  have zc1 : W6.cell? ⟨w.heap.size + 1 + 1, 1, none⟩ = some (.bool false) := by rw [blk_at hy.c]; rfl
  have zc2 : W6.cell? ⟨w.heap.size + 1 + 1, 2, none⟩ = some (.int .u64 0) := by rw [blk_at hy.c]; rfl
  have zc3 : W6.cell? ⟨w.heap.size + 1 + 1, 3, none⟩ = some (.slice none 0 0) := by rw [blk_at hy.c]; rfl
  have zc4 : W6.cell? ⟨w.heap.size + 1 + 1, 4, none⟩ = some (.slice none 0 0) := by rw [blk_at hy.c]; rfl
  have H6 : Hid (Bx3 w W6 #[.int .i64 ix, .bool true, .bool false, .slice co cn cc] #[.int .u16 (fl : Int), .int .u16 (ty : Int), .int .u64 (ck : Int), .int .u64 (off : Int), .int .u64 (len : Int), d] #[.int .u32 (cd : Int), .bool false, .int .u64 0, .slice none 0 0, .slice none 0 0] 24 29 34) := hy
  have HR : Hid (Row W5 W6 ao cap LL) := hr
  clear hy hr HBy H5x 
  go_wp2_with fail
  refine (HNm.out _ _).mono ?_
  rintro e W7 ⟨rfl, hw⟩
  rw [hw]; clear hw
  have hcr := HR.out.crow HLe.out
  have hln : LL.length ≤ 140737488351232 := HLe.out
  generalize hlq : LL.length = lq at *
  clear hlq
  go_wp2_with fail
  refine (HCut.out _ _ _ hcr).mono ?_
  rintro e W8 ⟨v, L, rfl, hck, hsay, hb⟩
  obtain ⟨ca, ccap, rfl⟩ := one_of hsay
  obtain ⟨g, cp, rfl, hg1, hg2, hg3, hg4, _, _, _⟩ := cks_form hck (by simp)
  have k0 := hck.cell 0 0 (by simp) (by decide)
  have k1 := hck.cell 0 1 (by simp) (by decide)
  have k2 := hck.cell 0 2 (by simp) (by decide)
  have k4 := hck.cell 0 4 (by simp) (by decide)
  simp [Ck.cells, kdE, erL_len] at k0 k1 k2 k4
  have hda := hck.dat _ (List.mem_cons_self)
  have hbr : BRow W8 ca ccap (erL cd false 0) := by
    obtain ⟨ao', cap', hv, hb'⟩ := BRow.own hda.1 hda.2 (by show (erL cd false 0).length ≤ _; rw [erL_len]; decide)
    simp only [Value.slice.injEq] at hv
    obtain ⟨rfl, _, rfl⟩ := hv
    exact hb'
  have hy := H6.out.later hb
  have ub0 : W8.cell? ⟨w.heap.size + 1, 0, none⟩ = some (.int .u16 (fl : Int)) := by rw [blk_at hy.b]; rfl
  have ub1 : W8.cell? ⟨w.heap.size + 1, 1, none⟩ = some (.int .u16 (ty : Int)) := by rw [blk_at hy.b]; rfl
  have ub2 : W8.cell? ⟨w.heap.size + 1, 2, none⟩ = some (.int .u64 (ck : Int)) := by rw [blk_at hy.b]; rfl
  have ub3 : W8.cell? ⟨w.heap.size + 1, 3, none⟩ = some (.int .u64 (off : Int)) := by rw [blk_at hy.b]; rfl
  have ub4 : W8.cell? ⟨w.heap.size + 1, 4, none⟩ = some (.int .u64 (len : Int)) := by rw [blk_at hy.b]; rfl
  have ub5 : W8.cell? ⟨w.heap.size + 1, 5, none⟩ = some (d) := by rw [blk_at hy.b]; rfl
  have uc0 : W8.cell? ⟨w.heap.size + 1 + 1, 0, none⟩ = some (.int .u32 (cd : Int)) := by rw [blk_at hy.c]; rfl
  have uc1 : W8.cell? ⟨w.heap.size + 1 + 1, 1, none⟩ = some (.bool false) := by rw [blk_at hy.c]; rfl
  have uc2 : W8.cell? ⟨w.heap.size + 1 + 1, 2, none⟩ = some (.int .u64 0) := by rw [blk_at hy.c]; rfl
  have uc3 : W8.cell? ⟨w.heap.size + 1 + 1, 3, none⟩ = some (.slice none 0 0) := by rw [blk_at hy.c]; rfl
  have uc4 : W8.cell? ⟨w.heap.size + 1 + 1, 4, none⟩ = some (.slice none 0 0) := by rw [blk_at hy.c]; rfl
  have v4 : ∀ q o, ((W8.drewN q).alloc o).cell? ⟨g, 4, none⟩ = some (.slice ca 6 ccap) := fun q o => cell_later (below1 (W8.drewN q) o) k4
  have v1 : ∀ q o, ((W8.drewN q).alloc o).cell? ⟨w.heap.size + 1 + 1, 1, none⟩ = some (.bool false) := fun q o => cell_later (below1 (W8.drewN q) o) uc1
  have H8 : Hid (Bx3 w W8 #[.int .i64 ix, .bool true, .bool false, .slice co cn cc] #[.int .u16 (fl : Int), .int .u16 (ty : Int), .int .u64 (ck : Int), .int .u64 (off : Int), .int .u64 (len : Int), d] #[.int .u32 (cd : Int), .bool false, .int .u64 0, .slice none 0 0, .slice none 0 0] 24 29 34) := hy
  have HUx : Hid (∀ W, Below W8.heap.size W8 W → Calls Tryd.prog 30 #[.slice ca 6 ccap, .bool false] W fun e w' => e = .returned (.tuple #[.agg #[.int .u32 (cd : Int), .string ⟨#[]⟩, .bool false, .int .u64 0], .int .i64 0]) ∧ Below W8.heap.size W8 w' ∧ Below W.heap.size W w') := fun W hbW => (HUn.out _ _ _ (hbr.later hbW)).mono fun e w' ⟨he, hb⟩ => ⟨he, hbW.trans (hb.mono hbW.size), hb⟩
  clear hy hb hcr HCut HR H6 hck hsay hda hbr HUn HLe za0 za1 za2 za3 zb0 zb1 zb2 zb3 zb4 zb5 zc0 zc1 zc2 zc3 zc4
  go_wp2_with fail
  go_quiet (fail)
  go_wp2_with fail
  go_region_with (first
    | (go_at_call 30; refine (HUx.out _ (below_drewN W8 (nq + 1))).mono ?_; rintro e W9 ⟨rfl, hb, hb2⟩)
    | (go_at_call 30; refine (HUx.out _ ((below_drewN W8 (nq + 1)).alloc (Nat.le_refl _) (Obj.cells #[.int .u32 0, .string ⟨#[]⟩, .bool false, .int .u64 0] 81))).mono ?_; rintro e W9 ⟨rfl, hb, hb2⟩; have bx9 : W9.heap[W8.heap.size]? = some (.cells #[.int .u32 0, .string ⟨#[]⟩, .bool false, .int .u64 0] 81 (0, 0)) := box_later (boxD W8 (nq + 1) _ _) hb2; have y0 : W9.cell? ⟨W8.heap.size, 0, none⟩ = some (.int .u32 0) := (by rw [blk_at bx9]; rfl); have y1 : W9.cell? ⟨W8.heap.size, 1, none⟩ = some (.string ⟨#[]⟩) := (by rw [blk_at bx9]; rfl); have y2 : W9.cell? ⟨W8.heap.size, 2, none⟩ = some (.bool false) := (by rw [blk_at bx9]; rfl); have y3 : W9.cell? ⟨W8.heap.size, 3, none⟩ = some (.int .u64 0) := (by rw [blk_at bx9]; rfl); have fz0 : W9.frozen? ⟨W8.heap.size, 0, none⟩ = false := blk_free bx9 0; have fz1 : W9.frozen? ⟨W8.heap.size, 1, none⟩ = false := blk_free bx9 1; have fz2 : W9.frozen? ⟨W8.heap.size, 2, none⟩ = false := blk_free bx9 2; have fz3 : W9.frozen? ⟨W8.heap.size, 3, none⟩ = false := blk_free bx9 3))
  all_goals first
    | (obtain ⟨hy, hxb, _⟩ := tailA H8.out hb bx9 (.int .u32 (cd : Int)) (.string ⟨#[]⟩) (.bool false) (.int .u64 0)
       have x0 : ((((W9.setCell ⟨W8.heap.size, 0, none⟩ (.int .u32 (cd : Int))).setCell ⟨W8.heap.size, 1, none⟩ (.string ⟨#[]⟩)).setCell ⟨W8.heap.size, 2, none⟩ (.bool false)).setCell ⟨W8.heap.size, 3, none⟩ (.int .u64 0)).cell? ⟨W8.heap.size, 0, none⟩ = some (.int .u32 (cd : Int)) := by rw [blk_at hxb]; rfl
       have x1 : ((((W9.setCell ⟨W8.heap.size, 0, none⟩ (.int .u32 (cd : Int))).setCell ⟨W8.heap.size, 1, none⟩ (.string ⟨#[]⟩)).setCell ⟨W8.heap.size, 2, none⟩ (.bool false)).setCell ⟨W8.heap.size, 3, none⟩ (.int .u64 0)).cell? ⟨W8.heap.size, 1, none⟩ = some (.string ⟨#[]⟩) := by rw [blk_at hxb]; rfl
       have x2 : ((((W9.setCell ⟨W8.heap.size, 0, none⟩ (.int .u32 (cd : Int))).setCell ⟨W8.heap.size, 1, none⟩ (.string ⟨#[]⟩)).setCell ⟨W8.heap.size, 2, none⟩ (.bool false)).setCell ⟨W8.heap.size, 3, none⟩ (.int .u64 0)).cell? ⟨W8.heap.size, 2, none⟩ = some (.bool false) := by rw [blk_at hxb]; rfl
       have x3 : ((((W9.setCell ⟨W8.heap.size, 0, none⟩ (.int .u32 (cd : Int))).setCell ⟨W8.heap.size, 1, none⟩ (.string ⟨#[]⟩)).setCell ⟨W8.heap.size, 2, none⟩ (.bool false)).setCell ⟨W8.heap.size, 3, none⟩ (.int .u64 0)).cell? ⟨W8.heap.size, 3, none⟩ = some (.int .u64 0) := by rw [blk_at hxb]; rfl
       have p1 : ((((W9.setCell ⟨W8.heap.size, 0, none⟩ (.int .u32 (cd : Int))).setCell ⟨W8.heap.size, 1, none⟩ (.string ⟨#[]⟩)).setCell ⟨W8.heap.size, 2, none⟩ (.bool false)).setCell ⟨W8.heap.size, 3, none⟩ (.int .u64 0)).cell? ⟨w.heap.size + 1 + 1, 1, none⟩ = some (.bool false) := by rw [blk_at hy.c]; rfl
       have p2 : ((((W9.setCell ⟨W8.heap.size, 0, none⟩ (.int .u32 (cd : Int))).setCell ⟨W8.heap.size, 1, none⟩ (.string ⟨#[]⟩)).setCell ⟨W8.heap.size, 2, none⟩ (.bool false)).setCell ⟨W8.heap.size, 3, none⟩ (.int .u64 0)).cell? ⟨w.heap.size + 1 + 1, 2, none⟩ = some (.int .u64 0) := by rw [blk_at hy.c]; rfl
       generalize ((((W9.setCell ⟨W8.heap.size, 0, none⟩ (.int .u32 (cd : Int))).setCell ⟨W8.heap.size, 1, none⟩ (.string ⟨#[]⟩)).setCell ⟨W8.heap.size, 2, none⟩ (.bool false)).setCell ⟨W8.heap.size, 3, none⟩ (.int .u64 0)) = Wx at *
       have H9 : Hid (Bx3 w Wx #[.int .i64 ix, .bool true, .bool false, .slice co cn cc] #[.int .u16 (fl : Int), .int .u16 (ty : Int), .int .u64 (ck : Int), .int .u64 (off : Int), .int .u64 (len : Int), d] #[.int .u32 (cd : Int), .bool false, .int .u64 0, .slice none 0 0, .slice none 0 0] 24 29 34) := hy
       clear hy hxb hb hb2 bx9 y0 y1 y2 y3 fz0 fz1 fz2 fz3 HUx H8 k0 k1 k2 k4 v4 v1 ub0 ub1 ub2 ub3 ub4 ub5 uc0 uc1 uc2 uc3 uc4
       go_wp2_with fail
       refine (HNm.out _ _).mono ?_
       rintro e W10 ⟨rfl, hw⟩
       rw [hw]; clear hw
       go_wp2_with fail
       refine (H5.out _).mono ?_
       rintro e W11 ⟨rfl, hb⟩
       have H11 : Hid (Below w.heap.size w W11) := (H9.out.later hb).bel
       clear hb H9
       go_wp2
       go_ret
       exact ⟨rfl, H11.out⟩)
    | (have hy := H8.out.later hb
       have uq1 : ∀ o, (W9.alloc o).cell? ⟨w.heap.size + 1 + 1, 1, none⟩ = some (.bool false) := fun o => by rw [blk_at (hy.later (below1 W9 o)).c]; rfl
       have uq2 : ∀ o, (W9.alloc o).cell? ⟨w.heap.size + 1 + 1, 2, none⟩ = some (.int .u64 0) := fun o => by rw [blk_at (hy.later (below1 W9 o)).c]; rfl
       have H9 : Hid (Bx3 w W9 #[.int .i64 ix, .bool true, .bool false, .slice co cn cc] #[.int .u16 (fl : Int), .int .u16 (ty : Int), .int .u64 (ck : Int), .int .u64 (off : Int), .int .u64 (len : Int), d] #[.int .u32 (cd : Int), .bool false, .int .u64 0, .slice none 0 0, .slice none 0 0] 24 29 34) := hy
       clear hy hb hb2 HUx H8 k0 k1 k2 k4 v4 v1 ub0 ub1 ub2 ub3 ub4 ub5 uc0 uc1 uc2 uc3 uc4
       go_wp2_with fail
       refine (HNm.out _ _).mono ?_
       rintro e W10 ⟨rfl, hw⟩
       rw [hw]; clear hw
       go_wp2_with fail
       refine (H5.out _).mono ?_
       rintro e W11 ⟨rfl, hb⟩
       have H11 : Hid (Below w.heap.size w W11) := ((H9.out.later (below1 W9 _)).later hb).bel
       clear hb H9
       go_wp2
       go_ret
       exact ⟨rfl, H11.out⟩)
end Go.Proofs.YtefgdhoapmikhaaDoor
