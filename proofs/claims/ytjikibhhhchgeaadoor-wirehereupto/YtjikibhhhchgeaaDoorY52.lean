import Derived.Test.YtjikibhhhchgeaaDoorY49
import Derived.Test.YtjikibhhhchgeaaDoorY51
import Derived.Test.YtjikibhhhchgeaaDoorY50
import Derived.Test.YtjikibhhhchgeaaDoorY31
import Derived.Deep.RegionHeld3
import Derived.Deep.MidRow
import Derived.Deep.CutRange
namespace Go.Proofs.YtjikibhhhchgeaaDoor
open Go.RowKit
set_option linter.unusedVariables false
set_option linter.unusedSimpArgs false
set_option maxRecDepth 100000
theorem built48 (wide : Bool) : Tryd.prog.built 48 [(6, .bool wide)] = some (bod0 wide).cells := by kernel_rfl
theorem wpList_buildB {wide : Bool} {ops : Array Oper} {rest : List Oper} {o : Oper} {a : Act} {w : World} {Q : Exit → Act → World → Prop} (hg : o.guard = none) (parts : Array (Nat × Operand)) (ho : o.op = .build 48 parts) (hp : (parts.map fun (i, x) => (i, a.eval x)).toList = [(6, .bool wide)])
    (h : wpList Tryd.prog ops Q rest (a.put o.dst (.agg (bod0 wide).cells)) w) : wpList Tryd.prog ops Q (o :: rest) a w :=
  wpList_build hg 48 parts ho (by rw [hp, built48]; rfl) (by rw [hp, built48]; exact h)
set_option maxHeartbeats 8000000 in
theorem wireHere_any (ao : Option Addr) (cap n : Nat) (l : List Nat) (placed wide : Bool) (w : World) (h : BRow w ao cap l) (hn : l.length = n) (hl1 : l.length ≤ 1048576) (hT : Tabs w) (hTb : Tb w) :
    Calls Tryd.prog 5 #[.slice ao n cap, .bool placed, .bool wide] w fun e w' => e = .returned (.bool true) ∧ Below w.heap.size w w' := by
  have HR : Hid (BRow w ao cap l) := h
  have HN : Hid (l.length = n) := hn
  have HL : Hid (l.length ≤ 1048576) := hl1
  have HT : Hid (Tabs w) := hT
  have HTb : Hid (Tb w) := hTb
  have HNum : Hid (∀ (e : Int) (w : World), Calls Tryd.prog 12 #[.int .i64 e] w fun r w' => r = .returned (.int .i64 e) ∧ w' = w) := num_any
  have HX0 : Hid (∀ o1 o2, o1 = Obj.cells (bod0 wide).cells 48 → o2 = Obj.cells ([0, 0, 0, 0, 0, 0, 0, 0].map (fun e : Nat => Value.int .i64 (e : Int))).toArray 81 → Hx w ((w.alloc o1).alloc o2) w.heap.size (w.heap.size + 1) (bod0 wide) [0, 0, 0, 0, 0, 0, 0, 0]) := fun o1 o2 e1 e2 => by
    subst e1; subst e2
    have h1 := mkb2 w (bod0 wide).cells ([0, 0, 0, 0, 0, 0, 0, 0].map (fun e : Nat => Value.int .i64 (e : Int))).toArray 48 81
    exact ⟨h1.bel, bod0_ok wide _, bod0_far wide _ _, h1.a, h1.b, Nat.le_refl _, by omega⟩
  clear h hn hl1 hT hTb
  go_enter Tryd.func5, Tryd.ntmps5
  go_upto_region 1 with fail
  refine wp_region_list ?_
  simp only []
  refine wpList_plain rfl (fun K hK => ?_)
  go_simp
  refine hK _ _ ?_
  clear hK K
  refine wpList_buildB (wide := wide) rfl _ rfl ?hp ?_
  case hp => first | rfl | (simp; done) | (simp [Act.eval]; done) | (simp; rfl)
  simp only [Act.put, List.setIfInBounds_toArray, List.set_cons_zero, List.set_cons_succ]
  refine wpList_plain rfl (fun K hK => ?_)
  go_simp
  refine hK _ _ ?_
  clear hK K
  refine wpList_store_mid rfl 48 _ _ rfl w.heap.size 0 (bod0 wide).cells rfl rfl (there_box (heap_new w _) (Nat.le_refl 27)) (by kernel_rfl) (by cases wide <;> kernel_rfl) ?_
  change wpList _ _ _ [] _ ((w.alloc (Obj.cells (bod0 false).cells 48)).setCells w.heap.size 0 (bod0 wide).cells.toList)
  have h1 := heap_new w (Obj.cells (bod0 false).cells 48)
  obtain ⟨h2, h3⟩ := put_list (bod0 wide).cells.toList 0 _ _ h1 (Nat.le_refl 27)
  rw [setA_all _ _ (show (bod0 wide).cells.size = (bod0 false).cells.size from rfl)] at h2
  have h5 : Below w.heap.size w ((w.alloc (Obj.cells (bod0 false).cells 48)).setCells w.heap.size 0 (bod0 wide).cells.toList) := (below1 w _).trans (h3.below (below1 w _).size (fun g hg e => by omega))
  have h6 : ((w.alloc (Obj.cells (bod0 false).cells 48)).setCells w.heap.size 0 (bod0 wide).cells.toList).heap.size = w.heap.size + 1 := by rw [setCells_size]; simp
  have HA : Hid _ := And.intro h2 (And.intro h5 h6)
  clear h1 h2 h3 h5 h6
  revert HA
  generalize hG : (w.alloc (Obj.cells (bod0 false).cells 48)).setCells w.heap.size 0 (bod0 wide).cells.toList = W1
  intro HA
  clear hG
  go_wp2_with fail
  have HX : Hid (Hx w (W1.alloc (Obj.cells ([0, 0, 0, 0, 0, 0, 0, 0].map (fun e : Nat => Value.int .i64 (e : Int))).toArray 81)) w.heap.size W1.heap.size (bod0 wide) [0, 0, 0, 0, 0, 0, 0, 0]) := by
    have hb := below1 W1 (Obj.cells ([0, 0, 0, 0, 0, 0, 0, 0].map (fun e : Nat => Value.int .i64 (e : Int))).toArray 81)
    exact ⟨HA.out.2.1.trans (hb.mono HA.out.2.1.size), bod0_ok wide _, bod0_far wide _ _, box_later HA.out.1 hb, heap_new W1 _, Nat.le_refl _, by have := HA.out.2.2; omega⟩
  clear HA HX0
  obtain ⟨V0, hV0⟩ : ∃ V, V = W1.alloc (Obj.cells ([0, 0, 0, 0, 0, 0, 0, 0].map (fun e : Nat => Value.int .i64 (e : Int))).toArray 81) := ⟨_, rfl⟩
  rw [← hV0] at HX
  change Calls _ _ _ (W1.alloc (Obj.cells ([0, 0, 0, 0, 0, 0, 0, 0].map (fun e : Nat => Value.int .i64 (e : Int))).toArray 81)) _
  rw [← hV0]
  clear hV0
  generalize W1.heap.size = ge at *
  have hlt : w.heap.size < ge ∧ ge < V0.heap.size := ⟨HX.out.hg, block_lt HX.out.be⟩
  have hl1 := HL.out
  refine Calls.mono (un_info ao cap n l V0 (HR.out.later HX.out.bel) HN.out (HT.out.later HX.out.bel)) ?_
  rintro e W2 ⟨k0, sz0, fl0, s0, mn0, pf0, mx0, da0, dn0, dc0, d0, er0, rfl, hd, hrow, hfr, hb2, hE, hbd, hH⟩
  have HX2 : Hid (Hx w W2 w.heap.size ge (bod0 wide) [0, 0, 0, 0, 0, 0, 0, 0]) := HX.out.later hb2
  have HY : Hid (Hx w ((W2.setCells w.heap.size 0 [.int .u16 (k0 : Int), .int .u64 (sz0 : Int), .int .u16 (fl0 : Int), .string s0, .int .u32 (mn0 : Int), .int .u32 (pf0 : Int), .int .u32 (mx0 : Int), .slice da0 dn0 dc0]).setCell ⟨ge, 0, none⟩ (.int .i64 (er0 : Int))) w.heap.size ge { k := k0, sz := sz0, fl := fl0, s1 := s0, mn := mn0, pf := pf0, mx := mx0, a1 := da0, n1 := dn0, c1 := dc0, d1 := d0, s2 := ⟨#[]⟩, a2 := none, n2 := 0, c2 := 0, ks := [], s3 := ⟨#[]⟩, a3 := none, n3 := 0, c3 := 0, qs := [], mc := 0, s4 := ⟨#[]⟩, s5 := ⟨#[]⟩, a5 := none, n5 := 0, c5 := 0, m5 := [], cx := 0, a6 := none, n6 := 0, c6 := 0, rs := [], wide := wide, ec := 0, s7 := ⟨#[]⟩, pl := false, ea := 0, off := 0, a8 := none, n8 := 0, c8 := 0, m8 := [], ho := 0, ln := 0 : Bod } [er0, 0, 0, 0, 0, 0, 0, 0]) := HX2.out.put 0 [.int .u16 (k0 : Int), .int .u64 (sz0 : Int), .int .u16 (fl0 : Int), .string s0, .int .u32 (mn0 : Int), .int .u32 (pf0 : Int), .int .u32 (mx0 : Int), .slice da0 dn0 dc0] 0 er0 (by simp) (by show _ ≤ _; simp) { HX2.out.ok with hk := hbd.1, hsz := hbd.2.1, hfl := hbd.2.2.1, h1 := Nat.le_trans hbd.2.2.2.1 (Nat.le_trans hl1 (by decide)), hmn := hbd.2.2.2.2.1, hpf := hbd.2.2.2.2.2.1, hmx := hbd.2.2.2.2.2.2.1, r1 := hrow, l1 := hd, b1 := Nat.le_trans hbd.2.2.2.2.2.2.2 hl1 } { HX2.out.far with f1 := fun ad e => by have h9 := hfr ad e; omega } (by rw [setA_mid _ _ _ (by show _ ≤ 27; simp)]; rfl)
  have hec := HX2.out.eCell 0 [.int .u16 (k0 : Int), .int .u64 (sz0 : Int), .int .u16 (fl0 : Int), .string s0, .int .u32 (mn0 : Int), .int .u32 (pf0 : Int), .int .u32 (mx0 : Int), .slice da0 dn0 dc0] (by show _ ≤ _; simp) 0 0 rfl
  have ec : ((((((((W2.setCell ⟨w.heap.size, 0, none⟩ (.int .u16 (k0 : Int))).setCell ⟨w.heap.size, 1, none⟩ (.int .u64 (sz0 : Int))).setCell ⟨w.heap.size, 2, none⟩ (.int .u16 (fl0 : Int))).setCell ⟨w.heap.size, 3, none⟩ (.string s0)).setCell ⟨w.heap.size, 4, none⟩ (.int .u32 (mn0 : Int))).setCell ⟨w.heap.size, 5, none⟩ (.int .u32 (pf0 : Int))).setCell ⟨w.heap.size, 6, none⟩ (.int .u32 (mx0 : Int))).setCell ⟨w.heap.size, 7, none⟩ (.slice da0 dn0 dc0)).cell? ⟨ge, 0, none⟩ = some (.int .i64 0) := hec.1
  have ef : ((((((((W2.setCell ⟨w.heap.size, 0, none⟩ (.int .u16 (k0 : Int))).setCell ⟨w.heap.size, 1, none⟩ (.int .u64 (sz0 : Int))).setCell ⟨w.heap.size, 2, none⟩ (.int .u16 (fl0 : Int))).setCell ⟨w.heap.size, 3, none⟩ (.string s0)).setCell ⟨w.heap.size, 4, none⟩ (.int .u32 (mn0 : Int))).setCell ⟨w.heap.size, 5, none⟩ (.int .u32 (pf0 : Int))).setCell ⟨w.heap.size, 6, none⟩ (.int .u32 (mx0 : Int))).setCell ⟨w.heap.size, 7, none⟩ (.slice da0 dn0 dc0)).frozen? ⟨ge, 0, none⟩ = false := hec.2
  have HF0 : Hid _ := And.intro (show E3 er0 from hE.elim (fun h => .inl h) (fun h => .inr (.inl h))) hH
  have za0 : W2.cell? ⟨w.heap.size, 0, none⟩ = some (.int .u16 ((0 : Nat) : Int)) := (blk_at HX2.out.bx 0).trans rfl
  have ya0 : W2.frozen? ⟨w.heap.size, 0, none⟩ = false := blk_free HX2.out.bx 0
  have za1 : W2.cell? ⟨w.heap.size, 1, none⟩ = some (.int .u64 ((0 : Nat) : Int)) := (blk_at HX2.out.bx 1).trans rfl
  have ya1 : W2.frozen? ⟨w.heap.size, 1, none⟩ = false := blk_free HX2.out.bx 1
  have za2 : W2.cell? ⟨w.heap.size, 2, none⟩ = some (.int .u16 ((0 : Nat) : Int)) := (blk_at HX2.out.bx 2).trans rfl
  have ya2 : W2.frozen? ⟨w.heap.size, 2, none⟩ = false := blk_free HX2.out.bx 2
  have za3 : W2.cell? ⟨w.heap.size, 3, none⟩ = some (.string ⟨#[]⟩) := (blk_at HX2.out.bx 3).trans rfl
  have ya3 : W2.frozen? ⟨w.heap.size, 3, none⟩ = false := blk_free HX2.out.bx 3
  have za4 : W2.cell? ⟨w.heap.size, 4, none⟩ = some (.int .u32 ((0 : Nat) : Int)) := (blk_at HX2.out.bx 4).trans rfl
  have ya4 : W2.frozen? ⟨w.heap.size, 4, none⟩ = false := blk_free HX2.out.bx 4
  have za5 : W2.cell? ⟨w.heap.size, 5, none⟩ = some (.int .u32 ((0 : Nat) : Int)) := (blk_at HX2.out.bx 5).trans rfl
  have ya5 : W2.frozen? ⟨w.heap.size, 5, none⟩ = false := blk_free HX2.out.bx 5
  have za6 : W2.cell? ⟨w.heap.size, 6, none⟩ = some (.int .u32 ((0 : Nat) : Int)) := (blk_at HX2.out.bx 6).trans rfl
  have ya6 : W2.frozen? ⟨w.heap.size, 6, none⟩ = false := blk_free HX2.out.bx 6
  have za7 : W2.cell? ⟨w.heap.size, 7, none⟩ = some (.slice none 0 0) := (blk_at HX2.out.bx 7).trans rfl
  have ya7 : W2.frozen? ⟨w.heap.size, 7, none⟩ = false := blk_free HX2.out.bx 7
  clear HX HX2 hec hE hbd hH hb2 hlt hl1 hd hrow hfr
  obtain ⟨V1, hV⟩ : ∃ V, V = (W2.setCells w.heap.size 0 [.int .u16 (k0 : Int), .int .u64 (sz0 : Int), .int .u16 (fl0 : Int), .string s0, .int .u32 (mn0 : Int), .int .u32 (pf0 : Int), .int .u32 (mx0 : Int), .slice da0 dn0 dc0]).setCell ⟨ge, 0, none⟩ (.int .i64 (er0 : Int)) := ⟨_, rfl⟩
  rw [← hV] at HY
  have HX : Hid _ := HY.out
  clear HY
  go_wp2_with fail
  change Calls _ _ _ ((W2.setCells w.heap.size 0 [.int .u16 (k0 : Int), .int .u64 (sz0 : Int), .int .u16 (fl0 : Int), .string s0, .int .u32 (mn0 : Int), .int .u32 (pf0 : Int), .int .u32 (mx0 : Int), .slice da0 dn0 dc0]).setCell ⟨ge, 0, none⟩ (.int .i64 (er0 : Int))) _
  rw [← hV]
  clear hV ec ef za0 ya0 za1 ya1 za2 ya2 za3 ya3 za4 ya4 za5 ya5 za6 ya6 za7 ya7
  have hlt : w.heap.size < ge ∧ ge < V1.heap.size := ⟨HX.out.hg, block_lt HX.out.be⟩
  have hl1 := HL.out
  refine Calls.mono (un_ask ao cap n l V1 (HR.out.later HX.out.bel) HN.out (HT.out.later HX.out.bel)) ?_
  rintro e W2 ⟨sb1, ia1, m1, ic1, ks1, er1, rfl, hd, hrow, hfr, hb2, hE, hbd, hH⟩
  have HX2 : Hid (Hx w W2 w.heap.size ge { k := k0, sz := sz0, fl := fl0, s1 := s0, mn := mn0, pf := pf0, mx := mx0, a1 := da0, n1 := dn0, c1 := dc0, d1 := d0, s2 := ⟨#[]⟩, a2 := none, n2 := 0, c2 := 0, ks := [], s3 := ⟨#[]⟩, a3 := none, n3 := 0, c3 := 0, qs := [], mc := 0, s4 := ⟨#[]⟩, s5 := ⟨#[]⟩, a5 := none, n5 := 0, c5 := 0, m5 := [], cx := 0, a6 := none, n6 := 0, c6 := 0, rs := [], wide := wide, ec := 0, s7 := ⟨#[]⟩, pl := false, ea := 0, off := 0, a8 := none, n8 := 0, c8 := 0, m8 := [], ho := 0, ln := 0 : Bod } [er0, 0, 0, 0, 0, 0, 0, 0]) := HX.out.later hb2
  have HY : Hid (Hx w ((W2.setCells w.heap.size 8 [.string sb1, .slice ia1 m1 ic1]).setCell ⟨ge, 1, none⟩ (.int .i64 (er1 : Int))) w.heap.size ge { k := k0, sz := sz0, fl := fl0, s1 := s0, mn := mn0, pf := pf0, mx := mx0, a1 := da0, n1 := dn0, c1 := dc0, d1 := d0, s2 := sb1, a2 := ia1, n2 := m1, c2 := ic1, ks := ks1, s3 := ⟨#[]⟩, a3 := none, n3 := 0, c3 := 0, qs := [], mc := 0, s4 := ⟨#[]⟩, s5 := ⟨#[]⟩, a5 := none, n5 := 0, c5 := 0, m5 := [], cx := 0, a6 := none, n6 := 0, c6 := 0, rs := [], wide := wide, ec := 0, s7 := ⟨#[]⟩, pl := false, ea := 0, off := 0, a8 := none, n8 := 0, c8 := 0, m8 := [], ho := 0, ln := 0 : Bod } [er0, er1, 0, 0, 0, 0, 0, 0]) := HX2.out.put 8 [.string sb1, .slice ia1 m1 ic1] 1 er1 (by simp) (by show _ ≤ _; simp) { HX2.out.ok with h2 := Nat.le_trans hbd (by decide), r2 := hrow, l2 := hd } { HX2.out.far with f2 := fun ad e => by have h9 := hfr ad e; omega } (by rw [setA_mid _ _ _ (by show _ ≤ 27; simp)]; rfl)
  have hec := HX2.out.eCell 8 [.string sb1, .slice ia1 m1 ic1] (by show _ ≤ _; simp) 1 0 rfl
  have ec : ((W2.setCell ⟨w.heap.size, 8, none⟩ (.string sb1)).setCell ⟨w.heap.size, 9, none⟩ (.slice ia1 m1 ic1)).cell? ⟨ge, 1, none⟩ = some (.int .i64 0) := hec.1
  have ef : ((W2.setCell ⟨w.heap.size, 8, none⟩ (.string sb1)).setCell ⟨w.heap.size, 9, none⟩ (.slice ia1 m1 ic1)).frozen? ⟨ge, 1, none⟩ = false := hec.2
  have HF1 : Hid _ := And.intro hE hH
  have za0 : W2.cell? ⟨w.heap.size, 8, none⟩ = some (.string ⟨#[]⟩) := (blk_at HX2.out.bx 8).trans rfl
  have ya0 : W2.frozen? ⟨w.heap.size, 8, none⟩ = false := blk_free HX2.out.bx 8
  have za1 : W2.cell? ⟨w.heap.size, 9, none⟩ = some (.slice none 0 0) := (blk_at HX2.out.bx 9).trans rfl
  have ya1 : W2.frozen? ⟨w.heap.size, 9, none⟩ = false := blk_free HX2.out.bx 9
  clear HX HX2 hec hE hbd hH hb2 hlt hl1 hd hrow hfr
  obtain ⟨V2, hV⟩ : ∃ V, V = (W2.setCells w.heap.size 8 [.string sb1, .slice ia1 m1 ic1]).setCell ⟨ge, 1, none⟩ (.int .i64 (er1 : Int)) := ⟨_, rfl⟩
  rw [← hV] at HY
  have HX : Hid _ := HY.out
  clear HY
  go_wp2_with fail
  change Calls _ _ _ ((W2.setCells w.heap.size 8 [.string sb1, .slice ia1 m1 ic1]).setCell ⟨ge, 1, none⟩ (.int .i64 (er1 : Int))) _
  rw [← hV]
  clear hV ec ef za0 ya0 za1 ya1
  have hlt : w.heap.size < ge ∧ ge < V2.heap.size := ⟨HX.out.hg, block_lt HX.out.be⟩
  have hl1 := HL.out
  refine Calls.mono (un_metas ao cap n l V2 (HR.out.later HX.out.bel) HN.out (HT.out.later HX.out.bel)) ?_
  rintro e W2 ⟨sb2, ia2, m2, ic2, qs2, er2, rfl, hd, hrow, hfr, hb2, hE, hbd, hH⟩
  have HX2 : Hid (Hx w W2 w.heap.size ge { k := k0, sz := sz0, fl := fl0, s1 := s0, mn := mn0, pf := pf0, mx := mx0, a1 := da0, n1 := dn0, c1 := dc0, d1 := d0, s2 := sb1, a2 := ia1, n2 := m1, c2 := ic1, ks := ks1, s3 := ⟨#[]⟩, a3 := none, n3 := 0, c3 := 0, qs := [], mc := 0, s4 := ⟨#[]⟩, s5 := ⟨#[]⟩, a5 := none, n5 := 0, c5 := 0, m5 := [], cx := 0, a6 := none, n6 := 0, c6 := 0, rs := [], wide := wide, ec := 0, s7 := ⟨#[]⟩, pl := false, ea := 0, off := 0, a8 := none, n8 := 0, c8 := 0, m8 := [], ho := 0, ln := 0 : Bod } [er0, er1, 0, 0, 0, 0, 0, 0]) := HX.out.later hb2
  have HY : Hid (Hx w ((W2.setCells w.heap.size 10 [.string sb2, .slice ia2 m2 ic2]).setCell ⟨ge, 2, none⟩ (.int .i64 (er2 : Int))) w.heap.size ge { k := k0, sz := sz0, fl := fl0, s1 := s0, mn := mn0, pf := pf0, mx := mx0, a1 := da0, n1 := dn0, c1 := dc0, d1 := d0, s2 := sb1, a2 := ia1, n2 := m1, c2 := ic1, ks := ks1, s3 := sb2, a3 := ia2, n3 := m2, c3 := ic2, qs := qs2, mc := 0, s4 := ⟨#[]⟩, s5 := ⟨#[]⟩, a5 := none, n5 := 0, c5 := 0, m5 := [], cx := 0, a6 := none, n6 := 0, c6 := 0, rs := [], wide := wide, ec := 0, s7 := ⟨#[]⟩, pl := false, ea := 0, off := 0, a8 := none, n8 := 0, c8 := 0, m8 := [], ho := 0, ln := 0 : Bod } [er0, er1, er2, 0, 0, 0, 0, 0]) := HX2.out.put 10 [.string sb2, .slice ia2 m2 ic2] 2 er2 (by simp) (by show _ ≤ _; simp) { HX2.out.ok with h3 := Nat.le_trans hbd.1 (by decide), r3 := hrow, l3 := hd, b3 := Nat.le_trans hbd.2 (by decide) } { HX2.out.far with f3 := fun ad e => by have h9 := hfr ad e; omega } (by rw [setA_mid _ _ _ (by show _ ≤ 27; simp)]; rfl)
  have hec := HX2.out.eCell 10 [.string sb2, .slice ia2 m2 ic2] (by show _ ≤ _; simp) 2 0 rfl
  have ec : ((W2.setCell ⟨w.heap.size, 10, none⟩ (.string sb2)).setCell ⟨w.heap.size, 11, none⟩ (.slice ia2 m2 ic2)).cell? ⟨ge, 2, none⟩ = some (.int .i64 0) := hec.1
  have ef : ((W2.setCell ⟨w.heap.size, 10, none⟩ (.string sb2)).setCell ⟨w.heap.size, 11, none⟩ (.slice ia2 m2 ic2)).frozen? ⟨ge, 2, none⟩ = false := hec.2
  have HF2 : Hid _ := And.intro hE hH
  have za0 : W2.cell? ⟨w.heap.size, 10, none⟩ = some (.string ⟨#[]⟩) := (blk_at HX2.out.bx 10).trans rfl
  have ya0 : W2.frozen? ⟨w.heap.size, 10, none⟩ = false := blk_free HX2.out.bx 10
  have za1 : W2.cell? ⟨w.heap.size, 11, none⟩ = some (.slice none 0 0) := (blk_at HX2.out.bx 11).trans rfl
  have ya1 : W2.frozen? ⟨w.heap.size, 11, none⟩ = false := blk_free HX2.out.bx 11
  clear HX HX2 hec hE hbd hH hb2 hlt hl1 hd hrow hfr
  obtain ⟨V3, hV⟩ : ∃ V, V = (W2.setCells w.heap.size 10 [.string sb2, .slice ia2 m2 ic2]).setCell ⟨ge, 2, none⟩ (.int .i64 (er2 : Int)) := ⟨_, rfl⟩
  rw [← hV] at HY
  have HX : Hid _ := HY.out
  clear HY
  go_wp2_with fail
  change Calls _ _ _ ((W2.setCells w.heap.size 10 [.string sb2, .slice ia2 m2 ic2]).setCell ⟨ge, 2, none⟩ (.int .i64 (er2 : Int))) _
  rw [← hV]
  clear hV ec ef za0 ya0 za1 ya1
  have hlt : w.heap.size < ge ∧ ge < V3.heap.size := ⟨HX.out.hg, block_lt HX.out.be⟩
  have hl1 := HL.out
  refine Calls.mono (un_meta ao cap n l V3 (HR.out.later HX.out.bel) HN.out (HT.out.later HX.out.bel)) ?_
  rintro e W2 ⟨cc3, sb3, er3, rfl, hb2, hE, hbd, hH⟩
  have HX2 : Hid (Hx w W2 w.heap.size ge { k := k0, sz := sz0, fl := fl0, s1 := s0, mn := mn0, pf := pf0, mx := mx0, a1 := da0, n1 := dn0, c1 := dc0, d1 := d0, s2 := sb1, a2 := ia1, n2 := m1, c2 := ic1, ks := ks1, s3 := sb2, a3 := ia2, n3 := m2, c3 := ic2, qs := qs2, mc := 0, s4 := ⟨#[]⟩, s5 := ⟨#[]⟩, a5 := none, n5 := 0, c5 := 0, m5 := [], cx := 0, a6 := none, n6 := 0, c6 := 0, rs := [], wide := wide, ec := 0, s7 := ⟨#[]⟩, pl := false, ea := 0, off := 0, a8 := none, n8 := 0, c8 := 0, m8 := [], ho := 0, ln := 0 : Bod } [er0, er1, er2, 0, 0, 0, 0, 0]) := HX.out.later hb2
  have HY : Hid (Hx w ((W2.setCells w.heap.size 12 [.int .u32 (cc3 : Int), .string sb3]).setCell ⟨ge, 3, none⟩ (.int .i64 (er3 : Int))) w.heap.size ge { k := k0, sz := sz0, fl := fl0, s1 := s0, mn := mn0, pf := pf0, mx := mx0, a1 := da0, n1 := dn0, c1 := dc0, d1 := d0, s2 := sb1, a2 := ia1, n2 := m1, c2 := ic1, ks := ks1, s3 := sb2, a3 := ia2, n3 := m2, c3 := ic2, qs := qs2, mc := cc3, s4 := sb3, s5 := ⟨#[]⟩, a5 := none, n5 := 0, c5 := 0, m5 := [], cx := 0, a6 := none, n6 := 0, c6 := 0, rs := [], wide := wide, ec := 0, s7 := ⟨#[]⟩, pl := false, ea := 0, off := 0, a8 := none, n8 := 0, c8 := 0, m8 := [], ho := 0, ln := 0 : Bod } [er0, er1, er2, er3, 0, 0, 0, 0]) := HX2.out.put 12 [.int .u32 (cc3 : Int), .string sb3] 3 er3 (by simp) (by show _ ≤ _; simp) { HX2.out.ok with hmc := hbd.1, h4 := Nat.le_trans hbd.2 (Nat.le_trans hl1 (by decide)) } ⟨HX2.out.far.f1, HX2.out.far.f2, HX2.out.far.f3, HX2.out.far.f5, HX2.out.far.f6, HX2.out.far.f8⟩ (by rw [setA_mid _ _ _ (by show _ ≤ 27; simp)]; rfl)
  have hec := HX2.out.eCell 12 [.int .u32 (cc3 : Int), .string sb3] (by show _ ≤ _; simp) 3 0 rfl
  have ec : ((W2.setCell ⟨w.heap.size, 12, none⟩ (.int .u32 (cc3 : Int))).setCell ⟨w.heap.size, 13, none⟩ (.string sb3)).cell? ⟨ge, 3, none⟩ = some (.int .i64 0) := hec.1
  have ef : ((W2.setCell ⟨w.heap.size, 12, none⟩ (.int .u32 (cc3 : Int))).setCell ⟨w.heap.size, 13, none⟩ (.string sb3)).frozen? ⟨ge, 3, none⟩ = false := hec.2
  have HF3 : Hid _ := And.intro hE hH
  have za0 : W2.cell? ⟨w.heap.size, 12, none⟩ = some (.int .u32 ((0 : Nat) : Int)) := (blk_at HX2.out.bx 12).trans rfl
  have ya0 : W2.frozen? ⟨w.heap.size, 12, none⟩ = false := blk_free HX2.out.bx 12
  have za1 : W2.cell? ⟨w.heap.size, 13, none⟩ = some (.string ⟨#[]⟩) := (blk_at HX2.out.bx 13).trans rfl
  have ya1 : W2.frozen? ⟨w.heap.size, 13, none⟩ = false := blk_free HX2.out.bx 13
  clear HX HX2 hec hE hbd hH hb2 hlt hl1 
  obtain ⟨V4, hV⟩ : ∃ V, V = (W2.setCells w.heap.size 12 [.int .u32 (cc3 : Int), .string sb3]).setCell ⟨ge, 3, none⟩ (.int .i64 (er3 : Int)) := ⟨_, rfl⟩
  rw [← hV] at HY
  have HX : Hid _ := HY.out
  clear HY
  go_wp2_with fail
  change Calls _ _ _ ((W2.setCells w.heap.size 12 [.int .u32 (cc3 : Int), .string sb3]).setCell ⟨ge, 3, none⟩ (.int .i64 (er3 : Int))) _
  rw [← hV]
  clear hV ec ef za0 ya0 za1 ya1
  have hlt : w.heap.size < ge ∧ ge < V4.heap.size := ⟨HX.out.hg, block_lt HX.out.be⟩
  have hl1 := HL.out
  refine Calls.mono (un_server ao cap n l V4 (HR.out.later HX.out.bel) HN.out (HT.out.later HX.out.bel)) ?_
  rintro e W2 ⟨sb4, da4, dn4, dc4, mm4, er4, rfl, hd, hrow, hfr, hb2, hE, hbd, hH⟩
  have HX2 : Hid (Hx w W2 w.heap.size ge { k := k0, sz := sz0, fl := fl0, s1 := s0, mn := mn0, pf := pf0, mx := mx0, a1 := da0, n1 := dn0, c1 := dc0, d1 := d0, s2 := sb1, a2 := ia1, n2 := m1, c2 := ic1, ks := ks1, s3 := sb2, a3 := ia2, n3 := m2, c3 := ic2, qs := qs2, mc := cc3, s4 := sb3, s5 := ⟨#[]⟩, a5 := none, n5 := 0, c5 := 0, m5 := [], cx := 0, a6 := none, n6 := 0, c6 := 0, rs := [], wide := wide, ec := 0, s7 := ⟨#[]⟩, pl := false, ea := 0, off := 0, a8 := none, n8 := 0, c8 := 0, m8 := [], ho := 0, ln := 0 : Bod } [er0, er1, er2, er3, 0, 0, 0, 0]) := HX.out.later hb2
  have HY : Hid (Hx w ((W2.setCells w.heap.size 14 [.string sb4, .slice da4 dn4 dc4]).setCell ⟨ge, 4, none⟩ (.int .i64 (er4 : Int))) w.heap.size ge { k := k0, sz := sz0, fl := fl0, s1 := s0, mn := mn0, pf := pf0, mx := mx0, a1 := da0, n1 := dn0, c1 := dc0, d1 := d0, s2 := sb1, a2 := ia1, n2 := m1, c2 := ic1, ks := ks1, s3 := sb2, a3 := ia2, n3 := m2, c3 := ic2, qs := qs2, mc := cc3, s4 := sb3, s5 := sb4, a5 := da4, n5 := dn4, c5 := dc4, m5 := mm4, cx := 0, a6 := none, n6 := 0, c6 := 0, rs := [], wide := wide, ec := 0, s7 := ⟨#[]⟩, pl := false, ea := 0, off := 0, a8 := none, n8 := 0, c8 := 0, m8 := [], ho := 0, ln := 0 : Bod } [er0, er1, er2, er3, er4, 0, 0, 0]) := HX2.out.put 14 [.string sb4, .slice da4 dn4 dc4] 4 er4 (by simp) (by show _ ≤ _; simp) { HX2.out.ok with h5 := Nat.le_trans hbd.1 (by decide), r5 := hrow, l5 := hd, b5 := Nat.le_trans hbd.2 hl1 } { HX2.out.far with f5 := fun ad e => by have h9 := hfr ad e; omega } (by rw [setA_mid _ _ _ (by show _ ≤ 27; simp)]; rfl)
  have hec := HX2.out.eCell 14 [.string sb4, .slice da4 dn4 dc4] (by show _ ≤ _; simp) 4 0 rfl
  have ec : ((W2.setCell ⟨w.heap.size, 14, none⟩ (.string sb4)).setCell ⟨w.heap.size, 15, none⟩ (.slice da4 dn4 dc4)).cell? ⟨ge, 4, none⟩ = some (.int .i64 0) := hec.1
  have ef : ((W2.setCell ⟨w.heap.size, 14, none⟩ (.string sb4)).setCell ⟨w.heap.size, 15, none⟩ (.slice da4 dn4 dc4)).frozen? ⟨ge, 4, none⟩ = false := hec.2
  have HF4 : Hid _ := And.intro hE hH
  have za0 : W2.cell? ⟨w.heap.size, 14, none⟩ = some (.string ⟨#[]⟩) := (blk_at HX2.out.bx 14).trans rfl
  have ya0 : W2.frozen? ⟨w.heap.size, 14, none⟩ = false := blk_free HX2.out.bx 14
  have za1 : W2.cell? ⟨w.heap.size, 15, none⟩ = some (.slice none 0 0) := (blk_at HX2.out.bx 15).trans rfl
  have ya1 : W2.frozen? ⟨w.heap.size, 15, none⟩ = false := blk_free HX2.out.bx 15
  clear HX HX2 hec hE hbd hH hb2 hlt hl1 hd hrow hfr
  obtain ⟨V5, hV⟩ : ∃ V, V = (W2.setCells w.heap.size 14 [.string sb4, .slice da4 dn4 dc4]).setCell ⟨ge, 4, none⟩ (.int .i64 (er4 : Int)) := ⟨_, rfl⟩
  rw [← hV] at HY
  have HX : Hid _ := HY.out
  clear HY
  go_wp2_with fail
  change Calls _ _ _ ((W2.setCells w.heap.size 14 [.string sb4, .slice da4 dn4 dc4]).setCell ⟨ge, 4, none⟩ (.int .i64 (er4 : Int))) _
  rw [← hV]
  clear hV ec ef za0 ya0 za1 ya1
  have hlt : w.heap.size < ge ∧ ge < V5.heap.size := ⟨HX.out.hg, block_lt HX.out.be⟩
  have hl1 := HL.out
  refine Calls.mono (un_status wide ao cap n l V5 (HR.out.later HX.out.bel) HN.out HL.out) ?_
  rintro e W2 ⟨cx5, ra5, rn5, rc5, rs5, er5, rfl, hd, hrow, hfr, hb2, hE, hbd, hH⟩
  have HX2 : Hid (Hx w W2 w.heap.size ge { k := k0, sz := sz0, fl := fl0, s1 := s0, mn := mn0, pf := pf0, mx := mx0, a1 := da0, n1 := dn0, c1 := dc0, d1 := d0, s2 := sb1, a2 := ia1, n2 := m1, c2 := ic1, ks := ks1, s3 := sb2, a3 := ia2, n3 := m2, c3 := ic2, qs := qs2, mc := cc3, s4 := sb3, s5 := sb4, a5 := da4, n5 := dn4, c5 := dc4, m5 := mm4, cx := 0, a6 := none, n6 := 0, c6 := 0, rs := [], wide := wide, ec := 0, s7 := ⟨#[]⟩, pl := false, ea := 0, off := 0, a8 := none, n8 := 0, c8 := 0, m8 := [], ho := 0, ln := 0 : Bod } [er0, er1, er2, er3, er4, 0, 0, 0]) := HX.out.later hb2
  have HY : Hid (Hx w ((W2.setCells w.heap.size 16 [.int .u32 (cx5 : Int), .slice ra5 rn5 rc5]).setCell ⟨ge, 5, none⟩ (.int .i64 (er5 : Int))) w.heap.size ge { k := k0, sz := sz0, fl := fl0, s1 := s0, mn := mn0, pf := pf0, mx := mx0, a1 := da0, n1 := dn0, c1 := dc0, d1 := d0, s2 := sb1, a2 := ia1, n2 := m1, c2 := ic1, ks := ks1, s3 := sb2, a3 := ia2, n3 := m2, c3 := ic2, qs := qs2, mc := cc3, s4 := sb3, s5 := sb4, a5 := da4, n5 := dn4, c5 := dc4, m5 := mm4, cx := cx5, a6 := ra5, n6 := rn5, c6 := rc5, rs := rs5, wide := wide, ec := 0, s7 := ⟨#[]⟩, pl := false, ea := 0, off := 0, a8 := none, n8 := 0, c8 := 0, m8 := [], ho := 0, ln := 0 : Bod } [er0, er1, er2, er3, er4, er5, 0, 0]) := HX2.out.put 16 [.int .u32 (cx5 : Int), .slice ra5 rn5 rc5] 5 er5 (by simp) (by show _ ≤ _; simp) { HX2.out.ok with hcx := hbd.1, r6 := hrow, l6 := hd, b6 := Nat.le_trans hbd.2 hl1 } { HX2.out.far with f6 := fun ad e => by have h9 := hfr ad e; omega } (by rw [setA_mid _ _ _ (by show _ ≤ 27; simp)]; rfl)
  have hec := HX2.out.eCell 16 [.int .u32 (cx5 : Int), .slice ra5 rn5 rc5] (by show _ ≤ _; simp) 5 0 rfl
  have ec : ((W2.setCell ⟨w.heap.size, 16, none⟩ (.int .u32 (cx5 : Int))).setCell ⟨w.heap.size, 17, none⟩ (.slice ra5 rn5 rc5)).cell? ⟨ge, 5, none⟩ = some (.int .i64 0) := hec.1
  have ef : ((W2.setCell ⟨w.heap.size, 16, none⟩ (.int .u32 (cx5 : Int))).setCell ⟨w.heap.size, 17, none⟩ (.slice ra5 rn5 rc5)).frozen? ⟨ge, 5, none⟩ = false := hec.2
  have HF5 : Hid _ := And.intro hE hH
  have za0 : W2.cell? ⟨w.heap.size, 16, none⟩ = some (.int .u32 ((0 : Nat) : Int)) := (blk_at HX2.out.bx 16).trans rfl
  have ya0 : W2.frozen? ⟨w.heap.size, 16, none⟩ = false := blk_free HX2.out.bx 16
  have za1 : W2.cell? ⟨w.heap.size, 17, none⟩ = some (.slice none 0 0) := (blk_at HX2.out.bx 17).trans rfl
  have ya1 : W2.frozen? ⟨w.heap.size, 17, none⟩ = false := blk_free HX2.out.bx 17
  clear HX HX2 hec hE hbd hH hb2 hlt hl1 hd hrow hfr
  obtain ⟨V6, hV⟩ : ∃ V, V = (W2.setCells w.heap.size 16 [.int .u32 (cx5 : Int), .slice ra5 rn5 rc5]).setCell ⟨ge, 5, none⟩ (.int .i64 (er5 : Int)) := ⟨_, rfl⟩
  rw [← hV] at HY
  have HX : Hid _ := HY.out
  clear HY
  go_wp2_with fail
  change Calls _ _ _ ((W2.setCells w.heap.size 16 [.int .u32 (cx5 : Int), .slice ra5 rn5 rc5]).setCell ⟨ge, 5, none⟩ (.int .i64 (er5 : Int))) _
  rw [← hV]
  clear hV ec ef za0 ya0 za1 ya1
  have hlt : w.heap.size < ge ∧ ge < V6.heap.size := ⟨HX.out.hg, block_lt HX.out.be⟩
  have hl1 := HL.out
  refine Calls.mono (un_error placed ao cap n l V6 (HR.out.later HX.out.bel) HN.out (HT.out.later HX.out.bel)) ?_
  rintro e W2 ⟨cc6, sb6, pl6, aa6, er6, rfl, hb2, hE, hbd, hH⟩
  have HX2 : Hid (Hx w W2 w.heap.size ge { k := k0, sz := sz0, fl := fl0, s1 := s0, mn := mn0, pf := pf0, mx := mx0, a1 := da0, n1 := dn0, c1 := dc0, d1 := d0, s2 := sb1, a2 := ia1, n2 := m1, c2 := ic1, ks := ks1, s3 := sb2, a3 := ia2, n3 := m2, c3 := ic2, qs := qs2, mc := cc3, s4 := sb3, s5 := sb4, a5 := da4, n5 := dn4, c5 := dc4, m5 := mm4, cx := cx5, a6 := ra5, n6 := rn5, c6 := rc5, rs := rs5, wide := wide, ec := 0, s7 := ⟨#[]⟩, pl := false, ea := 0, off := 0, a8 := none, n8 := 0, c8 := 0, m8 := [], ho := 0, ln := 0 : Bod } [er0, er1, er2, er3, er4, er5, 0, 0]) := HX.out.later hb2
  have HY : Hid (Hx w ((W2.setCells w.heap.size 19 [.int .u32 (cc6 : Int), .string sb6, .bool pl6, .int .u64 (aa6 : Int)]).setCell ⟨ge, 6, none⟩ (.int .i64 (er6 : Int))) w.heap.size ge { k := k0, sz := sz0, fl := fl0, s1 := s0, mn := mn0, pf := pf0, mx := mx0, a1 := da0, n1 := dn0, c1 := dc0, d1 := d0, s2 := sb1, a2 := ia1, n2 := m1, c2 := ic1, ks := ks1, s3 := sb2, a3 := ia2, n3 := m2, c3 := ic2, qs := qs2, mc := cc3, s4 := sb3, s5 := sb4, a5 := da4, n5 := dn4, c5 := dc4, m5 := mm4, cx := cx5, a6 := ra5, n6 := rn5, c6 := rc5, rs := rs5, wide := wide, ec := cc6, s7 := sb6, pl := pl6, ea := aa6, off := 0, a8 := none, n8 := 0, c8 := 0, m8 := [], ho := 0, ln := 0 : Bod } [er0, er1, er2, er3, er4, er5, er6, 0]) := HX2.out.put 19 [.int .u32 (cc6 : Int), .string sb6, .bool pl6, .int .u64 (aa6 : Int)] 6 er6 (by simp) (by show _ ≤ _; simp) { HX2.out.ok with hec := hbd.1, h7 := Nat.le_trans hbd.2.1 (Nat.le_trans hl1 (by decide)), hea := hbd.2.2 } ⟨HX2.out.far.f1, HX2.out.far.f2, HX2.out.far.f3, HX2.out.far.f5, HX2.out.far.f6, HX2.out.far.f8⟩ (by rw [setA_mid _ _ _ (by show _ ≤ 27; simp)]; rfl)
  have hec := HX2.out.eCell 19 [.int .u32 (cc6 : Int), .string sb6, .bool pl6, .int .u64 (aa6 : Int)] (by show _ ≤ _; simp) 6 0 rfl
  have ec : ((((W2.setCell ⟨w.heap.size, 19, none⟩ (.int .u32 (cc6 : Int))).setCell ⟨w.heap.size, 20, none⟩ (.string sb6)).setCell ⟨w.heap.size, 21, none⟩ (.bool pl6)).setCell ⟨w.heap.size, 22, none⟩ (.int .u64 (aa6 : Int))).cell? ⟨ge, 6, none⟩ = some (.int .i64 0) := hec.1
  have ef : ((((W2.setCell ⟨w.heap.size, 19, none⟩ (.int .u32 (cc6 : Int))).setCell ⟨w.heap.size, 20, none⟩ (.string sb6)).setCell ⟨w.heap.size, 21, none⟩ (.bool pl6)).setCell ⟨w.heap.size, 22, none⟩ (.int .u64 (aa6 : Int))).frozen? ⟨ge, 6, none⟩ = false := hec.2
  have HF6 : Hid _ := And.intro hE hH
  have za0 : W2.cell? ⟨w.heap.size, 19, none⟩ = some (.int .u32 ((0 : Nat) : Int)) := (blk_at HX2.out.bx 19).trans rfl
  have ya0 : W2.frozen? ⟨w.heap.size, 19, none⟩ = false := blk_free HX2.out.bx 19
  have za1 : W2.cell? ⟨w.heap.size, 20, none⟩ = some (.string ⟨#[]⟩) := (blk_at HX2.out.bx 20).trans rfl
  have ya1 : W2.frozen? ⟨w.heap.size, 20, none⟩ = false := blk_free HX2.out.bx 20
  have za2 : W2.cell? ⟨w.heap.size, 21, none⟩ = some (.bool false) := (blk_at HX2.out.bx 21).trans rfl
  have ya2 : W2.frozen? ⟨w.heap.size, 21, none⟩ = false := blk_free HX2.out.bx 21
  have za3 : W2.cell? ⟨w.heap.size, 22, none⟩ = some (.int .u64 ((0 : Nat) : Int)) := (blk_at HX2.out.bx 22).trans rfl
  have ya3 : W2.frozen? ⟨w.heap.size, 22, none⟩ = false := blk_free HX2.out.bx 22
  clear HX HX2 hec hE hbd hH hb2 hlt hl1 
  obtain ⟨V7, hV⟩ : ∃ V, V = (W2.setCells w.heap.size 19 [.int .u32 (cc6 : Int), .string sb6, .bool pl6, .int .u64 (aa6 : Int)]).setCell ⟨ge, 6, none⟩ (.int .i64 (er6 : Int)) := ⟨_, rfl⟩
  rw [← hV] at HY
  have HX : Hid _ := HY.out
  clear HY
  go_wp2_with fail
  change Calls _ _ _ ((W2.setCells w.heap.size 19 [.int .u32 (cc6 : Int), .string sb6, .bool pl6, .int .u64 (aa6 : Int)]).setCell ⟨ge, 6, none⟩ (.int .i64 (er6 : Int))) _
  rw [← hV]
  clear hV ec ef za0 ya0 za1 ya1 za2 ya2 za3 ya3
  have hlt : w.heap.size < ge ∧ ge < V7.heap.size := ⟨HX.out.hg, block_lt HX.out.be⟩
  have hl1 := HL.out
  refine Calls.mono (un_data ao cap n l V7 (HR.out.later HX.out.bel) HN.out) ?_
  rintro e W2 ⟨oo7, da7, dn7, dc7, mm7, er7, rfl, hd, hrow, hfr, hb2, hE, hbd, hH⟩
  have HX2 : Hid (Hx w W2 w.heap.size ge { k := k0, sz := sz0, fl := fl0, s1 := s0, mn := mn0, pf := pf0, mx := mx0, a1 := da0, n1 := dn0, c1 := dc0, d1 := d0, s2 := sb1, a2 := ia1, n2 := m1, c2 := ic1, ks := ks1, s3 := sb2, a3 := ia2, n3 := m2, c3 := ic2, qs := qs2, mc := cc3, s4 := sb3, s5 := sb4, a5 := da4, n5 := dn4, c5 := dc4, m5 := mm4, cx := cx5, a6 := ra5, n6 := rn5, c6 := rc5, rs := rs5, wide := wide, ec := cc6, s7 := sb6, pl := pl6, ea := aa6, off := 0, a8 := none, n8 := 0, c8 := 0, m8 := [], ho := 0, ln := 0 : Bod } [er0, er1, er2, er3, er4, er5, er6, 0]) := HX.out.later hb2
  have HY : Hid (Hx w ((W2.setCells w.heap.size 23 [.int .u64 (oo7 : Int), .slice da7 dn7 dc7]).setCell ⟨ge, 7, none⟩ (.int .i64 (er7 : Int))) w.heap.size ge { k := k0, sz := sz0, fl := fl0, s1 := s0, mn := mn0, pf := pf0, mx := mx0, a1 := da0, n1 := dn0, c1 := dc0, d1 := d0, s2 := sb1, a2 := ia1, n2 := m1, c2 := ic1, ks := ks1, s3 := sb2, a3 := ia2, n3 := m2, c3 := ic2, qs := qs2, mc := cc3, s4 := sb3, s5 := sb4, a5 := da4, n5 := dn4, c5 := dc4, m5 := mm4, cx := cx5, a6 := ra5, n6 := rn5, c6 := rc5, rs := rs5, wide := wide, ec := cc6, s7 := sb6, pl := pl6, ea := aa6, off := oo7, a8 := da7, n8 := dn7, c8 := dc7, m8 := mm7, ho := 0, ln := 0 : Bod } [er0, er1, er2, er3, er4, er5, er6, er7]) := HX2.out.put 23 [.int .u64 (oo7 : Int), .slice da7 dn7 dc7] 7 er7 (by simp) (by show _ ≤ _; simp) { HX2.out.ok with hoff := hbd.1, r8 := hrow, l8 := hd, b8 := Nat.le_trans hbd.2 hl1 } { HX2.out.far with f8 := fun ad e => by have h9 := hfr ad e; omega } (by rw [setA_mid _ _ _ (by show _ ≤ 27; simp)]; rfl)
  have hec := HX2.out.eCell 23 [.int .u64 (oo7 : Int), .slice da7 dn7 dc7] (by show _ ≤ _; simp) 7 0 rfl
  have ec : ((W2.setCell ⟨w.heap.size, 23, none⟩ (.int .u64 (oo7 : Int))).setCell ⟨w.heap.size, 24, none⟩ (.slice da7 dn7 dc7)).cell? ⟨ge, 7, none⟩ = some (.int .i64 0) := hec.1
  have ef : ((W2.setCell ⟨w.heap.size, 23, none⟩ (.int .u64 (oo7 : Int))).setCell ⟨w.heap.size, 24, none⟩ (.slice da7 dn7 dc7)).frozen? ⟨ge, 7, none⟩ = false := hec.2
  have HF7 : Hid _ := And.intro hE hH
  have za0 : W2.cell? ⟨w.heap.size, 23, none⟩ = some (.int .u64 ((0 : Nat) : Int)) := (blk_at HX2.out.bx 23).trans rfl
  have ya0 : W2.frozen? ⟨w.heap.size, 23, none⟩ = false := blk_free HX2.out.bx 23
  have za1 : W2.cell? ⟨w.heap.size, 24, none⟩ = some (.slice none 0 0) := (blk_at HX2.out.bx 24).trans rfl
  have ya1 : W2.frozen? ⟨w.heap.size, 24, none⟩ = false := blk_free HX2.out.bx 24
  clear HX HX2 hec hE hbd hH hb2 hlt hl1 hd hrow hfr
  obtain ⟨V8, hV⟩ : ∃ V, V = (W2.setCells w.heap.size 23 [.int .u64 (oo7 : Int), .slice da7 dn7 dc7]).setCell ⟨ge, 7, none⟩ (.int .i64 (er7 : Int)) := ⟨_, rfl⟩
  rw [← hV] at HY
  have HX : Hid _ := HY.out
  clear HY
  have HRg : Hid (((W2.setCells w.heap.size 23 [.int .u64 (oo7 : Int), .slice da7 dn7 dc7]).setCell ⟨ge, 7, none⟩ (.int .i64 (er7 : Int))).rangeAt w.heap.size 0 ({ k := k0, sz := sz0, fl := fl0, s1 := s0, mn := mn0, pf := pf0, mx := mx0, a1 := da0, n1 := dn0, c1 := dc0, d1 := d0, s2 := sb1, a2 := ia1, n2 := m1, c2 := ic1, ks := ks1, s3 := sb2, a3 := ia2, n3 := m2, c3 := ic2, qs := qs2, mc := cc3, s4 := sb3, s5 := sb4, a5 := da4, n5 := dn4, c5 := dc4, m5 := mm4, cx := cx5, a6 := ra5, n6 := rn5, c6 := rc5, rs := rs5, wide := wide, ec := cc6, s7 := sb6, pl := pl6, ea := aa6, off := oo7, a8 := da7, n8 := dn7, c8 := dc7, m8 := mm7, ho := 0, ln := 0 : Bod }).cells.toList) := by rw [← hV]; exact rangeC HX.out.bx
  go_wp2_with (refine wpList_load48 rfl _ rfl w.heap.size 0 rfl ({ k := k0, sz := sz0, fl := fl0, s1 := s0, mn := mn0, pf := pf0, mx := mx0, a1 := da0, n1 := dn0, c1 := dc0, d1 := d0, s2 := sb1, a2 := ia1, n2 := m1, c2 := ic1, ks := ks1, s3 := sb2, a3 := ia2, n3 := m2, c3 := ic2, qs := qs2, mc := cc3, s4 := sb3, s5 := sb4, a5 := da4, n5 := dn4, c5 := dc4, m5 := mm4, cx := cx5, a6 := ra5, n6 := rn5, c6 := rc5, rs := rs5, wide := wide, ec := cc6, s7 := sb6, pl := pl6, ea := aa6, off := oo7, a8 := da7, n8 := dn7, c8 := dc7, m8 := mm7, ho := 0, ln := 0 : Bod }).cells HRg.out rfl ?_)
  clear HRg
  change Calls _ _ _ ((W2.setCells w.heap.size 23 [.int .u64 (oo7 : Int), .slice da7 dn7 dc7]).setCell ⟨ge, 7, none⟩ (.int .i64 (er7 : Int))) _
  rw [← hV]
  clear hV ec ef za0 ya0 za1 ya1
  refine Calls.mono (packed_any ({ k := k0, sz := sz0, fl := fl0, s1 := s0, mn := mn0, pf := pf0, mx := mx0, a1 := da0, n1 := dn0, c1 := dc0, d1 := d0, s2 := sb1, a2 := ia1, n2 := m1, c2 := ic1, ks := ks1, s3 := sb2, a3 := ia2, n3 := m2, c3 := ic2, qs := qs2, mc := cc3, s4 := sb3, s5 := sb4, a5 := da4, n5 := dn4, c5 := dc4, m5 := mm4, cx := cx5, a6 := ra5, n6 := rn5, c6 := rc5, rs := rs5, wide := wide, ec := cc6, s7 := sb6, pl := pl6, ea := aa6, off := oo7, a8 := da7, n8 := dn7, c8 := dc7, m8 := mm7, ho := 0, ln := 0 : Bod }) V8 HX.out.ok (HT.out.later HX.out.bel)) ?_
  rintro e W1 ⟨va, la, rfl, pa, ea⟩
  obtain ⟨gl, gc, rfl, hIt⟩ := pa.items ea 9 rfl (by decide) (res_small HX.out.ok)
  have HQ : Hid (∀ i, i < 8 → ∃ (er : Nat) (p : List Nat × Nat) (a : Option Addr) (m c : Nat), [er0, er1, er2, er3, er4, er5, er6, er7][i]? = some er ∧ E3 er ∧ (er = 0 → p = (l, 0)) ∧ Itm W1 gl i p a m c) := fun i hi => by
    match i, hi with
    | 0, _ => obtain ⟨a, m, c, it⟩ := hIt 0 _ rfl; exact ⟨er0, _, a, m, c, rfl, HF0.out.1, HF0.out.2, it⟩
    | 1, _ => obtain ⟨a, m, c, it⟩ := hIt 1 _ rfl; exact ⟨er1, _, a, m, c, rfl, HF1.out.1, HF1.out.2, it⟩
    | 2, _ => obtain ⟨a, m, c, it⟩ := hIt 2 _ rfl; exact ⟨er2, _, a, m, c, rfl, HF2.out.1, HF2.out.2, it⟩
    | 3, _ => obtain ⟨a, m, c, it⟩ := hIt 3 _ rfl; exact ⟨er3, _, a, m, c, rfl, HF3.out.1, HF3.out.2, it⟩
    | 4, _ => obtain ⟨a, m, c, it⟩ := hIt 4 _ rfl; exact ⟨er4, _, a, m, c, rfl, HF4.out.1, HF4.out.2, it⟩
    | 5, _ => obtain ⟨a, m, c, it⟩ := hIt 5 _ rfl; exact ⟨er5, _, a, m, c, rfl, HF5.out.1, HF5.out.2, it⟩
    | 6, _ => obtain ⟨a, m, c, it⟩ := hIt 6 _ rfl; exact ⟨er6, _, a, m, c, rfl, HF6.out.1, HF6.out.2, it⟩
    | 7, _ => obtain ⟨a, m, c, it⟩ := hIt 7 _ rfl; exact ⟨er7, _, a, m, c, rfl, HF7.out.1, HF7.out.2.1, it⟩
  have HE : Hid (W1.heap[ge]? = some (.cells ([er0, er1, er2, er3, er4, er5, er6, er7].map (fun e : Nat => Value.int .i64 (e : Int))).toArray 81 (0, 0))) := box_later HX.out.be pa.bel
  have HW1 : Hid (Below w.heap.size w W1) := HX.out.bel.trans (pa.bel.mono HX.out.bel.size)
  have HIf : Hid (er7 = 0 ↔ 8 < l.length) := HF7.out.2.2
  clear hIt pa ea HX HF0 HF1 HF2 HF3 HF4 HF5 HF6 HF7
  go_wp2
  go_loopw [10] (fun iv wr => ∃ i : Nat, i ≤ 8 ∧ iv = .int .i64 (i : Nat) ∧ Hid (Below W1.heap.size W1 wr)) (fun iv _ => 8 - (intOf iv).toNat)
  case atStart => exact ⟨0, Nat.zero_le _, rfl, Below.refl _ _⟩
  case round =>
    obtain ⟨i, hin, rfl, HB⟩ := hrel
    by_cases hlt : i < 8
    · have n9 : decide ((i : Int) < 8) = true := by simp; omega
      obtain ⟨er, p, a, m, c, e1, e2, e3, it1⟩ := HQ.out i hlt
      have it := it1.later HB.out
      have x0 : wr.cell? ⟨ge, i, none⟩ = some (.int .i64 (er : Int)) := es_at (box_later HE.out HB.out) e1
      have ii0 : (0 : Int) ≤ (i : Int) := by omega
      have ii9 : (i : Int) < 9 := by omega
      have ii8 : (i : Int) < 8 := by omega
      clear it1 e1
      rcases e2 with rfl | rfl | rfl
      · obtain rfl := e3 rfl
        have y0 := it.c0
        have y1 : wr.cell? ⟨gl, i * 2 + 1, none⟩ = some (.int .i64 0) := it.c1
        have hm : m = n := it.len.symm.trans HN.out
        subst hm
        have HSa : Hid _ := same9 a ao c cap m l wr it.row ((HR.out.later HW1.out).later HB.out) HN.out
        clear it e3
        go_wp2_with fail
        refine Calls.mono (HNum.out _ _) ?_
        rintro e W4 ⟨rfl, hw⟩
        rw [hw]; clear hw W4
        go_wp2_with fail
        refine Calls.mono HSa.out ?_
        rintro e W4 ⟨rfl, hb4⟩
        have HC : Hid (Below W1.heap.size W1 W4) := HB.out.trans (hb4.mono HB.out.size)
        have x1 := cell_later hb4 x0
        clear hb4 HSa x0 y0 y1
        go_wp2_with fail
        refine Calls.mono (HNum.out _ _) ?_
        rintro e W5 ⟨rfl, hw⟩
        rw [hw]; clear hw W5
        go_wp2
        go_roundw
        case rel => exact ⟨i + 1, by omega, by go_num, HC⟩
        case measure => simp [intOf]; omega
      · have x1 : wr.cell? ⟨ge, i, none⟩ = some (.int .i64 81) := x0
        clear it e3 x0
        go_wp2_with fail
        refine Calls.mono (HNum.out _ _) ?_
        rintro e W5 ⟨rfl, hw⟩
        rw [hw]; clear hw W5
        go_wp2_with fail
        refine Calls.mono (HNum.out _ _) ?_
        rintro e W5 ⟨rfl, hw⟩
        rw [hw]; clear hw W5
        go_wp2_with fail
        refine Calls.mono (HNum.out _ _) ?_
        rintro e W5 ⟨rfl, hw⟩
        rw [hw]; clear hw W5
        go_wp2
        go_roundw
        case rel => exact ⟨i + 1, by omega, by go_num, HB⟩
        case measure => simp [intOf]; omega
      · have x1 : wr.cell? ⟨ge, i, none⟩ = some (.int .i64 170) := x0
        clear it e3 x0
        go_wp2_with fail
        refine Calls.mono (HNum.out _ _) ?_
        rintro e W5 ⟨rfl, hw⟩
        rw [hw]; clear hw W5
        go_wp2_with fail
        refine Calls.mono (HNum.out _ _) ?_
        rintro e W5 ⟨rfl, hw⟩
        rw [hw]; clear hw W5
        go_wp2_with fail
        refine Calls.mono (HNum.out _ _) ?_
        rintro e W5 ⟨rfl, hw⟩
        rw [hw]; clear hw W5
        go_wp2_with fail
        refine Calls.mono (HNum.out _ _) ?_
        rintro e W5 ⟨rfl, hw⟩
        rw [hw]; clear hw W5
        go_wp2
        go_roundw
        case rel => exact ⟨i + 1, by omega, by go_num, HB⟩
        case measure => simp [intOf]; omega
    · have n9 : decide ((i : Int) < 8) = false := by simp; omega
      have HBe : Hid (Below w.heap.size w wr) := HW1.out.trans (HB.out.mono HW1.out.size)
      have x7 : wr.cell? ⟨ge, 7, none⟩ = some (.int .i64 (er7 : Int)) := es_at (box_later HE.out HB.out) rfl
      clear HQ HE HB HW1
      go_wp2_with fail
      refine Calls.mono (un_hole ao cap n l wr (HR.out.later HBe.out) HN.out) ?_
      rintro e W2 ⟨oh, kh, eh, rfl, hb2, u1, u2, h12, hHo⟩
      have HB2 : Hid (Below w.heap.size w W2) := HBe.out.trans (hb2.mono HBe.out.size)
      have x8 := cell_later hb2 x7
      have HU : Hid (oh < 18446744073709551616 ∧ kh < 4294967296 ∧ (eh = 0 ↔ l.length = 12) ∧ (eh = 0 → hoL oh kh = l)) := ⟨u1, u2, h12, hHo⟩
      clear hb2 x7 HBe u1 u2 h12 hHo
      go_upto_region 20 with fail
      have h8 : ∀ o, (W2.alloc o).cell? ⟨ge, 7, none⟩ = some (.int .i64 (er7 : Int)) := fun o => cell_later (below1 W2 o) x8
      have hbx := heap_new W2 (Obj.cells #[.int .u64 (oh : Int), .int .u32 (kh : Int)] 46)
      have HB3 : Hid (Below w.heap.size w (W2.alloc (Obj.cells #[.int .u64 (oh : Int), .int .u32 (kh : Int)] 46))) := HB2.out.trans ((below1 W2 _).mono HB2.out.size)
      have x9 := cell_later (below1 W2 (Obj.cells #[.int .u64 (oh : Int), .int .u32 (kh : Int)] 46)) x8
      clear x8 HB2
      generalize W2.alloc (Obj.cells #[.int .u64 (oh : Int), .int .u32 (kh : Int)] 46) = W3 at *
      generalize W2.heap.size = gh at *
      have z0 := blk_at hbx 0
      have z1 := blk_at hbx 1
      simp at z0 z1
      clear hbx
      by_cases h0 : eh = 0
      · subst h0
        have h12 := HU.out.2.2.1.1 rfl
        have hn12 : n = 12 := HN.out.symm.trans h12
        subst hn12
        have h70 : er7 = 0 := HIf.out.2 (by omega)
        subst h70
        have HP : Hid _ := packHole oh kh W3 HU.out.1 HU.out.2.1
        have HU2 : Hid (hoL oh kh = l) := HU.out.2.2.2 rfl
        clear HU h12
        go_wp2_with fail
        refine Calls.mono (HNum.out _ _) ?_
        rintro e W9 ⟨rfl, hw⟩
        rw [hw]; clear hw W9
        go_wp2_with fail
        refine Calls.mono (HNum.out _ _) ?_
        rintro e W9 ⟨rfl, hw⟩
        rw [hw]; clear hw W9
        go_wp2_with fail
        refine Calls.mono HP.out ?_
        rintro e W4 ⟨pa, pc, pn, rfl, hpn, hpr⟩
        rw [HU2.out] at hpn hpr
        have hp12 : pn = 12 := hpn.symm.trans HN.out
        subst hp12
        have HB4 : Hid (Below w.heap.size w W4) := HB3.out.trans (hpr.bel.mono HB3.out.size)
        have HSa : Hid _ := same9 pa ao pc cap 12 l W4 (hpr.brow (Nat.le_trans HL.out (by decide))) (HR.out.later HB4.out) HN.out
        have x10 := cell_later hpr.bel x9
        clear hpr hpn x9 HB3 HP z0 z1
        go_wp2_with fail
        refine Calls.mono HSa.out ?_
        rintro e W5 ⟨rfl, hb5⟩
        have HB5 : Hid (Below w.heap.size w W5) := HB4.out.trans (hb5.mono HB4.out.size)
        have x11 := cell_later hb5 x10
        clear hb5 x10 HSa HB4
        go_wp2_with fail
        refine Calls.mono (HNum.out _ _) ?_
        rintro e W9 ⟨rfl, hw⟩
        rw [hw]; clear hw W9
        go_wp2_with fail
        refine Calls.mono (alive_any W5 (HTb.out.later HB5.out)) ?_
        rintro e W8 ⟨rfl, hb8⟩
        have HBz : Hid (Below w.heap.size w W8) := HB5.out.trans (hb8.mono HB5.out.size)
        clear hb8
        go_wp2
        go_ret
        exact ⟨rfl, HBz.out⟩
      · have f0 := eraw eh h0
        have f1 : ((eh : Int) != 0) = true := by simp [bne, f0]
        have hn12 : ((n : Int) == 12) = false := by
          have h1 := HN.out
          have h2 : l.length ≠ 12 := fun h => h0 (HU.out.2.2.1.2 h)
          rw [beq_eq_false_iff_ne]; omega
        clear HU
        by_cases h88 : 8 < n
        · have h70 : er7 = 0 := HIf.out.2 (by have := HN.out; omega)
          subst h70
          have g1 : decide ((8 : Int) < (n : Int)) = true := by simp; omega
          have g2 : decide ((n : Int) > 8) = true := by simp; omega
          go_wp2_with fail
          refine Calls.mono (HNum.out _ _) ?_
          rintro e W9 ⟨rfl, hw⟩
          rw [hw]; clear hw W9
          go_wp2_with fail
          refine Calls.mono (HNum.out _ _) ?_
          rintro e W9 ⟨rfl, hw⟩
          rw [hw]; clear hw W9
          go_wp2_with fail
          refine Calls.mono (HNum.out _ _) ?_
          rintro e W9 ⟨rfl, hw⟩
          rw [hw]; clear hw W9
          go_wp2_with fail
          refine Calls.mono (alive_any W3 (HTb.out.later HB3.out)) ?_
          rintro e W8 ⟨rfl, hb8⟩
          have HBz : Hid (Below w.heap.size w W8) := HB3.out.trans (hb8.mono HB3.out.size)
          clear hb8
          go_wp2
          go_ret
          exact ⟨rfl, HBz.out⟩
        · have h70 : er7 ≠ 0 := fun h => h88 (by have h1 := HIf.out.1 h; have := HN.out; omega)
          have f7 := eraw er7 h70
          have g1 : decide ((8 : Int) < (n : Int)) = false := by simp; omega
          have g2 : decide ((n : Int) > 8) = false := by simp; omega
          go_wp2_with fail
          refine Calls.mono (HNum.out _ _) ?_
          rintro e W9 ⟨rfl, hw⟩
          rw [hw]; clear hw W9
          go_wp2_with fail
          refine Calls.mono (HNum.out _ _) ?_
          rintro e W9 ⟨rfl, hw⟩
          rw [hw]; clear hw W9
          go_wp2_with fail
          refine Calls.mono (HNum.out _ _) ?_
          rintro e W9 ⟨rfl, hw⟩
          rw [hw]; clear hw W9
          go_wp2_with fail
          refine Calls.mono (alive_any W3 (HTb.out.later HB3.out)) ?_
          rintro e W8 ⟨rfl, hb8⟩
          have HBz : Hid (Below w.heap.size w W8) := HB3.out.trans (hb8.mono HB3.out.size)
          clear hb8
          go_wp2
          go_ret
          exact ⟨rfl, HBz.out⟩
end Go.Proofs.YtjikibhhhchgeaaDoor
