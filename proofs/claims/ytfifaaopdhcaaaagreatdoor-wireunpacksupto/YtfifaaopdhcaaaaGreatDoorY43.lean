import Derived.Test.YtfifaaopdhcaaaaGreatDoorY19
import Derived.Test.YtfifaaopdhcaaaaGreatDoorY27
import Derived.Test.YtfifaaopdhcaaaaGreatDoorY13
import Derived.Deep.RegionHeld3
import Derived.Test.YtfifaaopdhcaaaaGreatDoorY39
namespace Go.Proofs.YtfifaaopdhcaaaaGreatDoor
open Go.RowKit
set_option linter.unusedVariables false
set_option linter.unusedSimpArgs false
set_option maxRecDepth 100000
set_option maxHeartbeats 8000000 in
theorem rInfoU0_ok (b off cap n : Nat) (l : List Nat) (w : World) (h : CRow w (some ⟨b, off, none⟩) cap l) (HN : Hid (l.length = n)) (hn : n ≤ 1048576) (h2 : 2 ≤ n) (hv : valB (l.take 2) = 0) (sz : Nat) (HE1 : Hid (valB (((l ++ List.replicate 20 0).drop 2).take 8) = sz)) (hx1 : sz < 18446744073709551616) (fl : Nat) (HE2 : Hid (valB (((l ++ List.replicate 20 0).drop 10).take 2) = fl)) (hx2 : fl < 65536) (LL : List Nat) (HLL : Hid (LL.length ≤ 1048576)) (HP : Hid (∀ V, Below w.heap.size w V → Calls Tryz.prog 41 #[.agg #[.int .u16 0, .int .u64 (sz : Int), .int .u16 (fl : Int), .string ⟨#[]⟩, .int .u32 0, .int .u32 0, .int .u32 0, .slice none 0 0]] V fun e w' => Pk V LL 0 e w')) (ht : decide (LL = l) = true) :
    Calls Tryz.prog 6 #[.slice (some ⟨b, off, none⟩) n cap] w fun e w' => e = .returned (.tuple #[.agg #[.int .u16 0, .int .u64 (sz : Int), .int .u16 (fl : Int), .string ⟨#[]⟩, .int .u32 0, .int .u32 0, .int .u32 0, .slice none 0 0], .int .i64 0]) ∧ Below w.heap.size w w' := by
  have HLn : Hid ((l ++ List.replicate 20 0).length = n + 20) := by show _ = _; rw [List.length_append, List.length_replicate, HN.out]
  obtain ⟨i0, hi, hz0, hz1, hz2⟩ := info_parts Tryz.info5
  have HV : Hid (∀ W, Below w.heap.size w W → Calls Tryz.prog 39 #[.slice (some ⟨b, off, none⟩) n cap, .int .i64 0, .int .i64 2] W fun e w' => e = .returned (.int .u64 0) ∧ Below W.heap.size W w') := fun W hb => rvalueB b off cap n 0 2 l W (h.later hb) HN (by omega) (by decide) (by decide) (by omega) _ (by simpa using hv)
  have HCp : Hid (∀ W, Below w.heap.size w W → _) := fun W hb => copyN (some ⟨b, off, none⟩) cap n l W (h.row.later hb) HN.out
  have HC : Hid (CRow w (some ⟨b, off, none⟩) cap l) := h
  have HL : Hid (∀ x ∈ (l ++ List.replicate 20 0), x < 256) := fun x hx => by
    rcases List.mem_append.1 hx with hx | hx
    · exact HC.out.row.lt x hx
    · rw [List.eq_of_mem_replicate hx]; decide
  have t1 : decide ((n : Int) < 2) = false := by simp; omega
  have t2 : ¬ (n : Int) < 2 := by omega
  clear h hv
  have hx := mkb1 w #[.int .u16 0, .int .u64 0, .int .u16 0, .string ⟨#[]⟩, .int .u32 0, .int .u32 0, .int .u32 0, .slice none 0 0] 28
  go_enter Tryz.func6, Tryz.ntmps6
  go_upto_region 1 with fail
  generalize w.alloc (Obj.cells #[.int .u16 0, .int .u64 0, .int .u16 0, .string ⟨#[]⟩, .int .u32 0, .int .u32 0, .int .u32 0, .slice none 0 0] 28) = W0 at *
  have HX : Hid (Bx1 w W0 #[.int .u16 0, .int .u64 0, .int .u16 0, .string ⟨#[]⟩, .int .u32 0, .int .u32 0, .int .u32 0, .slice none 0 0] 28) := hx
  clear hx
  have za0 : W0.cell? ⟨w.heap.size, 0, none⟩ = some (.int .u16 0) := (blk_at HX.out.a 0).trans rfl
  have zb0 : W0.frozen? ⟨w.heap.size, 0, none⟩ = false := blk_free HX.out.a 0
  have za1 : W0.cell? ⟨w.heap.size, 1, none⟩ = some (.int .u64 0) := (blk_at HX.out.a 1).trans rfl
  have zb1 : W0.frozen? ⟨w.heap.size, 1, none⟩ = false := blk_free HX.out.a 1
  have za2 : W0.cell? ⟨w.heap.size, 2, none⟩ = some (.int .u16 0) := (blk_at HX.out.a 2).trans rfl
  have zb2 : W0.frozen? ⟨w.heap.size, 2, none⟩ = false := blk_free HX.out.a 2
  have za3 : W0.cell? ⟨w.heap.size, 3, none⟩ = some (.string ⟨#[]⟩) := (blk_at HX.out.a 3).trans rfl
  have zb3 : W0.frozen? ⟨w.heap.size, 3, none⟩ = false := blk_free HX.out.a 3
  have za4 : W0.cell? ⟨w.heap.size, 4, none⟩ = some (.int .u32 0) := (blk_at HX.out.a 4).trans rfl
  have zb4 : W0.frozen? ⟨w.heap.size, 4, none⟩ = false := blk_free HX.out.a 4
  have za5 : W0.cell? ⟨w.heap.size, 5, none⟩ = some (.int .u32 0) := (blk_at HX.out.a 5).trans rfl
  have zb5 : W0.frozen? ⟨w.heap.size, 5, none⟩ = false := blk_free HX.out.a 5
  have za6 : W0.cell? ⟨w.heap.size, 6, none⟩ = some (.int .u32 0) := (blk_at HX.out.a 6).trans rfl
  have zb6 : W0.frozen? ⟨w.heap.size, 6, none⟩ = false := blk_free HX.out.a 6
  have za7 : W0.cell? ⟨w.heap.size, 7, none⟩ = some (.slice none 0 0) := (blk_at HX.out.a 7).trans rfl
  have zb7 : W0.frozen? ⟨w.heap.size, 7, none⟩ = false := blk_free HX.out.a 7
  go_wp2_with fail
  refine Calls.mono (HV.out W0 HX.out.bel) ?_
  rintro e W1 ⟨rfl, hb1⟩
  have HX1 : Hid (Bx1 w W1 #[.int .u16 0, .int .u64 0, .int .u16 0, .string ⟨#[]⟩, .int .u32 0, .int .u32 0, .int .u32 0, .slice none 0 0] 28) := HX.out.later hb1
  clear hb1 HX HV
  clear za0 zb0 za1 zb1 za2 zb2 za3 zb3 za4 zb4 za5 zb5 za6 zb6 za7 zb7
  go_wp2_with fail
  have hbx := heap_new W1 (Obj.cells #[.int .u16 0, .int .u64 0, .int .u16 0, .string ⟨#[]⟩, .int .u32 0, .int .u32 0, .int .u32 0, .slice none 0 0] 28)
  have HX2 : Hid (Bx1 w (W1.alloc (Obj.cells #[.int .u16 0, .int .u64 0, .int .u16 0, .string ⟨#[]⟩, .int .u32 0, .int .u32 0, .int .u32 0, .slice none 0 0] 28)) #[.int .u16 0, .int .u64 0, .int .u16 0, .string ⟨#[]⟩, .int .u32 0, .int .u32 0, .int .u32 0, .slice none 0 0] 28) := HX1.out.later (below1 _ _)
  have HGe : Hid (w.heap.size < W1.heap.size ∧ W1.heap.size < (W1.alloc (Obj.cells #[.int .u16 0, .int .u64 0, .int .u16 0, .string ⟨#[]⟩, .int .u32 0, .int .u32 0, .int .u32 0, .slice none 0 0] 28)).heap.size) := ⟨HX1.out.size, by simp⟩
  generalize W1.alloc (Obj.cells #[.int .u16 0, .int .u64 0, .int .u16 0, .string ⟨#[]⟩, .int .u32 0, .int .u32 0, .int .u32 0, .slice none 0 0] 28) = W2 at *
  generalize W1.heap.size = ge at *
  have HBx : Hid (W2.heap[ge]? = some (.cells #[.int .u16 0, .int .u64 0, .int .u16 0, .string ⟨#[]⟩, .int .u32 0, .int .u32 0, .int .u32 0, .slice none 0 0] 28 (0, 0))) := hbx
  clear hbx HX1
  refine Calls.mono (HCp.out W2 HX2.out.bel) ?_
  rintro e W3 ⟨fa, fb, rfl, ho3, hb3⟩
  have HO3 : Hid (W3.ownsRow W2.heap.size 5 1 (.slice fa n fb) n (l.map bv)) := ho3
  have HX3 : Hid (Bx1 w W3 #[.int .u16 0, .int .u64 0, .int .u16 0, .string ⟨#[]⟩, .int .u32 0, .int .u32 0, .int .u32 0, .slice none 0 0] 28 ∧ W3.heap[ge]? = some (.cells #[.int .u16 0, .int .u64 0, .int .u16 0, .string ⟨#[]⟩, .int .u32 0, .int .u32 0, .int .u32 0, .slice none 0 0] 28 (0, 0)) ∧ W2.heap.size ≤ W3.heap.size) := ⟨HX2.out.later hb3, box_later HBx.out hb3, hb3.size⟩
  clear ho3 hb3 HX2 HBx
  go_wp2_with (at_builtin; refine wpList_append_two_make _ rfl _ _ 22 9 3 rfl W2.heap.size 5 i0 Tryz.underlying22 Tryz.underlying9 Tryz.underlying3 hi hz0 hz1 hz2 (.slice fa n fb) n (l.map bv) rfl HO3.out 20 rfl (by decide) (by omega) HX3.out.2.2 ?_; intro fo fc W4 ho4 hg4 _; have HU : Hid (Fu w W4 ge #[.int .u16 0, .int .u64 0, .int .u16 0, .string ⟨#[]⟩, .int .u32 0, .int .u32 0, .int .u32 0, .slice none 0 0] fo (n + 20) fc (l ++ List.replicate 20 0)) := Fu.grown HX3.out.1 HX3.out.2.1 HGe.out.1 HGe.out.2 HO3.out (by rw [List.map_append]; exact ho4) hg4; have c0 : W4.cell? ⟨ge, 0, none⟩ = some (.int .u16 0) := (blk_at HU.out.box 0).trans rfl; clear ho4 hg4 HO3 HX3)
  clear HCp
  have hcr := HU.out.crow HL.out HLn.out (by omega)
  obtain ⟨fbb, foo, hfo⟩ := hcr.some (by rw [HLn.out]; omega)
  subst hfo
  have HV1 : Hid _ := rvalueB fbb foo fc (n + 20) 2 8 (l ++ List.replicate 20 0) W4 hcr HLn (by omega) (by decide) (by decide) (by omega) sz HE1.out
  clear hcr
  go_wp2_with fail
  refine Calls.mono HV1.out ?_
  rintro e Y1 ⟨rfl, hb⟩
  have HU2 : Hid _ := HU.out.later hb
  have x1 : Y1.cell? ⟨ge, 1, none⟩ = some (.int .u64 0) := (blk_at HU2.out.box 1).trans rfl
  have f1 : Y1.frozen? ⟨ge, 1, none⟩ = false := blk_free HU2.out.box 1
  clear hb HU HV1
  go_upto_region 9 with fail
  have HU3 : Hid (Fu w (Y1.setCell ⟨ge, 1, none⟩ (.int .u64 (sz : Int))) ge #[.int .u16 0, .int .u64 (sz : Int), .int .u16 0, .string ⟨#[]⟩, .int .u32 0, .int .u32 0, .int .u32 0, .slice none 0 0] (some ⟨fbb, foo, none⟩) (n + 20) fc (l ++ List.replicate 20 0)) := HU2.out.put 1 _ rfl
  clear HU2 x1 f1
  generalize Y1.setCell ⟨ge, 1, none⟩ (.int .u64 (sz : Int)) = V1 at *
  have HU : Hid _ := HU3.out
  clear HU3
  have wc2 : IntKind.u16.wrap (fl : Int) = (fl : Int) := by rw [IntKind.wrap_u16]; omega
  have hcr := HU.out.crow HL.out HLn.out (by omega)
  have HV2 : Hid _ := rvalueB fbb foo fc (n + 20) 10 2 (l ++ List.replicate 20 0) V1 hcr HLn (by omega) (by decide) (by decide) (by omega) fl HE2.out
  clear hcr
  go_wp2_with fail
  refine Calls.mono HV2.out ?_
  rintro e Y2 ⟨rfl, hb⟩
  have HU2 : Hid _ := HU.out.later hb
  have x2 : Y2.cell? ⟨ge, 2, none⟩ = some (.int .u16 0) := (blk_at HU2.out.box 2).trans rfl
  have f2 : Y2.frozen? ⟨ge, 2, none⟩ = false := blk_free HU2.out.box 2
  clear hb HU HV2
  go_upto_region 17 with fail
  have HU3 : Hid (Fu w (Y2.setCell ⟨ge, 2, none⟩ (.int .u16 (fl : Int))) ge #[.int .u16 0, .int .u64 (sz : Int), .int .u16 (fl : Int), .string ⟨#[]⟩, .int .u32 0, .int .u32 0, .int .u32 0, .slice none 0 0] (some ⟨fbb, foo, none⟩) (n + 20) fc (l ++ List.replicate 20 0)) := HU2.out.put 2 _ rfl
  clear HU2 x2 f2
  generalize Y2.setCell ⟨ge, 2, none⟩ (.int .u16 (fl : Int)) = V2 at *
  have HU : Hid _ := HU3.out
  clear HU3
  have x0 : V2.cell? ⟨ge, 0, none⟩ = some (.int .u16 0) := (blk_at HU.out.box 0).trans rfl
  have x1 : V2.cell? ⟨ge, 1, none⟩ = some (.int .u64 (sz : Int)) := (blk_at HU.out.box 1).trans rfl
  have x2 : V2.cell? ⟨ge, 2, none⟩ = some (.int .u16 (fl : Int)) := (blk_at HU.out.box 2).trans rfl
  have x3 : V2.cell? ⟨ge, 3, none⟩ = some (.string ⟨#[]⟩) := (blk_at HU.out.box 3).trans rfl
  have x4 : V2.cell? ⟨ge, 4, none⟩ = some (.int .u32 0) := (blk_at HU.out.box 4).trans rfl
  have x5 : V2.cell? ⟨ge, 5, none⟩ = some (.int .u32 0) := (blk_at HU.out.box 5).trans rfl
  have x6 : V2.cell? ⟨ge, 6, none⟩ = some (.int .u32 0) := (blk_at HU.out.box 6).trans rfl
  have x7 : V2.cell? ⟨ge, 7, none⟩ = some (.slice none 0 0) := (blk_at HU.out.box 7).trans rfl
  have HPk : Hid _ := HP.out V2 HU.out.bx.bel
  clear HP
  go_wp2_with fail
  refine Calls.mono HPk.out ?_
  rintro e W8 ⟨pa, pc, pn, rfl, hpn, hpr⟩
  have HU8 : Hid _ := HU.out.later hpr.bel
  have hsa := same08_any pa (some ⟨b, off, none⟩) pc cap pn n LL l W8 (hpr.brow (by have := HLL.out; omega)) (HC.out.row.later HU8.out.bx.bel) hpn HN.out
  rw [ht] at hsa
  have HSa : Hid _ := hsa
  clear hsa hpn hpr HU HPk x0 x1 x2 x3 x4 x5 x6 x7
  go_wp2_with fail
  refine Calls.mono HSa.out ?_
  rintro e W9 ⟨rfl, hb9⟩
  have HU9 : Hid _ := HU8.out.later hb9
  clear hb9 HU8 HSa
  have ya0 : W9.cell? ⟨w.heap.size, 0, none⟩ = some (.int .u16 0) := (blk_at HU9.out.bx.a 0).trans rfl
  have yb0 : W9.frozen? ⟨w.heap.size, 0, none⟩ = false := blk_free HU9.out.bx.a 0
  have ya1 : W9.cell? ⟨w.heap.size, 1, none⟩ = some (.int .u64 0) := (blk_at HU9.out.bx.a 1).trans rfl
  have yb1 : W9.frozen? ⟨w.heap.size, 1, none⟩ = false := blk_free HU9.out.bx.a 1
  have ya2 : W9.cell? ⟨w.heap.size, 2, none⟩ = some (.int .u16 0) := (blk_at HU9.out.bx.a 2).trans rfl
  have yb2 : W9.frozen? ⟨w.heap.size, 2, none⟩ = false := blk_free HU9.out.bx.a 2
  have ya3 : W9.cell? ⟨w.heap.size, 3, none⟩ = some (.string ⟨#[]⟩) := (blk_at HU9.out.bx.a 3).trans rfl
  have yb3 : W9.frozen? ⟨w.heap.size, 3, none⟩ = false := blk_free HU9.out.bx.a 3
  have ya4 : W9.cell? ⟨w.heap.size, 4, none⟩ = some (.int .u32 0) := (blk_at HU9.out.bx.a 4).trans rfl
  have yb4 : W9.frozen? ⟨w.heap.size, 4, none⟩ = false := blk_free HU9.out.bx.a 4
  have ya5 : W9.cell? ⟨w.heap.size, 5, none⟩ = some (.int .u32 0) := (blk_at HU9.out.bx.a 5).trans rfl
  have yb5 : W9.frozen? ⟨w.heap.size, 5, none⟩ = false := blk_free HU9.out.bx.a 5
  have ya6 : W9.cell? ⟨w.heap.size, 6, none⟩ = some (.int .u32 0) := (blk_at HU9.out.bx.a 6).trans rfl
  have yb6 : W9.frozen? ⟨w.heap.size, 6, none⟩ = false := blk_free HU9.out.bx.a 6
  have ya7 : W9.cell? ⟨w.heap.size, 7, none⟩ = some (.slice none 0 0) := (blk_at HU9.out.bx.a 7).trans rfl
  have yb7 : W9.frozen? ⟨w.heap.size, 7, none⟩ = false := blk_free HU9.out.bx.a 7
  have HB9 : Hid (Bx1 w W9 #[.int .u16 0, .int .u64 0, .int .u16 0, .string ⟨#[]⟩, .int .u32 0, .int .u32 0, .int .u32 0, .slice none 0 0] 28) := HU9.out.bx
  have x0 : W9.cell? ⟨ge, 0, none⟩ = some (.int .u16 0) := (blk_at HU9.out.box 0).trans rfl
  have x1 : W9.cell? ⟨ge, 1, none⟩ = some (.int .u64 (sz : Int)) := (blk_at HU9.out.box 1).trans rfl
  have x2 : W9.cell? ⟨ge, 2, none⟩ = some (.int .u16 (fl : Int)) := (blk_at HU9.out.box 2).trans rfl
  have x3 : W9.cell? ⟨ge, 3, none⟩ = some (.string ⟨#[]⟩) := (blk_at HU9.out.box 3).trans rfl
  have x4 : W9.cell? ⟨ge, 4, none⟩ = some (.int .u32 0) := (blk_at HU9.out.box 4).trans rfl
  have x5 : W9.cell? ⟨ge, 5, none⟩ = some (.int .u32 0) := (blk_at HU9.out.box 5).trans rfl
  have x6 : W9.cell? ⟨ge, 6, none⟩ = some (.int .u32 0) := (blk_at HU9.out.box 6).trans rfl
  have x7 : W9.cell? ⟨ge, 7, none⟩ = some (.slice none 0 0) := (blk_at HU9.out.box 7).trans rfl
  clear HU9
  go_wp2
  obtain ⟨hp, hq⟩ := putc8 HB9.out.a (.int .u16 0) (.int .u64 (sz : Int)) (.int .u16 (fl : Int)) (.string ⟨#[]⟩) (.int .u32 0) (.int .u32 0) (.int .u32 0) (.slice none 0 0)
  exact bodyPost_ret (results_cell_tmp1 rfl _ _ w.heap.size 28 _ (0, 0) _ rfl hp Tryz.underlying28 rfl infoI) rfl ⟨rfl, HB9.out.bel.trans (hq.below HB9.out.bel.size (fun g hg => by omega))⟩
set_option maxHeartbeats 8000000 in
theorem rInfoU0_no (b off cap n : Nat) (l : List Nat) (w : World) (h : CRow w (some ⟨b, off, none⟩) cap l) (HN : Hid (l.length = n)) (hn : n ≤ 1048576) (h2 : 2 ≤ n) (hv : valB (l.take 2) = 0) (sz : Nat) (HE1 : Hid (valB (((l ++ List.replicate 20 0).drop 2).take 8) = sz)) (hx1 : sz < 18446744073709551616) (fl : Nat) (HE2 : Hid (valB (((l ++ List.replicate 20 0).drop 10).take 2) = fl)) (hx2 : fl < 65536) (LL : List Nat) (HLL : Hid (LL.length ≤ 1048576)) (HP : Hid (∀ V, Below w.heap.size w V → Calls Tryz.prog 41 #[.agg #[.int .u16 0, .int .u64 (sz : Int), .int .u16 (fl : Int), .string ⟨#[]⟩, .int .u32 0, .int .u32 0, .int .u32 0, .slice none 0 0]] V fun e w' => Pk V LL 0 e w')) (ht : decide (LL = l) = false) :
    Calls Tryz.prog 6 #[.slice (some ⟨b, off, none⟩) n cap] w fun e w' => e = .returned (.tuple #[.agg #[.int .u16 0, .int .u64 0, .int .u16 0, .string ⟨#[]⟩, .int .u32 0, .int .u32 0, .int .u32 0, .slice none 0 0], .int .i64 81]) ∧ Below w.heap.size w w' := by
  have HLn : Hid ((l ++ List.replicate 20 0).length = n + 20) := by show _ = _; rw [List.length_append, List.length_replicate, HN.out]
  obtain ⟨i0, hi, hz0, hz1, hz2⟩ := info_parts Tryz.info5
  have HV : Hid (∀ W, Below w.heap.size w W → Calls Tryz.prog 39 #[.slice (some ⟨b, off, none⟩) n cap, .int .i64 0, .int .i64 2] W fun e w' => e = .returned (.int .u64 0) ∧ Below W.heap.size W w') := fun W hb => rvalueB b off cap n 0 2 l W (h.later hb) HN (by omega) (by decide) (by decide) (by omega) _ (by simpa using hv)
  have HCp : Hid (∀ W, Below w.heap.size w W → _) := fun W hb => copyN (some ⟨b, off, none⟩) cap n l W (h.row.later hb) HN.out
  have HC : Hid (CRow w (some ⟨b, off, none⟩) cap l) := h
  have HL : Hid (∀ x ∈ (l ++ List.replicate 20 0), x < 256) := fun x hx => by
    rcases List.mem_append.1 hx with hx | hx
    · exact HC.out.row.lt x hx
    · rw [List.eq_of_mem_replicate hx]; decide
  have t1 : decide ((n : Int) < 2) = false := by simp; omega
  have t2 : ¬ (n : Int) < 2 := by omega
  clear h hv
  have hx := mkb1 w #[.int .u16 0, .int .u64 0, .int .u16 0, .string ⟨#[]⟩, .int .u32 0, .int .u32 0, .int .u32 0, .slice none 0 0] 28
  go_enter Tryz.func6, Tryz.ntmps6
  go_upto_region 1 with fail
  generalize w.alloc (Obj.cells #[.int .u16 0, .int .u64 0, .int .u16 0, .string ⟨#[]⟩, .int .u32 0, .int .u32 0, .int .u32 0, .slice none 0 0] 28) = W0 at *
  have HX : Hid (Bx1 w W0 #[.int .u16 0, .int .u64 0, .int .u16 0, .string ⟨#[]⟩, .int .u32 0, .int .u32 0, .int .u32 0, .slice none 0 0] 28) := hx
  clear hx
  have za0 : W0.cell? ⟨w.heap.size, 0, none⟩ = some (.int .u16 0) := (blk_at HX.out.a 0).trans rfl
  have zb0 : W0.frozen? ⟨w.heap.size, 0, none⟩ = false := blk_free HX.out.a 0
  have za1 : W0.cell? ⟨w.heap.size, 1, none⟩ = some (.int .u64 0) := (blk_at HX.out.a 1).trans rfl
  have zb1 : W0.frozen? ⟨w.heap.size, 1, none⟩ = false := blk_free HX.out.a 1
  have za2 : W0.cell? ⟨w.heap.size, 2, none⟩ = some (.int .u16 0) := (blk_at HX.out.a 2).trans rfl
  have zb2 : W0.frozen? ⟨w.heap.size, 2, none⟩ = false := blk_free HX.out.a 2
  have za3 : W0.cell? ⟨w.heap.size, 3, none⟩ = some (.string ⟨#[]⟩) := (blk_at HX.out.a 3).trans rfl
  have zb3 : W0.frozen? ⟨w.heap.size, 3, none⟩ = false := blk_free HX.out.a 3
  have za4 : W0.cell? ⟨w.heap.size, 4, none⟩ = some (.int .u32 0) := (blk_at HX.out.a 4).trans rfl
  have zb4 : W0.frozen? ⟨w.heap.size, 4, none⟩ = false := blk_free HX.out.a 4
  have za5 : W0.cell? ⟨w.heap.size, 5, none⟩ = some (.int .u32 0) := (blk_at HX.out.a 5).trans rfl
  have zb5 : W0.frozen? ⟨w.heap.size, 5, none⟩ = false := blk_free HX.out.a 5
  have za6 : W0.cell? ⟨w.heap.size, 6, none⟩ = some (.int .u32 0) := (blk_at HX.out.a 6).trans rfl
  have zb6 : W0.frozen? ⟨w.heap.size, 6, none⟩ = false := blk_free HX.out.a 6
  have za7 : W0.cell? ⟨w.heap.size, 7, none⟩ = some (.slice none 0 0) := (blk_at HX.out.a 7).trans rfl
  have zb7 : W0.frozen? ⟨w.heap.size, 7, none⟩ = false := blk_free HX.out.a 7
  go_wp2_with fail
  refine Calls.mono (HV.out W0 HX.out.bel) ?_
  rintro e W1 ⟨rfl, hb1⟩
  have HX1 : Hid (Bx1 w W1 #[.int .u16 0, .int .u64 0, .int .u16 0, .string ⟨#[]⟩, .int .u32 0, .int .u32 0, .int .u32 0, .slice none 0 0] 28) := HX.out.later hb1
  clear hb1 HX HV
  clear za0 zb0 za1 zb1 za2 zb2 za3 zb3 za4 zb4 za5 zb5 za6 zb6 za7 zb7
  go_wp2_with fail
  have hbx := heap_new W1 (Obj.cells #[.int .u16 0, .int .u64 0, .int .u16 0, .string ⟨#[]⟩, .int .u32 0, .int .u32 0, .int .u32 0, .slice none 0 0] 28)
  have HX2 : Hid (Bx1 w (W1.alloc (Obj.cells #[.int .u16 0, .int .u64 0, .int .u16 0, .string ⟨#[]⟩, .int .u32 0, .int .u32 0, .int .u32 0, .slice none 0 0] 28)) #[.int .u16 0, .int .u64 0, .int .u16 0, .string ⟨#[]⟩, .int .u32 0, .int .u32 0, .int .u32 0, .slice none 0 0] 28) := HX1.out.later (below1 _ _)
  have HGe : Hid (w.heap.size < W1.heap.size ∧ W1.heap.size < (W1.alloc (Obj.cells #[.int .u16 0, .int .u64 0, .int .u16 0, .string ⟨#[]⟩, .int .u32 0, .int .u32 0, .int .u32 0, .slice none 0 0] 28)).heap.size) := ⟨HX1.out.size, by simp⟩
  generalize W1.alloc (Obj.cells #[.int .u16 0, .int .u64 0, .int .u16 0, .string ⟨#[]⟩, .int .u32 0, .int .u32 0, .int .u32 0, .slice none 0 0] 28) = W2 at *
  generalize W1.heap.size = ge at *
  have HBx : Hid (W2.heap[ge]? = some (.cells #[.int .u16 0, .int .u64 0, .int .u16 0, .string ⟨#[]⟩, .int .u32 0, .int .u32 0, .int .u32 0, .slice none 0 0] 28 (0, 0))) := hbx
  clear hbx HX1
  refine Calls.mono (HCp.out W2 HX2.out.bel) ?_
  rintro e W3 ⟨fa, fb, rfl, ho3, hb3⟩
  have HO3 : Hid (W3.ownsRow W2.heap.size 5 1 (.slice fa n fb) n (l.map bv)) := ho3
  have HX3 : Hid (Bx1 w W3 #[.int .u16 0, .int .u64 0, .int .u16 0, .string ⟨#[]⟩, .int .u32 0, .int .u32 0, .int .u32 0, .slice none 0 0] 28 ∧ W3.heap[ge]? = some (.cells #[.int .u16 0, .int .u64 0, .int .u16 0, .string ⟨#[]⟩, .int .u32 0, .int .u32 0, .int .u32 0, .slice none 0 0] 28 (0, 0)) ∧ W2.heap.size ≤ W3.heap.size) := ⟨HX2.out.later hb3, box_later HBx.out hb3, hb3.size⟩
  clear ho3 hb3 HX2 HBx
  go_wp2_with (at_builtin; refine wpList_append_two_make _ rfl _ _ 22 9 3 rfl W2.heap.size 5 i0 Tryz.underlying22 Tryz.underlying9 Tryz.underlying3 hi hz0 hz1 hz2 (.slice fa n fb) n (l.map bv) rfl HO3.out 20 rfl (by decide) (by omega) HX3.out.2.2 ?_; intro fo fc W4 ho4 hg4 _; have HU : Hid (Fu w W4 ge #[.int .u16 0, .int .u64 0, .int .u16 0, .string ⟨#[]⟩, .int .u32 0, .int .u32 0, .int .u32 0, .slice none 0 0] fo (n + 20) fc (l ++ List.replicate 20 0)) := Fu.grown HX3.out.1 HX3.out.2.1 HGe.out.1 HGe.out.2 HO3.out (by rw [List.map_append]; exact ho4) hg4; have c0 : W4.cell? ⟨ge, 0, none⟩ = some (.int .u16 0) := (blk_at HU.out.box 0).trans rfl; clear ho4 hg4 HO3 HX3)
  clear HCp
  have hcr := HU.out.crow HL.out HLn.out (by omega)
  obtain ⟨fbb, foo, hfo⟩ := hcr.some (by rw [HLn.out]; omega)
  subst hfo
  have HV1 : Hid _ := rvalueB fbb foo fc (n + 20) 2 8 (l ++ List.replicate 20 0) W4 hcr HLn (by omega) (by decide) (by decide) (by omega) sz HE1.out
  clear hcr
  go_wp2_with fail
  refine Calls.mono HV1.out ?_
  rintro e Y1 ⟨rfl, hb⟩
  have HU2 : Hid _ := HU.out.later hb
  have x1 : Y1.cell? ⟨ge, 1, none⟩ = some (.int .u64 0) := (blk_at HU2.out.box 1).trans rfl
  have f1 : Y1.frozen? ⟨ge, 1, none⟩ = false := blk_free HU2.out.box 1
  clear hb HU HV1
  go_upto_region 9 with fail
  have HU3 : Hid (Fu w (Y1.setCell ⟨ge, 1, none⟩ (.int .u64 (sz : Int))) ge #[.int .u16 0, .int .u64 (sz : Int), .int .u16 0, .string ⟨#[]⟩, .int .u32 0, .int .u32 0, .int .u32 0, .slice none 0 0] (some ⟨fbb, foo, none⟩) (n + 20) fc (l ++ List.replicate 20 0)) := HU2.out.put 1 _ rfl
  clear HU2 x1 f1
  generalize Y1.setCell ⟨ge, 1, none⟩ (.int .u64 (sz : Int)) = V1 at *
  have HU : Hid _ := HU3.out
  clear HU3
  have wc2 : IntKind.u16.wrap (fl : Int) = (fl : Int) := by rw [IntKind.wrap_u16]; omega
  have hcr := HU.out.crow HL.out HLn.out (by omega)
  have HV2 : Hid _ := rvalueB fbb foo fc (n + 20) 10 2 (l ++ List.replicate 20 0) V1 hcr HLn (by omega) (by decide) (by decide) (by omega) fl HE2.out
  clear hcr
  go_wp2_with fail
  refine Calls.mono HV2.out ?_
  rintro e Y2 ⟨rfl, hb⟩
  have HU2 : Hid _ := HU.out.later hb
  have x2 : Y2.cell? ⟨ge, 2, none⟩ = some (.int .u16 0) := (blk_at HU2.out.box 2).trans rfl
  have f2 : Y2.frozen? ⟨ge, 2, none⟩ = false := blk_free HU2.out.box 2
  clear hb HU HV2
  go_upto_region 17 with fail
  have HU3 : Hid (Fu w (Y2.setCell ⟨ge, 2, none⟩ (.int .u16 (fl : Int))) ge #[.int .u16 0, .int .u64 (sz : Int), .int .u16 (fl : Int), .string ⟨#[]⟩, .int .u32 0, .int .u32 0, .int .u32 0, .slice none 0 0] (some ⟨fbb, foo, none⟩) (n + 20) fc (l ++ List.replicate 20 0)) := HU2.out.put 2 _ rfl
  clear HU2 x2 f2
  generalize Y2.setCell ⟨ge, 2, none⟩ (.int .u16 (fl : Int)) = V2 at *
  have HU : Hid _ := HU3.out
  clear HU3
  have x0 : V2.cell? ⟨ge, 0, none⟩ = some (.int .u16 0) := (blk_at HU.out.box 0).trans rfl
  have x1 : V2.cell? ⟨ge, 1, none⟩ = some (.int .u64 (sz : Int)) := (blk_at HU.out.box 1).trans rfl
  have x2 : V2.cell? ⟨ge, 2, none⟩ = some (.int .u16 (fl : Int)) := (blk_at HU.out.box 2).trans rfl
  have x3 : V2.cell? ⟨ge, 3, none⟩ = some (.string ⟨#[]⟩) := (blk_at HU.out.box 3).trans rfl
  have x4 : V2.cell? ⟨ge, 4, none⟩ = some (.int .u32 0) := (blk_at HU.out.box 4).trans rfl
  have x5 : V2.cell? ⟨ge, 5, none⟩ = some (.int .u32 0) := (blk_at HU.out.box 5).trans rfl
  have x6 : V2.cell? ⟨ge, 6, none⟩ = some (.int .u32 0) := (blk_at HU.out.box 6).trans rfl
  have x7 : V2.cell? ⟨ge, 7, none⟩ = some (.slice none 0 0) := (blk_at HU.out.box 7).trans rfl
  have HPk : Hid _ := HP.out V2 HU.out.bx.bel
  clear HP
  go_wp2_with fail
  refine Calls.mono HPk.out ?_
  rintro e W8 ⟨pa, pc, pn, rfl, hpn, hpr⟩
  have HU8 : Hid _ := HU.out.later hpr.bel
  have hsa := same08_any pa (some ⟨b, off, none⟩) pc cap pn n LL l W8 (hpr.brow (by have := HLL.out; omega)) (HC.out.row.later HU8.out.bx.bel) hpn HN.out
  rw [ht] at hsa
  have HSa : Hid _ := hsa
  clear hsa hpn hpr HU HPk x0 x1 x2 x3 x4 x5 x6 x7
  go_wp2_with fail
  refine Calls.mono HSa.out ?_
  rintro e W9 ⟨rfl, hb9⟩
  have HU9 : Hid _ := HU8.out.later hb9
  clear hb9 HU8 HSa
  have ya0 : W9.cell? ⟨w.heap.size, 0, none⟩ = some (.int .u16 0) := (blk_at HU9.out.bx.a 0).trans rfl
  have yb0 : W9.frozen? ⟨w.heap.size, 0, none⟩ = false := blk_free HU9.out.bx.a 0
  have ya1 : W9.cell? ⟨w.heap.size, 1, none⟩ = some (.int .u64 0) := (blk_at HU9.out.bx.a 1).trans rfl
  have yb1 : W9.frozen? ⟨w.heap.size, 1, none⟩ = false := blk_free HU9.out.bx.a 1
  have ya2 : W9.cell? ⟨w.heap.size, 2, none⟩ = some (.int .u16 0) := (blk_at HU9.out.bx.a 2).trans rfl
  have yb2 : W9.frozen? ⟨w.heap.size, 2, none⟩ = false := blk_free HU9.out.bx.a 2
  have ya3 : W9.cell? ⟨w.heap.size, 3, none⟩ = some (.string ⟨#[]⟩) := (blk_at HU9.out.bx.a 3).trans rfl
  have yb3 : W9.frozen? ⟨w.heap.size, 3, none⟩ = false := blk_free HU9.out.bx.a 3
  have ya4 : W9.cell? ⟨w.heap.size, 4, none⟩ = some (.int .u32 0) := (blk_at HU9.out.bx.a 4).trans rfl
  have yb4 : W9.frozen? ⟨w.heap.size, 4, none⟩ = false := blk_free HU9.out.bx.a 4
  have ya5 : W9.cell? ⟨w.heap.size, 5, none⟩ = some (.int .u32 0) := (blk_at HU9.out.bx.a 5).trans rfl
  have yb5 : W9.frozen? ⟨w.heap.size, 5, none⟩ = false := blk_free HU9.out.bx.a 5
  have ya6 : W9.cell? ⟨w.heap.size, 6, none⟩ = some (.int .u32 0) := (blk_at HU9.out.bx.a 6).trans rfl
  have yb6 : W9.frozen? ⟨w.heap.size, 6, none⟩ = false := blk_free HU9.out.bx.a 6
  have ya7 : W9.cell? ⟨w.heap.size, 7, none⟩ = some (.slice none 0 0) := (blk_at HU9.out.bx.a 7).trans rfl
  have yb7 : W9.frozen? ⟨w.heap.size, 7, none⟩ = false := blk_free HU9.out.bx.a 7
  have HB9 : Hid (Bx1 w W9 #[.int .u16 0, .int .u64 0, .int .u16 0, .string ⟨#[]⟩, .int .u32 0, .int .u32 0, .int .u32 0, .slice none 0 0] 28) := HU9.out.bx
  clear HU9
  go_wp2
  obtain ⟨hp, hq⟩ := putc8 HB9.out.a (.int .u16 0) (.int .u64 0) (.int .u16 0) (.string ⟨#[]⟩) (.int .u32 0) (.int .u32 0) (.int .u32 0) (.slice none 0 0)
  exact bodyPost_ret (results_cell_tmp1 rfl _ _ w.heap.size 28 _ (0, 0) _ rfl hp Tryz.underlying28 rfl infoI) rfl ⟨rfl, HB9.out.bel.trans (hq.below HB9.out.bel.size (fun g hg => by omega))⟩
end Go.Proofs.YtfifaaopdhcaaaaGreatDoor

namespace Go.Proofs.YtfifaaopdhcaaaaGreatDoor
open Go.RowKit
set_option linter.unusedVariables false
set_option linter.unusedSimpArgs false
set_option maxRecDepth 100000
set_option maxHeartbeats 8000000 in
theorem rInfoU1_ok (b off cap n : Nat) (l : List Nat) (w : World) (h : CRow w (some ⟨b, off, none⟩) cap l) (HN : Hid (l.length = n)) (hn : n ≤ 1048576) (h2 : 2 ≤ n) (hv : valB (l.take 2) = 1) (s : ByteArray) (hs : bstr (l.drop 2) = s) (LL : List Nat) (HLL : Hid (LL.length ≤ 1048576)) (HP : Hid (∀ V, Below w.heap.size w V → Calls Tryz.prog 41 #[.agg #[.int .u16 1, .int .u64 0, .int .u16 0, .string s, .int .u32 0, .int .u32 0, .int .u32 0, .slice none 0 0]] V fun e w' => Pk V LL 0 e w')) (ht : decide (LL = l) = true) :
    Calls Tryz.prog 6 #[.slice (some ⟨b, off, none⟩) n cap] w fun e w' => e = .returned (.tuple #[.agg #[.int .u16 1, .int .u64 0, .int .u16 0, .string s, .int .u32 0, .int .u32 0, .int .u32 0, .slice none 0 0], .int .i64 0]) ∧ Below w.heap.size w w' := by
  have HLn : Hid ((l ++ List.replicate 20 0).length = n + 20) := by show _ = _; rw [List.length_append, List.length_replicate, HN.out]
  have hcu := (crow_cut h 2 (by rw [HN.out]; omega)).row
  obtain ⟨ar, har⟩ : ∃ ar, (if cap = 2 then some (⟨b, off, none⟩ : Addr) else some ⟨b, off + 2, none⟩) = ar := ⟨_, rfl⟩
  simp only [har] at hcu
  have hcl : (l.drop 2).length = n - 2 := by rw [List.length_drop, HN.out]
  have HCv : Hid (∀ W, Below w.heap.size w W → (convert 22 9 (.slice ar (n - 2) (cap - 2))).run Tryz.prog W = .ok (.string s) W) := fun W hb => by rw [← hs]; exact conv_row (hcu.later hb) hcl
  have t3 : (2 : Int) ≤ (n : Int) := by omega
  have t4 : (n : Int) ≤ (cap : Int) := by have h1 := h.cap1; have h2 := HN.out; omega
  clear hcu hcl hs
  obtain ⟨i0, hi, hz0, hz1, hz2⟩ := info_parts Tryz.info5
  have HV : Hid (∀ W, Below w.heap.size w W → Calls Tryz.prog 39 #[.slice (some ⟨b, off, none⟩) n cap, .int .i64 0, .int .i64 2] W fun e w' => e = .returned (.int .u64 1) ∧ Below W.heap.size W w') := fun W hb => rvalueB b off cap n 0 2 l W (h.later hb) HN (by omega) (by decide) (by decide) (by omega) _ (by simpa using hv)
  have HCp : Hid (∀ W, Below w.heap.size w W → _) := fun W hb => copyN (some ⟨b, off, none⟩) cap n l W (h.row.later hb) HN.out
  have HC : Hid (CRow w (some ⟨b, off, none⟩) cap l) := h
  have HL : Hid (∀ x ∈ (l ++ List.replicate 20 0), x < 256) := fun x hx => by
    rcases List.mem_append.1 hx with hx | hx
    · exact HC.out.row.lt x hx
    · rw [List.eq_of_mem_replicate hx]; decide
  have t1 : decide ((n : Int) < 2) = false := by simp; omega
  have t2 : ¬ (n : Int) < 2 := by omega
  clear h hv
  have hx := mkb1 w #[.int .u16 0, .int .u64 0, .int .u16 0, .string ⟨#[]⟩, .int .u32 0, .int .u32 0, .int .u32 0, .slice none 0 0] 28
  go_enter Tryz.func6, Tryz.ntmps6
  go_upto_region 1 with fail
  generalize w.alloc (Obj.cells #[.int .u16 0, .int .u64 0, .int .u16 0, .string ⟨#[]⟩, .int .u32 0, .int .u32 0, .int .u32 0, .slice none 0 0] 28) = W0 at *
  have HX : Hid (Bx1 w W0 #[.int .u16 0, .int .u64 0, .int .u16 0, .string ⟨#[]⟩, .int .u32 0, .int .u32 0, .int .u32 0, .slice none 0 0] 28) := hx
  clear hx
  have za0 : W0.cell? ⟨w.heap.size, 0, none⟩ = some (.int .u16 0) := (blk_at HX.out.a 0).trans rfl
  have zb0 : W0.frozen? ⟨w.heap.size, 0, none⟩ = false := blk_free HX.out.a 0
  have za1 : W0.cell? ⟨w.heap.size, 1, none⟩ = some (.int .u64 0) := (blk_at HX.out.a 1).trans rfl
  have zb1 : W0.frozen? ⟨w.heap.size, 1, none⟩ = false := blk_free HX.out.a 1
  have za2 : W0.cell? ⟨w.heap.size, 2, none⟩ = some (.int .u16 0) := (blk_at HX.out.a 2).trans rfl
  have zb2 : W0.frozen? ⟨w.heap.size, 2, none⟩ = false := blk_free HX.out.a 2
  have za3 : W0.cell? ⟨w.heap.size, 3, none⟩ = some (.string ⟨#[]⟩) := (blk_at HX.out.a 3).trans rfl
  have zb3 : W0.frozen? ⟨w.heap.size, 3, none⟩ = false := blk_free HX.out.a 3
  have za4 : W0.cell? ⟨w.heap.size, 4, none⟩ = some (.int .u32 0) := (blk_at HX.out.a 4).trans rfl
  have zb4 : W0.frozen? ⟨w.heap.size, 4, none⟩ = false := blk_free HX.out.a 4
  have za5 : W0.cell? ⟨w.heap.size, 5, none⟩ = some (.int .u32 0) := (blk_at HX.out.a 5).trans rfl
  have zb5 : W0.frozen? ⟨w.heap.size, 5, none⟩ = false := blk_free HX.out.a 5
  have za6 : W0.cell? ⟨w.heap.size, 6, none⟩ = some (.int .u32 0) := (blk_at HX.out.a 6).trans rfl
  have zb6 : W0.frozen? ⟨w.heap.size, 6, none⟩ = false := blk_free HX.out.a 6
  have za7 : W0.cell? ⟨w.heap.size, 7, none⟩ = some (.slice none 0 0) := (blk_at HX.out.a 7).trans rfl
  have zb7 : W0.frozen? ⟨w.heap.size, 7, none⟩ = false := blk_free HX.out.a 7
  go_wp2_with fail
  refine Calls.mono (HV.out W0 HX.out.bel) ?_
  rintro e W1 ⟨rfl, hb1⟩
  have HX1 : Hid (Bx1 w W1 #[.int .u16 0, .int .u64 0, .int .u16 0, .string ⟨#[]⟩, .int .u32 0, .int .u32 0, .int .u32 0, .slice none 0 0] 28) := HX.out.later hb1
  clear hb1 HX HV
  clear za0 zb0 za1 zb1 za2 zb2 za3 zb3 za4 zb4 za5 zb5 za6 zb6 za7 zb7
  go_wp2_with fail
  have hbx := heap_new W1 (Obj.cells #[.int .u16 1, .int .u64 0, .int .u16 0, .string ⟨#[]⟩, .int .u32 0, .int .u32 0, .int .u32 0, .slice none 0 0] 28)
  have HX2 : Hid (Bx1 w (W1.alloc (Obj.cells #[.int .u16 1, .int .u64 0, .int .u16 0, .string ⟨#[]⟩, .int .u32 0, .int .u32 0, .int .u32 0, .slice none 0 0] 28)) #[.int .u16 0, .int .u64 0, .int .u16 0, .string ⟨#[]⟩, .int .u32 0, .int .u32 0, .int .u32 0, .slice none 0 0] 28) := HX1.out.later (below1 _ _)
  have HGe : Hid (w.heap.size < W1.heap.size ∧ W1.heap.size < (W1.alloc (Obj.cells #[.int .u16 1, .int .u64 0, .int .u16 0, .string ⟨#[]⟩, .int .u32 0, .int .u32 0, .int .u32 0, .slice none 0 0] 28)).heap.size) := ⟨HX1.out.size, by simp⟩
  generalize W1.alloc (Obj.cells #[.int .u16 1, .int .u64 0, .int .u16 0, .string ⟨#[]⟩, .int .u32 0, .int .u32 0, .int .u32 0, .slice none 0 0] 28) = W2 at *
  generalize W1.heap.size = ge at *
  have HBx : Hid (W2.heap[ge]? = some (.cells #[.int .u16 1, .int .u64 0, .int .u16 0, .string ⟨#[]⟩, .int .u32 0, .int .u32 0, .int .u32 0, .slice none 0 0] 28 (0, 0))) := hbx
  clear hbx HX1
  refine Calls.mono (HCp.out W2 HX2.out.bel) ?_
  rintro e W3 ⟨fa, fb, rfl, ho3, hb3⟩
  have HO3 : Hid (W3.ownsRow W2.heap.size 5 1 (.slice fa n fb) n (l.map bv)) := ho3
  have HX3 : Hid (Bx1 w W3 #[.int .u16 0, .int .u64 0, .int .u16 0, .string ⟨#[]⟩, .int .u32 0, .int .u32 0, .int .u32 0, .slice none 0 0] 28 ∧ W3.heap[ge]? = some (.cells #[.int .u16 1, .int .u64 0, .int .u16 0, .string ⟨#[]⟩, .int .u32 0, .int .u32 0, .int .u32 0, .slice none 0 0] 28 (0, 0)) ∧ W2.heap.size ≤ W3.heap.size) := ⟨HX2.out.later hb3, box_later HBx.out hb3, hb3.size⟩
  clear ho3 hb3 HX2 HBx
  go_wp2_with (at_builtin; refine wpList_append_two_make _ rfl _ _ 22 9 3 rfl W2.heap.size 5 i0 Tryz.underlying22 Tryz.underlying9 Tryz.underlying3 hi hz0 hz1 hz2 (.slice fa n fb) n (l.map bv) rfl HO3.out 20 rfl (by decide) (by omega) HX3.out.2.2 ?_; intro fo fc W4 ho4 hg4 _; have HU : Hid (Fu w W4 ge #[.int .u16 1, .int .u64 0, .int .u16 0, .string ⟨#[]⟩, .int .u32 0, .int .u32 0, .int .u32 0, .slice none 0 0] fo (n + 20) fc (l ++ List.replicate 20 0)) := Fu.grown HX3.out.1 HX3.out.2.1 HGe.out.1 HGe.out.2 HO3.out (by rw [List.map_append]; exact ho4) hg4; have c0 : W4.cell? ⟨ge, 0, none⟩ = some (.int .u16 1) := (blk_at HU.out.box 0).trans rfl; have hcv := HCv.out W4 HU.out.bx.bel; have x3 : W4.cell? ⟨ge, 3, none⟩ = some (.string ⟨#[]⟩) := (blk_at HU.out.box 3).trans rfl; have f3 : W4.frozen? ⟨ge, 3, none⟩ = false := blk_free HU.out.box 3; have HU3 : Hid (Fu w (W4.setCell ⟨ge, 3, none⟩ (.string s)) ge #[.int .u16 1, .int .u64 0, .int .u16 0, .string s, .int .u32 0, .int .u32 0, .int .u32 0, .slice none 0 0] fo (n + 20) fc (l ++ List.replicate 20 0)) := HU.out.put 3 _ rfl; have u0x : (W4.setCell ⟨ge, 3, none⟩ (.string s)).cell? ⟨ge, 0, none⟩ = some (.int .u16 1) := (blk_at HU3.out.box 0).trans rfl; have u1x : (W4.setCell ⟨ge, 3, none⟩ (.string s)).cell? ⟨ge, 1, none⟩ = some (.int .u64 0) := (blk_at HU3.out.box 1).trans rfl; have u2x : (W4.setCell ⟨ge, 3, none⟩ (.string s)).cell? ⟨ge, 2, none⟩ = some (.int .u16 0) := (blk_at HU3.out.box 2).trans rfl; have u3x : (W4.setCell ⟨ge, 3, none⟩ (.string s)).cell? ⟨ge, 3, none⟩ = some (.string s) := (blk_at HU3.out.box 3).trans rfl; have u4x : (W4.setCell ⟨ge, 3, none⟩ (.string s)).cell? ⟨ge, 4, none⟩ = some (.int .u32 0) := (blk_at HU3.out.box 4).trans rfl; have u5x : (W4.setCell ⟨ge, 3, none⟩ (.string s)).cell? ⟨ge, 5, none⟩ = some (.int .u32 0) := (blk_at HU3.out.box 5).trans rfl; have u6x : (W4.setCell ⟨ge, 3, none⟩ (.string s)).cell? ⟨ge, 6, none⟩ = some (.int .u32 0) := (blk_at HU3.out.box 6).trans rfl; have u7x : (W4.setCell ⟨ge, 3, none⟩ (.string s)).cell? ⟨ge, 7, none⟩ = some (.slice none 0 0) := (blk_at HU3.out.box 7).trans rfl; clear ho4 hg4 HO3 HX3)
  clear HCp
  clear HU x3 f3 c0 hcv HCv u0x u1x u2x u3x u4x u5x u6x u7x
  generalize W4.setCell ⟨ge, 3, none⟩ (.string s) = V3 at *
  have HU : Hid _ := HU3.out
  clear HU3
  have x0 : V3.cell? ⟨ge, 0, none⟩ = some (.int .u16 1) := (blk_at HU.out.box 0).trans rfl
  have x1 : V3.cell? ⟨ge, 1, none⟩ = some (.int .u64 0) := (blk_at HU.out.box 1).trans rfl
  have x2 : V3.cell? ⟨ge, 2, none⟩ = some (.int .u16 0) := (blk_at HU.out.box 2).trans rfl
  have x3 : V3.cell? ⟨ge, 3, none⟩ = some (.string s) := (blk_at HU.out.box 3).trans rfl
  have x4 : V3.cell? ⟨ge, 4, none⟩ = some (.int .u32 0) := (blk_at HU.out.box 4).trans rfl
  have x5 : V3.cell? ⟨ge, 5, none⟩ = some (.int .u32 0) := (blk_at HU.out.box 5).trans rfl
  have x6 : V3.cell? ⟨ge, 6, none⟩ = some (.int .u32 0) := (blk_at HU.out.box 6).trans rfl
  have x7 : V3.cell? ⟨ge, 7, none⟩ = some (.slice none 0 0) := (blk_at HU.out.box 7).trans rfl
  have HPk : Hid _ := HP.out V3 HU.out.bx.bel
  clear HP
  refine Calls.mono HPk.out ?_
  rintro e W8 ⟨pa, pc, pn, rfl, hpn, hpr⟩
  have HU8 : Hid _ := HU.out.later hpr.bel
  have hsa := same08_any pa (some ⟨b, off, none⟩) pc cap pn n LL l W8 (hpr.brow (by have := HLL.out; omega)) (HC.out.row.later HU8.out.bx.bel) hpn HN.out
  rw [ht] at hsa
  have HSa : Hid _ := hsa
  clear hsa hpn hpr HU HPk x0 x1 x2 x3 x4 x5 x6 x7
  go_wp2_with fail
  refine Calls.mono HSa.out ?_
  rintro e W9 ⟨rfl, hb9⟩
  have HU9 : Hid _ := HU8.out.later hb9
  clear hb9 HU8 HSa
  have ya0 : W9.cell? ⟨w.heap.size, 0, none⟩ = some (.int .u16 0) := (blk_at HU9.out.bx.a 0).trans rfl
  have yb0 : W9.frozen? ⟨w.heap.size, 0, none⟩ = false := blk_free HU9.out.bx.a 0
  have ya1 : W9.cell? ⟨w.heap.size, 1, none⟩ = some (.int .u64 0) := (blk_at HU9.out.bx.a 1).trans rfl
  have yb1 : W9.frozen? ⟨w.heap.size, 1, none⟩ = false := blk_free HU9.out.bx.a 1
  have ya2 : W9.cell? ⟨w.heap.size, 2, none⟩ = some (.int .u16 0) := (blk_at HU9.out.bx.a 2).trans rfl
  have yb2 : W9.frozen? ⟨w.heap.size, 2, none⟩ = false := blk_free HU9.out.bx.a 2
  have ya3 : W9.cell? ⟨w.heap.size, 3, none⟩ = some (.string ⟨#[]⟩) := (blk_at HU9.out.bx.a 3).trans rfl
  have yb3 : W9.frozen? ⟨w.heap.size, 3, none⟩ = false := blk_free HU9.out.bx.a 3
  have ya4 : W9.cell? ⟨w.heap.size, 4, none⟩ = some (.int .u32 0) := (blk_at HU9.out.bx.a 4).trans rfl
  have yb4 : W9.frozen? ⟨w.heap.size, 4, none⟩ = false := blk_free HU9.out.bx.a 4
  have ya5 : W9.cell? ⟨w.heap.size, 5, none⟩ = some (.int .u32 0) := (blk_at HU9.out.bx.a 5).trans rfl
  have yb5 : W9.frozen? ⟨w.heap.size, 5, none⟩ = false := blk_free HU9.out.bx.a 5
  have ya6 : W9.cell? ⟨w.heap.size, 6, none⟩ = some (.int .u32 0) := (blk_at HU9.out.bx.a 6).trans rfl
  have yb6 : W9.frozen? ⟨w.heap.size, 6, none⟩ = false := blk_free HU9.out.bx.a 6
  have ya7 : W9.cell? ⟨w.heap.size, 7, none⟩ = some (.slice none 0 0) := (blk_at HU9.out.bx.a 7).trans rfl
  have yb7 : W9.frozen? ⟨w.heap.size, 7, none⟩ = false := blk_free HU9.out.bx.a 7
  have HB9 : Hid (Bx1 w W9 #[.int .u16 0, .int .u64 0, .int .u16 0, .string ⟨#[]⟩, .int .u32 0, .int .u32 0, .int .u32 0, .slice none 0 0] 28) := HU9.out.bx
  have x0 : W9.cell? ⟨ge, 0, none⟩ = some (.int .u16 1) := (blk_at HU9.out.box 0).trans rfl
  have x1 : W9.cell? ⟨ge, 1, none⟩ = some (.int .u64 0) := (blk_at HU9.out.box 1).trans rfl
  have x2 : W9.cell? ⟨ge, 2, none⟩ = some (.int .u16 0) := (blk_at HU9.out.box 2).trans rfl
  have x3 : W9.cell? ⟨ge, 3, none⟩ = some (.string s) := (blk_at HU9.out.box 3).trans rfl
  have x4 : W9.cell? ⟨ge, 4, none⟩ = some (.int .u32 0) := (blk_at HU9.out.box 4).trans rfl
  have x5 : W9.cell? ⟨ge, 5, none⟩ = some (.int .u32 0) := (blk_at HU9.out.box 5).trans rfl
  have x6 : W9.cell? ⟨ge, 6, none⟩ = some (.int .u32 0) := (blk_at HU9.out.box 6).trans rfl
  have x7 : W9.cell? ⟨ge, 7, none⟩ = some (.slice none 0 0) := (blk_at HU9.out.box 7).trans rfl
  clear HU9
  go_wp2
  obtain ⟨hp, hq⟩ := putc8 HB9.out.a (.int .u16 1) (.int .u64 0) (.int .u16 0) (.string s) (.int .u32 0) (.int .u32 0) (.int .u32 0) (.slice none 0 0)
  exact bodyPost_ret (results_cell_tmp1 rfl _ _ w.heap.size 28 _ (0, 0) _ rfl hp Tryz.underlying28 rfl infoI) rfl ⟨rfl, HB9.out.bel.trans (hq.below HB9.out.bel.size (fun g hg => by omega))⟩
set_option maxHeartbeats 8000000 in
theorem rInfoU1_no (b off cap n : Nat) (l : List Nat) (w : World) (h : CRow w (some ⟨b, off, none⟩) cap l) (HN : Hid (l.length = n)) (hn : n ≤ 1048576) (h2 : 2 ≤ n) (hv : valB (l.take 2) = 1) (s : ByteArray) (hs : bstr (l.drop 2) = s) (LL : List Nat) (HLL : Hid (LL.length ≤ 1048576)) (HP : Hid (∀ V, Below w.heap.size w V → Calls Tryz.prog 41 #[.agg #[.int .u16 1, .int .u64 0, .int .u16 0, .string s, .int .u32 0, .int .u32 0, .int .u32 0, .slice none 0 0]] V fun e w' => Pk V LL 81 e w')) :
    Calls Tryz.prog 6 #[.slice (some ⟨b, off, none⟩) n cap] w fun e w' => e = .returned (.tuple #[.agg #[.int .u16 0, .int .u64 0, .int .u16 0, .string ⟨#[]⟩, .int .u32 0, .int .u32 0, .int .u32 0, .slice none 0 0], .int .i64 81]) ∧ Below w.heap.size w w' := by
  have HLn : Hid ((l ++ List.replicate 20 0).length = n + 20) := by show _ = _; rw [List.length_append, List.length_replicate, HN.out]
  have hcu := (crow_cut h 2 (by rw [HN.out]; omega)).row
  obtain ⟨ar, har⟩ : ∃ ar, (if cap = 2 then some (⟨b, off, none⟩ : Addr) else some ⟨b, off + 2, none⟩) = ar := ⟨_, rfl⟩
  simp only [har] at hcu
  have hcl : (l.drop 2).length = n - 2 := by rw [List.length_drop, HN.out]
  have HCv : Hid (∀ W, Below w.heap.size w W → (convert 22 9 (.slice ar (n - 2) (cap - 2))).run Tryz.prog W = .ok (.string s) W) := fun W hb => by rw [← hs]; exact conv_row (hcu.later hb) hcl
  have t3 : (2 : Int) ≤ (n : Int) := by omega
  have t4 : (n : Int) ≤ (cap : Int) := by have h1 := h.cap1; have h2 := HN.out; omega
  clear hcu hcl hs
  obtain ⟨i0, hi, hz0, hz1, hz2⟩ := info_parts Tryz.info5
  have HV : Hid (∀ W, Below w.heap.size w W → Calls Tryz.prog 39 #[.slice (some ⟨b, off, none⟩) n cap, .int .i64 0, .int .i64 2] W fun e w' => e = .returned (.int .u64 1) ∧ Below W.heap.size W w') := fun W hb => rvalueB b off cap n 0 2 l W (h.later hb) HN (by omega) (by decide) (by decide) (by omega) _ (by simpa using hv)
  have HCp : Hid (∀ W, Below w.heap.size w W → _) := fun W hb => copyN (some ⟨b, off, none⟩) cap n l W (h.row.later hb) HN.out
  have HC : Hid (CRow w (some ⟨b, off, none⟩) cap l) := h
  have HL : Hid (∀ x ∈ (l ++ List.replicate 20 0), x < 256) := fun x hx => by
    rcases List.mem_append.1 hx with hx | hx
    · exact HC.out.row.lt x hx
    · rw [List.eq_of_mem_replicate hx]; decide
  have t1 : decide ((n : Int) < 2) = false := by simp; omega
  have t2 : ¬ (n : Int) < 2 := by omega
  clear h hv
  have hx := mkb1 w #[.int .u16 0, .int .u64 0, .int .u16 0, .string ⟨#[]⟩, .int .u32 0, .int .u32 0, .int .u32 0, .slice none 0 0] 28
  go_enter Tryz.func6, Tryz.ntmps6
  go_upto_region 1 with fail
  generalize w.alloc (Obj.cells #[.int .u16 0, .int .u64 0, .int .u16 0, .string ⟨#[]⟩, .int .u32 0, .int .u32 0, .int .u32 0, .slice none 0 0] 28) = W0 at *
  have HX : Hid (Bx1 w W0 #[.int .u16 0, .int .u64 0, .int .u16 0, .string ⟨#[]⟩, .int .u32 0, .int .u32 0, .int .u32 0, .slice none 0 0] 28) := hx
  clear hx
  have za0 : W0.cell? ⟨w.heap.size, 0, none⟩ = some (.int .u16 0) := (blk_at HX.out.a 0).trans rfl
  have zb0 : W0.frozen? ⟨w.heap.size, 0, none⟩ = false := blk_free HX.out.a 0
  have za1 : W0.cell? ⟨w.heap.size, 1, none⟩ = some (.int .u64 0) := (blk_at HX.out.a 1).trans rfl
  have zb1 : W0.frozen? ⟨w.heap.size, 1, none⟩ = false := blk_free HX.out.a 1
  have za2 : W0.cell? ⟨w.heap.size, 2, none⟩ = some (.int .u16 0) := (blk_at HX.out.a 2).trans rfl
  have zb2 : W0.frozen? ⟨w.heap.size, 2, none⟩ = false := blk_free HX.out.a 2
  have za3 : W0.cell? ⟨w.heap.size, 3, none⟩ = some (.string ⟨#[]⟩) := (blk_at HX.out.a 3).trans rfl
  have zb3 : W0.frozen? ⟨w.heap.size, 3, none⟩ = false := blk_free HX.out.a 3
  have za4 : W0.cell? ⟨w.heap.size, 4, none⟩ = some (.int .u32 0) := (blk_at HX.out.a 4).trans rfl
  have zb4 : W0.frozen? ⟨w.heap.size, 4, none⟩ = false := blk_free HX.out.a 4
  have za5 : W0.cell? ⟨w.heap.size, 5, none⟩ = some (.int .u32 0) := (blk_at HX.out.a 5).trans rfl
  have zb5 : W0.frozen? ⟨w.heap.size, 5, none⟩ = false := blk_free HX.out.a 5
  have za6 : W0.cell? ⟨w.heap.size, 6, none⟩ = some (.int .u32 0) := (blk_at HX.out.a 6).trans rfl
  have zb6 : W0.frozen? ⟨w.heap.size, 6, none⟩ = false := blk_free HX.out.a 6
  have za7 : W0.cell? ⟨w.heap.size, 7, none⟩ = some (.slice none 0 0) := (blk_at HX.out.a 7).trans rfl
  have zb7 : W0.frozen? ⟨w.heap.size, 7, none⟩ = false := blk_free HX.out.a 7
  go_wp2_with fail
  refine Calls.mono (HV.out W0 HX.out.bel) ?_
  rintro e W1 ⟨rfl, hb1⟩
  have HX1 : Hid (Bx1 w W1 #[.int .u16 0, .int .u64 0, .int .u16 0, .string ⟨#[]⟩, .int .u32 0, .int .u32 0, .int .u32 0, .slice none 0 0] 28) := HX.out.later hb1
  clear hb1 HX HV
  clear za0 zb0 za1 zb1 za2 zb2 za3 zb3 za4 zb4 za5 zb5 za6 zb6 za7 zb7
  go_wp2_with fail
  have hbx := heap_new W1 (Obj.cells #[.int .u16 1, .int .u64 0, .int .u16 0, .string ⟨#[]⟩, .int .u32 0, .int .u32 0, .int .u32 0, .slice none 0 0] 28)
  have HX2 : Hid (Bx1 w (W1.alloc (Obj.cells #[.int .u16 1, .int .u64 0, .int .u16 0, .string ⟨#[]⟩, .int .u32 0, .int .u32 0, .int .u32 0, .slice none 0 0] 28)) #[.int .u16 0, .int .u64 0, .int .u16 0, .string ⟨#[]⟩, .int .u32 0, .int .u32 0, .int .u32 0, .slice none 0 0] 28) := HX1.out.later (below1 _ _)
  have HGe : Hid (w.heap.size < W1.heap.size ∧ W1.heap.size < (W1.alloc (Obj.cells #[.int .u16 1, .int .u64 0, .int .u16 0, .string ⟨#[]⟩, .int .u32 0, .int .u32 0, .int .u32 0, .slice none 0 0] 28)).heap.size) := ⟨HX1.out.size, by simp⟩
  generalize W1.alloc (Obj.cells #[.int .u16 1, .int .u64 0, .int .u16 0, .string ⟨#[]⟩, .int .u32 0, .int .u32 0, .int .u32 0, .slice none 0 0] 28) = W2 at *
  generalize W1.heap.size = ge at *
  have HBx : Hid (W2.heap[ge]? = some (.cells #[.int .u16 1, .int .u64 0, .int .u16 0, .string ⟨#[]⟩, .int .u32 0, .int .u32 0, .int .u32 0, .slice none 0 0] 28 (0, 0))) := hbx
  clear hbx HX1
  refine Calls.mono (HCp.out W2 HX2.out.bel) ?_
  rintro e W3 ⟨fa, fb, rfl, ho3, hb3⟩
  have HO3 : Hid (W3.ownsRow W2.heap.size 5 1 (.slice fa n fb) n (l.map bv)) := ho3
  have HX3 : Hid (Bx1 w W3 #[.int .u16 0, .int .u64 0, .int .u16 0, .string ⟨#[]⟩, .int .u32 0, .int .u32 0, .int .u32 0, .slice none 0 0] 28 ∧ W3.heap[ge]? = some (.cells #[.int .u16 1, .int .u64 0, .int .u16 0, .string ⟨#[]⟩, .int .u32 0, .int .u32 0, .int .u32 0, .slice none 0 0] 28 (0, 0)) ∧ W2.heap.size ≤ W3.heap.size) := ⟨HX2.out.later hb3, box_later HBx.out hb3, hb3.size⟩
  clear ho3 hb3 HX2 HBx
  go_wp2_with (at_builtin; refine wpList_append_two_make _ rfl _ _ 22 9 3 rfl W2.heap.size 5 i0 Tryz.underlying22 Tryz.underlying9 Tryz.underlying3 hi hz0 hz1 hz2 (.slice fa n fb) n (l.map bv) rfl HO3.out 20 rfl (by decide) (by omega) HX3.out.2.2 ?_; intro fo fc W4 ho4 hg4 _; have HU : Hid (Fu w W4 ge #[.int .u16 1, .int .u64 0, .int .u16 0, .string ⟨#[]⟩, .int .u32 0, .int .u32 0, .int .u32 0, .slice none 0 0] fo (n + 20) fc (l ++ List.replicate 20 0)) := Fu.grown HX3.out.1 HX3.out.2.1 HGe.out.1 HGe.out.2 HO3.out (by rw [List.map_append]; exact ho4) hg4; have c0 : W4.cell? ⟨ge, 0, none⟩ = some (.int .u16 1) := (blk_at HU.out.box 0).trans rfl; have hcv := HCv.out W4 HU.out.bx.bel; have x3 : W4.cell? ⟨ge, 3, none⟩ = some (.string ⟨#[]⟩) := (blk_at HU.out.box 3).trans rfl; have f3 : W4.frozen? ⟨ge, 3, none⟩ = false := blk_free HU.out.box 3; have HU3 : Hid (Fu w (W4.setCell ⟨ge, 3, none⟩ (.string s)) ge #[.int .u16 1, .int .u64 0, .int .u16 0, .string s, .int .u32 0, .int .u32 0, .int .u32 0, .slice none 0 0] fo (n + 20) fc (l ++ List.replicate 20 0)) := HU.out.put 3 _ rfl; have u0x : (W4.setCell ⟨ge, 3, none⟩ (.string s)).cell? ⟨ge, 0, none⟩ = some (.int .u16 1) := (blk_at HU3.out.box 0).trans rfl; have u1x : (W4.setCell ⟨ge, 3, none⟩ (.string s)).cell? ⟨ge, 1, none⟩ = some (.int .u64 0) := (blk_at HU3.out.box 1).trans rfl; have u2x : (W4.setCell ⟨ge, 3, none⟩ (.string s)).cell? ⟨ge, 2, none⟩ = some (.int .u16 0) := (blk_at HU3.out.box 2).trans rfl; have u3x : (W4.setCell ⟨ge, 3, none⟩ (.string s)).cell? ⟨ge, 3, none⟩ = some (.string s) := (blk_at HU3.out.box 3).trans rfl; have u4x : (W4.setCell ⟨ge, 3, none⟩ (.string s)).cell? ⟨ge, 4, none⟩ = some (.int .u32 0) := (blk_at HU3.out.box 4).trans rfl; have u5x : (W4.setCell ⟨ge, 3, none⟩ (.string s)).cell? ⟨ge, 5, none⟩ = some (.int .u32 0) := (blk_at HU3.out.box 5).trans rfl; have u6x : (W4.setCell ⟨ge, 3, none⟩ (.string s)).cell? ⟨ge, 6, none⟩ = some (.int .u32 0) := (blk_at HU3.out.box 6).trans rfl; have u7x : (W4.setCell ⟨ge, 3, none⟩ (.string s)).cell? ⟨ge, 7, none⟩ = some (.slice none 0 0) := (blk_at HU3.out.box 7).trans rfl; clear ho4 hg4 HO3 HX3)
  clear HCp
  clear HU x3 f3 c0 hcv HCv u0x u1x u2x u3x u4x u5x u6x u7x
  generalize W4.setCell ⟨ge, 3, none⟩ (.string s) = V3 at *
  have HU : Hid _ := HU3.out
  clear HU3
  have x0 : V3.cell? ⟨ge, 0, none⟩ = some (.int .u16 1) := (blk_at HU.out.box 0).trans rfl
  have x1 : V3.cell? ⟨ge, 1, none⟩ = some (.int .u64 0) := (blk_at HU.out.box 1).trans rfl
  have x2 : V3.cell? ⟨ge, 2, none⟩ = some (.int .u16 0) := (blk_at HU.out.box 2).trans rfl
  have x3 : V3.cell? ⟨ge, 3, none⟩ = some (.string s) := (blk_at HU.out.box 3).trans rfl
  have x4 : V3.cell? ⟨ge, 4, none⟩ = some (.int .u32 0) := (blk_at HU.out.box 4).trans rfl
  have x5 : V3.cell? ⟨ge, 5, none⟩ = some (.int .u32 0) := (blk_at HU.out.box 5).trans rfl
  have x6 : V3.cell? ⟨ge, 6, none⟩ = some (.int .u32 0) := (blk_at HU.out.box 6).trans rfl
  have x7 : V3.cell? ⟨ge, 7, none⟩ = some (.slice none 0 0) := (blk_at HU.out.box 7).trans rfl
  have HPk : Hid _ := HP.out V3 HU.out.bx.bel
  clear HP
  refine Calls.mono HPk.out ?_
  rintro e W8 ⟨pa, pc, pn, rfl, hpn, hpr⟩
  have HU8 : Hid _ := HU.out.later hpr.bel
  clear hpn hpr HU HPk x0 x1 x2 x3 x4 x5 x6 x7
  have ya0 : W8.cell? ⟨w.heap.size, 0, none⟩ = some (.int .u16 0) := (blk_at HU8.out.bx.a 0).trans rfl
  have yb0 : W8.frozen? ⟨w.heap.size, 0, none⟩ = false := blk_free HU8.out.bx.a 0
  have ya1 : W8.cell? ⟨w.heap.size, 1, none⟩ = some (.int .u64 0) := (blk_at HU8.out.bx.a 1).trans rfl
  have yb1 : W8.frozen? ⟨w.heap.size, 1, none⟩ = false := blk_free HU8.out.bx.a 1
  have ya2 : W8.cell? ⟨w.heap.size, 2, none⟩ = some (.int .u16 0) := (blk_at HU8.out.bx.a 2).trans rfl
  have yb2 : W8.frozen? ⟨w.heap.size, 2, none⟩ = false := blk_free HU8.out.bx.a 2
  have ya3 : W8.cell? ⟨w.heap.size, 3, none⟩ = some (.string ⟨#[]⟩) := (blk_at HU8.out.bx.a 3).trans rfl
  have yb3 : W8.frozen? ⟨w.heap.size, 3, none⟩ = false := blk_free HU8.out.bx.a 3
  have ya4 : W8.cell? ⟨w.heap.size, 4, none⟩ = some (.int .u32 0) := (blk_at HU8.out.bx.a 4).trans rfl
  have yb4 : W8.frozen? ⟨w.heap.size, 4, none⟩ = false := blk_free HU8.out.bx.a 4
  have ya5 : W8.cell? ⟨w.heap.size, 5, none⟩ = some (.int .u32 0) := (blk_at HU8.out.bx.a 5).trans rfl
  have yb5 : W8.frozen? ⟨w.heap.size, 5, none⟩ = false := blk_free HU8.out.bx.a 5
  have ya6 : W8.cell? ⟨w.heap.size, 6, none⟩ = some (.int .u32 0) := (blk_at HU8.out.bx.a 6).trans rfl
  have yb6 : W8.frozen? ⟨w.heap.size, 6, none⟩ = false := blk_free HU8.out.bx.a 6
  have ya7 : W8.cell? ⟨w.heap.size, 7, none⟩ = some (.slice none 0 0) := (blk_at HU8.out.bx.a 7).trans rfl
  have yb7 : W8.frozen? ⟨w.heap.size, 7, none⟩ = false := blk_free HU8.out.bx.a 7
  have HB9 : Hid (Bx1 w W8 #[.int .u16 0, .int .u64 0, .int .u16 0, .string ⟨#[]⟩, .int .u32 0, .int .u32 0, .int .u32 0, .slice none 0 0] 28) := HU8.out.bx
  clear HU8
  go_wp2
  obtain ⟨hp, hq⟩ := putc8 HB9.out.a (.int .u16 0) (.int .u64 0) (.int .u16 0) (.string ⟨#[]⟩) (.int .u32 0) (.int .u32 0) (.int .u32 0) (.slice none 0 0)
  exact bodyPost_ret (results_cell_tmp1 rfl _ _ w.heap.size 28 _ (0, 0) _ rfl hp Tryz.underlying28 rfl infoI) rfl ⟨rfl, HB9.out.bel.trans (hq.below HB9.out.bel.size (fun g hg => by omega))⟩
end Go.Proofs.YtfifaaopdhcaaaaGreatDoor

namespace Go.Proofs.YtfifaaopdhcaaaaGreatDoor
open Go.RowKit
set_option linter.unusedVariables false
set_option linter.unusedSimpArgs false
set_option maxRecDepth 100000
set_option maxHeartbeats 8000000 in
theorem rInfoU2_ok (b off cap n : Nat) (l : List Nat) (w : World) (h : CRow w (some ⟨b, off, none⟩) cap l) (HN : Hid (l.length = n)) (hn : n ≤ 1048576) (h2 : 2 ≤ n) (hv : valB (l.take 2) = 2) (s : ByteArray) (hs : bstr (l.drop 2) = s) (LL : List Nat) (HLL : Hid (LL.length ≤ 1048576)) (HP : Hid (∀ V, Below w.heap.size w V → Calls Tryz.prog 41 #[.agg #[.int .u16 2, .int .u64 0, .int .u16 0, .string s, .int .u32 0, .int .u32 0, .int .u32 0, .slice none 0 0]] V fun e w' => Pk V LL 0 e w')) (ht : decide (LL = l) = true) :
    Calls Tryz.prog 6 #[.slice (some ⟨b, off, none⟩) n cap] w fun e w' => e = .returned (.tuple #[.agg #[.int .u16 2, .int .u64 0, .int .u16 0, .string s, .int .u32 0, .int .u32 0, .int .u32 0, .slice none 0 0], .int .i64 0]) ∧ Below w.heap.size w w' := by
  have HLn : Hid ((l ++ List.replicate 20 0).length = n + 20) := by show _ = _; rw [List.length_append, List.length_replicate, HN.out]
  have hcu := (crow_cut h 2 (by rw [HN.out]; omega)).row
  obtain ⟨ar, har⟩ : ∃ ar, (if cap = 2 then some (⟨b, off, none⟩ : Addr) else some ⟨b, off + 2, none⟩) = ar := ⟨_, rfl⟩
  simp only [har] at hcu
  have hcl : (l.drop 2).length = n - 2 := by rw [List.length_drop, HN.out]
  have HCv : Hid (∀ W, Below w.heap.size w W → (convert 22 9 (.slice ar (n - 2) (cap - 2))).run Tryz.prog W = .ok (.string s) W) := fun W hb => by rw [← hs]; exact conv_row (hcu.later hb) hcl
  have t3 : (2 : Int) ≤ (n : Int) := by omega
  have t4 : (n : Int) ≤ (cap : Int) := by have h1 := h.cap1; have h2 := HN.out; omega
  clear hcu hcl hs
  obtain ⟨i0, hi, hz0, hz1, hz2⟩ := info_parts Tryz.info5
  have HV : Hid (∀ W, Below w.heap.size w W → Calls Tryz.prog 39 #[.slice (some ⟨b, off, none⟩) n cap, .int .i64 0, .int .i64 2] W fun e w' => e = .returned (.int .u64 2) ∧ Below W.heap.size W w') := fun W hb => rvalueB b off cap n 0 2 l W (h.later hb) HN (by omega) (by decide) (by decide) (by omega) _ (by simpa using hv)
  have HCp : Hid (∀ W, Below w.heap.size w W → _) := fun W hb => copyN (some ⟨b, off, none⟩) cap n l W (h.row.later hb) HN.out
  have HC : Hid (CRow w (some ⟨b, off, none⟩) cap l) := h
  have HL : Hid (∀ x ∈ (l ++ List.replicate 20 0), x < 256) := fun x hx => by
    rcases List.mem_append.1 hx with hx | hx
    · exact HC.out.row.lt x hx
    · rw [List.eq_of_mem_replicate hx]; decide
  have t1 : decide ((n : Int) < 2) = false := by simp; omega
  have t2 : ¬ (n : Int) < 2 := by omega
  clear h hv
  have hx := mkb1 w #[.int .u16 0, .int .u64 0, .int .u16 0, .string ⟨#[]⟩, .int .u32 0, .int .u32 0, .int .u32 0, .slice none 0 0] 28
  go_enter Tryz.func6, Tryz.ntmps6
  go_upto_region 1 with fail
  generalize w.alloc (Obj.cells #[.int .u16 0, .int .u64 0, .int .u16 0, .string ⟨#[]⟩, .int .u32 0, .int .u32 0, .int .u32 0, .slice none 0 0] 28) = W0 at *
  have HX : Hid (Bx1 w W0 #[.int .u16 0, .int .u64 0, .int .u16 0, .string ⟨#[]⟩, .int .u32 0, .int .u32 0, .int .u32 0, .slice none 0 0] 28) := hx
  clear hx
  have za0 : W0.cell? ⟨w.heap.size, 0, none⟩ = some (.int .u16 0) := (blk_at HX.out.a 0).trans rfl
  have zb0 : W0.frozen? ⟨w.heap.size, 0, none⟩ = false := blk_free HX.out.a 0
  have za1 : W0.cell? ⟨w.heap.size, 1, none⟩ = some (.int .u64 0) := (blk_at HX.out.a 1).trans rfl
  have zb1 : W0.frozen? ⟨w.heap.size, 1, none⟩ = false := blk_free HX.out.a 1
  have za2 : W0.cell? ⟨w.heap.size, 2, none⟩ = some (.int .u16 0) := (blk_at HX.out.a 2).trans rfl
  have zb2 : W0.frozen? ⟨w.heap.size, 2, none⟩ = false := blk_free HX.out.a 2
  have za3 : W0.cell? ⟨w.heap.size, 3, none⟩ = some (.string ⟨#[]⟩) := (blk_at HX.out.a 3).trans rfl
  have zb3 : W0.frozen? ⟨w.heap.size, 3, none⟩ = false := blk_free HX.out.a 3
  have za4 : W0.cell? ⟨w.heap.size, 4, none⟩ = some (.int .u32 0) := (blk_at HX.out.a 4).trans rfl
  have zb4 : W0.frozen? ⟨w.heap.size, 4, none⟩ = false := blk_free HX.out.a 4
  have za5 : W0.cell? ⟨w.heap.size, 5, none⟩ = some (.int .u32 0) := (blk_at HX.out.a 5).trans rfl
  have zb5 : W0.frozen? ⟨w.heap.size, 5, none⟩ = false := blk_free HX.out.a 5
  have za6 : W0.cell? ⟨w.heap.size, 6, none⟩ = some (.int .u32 0) := (blk_at HX.out.a 6).trans rfl
  have zb6 : W0.frozen? ⟨w.heap.size, 6, none⟩ = false := blk_free HX.out.a 6
  have za7 : W0.cell? ⟨w.heap.size, 7, none⟩ = some (.slice none 0 0) := (blk_at HX.out.a 7).trans rfl
  have zb7 : W0.frozen? ⟨w.heap.size, 7, none⟩ = false := blk_free HX.out.a 7
  go_wp2_with fail
  refine Calls.mono (HV.out W0 HX.out.bel) ?_
  rintro e W1 ⟨rfl, hb1⟩
  have HX1 : Hid (Bx1 w W1 #[.int .u16 0, .int .u64 0, .int .u16 0, .string ⟨#[]⟩, .int .u32 0, .int .u32 0, .int .u32 0, .slice none 0 0] 28) := HX.out.later hb1
  clear hb1 HX HV
  clear za0 zb0 za1 zb1 za2 zb2 za3 zb3 za4 zb4 za5 zb5 za6 zb6 za7 zb7
  go_wp2_with fail
  have hbx := heap_new W1 (Obj.cells #[.int .u16 2, .int .u64 0, .int .u16 0, .string ⟨#[]⟩, .int .u32 0, .int .u32 0, .int .u32 0, .slice none 0 0] 28)
  have HX2 : Hid (Bx1 w (W1.alloc (Obj.cells #[.int .u16 2, .int .u64 0, .int .u16 0, .string ⟨#[]⟩, .int .u32 0, .int .u32 0, .int .u32 0, .slice none 0 0] 28)) #[.int .u16 0, .int .u64 0, .int .u16 0, .string ⟨#[]⟩, .int .u32 0, .int .u32 0, .int .u32 0, .slice none 0 0] 28) := HX1.out.later (below1 _ _)
  have HGe : Hid (w.heap.size < W1.heap.size ∧ W1.heap.size < (W1.alloc (Obj.cells #[.int .u16 2, .int .u64 0, .int .u16 0, .string ⟨#[]⟩, .int .u32 0, .int .u32 0, .int .u32 0, .slice none 0 0] 28)).heap.size) := ⟨HX1.out.size, by simp⟩
  generalize W1.alloc (Obj.cells #[.int .u16 2, .int .u64 0, .int .u16 0, .string ⟨#[]⟩, .int .u32 0, .int .u32 0, .int .u32 0, .slice none 0 0] 28) = W2 at *
  generalize W1.heap.size = ge at *
  have HBx : Hid (W2.heap[ge]? = some (.cells #[.int .u16 2, .int .u64 0, .int .u16 0, .string ⟨#[]⟩, .int .u32 0, .int .u32 0, .int .u32 0, .slice none 0 0] 28 (0, 0))) := hbx
  clear hbx HX1
  refine Calls.mono (HCp.out W2 HX2.out.bel) ?_
  rintro e W3 ⟨fa, fb, rfl, ho3, hb3⟩
  have HO3 : Hid (W3.ownsRow W2.heap.size 5 1 (.slice fa n fb) n (l.map bv)) := ho3
  have HX3 : Hid (Bx1 w W3 #[.int .u16 0, .int .u64 0, .int .u16 0, .string ⟨#[]⟩, .int .u32 0, .int .u32 0, .int .u32 0, .slice none 0 0] 28 ∧ W3.heap[ge]? = some (.cells #[.int .u16 2, .int .u64 0, .int .u16 0, .string ⟨#[]⟩, .int .u32 0, .int .u32 0, .int .u32 0, .slice none 0 0] 28 (0, 0)) ∧ W2.heap.size ≤ W3.heap.size) := ⟨HX2.out.later hb3, box_later HBx.out hb3, hb3.size⟩
  clear ho3 hb3 HX2 HBx
  go_wp2_with (at_builtin; refine wpList_append_two_make _ rfl _ _ 22 9 3 rfl W2.heap.size 5 i0 Tryz.underlying22 Tryz.underlying9 Tryz.underlying3 hi hz0 hz1 hz2 (.slice fa n fb) n (l.map bv) rfl HO3.out 20 rfl (by decide) (by omega) HX3.out.2.2 ?_; intro fo fc W4 ho4 hg4 _; have HU : Hid (Fu w W4 ge #[.int .u16 2, .int .u64 0, .int .u16 0, .string ⟨#[]⟩, .int .u32 0, .int .u32 0, .int .u32 0, .slice none 0 0] fo (n + 20) fc (l ++ List.replicate 20 0)) := Fu.grown HX3.out.1 HX3.out.2.1 HGe.out.1 HGe.out.2 HO3.out (by rw [List.map_append]; exact ho4) hg4; have c0 : W4.cell? ⟨ge, 0, none⟩ = some (.int .u16 2) := (blk_at HU.out.box 0).trans rfl; have hcv := HCv.out W4 HU.out.bx.bel; have x3 : W4.cell? ⟨ge, 3, none⟩ = some (.string ⟨#[]⟩) := (blk_at HU.out.box 3).trans rfl; have f3 : W4.frozen? ⟨ge, 3, none⟩ = false := blk_free HU.out.box 3; have HU3 : Hid (Fu w (W4.setCell ⟨ge, 3, none⟩ (.string s)) ge #[.int .u16 2, .int .u64 0, .int .u16 0, .string s, .int .u32 0, .int .u32 0, .int .u32 0, .slice none 0 0] fo (n + 20) fc (l ++ List.replicate 20 0)) := HU.out.put 3 _ rfl; have u0x : (W4.setCell ⟨ge, 3, none⟩ (.string s)).cell? ⟨ge, 0, none⟩ = some (.int .u16 2) := (blk_at HU3.out.box 0).trans rfl; have u1x : (W4.setCell ⟨ge, 3, none⟩ (.string s)).cell? ⟨ge, 1, none⟩ = some (.int .u64 0) := (blk_at HU3.out.box 1).trans rfl; have u2x : (W4.setCell ⟨ge, 3, none⟩ (.string s)).cell? ⟨ge, 2, none⟩ = some (.int .u16 0) := (blk_at HU3.out.box 2).trans rfl; have u3x : (W4.setCell ⟨ge, 3, none⟩ (.string s)).cell? ⟨ge, 3, none⟩ = some (.string s) := (blk_at HU3.out.box 3).trans rfl; have u4x : (W4.setCell ⟨ge, 3, none⟩ (.string s)).cell? ⟨ge, 4, none⟩ = some (.int .u32 0) := (blk_at HU3.out.box 4).trans rfl; have u5x : (W4.setCell ⟨ge, 3, none⟩ (.string s)).cell? ⟨ge, 5, none⟩ = some (.int .u32 0) := (blk_at HU3.out.box 5).trans rfl; have u6x : (W4.setCell ⟨ge, 3, none⟩ (.string s)).cell? ⟨ge, 6, none⟩ = some (.int .u32 0) := (blk_at HU3.out.box 6).trans rfl; have u7x : (W4.setCell ⟨ge, 3, none⟩ (.string s)).cell? ⟨ge, 7, none⟩ = some (.slice none 0 0) := (blk_at HU3.out.box 7).trans rfl; clear ho4 hg4 HO3 HX3)
  clear HCp
  clear HU x3 f3 c0 hcv HCv u0x u1x u2x u3x u4x u5x u6x u7x
  generalize W4.setCell ⟨ge, 3, none⟩ (.string s) = V3 at *
  have HU : Hid _ := HU3.out
  clear HU3
  have x0 : V3.cell? ⟨ge, 0, none⟩ = some (.int .u16 2) := (blk_at HU.out.box 0).trans rfl
  have x1 : V3.cell? ⟨ge, 1, none⟩ = some (.int .u64 0) := (blk_at HU.out.box 1).trans rfl
  have x2 : V3.cell? ⟨ge, 2, none⟩ = some (.int .u16 0) := (blk_at HU.out.box 2).trans rfl
  have x3 : V3.cell? ⟨ge, 3, none⟩ = some (.string s) := (blk_at HU.out.box 3).trans rfl
  have x4 : V3.cell? ⟨ge, 4, none⟩ = some (.int .u32 0) := (blk_at HU.out.box 4).trans rfl
  have x5 : V3.cell? ⟨ge, 5, none⟩ = some (.int .u32 0) := (blk_at HU.out.box 5).trans rfl
  have x6 : V3.cell? ⟨ge, 6, none⟩ = some (.int .u32 0) := (blk_at HU.out.box 6).trans rfl
  have x7 : V3.cell? ⟨ge, 7, none⟩ = some (.slice none 0 0) := (blk_at HU.out.box 7).trans rfl
  have HPk : Hid _ := HP.out V3 HU.out.bx.bel
  clear HP
  refine Calls.mono HPk.out ?_
  rintro e W8 ⟨pa, pc, pn, rfl, hpn, hpr⟩
  have HU8 : Hid _ := HU.out.later hpr.bel
  have hsa := same08_any pa (some ⟨b, off, none⟩) pc cap pn n LL l W8 (hpr.brow (by have := HLL.out; omega)) (HC.out.row.later HU8.out.bx.bel) hpn HN.out
  rw [ht] at hsa
  have HSa : Hid _ := hsa
  clear hsa hpn hpr HU HPk x0 x1 x2 x3 x4 x5 x6 x7
  go_wp2_with fail
  refine Calls.mono HSa.out ?_
  rintro e W9 ⟨rfl, hb9⟩
  have HU9 : Hid _ := HU8.out.later hb9
  clear hb9 HU8 HSa
  have ya0 : W9.cell? ⟨w.heap.size, 0, none⟩ = some (.int .u16 0) := (blk_at HU9.out.bx.a 0).trans rfl
  have yb0 : W9.frozen? ⟨w.heap.size, 0, none⟩ = false := blk_free HU9.out.bx.a 0
  have ya1 : W9.cell? ⟨w.heap.size, 1, none⟩ = some (.int .u64 0) := (blk_at HU9.out.bx.a 1).trans rfl
  have yb1 : W9.frozen? ⟨w.heap.size, 1, none⟩ = false := blk_free HU9.out.bx.a 1
  have ya2 : W9.cell? ⟨w.heap.size, 2, none⟩ = some (.int .u16 0) := (blk_at HU9.out.bx.a 2).trans rfl
  have yb2 : W9.frozen? ⟨w.heap.size, 2, none⟩ = false := blk_free HU9.out.bx.a 2
  have ya3 : W9.cell? ⟨w.heap.size, 3, none⟩ = some (.string ⟨#[]⟩) := (blk_at HU9.out.bx.a 3).trans rfl
  have yb3 : W9.frozen? ⟨w.heap.size, 3, none⟩ = false := blk_free HU9.out.bx.a 3
  have ya4 : W9.cell? ⟨w.heap.size, 4, none⟩ = some (.int .u32 0) := (blk_at HU9.out.bx.a 4).trans rfl
  have yb4 : W9.frozen? ⟨w.heap.size, 4, none⟩ = false := blk_free HU9.out.bx.a 4
  have ya5 : W9.cell? ⟨w.heap.size, 5, none⟩ = some (.int .u32 0) := (blk_at HU9.out.bx.a 5).trans rfl
  have yb5 : W9.frozen? ⟨w.heap.size, 5, none⟩ = false := blk_free HU9.out.bx.a 5
  have ya6 : W9.cell? ⟨w.heap.size, 6, none⟩ = some (.int .u32 0) := (blk_at HU9.out.bx.a 6).trans rfl
  have yb6 : W9.frozen? ⟨w.heap.size, 6, none⟩ = false := blk_free HU9.out.bx.a 6
  have ya7 : W9.cell? ⟨w.heap.size, 7, none⟩ = some (.slice none 0 0) := (blk_at HU9.out.bx.a 7).trans rfl
  have yb7 : W9.frozen? ⟨w.heap.size, 7, none⟩ = false := blk_free HU9.out.bx.a 7
  have HB9 : Hid (Bx1 w W9 #[.int .u16 0, .int .u64 0, .int .u16 0, .string ⟨#[]⟩, .int .u32 0, .int .u32 0, .int .u32 0, .slice none 0 0] 28) := HU9.out.bx
  have x0 : W9.cell? ⟨ge, 0, none⟩ = some (.int .u16 2) := (blk_at HU9.out.box 0).trans rfl
  have x1 : W9.cell? ⟨ge, 1, none⟩ = some (.int .u64 0) := (blk_at HU9.out.box 1).trans rfl
  have x2 : W9.cell? ⟨ge, 2, none⟩ = some (.int .u16 0) := (blk_at HU9.out.box 2).trans rfl
  have x3 : W9.cell? ⟨ge, 3, none⟩ = some (.string s) := (blk_at HU9.out.box 3).trans rfl
  have x4 : W9.cell? ⟨ge, 4, none⟩ = some (.int .u32 0) := (blk_at HU9.out.box 4).trans rfl
  have x5 : W9.cell? ⟨ge, 5, none⟩ = some (.int .u32 0) := (blk_at HU9.out.box 5).trans rfl
  have x6 : W9.cell? ⟨ge, 6, none⟩ = some (.int .u32 0) := (blk_at HU9.out.box 6).trans rfl
  have x7 : W9.cell? ⟨ge, 7, none⟩ = some (.slice none 0 0) := (blk_at HU9.out.box 7).trans rfl
  clear HU9
  go_wp2
  obtain ⟨hp, hq⟩ := putc8 HB9.out.a (.int .u16 2) (.int .u64 0) (.int .u16 0) (.string s) (.int .u32 0) (.int .u32 0) (.int .u32 0) (.slice none 0 0)
  exact bodyPost_ret (results_cell_tmp1 rfl _ _ w.heap.size 28 _ (0, 0) _ rfl hp Tryz.underlying28 rfl infoI) rfl ⟨rfl, HB9.out.bel.trans (hq.below HB9.out.bel.size (fun g hg => by omega))⟩
set_option maxHeartbeats 8000000 in
theorem rInfoU2_no (b off cap n : Nat) (l : List Nat) (w : World) (h : CRow w (some ⟨b, off, none⟩) cap l) (HN : Hid (l.length = n)) (hn : n ≤ 1048576) (h2 : 2 ≤ n) (hv : valB (l.take 2) = 2) (s : ByteArray) (hs : bstr (l.drop 2) = s) (LL : List Nat) (HLL : Hid (LL.length ≤ 1048576)) (HP : Hid (∀ V, Below w.heap.size w V → Calls Tryz.prog 41 #[.agg #[.int .u16 2, .int .u64 0, .int .u16 0, .string s, .int .u32 0, .int .u32 0, .int .u32 0, .slice none 0 0]] V fun e w' => Pk V LL 81 e w')) :
    Calls Tryz.prog 6 #[.slice (some ⟨b, off, none⟩) n cap] w fun e w' => e = .returned (.tuple #[.agg #[.int .u16 0, .int .u64 0, .int .u16 0, .string ⟨#[]⟩, .int .u32 0, .int .u32 0, .int .u32 0, .slice none 0 0], .int .i64 81]) ∧ Below w.heap.size w w' := by
  have HLn : Hid ((l ++ List.replicate 20 0).length = n + 20) := by show _ = _; rw [List.length_append, List.length_replicate, HN.out]
  have hcu := (crow_cut h 2 (by rw [HN.out]; omega)).row
  obtain ⟨ar, har⟩ : ∃ ar, (if cap = 2 then some (⟨b, off, none⟩ : Addr) else some ⟨b, off + 2, none⟩) = ar := ⟨_, rfl⟩
  simp only [har] at hcu
  have hcl : (l.drop 2).length = n - 2 := by rw [List.length_drop, HN.out]
  have HCv : Hid (∀ W, Below w.heap.size w W → (convert 22 9 (.slice ar (n - 2) (cap - 2))).run Tryz.prog W = .ok (.string s) W) := fun W hb => by rw [← hs]; exact conv_row (hcu.later hb) hcl
  have t3 : (2 : Int) ≤ (n : Int) := by omega
  have t4 : (n : Int) ≤ (cap : Int) := by have h1 := h.cap1; have h2 := HN.out; omega
  clear hcu hcl hs
  obtain ⟨i0, hi, hz0, hz1, hz2⟩ := info_parts Tryz.info5
  have HV : Hid (∀ W, Below w.heap.size w W → Calls Tryz.prog 39 #[.slice (some ⟨b, off, none⟩) n cap, .int .i64 0, .int .i64 2] W fun e w' => e = .returned (.int .u64 2) ∧ Below W.heap.size W w') := fun W hb => rvalueB b off cap n 0 2 l W (h.later hb) HN (by omega) (by decide) (by decide) (by omega) _ (by simpa using hv)
  have HCp : Hid (∀ W, Below w.heap.size w W → _) := fun W hb => copyN (some ⟨b, off, none⟩) cap n l W (h.row.later hb) HN.out
  have HC : Hid (CRow w (some ⟨b, off, none⟩) cap l) := h
  have HL : Hid (∀ x ∈ (l ++ List.replicate 20 0), x < 256) := fun x hx => by
    rcases List.mem_append.1 hx with hx | hx
    · exact HC.out.row.lt x hx
    · rw [List.eq_of_mem_replicate hx]; decide
  have t1 : decide ((n : Int) < 2) = false := by simp; omega
  have t2 : ¬ (n : Int) < 2 := by omega
  clear h hv
  have hx := mkb1 w #[.int .u16 0, .int .u64 0, .int .u16 0, .string ⟨#[]⟩, .int .u32 0, .int .u32 0, .int .u32 0, .slice none 0 0] 28
  go_enter Tryz.func6, Tryz.ntmps6
  go_upto_region 1 with fail
  generalize w.alloc (Obj.cells #[.int .u16 0, .int .u64 0, .int .u16 0, .string ⟨#[]⟩, .int .u32 0, .int .u32 0, .int .u32 0, .slice none 0 0] 28) = W0 at *
  have HX : Hid (Bx1 w W0 #[.int .u16 0, .int .u64 0, .int .u16 0, .string ⟨#[]⟩, .int .u32 0, .int .u32 0, .int .u32 0, .slice none 0 0] 28) := hx
  clear hx
  have za0 : W0.cell? ⟨w.heap.size, 0, none⟩ = some (.int .u16 0) := (blk_at HX.out.a 0).trans rfl
  have zb0 : W0.frozen? ⟨w.heap.size, 0, none⟩ = false := blk_free HX.out.a 0
  have za1 : W0.cell? ⟨w.heap.size, 1, none⟩ = some (.int .u64 0) := (blk_at HX.out.a 1).trans rfl
  have zb1 : W0.frozen? ⟨w.heap.size, 1, none⟩ = false := blk_free HX.out.a 1
  have za2 : W0.cell? ⟨w.heap.size, 2, none⟩ = some (.int .u16 0) := (blk_at HX.out.a 2).trans rfl
  have zb2 : W0.frozen? ⟨w.heap.size, 2, none⟩ = false := blk_free HX.out.a 2
  have za3 : W0.cell? ⟨w.heap.size, 3, none⟩ = some (.string ⟨#[]⟩) := (blk_at HX.out.a 3).trans rfl
  have zb3 : W0.frozen? ⟨w.heap.size, 3, none⟩ = false := blk_free HX.out.a 3
  have za4 : W0.cell? ⟨w.heap.size, 4, none⟩ = some (.int .u32 0) := (blk_at HX.out.a 4).trans rfl
  have zb4 : W0.frozen? ⟨w.heap.size, 4, none⟩ = false := blk_free HX.out.a 4
  have za5 : W0.cell? ⟨w.heap.size, 5, none⟩ = some (.int .u32 0) := (blk_at HX.out.a 5).trans rfl
  have zb5 : W0.frozen? ⟨w.heap.size, 5, none⟩ = false := blk_free HX.out.a 5
  have za6 : W0.cell? ⟨w.heap.size, 6, none⟩ = some (.int .u32 0) := (blk_at HX.out.a 6).trans rfl
  have zb6 : W0.frozen? ⟨w.heap.size, 6, none⟩ = false := blk_free HX.out.a 6
  have za7 : W0.cell? ⟨w.heap.size, 7, none⟩ = some (.slice none 0 0) := (blk_at HX.out.a 7).trans rfl
  have zb7 : W0.frozen? ⟨w.heap.size, 7, none⟩ = false := blk_free HX.out.a 7
  go_wp2_with fail
  refine Calls.mono (HV.out W0 HX.out.bel) ?_
  rintro e W1 ⟨rfl, hb1⟩
  have HX1 : Hid (Bx1 w W1 #[.int .u16 0, .int .u64 0, .int .u16 0, .string ⟨#[]⟩, .int .u32 0, .int .u32 0, .int .u32 0, .slice none 0 0] 28) := HX.out.later hb1
  clear hb1 HX HV
  clear za0 zb0 za1 zb1 za2 zb2 za3 zb3 za4 zb4 za5 zb5 za6 zb6 za7 zb7
  go_wp2_with fail
  have hbx := heap_new W1 (Obj.cells #[.int .u16 2, .int .u64 0, .int .u16 0, .string ⟨#[]⟩, .int .u32 0, .int .u32 0, .int .u32 0, .slice none 0 0] 28)
  have HX2 : Hid (Bx1 w (W1.alloc (Obj.cells #[.int .u16 2, .int .u64 0, .int .u16 0, .string ⟨#[]⟩, .int .u32 0, .int .u32 0, .int .u32 0, .slice none 0 0] 28)) #[.int .u16 0, .int .u64 0, .int .u16 0, .string ⟨#[]⟩, .int .u32 0, .int .u32 0, .int .u32 0, .slice none 0 0] 28) := HX1.out.later (below1 _ _)
  have HGe : Hid (w.heap.size < W1.heap.size ∧ W1.heap.size < (W1.alloc (Obj.cells #[.int .u16 2, .int .u64 0, .int .u16 0, .string ⟨#[]⟩, .int .u32 0, .int .u32 0, .int .u32 0, .slice none 0 0] 28)).heap.size) := ⟨HX1.out.size, by simp⟩
  generalize W1.alloc (Obj.cells #[.int .u16 2, .int .u64 0, .int .u16 0, .string ⟨#[]⟩, .int .u32 0, .int .u32 0, .int .u32 0, .slice none 0 0] 28) = W2 at *
  generalize W1.heap.size = ge at *
  have HBx : Hid (W2.heap[ge]? = some (.cells #[.int .u16 2, .int .u64 0, .int .u16 0, .string ⟨#[]⟩, .int .u32 0, .int .u32 0, .int .u32 0, .slice none 0 0] 28 (0, 0))) := hbx
  clear hbx HX1
  refine Calls.mono (HCp.out W2 HX2.out.bel) ?_
  rintro e W3 ⟨fa, fb, rfl, ho3, hb3⟩
  have HO3 : Hid (W3.ownsRow W2.heap.size 5 1 (.slice fa n fb) n (l.map bv)) := ho3
  have HX3 : Hid (Bx1 w W3 #[.int .u16 0, .int .u64 0, .int .u16 0, .string ⟨#[]⟩, .int .u32 0, .int .u32 0, .int .u32 0, .slice none 0 0] 28 ∧ W3.heap[ge]? = some (.cells #[.int .u16 2, .int .u64 0, .int .u16 0, .string ⟨#[]⟩, .int .u32 0, .int .u32 0, .int .u32 0, .slice none 0 0] 28 (0, 0)) ∧ W2.heap.size ≤ W3.heap.size) := ⟨HX2.out.later hb3, box_later HBx.out hb3, hb3.size⟩
  clear ho3 hb3 HX2 HBx
  go_wp2_with (at_builtin; refine wpList_append_two_make _ rfl _ _ 22 9 3 rfl W2.heap.size 5 i0 Tryz.underlying22 Tryz.underlying9 Tryz.underlying3 hi hz0 hz1 hz2 (.slice fa n fb) n (l.map bv) rfl HO3.out 20 rfl (by decide) (by omega) HX3.out.2.2 ?_; intro fo fc W4 ho4 hg4 _; have HU : Hid (Fu w W4 ge #[.int .u16 2, .int .u64 0, .int .u16 0, .string ⟨#[]⟩, .int .u32 0, .int .u32 0, .int .u32 0, .slice none 0 0] fo (n + 20) fc (l ++ List.replicate 20 0)) := Fu.grown HX3.out.1 HX3.out.2.1 HGe.out.1 HGe.out.2 HO3.out (by rw [List.map_append]; exact ho4) hg4; have c0 : W4.cell? ⟨ge, 0, none⟩ = some (.int .u16 2) := (blk_at HU.out.box 0).trans rfl; have hcv := HCv.out W4 HU.out.bx.bel; have x3 : W4.cell? ⟨ge, 3, none⟩ = some (.string ⟨#[]⟩) := (blk_at HU.out.box 3).trans rfl; have f3 : W4.frozen? ⟨ge, 3, none⟩ = false := blk_free HU.out.box 3; have HU3 : Hid (Fu w (W4.setCell ⟨ge, 3, none⟩ (.string s)) ge #[.int .u16 2, .int .u64 0, .int .u16 0, .string s, .int .u32 0, .int .u32 0, .int .u32 0, .slice none 0 0] fo (n + 20) fc (l ++ List.replicate 20 0)) := HU.out.put 3 _ rfl; have u0x : (W4.setCell ⟨ge, 3, none⟩ (.string s)).cell? ⟨ge, 0, none⟩ = some (.int .u16 2) := (blk_at HU3.out.box 0).trans rfl; have u1x : (W4.setCell ⟨ge, 3, none⟩ (.string s)).cell? ⟨ge, 1, none⟩ = some (.int .u64 0) := (blk_at HU3.out.box 1).trans rfl; have u2x : (W4.setCell ⟨ge, 3, none⟩ (.string s)).cell? ⟨ge, 2, none⟩ = some (.int .u16 0) := (blk_at HU3.out.box 2).trans rfl; have u3x : (W4.setCell ⟨ge, 3, none⟩ (.string s)).cell? ⟨ge, 3, none⟩ = some (.string s) := (blk_at HU3.out.box 3).trans rfl; have u4x : (W4.setCell ⟨ge, 3, none⟩ (.string s)).cell? ⟨ge, 4, none⟩ = some (.int .u32 0) := (blk_at HU3.out.box 4).trans rfl; have u5x : (W4.setCell ⟨ge, 3, none⟩ (.string s)).cell? ⟨ge, 5, none⟩ = some (.int .u32 0) := (blk_at HU3.out.box 5).trans rfl; have u6x : (W4.setCell ⟨ge, 3, none⟩ (.string s)).cell? ⟨ge, 6, none⟩ = some (.int .u32 0) := (blk_at HU3.out.box 6).trans rfl; have u7x : (W4.setCell ⟨ge, 3, none⟩ (.string s)).cell? ⟨ge, 7, none⟩ = some (.slice none 0 0) := (blk_at HU3.out.box 7).trans rfl; clear ho4 hg4 HO3 HX3)
  clear HCp
  clear HU x3 f3 c0 hcv HCv u0x u1x u2x u3x u4x u5x u6x u7x
  generalize W4.setCell ⟨ge, 3, none⟩ (.string s) = V3 at *
  have HU : Hid _ := HU3.out
  clear HU3
  have x0 : V3.cell? ⟨ge, 0, none⟩ = some (.int .u16 2) := (blk_at HU.out.box 0).trans rfl
  have x1 : V3.cell? ⟨ge, 1, none⟩ = some (.int .u64 0) := (blk_at HU.out.box 1).trans rfl
  have x2 : V3.cell? ⟨ge, 2, none⟩ = some (.int .u16 0) := (blk_at HU.out.box 2).trans rfl
  have x3 : V3.cell? ⟨ge, 3, none⟩ = some (.string s) := (blk_at HU.out.box 3).trans rfl
  have x4 : V3.cell? ⟨ge, 4, none⟩ = some (.int .u32 0) := (blk_at HU.out.box 4).trans rfl
  have x5 : V3.cell? ⟨ge, 5, none⟩ = some (.int .u32 0) := (blk_at HU.out.box 5).trans rfl
  have x6 : V3.cell? ⟨ge, 6, none⟩ = some (.int .u32 0) := (blk_at HU.out.box 6).trans rfl
  have x7 : V3.cell? ⟨ge, 7, none⟩ = some (.slice none 0 0) := (blk_at HU.out.box 7).trans rfl
  have HPk : Hid _ := HP.out V3 HU.out.bx.bel
  clear HP
  refine Calls.mono HPk.out ?_
  rintro e W8 ⟨pa, pc, pn, rfl, hpn, hpr⟩
  have HU8 : Hid _ := HU.out.later hpr.bel
  clear hpn hpr HU HPk x0 x1 x2 x3 x4 x5 x6 x7
  have ya0 : W8.cell? ⟨w.heap.size, 0, none⟩ = some (.int .u16 0) := (blk_at HU8.out.bx.a 0).trans rfl
  have yb0 : W8.frozen? ⟨w.heap.size, 0, none⟩ = false := blk_free HU8.out.bx.a 0
  have ya1 : W8.cell? ⟨w.heap.size, 1, none⟩ = some (.int .u64 0) := (blk_at HU8.out.bx.a 1).trans rfl
  have yb1 : W8.frozen? ⟨w.heap.size, 1, none⟩ = false := blk_free HU8.out.bx.a 1
  have ya2 : W8.cell? ⟨w.heap.size, 2, none⟩ = some (.int .u16 0) := (blk_at HU8.out.bx.a 2).trans rfl
  have yb2 : W8.frozen? ⟨w.heap.size, 2, none⟩ = false := blk_free HU8.out.bx.a 2
  have ya3 : W8.cell? ⟨w.heap.size, 3, none⟩ = some (.string ⟨#[]⟩) := (blk_at HU8.out.bx.a 3).trans rfl
  have yb3 : W8.frozen? ⟨w.heap.size, 3, none⟩ = false := blk_free HU8.out.bx.a 3
  have ya4 : W8.cell? ⟨w.heap.size, 4, none⟩ = some (.int .u32 0) := (blk_at HU8.out.bx.a 4).trans rfl
  have yb4 : W8.frozen? ⟨w.heap.size, 4, none⟩ = false := blk_free HU8.out.bx.a 4
  have ya5 : W8.cell? ⟨w.heap.size, 5, none⟩ = some (.int .u32 0) := (blk_at HU8.out.bx.a 5).trans rfl
  have yb5 : W8.frozen? ⟨w.heap.size, 5, none⟩ = false := blk_free HU8.out.bx.a 5
  have ya6 : W8.cell? ⟨w.heap.size, 6, none⟩ = some (.int .u32 0) := (blk_at HU8.out.bx.a 6).trans rfl
  have yb6 : W8.frozen? ⟨w.heap.size, 6, none⟩ = false := blk_free HU8.out.bx.a 6
  have ya7 : W8.cell? ⟨w.heap.size, 7, none⟩ = some (.slice none 0 0) := (blk_at HU8.out.bx.a 7).trans rfl
  have yb7 : W8.frozen? ⟨w.heap.size, 7, none⟩ = false := blk_free HU8.out.bx.a 7
  have HB9 : Hid (Bx1 w W8 #[.int .u16 0, .int .u64 0, .int .u16 0, .string ⟨#[]⟩, .int .u32 0, .int .u32 0, .int .u32 0, .slice none 0 0] 28) := HU8.out.bx
  clear HU8
  go_wp2
  obtain ⟨hp, hq⟩ := putc8 HB9.out.a (.int .u16 0) (.int .u64 0) (.int .u16 0) (.string ⟨#[]⟩) (.int .u32 0) (.int .u32 0) (.int .u32 0) (.slice none 0 0)
  exact bodyPost_ret (results_cell_tmp1 rfl _ _ w.heap.size 28 _ (0, 0) _ rfl hp Tryz.underlying28 rfl infoI) rfl ⟨rfl, HB9.out.bel.trans (hq.below HB9.out.bel.size (fun g hg => by omega))⟩
end Go.Proofs.YtfifaaopdhcaaaaGreatDoor

namespace Go.Proofs.YtfifaaopdhcaaaaGreatDoor
open Go.RowKit
set_option linter.unusedVariables false
set_option linter.unusedSimpArgs false
set_option maxRecDepth 100000
set_option maxHeartbeats 8000000 in
theorem rInfoU3_ok (b off cap n : Nat) (l : List Nat) (w : World) (h : CRow w (some ⟨b, off, none⟩) cap l) (HN : Hid (l.length = n)) (hn : n ≤ 1048576) (h2 : 2 ≤ n) (hv : valB (l.take 2) = 3) (mn : Nat) (HE4 : Hid (valB (((l ++ List.replicate 20 0).drop 2).take 4) = mn)) (hx4 : mn < 4294967296) (pf : Nat) (HE5 : Hid (valB (((l ++ List.replicate 20 0).drop 6).take 4) = pf)) (hx5 : pf < 4294967296) (mx : Nat) (HE6 : Hid (valB (((l ++ List.replicate 20 0).drop 10).take 4) = mx)) (hx6 : mx < 4294967296) (LL : List Nat) (HLL : Hid (LL.length ≤ 1048576)) (HP : Hid (∀ V, Below w.heap.size w V → Calls Tryz.prog 41 #[.agg #[.int .u16 3, .int .u64 0, .int .u16 0, .string ⟨#[]⟩, .int .u32 (mn : Int), .int .u32 (pf : Int), .int .u32 (mx : Int), .slice none 0 0]] V fun e w' => Pk V LL 0 e w')) (ht : decide (LL = l) = true) :
    Calls Tryz.prog 6 #[.slice (some ⟨b, off, none⟩) n cap] w fun e w' => e = .returned (.tuple #[.agg #[.int .u16 3, .int .u64 0, .int .u16 0, .string ⟨#[]⟩, .int .u32 (mn : Int), .int .u32 (pf : Int), .int .u32 (mx : Int), .slice none 0 0], .int .i64 0]) ∧ Below w.heap.size w w' := by
  have HLn : Hid ((l ++ List.replicate 20 0).length = n + 20) := by show _ = _; rw [List.length_append, List.length_replicate, HN.out]
  obtain ⟨i0, hi, hz0, hz1, hz2⟩ := info_parts Tryz.info5
  have HV : Hid (∀ W, Below w.heap.size w W → Calls Tryz.prog 39 #[.slice (some ⟨b, off, none⟩) n cap, .int .i64 0, .int .i64 2] W fun e w' => e = .returned (.int .u64 3) ∧ Below W.heap.size W w') := fun W hb => rvalueB b off cap n 0 2 l W (h.later hb) HN (by omega) (by decide) (by decide) (by omega) _ (by simpa using hv)
  have HCp : Hid (∀ W, Below w.heap.size w W → _) := fun W hb => copyN (some ⟨b, off, none⟩) cap n l W (h.row.later hb) HN.out
  have HC : Hid (CRow w (some ⟨b, off, none⟩) cap l) := h
  have HL : Hid (∀ x ∈ (l ++ List.replicate 20 0), x < 256) := fun x hx => by
    rcases List.mem_append.1 hx with hx | hx
    · exact HC.out.row.lt x hx
    · rw [List.eq_of_mem_replicate hx]; decide
  have t1 : decide ((n : Int) < 2) = false := by simp; omega
  have t2 : ¬ (n : Int) < 2 := by omega
  clear h hv
  have hx := mkb1 w #[.int .u16 0, .int .u64 0, .int .u16 0, .string ⟨#[]⟩, .int .u32 0, .int .u32 0, .int .u32 0, .slice none 0 0] 28
  go_enter Tryz.func6, Tryz.ntmps6
  go_upto_region 1 with fail
  generalize w.alloc (Obj.cells #[.int .u16 0, .int .u64 0, .int .u16 0, .string ⟨#[]⟩, .int .u32 0, .int .u32 0, .int .u32 0, .slice none 0 0] 28) = W0 at *
  have HX : Hid (Bx1 w W0 #[.int .u16 0, .int .u64 0, .int .u16 0, .string ⟨#[]⟩, .int .u32 0, .int .u32 0, .int .u32 0, .slice none 0 0] 28) := hx
  clear hx
  have za0 : W0.cell? ⟨w.heap.size, 0, none⟩ = some (.int .u16 0) := (blk_at HX.out.a 0).trans rfl
  have zb0 : W0.frozen? ⟨w.heap.size, 0, none⟩ = false := blk_free HX.out.a 0
  have za1 : W0.cell? ⟨w.heap.size, 1, none⟩ = some (.int .u64 0) := (blk_at HX.out.a 1).trans rfl
  have zb1 : W0.frozen? ⟨w.heap.size, 1, none⟩ = false := blk_free HX.out.a 1
  have za2 : W0.cell? ⟨w.heap.size, 2, none⟩ = some (.int .u16 0) := (blk_at HX.out.a 2).trans rfl
  have zb2 : W0.frozen? ⟨w.heap.size, 2, none⟩ = false := blk_free HX.out.a 2
  have za3 : W0.cell? ⟨w.heap.size, 3, none⟩ = some (.string ⟨#[]⟩) := (blk_at HX.out.a 3).trans rfl
  have zb3 : W0.frozen? ⟨w.heap.size, 3, none⟩ = false := blk_free HX.out.a 3
  have za4 : W0.cell? ⟨w.heap.size, 4, none⟩ = some (.int .u32 0) := (blk_at HX.out.a 4).trans rfl
  have zb4 : W0.frozen? ⟨w.heap.size, 4, none⟩ = false := blk_free HX.out.a 4
  have za5 : W0.cell? ⟨w.heap.size, 5, none⟩ = some (.int .u32 0) := (blk_at HX.out.a 5).trans rfl
  have zb5 : W0.frozen? ⟨w.heap.size, 5, none⟩ = false := blk_free HX.out.a 5
  have za6 : W0.cell? ⟨w.heap.size, 6, none⟩ = some (.int .u32 0) := (blk_at HX.out.a 6).trans rfl
  have zb6 : W0.frozen? ⟨w.heap.size, 6, none⟩ = false := blk_free HX.out.a 6
  have za7 : W0.cell? ⟨w.heap.size, 7, none⟩ = some (.slice none 0 0) := (blk_at HX.out.a 7).trans rfl
  have zb7 : W0.frozen? ⟨w.heap.size, 7, none⟩ = false := blk_free HX.out.a 7
  go_wp2_with fail
  refine Calls.mono (HV.out W0 HX.out.bel) ?_
  rintro e W1 ⟨rfl, hb1⟩
  have HX1 : Hid (Bx1 w W1 #[.int .u16 0, .int .u64 0, .int .u16 0, .string ⟨#[]⟩, .int .u32 0, .int .u32 0, .int .u32 0, .slice none 0 0] 28) := HX.out.later hb1
  clear hb1 HX HV
  clear za0 zb0 za1 zb1 za2 zb2 za3 zb3 za4 zb4 za5 zb5 za6 zb6 za7 zb7
  go_wp2_with fail
  have hbx := heap_new W1 (Obj.cells #[.int .u16 3, .int .u64 0, .int .u16 0, .string ⟨#[]⟩, .int .u32 0, .int .u32 0, .int .u32 0, .slice none 0 0] 28)
  have HX2 : Hid (Bx1 w (W1.alloc (Obj.cells #[.int .u16 3, .int .u64 0, .int .u16 0, .string ⟨#[]⟩, .int .u32 0, .int .u32 0, .int .u32 0, .slice none 0 0] 28)) #[.int .u16 0, .int .u64 0, .int .u16 0, .string ⟨#[]⟩, .int .u32 0, .int .u32 0, .int .u32 0, .slice none 0 0] 28) := HX1.out.later (below1 _ _)
  have HGe : Hid (w.heap.size < W1.heap.size ∧ W1.heap.size < (W1.alloc (Obj.cells #[.int .u16 3, .int .u64 0, .int .u16 0, .string ⟨#[]⟩, .int .u32 0, .int .u32 0, .int .u32 0, .slice none 0 0] 28)).heap.size) := ⟨HX1.out.size, by simp⟩
  generalize W1.alloc (Obj.cells #[.int .u16 3, .int .u64 0, .int .u16 0, .string ⟨#[]⟩, .int .u32 0, .int .u32 0, .int .u32 0, .slice none 0 0] 28) = W2 at *
  generalize W1.heap.size = ge at *
  have HBx : Hid (W2.heap[ge]? = some (.cells #[.int .u16 3, .int .u64 0, .int .u16 0, .string ⟨#[]⟩, .int .u32 0, .int .u32 0, .int .u32 0, .slice none 0 0] 28 (0, 0))) := hbx
  clear hbx HX1
  refine Calls.mono (HCp.out W2 HX2.out.bel) ?_
  rintro e W3 ⟨fa, fb, rfl, ho3, hb3⟩
  have HO3 : Hid (W3.ownsRow W2.heap.size 5 1 (.slice fa n fb) n (l.map bv)) := ho3
  have HX3 : Hid (Bx1 w W3 #[.int .u16 0, .int .u64 0, .int .u16 0, .string ⟨#[]⟩, .int .u32 0, .int .u32 0, .int .u32 0, .slice none 0 0] 28 ∧ W3.heap[ge]? = some (.cells #[.int .u16 3, .int .u64 0, .int .u16 0, .string ⟨#[]⟩, .int .u32 0, .int .u32 0, .int .u32 0, .slice none 0 0] 28 (0, 0)) ∧ W2.heap.size ≤ W3.heap.size) := ⟨HX2.out.later hb3, box_later HBx.out hb3, hb3.size⟩
  clear ho3 hb3 HX2 HBx
  go_wp2_with (at_builtin; refine wpList_append_two_make _ rfl _ _ 22 9 3 rfl W2.heap.size 5 i0 Tryz.underlying22 Tryz.underlying9 Tryz.underlying3 hi hz0 hz1 hz2 (.slice fa n fb) n (l.map bv) rfl HO3.out 20 rfl (by decide) (by omega) HX3.out.2.2 ?_; intro fo fc W4 ho4 hg4 _; have HU : Hid (Fu w W4 ge #[.int .u16 3, .int .u64 0, .int .u16 0, .string ⟨#[]⟩, .int .u32 0, .int .u32 0, .int .u32 0, .slice none 0 0] fo (n + 20) fc (l ++ List.replicate 20 0)) := Fu.grown HX3.out.1 HX3.out.2.1 HGe.out.1 HGe.out.2 HO3.out (by rw [List.map_append]; exact ho4) hg4; have c0 : W4.cell? ⟨ge, 0, none⟩ = some (.int .u16 3) := (blk_at HU.out.box 0).trans rfl; clear ho4 hg4 HO3 HX3)
  clear HCp
  have wc4 : IntKind.u32.wrap (mn : Int) = (mn : Int) := by rw [IntKind.wrap_u32]; omega
  have hcr := HU.out.crow HL.out HLn.out (by omega)
  obtain ⟨fbb, foo, hfo⟩ := hcr.some (by rw [HLn.out]; omega)
  subst hfo
  have HV4 : Hid _ := rvalueB fbb foo fc (n + 20) 2 4 (l ++ List.replicate 20 0) W4 hcr HLn (by omega) (by decide) (by decide) (by omega) mn HE4.out
  clear hcr
  go_wp2_with fail
  refine Calls.mono HV4.out ?_
  rintro e Y4 ⟨rfl, hb⟩
  have HU2 : Hid _ := HU.out.later hb
  have x4 : Y4.cell? ⟨ge, 4, none⟩ = some (.int .u32 0) := (blk_at HU2.out.box 4).trans rfl
  have f4 : Y4.frozen? ⟨ge, 4, none⟩ = false := blk_free HU2.out.box 4
  clear hb HU HV4
  go_upto_region 15 with fail
  have HU3 : Hid (Fu w (Y4.setCell ⟨ge, 4, none⟩ (.int .u32 (mn : Int))) ge #[.int .u16 3, .int .u64 0, .int .u16 0, .string ⟨#[]⟩, .int .u32 (mn : Int), .int .u32 0, .int .u32 0, .slice none 0 0] (some ⟨fbb, foo, none⟩) (n + 20) fc (l ++ List.replicate 20 0)) := HU2.out.put 4 _ rfl
  clear HU2 x4 f4
  generalize Y4.setCell ⟨ge, 4, none⟩ (.int .u32 (mn : Int)) = V4 at *
  have HU : Hid _ := HU3.out
  clear HU3
  have wc5 : IntKind.u32.wrap (pf : Int) = (pf : Int) := by rw [IntKind.wrap_u32]; omega
  have hcr := HU.out.crow HL.out HLn.out (by omega)
  have HV5 : Hid _ := rvalueB fbb foo fc (n + 20) 6 4 (l ++ List.replicate 20 0) V4 hcr HLn (by omega) (by decide) (by decide) (by omega) pf HE5.out
  clear hcr
  go_wp2_with fail
  refine Calls.mono HV5.out ?_
  rintro e Y5 ⟨rfl, hb⟩
  have HU2 : Hid _ := HU.out.later hb
  have x5 : Y5.cell? ⟨ge, 5, none⟩ = some (.int .u32 0) := (blk_at HU2.out.box 5).trans rfl
  have f5 : Y5.frozen? ⟨ge, 5, none⟩ = false := blk_free HU2.out.box 5
  clear hb HU HV5
  go_upto_region 16 with fail
  have HU3 : Hid (Fu w (Y5.setCell ⟨ge, 5, none⟩ (.int .u32 (pf : Int))) ge #[.int .u16 3, .int .u64 0, .int .u16 0, .string ⟨#[]⟩, .int .u32 (mn : Int), .int .u32 (pf : Int), .int .u32 0, .slice none 0 0] (some ⟨fbb, foo, none⟩) (n + 20) fc (l ++ List.replicate 20 0)) := HU2.out.put 5 _ rfl
  clear HU2 x5 f5
  generalize Y5.setCell ⟨ge, 5, none⟩ (.int .u32 (pf : Int)) = V5 at *
  have HU : Hid _ := HU3.out
  clear HU3
  have wc6 : IntKind.u32.wrap (mx : Int) = (mx : Int) := by rw [IntKind.wrap_u32]; omega
  have hcr := HU.out.crow HL.out HLn.out (by omega)
  have HV6 : Hid _ := rvalueB fbb foo fc (n + 20) 10 4 (l ++ List.replicate 20 0) V5 hcr HLn (by omega) (by decide) (by decide) (by omega) mx HE6.out
  clear hcr
  go_wp2_with fail
  refine Calls.mono HV6.out ?_
  rintro e Y6 ⟨rfl, hb⟩
  have HU2 : Hid _ := HU.out.later hb
  have x6 : Y6.cell? ⟨ge, 6, none⟩ = some (.int .u32 0) := (blk_at HU2.out.box 6).trans rfl
  have f6 : Y6.frozen? ⟨ge, 6, none⟩ = false := blk_free HU2.out.box 6
  clear hb HU HV6
  go_upto_region 17 with fail
  have HU3 : Hid (Fu w (Y6.setCell ⟨ge, 6, none⟩ (.int .u32 (mx : Int))) ge #[.int .u16 3, .int .u64 0, .int .u16 0, .string ⟨#[]⟩, .int .u32 (mn : Int), .int .u32 (pf : Int), .int .u32 (mx : Int), .slice none 0 0] (some ⟨fbb, foo, none⟩) (n + 20) fc (l ++ List.replicate 20 0)) := HU2.out.put 6 _ rfl
  clear HU2 x6 f6
  generalize Y6.setCell ⟨ge, 6, none⟩ (.int .u32 (mx : Int)) = V6 at *
  have HU : Hid _ := HU3.out
  clear HU3
  have x0 : V6.cell? ⟨ge, 0, none⟩ = some (.int .u16 3) := (blk_at HU.out.box 0).trans rfl
  have x1 : V6.cell? ⟨ge, 1, none⟩ = some (.int .u64 0) := (blk_at HU.out.box 1).trans rfl
  have x2 : V6.cell? ⟨ge, 2, none⟩ = some (.int .u16 0) := (blk_at HU.out.box 2).trans rfl
  have x3 : V6.cell? ⟨ge, 3, none⟩ = some (.string ⟨#[]⟩) := (blk_at HU.out.box 3).trans rfl
  have x4 : V6.cell? ⟨ge, 4, none⟩ = some (.int .u32 (mn : Int)) := (blk_at HU.out.box 4).trans rfl
  have x5 : V6.cell? ⟨ge, 5, none⟩ = some (.int .u32 (pf : Int)) := (blk_at HU.out.box 5).trans rfl
  have x6 : V6.cell? ⟨ge, 6, none⟩ = some (.int .u32 (mx : Int)) := (blk_at HU.out.box 6).trans rfl
  have x7 : V6.cell? ⟨ge, 7, none⟩ = some (.slice none 0 0) := (blk_at HU.out.box 7).trans rfl
  have HPk : Hid _ := HP.out V6 HU.out.bx.bel
  clear HP
  go_wp2_with fail
  refine Calls.mono HPk.out ?_
  rintro e W8 ⟨pa, pc, pn, rfl, hpn, hpr⟩
  have HU8 : Hid _ := HU.out.later hpr.bel
  have hsa := same08_any pa (some ⟨b, off, none⟩) pc cap pn n LL l W8 (hpr.brow (by have := HLL.out; omega)) (HC.out.row.later HU8.out.bx.bel) hpn HN.out
  rw [ht] at hsa
  have HSa : Hid _ := hsa
  clear hsa hpn hpr HU HPk x0 x1 x2 x3 x4 x5 x6 x7
  go_wp2_with fail
  refine Calls.mono HSa.out ?_
  rintro e W9 ⟨rfl, hb9⟩
  have HU9 : Hid _ := HU8.out.later hb9
  clear hb9 HU8 HSa
  have ya0 : W9.cell? ⟨w.heap.size, 0, none⟩ = some (.int .u16 0) := (blk_at HU9.out.bx.a 0).trans rfl
  have yb0 : W9.frozen? ⟨w.heap.size, 0, none⟩ = false := blk_free HU9.out.bx.a 0
  have ya1 : W9.cell? ⟨w.heap.size, 1, none⟩ = some (.int .u64 0) := (blk_at HU9.out.bx.a 1).trans rfl
  have yb1 : W9.frozen? ⟨w.heap.size, 1, none⟩ = false := blk_free HU9.out.bx.a 1
  have ya2 : W9.cell? ⟨w.heap.size, 2, none⟩ = some (.int .u16 0) := (blk_at HU9.out.bx.a 2).trans rfl
  have yb2 : W9.frozen? ⟨w.heap.size, 2, none⟩ = false := blk_free HU9.out.bx.a 2
  have ya3 : W9.cell? ⟨w.heap.size, 3, none⟩ = some (.string ⟨#[]⟩) := (blk_at HU9.out.bx.a 3).trans rfl
  have yb3 : W9.frozen? ⟨w.heap.size, 3, none⟩ = false := blk_free HU9.out.bx.a 3
  have ya4 : W9.cell? ⟨w.heap.size, 4, none⟩ = some (.int .u32 0) := (blk_at HU9.out.bx.a 4).trans rfl
  have yb4 : W9.frozen? ⟨w.heap.size, 4, none⟩ = false := blk_free HU9.out.bx.a 4
  have ya5 : W9.cell? ⟨w.heap.size, 5, none⟩ = some (.int .u32 0) := (blk_at HU9.out.bx.a 5).trans rfl
  have yb5 : W9.frozen? ⟨w.heap.size, 5, none⟩ = false := blk_free HU9.out.bx.a 5
  have ya6 : W9.cell? ⟨w.heap.size, 6, none⟩ = some (.int .u32 0) := (blk_at HU9.out.bx.a 6).trans rfl
  have yb6 : W9.frozen? ⟨w.heap.size, 6, none⟩ = false := blk_free HU9.out.bx.a 6
  have ya7 : W9.cell? ⟨w.heap.size, 7, none⟩ = some (.slice none 0 0) := (blk_at HU9.out.bx.a 7).trans rfl
  have yb7 : W9.frozen? ⟨w.heap.size, 7, none⟩ = false := blk_free HU9.out.bx.a 7
  have HB9 : Hid (Bx1 w W9 #[.int .u16 0, .int .u64 0, .int .u16 0, .string ⟨#[]⟩, .int .u32 0, .int .u32 0, .int .u32 0, .slice none 0 0] 28) := HU9.out.bx
  have x0 : W9.cell? ⟨ge, 0, none⟩ = some (.int .u16 3) := (blk_at HU9.out.box 0).trans rfl
  have x1 : W9.cell? ⟨ge, 1, none⟩ = some (.int .u64 0) := (blk_at HU9.out.box 1).trans rfl
  have x2 : W9.cell? ⟨ge, 2, none⟩ = some (.int .u16 0) := (blk_at HU9.out.box 2).trans rfl
  have x3 : W9.cell? ⟨ge, 3, none⟩ = some (.string ⟨#[]⟩) := (blk_at HU9.out.box 3).trans rfl
  have x4 : W9.cell? ⟨ge, 4, none⟩ = some (.int .u32 (mn : Int)) := (blk_at HU9.out.box 4).trans rfl
  have x5 : W9.cell? ⟨ge, 5, none⟩ = some (.int .u32 (pf : Int)) := (blk_at HU9.out.box 5).trans rfl
  have x6 : W9.cell? ⟨ge, 6, none⟩ = some (.int .u32 (mx : Int)) := (blk_at HU9.out.box 6).trans rfl
  have x7 : W9.cell? ⟨ge, 7, none⟩ = some (.slice none 0 0) := (blk_at HU9.out.box 7).trans rfl
  clear HU9
  go_wp2
  obtain ⟨hp, hq⟩ := putc8 HB9.out.a (.int .u16 3) (.int .u64 0) (.int .u16 0) (.string ⟨#[]⟩) (.int .u32 (mn : Int)) (.int .u32 (pf : Int)) (.int .u32 (mx : Int)) (.slice none 0 0)
  exact bodyPost_ret (results_cell_tmp1 rfl _ _ w.heap.size 28 _ (0, 0) _ rfl hp Tryz.underlying28 rfl infoI) rfl ⟨rfl, HB9.out.bel.trans (hq.below HB9.out.bel.size (fun g hg => by omega))⟩
set_option maxHeartbeats 8000000 in
theorem rInfoU3_no (b off cap n : Nat) (l : List Nat) (w : World) (h : CRow w (some ⟨b, off, none⟩) cap l) (HN : Hid (l.length = n)) (hn : n ≤ 1048576) (h2 : 2 ≤ n) (hv : valB (l.take 2) = 3) (mn : Nat) (HE4 : Hid (valB (((l ++ List.replicate 20 0).drop 2).take 4) = mn)) (hx4 : mn < 4294967296) (pf : Nat) (HE5 : Hid (valB (((l ++ List.replicate 20 0).drop 6).take 4) = pf)) (hx5 : pf < 4294967296) (mx : Nat) (HE6 : Hid (valB (((l ++ List.replicate 20 0).drop 10).take 4) = mx)) (hx6 : mx < 4294967296) (LL : List Nat) (HLL : Hid (LL.length ≤ 1048576)) (HP : Hid (∀ V, Below w.heap.size w V → Calls Tryz.prog 41 #[.agg #[.int .u16 3, .int .u64 0, .int .u16 0, .string ⟨#[]⟩, .int .u32 (mn : Int), .int .u32 (pf : Int), .int .u32 (mx : Int), .slice none 0 0]] V fun e w' => Pk V LL 0 e w')) (ht : decide (LL = l) = false) :
    Calls Tryz.prog 6 #[.slice (some ⟨b, off, none⟩) n cap] w fun e w' => e = .returned (.tuple #[.agg #[.int .u16 0, .int .u64 0, .int .u16 0, .string ⟨#[]⟩, .int .u32 0, .int .u32 0, .int .u32 0, .slice none 0 0], .int .i64 81]) ∧ Below w.heap.size w w' := by
  have HLn : Hid ((l ++ List.replicate 20 0).length = n + 20) := by show _ = _; rw [List.length_append, List.length_replicate, HN.out]
  obtain ⟨i0, hi, hz0, hz1, hz2⟩ := info_parts Tryz.info5
  have HV : Hid (∀ W, Below w.heap.size w W → Calls Tryz.prog 39 #[.slice (some ⟨b, off, none⟩) n cap, .int .i64 0, .int .i64 2] W fun e w' => e = .returned (.int .u64 3) ∧ Below W.heap.size W w') := fun W hb => rvalueB b off cap n 0 2 l W (h.later hb) HN (by omega) (by decide) (by decide) (by omega) _ (by simpa using hv)
  have HCp : Hid (∀ W, Below w.heap.size w W → _) := fun W hb => copyN (some ⟨b, off, none⟩) cap n l W (h.row.later hb) HN.out
  have HC : Hid (CRow w (some ⟨b, off, none⟩) cap l) := h
  have HL : Hid (∀ x ∈ (l ++ List.replicate 20 0), x < 256) := fun x hx => by
    rcases List.mem_append.1 hx with hx | hx
    · exact HC.out.row.lt x hx
    · rw [List.eq_of_mem_replicate hx]; decide
  have t1 : decide ((n : Int) < 2) = false := by simp; omega
  have t2 : ¬ (n : Int) < 2 := by omega
  clear h hv
  have hx := mkb1 w #[.int .u16 0, .int .u64 0, .int .u16 0, .string ⟨#[]⟩, .int .u32 0, .int .u32 0, .int .u32 0, .slice none 0 0] 28
  go_enter Tryz.func6, Tryz.ntmps6
  go_upto_region 1 with fail
  generalize w.alloc (Obj.cells #[.int .u16 0, .int .u64 0, .int .u16 0, .string ⟨#[]⟩, .int .u32 0, .int .u32 0, .int .u32 0, .slice none 0 0] 28) = W0 at *
  have HX : Hid (Bx1 w W0 #[.int .u16 0, .int .u64 0, .int .u16 0, .string ⟨#[]⟩, .int .u32 0, .int .u32 0, .int .u32 0, .slice none 0 0] 28) := hx
  clear hx
  have za0 : W0.cell? ⟨w.heap.size, 0, none⟩ = some (.int .u16 0) := (blk_at HX.out.a 0).trans rfl
  have zb0 : W0.frozen? ⟨w.heap.size, 0, none⟩ = false := blk_free HX.out.a 0
  have za1 : W0.cell? ⟨w.heap.size, 1, none⟩ = some (.int .u64 0) := (blk_at HX.out.a 1).trans rfl
  have zb1 : W0.frozen? ⟨w.heap.size, 1, none⟩ = false := blk_free HX.out.a 1
  have za2 : W0.cell? ⟨w.heap.size, 2, none⟩ = some (.int .u16 0) := (blk_at HX.out.a 2).trans rfl
  have zb2 : W0.frozen? ⟨w.heap.size, 2, none⟩ = false := blk_free HX.out.a 2
  have za3 : W0.cell? ⟨w.heap.size, 3, none⟩ = some (.string ⟨#[]⟩) := (blk_at HX.out.a 3).trans rfl
  have zb3 : W0.frozen? ⟨w.heap.size, 3, none⟩ = false := blk_free HX.out.a 3
  have za4 : W0.cell? ⟨w.heap.size, 4, none⟩ = some (.int .u32 0) := (blk_at HX.out.a 4).trans rfl
  have zb4 : W0.frozen? ⟨w.heap.size, 4, none⟩ = false := blk_free HX.out.a 4
  have za5 : W0.cell? ⟨w.heap.size, 5, none⟩ = some (.int .u32 0) := (blk_at HX.out.a 5).trans rfl
  have zb5 : W0.frozen? ⟨w.heap.size, 5, none⟩ = false := blk_free HX.out.a 5
  have za6 : W0.cell? ⟨w.heap.size, 6, none⟩ = some (.int .u32 0) := (blk_at HX.out.a 6).trans rfl
  have zb6 : W0.frozen? ⟨w.heap.size, 6, none⟩ = false := blk_free HX.out.a 6
  have za7 : W0.cell? ⟨w.heap.size, 7, none⟩ = some (.slice none 0 0) := (blk_at HX.out.a 7).trans rfl
  have zb7 : W0.frozen? ⟨w.heap.size, 7, none⟩ = false := blk_free HX.out.a 7
  go_wp2_with fail
  refine Calls.mono (HV.out W0 HX.out.bel) ?_
  rintro e W1 ⟨rfl, hb1⟩
  have HX1 : Hid (Bx1 w W1 #[.int .u16 0, .int .u64 0, .int .u16 0, .string ⟨#[]⟩, .int .u32 0, .int .u32 0, .int .u32 0, .slice none 0 0] 28) := HX.out.later hb1
  clear hb1 HX HV
  clear za0 zb0 za1 zb1 za2 zb2 za3 zb3 za4 zb4 za5 zb5 za6 zb6 za7 zb7
  go_wp2_with fail
  have hbx := heap_new W1 (Obj.cells #[.int .u16 3, .int .u64 0, .int .u16 0, .string ⟨#[]⟩, .int .u32 0, .int .u32 0, .int .u32 0, .slice none 0 0] 28)
  have HX2 : Hid (Bx1 w (W1.alloc (Obj.cells #[.int .u16 3, .int .u64 0, .int .u16 0, .string ⟨#[]⟩, .int .u32 0, .int .u32 0, .int .u32 0, .slice none 0 0] 28)) #[.int .u16 0, .int .u64 0, .int .u16 0, .string ⟨#[]⟩, .int .u32 0, .int .u32 0, .int .u32 0, .slice none 0 0] 28) := HX1.out.later (below1 _ _)
  have HGe : Hid (w.heap.size < W1.heap.size ∧ W1.heap.size < (W1.alloc (Obj.cells #[.int .u16 3, .int .u64 0, .int .u16 0, .string ⟨#[]⟩, .int .u32 0, .int .u32 0, .int .u32 0, .slice none 0 0] 28)).heap.size) := ⟨HX1.out.size, by simp⟩
  generalize W1.alloc (Obj.cells #[.int .u16 3, .int .u64 0, .int .u16 0, .string ⟨#[]⟩, .int .u32 0, .int .u32 0, .int .u32 0, .slice none 0 0] 28) = W2 at *
  generalize W1.heap.size = ge at *
  have HBx : Hid (W2.heap[ge]? = some (.cells #[.int .u16 3, .int .u64 0, .int .u16 0, .string ⟨#[]⟩, .int .u32 0, .int .u32 0, .int .u32 0, .slice none 0 0] 28 (0, 0))) := hbx
  clear hbx HX1
  refine Calls.mono (HCp.out W2 HX2.out.bel) ?_
  rintro e W3 ⟨fa, fb, rfl, ho3, hb3⟩
  have HO3 : Hid (W3.ownsRow W2.heap.size 5 1 (.slice fa n fb) n (l.map bv)) := ho3
  have HX3 : Hid (Bx1 w W3 #[.int .u16 0, .int .u64 0, .int .u16 0, .string ⟨#[]⟩, .int .u32 0, .int .u32 0, .int .u32 0, .slice none 0 0] 28 ∧ W3.heap[ge]? = some (.cells #[.int .u16 3, .int .u64 0, .int .u16 0, .string ⟨#[]⟩, .int .u32 0, .int .u32 0, .int .u32 0, .slice none 0 0] 28 (0, 0)) ∧ W2.heap.size ≤ W3.heap.size) := ⟨HX2.out.later hb3, box_later HBx.out hb3, hb3.size⟩
  clear ho3 hb3 HX2 HBx
  go_wp2_with (at_builtin; refine wpList_append_two_make _ rfl _ _ 22 9 3 rfl W2.heap.size 5 i0 Tryz.underlying22 Tryz.underlying9 Tryz.underlying3 hi hz0 hz1 hz2 (.slice fa n fb) n (l.map bv) rfl HO3.out 20 rfl (by decide) (by omega) HX3.out.2.2 ?_; intro fo fc W4 ho4 hg4 _; have HU : Hid (Fu w W4 ge #[.int .u16 3, .int .u64 0, .int .u16 0, .string ⟨#[]⟩, .int .u32 0, .int .u32 0, .int .u32 0, .slice none 0 0] fo (n + 20) fc (l ++ List.replicate 20 0)) := Fu.grown HX3.out.1 HX3.out.2.1 HGe.out.1 HGe.out.2 HO3.out (by rw [List.map_append]; exact ho4) hg4; have c0 : W4.cell? ⟨ge, 0, none⟩ = some (.int .u16 3) := (blk_at HU.out.box 0).trans rfl; clear ho4 hg4 HO3 HX3)
  clear HCp
  have wc4 : IntKind.u32.wrap (mn : Int) = (mn : Int) := by rw [IntKind.wrap_u32]; omega
  have hcr := HU.out.crow HL.out HLn.out (by omega)
  obtain ⟨fbb, foo, hfo⟩ := hcr.some (by rw [HLn.out]; omega)
  subst hfo
  have HV4 : Hid _ := rvalueB fbb foo fc (n + 20) 2 4 (l ++ List.replicate 20 0) W4 hcr HLn (by omega) (by decide) (by decide) (by omega) mn HE4.out
  clear hcr
  go_wp2_with fail
  refine Calls.mono HV4.out ?_
  rintro e Y4 ⟨rfl, hb⟩
  have HU2 : Hid _ := HU.out.later hb
  have x4 : Y4.cell? ⟨ge, 4, none⟩ = some (.int .u32 0) := (blk_at HU2.out.box 4).trans rfl
  have f4 : Y4.frozen? ⟨ge, 4, none⟩ = false := blk_free HU2.out.box 4
  clear hb HU HV4
  go_upto_region 15 with fail
  have HU3 : Hid (Fu w (Y4.setCell ⟨ge, 4, none⟩ (.int .u32 (mn : Int))) ge #[.int .u16 3, .int .u64 0, .int .u16 0, .string ⟨#[]⟩, .int .u32 (mn : Int), .int .u32 0, .int .u32 0, .slice none 0 0] (some ⟨fbb, foo, none⟩) (n + 20) fc (l ++ List.replicate 20 0)) := HU2.out.put 4 _ rfl
  clear HU2 x4 f4
  generalize Y4.setCell ⟨ge, 4, none⟩ (.int .u32 (mn : Int)) = V4 at *
  have HU : Hid _ := HU3.out
  clear HU3
  have wc5 : IntKind.u32.wrap (pf : Int) = (pf : Int) := by rw [IntKind.wrap_u32]; omega
  have hcr := HU.out.crow HL.out HLn.out (by omega)
  have HV5 : Hid _ := rvalueB fbb foo fc (n + 20) 6 4 (l ++ List.replicate 20 0) V4 hcr HLn (by omega) (by decide) (by decide) (by omega) pf HE5.out
  clear hcr
  go_wp2_with fail
  refine Calls.mono HV5.out ?_
  rintro e Y5 ⟨rfl, hb⟩
  have HU2 : Hid _ := HU.out.later hb
  have x5 : Y5.cell? ⟨ge, 5, none⟩ = some (.int .u32 0) := (blk_at HU2.out.box 5).trans rfl
  have f5 : Y5.frozen? ⟨ge, 5, none⟩ = false := blk_free HU2.out.box 5
  clear hb HU HV5
  go_upto_region 16 with fail
  have HU3 : Hid (Fu w (Y5.setCell ⟨ge, 5, none⟩ (.int .u32 (pf : Int))) ge #[.int .u16 3, .int .u64 0, .int .u16 0, .string ⟨#[]⟩, .int .u32 (mn : Int), .int .u32 (pf : Int), .int .u32 0, .slice none 0 0] (some ⟨fbb, foo, none⟩) (n + 20) fc (l ++ List.replicate 20 0)) := HU2.out.put 5 _ rfl
  clear HU2 x5 f5
  generalize Y5.setCell ⟨ge, 5, none⟩ (.int .u32 (pf : Int)) = V5 at *
  have HU : Hid _ := HU3.out
  clear HU3
  have wc6 : IntKind.u32.wrap (mx : Int) = (mx : Int) := by rw [IntKind.wrap_u32]; omega
  have hcr := HU.out.crow HL.out HLn.out (by omega)
  have HV6 : Hid _ := rvalueB fbb foo fc (n + 20) 10 4 (l ++ List.replicate 20 0) V5 hcr HLn (by omega) (by decide) (by decide) (by omega) mx HE6.out
  clear hcr
  go_wp2_with fail
  refine Calls.mono HV6.out ?_
  rintro e Y6 ⟨rfl, hb⟩
  have HU2 : Hid _ := HU.out.later hb
  have x6 : Y6.cell? ⟨ge, 6, none⟩ = some (.int .u32 0) := (blk_at HU2.out.box 6).trans rfl
  have f6 : Y6.frozen? ⟨ge, 6, none⟩ = false := blk_free HU2.out.box 6
  clear hb HU HV6
  go_upto_region 17 with fail
  have HU3 : Hid (Fu w (Y6.setCell ⟨ge, 6, none⟩ (.int .u32 (mx : Int))) ge #[.int .u16 3, .int .u64 0, .int .u16 0, .string ⟨#[]⟩, .int .u32 (mn : Int), .int .u32 (pf : Int), .int .u32 (mx : Int), .slice none 0 0] (some ⟨fbb, foo, none⟩) (n + 20) fc (l ++ List.replicate 20 0)) := HU2.out.put 6 _ rfl
  clear HU2 x6 f6
  generalize Y6.setCell ⟨ge, 6, none⟩ (.int .u32 (mx : Int)) = V6 at *
  have HU : Hid _ := HU3.out
  clear HU3
  have x0 : V6.cell? ⟨ge, 0, none⟩ = some (.int .u16 3) := (blk_at HU.out.box 0).trans rfl
  have x1 : V6.cell? ⟨ge, 1, none⟩ = some (.int .u64 0) := (blk_at HU.out.box 1).trans rfl
  have x2 : V6.cell? ⟨ge, 2, none⟩ = some (.int .u16 0) := (blk_at HU.out.box 2).trans rfl
  have x3 : V6.cell? ⟨ge, 3, none⟩ = some (.string ⟨#[]⟩) := (blk_at HU.out.box 3).trans rfl
  have x4 : V6.cell? ⟨ge, 4, none⟩ = some (.int .u32 (mn : Int)) := (blk_at HU.out.box 4).trans rfl
  have x5 : V6.cell? ⟨ge, 5, none⟩ = some (.int .u32 (pf : Int)) := (blk_at HU.out.box 5).trans rfl
  have x6 : V6.cell? ⟨ge, 6, none⟩ = some (.int .u32 (mx : Int)) := (blk_at HU.out.box 6).trans rfl
  have x7 : V6.cell? ⟨ge, 7, none⟩ = some (.slice none 0 0) := (blk_at HU.out.box 7).trans rfl
  have HPk : Hid _ := HP.out V6 HU.out.bx.bel
  clear HP
  go_wp2_with fail
  refine Calls.mono HPk.out ?_
  rintro e W8 ⟨pa, pc, pn, rfl, hpn, hpr⟩
  have HU8 : Hid _ := HU.out.later hpr.bel
  have hsa := same08_any pa (some ⟨b, off, none⟩) pc cap pn n LL l W8 (hpr.brow (by have := HLL.out; omega)) (HC.out.row.later HU8.out.bx.bel) hpn HN.out
  rw [ht] at hsa
  have HSa : Hid _ := hsa
  clear hsa hpn hpr HU HPk x0 x1 x2 x3 x4 x5 x6 x7
  go_wp2_with fail
  refine Calls.mono HSa.out ?_
  rintro e W9 ⟨rfl, hb9⟩
  have HU9 : Hid _ := HU8.out.later hb9
  clear hb9 HU8 HSa
  have ya0 : W9.cell? ⟨w.heap.size, 0, none⟩ = some (.int .u16 0) := (blk_at HU9.out.bx.a 0).trans rfl
  have yb0 : W9.frozen? ⟨w.heap.size, 0, none⟩ = false := blk_free HU9.out.bx.a 0
  have ya1 : W9.cell? ⟨w.heap.size, 1, none⟩ = some (.int .u64 0) := (blk_at HU9.out.bx.a 1).trans rfl
  have yb1 : W9.frozen? ⟨w.heap.size, 1, none⟩ = false := blk_free HU9.out.bx.a 1
  have ya2 : W9.cell? ⟨w.heap.size, 2, none⟩ = some (.int .u16 0) := (blk_at HU9.out.bx.a 2).trans rfl
  have yb2 : W9.frozen? ⟨w.heap.size, 2, none⟩ = false := blk_free HU9.out.bx.a 2
  have ya3 : W9.cell? ⟨w.heap.size, 3, none⟩ = some (.string ⟨#[]⟩) := (blk_at HU9.out.bx.a 3).trans rfl
  have yb3 : W9.frozen? ⟨w.heap.size, 3, none⟩ = false := blk_free HU9.out.bx.a 3
  have ya4 : W9.cell? ⟨w.heap.size, 4, none⟩ = some (.int .u32 0) := (blk_at HU9.out.bx.a 4).trans rfl
  have yb4 : W9.frozen? ⟨w.heap.size, 4, none⟩ = false := blk_free HU9.out.bx.a 4
  have ya5 : W9.cell? ⟨w.heap.size, 5, none⟩ = some (.int .u32 0) := (blk_at HU9.out.bx.a 5).trans rfl
  have yb5 : W9.frozen? ⟨w.heap.size, 5, none⟩ = false := blk_free HU9.out.bx.a 5
  have ya6 : W9.cell? ⟨w.heap.size, 6, none⟩ = some (.int .u32 0) := (blk_at HU9.out.bx.a 6).trans rfl
  have yb6 : W9.frozen? ⟨w.heap.size, 6, none⟩ = false := blk_free HU9.out.bx.a 6
  have ya7 : W9.cell? ⟨w.heap.size, 7, none⟩ = some (.slice none 0 0) := (blk_at HU9.out.bx.a 7).trans rfl
  have yb7 : W9.frozen? ⟨w.heap.size, 7, none⟩ = false := blk_free HU9.out.bx.a 7
  have HB9 : Hid (Bx1 w W9 #[.int .u16 0, .int .u64 0, .int .u16 0, .string ⟨#[]⟩, .int .u32 0, .int .u32 0, .int .u32 0, .slice none 0 0] 28) := HU9.out.bx
  clear HU9
  go_wp2
  obtain ⟨hp, hq⟩ := putc8 HB9.out.a (.int .u16 0) (.int .u64 0) (.int .u16 0) (.string ⟨#[]⟩) (.int .u32 0) (.int .u32 0) (.int .u32 0) (.slice none 0 0)
  exact bodyPost_ret (results_cell_tmp1 rfl _ _ w.heap.size 28 _ (0, 0) _ rfl hp Tryz.underlying28 rfl infoI) rfl ⟨rfl, HB9.out.bel.trans (hq.below HB9.out.bel.size (fun g hg => by omega))⟩
end Go.Proofs.YtfifaaopdhcaaaaGreatDoor

namespace Go.Proofs.YtfifaaopdhcaaaaGreatDoor
open Go.RowKit
set_option linter.unusedVariables false
set_option linter.unusedSimpArgs false
set_option maxRecDepth 100000
set_option maxHeartbeats 8000000 in
theorem rInfoUo_ok (b off cap n : Nat) (l : List Nat) (w : World) (h : CRow w (some ⟨b, off, none⟩) cap l) (HN : Hid (l.length = n)) (hn : n ≤ 1048576) (h2 : 2 ≤ n) (k : Nat) (hk : k < 65536) (hv : valB (l.take 2) = k) (hk0 : k ≠ 0) (hk1 : k ≠ 1) (hk2 : k ≠ 2) (hk3 : k ≠ 3) (LL : List Nat) (HLL : Hid (LL.length ≤ 1048576)) (HP : Hid (∀ V, Below w.heap.size w V → ∀ da dc, BRow V da dc (l.drop 2) → Calls Tryz.prog 41 #[.agg #[.int .u16 (k : Int), .int .u64 0, .int .u16 0, .string ⟨#[]⟩, .int .u32 0, .int .u32 0, .int .u32 0, .slice da (n - 2) dc]] V fun e w' => Pk V LL 0 e w')) (ht : decide (LL = l) = true) :
    Calls Tryz.prog 6 #[.slice (some ⟨b, off, none⟩) n cap] w fun e w' => ∃ da dc, e = .returned (.tuple #[.agg #[.int .u16 (k : Int), .int .u64 0, .int .u16 0, .string ⟨#[]⟩, .int .u32 0, .int .u32 0, .int .u32 0, .slice da (n - 2) dc], .int .i64 0]) ∧ BRow w' da dc (l.drop 2) ∧ Below w.heap.size w w' := by
  have HLn : Hid ((l ++ List.replicate 20 0).length = n + 20) := by show _ = _; rw [List.length_append, List.length_replicate, HN.out]
  have hcu := (crow_cut h 2 (by rw [HN.out]; omega)).row
  obtain ⟨ar, har⟩ : ∃ ar, (if cap = 2 then some (⟨b, off, none⟩ : Addr) else some ⟨b, off + 2, none⟩) = ar := ⟨_, rfl⟩
  simp only [har] at hcu
  have HCq : Hid (∀ W, Below w.heap.size w W → _) := fun W hb => copyN ar (cap - 2) (n - 2) (l.drop 2) W (hcu.later hb) (by rw [List.length_drop, HN.out])
  have t3 : (2 : Int) ≤ (n : Int) := by omega
  have t4 : (n : Int) ≤ (cap : Int) := by have h1 := h.cap1; have h2 := HN.out; omega
  clear hcu
  have q0 : ((k : Int) == 0) = false := by rw [beq_eq_false_iff_ne]; omega
  have p0 : ¬ (k : Int) = 0 := by omega
  have q1 : ((k : Int) == 1) = false := by rw [beq_eq_false_iff_ne]; omega
  have p1 : ¬ (k : Int) = 1 := by omega
  have q2 : ((k : Int) == 2) = false := by rw [beq_eq_false_iff_ne]; omega
  have p2 : ¬ (k : Int) = 2 := by omega
  have q3 : ((k : Int) == 3) = false := by rw [beq_eq_false_iff_ne]; omega
  have p3 : ¬ (k : Int) = 3 := by omega
  obtain ⟨i0, hi, hz0, hz1, hz2⟩ := info_parts Tryz.info5
  have HV : Hid (∀ W, Below w.heap.size w W → Calls Tryz.prog 39 #[.slice (some ⟨b, off, none⟩) n cap, .int .i64 0, .int .i64 2] W fun e w' => e = .returned (.int .u64 (k : Int)) ∧ Below W.heap.size W w') := fun W hb => rvalueB b off cap n 0 2 l W (h.later hb) HN (by omega) (by decide) (by decide) (by omega) _ (by simpa using hv)
  have HCp : Hid (∀ W, Below w.heap.size w W → _) := fun W hb => copyN (some ⟨b, off, none⟩) cap n l W (h.row.later hb) HN.out
  have HC : Hid (CRow w (some ⟨b, off, none⟩) cap l) := h
  have HL : Hid (∀ x ∈ (l ++ List.replicate 20 0), x < 256) := fun x hx => by
    rcases List.mem_append.1 hx with hx | hx
    · exact HC.out.row.lt x hx
    · rw [List.eq_of_mem_replicate hx]; decide
  have t1 : decide ((n : Int) < 2) = false := by simp; omega
  have t2 : ¬ (n : Int) < 2 := by omega
  have wk : IntKind.u16.wrap (k : Int) = (k : Int) := by rw [IntKind.wrap_u16]; omega
  clear h hv
  have hx := mkb1 w #[.int .u16 0, .int .u64 0, .int .u16 0, .string ⟨#[]⟩, .int .u32 0, .int .u32 0, .int .u32 0, .slice none 0 0] 28
  go_enter Tryz.func6, Tryz.ntmps6
  go_upto_region 1 with fail
  generalize w.alloc (Obj.cells #[.int .u16 0, .int .u64 0, .int .u16 0, .string ⟨#[]⟩, .int .u32 0, .int .u32 0, .int .u32 0, .slice none 0 0] 28) = W0 at *
  have HX : Hid (Bx1 w W0 #[.int .u16 0, .int .u64 0, .int .u16 0, .string ⟨#[]⟩, .int .u32 0, .int .u32 0, .int .u32 0, .slice none 0 0] 28) := hx
  clear hx
  have za0 : W0.cell? ⟨w.heap.size, 0, none⟩ = some (.int .u16 0) := (blk_at HX.out.a 0).trans rfl
  have zb0 : W0.frozen? ⟨w.heap.size, 0, none⟩ = false := blk_free HX.out.a 0
  have za1 : W0.cell? ⟨w.heap.size, 1, none⟩ = some (.int .u64 0) := (blk_at HX.out.a 1).trans rfl
  have zb1 : W0.frozen? ⟨w.heap.size, 1, none⟩ = false := blk_free HX.out.a 1
  have za2 : W0.cell? ⟨w.heap.size, 2, none⟩ = some (.int .u16 0) := (blk_at HX.out.a 2).trans rfl
  have zb2 : W0.frozen? ⟨w.heap.size, 2, none⟩ = false := blk_free HX.out.a 2
  have za3 : W0.cell? ⟨w.heap.size, 3, none⟩ = some (.string ⟨#[]⟩) := (blk_at HX.out.a 3).trans rfl
  have zb3 : W0.frozen? ⟨w.heap.size, 3, none⟩ = false := blk_free HX.out.a 3
  have za4 : W0.cell? ⟨w.heap.size, 4, none⟩ = some (.int .u32 0) := (blk_at HX.out.a 4).trans rfl
  have zb4 : W0.frozen? ⟨w.heap.size, 4, none⟩ = false := blk_free HX.out.a 4
  have za5 : W0.cell? ⟨w.heap.size, 5, none⟩ = some (.int .u32 0) := (blk_at HX.out.a 5).trans rfl
  have zb5 : W0.frozen? ⟨w.heap.size, 5, none⟩ = false := blk_free HX.out.a 5
  have za6 : W0.cell? ⟨w.heap.size, 6, none⟩ = some (.int .u32 0) := (blk_at HX.out.a 6).trans rfl
  have zb6 : W0.frozen? ⟨w.heap.size, 6, none⟩ = false := blk_free HX.out.a 6
  have za7 : W0.cell? ⟨w.heap.size, 7, none⟩ = some (.slice none 0 0) := (blk_at HX.out.a 7).trans rfl
  have zb7 : W0.frozen? ⟨w.heap.size, 7, none⟩ = false := blk_free HX.out.a 7
  go_wp2_with fail
  refine Calls.mono (HV.out W0 HX.out.bel) ?_
  rintro e W1 ⟨rfl, hb1⟩
  have HX1 : Hid (Bx1 w W1 #[.int .u16 0, .int .u64 0, .int .u16 0, .string ⟨#[]⟩, .int .u32 0, .int .u32 0, .int .u32 0, .slice none 0 0] 28) := HX.out.later hb1
  clear hb1 HX HV
  clear za0 zb0 za1 zb1 za2 zb2 za3 zb3 za4 zb4 za5 zb5 za6 zb6 za7 zb7
  go_wp2_with fail
  have hbx := heap_new W1 (Obj.cells #[.int .u16 (k : Int), .int .u64 0, .int .u16 0, .string ⟨#[]⟩, .int .u32 0, .int .u32 0, .int .u32 0, .slice none 0 0] 28)
  have HX2 : Hid (Bx1 w (W1.alloc (Obj.cells #[.int .u16 (k : Int), .int .u64 0, .int .u16 0, .string ⟨#[]⟩, .int .u32 0, .int .u32 0, .int .u32 0, .slice none 0 0] 28)) #[.int .u16 0, .int .u64 0, .int .u16 0, .string ⟨#[]⟩, .int .u32 0, .int .u32 0, .int .u32 0, .slice none 0 0] 28) := HX1.out.later (below1 _ _)
  have HGe : Hid (w.heap.size < W1.heap.size ∧ W1.heap.size < (W1.alloc (Obj.cells #[.int .u16 (k : Int), .int .u64 0, .int .u16 0, .string ⟨#[]⟩, .int .u32 0, .int .u32 0, .int .u32 0, .slice none 0 0] 28)).heap.size) := ⟨HX1.out.size, by simp⟩
  generalize W1.alloc (Obj.cells #[.int .u16 (k : Int), .int .u64 0, .int .u16 0, .string ⟨#[]⟩, .int .u32 0, .int .u32 0, .int .u32 0, .slice none 0 0] 28) = W2 at *
  generalize W1.heap.size = ge at *
  have HBx : Hid (W2.heap[ge]? = some (.cells #[.int .u16 (k : Int), .int .u64 0, .int .u16 0, .string ⟨#[]⟩, .int .u32 0, .int .u32 0, .int .u32 0, .slice none 0 0] 28 (0, 0))) := hbx
  clear hbx HX1
  refine Calls.mono (HCp.out W2 HX2.out.bel) ?_
  rintro e W3 ⟨fa, fb, rfl, ho3, hb3⟩
  have HO3 : Hid (W3.ownsRow W2.heap.size 5 1 (.slice fa n fb) n (l.map bv)) := ho3
  have HX3 : Hid (Bx1 w W3 #[.int .u16 0, .int .u64 0, .int .u16 0, .string ⟨#[]⟩, .int .u32 0, .int .u32 0, .int .u32 0, .slice none 0 0] 28 ∧ W3.heap[ge]? = some (.cells #[.int .u16 (k : Int), .int .u64 0, .int .u16 0, .string ⟨#[]⟩, .int .u32 0, .int .u32 0, .int .u32 0, .slice none 0 0] 28 (0, 0)) ∧ W2.heap.size ≤ W3.heap.size) := ⟨HX2.out.later hb3, box_later HBx.out hb3, hb3.size⟩
  clear ho3 hb3 HX2 HBx
  go_wp2_with (at_builtin; refine wpList_append_two_make _ rfl _ _ 22 9 3 rfl W2.heap.size 5 i0 Tryz.underlying22 Tryz.underlying9 Tryz.underlying3 hi hz0 hz1 hz2 (.slice fa n fb) n (l.map bv) rfl HO3.out 20 rfl (by decide) (by omega) HX3.out.2.2 ?_; intro fo fc W4 ho4 hg4 _; have HU : Hid (Fu w W4 ge #[.int .u16 (k : Int), .int .u64 0, .int .u16 0, .string ⟨#[]⟩, .int .u32 0, .int .u32 0, .int .u32 0, .slice none 0 0] fo (n + 20) fc (l ++ List.replicate 20 0)) := Fu.grown HX3.out.1 HX3.out.2.1 HGe.out.1 HGe.out.2 HO3.out (by rw [List.map_append]; exact ho4) hg4; have c0 : W4.cell? ⟨ge, 0, none⟩ = some (.int .u16 (k : Int)) := (blk_at HU.out.box 0).trans rfl; clear ho4 hg4 HO3 HX3)
  clear HCp
  go_wp2_with fail
  refine Calls.mono (HCq.out W4 HU.out.bx.bel) ?_
  rintro e W5 ⟨da, dc, rfl, ho5, hb5⟩
  have HU5 : Hid (Fu w W5 ge #[.int .u16 (k : Int), .int .u64 0, .int .u16 0, .string ⟨#[]⟩, .int .u32 0, .int .u32 0, .int .u32 0, .slice none 0 0] da (n - 2) dc (l.drop 2)) := ⟨HU.out.bx.later hb5, box_later HU.out.box hb5, HU.out.hge, _, block_lt HU.out.box, ho5⟩
  have x7 : W5.cell? ⟨ge, 7, none⟩ = some (.slice none 0 0) := (blk_at HU5.out.box 7).trans rfl
  have f7 : W5.frozen? ⟨ge, 7, none⟩ = false := blk_free HU5.out.box 7
  clear ho5 hb5 HU HCq c0
  go_upto_region 17 with fail
  have HU3 : Hid (Fu w (W5.setCell ⟨ge, 7, none⟩ (.slice da (n - 2) dc)) ge #[.int .u16 (k : Int), .int .u64 0, .int .u16 0, .string ⟨#[]⟩, .int .u32 0, .int .u32 0, .int .u32 0, .slice da (n - 2) dc] da (n - 2) dc (l.drop 2)) := HU5.out.put 7 _ rfl
  clear HU5 x7 f7
  generalize W5.setCell ⟨ge, 7, none⟩ (.slice da (n - 2) dc) = V3 at *
  have HU : Hid _ := HU3.out
  clear HU3
  have x0 : V3.cell? ⟨ge, 0, none⟩ = some (.int .u16 (k : Int)) := (blk_at HU.out.box 0).trans rfl
  have x1 : V3.cell? ⟨ge, 1, none⟩ = some (.int .u64 0) := (blk_at HU.out.box 1).trans rfl
  have x2 : V3.cell? ⟨ge, 2, none⟩ = some (.int .u16 0) := (blk_at HU.out.box 2).trans rfl
  have x3 : V3.cell? ⟨ge, 3, none⟩ = some (.string ⟨#[]⟩) := (blk_at HU.out.box 3).trans rfl
  have x4 : V3.cell? ⟨ge, 4, none⟩ = some (.int .u32 0) := (blk_at HU.out.box 4).trans rfl
  have x5 : V3.cell? ⟨ge, 5, none⟩ = some (.int .u32 0) := (blk_at HU.out.box 5).trans rfl
  have x6 : V3.cell? ⟨ge, 6, none⟩ = some (.int .u32 0) := (blk_at HU.out.box 6).trans rfl
  have x7 : V3.cell? ⟨ge, 7, none⟩ = some (.slice da (n - 2) dc) := (blk_at HU.out.box 7).trans rfl
  have HPk : Hid _ := HP.out V3 HU.out.bx.bel da dc (HU.out.crow (fun x hx => HC.out.row.lt x (List.mem_of_mem_drop hx)) (by rw [List.length_drop, HN.out]) (by omega)).row
  clear HP
  go_wp2_with fail
  refine Calls.mono HPk.out ?_
  rintro e W8 ⟨pa, pc, pn, rfl, hpn, hpr⟩
  have HU8 : Hid _ := HU.out.later hpr.bel
  have hsa := same08_any pa (some ⟨b, off, none⟩) pc cap pn n LL l W8 (hpr.brow (by have := HLL.out; omega)) (HC.out.row.later HU8.out.bx.bel) hpn HN.out
  rw [ht] at hsa
  have HSa : Hid _ := hsa
  clear hsa hpn hpr HU HPk x0 x1 x2 x3 x4 x5 x6 x7
  go_wp2_with fail
  refine Calls.mono HSa.out ?_
  rintro e W9 ⟨rfl, hb9⟩
  have HU9 : Hid _ := HU8.out.later hb9
  clear hb9 HU8 HSa
  have ya0 : W9.cell? ⟨w.heap.size, 0, none⟩ = some (.int .u16 0) := (blk_at HU9.out.bx.a 0).trans rfl
  have yb0 : W9.frozen? ⟨w.heap.size, 0, none⟩ = false := blk_free HU9.out.bx.a 0
  have ya1 : W9.cell? ⟨w.heap.size, 1, none⟩ = some (.int .u64 0) := (blk_at HU9.out.bx.a 1).trans rfl
  have yb1 : W9.frozen? ⟨w.heap.size, 1, none⟩ = false := blk_free HU9.out.bx.a 1
  have ya2 : W9.cell? ⟨w.heap.size, 2, none⟩ = some (.int .u16 0) := (blk_at HU9.out.bx.a 2).trans rfl
  have yb2 : W9.frozen? ⟨w.heap.size, 2, none⟩ = false := blk_free HU9.out.bx.a 2
  have ya3 : W9.cell? ⟨w.heap.size, 3, none⟩ = some (.string ⟨#[]⟩) := (blk_at HU9.out.bx.a 3).trans rfl
  have yb3 : W9.frozen? ⟨w.heap.size, 3, none⟩ = false := blk_free HU9.out.bx.a 3
  have ya4 : W9.cell? ⟨w.heap.size, 4, none⟩ = some (.int .u32 0) := (blk_at HU9.out.bx.a 4).trans rfl
  have yb4 : W9.frozen? ⟨w.heap.size, 4, none⟩ = false := blk_free HU9.out.bx.a 4
  have ya5 : W9.cell? ⟨w.heap.size, 5, none⟩ = some (.int .u32 0) := (blk_at HU9.out.bx.a 5).trans rfl
  have yb5 : W9.frozen? ⟨w.heap.size, 5, none⟩ = false := blk_free HU9.out.bx.a 5
  have ya6 : W9.cell? ⟨w.heap.size, 6, none⟩ = some (.int .u32 0) := (blk_at HU9.out.bx.a 6).trans rfl
  have yb6 : W9.frozen? ⟨w.heap.size, 6, none⟩ = false := blk_free HU9.out.bx.a 6
  have ya7 : W9.cell? ⟨w.heap.size, 7, none⟩ = some (.slice none 0 0) := (blk_at HU9.out.bx.a 7).trans rfl
  have yb7 : W9.frozen? ⟨w.heap.size, 7, none⟩ = false := blk_free HU9.out.bx.a 7
  have HB9 : Hid (Bx1 w W9 #[.int .u16 0, .int .u64 0, .int .u16 0, .string ⟨#[]⟩, .int .u32 0, .int .u32 0, .int .u32 0, .slice none 0 0] 28) := HU9.out.bx
  have x0 : W9.cell? ⟨ge, 0, none⟩ = some (.int .u16 (k : Int)) := (blk_at HU9.out.box 0).trans rfl
  have x1 : W9.cell? ⟨ge, 1, none⟩ = some (.int .u64 0) := (blk_at HU9.out.box 1).trans rfl
  have x2 : W9.cell? ⟨ge, 2, none⟩ = some (.int .u16 0) := (blk_at HU9.out.box 2).trans rfl
  have x3 : W9.cell? ⟨ge, 3, none⟩ = some (.string ⟨#[]⟩) := (blk_at HU9.out.box 3).trans rfl
  have x4 : W9.cell? ⟨ge, 4, none⟩ = some (.int .u32 0) := (blk_at HU9.out.box 4).trans rfl
  have x5 : W9.cell? ⟨ge, 5, none⟩ = some (.int .u32 0) := (blk_at HU9.out.box 5).trans rfl
  have x6 : W9.cell? ⟨ge, 6, none⟩ = some (.int .u32 0) := (blk_at HU9.out.box 6).trans rfl
  have x7 : W9.cell? ⟨ge, 7, none⟩ = some (.slice da (n - 2) dc) := (blk_at HU9.out.box 7).trans rfl
  go_wp2
  obtain ⟨hp, hq⟩ := putc8 HB9.out.a (.int .u16 (k : Int)) (.int .u64 0) (.int .u16 0) (.string ⟨#[]⟩) (.int .u32 0) (.int .u32 0) (.int .u32 0) (.slice da (n - 2) dc)
  have h7 := HU9.out.brow hq (fun x hx => HC.out.row.lt x (List.mem_of_mem_drop hx)) (by rw [List.length_drop, HN.out]) (by omega)
  have h6 := HB9.out.bel.trans (hq.below HB9.out.bel.size (fun g hg => by omega))
  refine bodyPost_ret (results_cell_tmp1 rfl _ _ w.heap.size 28 _ (0, 0) _ rfl hp Tryz.underlying28 rfl infoI) rfl ?_
  first | exact ⟨da, dc, rfl, h7, h6⟩ | exact ⟨da, ⟨dc, rfl⟩, h7, h6⟩
end Go.Proofs.YtfifaaopdhcaaaaGreatDoor
