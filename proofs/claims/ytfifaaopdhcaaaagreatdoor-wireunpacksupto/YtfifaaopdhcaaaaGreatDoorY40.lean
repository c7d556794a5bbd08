import Derived.Test.YtfifaaopdhcaaaaGreatDoorY19
import Derived.Test.YtfifaaopdhcaaaaGreatDoorY27
import Derived.Test.YtfifaaopdhcaaaaGreatDoorY13
import Derived.Deep.RegionHeld3
import Derived.Test.YtfifaaopdhcaaaaGreatDoorY39
import Derived.Deep.AppendLies
import Derived.Test.YtfifaaopdhcaaaaGreatDoorY30
namespace Go.Proofs.YtfifaaopdhcaaaaGreatDoor
open Go.RowKit
set_option linter.unusedVariables false
set_option linter.unusedSimpArgs false
set_option maxRecDepth 100000
set_option maxHeartbeats 8000000 in
theorem rAskU_ok (ao : Option Addr) (cap n : Nat) (w : World) (s : ByteArray) (C v : Nat) (m : List Nat) (HM : Hid (∀ W, Below w.heap.size w W → Calls Tryz.prog 46 #[.slice ao n cap] W fun e w' => ∃ ar, e = .returned (.tuple #[.string s, .slice ar (2 + 2 * v) C, .bool true]) ∧ CRow w' ar C m ∧ Below W.heap.size W w')) (hm : Hid (m.length = (2 + 2 * v))) (hv : valB (m.take 2) = v) (h64 : v ≤ 64) (hlt : Hid (∀ x ∈ m, x < 256)) :
    Calls Tryz.prog 10 #[.slice ao n cap] w fun e w' => ∃ ia ic, e = .returned (.tuple #[.agg #[.string s, .slice ia v ic], .int .i64 0]) ∧ U16s w' ia (kU m v) ∧ Below w.heap.size w w' := by
  obtain ⟨i0, hi, hz0, hz1, hz2⟩ := info_parts infoEu
  have t1 : decide (2 + 2 * (v : Int) < 2) = false := by simp; omega
  have t2 : ¬ 2 + 2 * (v : Int) < 2 := by omega
  have w1 : IntKind.i64.wrap (v : Int) = (v : Int) := by rw [IntKind.wrap_i64]; omega
  have w2 : IntKind.i64.wrap (2 * (v : Int)) = 2 * (v : Int) := by rw [IntKind.wrap_i64]; omega
  have w3 : IntKind.i64.wrap (2 + 2 * (v : Int)) = 2 + 2 * (v : Int) := by rw [IntKind.wrap_i64]; omega
  have g1 : decide ((64 : Int) < (v : Int)) = false := by simp; omega
  have g2 : ¬ (64 : Int) < (v : Int) := by omega
  have hm0 := hm.out
  have hx := mkb1 w #[.string ⟨#[]⟩, .slice none 0 0] 38
  go_enter Tryz.func10, Tryz.ntmps10
  go_upto_region 1 with fail
  generalize w.alloc (Obj.cells #[.string ⟨#[]⟩, .slice none 0 0] 38) = W0 at *
  have HX : Hid (Bx1 w W0 #[.string ⟨#[]⟩, .slice none 0 0] 38) := hx
  clear hx
  have za0 : W0.cell? ⟨w.heap.size, 0, none⟩ = some (.string ⟨#[]⟩) := (blk_at HX.out.a 0).trans rfl
  have zb0 : W0.frozen? ⟨w.heap.size, 0, none⟩ = false := blk_free HX.out.a 0
  have za1 : W0.cell? ⟨w.heap.size, 1, none⟩ = some (.slice none 0 0) := (blk_at HX.out.a 1).trans rfl
  have zb1 : W0.frozen? ⟨w.heap.size, 1, none⟩ = false := blk_free HX.out.a 1
  go_wp2_with fail
  refine Calls.mono (HM.out W0 HX.out.bel) ?_
  rintro e W1 ⟨ar, rfl, hc1, hb1⟩
  have HX1 : Hid (Bx1 w W1 #[.string ⟨#[]⟩, .slice none 0 0] 38) := HX.out.later hb1
  clear hb1 HX HM
  clear za0 zb0 za1 zb1
  obtain ⟨b, off, rfl⟩ := hc1.some (by omega)
  have HV : Hid _ := rvalueB b off C _ 0 2 m W1 hc1 hm (by omega) (by decide) (by decide) (by omega) v (by simpa using hv)
  have HC1 : Hid (CRow W1 (some ⟨b, off, none⟩) C m) := hc1
  clear hc1
  clear hm0 hv
  go_wp2_with fail
  refine Calls.mono HV.out ?_
  rintro e W2 ⟨rfl, hb2⟩
  have HB2 : Hid (Below W1.heap.size W1 W2) := hb2
  clear hb2 HV
  go_wp2_with fail
  have hU : Vg W1 (W2.alloc (Obj.cells #[.string s, .slice none 0 0] 38)) W2.heap.size (.string s) 38 (.slice none 0 0) 24 1 0 [] := ⟨HB2.out.trans ((below1 W2 _).mono HB2.out.size), heap_new W2 _, World.ownsRow_nil _ _ _ _, HB2.out.size, by decide⟩
  generalize W2.alloc (Obj.cells #[.string s, .slice none 0 0] 38) = W3 at *
  generalize W2.heap.size = ge at *
  have HU3 : Hid _ := hU
  clear hU HB2
  go_loopw [9] (fun iv wr => ∃ (k : Nat) (vo : Option Addr) (vc : Nat), k ≤ v ∧ iv = .int .i64 (k : Nat) ∧ Hid (Vg W1 wr ge (.string s) 38 (.slice vo k vc) 24 1 k ((kU m k).map (fun x : Nat => Value.int .u16 (x : Int))))) (fun iv _ => v - (intOf iv).toNat)
  case atStart => exact ⟨0, none, 0, Nat.zero_le _, rfl, HU3.out⟩
  case round =>
    obtain ⟨k, vo, vc, hk, rfl, HU⟩ := hrel
    by_cases hlt2 : k < v
    · have n9 : decide ((k : Int) < (v : Int)) = true := by simp; omega
      have n8 : (k : Int) < (v : Int) := by omega
      have w5 : IntKind.i64.wrap (2 * (k : Int)) = 2 * (k : Int) := by rw [IntKind.wrap_i64]; omega
      have w6 : IntKind.i64.wrap (2 + 2 * (k : Int)) = 2 + 2 * (k : Int) := by rw [IntKind.wrap_i64]; omega
      obtain ⟨x, hx⟩ : ∃ x, valB ((m.drop (2 + 2 * k)).take 2) = x := ⟨_, rfl⟩
      have hx16 : x < 65536 := by rw [← hx]; exact val_lt hlt.out _ 2 _ (by decide)
      have w7 : IntKind.u16.wrap (x : Int) = (x : Int) := by rw [IntKind.wrap_u16]; omega
      have HN1 : Hid (∀ W, Below wr.heap.size wr W → Calls Tryz.prog 39 #[.slice (some ⟨b, off, none⟩) (2 + 2 * v) C, .int .i64 (2 + 2 * (k : Int)), .int .i64 2] W fun e W6 => e = .returned (.int .u64 (x : Int)) ∧ W6.cell? ⟨ge, 1, none⟩ = some (.slice vo k vc) ∧ (∀ o, (W6.alloc o).cell? ⟨ge, 1, none⟩ = some (.slice vo k vc)) ∧ Hid (Vg W1 W6 ge (.string s) 38 (.slice vo k vc) 24 1 k ((kU m k).map (fun x : Nat => Value.int .u16 (x : Int))))) := fun W hW => by
        have hU := HU.out.later hW
        have h1 := rvalueB b off C (2 + 2 * v) (2 + 2 * k) 2 m W (HC1.out.later hU.bel) hm (by omega) (by decide) (by decide) (by omega) _ hx
        rw [show ((2 + 2 * k : Nat) : Int) = 2 + 2 * (k : Int) by omega] at h1
        refine Calls.mono h1 ?_
        rintro e W6 ⟨rfl, hb⟩
        have h6 := hU.later hb
        exact ⟨rfl, h6.c1, fun o => (h6.later (below1 W6 o)).c1, h6⟩
      have b5 : wr.cell? ⟨ge, 1, none⟩ = some (.slice vo k vc) := HU.out.c1
      have HB0 : Hid (Below wr.heap.size wr wr.drew) := below_drewN wr 1
      have HV9 : Hid (((kU m (k + 1)).map (fun x : Nat => Value.int .u16 (x : Int))) = ((kU m k).map (fun x : Nat => Value.int .u16 (x : Int))) ++ [.int .u16 ((x : Nat) : Int)]) := by show _ = _; simp [kU, hx]
      have K1 : Hid True := trivial
      clear hx hx16
      go_wp2
      go_region_law (first | (go_simp; go_at_call 39; have hk1 := K1; clear hk1 K1; refine Calls.mono (HN1.out _ HB0.out) ?_; rintro e W7 ⟨rfl, m7, m7a, HU7⟩; dsimp only) | (refine step_append_lies _ (by rfl) _ _ 36 (by rfl) W1.heap.size 24 i0 (.int .u16 0) 1 2 Tryz.underlying36 hi hz0 hz1 hz2 rfl (by decide) (.slice vo k vc) k ((kU m k).map (fun x : Nat => Value.int .u16 (x : Int))) (by rfl) HU7.out.rowA ⟨W7.heap.size, 0, none⟩ 1 1 [.int .u16 ((x : Nat) : Int)] (by rfl) rfl (World.news_of_block (heap_alloc_new W7 _)) (by simp [Value.oneCell']) (by decide) (by unfold maxLen; omega) (by omega) HU7.out.szA _ rfl ?_; intro g8 cp8 W8 ho8 hg8 _ _; have hgr := HU7.out.growB hg8; have z1 : W8.cell? ⟨ge, 1, none⟩ = some (.slice vo k vc) := (blk_at hgr 1).trans rfl; have zf : W8.frozen? ⟨ge, 1, none⟩ = false := blk_free hgr 1; have HU8 : Hid _ := HU7.out.grow ho8 hg8; clear ho8 hg8 hgr))
      all_goals go_wp2
      all_goals go_roundw
      all_goals first
        | exact ⟨k + 1, some ⟨g8, 0, none⟩, cp8, by omega, by go_num, by rw [HV9.out]; exact HU8.out⟩
        | (simp [intOf]; omega)
    · obtain rfl : k = v := by omega
      have n9 : decide ((k : Int) < (k : Int)) = false := by simp
      have y0 := HU.out.c0
      have y1 := HU.out.c1
      have HX9 : Hid (Bx1 w wr #[.string ⟨#[]⟩, .slice none 0 0] 38) := HX1.out.later HU.out.bel
      have za0 : wr.cell? ⟨w.heap.size, 0, none⟩ = some (.string ⟨#[]⟩) := (blk_at HX9.out.a 0).trans rfl
      have zb0 : wr.frozen? ⟨w.heap.size, 0, none⟩ = false := blk_free HX9.out.a 0
      have za1 : wr.cell? ⟨w.heap.size, 1, none⟩ = some (.slice none 0 0) := (blk_at HX9.out.a 1).trans rfl
      have zb1 : wr.frozen? ⟨w.heap.size, 1, none⟩ = false := blk_free HX9.out.a 1
      go_wp2
      obtain ⟨hp, hq⟩ := putc2 HX9.out.a (.string s) (.slice vo k vc)
      have h9 := owns_sameU HU.out.row (fun g hg => hq.block g (owns_typeU HU.out.row g hg).2.2 (by have h1 := (owns_typeU HU.out.row g hg).2.1; have h2 := HX1.out.size; omega))
      exact bodyPost_ret (results_cell_tmp1 rfl _ _ w.heap.size 38 _ (0, 0) _ rfl hp Tryz.underlying38 rfl infoR) rfl ⟨vo, vc, rfl, u16s_own h9 (kU_lt hlt.out k), HX9.out.bel.trans (hq.below HX9.out.bel.size (fun g hg => by omega))⟩
end Go.Proofs.YtfifaaopdhcaaaaGreatDoor

namespace Go.Proofs.YtfifaaopdhcaaaaGreatDoor
open Go.RowKit
set_option linter.unusedVariables false
set_option linter.unusedSimpArgs false
set_option maxRecDepth 100000
theorem strs_own {W : World} {B n vc : Nat} {vo : Option Addr} {ks : List ByteArray} (h : W.ownsRow B 9 1 (.slice vo n vc) n (ks.map Value.string)) (hl : ∀ x ∈ ks, x.size ≤ 9223372036854775807) : Strs W vo ks := by
  refine ⟨hl, fun hne => ?_⟩
  obtain ⟨g, cp, hv, hc⟩ := owns_at h (by simpa using hne)
  injection hv with h1 h2 h3
  subst h1
  refine ⟨g, 0, rfl, fun j hj => hc j _ ?_⟩
  rw [List.getElem?_map, List.getElem?_eq_getElem hj]; rfl
set_option maxHeartbeats 2000000 in
theorem rMetasU_noT (ao : Option Addr) (cap n : Nat) (l : List Nat) (w : World) (h : CRow w ao cap l) (HN : Hid (l.length = n)) (hn : n ≤ 1048576) (ht : okT l 0 = false) :
    Calls Tryz.prog 13 #[.slice ao n cap] w fun e w' => e = .returned (.tuple #[.agg #[.string ⟨#[]⟩, .slice none 0 0], .int .i64 81]) ∧ Below w.heap.size w w' := by
  have HM : Hid (∀ W, Below w.heap.size w W → _) := fun W hb => rnamed_no ao cap n l W (h.later hb) HN hn ht
  clear h ht
  have hx := mkb1 w #[.string ⟨#[]⟩, .slice none 0 0] 46
  go_enter Tryz.func13, Tryz.ntmps13
  go_upto_region 1 with fail
  generalize w.alloc (Obj.cells #[.string ⟨#[]⟩, .slice none 0 0] 46) = W0 at *
  have HX : Hid (Bx1 w W0 #[.string ⟨#[]⟩, .slice none 0 0] 46) := hx
  clear hx
  have za0 : W0.cell? ⟨w.heap.size, 0, none⟩ = some (.string ⟨#[]⟩) := (blk_at HX.out.a 0).trans rfl
  have zb0 : W0.frozen? ⟨w.heap.size, 0, none⟩ = false := blk_free HX.out.a 0
  have za1 : W0.cell? ⟨w.heap.size, 1, none⟩ = some (.slice none 0 0) := (blk_at HX.out.a 1).trans rfl
  have zb1 : W0.frozen? ⟨w.heap.size, 1, none⟩ = false := blk_free HX.out.a 1
  go_wp2_with fail
  refine Calls.mono (HM.out W0 HX.out.bel) ?_
  rintro e W1 ⟨s, ar, m, c, rfl, hb1⟩
  have HX1 : Hid (Bx1 w W1 #[.string ⟨#[]⟩, .slice none 0 0] 46) := HX.out.later hb1
  clear hb1 HX
  clear za0 zb0 za1 zb1
  have ya0 : W1.cell? ⟨w.heap.size, 0, none⟩ = some (.string ⟨#[]⟩) := (blk_at HX1.out.a 0).trans rfl
  have yb0 : W1.frozen? ⟨w.heap.size, 0, none⟩ = false := blk_free HX1.out.a 0
  have ya1 : W1.cell? ⟨w.heap.size, 1, none⟩ = some (.slice none 0 0) := (blk_at HX1.out.a 1).trans rfl
  have yb1 : W1.frozen? ⟨w.heap.size, 1, none⟩ = false := blk_free HX1.out.a 1
  go_wp2
  obtain ⟨hp, hq⟩ := putc2 HX1.out.a (.string ⟨#[]⟩) (.slice none 0 0)
  exact bodyPost_ret (results_cell_tmp1 rfl _ _ w.heap.size 46 _ (0, 0) _ rfl hp Tryz.underlying46 rfl infoQ) rfl ⟨rfl, HX1.out.bel.trans (hq.below HX1.out.bel.size (fun g hg => by omega))⟩
set_option maxHeartbeats 2000000 in
theorem rMetasU_short (ao : Option Addr) (cap n : Nat) (w : World) (s : ByteArray) (N C : Nat) (m : List Nat) (HM : Hid (∀ W, Below w.heap.size w W → Calls Tryz.prog 46 #[.slice ao n cap] W fun e w' => ∃ ar, e = .returned (.tuple #[.string s, .slice ar N C, .bool true]) ∧ CRow w' ar C m ∧ Below W.heap.size W w')) (h2 : N < 4) :
    Calls Tryz.prog 13 #[.slice ao n cap] w fun e w' => e = .returned (.tuple #[.agg #[.string ⟨#[]⟩, .slice none 0 0], .int .i64 81]) ∧ Below w.heap.size w w' := by
  have t1 : decide ((N : Int) < 4) = true := by simp; omega
  have t2 : (N : Int) < 4 := by omega
  have hx := mkb1 w #[.string ⟨#[]⟩, .slice none 0 0] 46
  go_enter Tryz.func13, Tryz.ntmps13
  go_upto_region 1 with fail
  generalize w.alloc (Obj.cells #[.string ⟨#[]⟩, .slice none 0 0] 46) = W0 at *
  have HX : Hid (Bx1 w W0 #[.string ⟨#[]⟩, .slice none 0 0] 46) := hx
  clear hx
  have za0 : W0.cell? ⟨w.heap.size, 0, none⟩ = some (.string ⟨#[]⟩) := (blk_at HX.out.a 0).trans rfl
  have zb0 : W0.frozen? ⟨w.heap.size, 0, none⟩ = false := blk_free HX.out.a 0
  have za1 : W0.cell? ⟨w.heap.size, 1, none⟩ = some (.slice none 0 0) := (blk_at HX.out.a 1).trans rfl
  have zb1 : W0.frozen? ⟨w.heap.size, 1, none⟩ = false := blk_free HX.out.a 1
  go_wp2_with fail
  refine Calls.mono (HM.out W0 HX.out.bel) ?_
  rintro e W1 ⟨ar, rfl, hc1, hb1⟩
  have HX1 : Hid (Bx1 w W1 #[.string ⟨#[]⟩, .slice none 0 0] 46) := HX.out.later hb1
  clear hb1 HX HM
  clear za0 zb0 za1 zb1
  clear hc1
  have ya0 : W1.cell? ⟨w.heap.size, 0, none⟩ = some (.string ⟨#[]⟩) := (blk_at HX1.out.a 0).trans rfl
  have yb0 : W1.frozen? ⟨w.heap.size, 0, none⟩ = false := blk_free HX1.out.a 0
  have ya1 : W1.cell? ⟨w.heap.size, 1, none⟩ = some (.slice none 0 0) := (blk_at HX1.out.a 1).trans rfl
  have yb1 : W1.frozen? ⟨w.heap.size, 1, none⟩ = false := blk_free HX1.out.a 1
  go_wp2
  obtain ⟨hp, hq⟩ := putc2 HX1.out.a (.string ⟨#[]⟩) (.slice none 0 0)
  exact bodyPost_ret (results_cell_tmp1 rfl _ _ w.heap.size 46 _ (0, 0) _ rfl hp Tryz.underlying46 rfl infoQ) rfl ⟨rfl, HX1.out.bel.trans (hq.below HX1.out.bel.size (fun g hg => by omega))⟩
set_option maxHeartbeats 2000000 in
theorem rMetasU_many (ao : Option Addr) (cap n : Nat) (w : World) (s : ByteArray) (N C v : Nat) (m : List Nat) (HM : Hid (∀ W, Below w.heap.size w W → Calls Tryz.prog 46 #[.slice ao n cap] W fun e w' => ∃ ar, e = .returned (.tuple #[.string s, .slice ar N C, .bool true]) ∧ CRow w' ar C m ∧ Below W.heap.size W w')) (hm : Hid (m.length = N)) (hN : N ≤ 1048576) (h2 : 4 ≤ N) (hv : valB (m.take 4) = v) (h16 : 16 < v) (hvb : v < 4294967296) :
    Calls Tryz.prog 13 #[.slice ao n cap] w fun e w' => e = .returned (.tuple #[.agg #[.string ⟨#[]⟩, .slice none 0 0], .int .i64 170]) ∧ Below w.heap.size w w' := by
  have t1 : decide ((N : Int) < 4) = false := by simp; omega
  have t2 : ¬ (N : Int) < 4 := by omega
  have g1 : decide ((16 : Int) < (v : Int)) = true := by simp; omega
  have g2 : (16 : Int) < (v : Int) := by omega
  have hm0 := hm.out
  have hx := mkb1 w #[.string ⟨#[]⟩, .slice none 0 0] 46
  go_enter Tryz.func13, Tryz.ntmps13
  go_upto_region 1 with fail
  generalize w.alloc (Obj.cells #[.string ⟨#[]⟩, .slice none 0 0] 46) = W0 at *
  have HX : Hid (Bx1 w W0 #[.string ⟨#[]⟩, .slice none 0 0] 46) := hx
  clear hx
  have za0 : W0.cell? ⟨w.heap.size, 0, none⟩ = some (.string ⟨#[]⟩) := (blk_at HX.out.a 0).trans rfl
  have zb0 : W0.frozen? ⟨w.heap.size, 0, none⟩ = false := blk_free HX.out.a 0
  have za1 : W0.cell? ⟨w.heap.size, 1, none⟩ = some (.slice none 0 0) := (blk_at HX.out.a 1).trans rfl
  have zb1 : W0.frozen? ⟨w.heap.size, 1, none⟩ = false := blk_free HX.out.a 1
  go_wp2_with fail
  refine Calls.mono (HM.out W0 HX.out.bel) ?_
  rintro e W1 ⟨ar, rfl, hc1, hb1⟩
  have HX1 : Hid (Bx1 w W1 #[.string ⟨#[]⟩, .slice none 0 0] 46) := HX.out.later hb1
  clear hb1 HX HM
  clear za0 zb0 za1 zb1
  obtain ⟨b, off, rfl⟩ := hc1.some (by omega)
  have HV : Hid _ := rvalueB b off C _ 0 4 m W1 hc1 hm (by omega) (by decide) (by decide) (by omega) v (by simpa using hv)
  have HC1 : Hid (CRow W1 (some ⟨b, off, none⟩) C m) := hc1
  clear hc1
  clear hm0
  go_wp2_with fail
  refine Calls.mono HV.out ?_
  rintro e W2 ⟨rfl, hb2⟩
  have HX2 : Hid (Bx1 w W2 #[.string ⟨#[]⟩, .slice none 0 0] 46) := HX1.out.later hb2
  clear hb2 HX1 HV HC1
  have ya0 : W2.cell? ⟨w.heap.size, 0, none⟩ = some (.string ⟨#[]⟩) := (blk_at HX2.out.a 0).trans rfl
  have yb0 : W2.frozen? ⟨w.heap.size, 0, none⟩ = false := blk_free HX2.out.a 0
  have ya1 : W2.cell? ⟨w.heap.size, 1, none⟩ = some (.slice none 0 0) := (blk_at HX2.out.a 1).trans rfl
  have yb1 : W2.frozen? ⟨w.heap.size, 1, none⟩ = false := blk_free HX2.out.a 1
  go_wp2
  obtain ⟨hp, hq⟩ := putc2 HX2.out.a (.string ⟨#[]⟩) (.slice none 0 0)
  exact bodyPost_ret (results_cell_tmp1 rfl _ _ w.heap.size 46 _ (0, 0) _ rfl hp Tryz.underlying46 rfl infoQ) rfl ⟨rfl, HX2.out.bel.trans (hq.below HX2.out.bel.size (fun g hg => by omega))⟩
end Go.Proofs.YtfifaaopdhcaaaaGreatDoor

namespace Go.Proofs.YtfifaaopdhcaaaaGreatDoor
open Go.RowKit
set_option linter.unusedVariables false
set_option linter.unusedSimpArgs false
set_option maxRecDepth 100000
set_option maxHeartbeats 8000000 in
theorem rMetasU_loop (ao : Option Addr) (cap n : Nat) (w : World) (s : ByteArray) (N C v a : Nat) (l m : List Nat) (HM : Hid (∀ W, Below w.heap.size w W → Calls Tryz.prog 46 #[.slice ao n cap] W fun e w' => ∃ ar, e = .returned (.tuple #[.string s, .slice ar N C, .bool true]) ∧ CRow w' ar C m ∧ Below W.heap.size W w')) (hm : Hid (m.length = N)) (hN : N ≤ 1048576) (h2 : 4 ≤ N) (hv : valB (m.take 4) = v) (h16 : v ≤ 16) (hla : Hid (m.drop 4 = l.drop a)) (hal : a ≤ l.length) (hln : l.length ≤ 1048576) :
    Calls Tryz.prog 13 #[.slice ao n cap] w fun e w' => Below w.heap.size w w' ∧ ((tE l a 0 v = 0 ∧ tA l a v = l.length ∧ ∃ ia ic, e = .returned (.tuple #[.agg #[.string s, .slice ia v ic], .int .i64 0]) ∧ Strs w' ia (tV l a v)) ∨ (ndE (decide (tA l a v = l.length)) (tE l a 0 v) = 81 ∧ e = .returned (.tuple #[.agg #[.string ⟨#[]⟩, .slice none 0 0], .int .i64 81]))) := by
  obtain ⟨i0, hi, hz0, hz1, hz2⟩ := info_parts infoEt
  have t1 : decide ((N : Int) < 4) = false := by simp; omega
  have t2 : ¬ (N : Int) < 4 := by omega
  have t3 : (4 : Int) ≤ (N : Int) := by omega
  have g1 : decide ((16 : Int) < (v : Int)) = false := by simp; omega
  have g2 : ¬ (16 : Int) < (v : Int) := by omega
  have hm0 := hm.out
  have hx := mkb1 w #[.string ⟨#[]⟩, .slice none 0 0] 46
  go_enter Tryz.func13, Tryz.ntmps13
  go_upto_region 1 with fail
  generalize w.alloc (Obj.cells #[.string ⟨#[]⟩, .slice none 0 0] 46) = W0 at *
  have HX : Hid (Bx1 w W0 #[.string ⟨#[]⟩, .slice none 0 0] 46) := hx
  clear hx
  have za0 : W0.cell? ⟨w.heap.size, 0, none⟩ = some (.string ⟨#[]⟩) := (blk_at HX.out.a 0).trans rfl
  have zb0 : W0.frozen? ⟨w.heap.size, 0, none⟩ = false := blk_free HX.out.a 0
  have za1 : W0.cell? ⟨w.heap.size, 1, none⟩ = some (.slice none 0 0) := (blk_at HX.out.a 1).trans rfl
  have zb1 : W0.frozen? ⟨w.heap.size, 1, none⟩ = false := blk_free HX.out.a 1
  go_wp2_with fail
  refine Calls.mono (HM.out W0 HX.out.bel) ?_
  rintro e W1 ⟨ar, rfl, hc1, hb1⟩
  have HX1 : Hid (Bx1 w W1 #[.string ⟨#[]⟩, .slice none 0 0] 46) := HX.out.later hb1
  clear hb1 HX HM
  clear za0 zb0 za1 zb1
  obtain ⟨b, off, rfl⟩ := hc1.some (by omega)
  have HV : Hid _ := rvalueB b off C _ 0 4 m W1 hc1 hm (by omega) (by decide) (by decide) (by omega) v (by simpa using hv)
  have HC1 : Hid (CRow W1 (some ⟨b, off, none⟩) C m) := hc1
  clear hc1
  have t4 : (N : Int) ≤ (C : Int) := by have h1 := HC1.out.cap1; omega
  obtain ⟨ar, har⟩ : ∃ ar, (if C = 4 then some (⟨b, off, none⟩ : Addr) else some ⟨b, off + 4, none⟩) = ar := ⟨_, rfl⟩
  have HC4 : Hid (CRow W1 ar (C - 4) (l.drop a) ∧ (l.drop a).length = N - 4) := by
    have h1 := crow_cut HC1.out 4 (by omega)
    simp only [har] at h1
    rw [hla.out] at h1
    exact ⟨h1, by rw [← hla.out, List.length_drop, hm.out]⟩
  clear hm0 hv HC1
  go_wp2_with fail
  refine Calls.mono HV.out ?_
  rintro e W2 ⟨rfl, hb2⟩
  have HB2 : Hid (Below W1.heap.size W1 W2) := hb2
  clear hb2 HV
  go_wp2_with fail
  have hU : Vg W1 (W2.alloc (Obj.cells #[.string s, .slice none 0 0] 46)) W2.heap.size (.string s) 46 (.slice none 0 0) 9 1 0 [] := ⟨HB2.out.trans ((below1 W2 _).mono HB2.out.size), heap_new W2 _, World.ownsRow_nil _ _ _ _, HB2.out.size, by decide⟩
  generalize W2.alloc (Obj.cells #[.string s, .slice none 0 0] 46) = W3 at *
  generalize W2.heap.size = ge at *
  have HU3 : Hid _ := hU
  clear hU HB2
  go_loopw [5, 9] (fun rv iv wr => ∃ (k : Nat) (vo : Option Addr) (vc : Nat) (aq : Option Addr) (Nq Cq : Nat), k ≤ v ∧ rv = .slice aq Nq Cq ∧ iv = .int .u64 (k : Nat) ∧ Hid (CRow W1 aq Cq (l.drop (tA l a k)) ∧ (l.drop (tA l a k)).length = Nq ∧ tE l a 0 k = 0) ∧ Hid (Vg W1 wr ge (.string s) 46 (.slice vo k vc) 9 1 k ((tV l a k).map Value.string))) (fun _ iv _ => v - (intOf iv).toNat)
  case atStart => exact ⟨0, none, 0, ar, N - 4, C - 4, Nat.zero_le _, rfl, rfl, ⟨HC4.out.1, HC4.out.2, rfl⟩, HU3.out⟩
  case round =>
    obtain ⟨k, vo, vc, aq, Nq, Cq, hk, rfl, rfl, HQ, HU⟩ := hrel
    have hA : tA l a k ≤ l.length := tA_le hal k
    by_cases hlt2 : k < v
    · have n9 : decide ((k : Int) < (v : Int)) = true := by simp; omega
      have n8 : (k : Int) < (v : Int) := by omega
      cases hT : okT l (tA l a k) with
      | true =>
        have HM2 : Hid (Calls Tryz.prog 46 #[.slice aq Nq Cq] wr fun e w' => ∃ ar2 N2 C2, e = .returned (.tuple #[.string (tvS l (tA l a k)), .slice ar2 N2 C2, .bool true]) ∧ CRow W1 ar2 C2 (l.drop (tA l a (k + 1))) ∧ (l.drop (tA l a (k + 1))).length = N2 ∧ Below wr.heap.size wr w') := by
          refine Calls.mono (rnamed_yesA aq Cq Nq (l.drop (tA l a k)) wr (HQ.out.1.later HU.out.bel) HQ.out.2.1 (by rw [← HQ.out.2.1, List.length_drop]; omega) (by rw [okT_drop hA]; exact hT)) ?_
          rintro e w' ⟨ar2, rfl, hc, hb⟩
          have e1 : tA l a (k + 1) = tA l a k + taA (l.drop (tA l a k)) 0 := taA_drop hA
          have h1 := hc W1 HQ.out.1
          rw [List.drop_drop] at h1
          refine ⟨ar2, _, _, by rw [tvS_drop hA], by rw [e1]; exact h1, ?_, hb⟩
          rw [e1, ← HQ.out.2.1, List.length_drop, List.length_drop]; omega
        have HTE : Hid (tE l a 0 (k + 1) = 0) := by show ndE (okT l (tA l a k)) (tE l a 0 k) = 0; rw [hT, HQ.out.2.2]; rfl
        have HV9 : Hid (((tV l a (k + 1)).map Value.string) = ((tV l a k).map Value.string) ++ [.string (tvS l (tA l a k))]) := by show _ = _; simp [tV]
        obtain ⟨x, hx⟩ : ∃ x, tvS l (tA l a k) = x := ⟨_, rfl⟩
        rw [hx] at HM2 HV9
        clear hx hT HQ hA
        go_wp2_with fail
        refine Calls.mono HM2.out ?_
        rintro e W4 ⟨ar2, N2, C2, rfl, hc2, hl2, hb2⟩
        have HU4 : Hid (Vg W1 W4 ge (.string s) 46 (.slice vo k vc) 9 1 k ((tV l a k).map Value.string)) := HU.out.later hb2
        have HC2 : Hid (CRow W1 ar2 C2 (l.drop (tA l a (k + 1))) ∧ (l.drop (tA l a (k + 1))).length = N2 ∧ tE l a 0 (k + 1) = 0) := ⟨hc2, hl2, HTE.out⟩
        have b5 : W4.cell? ⟨ge, 1, none⟩ = some (.slice vo k vc) := HU4.out.c1
        have b6 : ∀ o, (W4.alloc o).cell? ⟨ge, 1, none⟩ = some (.slice vo k vc) := fun o => (HU4.out.later (below1 W4 o)).c1
        clear hc2 hl2 hb2 HU HM2 HTE
        go_wp2_with (at_builtin; refine wpList_append_lies _ rfl _ _ 44 rfl W1.heap.size 9 i0 (.string ⟨#[]⟩) 1 16 Tryz.underlying44 hi hz0 hz1 hz2 rfl (by decide) (.slice vo k vc) k ((tV l a k).map Value.string) rfl HU4.out.rowA ⟨W4.heap.size, 0, none⟩ 1 1 [.string x] rfl rfl (World.news_of_block (heap_alloc_new W4 _)) (by simp [Value.oneCell']) (by decide) (by unfold maxLen; omega) (by omega) HU4.out.szA _ rfl ?_; intro g8 cp8 W8 ho8 hg8 _ _; have hgr := HU4.out.growB hg8; have z1 : W8.cell? ⟨ge, 1, none⟩ = some (.slice vo k vc) := (blk_at hgr 1).trans rfl; have zf : W8.frozen? ⟨ge, 1, none⟩ = false := blk_free hgr 1; have HU8 : Hid _ := HU4.out.grow ho8 hg8; clear ho8 hg8 hgr)
        all_goals go_roundw
        all_goals first
          | exact ⟨k + 1, some ⟨g8, 0, none⟩, cp8, ar2, N2, C2, by omega, rfl, by go_num, HC2, by rw [HV9.out]; exact HU8.out⟩
          | (simp [intOf]; omega)
      | false =>
        have HM2 : Hid (Calls Tryz.prog 46 #[.slice aq Nq Cq] wr fun e w' => ∃ s ar m c, e = .returned (.tuple #[.string s, .slice ar m c, .bool false]) ∧ Below wr.heap.size wr w') := rnamed_no aq Cq Nq (l.drop (tA l a k)) wr (HQ.out.1.later HU.out.bel) HQ.out.2.1 (by rw [← HQ.out.2.1, List.length_drop]; omega) (by rw [okT_drop hA]; exact hT)
        have HE : Hid (ndE (decide (tA l a v = l.length)) (tE l a 0 v) = 81) := by show _ = _; rw [tE_stick HQ.out.2.2 hT v hlt2, nd_81]
        clear hT hA
        go_wp2_with fail
        refine Calls.mono HM2.out ?_
        rintro e W4 ⟨s9, ar9, m9, c9, rfl, hb4⟩
        have HX9 : Hid (Bx1 w W4 #[.string ⟨#[]⟩, .slice none 0 0] 46) := (HX1.out.later HU.out.bel).later hb4
        have za0 : W4.cell? ⟨w.heap.size, 0, none⟩ = some (.string ⟨#[]⟩) := (blk_at HX9.out.a 0).trans rfl
        have zb0 : W4.frozen? ⟨w.heap.size, 0, none⟩ = false := blk_free HX9.out.a 0
        have za1 : W4.cell? ⟨w.heap.size, 1, none⟩ = some (.slice none 0 0) := (blk_at HX9.out.a 1).trans rfl
        have zb1 : W4.frozen? ⟨w.heap.size, 1, none⟩ = false := blk_free HX9.out.a 1
        clear hb4 HU HQ HM2
        go_wp2
        obtain ⟨hp, hq⟩ := putc2 HX9.out.a (.string ⟨#[]⟩) (.slice none 0 0)
        exact bodyPost_ret (results_cell_tmp1 rfl _ _ w.heap.size 46 _ (0, 0) _ rfl hp Tryz.underlying46 rfl infoQ) rfl ⟨HX9.out.bel.trans (hq.below HX9.out.bel.size (fun g hg => by omega)), .inr ⟨HE.out, rfl⟩⟩
    · obtain rfl : k = v := by omega
      have n9 : decide ((k : Int) < (k : Int)) = false := by simp
      have y0 := HU.out.c0
      have y1 := HU.out.c1
      have HX9 : Hid (Bx1 w wr #[.string ⟨#[]⟩, .slice none 0 0] 46) := HX1.out.later HU.out.bel
      have za0 : wr.cell? ⟨w.heap.size, 0, none⟩ = some (.string ⟨#[]⟩) := (blk_at HX9.out.a 0).trans rfl
      have zb0 : wr.frozen? ⟨w.heap.size, 0, none⟩ = false := blk_free HX9.out.a 0
      have za1 : wr.cell? ⟨w.heap.size, 1, none⟩ = some (.slice none 0 0) := (blk_at HX9.out.a 1).trans rfl
      have zb1 : wr.frozen? ⟨w.heap.size, 1, none⟩ = false := blk_free HX9.out.a 1
      have hNq : l.length - tA l a k = Nq := by rw [← HQ.out.2.1, List.length_drop]
      by_cases h0 : Nq = 0
      · subst h0
        have HE : Hid (tE l a 0 k = 0 ∧ tA l a k = l.length) := ⟨HQ.out.2.2, by omega⟩
        clear HQ hA hNq
        go_wp2
        obtain ⟨hp, hq⟩ := putc2 HX9.out.a (.string s) (.slice vo k vc)
        have h9 := owns_sameU HU.out.row (fun g hg => hq.block g (owns_typeU HU.out.row g hg).2.2 (by have h1 := (owns_typeU HU.out.row g hg).2.1; have h2 := HX1.out.size; omega))
        exact bodyPost_ret (results_cell_tmp1 rfl _ _ w.heap.size 46 _ (0, 0) _ rfl hp Tryz.underlying46 rfl infoQ) rfl ⟨HX9.out.bel.trans (hq.below HX9.out.bel.size (fun g hg => by omega)), .inl ⟨HE.out.1, HE.out.2, vo, vc, rfl, strs_own h9 (tV_sz l a k)⟩⟩
      · have HE : Hid (ndE (decide (tA l a k = l.length)) (tE l a 0 k) = 81) := by show _ = _; rw [HQ.out.2.2, decide_eq_false (by omega)]; rfl
        have f0 : ((Nq : Int) == 0) = false := by rw [beq_eq_false_iff_ne]; omega
        have f1 : ((Nq : Int) != 0) = true := by simp [bne, f0]
        clear HQ hA hNq
        go_wp2
        obtain ⟨hp, hq⟩ := putc2 HX9.out.a (.string ⟨#[]⟩) (.slice none 0 0)
        exact bodyPost_ret (results_cell_tmp1 rfl _ _ w.heap.size 46 _ (0, 0) _ rfl hp Tryz.underlying46 rfl infoQ) rfl ⟨HX9.out.bel.trans (hq.below HX9.out.bel.size (fun g hg => by omega)), .inr ⟨HE.out, rfl⟩⟩
end Go.Proofs.YtfifaaopdhcaaaaGreatDoor

namespace Go.Proofs.YtfifaaopdhcaaaaGreatDoor
open Go.RowKit
set_option linter.unusedVariables false
set_option linter.unusedSimpArgs false
set_option maxRecDepth 100000
set_option maxHeartbeats 2000000 in
theorem rStU0_short (ao : Option Addr) (cap n : Nat) (w : World) (h4 : n < 12) :
    Calls Tryz.prog 21 #[.slice ao n cap, .bool false] w fun e w' => e = .returned (.tuple #[.agg #[.int .u32 0, .slice none 0 0], .int .i64 81]) ∧ Below w.heap.size w w' := by
  have t1 : decide ((n : Int) < 12) = true := by simp; omega
  have t2 : (n : Int) < 12 := by omega
  have hx := mkb1 w #[.int .u32 0, .slice none 0 0] 67
  go_enter Tryz.func21, Tryz.ntmps21
  go_upto_region 1 with fail
  generalize w.alloc (Obj.cells #[.int .u32 0, .slice none 0 0] 67) = W0 at *
  have HX : Hid (Bx1 w W0 #[.int .u32 0, .slice none 0 0] 67) := hx
  clear hx
  have za0 : W0.cell? ⟨w.heap.size, 0, none⟩ = some (.int .u32 0) := (blk_at HX.out.a 0).trans rfl
  have zb0 : W0.frozen? ⟨w.heap.size, 0, none⟩ = false := blk_free HX.out.a 0
  have za1 : W0.cell? ⟨w.heap.size, 1, none⟩ = some (.slice none 0 0) := (blk_at HX.out.a 1).trans rfl
  have zb1 : W0.frozen? ⟨w.heap.size, 1, none⟩ = false := blk_free HX.out.a 1
  go_wp2
  obtain ⟨hp, hq⟩ := putc2 HX.out.a (.int .u32 0) (.slice none 0 0)
  exact bodyPost_ret (results_cell_tmp1 rfl _ _ w.heap.size 67 _ (0, 0) _ rfl hp Tryz.underlying67 rfl infoT) rfl ⟨rfl, HX.out.bel.trans (hq.below HX.out.bel.size (fun g hg => by omega))⟩
set_option maxHeartbeats 2000000 in
theorem rStU0_part (ao : Option Addr) (cap n q r : Nat) (w : World) (hn : n ≤ 1048576) (hq : n = 4 + 8 * q + r) (hq1 : 1 ≤ q) (hr : 1 ≤ r) (hr2 : r < 8) :
    Calls Tryz.prog 21 #[.slice ao n cap, .bool false] w fun e w' => e = .returned (.tuple #[.agg #[.int .u32 0, .slice none 0 0], .int .i64 81]) ∧ Below w.heap.size w w' := by
  have t1 : decide ((n : Int) < 12) = false := by simp; omega
  have t2 : ¬ (n : Int) < 12 := by omega
  have w1 : IntKind.i64.wrap ((n : Int) - 4) = (n : Int) - 4 := by rw [IntKind.wrap_i64]; omega
  have r1 : ((n : Int) - 4).tmod 8 = (r : Int) := by
    rw [show (n : Int) - 4 = ((n - 4 : Nat) : Int) by omega, show (8 : Int) = ((8 : Nat) : Int) from rfl, ← Int.ofNat_tmod]
    omega
  have w2 : IntKind.i64.wrap (r : Int) = (r : Int) := by rw [IntKind.wrap_i64]; omega
  have r2 : ((r : Int) == 0) = false := by rw [beq_eq_false_iff_ne]; omega
  have r3 : ((r : Int) != 0) = true := by simp [bne, r2]
  have r4 : ¬ (r : Int) = 0 := by omega
  have r5 : ¬ r = 0 := by omega
  have r7 : ((n : Int) - 4) % 8 = (r : Int) := by omega
  clear hq
  have hx := mkb1 w #[.int .u32 0, .slice none 0 0] 67
  go_enter Tryz.func21, Tryz.ntmps21
  go_upto_region 1 with fail
  generalize w.alloc (Obj.cells #[.int .u32 0, .slice none 0 0] 67) = W0 at *
  have HX : Hid (Bx1 w W0 #[.int .u32 0, .slice none 0 0] 67) := hx
  clear hx
  have za0 : W0.cell? ⟨w.heap.size, 0, none⟩ = some (.int .u32 0) := (blk_at HX.out.a 0).trans rfl
  have zb0 : W0.frozen? ⟨w.heap.size, 0, none⟩ = false := blk_free HX.out.a 0
  have za1 : W0.cell? ⟨w.heap.size, 1, none⟩ = some (.slice none 0 0) := (blk_at HX.out.a 1).trans rfl
  have zb1 : W0.frozen? ⟨w.heap.size, 1, none⟩ = false := blk_free HX.out.a 1
  go_wp2
  obtain ⟨hp, hq⟩ := putc2 HX.out.a (.int .u32 0) (.slice none 0 0)
  exact bodyPost_ret (results_cell_tmp1 rfl _ _ w.heap.size 67 _ (0, 0) _ rfl hp Tryz.underlying67 rfl infoT) rfl ⟨rfl, HX.out.bel.trans (hq.below HX.out.bel.size (fun g hg => by omega))⟩
set_option maxHeartbeats 2000000 in
theorem rStU1_short (ao : Option Addr) (cap n : Nat) (w : World) (h4 : n < 24) :
    Calls Tryz.prog 21 #[.slice ao n cap, .bool true] w fun e w' => e = .returned (.tuple #[.agg #[.int .u32 0, .slice none 0 0], .int .i64 81]) ∧ Below w.heap.size w w' := by
  have t1 : decide ((n : Int) < 24) = true := by simp; omega
  have t2 : (n : Int) < 24 := by omega
  have hx := mkb1 w #[.int .u32 0, .slice none 0 0] 67
  go_enter Tryz.func21, Tryz.ntmps21
  go_upto_region 1 with fail
  generalize w.alloc (Obj.cells #[.int .u32 0, .slice none 0 0] 67) = W0 at *
  have HX : Hid (Bx1 w W0 #[.int .u32 0, .slice none 0 0] 67) := hx
  clear hx
  have za0 : W0.cell? ⟨w.heap.size, 0, none⟩ = some (.int .u32 0) := (blk_at HX.out.a 0).trans rfl
  have zb0 : W0.frozen? ⟨w.heap.size, 0, none⟩ = false := blk_free HX.out.a 0
  have za1 : W0.cell? ⟨w.heap.size, 1, none⟩ = some (.slice none 0 0) := (blk_at HX.out.a 1).trans rfl
  have zb1 : W0.frozen? ⟨w.heap.size, 1, none⟩ = false := blk_free HX.out.a 1
  go_wp2
  obtain ⟨hp, hq⟩ := putc2 HX.out.a (.int .u32 0) (.slice none 0 0)
  exact bodyPost_ret (results_cell_tmp1 rfl _ _ w.heap.size 67 _ (0, 0) _ rfl hp Tryz.underlying67 rfl infoT) rfl ⟨rfl, HX.out.bel.trans (hq.below HX.out.bel.size (fun g hg => by omega))⟩
set_option maxHeartbeats 2000000 in
theorem rStU1_part (ao : Option Addr) (cap n q r : Nat) (w : World) (hn : n ≤ 1048576) (hq : n = 8 + 16 * q + r) (hq1 : 1 ≤ q) (hr : 1 ≤ r) (hr2 : r < 16) :
    Calls Tryz.prog 21 #[.slice ao n cap, .bool true] w fun e w' => e = .returned (.tuple #[.agg #[.int .u32 0, .slice none 0 0], .int .i64 81]) ∧ Below w.heap.size w w' := by
  have t1 : decide ((n : Int) < 24) = false := by simp; omega
  have t2 : ¬ (n : Int) < 24 := by omega
  have w1 : IntKind.i64.wrap ((n : Int) - 8) = (n : Int) - 8 := by rw [IntKind.wrap_i64]; omega
  have r1 : ((n : Int) - 8).tmod 16 = (r : Int) := by
    rw [show (n : Int) - 8 = ((n - 8 : Nat) : Int) by omega, show (16 : Int) = ((16 : Nat) : Int) from rfl, ← Int.ofNat_tmod]
    omega
  have w2 : IntKind.i64.wrap (r : Int) = (r : Int) := by rw [IntKind.wrap_i64]; omega
  have r2 : ((r : Int) == 0) = false := by rw [beq_eq_false_iff_ne]; omega
  have r3 : ((r : Int) != 0) = true := by simp [bne, r2]
  have r4 : ¬ (r : Int) = 0 := by omega
  have r5 : ¬ r = 0 := by omega
  have r7 : ((n : Int) - 8) % 16 = (r : Int) := by omega
  clear hq
  have hx := mkb1 w #[.int .u32 0, .slice none 0 0] 67
  go_enter Tryz.func21, Tryz.ntmps21
  go_upto_region 1 with fail
  generalize w.alloc (Obj.cells #[.int .u32 0, .slice none 0 0] 67) = W0 at *
  have HX : Hid (Bx1 w W0 #[.int .u32 0, .slice none 0 0] 67) := hx
  clear hx
  have za0 : W0.cell? ⟨w.heap.size, 0, none⟩ = some (.int .u32 0) := (blk_at HX.out.a 0).trans rfl
  have zb0 : W0.frozen? ⟨w.heap.size, 0, none⟩ = false := blk_free HX.out.a 0
  have za1 : W0.cell? ⟨w.heap.size, 1, none⟩ = some (.slice none 0 0) := (blk_at HX.out.a 1).trans rfl
  have zb1 : W0.frozen? ⟨w.heap.size, 1, none⟩ = false := blk_free HX.out.a 1
  go_wp2
  obtain ⟨hp, hq⟩ := putc2 HX.out.a (.int .u32 0) (.slice none 0 0)
  exact bodyPost_ret (results_cell_tmp1 rfl _ _ w.heap.size 67 _ (0, 0) _ rfl hp Tryz.underlying67 rfl infoT) rfl ⟨rfl, HX.out.bel.trans (hq.below HX.out.bel.size (fun g hg => by omega))⟩
set_option maxHeartbeats 4000000 in
theorem rStU1_count (b off cap n K : Nat) (l : List Nat) (w : World) (h : CRow w (some ⟨b, off, none⟩) cap l) (HN : Hid (l.length = n)) (hn : n ≤ 1048576) (hK : n = 8 + 16 * K) (hK1 : 1 ≤ K) (cn : Nat) (hcn : valB ((l.drop 4).take 4) = cn) (hne : cn ≠ K) :
    Calls Tryz.prog 21 #[.slice (some ⟨b, off, none⟩) n cap, .bool true] w fun e w' => e = .returned (.tuple #[.agg #[.int .u32 0, .slice none 0 0], .int .i64 81]) ∧ Below w.heap.size w w' := by
  have t1 : decide ((n : Int) < 24) = false := by simp; omega
  have t2 : ¬ (n : Int) < 24 := by omega
  have w1 : IntKind.i64.wrap ((n : Int) - 8) = (n : Int) - 8 := by rw [IntKind.wrap_i64]; omega
  have r1 : ((n : Int) - 8).tmod 16 = 0 := by
    rw [show (n : Int) - 8 = ((n - 8 : Nat) : Int) by omega, show (16 : Int) = ((16 : Nat) : Int) from rfl, ← Int.ofNat_tmod]
    omega
  have r6 : ((n : Int) - 8).tdiv 16 = (K : Int) := by
    rw [show (n : Int) - 8 = ((n - 8 : Nat) : Int) by omega, show (16 : Int) = ((16 : Nat) : Int) from rfl, ← Int.ofNat_tdiv]
    omega
  have r7 : ((n : Int) - 8) % 16 = 0 := by omega
  have r8 : ((n : Int) - 8) / 16 = (K : Int) := by omega
  have HKn : Hid (n = 8 + 16 * K) := hK
  have w3 : IntKind.i64.wrap (K : Int) = (K : Int) := by rw [IntKind.wrap_i64]; omega
  have w4 : IntKind.u64.wrap (K : Int) = (K : Int) := by rw [IntKind.wrap_u64]; omega
  have wq : IntKind.i64.wrap 16 = 16 := by rw [IntKind.wrap_i64]; rfl
  have HV4 : Hid (∀ W, Below w.heap.size w W → Calls Tryz.prog 39 #[.slice (some ⟨b, off, none⟩) n cap, .int .i64 4, .int .i64 4] W fun e w' => e = .returned (.int .u64 (cn : Int)) ∧ Below W.heap.size W w') := fun W hb => rvalueB b off cap n 4 4 l W (h.later hb) HN (by omega) (by decide) (by decide) (by omega) _ hcn
  have c1 : ((cn : Int) == (K : Int)) = false := by rw [beq_eq_false_iff_ne]; omega
  have c2 : ((cn : Int) != (K : Int)) = true := by simp [bne, c1]
  have c3 : ¬ (cn : Int) = (K : Int) := by omega
  clear h hcn hK
  have hx := mkb1 w #[.int .u32 0, .slice none 0 0] 67
  go_enter Tryz.func21, Tryz.ntmps21
  go_upto_region 1 with fail
  generalize w.alloc (Obj.cells #[.int .u32 0, .slice none 0 0] 67) = W0 at *
  have HX : Hid (Bx1 w W0 #[.int .u32 0, .slice none 0 0] 67) := hx
  clear hx
  have za0 : W0.cell? ⟨w.heap.size, 0, none⟩ = some (.int .u32 0) := (blk_at HX.out.a 0).trans rfl
  have zb0 : W0.frozen? ⟨w.heap.size, 0, none⟩ = false := blk_free HX.out.a 0
  have za1 : W0.cell? ⟨w.heap.size, 1, none⟩ = some (.slice none 0 0) := (blk_at HX.out.a 1).trans rfl
  have zb1 : W0.frozen? ⟨w.heap.size, 1, none⟩ = false := blk_free HX.out.a 1
  have HD : Hid (Bx1 w W0.drew #[.int .u32 0, .slice none 0 0] 67) := HX.out.later (below_drewN W0 1)
  clear za0 zb0 za1 zb1 HX
  go_upto_region 6 with fail
  go_region_held3 (fun w' => True) (first | trivial | go_keep) (first
    | (go_at_call 39; refine Calls.mono (HV4.out _ HD.out.bel) ?_; rintro e W1 ⟨rfl, hb1⟩; have HX1 : Hid (Bx1 w W1 #[.int .u32 0, .slice none 0 0] 67) := HD.out.later hb1; clear hb1))
  have ya0 : W1.cell? ⟨w.heap.size, 0, none⟩ = some (.int .u32 0) := (blk_at HX1.out.a 0).trans rfl
  have yb0 : W1.frozen? ⟨w.heap.size, 0, none⟩ = false := blk_free HX1.out.a 0
  have ya1 : W1.cell? ⟨w.heap.size, 1, none⟩ = some (.slice none 0 0) := (blk_at HX1.out.a 1).trans rfl
  have yb1 : W1.frozen? ⟨w.heap.size, 1, none⟩ = false := blk_free HX1.out.a 1
  go_wp2
  obtain ⟨hp, hq⟩ := putc2 HX1.out.a (.int .u32 0) (.slice none 0 0)
  exact bodyPost_ret (results_cell_tmp1 rfl _ _ w.heap.size 67 _ (0, 0) _ rfl hp Tryz.underlying67 rfl infoT) rfl ⟨rfl, HX1.out.bel.trans (hq.below HX1.out.bel.size (fun g hg => by omega))⟩
end Go.Proofs.YtfifaaopdhcaaaaGreatDoor
