import Derived.Test.YtfifaaopdhcaaaaGreatDoorY19
import Derived.Test.YtfifaaopdhcaaaaGreatDoorY27
import Derived.Test.YtfifaaopdhcaaaaGreatDoorY13
import Derived.Deep.RegionHeld3
import Derived.Test.YtfifaaopdhcaaaaGreatDoorY38
import Derived.Test.YtfifaaopdhcaaaaGreatDoorY6
namespace Go.Proofs.YtfifaaopdhcaaaaGreatDoor
open Go.RowKit
set_option linter.unusedVariables false
set_option linter.unusedSimpArgs false
set_option maxRecDepth 100000
def kU (m : List Nat) : Nat → List Nat
  | 0 => []
  | k + 1 => kU m k ++ [valB ((m.drop (2 + 2 * k)).take 2)]
theorem kU_len (m : List Nat) : ∀ k, (kU m k).length = k
  | 0 => rfl
  | k + 1 => by show (kU m k ++ _).length = _; simp [kU_len m k]
theorem kU_lt {m : List Nat} (h : ∀ x ∈ m, x < 256) : ∀ k, ∀ x ∈ kU m k, x < 65536
  | 0, x, hx => by simp [kU] at hx
  | k + 1, x, hx => by
    rcases List.mem_append.1 (show x ∈ kU m k ++ [_] from hx) with h1 | h1
    · exact kU_lt h k x h1
    · rw [List.mem_singleton.1 h1]; exact val_lt h _ 2 _ (by decide)
theorem kU_uV {l : List Nat} {t : Nat} : ∀ k, t + 2 + 2 * k ≤ l.length → uV l (t + 2) k = kU (l.drop t) k
  | 0, _ => rfl
  | k + 1, h => by
    show uV l (t + 2) k ++ [rvV l (uA l (t + 2) k) 2] = kU (l.drop t) k ++ [_]
    rw [kU_uV k (by omega), (uA_t (l := l) (a := t + 2) k (by omega)).1, rv_t (show t + 2 + 2 * k + 2 ≤ l.length by omega), List.drop_drop, Nat.add_assoc]
theorem u16s_own {W : World} {B n vc : Nat} {vo : Option Addr} {ks : List Nat} (h : W.ownsRow B 24 1 (.slice vo n vc) n (ks.map (fun x : Nat => Value.int .u16 (x : Int)))) (hl : ∀ x ∈ ks, x < 65536) : U16s W vo ks := by
  refine ⟨hl, fun hne => ?_⟩
  obtain ⟨g, cp, hv, hc⟩ := owns_at h (by simpa using hne)
  injection hv with h1 h2 h3
  subst h1
  refine ⟨g, 0, rfl, fun j hj => hc j _ ?_⟩
  rw [List.getElem?_map, List.getElem?_eq_getElem hj]; rfl
set_option maxHeartbeats 2000000 in
theorem rAskU_noT (ao : Option Addr) (cap n : Nat) (l : List Nat) (w : World) (h : CRow w ao cap l) (HN : Hid (l.length = n)) (hn : n ≤ 1048576) (ht : okT l 0 = false) :
    Calls Tryz.prog 10 #[.slice ao n cap] w fun e w' => e = .returned (.tuple #[.agg #[.string ⟨#[]⟩, .slice none 0 0], .int .i64 81]) ∧ Below w.heap.size w w' := by
  have HM : Hid (∀ W, Below w.heap.size w W → _) := fun W hb => rnamed_no ao cap n l W (h.later hb) HN hn ht
  clear h ht
  have hx := mkb1 w #[.string ⟨#[]⟩, .slice none 0 0] 38
  go_enter Tryz.func10, Tryz.ntmps10
  go_upto_region 1 with fail
  generalize w.alloc (Obj.cells #[.string ⟨#[]⟩, .slice none 0 0] 38) = W0 at *
  have HX : Hid (Bx1 w W0 #[.string ⟨#[]⟩, .slice none 0 0] 38) := hx
  clear hx
  have za0 : W0.cell? ⟨w.heap.size, 0, none⟩ = some (.string ⟨#[]⟩) := (blk_at HX.out.a 0).trans rfl
  have zb0 : W0.frozen? ⟨w.heap.size, 0, none⟩ = false := blk_free HX.out.a 0
  have za1 : W0.cell? ⟨w.heap.size, 1, none⟩ = some (.slice none 0 0) := (blk_at HX.out.a 1).trans rfl
  have zb1 : W0.frozen? ⟨w.heap.size, 1, none⟩ = false := blk_free HX.out.a 1
  go_wp2_with fail
  refine Calls.mono (HM.out W0 HX.out.bel) ?_
  rintro e W1 ⟨s, ar, m, c, rfl, hb1⟩
  have HX1 : Hid (Bx1 w W1 #[.string ⟨#[]⟩, .slice none 0 0] 38) := HX.out.later hb1
  clear hb1 HX
  clear za0 zb0 za1 zb1
  have ya0 : W1.cell? ⟨w.heap.size, 0, none⟩ = some (.string ⟨#[]⟩) := (blk_at HX1.out.a 0).trans rfl
  have yb0 : W1.frozen? ⟨w.heap.size, 0, none⟩ = false := blk_free HX1.out.a 0
  have ya1 : W1.cell? ⟨w.heap.size, 1, none⟩ = some (.slice none 0 0) := (blk_at HX1.out.a 1).trans rfl
  have yb1 : W1.frozen? ⟨w.heap.size, 1, none⟩ = false := blk_free HX1.out.a 1
  go_wp2
  obtain ⟨hp, hq⟩ := putc2 HX1.out.a (.string ⟨#[]⟩) (.slice none 0 0)
  exact bodyPost_ret (results_cell_tmp1 rfl _ _ w.heap.size 38 _ (0, 0) _ rfl hp Tryz.underlying38 rfl infoR) rfl ⟨rfl, HX1.out.bel.trans (hq.below HX1.out.bel.size (fun g hg => by omega))⟩
set_option maxHeartbeats 2000000 in
theorem rAskU_short (ao : Option Addr) (cap n : Nat) (w : World) (s : ByteArray) (N C : Nat) (m : List Nat) (HM : Hid (∀ W, Below w.heap.size w W → Calls Tryz.prog 46 #[.slice ao n cap] W fun e w' => ∃ ar, e = .returned (.tuple #[.string s, .slice ar N C, .bool true]) ∧ CRow w' ar C m ∧ Below W.heap.size W w')) (h2 : N < 2) :
    Calls Tryz.prog 10 #[.slice ao n cap] w fun e w' => e = .returned (.tuple #[.agg #[.string ⟨#[]⟩, .slice none 0 0], .int .i64 81]) ∧ Below w.heap.size w w' := by
  have t1 : decide ((N : Int) < 2) = true := by simp; omega
  have t2 : (N : Int) < 2 := by omega
  have hx := mkb1 w #[.string ⟨#[]⟩, .slice none 0 0] 38
  go_enter Tryz.func10, Tryz.ntmps10
  go_upto_region 1 with fail
  generalize w.alloc (Obj.cells #[.string ⟨#[]⟩, .slice none 0 0] 38) = W0 at *
  have HX : Hid (Bx1 w W0 #[.string ⟨#[]⟩, .slice none 0 0] 38) := hx
  clear hx
  have za0 : W0.cell? ⟨w.heap.size, 0, none⟩ = some (.string ⟨#[]⟩) := (blk_at HX.out.a 0).trans rfl
  have zb0 : W0.frozen? ⟨w.heap.size, 0, none⟩ = false := blk_free HX.out.a 0
  have za1 : W0.cell? ⟨w.heap.size, 1, none⟩ = some (.slice none 0 0) := (blk_at HX.out.a 1).trans rfl
  have zb1 : W0.frozen? ⟨w.heap.size, 1, none⟩ = false := blk_free HX.out.a 1
  go_wp2_with fail
  refine Calls.mono (HM.out W0 HX.out.bel) ?_
  rintro e W1 ⟨ar, rfl, hc1, hb1⟩
  have HX1 : Hid (Bx1 w W1 #[.string ⟨#[]⟩, .slice none 0 0] 38) := HX.out.later hb1
  clear hb1 HX HM
  clear za0 zb0 za1 zb1
  clear hc1
  have ya0 : W1.cell? ⟨w.heap.size, 0, none⟩ = some (.string ⟨#[]⟩) := (blk_at HX1.out.a 0).trans rfl
  have yb0 : W1.frozen? ⟨w.heap.size, 0, none⟩ = false := blk_free HX1.out.a 0
  have ya1 : W1.cell? ⟨w.heap.size, 1, none⟩ = some (.slice none 0 0) := (blk_at HX1.out.a 1).trans rfl
  have yb1 : W1.frozen? ⟨w.heap.size, 1, none⟩ = false := blk_free HX1.out.a 1
  go_wp2
  obtain ⟨hp, hq⟩ := putc2 HX1.out.a (.string ⟨#[]⟩) (.slice none 0 0)
  exact bodyPost_ret (results_cell_tmp1 rfl _ _ w.heap.size 38 _ (0, 0) _ rfl hp Tryz.underlying38 rfl infoR) rfl ⟨rfl, HX1.out.bel.trans (hq.below HX1.out.bel.size (fun g hg => by omega))⟩
set_option maxHeartbeats 2000000 in
theorem rAskU_many (ao : Option Addr) (cap n : Nat) (w : World) (s : ByteArray) (N C v : Nat) (m : List Nat) (HM : Hid (∀ W, Below w.heap.size w W → Calls Tryz.prog 46 #[.slice ao n cap] W fun e w' => ∃ ar, e = .returned (.tuple #[.string s, .slice ar N C, .bool true]) ∧ CRow w' ar C m ∧ Below W.heap.size W w')) (hm : Hid (m.length = N)) (hN : N ≤ 1048576) (h2 : 2 ≤ N) (hv : valB (m.take 2) = v) (h64 : 64 < v) (hvb : v < 65536) :
    Calls Tryz.prog 10 #[.slice ao n cap] w fun e w' => e = .returned (.tuple #[.agg #[.string ⟨#[]⟩, .slice none 0 0], .int .i64 170]) ∧ Below w.heap.size w w' := by
  have t1 : decide ((N : Int) < 2) = false := by simp; omega
  have t2 : ¬ (N : Int) < 2 := by omega
  have w1 : IntKind.i64.wrap (v : Int) = (v : Int) := by rw [IntKind.wrap_i64]; omega
  have w2 : IntKind.i64.wrap (2 * (v : Int)) = 2 * (v : Int) := by rw [IntKind.wrap_i64]; omega
  have w3 : IntKind.i64.wrap (2 + 2 * (v : Int)) = 2 + 2 * (v : Int) := by rw [IntKind.wrap_i64]; omega
  have g1 : decide ((64 : Int) < (v : Int)) = true := by simp; omega
  have g2 : (64 : Int) < (v : Int) := by omega
  have hm0 := hm.out
  have hx := mkb1 w #[.string ⟨#[]⟩, .slice none 0 0] 38
  go_enter Tryz.func10, Tryz.ntmps10
  go_upto_region 1 with fail
  generalize w.alloc (Obj.cells #[.string ⟨#[]⟩, .slice none 0 0] 38) = W0 at *
  have HX : Hid (Bx1 w W0 #[.string ⟨#[]⟩, .slice none 0 0] 38) := hx
  clear hx
  have za0 : W0.cell? ⟨w.heap.size, 0, none⟩ = some (.string ⟨#[]⟩) := (blk_at HX.out.a 0).trans rfl
  have zb0 : W0.frozen? ⟨w.heap.size, 0, none⟩ = false := blk_free HX.out.a 0
  have za1 : W0.cell? ⟨w.heap.size, 1, none⟩ = some (.slice none 0 0) := (blk_at HX.out.a 1).trans rfl
  have zb1 : W0.frozen? ⟨w.heap.size, 1, none⟩ = false := blk_free HX.out.a 1
  go_wp2_with fail
  refine Calls.mono (HM.out W0 HX.out.bel) ?_
  rintro e W1 ⟨ar, rfl, hc1, hb1⟩
  have HX1 : Hid (Bx1 w W1 #[.string ⟨#[]⟩, .slice none 0 0] 38) := HX.out.later hb1
  clear hb1 HX HM
  clear za0 zb0 za1 zb1
  obtain ⟨b, off, rfl⟩ := hc1.some (by omega)
  have HV : Hid _ := rvalueB b off C _ 0 2 m W1 hc1 hm (by omega) (by decide) (by decide) (by omega) v (by simpa using hv)
  have HC1 : Hid (CRow W1 (some ⟨b, off, none⟩) C m) := hc1
  clear hc1
  clear hm0
  go_wp2_with fail
  refine Calls.mono HV.out ?_
  rintro e W2 ⟨rfl, hb2⟩
  have HX2 : Hid (Bx1 w W2 #[.string ⟨#[]⟩, .slice none 0 0] 38) := HX1.out.later hb2
  clear hb2 HX1 HV HC1
  have ya0 : W2.cell? ⟨w.heap.size, 0, none⟩ = some (.string ⟨#[]⟩) := (blk_at HX2.out.a 0).trans rfl
  have yb0 : W2.frozen? ⟨w.heap.size, 0, none⟩ = false := blk_free HX2.out.a 0
  have ya1 : W2.cell? ⟨w.heap.size, 1, none⟩ = some (.slice none 0 0) := (blk_at HX2.out.a 1).trans rfl
  have yb1 : W2.frozen? ⟨w.heap.size, 1, none⟩ = false := blk_free HX2.out.a 1
  go_wp2
  obtain ⟨hp, hq⟩ := putc2 HX2.out.a (.string ⟨#[]⟩) (.slice none 0 0)
  exact bodyPost_ret (results_cell_tmp1 rfl _ _ w.heap.size 38 _ (0, 0) _ rfl hp Tryz.underlying38 rfl infoR) rfl ⟨rfl, HX2.out.bel.trans (hq.below HX2.out.bel.size (fun g hg => by omega))⟩
set_option maxHeartbeats 2000000 in
theorem rAskU_form (ao : Option Addr) (cap n : Nat) (w : World) (s : ByteArray) (N C v : Nat) (m : List Nat) (HM : Hid (∀ W, Below w.heap.size w W → Calls Tryz.prog 46 #[.slice ao n cap] W fun e w' => ∃ ar, e = .returned (.tuple #[.string s, .slice ar N C, .bool true]) ∧ CRow w' ar C m ∧ Below W.heap.size W w')) (hm : Hid (m.length = N)) (hN : N ≤ 1048576) (h2 : 2 ≤ N) (hv : valB (m.take 2) = v) (h64 : v ≤ 64) (hne : N ≠ 2 + 2 * v) :
    Calls Tryz.prog 10 #[.slice ao n cap] w fun e w' => e = .returned (.tuple #[.agg #[.string ⟨#[]⟩, .slice none 0 0], .int .i64 81]) ∧ Below w.heap.size w w' := by
  have t1 : decide ((N : Int) < 2) = false := by simp; omega
  have t2 : ¬ (N : Int) < 2 := by omega
  have w1 : IntKind.i64.wrap (v : Int) = (v : Int) := by rw [IntKind.wrap_i64]; omega
  have w2 : IntKind.i64.wrap (2 * (v : Int)) = 2 * (v : Int) := by rw [IntKind.wrap_i64]; omega
  have w3 : IntKind.i64.wrap (2 + 2 * (v : Int)) = 2 + 2 * (v : Int) := by rw [IntKind.wrap_i64]; omega
  have g1 : decide ((64 : Int) < (v : Int)) = false := by simp; omega
  have g2 : ¬ (64 : Int) < (v : Int) := by omega
  have g3 : ((N : Int) == 2 + 2 * (v : Int)) = false := by rw [beq_eq_false_iff_ne]; omega
  have g4 : ((N : Int) != 2 + 2 * (v : Int)) = true := by simp [bne, g3]
  have g5 : ¬ (N : Int) = 2 + 2 * (v : Int) := by omega
  have hm0 := hm.out
  have hx := mkb1 w #[.string ⟨#[]⟩, .slice none 0 0] 38
  go_enter Tryz.func10, Tryz.ntmps10
  go_upto_region 1 with fail
  generalize w.alloc (Obj.cells #[.string ⟨#[]⟩, .slice none 0 0] 38) = W0 at *
  have HX : Hid (Bx1 w W0 #[.string ⟨#[]⟩, .slice none 0 0] 38) := hx
  clear hx
  have za0 : W0.cell? ⟨w.heap.size, 0, none⟩ = some (.string ⟨#[]⟩) := (blk_at HX.out.a 0).trans rfl
  have zb0 : W0.frozen? ⟨w.heap.size, 0, none⟩ = false := blk_free HX.out.a 0
  have za1 : W0.cell? ⟨w.heap.size, 1, none⟩ = some (.slice none 0 0) := (blk_at HX.out.a 1).trans rfl
  have zb1 : W0.frozen? ⟨w.heap.size, 1, none⟩ = false := blk_free HX.out.a 1
  go_wp2_with fail
  refine Calls.mono (HM.out W0 HX.out.bel) ?_
  rintro e W1 ⟨ar, rfl, hc1, hb1⟩
  have HX1 : Hid (Bx1 w W1 #[.string ⟨#[]⟩, .slice none 0 0] 38) := HX.out.later hb1
  clear hb1 HX HM
  clear za0 zb0 za1 zb1
  obtain ⟨b, off, rfl⟩ := hc1.some (by omega)
  have HV : Hid _ := rvalueB b off C _ 0 2 m W1 hc1 hm (by omega) (by decide) (by decide) (by omega) v (by simpa using hv)
  have HC1 : Hid (CRow W1 (some ⟨b, off, none⟩) C m) := hc1
  clear hc1
  clear hm0
  go_wp2_with fail
  refine Calls.mono HV.out ?_
  rintro e W2 ⟨rfl, hb2⟩
  have HX2 : Hid (Bx1 w W2 #[.string ⟨#[]⟩, .slice none 0 0] 38) := HX1.out.later hb2
  clear hb2 HX1 HV HC1
  have ya0 : W2.cell? ⟨w.heap.size, 0, none⟩ = some (.string ⟨#[]⟩) := (blk_at HX2.out.a 0).trans rfl
  have yb0 : W2.frozen? ⟨w.heap.size, 0, none⟩ = false := blk_free HX2.out.a 0
  have ya1 : W2.cell? ⟨w.heap.size, 1, none⟩ = some (.slice none 0 0) := (blk_at HX2.out.a 1).trans rfl
  have yb1 : W2.frozen? ⟨w.heap.size, 1, none⟩ = false := blk_free HX2.out.a 1
  go_wp2
  obtain ⟨hp, hq⟩ := putc2 HX2.out.a (.string ⟨#[]⟩) (.slice none 0 0)
  exact bodyPost_ret (results_cell_tmp1 rfl _ _ w.heap.size 38 _ (0, 0) _ rfl hp Tryz.underlying38 rfl infoR) rfl ⟨rfl, HX2.out.bel.trans (hq.below HX2.out.bel.size (fun g hg => by omega))⟩
end Go.Proofs.YtfifaaopdhcaaaaGreatDoor

namespace Go.Proofs.YtfifaaopdhcaaaaGreatDoor
open Go.RowKit
set_option linter.unusedVariables false
set_option linter.unusedSimpArgs false
set_option maxRecDepth 100000
theorem val_injN : ∀ (n : Nat) (a b : List Nat), a.length = n → b.length = n → (∀ x ∈ a, x < 256) → (∀ x ∈ b, x < 256) → valB a = valB b → a = b
  | 0, a, b, ha, hb, _, _, _ => by rw [List.length_eq_zero_iff.1 ha, List.length_eq_zero_iff.1 hb]
  | n + 1, a, b, ha, hb, la, lb, e => by
    have na : a ≠ [] := by rintro rfl; simp at ha
    have nb : b ≠ [] := by rintro rfl; simp at hb
    obtain ⟨a', x, rfl⟩ : ∃ a' x, a = a' ++ [x] := ⟨_, _, (List.dropLast_concat_getLast na).symm⟩
    obtain ⟨b', y, rfl⟩ : ∃ b' y, b = b' ++ [y] := ⟨_, _, (List.dropLast_concat_getLast nb).symm⟩
    rw [valB_snoc, valB_snoc] at e
    have hx := la x (by simp)
    have hy := lb y (by simp)
    have e1 : x = y := by omega
    have e2 : valB a' = valB b' := by omega
    rw [val_injN n a' b' (by simpa using ha) (by simpa using hb) (fun z hz => la z (by simp [hz])) (fun z hz => lb z (by simp [hz])) e2, e1]
theorem val_inj {a b : List Nat} (h : a.length = b.length) (ha : ∀ x ∈ a, x < 256) (hb : ∀ x ∈ b, x < 256) (e : valB a = valB b) : a = b := val_injN _ a b h rfl ha hb e
/-- while an information is read: the answer's box, the box that it is laid into, a row that lies elsewhere -/
structure Fu (w W : World) (ge : Nat) (C : Array Value) (fo : Option Addr) (m fc : Nat) (F : List Nat) : Prop where
  bx : Bx1 w W #[.int .u16 0, .int .u64 0, .int .u16 0, .string ⟨#[]⟩, .int .u32 0, .int .u32 0, .int .u32 0, .slice none 0 0] 28
  box : W.heap[ge]? = some (.cells C 28 (0, 0))
  hge : w.heap.size < ge
  row : ∃ B, ge < B ∧ W.ownsRow B 5 1 (.slice fo m fc) m (F.map bv)
section
variable {w W V : World} {ge : Nat} {C : Array Value} {fo : Option Addr} {m fc : Nat} {F : List Nat}
theorem Fu.later (h : Fu w W ge C fo m fc F) (k : Below W.heap.size W V) : Fu w V ge C fo m fc F := by
  obtain ⟨B, hB, hr⟩ := h.row
  exact ⟨h.bx.later k, box_later h.box k, h.hge, B, hB, owns_sameU hr (fun g hg => k.block g (owns_typeU hr g hg).2.2)⟩
theorem Fu.put (h : Fu w W ge C fo m fc F) (i : Nat) (v : Value) {C' : Array Value} (hC : C.setIfInBounds i v = C') : Fu w (W.setCell ⟨ge, i, none⟩ v) ge C' fo m fc F := by
  obtain ⟨B, hB, hr⟩ := h.row
  have k := keptIn_set W ge i v
  have hg := h.hge
  exact ⟨⟨h.bx.bel.trans (k.below h.bx.bel.size (fun g hg e => by omega)), (k.block _ (block_lt h.bx.a) (by omega)).trans h.bx.a, Nat.le_trans h.bx.size k.size⟩, put_boxX h.box i v hC, hg, B, hB, owns_sameU hr (fun g hg => k.block g (owns_typeU hr g hg).2.2 (by have := (owns_typeU hr g hg).2.1; omega))⟩
theorem Fu.crow (h : Fu w W ge C fo m fc F) (hl : ∀ x ∈ F, x < 256) (hm : F.length = m) (hs : m ≤ 140737488351232) : CRow W fo fc F := by
  obtain ⟨B, hB, hr⟩ := h.row
  subst hm
  have h1 := owns_cap hr
  obtain ⟨ao', cap', hv, hb⟩ := BRow.own hr hl hs
  simp only [Value.slice.injEq] at hv
  obtain ⟨rfl, _, rfl⟩ := hv
  exact ⟨hb, h1.1, h1.2⟩
theorem Fu.brow (h : Fu w W ge C fo m fc F) (k : KeptIn (fun g => g = w.heap.size) W V) (hl : ∀ x ∈ F, x < 256) (hm : F.length = m) (hs : m ≤ 140737488351232) : BRow V fo fc F := by
  obtain ⟨B, hB, hr⟩ := h.row
  have hg := h.hge
  have hr2 : V.ownsRow B 5 1 (.slice fo m fc) m (F.map bv) := owns_sameU hr (fun g hg => k.block g (owns_typeU hr g hg).2.2 (by have := (owns_typeU hr g hg).2.1; omega))
  subst hm
  obtain ⟨ao', cap', hv, hb⟩ := BRow.own hr2 hl hs
  simp only [Value.slice.injEq] at hv
  obtain ⟨rfl, _, rfl⟩ := hv
  exact hb
/-- the box and a row while that row grows -/
theorem Fu.grown {fo2 : Option Addr} {m2 fc2 B : Nat} {F2 : List Nat} (hx : Bx1 w W #[.int .u16 0, .int .u64 0, .int .u16 0, .string ⟨#[]⟩, .int .u32 0, .int .u32 0, .int .u32 0, .slice none 0 0] 28) (hb : W.heap[ge]? = some (.cells C 28 (0, 0))) (hg : w.heap.size < ge) (hB : ge < B) (hr : W.ownsRow B 5 1 (.slice fo m fc) m (F.map bv)) (ho : V.ownsRow B 5 1 (.slice fo2 m2 fc2) m2 (F2.map bv)) (hw : W.grownBy V (Value.slice fo m fc).ownBlock) : Fu w V ge C fo2 m2 fc2 F2 := by
  have hK : KeptIn (fun g => (Value.slice fo m fc).ownBlock = some g) W V := ⟨hw.os, hw.tape, hw.output, hw.size, fun g h1 h2 => hw.block g h1 (fun e => h2 e.symm)⟩
  have hne : ∀ g, (Value.slice fo m fc).ownBlock = some g → B ≤ g := fun g e => (owns_typeU hr g e).2.1
  refine ⟨⟨hx.bel.trans (hK.below hx.bel.size (fun g hg e => by have := hne g e; omega)), (hK.block _ (block_lt hx.a) (fun e => by have := hne _ e; omega)).trans hx.a, Nat.le_trans hx.size hK.size⟩, (hK.block _ (block_lt hb) (fun e => by have := hne _ e; omega)).trans hb, hg, B, hB, ho⟩
end
theorem big_valU : ∀ (k : Nat) (m : List Nat), m.length = k → (∀ x ∈ m, x < 256) → bigTo (valB m) k k = m := by
  intro k m h hl
  have h1 : (bigTo (valB m) k k).length = m.length := by rw [bigTo_length, h]
  exact val_inj h1 (bigTo_lt _ _ _) hl (by rw [valB_big]; have := valB_lt m hl; rw [h] at this; exact this)
set_option maxHeartbeats 2000000 in
theorem rInfoU_short (ao : Option Addr) (cap n : Nat) (w : World) (h2 : n < 2) :
    Calls Tryz.prog 6 #[.slice ao n cap] w fun e w' => e = .returned (.tuple #[.agg #[.int .u16 0, .int .u64 0, .int .u16 0, .string ⟨#[]⟩, .int .u32 0, .int .u32 0, .int .u32 0, .slice none 0 0], .int .i64 81]) ∧ Below w.heap.size w w' := by
  have t1 : decide ((n : Int) < 2) = true := by simp; omega
  have t2 : (n : Int) < 2 := by omega
  have hx := mkb1 w #[.int .u16 0, .int .u64 0, .int .u16 0, .string ⟨#[]⟩, .int .u32 0, .int .u32 0, .int .u32 0, .slice none 0 0] 28
  go_enter Tryz.func6, Tryz.ntmps6
  go_upto_region 1 with fail
  generalize w.alloc (Obj.cells #[.int .u16 0, .int .u64 0, .int .u16 0, .string ⟨#[]⟩, .int .u32 0, .int .u32 0, .int .u32 0, .slice none 0 0] 28) = W0 at *
  have HX : Hid (Bx1 w W0 #[.int .u16 0, .int .u64 0, .int .u16 0, .string ⟨#[]⟩, .int .u32 0, .int .u32 0, .int .u32 0, .slice none 0 0] 28) := hx
  clear hx
  have za0 : W0.cell? ⟨w.heap.size, 0, none⟩ = some (.int .u16 0) := (blk_at HX.out.a 0).trans rfl
  have zb0 : W0.frozen? ⟨w.heap.size, 0, none⟩ = false := blk_free HX.out.a 0
  have za1 : W0.cell? ⟨w.heap.size, 1, none⟩ = some (.int .u64 0) := (blk_at HX.out.a 1).trans rfl
  have zb1 : W0.frozen? ⟨w.heap.size, 1, none⟩ = false := blk_free HX.out.a 1
  have za2 : W0.cell? ⟨w.heap.size, 2, none⟩ = some (.int .u16 0) := (blk_at HX.out.a 2).trans rfl
  have zb2 : W0.frozen? ⟨w.heap.size, 2, none⟩ = false := blk_free HX.out.a 2
  have za3 : W0.cell? ⟨w.heap.size, 3, none⟩ = some (.string ⟨#[]⟩) := (blk_at HX.out.a 3).trans rfl
  have zb3 : W0.frozen? ⟨w.heap.size, 3, none⟩ = false := blk_free HX.out.a 3
  have za4 : W0.cell? ⟨w.heap.size, 4, none⟩ = some (.int .u32 0) := (blk_at HX.out.a 4).trans rfl
  have zb4 : W0.frozen? ⟨w.heap.size, 4, none⟩ = false := blk_free HX.out.a 4
  have za5 : W0.cell? ⟨w.heap.size, 5, none⟩ = some (.int .u32 0) := (blk_at HX.out.a 5).trans rfl
  have zb5 : W0.frozen? ⟨w.heap.size, 5, none⟩ = false := blk_free HX.out.a 5
  have za6 : W0.cell? ⟨w.heap.size, 6, none⟩ = some (.int .u32 0) := (blk_at HX.out.a 6).trans rfl
  have zb6 : W0.frozen? ⟨w.heap.size, 6, none⟩ = false := blk_free HX.out.a 6
  have za7 : W0.cell? ⟨w.heap.size, 7, none⟩ = some (.slice none 0 0) := (blk_at HX.out.a 7).trans rfl
  have zb7 : W0.frozen? ⟨w.heap.size, 7, none⟩ = false := blk_free HX.out.a 7
  go_wp2
  obtain ⟨hp, hq⟩ := putc8 HX.out.a (.int .u16 0) (.int .u64 0) (.int .u16 0) (.string ⟨#[]⟩) (.int .u32 0) (.int .u32 0) (.int .u32 0) (.slice none 0 0)
  exact bodyPost_ret (results_cell_tmp1 rfl _ _ w.heap.size 28 _ (0, 0) _ rfl hp Tryz.underlying28 rfl infoI) rfl ⟨rfl, HX.out.bel.trans (hq.below HX.out.bel.size (fun g hg => by omega))⟩
end Go.Proofs.YtfifaaopdhcaaaaGreatDoor
