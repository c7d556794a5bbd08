import Derived.Test.YtjkoambfecmglaaJK
import Derived.Deep.RegionHeld3
namespace Go.Proofs.Ytjkoambfecmglaa
open Go.RowKit
set_option linter.unusedVariables false
set_option linter.unusedSimpArgs false
set_option maxRecDepth 100000
/-- a comparison in memory: the bytes behind the crash, and of each sector whether it may be so -/
structure Cm (W : World) (B P : Nat) (aa : Option Addr) (n ac : Nat) (after : List Nat) (ma : Option Addr) (S mc : Nat) (may : List Bool) : Prop where
  blk : W.heap[P]? = some (.cells #[.slice aa n ac, .slice ma S mc] 107 (0, 0))
  hP : B ≤ P
  row : W.ownsRow B 4 1 (.slice ma S mc) S (may.map Value.bool)
  af : ∀ U, Below B W U → BRow U aa ac after
  han : after.length = n
  hac : n ≤ ac
  hs : n ≤ 4096
  hS : secs n = S
theorem Cm.mlen {W : World} {B P n ac S mc : Nat} {aa ma : Option Addr} {after : List Nat} {may : List Bool} (h : Cm W B P aa n ac after ma S mc may) : may.length = S := by
  have := h.row.1; rw [List.length_map] at this; omega
theorem Cm.sz {W : World} {B P n ac S mc : Nat} {aa ma : Option Addr} {after : List Nat} {may : List Bool} (h : Cm W B P aa n ac after ma S mc may) : B ≤ W.heap.size := Nat.le_of_lt (Nat.lt_of_le_of_lt h.hP (block_lt h.blk))
theorem Cm.apart {W : World} {B P n ac S mc : Nat} {aa ma : Option Addr} {after : List Nat} {may : List Bool} (h : Cm W B P aa n ac after ma S mc may) {g : Nat} (e : (Value.slice ma S mc).ownBlock = some g) : P ≠ g := fun e2 => by
  obtain ⟨cu, hc⟩ := owns_type h.row g e
  rw [← e2, h.blk] at hc; cases hc
theorem Cm.later {W V : World} {B P n ac S mc : Nat} {aa ma : Option Addr} {after : List Nat} {may : List Bool} (h : Cm W B P aa n ac after ma S mc may) (hb : Below W.heap.size W V) : Cm V B P aa n ac after ma S mc may where
  blk := (hb.block P (block_lt h.blk)).trans h.blk
  hP := h.hP
  row := owns_same h.row fun g e => hb.block g (owns_in h.row e).2
  af U hU := h.af U ((hb.mono h.sz).trans hU)
  han := h.han
  hac := h.hac
  hs := h.hs
  hS := h.hS
theorem Cm.set {W : World} {B P n ac S mc g k : Nat} {aa : Option Addr} {after : List Nat} {may : List Bool} (h : Cm W B P aa n ac after (some ⟨g, 0, none⟩) S mc may) (hk : k < S) (b : Bool) : Cm (W.setCell ⟨g, k, none⟩ (.bool b)) B P aa n ac after (some ⟨g, 0, none⟩) S mc (may.set k b) where
  blk := (Below.heap_setCell W ⟨g, k, none⟩ (.bool b) P (h.apart rfl)).trans h.blk
  hP := h.hP
  row := by
    have := own_set h.row (.bool b) hk
    rw [List.map_set]; exact this
  af U hU := h.af U (((Below.refl B W).setCell (p := ⟨g, k, none⟩) (owns_in h.row rfl).1 _).trans hU)
  han := h.han
  hac := h.hac
  hs := h.hs
  hS := h.hS
/-- some of them said anew -/
def updM (may : List Bool) (lo k : Nat) (F : Nat → Bool) : List Bool := (List.range may.length).map fun j => if lo ≤ j ∧ j < k then F j else may.getD j false
theorem updM_len (may : List Bool) (lo k : Nat) (F : Nat → Bool) : (updM may lo k F).length = may.length := by simp [updM]
theorem updM_get (may : List Bool) (lo k : Nat) (F : Nat → Bool) (j : Nat) : (updM may lo k F)[j]? = if j < may.length then some (if lo ≤ j ∧ j < k then F j else may.getD j false) else none := by
  unfold updM
  rw [List.getElem?_map]
  by_cases h : j < may.length
  · rw [List.getElem?_range h, if_pos h]; rfl
  · rw [List.getElem?_eq_none (by rw [List.length_range]; omega), if_neg h]; rfl
theorem updM_start (may : List Bool) (lo k : Nat) (F : Nat → Bool) (hk : k ≤ lo) : updM may lo k F = may := by
  apply List.ext_getElem?
  intro j
  rw [updM_get]
  by_cases h : j < may.length
  · rw [if_pos h, if_neg (by omega), List.getD_eq_getElem?_getD, List.getElem?_eq_getElem h]; rfl
  · rw [if_neg h, List.getElem?_eq_none (by omega)]
theorem updM_at {may : List Bool} {lo k : Nat} {F : Nat → Bool} (hk : k < may.length) : (updM may lo k F)[k]? = some (may.getD k false) := by
  rw [updM_get, if_pos hk, if_neg (by omega)]
theorem updM_step {may : List Bool} {lo k : Nat} {F : Nat → Bool} (h : lo ≤ k) (hk : k < may.length) : (updM may lo k F).set k (F k) = updM may lo (k + 1) F := by
  apply List.ext_getElem?
  intro j
  rw [updM_get]
  by_cases e : k = j
  · subst e
    rw [List.getElem?_set_self (by rw [updM_len]; exact hk), if_pos hk, if_pos (by omega)]
  · rw [List.getElem?_set_ne e, updM_get]
    by_cases h2 : j < may.length
    · rw [if_pos h2, if_pos h2]
      by_cases h3 : lo ≤ j ∧ j < k
      · rw [if_pos h3, if_pos (by omega)]
      · rw [if_neg h3, if_neg (by omega)]
    · rw [if_neg h2, if_neg h2]
theorem grownOf {W V : World} {g : Option Nat} (h : Below W.heap.size W V) : W.grownBy V g := ⟨h.os, h.tape, h.output, h.size, fun k hk _ => h.block k hk⟩
/-- what a sector is said to be behind an operation -/
def seeF (may : List Bool) (sy : Bool) (now after : List Nat) (j : Nat) : Bool := may.getD j false && !sy || decide (prt now j = prt after j)
theorem rhi_le {n off m : Nat} {kd : Int} (h : off + m ≤ n) : rhi n kd off m ≤ secs n := by
  unfold rhi secs
  split
  · exact Nat.le_refl _
  · split <;> omega
set_option maxHeartbeats 16000000 in
theorem see_any (na da : Option Addr) (n nc k9 dc off m : Nat) (kd fr t : Int) (sy : Bool) (now after : List Nat) (aa : Option Addr) (B P ac g S mc : Nat) (may : List Bool) (w : World) (hin : off + m ≤ n) (h : Cm w B P aa n ac after (some ⟨g, 0, none⟩) S mc may) (hnow : ∀ U, w.grownBy U (Value.slice (some ⟨g, 0, none⟩) S mc).ownBlock → BRow U na nc now) (hn : now.length = n) (hnc : n ≤ nc) :
    Calls Try.prog 36 #[.pointer (some ⟨P, 0, none⟩), .slice na n nc, .agg #[.int .i64 kd, .int .i64 fr, .int .i64 t, .int .i64 (off : Int), .int .i64 (m : Int), .slice da k9 dc, .bool sy]] w fun e w' => e = .returned (.tuple #[]) ∧ Cm w' B P aa n ac after (some ⟨g, 0, none⟩) S mc (updM may (rlo kd off m) (rhi n kd off m) (seeF may sy now after)) ∧ w.grownBy w' (some g) := by
  have HB : Hid (Below w.heap.size w (w.alloc (.cells #[.int .i64 kd, .int .i64 fr, .int .i64 t, .int .i64 (off : Int), .int .i64 (m : Int), .slice da k9 dc, .bool sy] 50))) := (Below.refl _ w).alloc (Nat.le_refl _) _
  have HX : Hid (∀ j v, (#[.int .i64 kd, .int .i64 fr, .int .i64 t, .int .i64 (off : Int), .int .i64 (m : Int), .slice da k9 dc, .bool sy] : Array Value)[j]? = some v → (w.alloc (.cells #[.int .i64 kd, .int .i64 fr, .int .i64 t, .int .i64 (off : Int), .int .i64 (m : Int), .slice da k9 dc, .bool sy] 50)).cell? ⟨w.heap.size, j, none⟩ = some v) := fun j v hv => by
    rw [blk_at (heap_new _ _) j]; exact hv
  obtain ⟨V, hV⟩ : ∃ V, V = w.alloc (.cells #[.int .i64 kd, .int .i64 fr, .int .i64 t, .int .i64 (off : Int), .int .i64 (m : Int), .slice da k9 dc, .bool sy] 50) := ⟨_, rfl⟩
  rw [← hV] at HB HX
  have HVs : Hid (w.heap.size < V.heap.size ∧ w.grownBy V none) := by
    constructor
    · rw [hV, World.size_alloc]; omega
    · rw [hV]; exact World.grownBy_alloc _ _ _
  have HD : Hid (Cm w B P aa n ac after (some ⟨g, 0, none⟩) S mc may ∧ now.length = n ∧ n ≤ nc) := ⟨h, hn, hnc⟩
  have HNw : Hid (∀ U, V.grownBy U (some g) → BRow U na nc now) := fun U hU => hnow U ((HVs.out.2.but (some g)).trans hU)
  have HRe : Hid _ := reach_any na da n nc k9 dc off m kd fr t sy V hin h.hs
  have HHi : Hid (rhi n kd off m ≤ S) := by
    show _ ≤ _
    rw [← h.hS]; exact rhi_le hin
  have c0 := HX.out 0 _ rfl
  have c1 := HX.out 1 _ rfl
  have c2 := HX.out 2 _ rfl
  have c3 := HX.out 3 _ rfl
  have c4 := HX.out 4 _ rfl
  have c5 := HX.out 5 _ rfl
  have c6 := HX.out 6 _ rfl
  obtain ⟨lo, hlo⟩ : ∃ lo, rlo kd off m = lo := ⟨_, rfl⟩
  obtain ⟨hi, hhi⟩ : ∃ hi, rhi n kd off m = hi := ⟨_, rfl⟩
  rw [hlo, hhi] at HRe
  rw [hhi] at HHi
  rw [hlo, hhi]
  have hS8 : S ≤ 8 := by
    have h1 := h.hS
    have h2 := h.hs
    unfold secs at h1
    omega
  have hh8 : hi ≤ 8 := Nat.le_trans HHi.out hS8
  clear h hnow hn hnc hlo hhi hin
  go_enter Try.func36, Try.ntmps36
  go_wp2_with fail
  rw [← hV]
  clear hV
  go_wp2_with fail
  refine Calls.mono HRe.out ?_
  rintro e W1 ⟨rfl, hb1⟩
  have H1 : Hid (Cm W1 B P aa n ac after (some ⟨g, 0, none⟩) S mc (updM may lo lo (seeF may sy now after)) ∧ V.grownBy W1 (some g)) := by
    rw [show Hid _ = (Cm W1 B P aa n ac after (some ⟨g, 0, none⟩) S mc (updM may lo lo (seeF may sy now after)) ∧ V.grownBy W1 (some g)) from rfl, updM_start _ _ _ _ (Nat.le_refl _)]
    exact ⟨(HD.out.1.later HB.out).later hb1, grownOf hb1⟩
  clear hb1 HRe c0 c1 c2 c3 c4 c5 c6
  go_wp2
  go_loopw [8] (fun xv wr => ∃ k : Nat, (lo ≤ k ∧ (k ≤ hi ∨ k = lo)) ∧ xv = .int .i64 (k : Int) ∧ Hid (Cm wr B P aa n ac after (some ⟨g, 0, none⟩) S mc (updM may lo k (seeF may sy now after)) ∧ V.grownBy wr (some g))) (fun xv _ => hi - (intOf xv).toNat)
  case atStart => exact ⟨lo, ⟨Nat.le_refl _, .inr rfl⟩, rfl, H1.out⟩
  case round =>
    obtain ⟨k, hk, rfl, HQ⟩ := hrel
    by_cases hlt : k < hi
    · have n9 : decide ((k : Int) < (hi : Int)) = true := decide_eq_true (by omega)
      have hkS : k < S := Nat.lt_of_lt_of_le hlt HHi.out
      have ii0 : (0 : Int) ≤ (k : Int) := by omega
      have ii9 : (k : Int) < (S : Int) := by omega
      have HL2 : Hid (lo ≤ k + 1 ∧ (k + 1 ≤ hi ∨ k + 1 = lo)) := ⟨by omega, .inl (by omega)⟩
      have hml : may.length = S := HD.out.1.mlen
      have hat := updM_at (may := may) (lo := lo) (F := seeF may sy now after) (k := k) (by omega)
      obtain ⟨g', eg, -, hcell, hfr⟩ := own_some HQ.out.1.row (by omega)
      cases eg
      have HCk0 : Hid (wr.cell? ⟨g, k, none⟩ = some (.bool (may.getD k false))) := by
        show _ = _
        rw [hcell k hkS, List.getElem?_map, hat]; rfl
      have HFk : Hid (wr.frozen? ⟨g, k, none⟩ = false) := hfr k
      have HP0 : Hid (wr.cell? ⟨P, 0, none⟩ = some (.slice aa n ac) ∧ wr.cell? ⟨P, 1, none⟩ = some (.slice (some ⟨g, 0, none⟩) S mc)) := ⟨blk_at HQ.out.1.blk 0, blk_at HQ.out.1.blk 1⟩
      have HBx : Hid (wr.cell? ⟨w.heap.size, 6, none⟩ = some (.bool sy)) := by
        have h1 := HX.out 6 _ rfl
        exact HQ.out.2.cell (a := ⟨w.heap.size, 6, none⟩) h1 (fun e => by
          have h2 := (owns_in HD.out.1.row (g := g) rfl).2
          have e2 : w.heap.size = g := by simpa using e
          omega)
      have HDr : Hid (Below wr.heap.size wr wr.drew) := ⟨rfl, rfl, rfl, Nat.le_refl _, fun _ _ => rfl⟩
      have HSa : Hid _ := csame_any aa na P n ac nc k after now wr.drew HP0.out.1 ((HQ.out.1.later HDr.out).af _ (Below.refl _ _)) HQ.out.1.han HQ.out.1.hac ((HNw.out wr HQ.out.2).later HDr.out) HD.out.2.1 HD.out.2.2 HQ.out.1.hs (by rw [HQ.out.1.hS]; exact hkS)
      obtain ⟨mk, hmk⟩ : ∃ mk, may.getD k false = mk := ⟨_, rfl⟩
      have HKo : Hid (V.grownBy wr (some g) ∧ Cm wr B P aa n ac after (some ⟨g, 0, none⟩) S mc (updM may lo k (seeF may sy now after)) ∧ P ≠ g ∧ k < S ∧ lo ≤ k ∧ k < may.length ∧ may.getD k false = mk) := ⟨HQ.out.2, HQ.out.1, HQ.out.1.apart rfl, hkS, hk.1, by omega, hmk⟩
      rw [hmk] at HCk0
      clear hat hcell hfr hmk hml
      have HSx : Hid (∀ (U : World) (b : Bool), Below wr.heap.size wr U → (U.setCell ⟨g, k, none⟩ (.bool b)).cell? ⟨P, 1, none⟩ = some (.slice (some ⟨g, 0, none⟩) S mc) ∧ (U.setCell ⟨g, k, none⟩ (.bool b)).cell? ⟨w.heap.size, 6, none⟩ = some (.bool sy)) := fun U b hU => by
        have hgw := (owns_in HD.out.1.row (g := g) rfl).2
        constructor
        · rw [World.cell?_of_block (a := ⟨P, 1, none⟩) (Below.heap_setCell _ _ _ _ HKo.out.2.2.1)]
          exact cell_later hU HP0.out.2
        · rw [World.cell?_of_block (a := ⟨w.heap.size, 6, none⟩) (Below.heap_setCell _ _ _ _ (by show w.heap.size ≠ g; omega))]
          exact cell_later hU HBx.out
      have HSw : Hid (wr.cell? ⟨P, 1, none⟩ = some (.slice (some ⟨g, 0, none⟩) S mc) ∧ wr.cell? ⟨w.heap.size, 6, none⟩ = some (.bool sy)) := ⟨HP0.out.2, HBx.out⟩
      have HCk : Hid (wr.cell? ⟨g, k, none⟩ = some (.bool mk)) := HCk0.out
      have ck : wr.cell? ⟨g, k, none⟩ = some (.bool mk) := HCk0.out
      have fk : wr.frozen? ⟨g, k, none⟩ = false := HFk.out
      clear HCk0 hk
      cases mk with
      | true =>
        cases sy with
        | true =>
          go_wp2_with fail
          refine wp_region_held_drew (S := (fun w' => w'.cell? ⟨P, 1, none⟩ = some (.slice (some ⟨g, 0, none⟩) S mc) ∧ w'.cell? ⟨w.heap.size, 6, none⟩ = some (.bool true))) (by kernel_rfl) ?_ (fun hHeld => ?_)
          · exact HSw.out
          refine wpAnyH_take (i := 0) (oi := { dst := some 21, op := Op.move (Operand.tmp 0), type := 72, pos := _, after := #[], guard := none }) (v := ?_) rfl (by kernel_rfl) (by kernel_rfl) (by kernel_rfl) (fun _ _ _ h => h) (Or.inl ⟨by rfl, ?_⟩) (by assumption) ?_
          rotate_left
          · (intro w hSw; (try dsimp only at hSw); go_simp) <;> with_reducible rfl
          try simp only [Act.put, List.setIfInBounds_toArray, List.set_cons_zero, List.set_cons_succ]
          refine wpAnyH_take (i := 1) (oi := { dst := some 22, op := Op.nilCheck (Operand.tmp 21), type := 0, pos := _, after := _, guard := none }) (v := ?_) rfl (by kernel_rfl) (by kernel_rfl) (by kernel_rfl) (fun _ _ _ h => h) (Or.inl ⟨by rfl, ?_⟩) (by assumption) ?_
          rotate_left
          · (intro w hSw; (try dsimp only at hSw); go_simp) <;> with_reducible rfl
          try simp only [Act.put, List.setIfInBounds_toArray, List.set_cons_zero, List.set_cons_succ]
          refine wpAnyH_take (i := 2) (oi := { dst := some 23, op := Op.fieldAddr 107 (Operand.tmp 22) 1, type := 0, pos := _, after := _, guard := none }) (v := ?_) rfl (by kernel_rfl) (by kernel_rfl) (by kernel_rfl) (fun _ _ _ h => h) (Or.inl ⟨by rfl, ?_⟩) (by assumption) ?_
          rotate_left
          · (intro w hSw; (try dsimp only at hSw); go_simp) <;> with_reducible rfl
          try simp only [Act.put, List.setIfInBounds_toArray, List.set_cons_zero, List.set_cons_succ]
          refine wpAnyH_take (i := 3) (oi := { dst := some 24, op := Op.load 53 (Operand.tmp 23), type := 53, pos := _, after := _, guard := none }) (v := ?_) rfl (by kernel_rfl) (by kernel_rfl) (by kernel_rfl) (fun _ _ _ h => h) (Or.inl ⟨by rfl, ?_⟩) (by assumption) ?_
          rotate_left
          · (intro w hSw; (try dsimp only at hSw); go_simp) <;> with_reducible rfl
          try simp only [Act.put, List.setIfInBounds_toArray, List.set_cons_zero, List.set_cons_succ]
          refine wpAnyH_take (i := 4) (oi := { dst := some 25, op := Op.move (Operand.tmp 8), type := 3, pos := _, after := #[], guard := none }) (v := ?_) rfl (by kernel_rfl) (by kernel_rfl) (by kernel_rfl) (fun _ _ _ h => h) (Or.inl ⟨by rfl, ?_⟩) (by assumption) ?_
          rotate_left
          · (intro w hSw; (try dsimp only at hSw); go_simp) <;> with_reducible rfl
          try simp only [Act.put, List.setIfInBounds_toArray, List.set_cons_zero, List.set_cons_succ]
          refine wpAnyH_take (i := 5) (oi := { dst := some 26, op := Op.move (Operand.tmp 0), type := 72, pos := _, after := #[], guard := none }) (v := ?_) rfl (by kernel_rfl) (by kernel_rfl) (by kernel_rfl) (fun _ _ _ h => h) (Or.inl ⟨by rfl, ?_⟩) (by assumption) ?_
          rotate_left
          · (intro w hSw; (try dsimp only at hSw); go_simp) <;> with_reducible rfl
          try simp only [Act.put, List.setIfInBounds_toArray, List.set_cons_zero, List.set_cons_succ]
          refine wpAnyH_take (i := 6) (oi := { dst := some 27, op := Op.nilCheck (Operand.tmp 26), type := 0, pos := _, after := _, guard := none }) (v := ?_) rfl (by kernel_rfl) (by kernel_rfl) (by kernel_rfl) (fun _ _ _ h => h) (Or.inl ⟨by rfl, ?_⟩) (by assumption) ?_
          rotate_left
          · (intro w hSw; (try dsimp only at hSw); go_simp) <;> with_reducible rfl
          try simp only [Act.put, List.setIfInBounds_toArray, List.set_cons_zero, List.set_cons_succ]
          refine wpAnyH_take (i := 7) (oi := { dst := some 28, op := Op.fieldAddr 107 (Operand.tmp 27) 1, type := 0, pos := _, after := _, guard := none }) (v := ?_) rfl (by kernel_rfl) (by kernel_rfl) (by kernel_rfl) (fun _ _ _ h => h) (Or.inl ⟨by rfl, ?_⟩) (by assumption) ?_
          rotate_left
          · (intro w hSw; (try dsimp only at hSw); go_simp) <;> with_reducible rfl
          try simp only [Act.put, List.setIfInBounds_toArray, List.set_cons_zero, List.set_cons_succ]
          refine wpAnyH_take (i := 8) (oi := { dst := some 29, op := Op.load 53 (Operand.tmp 28), type := 53, pos := _, after := _, guard := none }) (v := ?_) rfl (by kernel_rfl) (by kernel_rfl) (by kernel_rfl) (fun _ _ _ h => h) (Or.inl ⟨by rfl, ?_⟩) (by assumption) ?_
          rotate_left
          · (intro w hSw; (try dsimp only at hSw); go_simp) <;> with_reducible rfl
          try simp only [Act.put, List.setIfInBounds_toArray, List.set_cons_zero, List.set_cons_succ]
          refine wpAnyH_take (i := 9) (oi := { dst := some 30, op := Op.move (Operand.tmp 8), type := 3, pos := _, after := #[], guard := none }) (v := ?_) rfl (by kernel_rfl) (by kernel_rfl) (by kernel_rfl) (fun _ _ _ h => h) (Or.inl ⟨by rfl, ?_⟩) (by assumption) ?_
          rotate_left
          · (intro w hSw; (try dsimp only at hSw); go_simp) <;> with_reducible rfl
          try simp only [Act.put, List.setIfInBounds_toArray, List.set_cons_zero, List.set_cons_succ]
          refine wpAnyH_take (i := 10) (oi := { dst := some 31, op := Op.indexAddr 53 (Operand.tmp 29) (Operand.tmp 30), type := 0, pos := _, after := _, guard := none }) (v := ?_) rfl (by kernel_rfl) (by kernel_rfl) (by kernel_rfl) (fun _ _ _ h => h) (Or.inl ⟨by rfl, ?_⟩) (by assumption) ?_
          rotate_left
          · (intro w hSw; (try dsimp only at hSw); go_simp) <;> with_reducible rfl
          try simp only [Act.put, List.setIfInBounds_toArray, List.set_cons_zero, List.set_cons_succ]
          refine wpAnyH_ready (rs := [11]) (by kernel_rfl) (by simp) ?_
          refine AllReadyH.cons (o := { dst := some 32, op := Op.load 4 (Operand.tmp 31), type := 4, pos := _, after := _, guard := none }) rfl (fun K hK => ?_) AllReadyH.nil
          go_simp
          skip
          try go_simp
          clear hHeld
          refine hK.out _ _ ?_ (fun hHeld => ?_)
          · exact HSw.out
          clear hK K
          try simp only [Act.put, List.setIfInBounds_toArray, List.set_cons_zero, List.set_cons_succ]
          refine wpAnyH_take (i := 12) (oi := { dst := some 33, op := Op.move (Operand.tmp 32), type := 4, pos := _, after := _, guard := none }) (v := ?_) rfl (by kernel_rfl) (by kernel_rfl) (by kernel_rfl) (fun _ _ _ h => h) (Or.inl ⟨by rfl, ?_⟩) (by assumption) ?_
          rotate_left
          · (intro w hSw; (try dsimp only at hSw); go_simp) <;> with_reducible rfl
          try simp only [Act.put, List.setIfInBounds_toArray, List.set_cons_zero, List.set_cons_succ]
          refine wpAnyH_take (i := 13) (oi := { dst := some 34, op := Op.fieldAddr 50 (Operand.tmp 5) 6, type := 0, pos := _, after := _, guard := some (12, true) }) (v := ?_) rfl (by kernel_rfl) (by kernel_rfl) (by kernel_rfl) (fun _ _ _ h => h) (Or.inl ⟨by rfl, ?_⟩) (by assumption) ?_
          rotate_left
          · (intro w hSw; (try dsimp only at hSw); go_simp) <;> with_reducible rfl
          try simp only [Act.put, List.setIfInBounds_toArray, List.set_cons_zero, List.set_cons_succ]
          refine wpAnyH_take (i := 14) (oi := { dst := some 35, op := Op.load 4 (Operand.tmp 34), type := 4, pos := _, after := _, guard := some (12, true) }) (v := ?_) rfl (by kernel_rfl) (by kernel_rfl) (by kernel_rfl) (fun _ _ _ h => h) (Or.inl ⟨by rfl, ?_⟩) (by assumption) ?_
          rotate_left
          · (intro w hSw; (try dsimp only at hSw); go_simp) <;> with_reducible rfl
          try simp only [Act.put, List.setIfInBounds_toArray, List.set_cons_zero, List.set_cons_succ]
          refine wpAnyH_take (i := 15) (oi := { dst := some 36, op := Op.unOp UnOp.not 4 (Operand.tmp 35), type := 4, pos := _, after := _, guard := some (12, true) }) (v := ?_) rfl (by kernel_rfl) (by kernel_rfl) (by kernel_rfl) (fun _ _ _ h => h) (Or.inl ⟨by rfl, ?_⟩) (by assumption) ?_
          rotate_left
          · (intro w hSw; (try dsimp only at hSw); go_simp) <;> with_reducible rfl
          try simp only [Act.put, List.setIfInBounds_toArray, List.set_cons_zero, List.set_cons_succ]
          refine wpAnyH_take (i := 16) (oi := { dst := some 37, op := Op.pick (Operand.tmp 33) (Operand.tmp 36) (Operand.const (Value.bool false)), type := 4, pos := _, after := _, guard := none }) (v := ?_) rfl (by kernel_rfl) (by kernel_rfl) (by kernel_rfl) (fun _ _ _ h => h) (Or.inl ⟨by rfl, ?_⟩) (by assumption) ?_
          rotate_left
          · (intro w hSw; (try dsimp only at hSw); go_simp) <;> with_reducible rfl
          try simp only [Act.put, List.setIfInBounds_toArray, List.set_cons_zero, List.set_cons_succ]
          refine wpAnyH_take (i := 17) (oi := { dst := some 38, op := Op.move (Operand.tmp 37), type := 4, pos := _, after := _, guard := none }) (v := ?_) rfl (by kernel_rfl) (by kernel_rfl) (by kernel_rfl) (fun _ _ _ h => h) (Or.inl ⟨by rfl, ?_⟩) (by assumption) ?_
          rotate_left
          · (intro w hSw; (try dsimp only at hSw); go_simp) <;> with_reducible rfl
          try simp only [Act.put, List.setIfInBounds_toArray, List.set_cons_zero, List.set_cons_succ]
          refine wpAnyH_take (i := 18) (oi := { dst := some 39, op := Op.move (Operand.tmp 0), type := 72, pos := _, after := _, guard := some (17, false) }) (v := ?_) rfl (by kernel_rfl) (by kernel_rfl) (by kernel_rfl) (fun _ _ _ h => h) (Or.inl ⟨by rfl, ?_⟩) (by assumption) ?_
          rotate_left
          · (intro w hSw; (try dsimp only at hSw); go_simp) <;> with_reducible rfl
          try simp only [Act.put, List.setIfInBounds_toArray, List.set_cons_zero, List.set_cons_succ]
          refine wpAnyH_take (i := 19) (oi := { dst := some 40, op := Op.move (Operand.tmp 1), type := 59, pos := _, after := _, guard := some (17, false) }) (v := ?_) rfl (by kernel_rfl) (by kernel_rfl) (by kernel_rfl) (fun _ _ _ h => h) (Or.inl ⟨by rfl, ?_⟩) (by assumption) ?_
          rotate_left
          · (intro w hSw; (try dsimp only at hSw); go_simp) <;> with_reducible rfl
          try simp only [Act.put, List.setIfInBounds_toArray, List.set_cons_zero, List.set_cons_succ]
          refine wpAnyH_take (i := 20) (oi := { dst := some 41, op := Op.move (Operand.tmp 8), type := 3, pos := _, after := _, guard := some (17, false) }) (v := ?_) rfl (by kernel_rfl) (by kernel_rfl) (by kernel_rfl) (fun _ _ _ h => h) (Or.inl ⟨by rfl, ?_⟩) (by assumption) ?_
          rotate_left
          · (intro w hSw; (try dsimp only at hSw); go_simp) <;> with_reducible rfl
          try simp only [Act.put, List.setIfInBounds_toArray, List.set_cons_zero, List.set_cons_succ]
          refine wpAnyH_ready (rs := [21]) (by kernel_rfl) (by simp) ?_
          refine AllReadyH.cons (o := { dst := some 42, op := Op.call { callee := Callee.value (Operand.func 59), args := #[Operand.tmp 39, Operand.tmp 40, Operand.tmp 41], argTypes := #[72, 59, 3] }, type := 4, pos := _, after := _, guard := some (17, false) }) rfl (fun K hK => ?_) AllReadyH.nil
          go_simp
          go_at_call 59
          refine Calls.mono HSa.out ?_
          rintro ex W4 ⟨rfl, hb4⟩
          have HB4 : Hid (Below wr.heap.size wr W4) := HDr.out.trans hb4
          have cs : W4.cell? ⟨g, k, none⟩ = some (.bool true) := cell_later HB4.out HCk.out
          have cf : W4.frozen? ⟨g, k, none⟩ = false := by rw [World.frozen?_of_block (a := ⟨g, k, none⟩) (HB4.out.block _ (World.block_lt_of_cell? _ _ HCk.out))]; exact HFk.out
          have HS4 : Hid (W4.cell? ⟨P, 1, none⟩ = some (.slice (some ⟨g, 0, none⟩) S mc) ∧ W4.cell? ⟨w.heap.size, 6, none⟩ = some (.bool true)) := ⟨cell_later HB4.out HSw.out.1, cell_later HB4.out HSw.out.2⟩
          clear hb4
          try go_simp
          clear hHeld
          refine hK.out _ _ ?_ (fun hHeld => ?_)
          · exact HS4.out
          clear hK K
          try simp only [Act.put, List.setIfInBounds_toArray, List.set_cons_zero, List.set_cons_succ]
          refine wpAnyH_take (i := 22) (oi := { dst := some 43, op := Op.pick (Operand.tmp 38) (Operand.const (Value.bool true)) (Operand.tmp 42), type := 4, pos := _, after := _, guard := none }) (v := ?_) rfl (by kernel_rfl) (by kernel_rfl) (by kernel_rfl) (fun _ _ _ h => h) (Or.inl ⟨by rfl, ?_⟩) (by assumption) ?_
          rotate_left
          · (intro w hSw; (try dsimp only at hSw); go_simp) <;> with_reducible rfl
          try simp only [Act.put, List.setIfInBounds_toArray, List.set_cons_zero, List.set_cons_succ]
          refine wpAnyH_take (i := 23) (oi := { dst := some 44, op := Op.indexAddr 53 (Operand.tmp 24) (Operand.tmp 25), type := 0, pos := _, after := _, guard := none }) (v := ?_) rfl (by kernel_rfl) (by kernel_rfl) (by kernel_rfl) (fun _ _ _ h => h) (Or.inl ⟨by rfl, ?_⟩) (by assumption) ?_
          rotate_left
          · (intro w hSw; (try dsimp only at hSw); go_simp) <;> with_reducible rfl
          try simp only [Act.put, List.setIfInBounds_toArray, List.set_cons_zero, List.set_cons_succ]
          refine wpAnyH_ready (rs := [24]) (by kernel_rfl) (by simp) ?_
          refine AllReadyH.cons (o := { dst := none, op := Op.store 4 (Operand.tmp 44) (Operand.tmp 43), type := 0, pos := _, after := _, guard := none }) rfl (fun K hK => ?_) AllReadyH.nil
          go_simp
          skip
          try go_simp
          clear hHeld
          refine hK.out _ _ ?_ (fun hHeld => ?_)
          · (exact HSx.out _ _ HB4.out)
          clear hK K
          try simp only [Act.put, List.setIfInBounds_toArray, List.set_cons_zero, List.set_cons_succ]
          refine wpAnyH_done (by kernel_rfl) ?_ _
          have HCn : Hid (Cm (W4.setCell ⟨g, k, none⟩ (.bool (decide (prt now k = prt after k)))) B P aa n ac after (some ⟨g, 0, none⟩) S mc (updM may lo (k + 1) (seeF may true now after)) ∧ V.grownBy (W4.setCell ⟨g, k, none⟩ (.bool (decide (prt now k = prt after k)))) (some g)) := by
            have h1 := (HKo.out.2.1.later HB4.out).set HKo.out.2.2.2.1 (decide (prt now k = prt after k))
            have h2 : seeF may true now after k = (decide (prt now k = prt after k)) := by
              show (may.getD k false && !true || decide (prt now k = prt after k)) = _
              rw [HKo.out.2.2.2.2.2.2]; simp
            rw [← h2] at h1
            rw [updM_step HKo.out.2.2.2.2.1 HKo.out.2.2.2.2.2.1] at h1
            rw [h2] at h1
            have h3 := (HKo.out.1.trans (grownOf (g := some g) HB4.out)).trans (grown_setCell (g := g) (j := k) (.bool (decide (prt now k = prt after k))))
            exact ⟨h1, h3⟩
          go_wp2
          go_roundw
          case rel => exact ⟨k + 1, HL2.out, by go_num, HCn.out⟩
          case measure => simp [intOf]; omega
        | false =>
          go_wp2_with fail
          refine wp_region_held_drew (S := (fun w' => w'.cell? ⟨P, 1, none⟩ = some (.slice (some ⟨g, 0, none⟩) S mc) ∧ w'.cell? ⟨w.heap.size, 6, none⟩ = some (.bool false))) (by kernel_rfl) ?_ (fun hHeld => ?_)
          · exact HSw.out
          refine wpAnyH_take (i := 0) (oi := { dst := some 21, op := Op.move (Operand.tmp 0), type := 72, pos := _, after := #[], guard := none }) (v := ?_) rfl (by kernel_rfl) (by kernel_rfl) (by kernel_rfl) (fun _ _ _ h => h) (Or.inl ⟨by rfl, ?_⟩) (by assumption) ?_
          rotate_left
          · (intro w hSw; (try dsimp only at hSw); go_simp) <;> with_reducible rfl
          try simp only [Act.put, List.setIfInBounds_toArray, List.set_cons_zero, List.set_cons_succ]
          refine wpAnyH_take (i := 1) (oi := { dst := some 22, op := Op.nilCheck (Operand.tmp 21), type := 0, pos := _, after := _, guard := none }) (v := ?_) rfl (by kernel_rfl) (by kernel_rfl) (by kernel_rfl) (fun _ _ _ h => h) (Or.inl ⟨by rfl, ?_⟩) (by assumption) ?_
          rotate_left
          · (intro w hSw; (try dsimp only at hSw); go_simp) <;> with_reducible rfl
          try simp only [Act.put, List.setIfInBounds_toArray, List.set_cons_zero, List.set_cons_succ]
          refine wpAnyH_take (i := 2) (oi := { dst := some 23, op := Op.fieldAddr 107 (Operand.tmp 22) 1, type := 0, pos := _, after := _, guard := none }) (v := ?_) rfl (by kernel_rfl) (by kernel_rfl) (by kernel_rfl) (fun _ _ _ h => h) (Or.inl ⟨by rfl, ?_⟩) (by assumption) ?_
          rotate_left
          · (intro w hSw; (try dsimp only at hSw); go_simp) <;> with_reducible rfl
          try simp only [Act.put, List.setIfInBounds_toArray, List.set_cons_zero, List.set_cons_succ]
          refine wpAnyH_take (i := 3) (oi := { dst := some 24, op := Op.load 53 (Operand.tmp 23), type := 53, pos := _, after := _, guard := none }) (v := ?_) rfl (by kernel_rfl) (by kernel_rfl) (by kernel_rfl) (fun _ _ _ h => h) (Or.inl ⟨by rfl, ?_⟩) (by assumption) ?_
          rotate_left
          · (intro w hSw; (try dsimp only at hSw); go_simp) <;> with_reducible rfl
          try simp only [Act.put, List.setIfInBounds_toArray, List.set_cons_zero, List.set_cons_succ]
          refine wpAnyH_take (i := 4) (oi := { dst := some 25, op := Op.move (Operand.tmp 8), type := 3, pos := _, after := #[], guard := none }) (v := ?_) rfl (by kernel_rfl) (by kernel_rfl) (by kernel_rfl) (fun _ _ _ h => h) (Or.inl ⟨by rfl, ?_⟩) (by assumption) ?_
          rotate_left
          · (intro w hSw; (try dsimp only at hSw); go_simp) <;> with_reducible rfl
          try simp only [Act.put, List.setIfInBounds_toArray, List.set_cons_zero, List.set_cons_succ]
          refine wpAnyH_take (i := 5) (oi := { dst := some 26, op := Op.move (Operand.tmp 0), type := 72, pos := _, after := #[], guard := none }) (v := ?_) rfl (by kernel_rfl) (by kernel_rfl) (by kernel_rfl) (fun _ _ _ h => h) (Or.inl ⟨by rfl, ?_⟩) (by assumption) ?_
          rotate_left
          · (intro w hSw; (try dsimp only at hSw); go_simp) <;> with_reducible rfl
          try simp only [Act.put, List.setIfInBounds_toArray, List.set_cons_zero, List.set_cons_succ]
          refine wpAnyH_take (i := 6) (oi := { dst := some 27, op := Op.nilCheck (Operand.tmp 26), type := 0, pos := _, after := _, guard := none }) (v := ?_) rfl (by kernel_rfl) (by kernel_rfl) (by kernel_rfl) (fun _ _ _ h => h) (Or.inl ⟨by rfl, ?_⟩) (by assumption) ?_
          rotate_left
          · (intro w hSw; (try dsimp only at hSw); go_simp) <;> with_reducible rfl
          try simp only [Act.put, List.setIfInBounds_toArray, List.set_cons_zero, List.set_cons_succ]
          refine wpAnyH_take (i := 7) (oi := { dst := some 28, op := Op.fieldAddr 107 (Operand.tmp 27) 1, type := 0, pos := _, after := _, guard := none }) (v := ?_) rfl (by kernel_rfl) (by kernel_rfl) (by kernel_rfl) (fun _ _ _ h => h) (Or.inl ⟨by rfl, ?_⟩) (by assumption) ?_
          rotate_left
          · (intro w hSw; (try dsimp only at hSw); go_simp) <;> with_reducible rfl
          try simp only [Act.put, List.setIfInBounds_toArray, List.set_cons_zero, List.set_cons_succ]
          refine wpAnyH_take (i := 8) (oi := { dst := some 29, op := Op.load 53 (Operand.tmp 28), type := 53, pos := _, after := _, guard := none }) (v := ?_) rfl (by kernel_rfl) (by kernel_rfl) (by kernel_rfl) (fun _ _ _ h => h) (Or.inl ⟨by rfl, ?_⟩) (by assumption) ?_
          rotate_left
          · (intro w hSw; (try dsimp only at hSw); go_simp) <;> with_reducible rfl
          try simp only [Act.put, List.setIfInBounds_toArray, List.set_cons_zero, List.set_cons_succ]
          refine wpAnyH_take (i := 9) (oi := { dst := some 30, op := Op.move (Operand.tmp 8), type := 3, pos := _, after := #[], guard := none }) (v := ?_) rfl (by kernel_rfl) (by kernel_rfl) (by kernel_rfl) (fun _ _ _ h => h) (Or.inl ⟨by rfl, ?_⟩) (by assumption) ?_
          rotate_left
          · (intro w hSw; (try dsimp only at hSw); go_simp) <;> with_reducible rfl
          try simp only [Act.put, List.setIfInBounds_toArray, List.set_cons_zero, List.set_cons_succ]
          refine wpAnyH_take (i := 10) (oi := { dst := some 31, op := Op.indexAddr 53 (Operand.tmp 29) (Operand.tmp 30), type := 0, pos := _, after := _, guard := none }) (v := ?_) rfl (by kernel_rfl) (by kernel_rfl) (by kernel_rfl) (fun _ _ _ h => h) (Or.inl ⟨by rfl, ?_⟩) (by assumption) ?_
          rotate_left
          · (intro w hSw; (try dsimp only at hSw); go_simp) <;> with_reducible rfl
          try simp only [Act.put, List.setIfInBounds_toArray, List.set_cons_zero, List.set_cons_succ]
          refine wpAnyH_ready (rs := [11]) (by kernel_rfl) (by simp) ?_
          refine AllReadyH.cons (o := { dst := some 32, op := Op.load 4 (Operand.tmp 31), type := 4, pos := _, after := _, guard := none }) rfl (fun K hK => ?_) AllReadyH.nil
          go_simp
          skip
          try go_simp
          clear hHeld
          refine hK.out _ _ ?_ (fun hHeld => ?_)
          · exact HSw.out
          clear hK K
          try simp only [Act.put, List.setIfInBounds_toArray, List.set_cons_zero, List.set_cons_succ]
          refine wpAnyH_take (i := 12) (oi := { dst := some 33, op := Op.move (Operand.tmp 32), type := 4, pos := _, after := _, guard := none }) (v := ?_) rfl (by kernel_rfl) (by kernel_rfl) (by kernel_rfl) (fun _ _ _ h => h) (Or.inl ⟨by rfl, ?_⟩) (by assumption) ?_
          rotate_left
          · (intro w hSw; (try dsimp only at hSw); go_simp) <;> with_reducible rfl
          try simp only [Act.put, List.setIfInBounds_toArray, List.set_cons_zero, List.set_cons_succ]
          refine wpAnyH_take (i := 13) (oi := { dst := some 34, op := Op.fieldAddr 50 (Operand.tmp 5) 6, type := 0, pos := _, after := _, guard := some (12, true) }) (v := ?_) rfl (by kernel_rfl) (by kernel_rfl) (by kernel_rfl) (fun _ _ _ h => h) (Or.inl ⟨by rfl, ?_⟩) (by assumption) ?_
          rotate_left
          · (intro w hSw; (try dsimp only at hSw); go_simp) <;> with_reducible rfl
          try simp only [Act.put, List.setIfInBounds_toArray, List.set_cons_zero, List.set_cons_succ]
          refine wpAnyH_take (i := 14) (oi := { dst := some 35, op := Op.load 4 (Operand.tmp 34), type := 4, pos := _, after := _, guard := some (12, true) }) (v := ?_) rfl (by kernel_rfl) (by kernel_rfl) (by kernel_rfl) (fun _ _ _ h => h) (Or.inl ⟨by rfl, ?_⟩) (by assumption) ?_
          rotate_left
          · (intro w hSw; (try dsimp only at hSw); go_simp) <;> with_reducible rfl
          try simp only [Act.put, List.setIfInBounds_toArray, List.set_cons_zero, List.set_cons_succ]
          refine wpAnyH_take (i := 15) (oi := { dst := some 36, op := Op.unOp UnOp.not 4 (Operand.tmp 35), type := 4, pos := _, after := _, guard := some (12, true) }) (v := ?_) rfl (by kernel_rfl) (by kernel_rfl) (by kernel_rfl) (fun _ _ _ h => h) (Or.inl ⟨by rfl, ?_⟩) (by assumption) ?_
          rotate_left
          · (intro w hSw; (try dsimp only at hSw); go_simp) <;> with_reducible rfl
          try simp only [Act.put, List.setIfInBounds_toArray, List.set_cons_zero, List.set_cons_succ]
          refine wpAnyH_take (i := 16) (oi := { dst := some 37, op := Op.pick (Operand.tmp 33) (Operand.tmp 36) (Operand.const (Value.bool false)), type := 4, pos := _, after := _, guard := none }) (v := ?_) rfl (by kernel_rfl) (by kernel_rfl) (by kernel_rfl) (fun _ _ _ h => h) (Or.inl ⟨by rfl, ?_⟩) (by assumption) ?_
          rotate_left
          · (intro w hSw; (try dsimp only at hSw); go_simp) <;> with_reducible rfl
          try simp only [Act.put, List.setIfInBounds_toArray, List.set_cons_zero, List.set_cons_succ]
          refine wpAnyH_take (i := 17) (oi := { dst := some 38, op := Op.move (Operand.tmp 37), type := 4, pos := _, after := _, guard := none }) (v := ?_) rfl (by kernel_rfl) (by kernel_rfl) (by kernel_rfl) (fun _ _ _ h => h) (Or.inl ⟨by rfl, ?_⟩) (by assumption) ?_
          rotate_left
          · (intro w hSw; (try dsimp only at hSw); go_simp) <;> with_reducible rfl
          try simp only [Act.put, List.setIfInBounds_toArray, List.set_cons_zero, List.set_cons_succ]
          refine wpAnyH_take (i := 18) (oi := { dst := some 39, op := Op.move (Operand.tmp 0), type := 72, pos := _, after := _, guard := some (17, false) }) (v := undef) rfl (by kernel_rfl) (by kernel_rfl) (by kernel_rfl) (fun _ _ _ h => h) (Or.inr ⟨by rfl, rfl⟩) (by assumption) ?_
          try simp only [Act.put, List.setIfInBounds_toArray, List.set_cons_zero, List.set_cons_succ]
          refine wpAnyH_take (i := 19) (oi := { dst := some 40, op := Op.move (Operand.tmp 1), type := 59, pos := _, after := _, guard := some (17, false) }) (v := undef) rfl (by kernel_rfl) (by kernel_rfl) (by kernel_rfl) (fun _ _ _ h => h) (Or.inr ⟨by rfl, rfl⟩) (by assumption) ?_
          try simp only [Act.put, List.setIfInBounds_toArray, List.set_cons_zero, List.set_cons_succ]
          refine wpAnyH_take (i := 20) (oi := { dst := some 41, op := Op.move (Operand.tmp 8), type := 3, pos := _, after := _, guard := some (17, false) }) (v := undef) rfl (by kernel_rfl) (by kernel_rfl) (by kernel_rfl) (fun _ _ _ h => h) (Or.inr ⟨by rfl, rfl⟩) (by assumption) ?_
          try simp only [Act.put, List.setIfInBounds_toArray, List.set_cons_zero, List.set_cons_succ]
          refine wpAnyH_take (i := 21) (oi := { dst := some 42, op := Op.call { callee := Callee.value (Operand.func 59), args := #[Operand.tmp 39, Operand.tmp 40, Operand.tmp 41], argTypes := #[72, 59, 3] }, type := 4, pos := _, after := _, guard := some (17, false) }) (v := undef) rfl (by kernel_rfl) (by kernel_rfl) (by kernel_rfl) (fun _ _ _ h => h) (Or.inr ⟨by rfl, rfl⟩) (by assumption) ?_
          try simp only [Act.put, List.setIfInBounds_toArray, List.set_cons_zero, List.set_cons_succ]
          refine wpAnyH_take (i := 22) (oi := { dst := some 43, op := Op.pick (Operand.tmp 38) (Operand.const (Value.bool true)) (Operand.tmp 42), type := 4, pos := _, after := _, guard := none }) (v := ?_) rfl (by kernel_rfl) (by kernel_rfl) (by kernel_rfl) (fun _ _ _ h => h) (Or.inl ⟨by rfl, ?_⟩) (by assumption) ?_
          rotate_left
          · (intro w hSw; (try dsimp only at hSw); go_simp) <;> with_reducible rfl
          try simp only [Act.put, List.setIfInBounds_toArray, List.set_cons_zero, List.set_cons_succ]
          refine wpAnyH_take (i := 23) (oi := { dst := some 44, op := Op.indexAddr 53 (Operand.tmp 24) (Operand.tmp 25), type := 0, pos := _, after := _, guard := none }) (v := ?_) rfl (by kernel_rfl) (by kernel_rfl) (by kernel_rfl) (fun _ _ _ h => h) (Or.inl ⟨by rfl, ?_⟩) (by assumption) ?_
          rotate_left
          · (intro w hSw; (try dsimp only at hSw); go_simp) <;> with_reducible rfl
          try simp only [Act.put, List.setIfInBounds_toArray, List.set_cons_zero, List.set_cons_succ]
          refine wpAnyH_ready (rs := [24]) (by kernel_rfl) (by simp) ?_
          refine AllReadyH.cons (o := { dst := none, op := Op.store 4 (Operand.tmp 44) (Operand.tmp 43), type := 0, pos := _, after := _, guard := none }) rfl (fun K hK => ?_) AllReadyH.nil
          go_simp
          skip
          try go_simp
          clear hHeld
          refine hK.out _ _ ?_ (fun hHeld => ?_)
          · (exact HSx.out _ _ (Below.refl _ _))
          clear hK K
          try simp only [Act.put, List.setIfInBounds_toArray, List.set_cons_zero, List.set_cons_succ]
          refine wpAnyH_done (by kernel_rfl) ?_ _
          have HCn : Hid (Cm (wr.setCell ⟨g, k, none⟩ (.bool true)).drew B P aa n ac after (some ⟨g, 0, none⟩) S mc (updM may lo (k + 1) (seeF may false now after)) ∧ V.grownBy (wr.setCell ⟨g, k, none⟩ (.bool true)).drew (some g)) := by
            have h1 := (HKo.out.2.1.later (Below.refl wr.heap.size wr)).set HKo.out.2.2.2.1 true
            have h2 : seeF may false now after k = true := by
              show (may.getD k false && !false || decide (prt now k = prt after k)) = _
              rw [HKo.out.2.2.2.2.2.2]; simp
            rw [← h2] at h1
            rw [updM_step HKo.out.2.2.2.2.1 HKo.out.2.2.2.2.2.1] at h1
            rw [h2] at h1
            have h3 := (HKo.out.1.trans (grownOf (g := some g) (Below.refl wr.heap.size wr))).trans (grown_setCell (g := g) (j := k) (.bool true))
            exact ⟨h1.later ⟨rfl, rfl, rfl, Nat.le_refl _, fun _ _ => rfl⟩, h3.trans ⟨rfl, rfl, rfl, Nat.le_refl _, fun _ _ _ => rfl⟩⟩
          go_wp2
          go_roundw
          case rel => exact ⟨k + 1, HL2.out, by go_num, HCn.out⟩
          case measure => simp [intOf]; omega
      | false =>
        go_wp2_with fail
        refine wp_region_held_drew (S := (fun w' => w'.cell? ⟨P, 1, none⟩ = some (.slice (some ⟨g, 0, none⟩) S mc) ∧ w'.cell? ⟨w.heap.size, 6, none⟩ = some (.bool sy))) (by kernel_rfl) ?_ (fun hHeld => ?_)
        · exact HSw.out
        refine wpAnyH_take (i := 0) (oi := { dst := some 21, op := Op.move (Operand.tmp 0), type := 72, pos := _, after := #[], guard := none }) (v := ?_) rfl (by kernel_rfl) (by kernel_rfl) (by kernel_rfl) (fun _ _ _ h => h) (Or.inl ⟨by rfl, ?_⟩) (by assumption) ?_
        rotate_left
        · (intro w hSw; (try dsimp only at hSw); go_simp) <;> with_reducible rfl
        try simp only [Act.put, List.setIfInBounds_toArray, List.set_cons_zero, List.set_cons_succ]
        refine wpAnyH_take (i := 1) (oi := { dst := some 22, op := Op.nilCheck (Operand.tmp 21), type := 0, pos := _, after := _, guard := none }) (v := ?_) rfl (by kernel_rfl) (by kernel_rfl) (by kernel_rfl) (fun _ _ _ h => h) (Or.inl ⟨by rfl, ?_⟩) (by assumption) ?_
        rotate_left
        · (intro w hSw; (try dsimp only at hSw); go_simp) <;> with_reducible rfl
        try simp only [Act.put, List.setIfInBounds_toArray, List.set_cons_zero, List.set_cons_succ]
        refine wpAnyH_take (i := 2) (oi := { dst := some 23, op := Op.fieldAddr 107 (Operand.tmp 22) 1, type := 0, pos := _, after := _, guard := none }) (v := ?_) rfl (by kernel_rfl) (by kernel_rfl) (by kernel_rfl) (fun _ _ _ h => h) (Or.inl ⟨by rfl, ?_⟩) (by assumption) ?_
        rotate_left
        · (intro w hSw; (try dsimp only at hSw); go_simp) <;> with_reducible rfl
        try simp only [Act.put, List.setIfInBounds_toArray, List.set_cons_zero, List.set_cons_succ]
        refine wpAnyH_take (i := 3) (oi := { dst := some 24, op := Op.load 53 (Operand.tmp 23), type := 53, pos := _, after := _, guard := none }) (v := ?_) rfl (by kernel_rfl) (by kernel_rfl) (by kernel_rfl) (fun _ _ _ h => h) (Or.inl ⟨by rfl, ?_⟩) (by assumption) ?_
        rotate_left
        · (intro w hSw; (try dsimp only at hSw); go_simp) <;> with_reducible rfl
        try simp only [Act.put, List.setIfInBounds_toArray, List.set_cons_zero, List.set_cons_succ]
        refine wpAnyH_take (i := 4) (oi := { dst := some 25, op := Op.move (Operand.tmp 8), type := 3, pos := _, after := #[], guard := none }) (v := ?_) rfl (by kernel_rfl) (by kernel_rfl) (by kernel_rfl) (fun _ _ _ h => h) (Or.inl ⟨by rfl, ?_⟩) (by assumption) ?_
        rotate_left
        · (intro w hSw; (try dsimp only at hSw); go_simp) <;> with_reducible rfl
        try simp only [Act.put, List.setIfInBounds_toArray, List.set_cons_zero, List.set_cons_succ]
        refine wpAnyH_take (i := 5) (oi := { dst := some 26, op := Op.move (Operand.tmp 0), type := 72, pos := _, after := #[], guard := none }) (v := ?_) rfl (by kernel_rfl) (by kernel_rfl) (by kernel_rfl) (fun _ _ _ h => h) (Or.inl ⟨by rfl, ?_⟩) (by assumption) ?_
        rotate_left
        · (intro w hSw; (try dsimp only at hSw); go_simp) <;> with_reducible rfl
        try simp only [Act.put, List.setIfInBounds_toArray, List.set_cons_zero, List.set_cons_succ]
        refine wpAnyH_take (i := 6) (oi := { dst := some 27, op := Op.nilCheck (Operand.tmp 26), type := 0, pos := _, after := _, guard := none }) (v := ?_) rfl (by kernel_rfl) (by kernel_rfl) (by kernel_rfl) (fun _ _ _ h => h) (Or.inl ⟨by rfl, ?_⟩) (by assumption) ?_
        rotate_left
        · (intro w hSw; (try dsimp only at hSw); go_simp) <;> with_reducible rfl
        try simp only [Act.put, List.setIfInBounds_toArray, List.set_cons_zero, List.set_cons_succ]
        refine wpAnyH_take (i := 7) (oi := { dst := some 28, op := Op.fieldAddr 107 (Operand.tmp 27) 1, type := 0, pos := _, after := _, guard := none }) (v := ?_) rfl (by kernel_rfl) (by kernel_rfl) (by kernel_rfl) (fun _ _ _ h => h) (Or.inl ⟨by rfl, ?_⟩) (by assumption) ?_
        rotate_left
        · (intro w hSw; (try dsimp only at hSw); go_simp) <;> with_reducible rfl
        try simp only [Act.put, List.setIfInBounds_toArray, List.set_cons_zero, List.set_cons_succ]
        refine wpAnyH_take (i := 8) (oi := { dst := some 29, op := Op.load 53 (Operand.tmp 28), type := 53, pos := _, after := _, guard := none }) (v := ?_) rfl (by kernel_rfl) (by kernel_rfl) (by kernel_rfl) (fun _ _ _ h => h) (Or.inl ⟨by rfl, ?_⟩) (by assumption) ?_
        rotate_left
        · (intro w hSw; (try dsimp only at hSw); go_simp) <;> with_reducible rfl
        try simp only [Act.put, List.setIfInBounds_toArray, List.set_cons_zero, List.set_cons_succ]
        refine wpAnyH_take (i := 9) (oi := { dst := some 30, op := Op.move (Operand.tmp 8), type := 3, pos := _, after := #[], guard := none }) (v := ?_) rfl (by kernel_rfl) (by kernel_rfl) (by kernel_rfl) (fun _ _ _ h => h) (Or.inl ⟨by rfl, ?_⟩) (by assumption) ?_
        rotate_left
        · (intro w hSw; (try dsimp only at hSw); go_simp) <;> with_reducible rfl
        try simp only [Act.put, List.setIfInBounds_toArray, List.set_cons_zero, List.set_cons_succ]
        refine wpAnyH_take (i := 10) (oi := { dst := some 31, op := Op.indexAddr 53 (Operand.tmp 29) (Operand.tmp 30), type := 0, pos := _, after := _, guard := none }) (v := ?_) rfl (by kernel_rfl) (by kernel_rfl) (by kernel_rfl) (fun _ _ _ h => h) (Or.inl ⟨by rfl, ?_⟩) (by assumption) ?_
        rotate_left
        · (intro w hSw; (try dsimp only at hSw); go_simp) <;> with_reducible rfl
        try simp only [Act.put, List.setIfInBounds_toArray, List.set_cons_zero, List.set_cons_succ]
        refine wpAnyH_ready (rs := [11]) (by kernel_rfl) (by simp) ?_
        refine AllReadyH.cons (o := { dst := some 32, op := Op.load 4 (Operand.tmp 31), type := 4, pos := _, after := _, guard := none }) rfl (fun K hK => ?_) AllReadyH.nil
        go_simp
        skip
        try go_simp
        clear hHeld
        refine hK.out _ _ ?_ (fun hHeld => ?_)
        · exact HSw.out
        clear hK K
        try simp only [Act.put, List.setIfInBounds_toArray, List.set_cons_zero, List.set_cons_succ]
        refine wpAnyH_take (i := 12) (oi := { dst := some 33, op := Op.move (Operand.tmp 32), type := 4, pos := _, after := _, guard := none }) (v := ?_) rfl (by kernel_rfl) (by kernel_rfl) (by kernel_rfl) (fun _ _ _ h => h) (Or.inl ⟨by rfl, ?_⟩) (by assumption) ?_
        rotate_left
        · (intro w hSw; (try dsimp only at hSw); go_simp) <;> with_reducible rfl
        try simp only [Act.put, List.setIfInBounds_toArray, List.set_cons_zero, List.set_cons_succ]
        refine wpAnyH_take (i := 13) (oi := { dst := some 34, op := Op.fieldAddr 50 (Operand.tmp 5) 6, type := 0, pos := _, after := _, guard := some (12, true) }) (v := undef) rfl (by kernel_rfl) (by kernel_rfl) (by kernel_rfl) (fun _ _ _ h => h) (Or.inr ⟨by rfl, rfl⟩) (by assumption) ?_
        try simp only [Act.put, List.setIfInBounds_toArray, List.set_cons_zero, List.set_cons_succ]
        refine wpAnyH_take (i := 14) (oi := { dst := some 35, op := Op.load 4 (Operand.tmp 34), type := 4, pos := _, after := _, guard := some (12, true) }) (v := undef) rfl (by kernel_rfl) (by kernel_rfl) (by kernel_rfl) (fun _ _ _ h => h) (Or.inr ⟨by rfl, rfl⟩) (by assumption) ?_
        try simp only [Act.put, List.setIfInBounds_toArray, List.set_cons_zero, List.set_cons_succ]
        refine wpAnyH_take (i := 15) (oi := { dst := some 36, op := Op.unOp UnOp.not 4 (Operand.tmp 35), type := 4, pos := _, after := _, guard := some (12, true) }) (v := undef) rfl (by kernel_rfl) (by kernel_rfl) (by kernel_rfl) (fun _ _ _ h => h) (Or.inr ⟨by rfl, rfl⟩) (by assumption) ?_
        try simp only [Act.put, List.setIfInBounds_toArray, List.set_cons_zero, List.set_cons_succ]
        refine wpAnyH_take (i := 16) (oi := { dst := some 37, op := Op.pick (Operand.tmp 33) (Operand.tmp 36) (Operand.const (Value.bool false)), type := 4, pos := _, after := _, guard := none }) (v := ?_) rfl (by kernel_rfl) (by kernel_rfl) (by kernel_rfl) (fun _ _ _ h => h) (Or.inl ⟨by rfl, ?_⟩) (by assumption) ?_
        rotate_left
        · (intro w hSw; (try dsimp only at hSw); go_simp) <;> with_reducible rfl
        try simp only [Act.put, List.setIfInBounds_toArray, List.set_cons_zero, List.set_cons_succ]
        refine wpAnyH_take (i := 17) (oi := { dst := some 38, op := Op.move (Operand.tmp 37), type := 4, pos := _, after := _, guard := none }) (v := ?_) rfl (by kernel_rfl) (by kernel_rfl) (by kernel_rfl) (fun _ _ _ h => h) (Or.inl ⟨by rfl, ?_⟩) (by assumption) ?_
        rotate_left
        · (intro w hSw; (try dsimp only at hSw); go_simp) <;> with_reducible rfl
        try simp only [Act.put, List.setIfInBounds_toArray, List.set_cons_zero, List.set_cons_succ]
        refine wpAnyH_take (i := 18) (oi := { dst := some 39, op := Op.move (Operand.tmp 0), type := 72, pos := _, after := _, guard := some (17, false) }) (v := ?_) rfl (by kernel_rfl) (by kernel_rfl) (by kernel_rfl) (fun _ _ _ h => h) (Or.inl ⟨by rfl, ?_⟩) (by assumption) ?_
        rotate_left
        · (intro w hSw; (try dsimp only at hSw); go_simp) <;> with_reducible rfl
        try simp only [Act.put, List.setIfInBounds_toArray, List.set_cons_zero, List.set_cons_succ]
        refine wpAnyH_take (i := 19) (oi := { dst := some 40, op := Op.move (Operand.tmp 1), type := 59, pos := _, after := _, guard := some (17, false) }) (v := ?_) rfl (by kernel_rfl) (by kernel_rfl) (by kernel_rfl) (fun _ _ _ h => h) (Or.inl ⟨by rfl, ?_⟩) (by assumption) ?_
        rotate_left
        · (intro w hSw; (try dsimp only at hSw); go_simp) <;> with_reducible rfl
        try simp only [Act.put, List.setIfInBounds_toArray, List.set_cons_zero, List.set_cons_succ]
        refine wpAnyH_take (i := 20) (oi := { dst := some 41, op := Op.move (Operand.tmp 8), type := 3, pos := _, after := _, guard := some (17, false) }) (v := ?_) rfl (by kernel_rfl) (by kernel_rfl) (by kernel_rfl) (fun _ _ _ h => h) (Or.inl ⟨by rfl, ?_⟩) (by assumption) ?_
        rotate_left
        · (intro w hSw; (try dsimp only at hSw); go_simp) <;> with_reducible rfl
        try simp only [Act.put, List.setIfInBounds_toArray, List.set_cons_zero, List.set_cons_succ]
        refine wpAnyH_ready (rs := [21]) (by kernel_rfl) (by simp) ?_
        refine AllReadyH.cons (o := { dst := some 42, op := Op.call { callee := Callee.value (Operand.func 59), args := #[Operand.tmp 39, Operand.tmp 40, Operand.tmp 41], argTypes := #[72, 59, 3] }, type := 4, pos := _, after := _, guard := some (17, false) }) rfl (fun K hK => ?_) AllReadyH.nil
        go_simp
        go_at_call 59
        refine Calls.mono HSa.out ?_
        rintro ex W4 ⟨rfl, hb4⟩
        have HB4 : Hid (Below wr.heap.size wr W4) := HDr.out.trans hb4
        have cs : W4.cell? ⟨g, k, none⟩ = some (.bool false) := cell_later HB4.out HCk.out
        have cf : W4.frozen? ⟨g, k, none⟩ = false := by rw [World.frozen?_of_block (a := ⟨g, k, none⟩) (HB4.out.block _ (World.block_lt_of_cell? _ _ HCk.out))]; exact HFk.out
        have HS4 : Hid (W4.cell? ⟨P, 1, none⟩ = some (.slice (some ⟨g, 0, none⟩) S mc) ∧ W4.cell? ⟨w.heap.size, 6, none⟩ = some (.bool sy)) := ⟨cell_later HB4.out HSw.out.1, cell_later HB4.out HSw.out.2⟩
        clear hb4
        try go_simp
        clear hHeld
        refine hK.out _ _ ?_ (fun hHeld => ?_)
        · exact HS4.out
        clear hK K
        try simp only [Act.put, List.setIfInBounds_toArray, List.set_cons_zero, List.set_cons_succ]
        refine wpAnyH_take (i := 22) (oi := { dst := some 43, op := Op.pick (Operand.tmp 38) (Operand.const (Value.bool true)) (Operand.tmp 42), type := 4, pos := _, after := _, guard := none }) (v := ?_) rfl (by kernel_rfl) (by kernel_rfl) (by kernel_rfl) (fun _ _ _ h => h) (Or.inl ⟨by rfl, ?_⟩) (by assumption) ?_
        rotate_left
        · (intro w hSw; (try dsimp only at hSw); go_simp) <;> with_reducible rfl
        try simp only [Act.put, List.setIfInBounds_toArray, List.set_cons_zero, List.set_cons_succ]
        refine wpAnyH_take (i := 23) (oi := { dst := some 44, op := Op.indexAddr 53 (Operand.tmp 24) (Operand.tmp 25), type := 0, pos := _, after := _, guard := none }) (v := ?_) rfl (by kernel_rfl) (by kernel_rfl) (by kernel_rfl) (fun _ _ _ h => h) (Or.inl ⟨by rfl, ?_⟩) (by assumption) ?_
        rotate_left
        · (intro w hSw; (try dsimp only at hSw); go_simp) <;> with_reducible rfl
        try simp only [Act.put, List.setIfInBounds_toArray, List.set_cons_zero, List.set_cons_succ]
        refine wpAnyH_ready (rs := [24]) (by kernel_rfl) (by simp) ?_
        refine AllReadyH.cons (o := { dst := none, op := Op.store 4 (Operand.tmp 44) (Operand.tmp 43), type := 0, pos := _, after := _, guard := none }) rfl (fun K hK => ?_) AllReadyH.nil
        go_simp
        skip
        try go_simp
        clear hHeld
        refine hK.out _ _ ?_ (fun hHeld => ?_)
        · (exact HSx.out _ _ HB4.out)
        clear hK K
        try simp only [Act.put, List.setIfInBounds_toArray, List.set_cons_zero, List.set_cons_succ]
        refine wpAnyH_done (by kernel_rfl) ?_ _
        have HCn : Hid (Cm (W4.setCell ⟨g, k, none⟩ (.bool (decide (prt now k = prt after k)))) B P aa n ac after (some ⟨g, 0, none⟩) S mc (updM may lo (k + 1) (seeF may sy now after)) ∧ V.grownBy (W4.setCell ⟨g, k, none⟩ (.bool (decide (prt now k = prt after k)))) (some g)) := by
          have h1 := (HKo.out.2.1.later HB4.out).set HKo.out.2.2.2.1 (decide (prt now k = prt after k))
          have h2 : seeF may sy now after k = (decide (prt now k = prt after k)) := by
            show (may.getD k false && !sy || decide (prt now k = prt after k)) = _
            rw [HKo.out.2.2.2.2.2.2]; simp
          rw [← h2] at h1
          rw [updM_step HKo.out.2.2.2.2.1 HKo.out.2.2.2.2.2.1] at h1
          rw [h2] at h1
          have h3 := (HKo.out.1.trans (grownOf (g := some g) HB4.out)).trans (grown_setCell (g := g) (j := k) (.bool (decide (prt now k = prt after k))))
          exact ⟨h1, h3⟩
        go_wp2
        go_roundw
        case rel => exact ⟨k + 1, HL2.out, by go_num, HCn.out⟩
        case measure => simp [intOf]; omega
    · have n9 : decide ((k : Int) < (hi : Int)) = false := decide_eq_false (by omega)
      have HE : Hid (updM may lo k (seeF may sy now after) = updM may lo hi (seeF may sy now after)) := by
        show _ = _
        by_cases e : hi ≤ lo
        · rw [updM_start _ _ _ _ (by omega), updM_start _ _ _ _ e]
        · have e2 : k = hi := by omega
          rw [e2]
      go_wp2
      go_end0
      refine ⟨rfl, ?_, (HVs.out.2.but (some g)).trans HQ.out.2⟩
      rw [← HE.out]; exact HQ.out.1
end Go.Proofs.Ytjkoambfecmglaa
