import Derived.Test.YtjkoambfecmglaaVThz
import Derived.Test.YtjkoambfecmglaaJH
namespace Go.Proofs.Ytjkoambfecmglaa
open Go.RowKit
set_option linter.unusedVariables false
set_option linter.unusedSimpArgs false
set_option maxRecDepth 100000
/-- a comparison that was just made -/
theorem cm_new (w : World) {n ac S : Nat} {aa : Option Addr} {after : List Nat} (ha : BRow w aa ac after) (han : after.length = n) (hac : n ≤ ac) (hs : n ≤ 4096) (hS : secs n = S) :
    Cm ((w.alloc (.cells (Array.replicate S (Value.bool false)) 4)).alloc (.cells #[.slice aa n ac, .slice (some ⟨w.heap.size, 0, none⟩) S S] 107)) w.heap.size (w.heap.size + 1) aa n ac after (some ⟨w.heap.size, 0, none⟩) S S (List.replicate S false) ∧ Below w.heap.size w ((w.alloc (.cells (Array.replicate S (Value.bool false)) 4)).alloc (.cells #[.slice aa n ac, .slice (some ⟨w.heap.size, 0, none⟩) S S] 107)) := by
  have hS8 : S ≤ 8 := by unfold secs at hS; omega
  have z1 : (w.alloc (.cells (Array.replicate S (Value.bool false)) 4)).heap.size = w.heap.size + 1 := World.size_alloc _ _
  refine ⟨⟨?_, by omega, ?_, fun U hU => ?_, han, hac, hs, hS⟩, ?_⟩
  · have := heap_new (w.alloc (.cells (Array.replicate S (Value.bool false)) 4)) (.cells #[.slice aa n ac, .slice (some ⟨w.heap.size, 0, none⟩) S S] 107)
    rw [z1] at this; exact this
  · rw [List.map_replicate]
    have hz : (w.alloc (.cells (Array.replicate S (Value.bool false)) 4)).ownsRow w.heap.size 4 1 (.slice (some ⟨w.heap.size, 0, none⟩) S S) S (List.replicate S (Value.bool false)) :=
      ⟨by simp, .inr ⟨w.heap.size, S, _, rfl, Nat.le_refl _, heap_new _ _, Nat.le_refl _, by unfold maxLen; omega, by simp, by simp⟩⟩
    exact owns_far hz (World.grownBy_alloc _ _ none) (by simp)
  · exact ha.later ((((Below.refl _ w).alloc (Nat.le_refl _) _).alloc (by rw [World.size_alloc]; omega) _).trans hU)
  · exact ((Below.refl _ w).alloc (Nat.le_refl _) _).alloc (by rw [World.size_alloc]; omega) _
/-- what a comparison says at first -/
def mayF (first after : List Nat) (j : Nat) : Bool := decide (prt first j = prt after j)
def may0 (S : Nat) (first after : List Nat) : List Bool := updM (List.replicate S false) 0 S (mayF first after)
theorem may0_get {S : Nat} {first after : List Nat} {j : Nat} (hj : j < S) : (may0 S first after)[j]? = some (mayF first after j) := by
  unfold may0
  rw [updM_get, List.length_replicate, if_pos hj, if_pos (by omega)]
theorem may0_len (S : Nat) (first after : List Nat) : (may0 S first after).length = S := by unfold may0; rw [updM_len, List.length_replicate]
set_option maxHeartbeats 8000000 in
theorem compareWith_any (aa fa : Option Addr) (n ac fc : Nat) (after first : List Nat) (w : World) (ha : BRow w aa ac after) (han : after.length = n) (hac : n ≤ ac) (hb : BRow w fa fc first) (hn : first.length = n) (hfc : n ≤ fc) (hs : n ≤ 4096) :
    Calls Try.prog 35 #[.slice aa n ac, .slice fa n fc] w fun e w' => ∃ S, e = .returned (.pointer (some ⟨w.heap.size + 1, 0, none⟩)) ∧ Cm w' w.heap.size (w.heap.size + 1) aa n ac after (some ⟨w.heap.size, 0, none⟩) S S (may0 S first after) ∧ Below w.heap.size w w' := by
  obtain ⟨S, hS⟩ : ∃ S, secs n = S := ⟨_, rfl⟩
  have hS8 : S ≤ 8 := by unfold secs at hS; omega
  have HSe : Hid _ := sectors_any aa n ac w hs
  rw [hS] at HSe
  have hmk := run_bools w (n := S) (by omega)
  have HC0 : Hid _ := cm_new w ha han hac hs hS
  have HD : Hid (BRow w fa fc first ∧ first.length = n ∧ n ≤ fc ∧ n ≤ 4096 ∧ secs n = S) := ⟨hb, hn, hfc, hs, hS⟩
  clear ha han hac hb hn hfc hs hS
  go_enter Try.func35, Try.ntmps35
  go_wp2_with fail
  refine Calls.mono HSe.out ?_
  rintro e W1 ⟨rfl, rfl⟩
  have z1 : (W1.alloc (.cells (Array.replicate S (Value.bool false)) 4)).heap.size = W1.heap.size + 1 := World.size_alloc _ _
  have hp1 : ((W1.alloc (.cells (Array.replicate S (Value.bool false)) 4)).alloc (.cells #[.slice aa n ac, .slice (some ⟨W1.heap.size, 0, none⟩) S S] 107)).cell? ⟨W1.heap.size + 1, 1, none⟩ = some (.slice (some ⟨W1.heap.size, 0, none⟩) S S) := blk_at HC0.out.1.blk 1
  go_wp2_with fail
  clear hmk hp1 HSe
  go_loopw [18] (fun xv wr => ∃ k : Nat, k ≤ S ∧ xv = .int .i64 (k : Int) ∧ Hid (Cm wr W1.heap.size (W1.heap.size + 1) aa n ac after (some ⟨W1.heap.size, 0, none⟩) S S (updM (List.replicate S false) 0 k (mayF first after)) ∧ Below W1.heap.size W1 wr)) (fun xv _ => S - (intOf xv).toNat)
  case atStart =>
    refine ⟨0, Nat.zero_le _, rfl, ?_⟩
    rw [show Hid _ = (Cm _ W1.heap.size (W1.heap.size + 1) aa n ac after (some ⟨W1.heap.size, 0, none⟩) S S (updM (List.replicate S false) 0 0 (mayF first after)) ∧ Below W1.heap.size W1 _) from rfl, updM_start _ _ _ _ (Nat.le_refl _)]
    exact HC0.out
  case round =>
    clear HC0 z1
    obtain ⟨w, hw⟩ : ∃ w, W1 = w := ⟨_, rfl⟩
    subst hw
    obtain ⟨k, hk, rfl, HQ⟩ := hrel
    by_cases hlt : k < S
    · have n9 : decide ((k : Int) < (S : Int)) = true := decide_eq_true (by omega)
      have ii0 : (0 : Int) ≤ (k : Int) := by omega
      have ii9 : (k : Int) < (S : Int) := by omega
      have HLt : Hid (k < S) := hlt
      have hml : (List.replicate S false).length = S := by simp
      have hat := updM_at (may := List.replicate S false) (lo := 0) (F := mayF first after) (k := k) (by omega)
      obtain ⟨g', eg, -, hcell, hfr⟩ := own_some HQ.out.1.row (by omega)
      cases eg
      have HCk : Hid (wr.cell? ⟨W1.heap.size, k, none⟩ = some (.bool false)) := by
        show _ = _
        rw [hcell k hlt, List.getElem?_map, hat]
        rw [List.getD_eq_getElem?_getD, List.getElem?_replicate, if_pos hlt]; rfl
      have HFk : Hid (wr.frozen? ⟨W1.heap.size, k, none⟩ = false) := hfr k
      have HSw : Hid (wr.cell? ⟨W1.heap.size + 1, 1, none⟩ = some (.slice (some ⟨W1.heap.size, 0, none⟩) S S)) := blk_at HQ.out.1.blk 1
      have HDr : Hid (Below wr.heap.size wr wr.drew) := ⟨rfl, rfl, rfl, Nat.le_refl _, fun _ _ => rfl⟩
      have HSa : Hid _ := csame_any aa fa (W1.heap.size + 1) n ac fc k after first wr.drew (blk_at HQ.out.1.blk 0) ((HQ.out.1.later HDr.out).af _ (Below.refl _ _)) HQ.out.1.han HQ.out.1.hac ((HD.out.1.later HQ.out.2).later HDr.out) HD.out.2.1 HD.out.2.2.1 HD.out.2.2.2.1 (by rw [HD.out.2.2.2.2]; exact hlt)
      have HSx : Hid (∀ (U : World) (b : Bool), Below wr.heap.size wr U → (U.setCell ⟨W1.heap.size, k, none⟩ (.bool b)).cell? ⟨W1.heap.size + 1, 1, none⟩ = some (.slice (some ⟨W1.heap.size, 0, none⟩) S S)) := fun U b hU => by
        rw [World.cell?_of_block (a := ⟨W1.heap.size + 1, 1, none⟩) (Below.heap_setCell _ _ _ _ (by show W1.heap.size + 1 ≠ W1.heap.size; omega))]
        exact cell_later hU HSw.out
      clear hat hcell hfr hml
      go_wp2_with fail
      refine wp_region_held_drew (S := (fun w' => w'.cell? ⟨W1.heap.size + 1, 1, none⟩ = some (.slice (some ⟨W1.heap.size, 0, none⟩) S S))) (by kernel_rfl) ?_ (fun hHeld => ?_)
      · exact HSw.out
      refine wpAnyH_take (i := 0) (oi := { dst := some 21, op := Op.move (Operand.tmp 5), type := 72, pos := _, after := #[], guard := none }) (v := ?_) rfl (by kernel_rfl) (by kernel_rfl) (by kernel_rfl) (fun _ _ _ h => h) (Or.inl ⟨by rfl, ?_⟩) (by assumption) ?_
      rotate_left
      · (intro w hSw; (try dsimp only at hSw); go_simp) <;> with_reducible rfl
      try simp only [Act.put, List.setIfInBounds_toArray, List.set_cons_zero, List.set_cons_succ]
      refine wpAnyH_take (i := 1) (oi := { dst := some 22, op := Op.nilCheck (Operand.tmp 21), type := 0, pos := _, after := _, guard := none }) (v := ?_) rfl (by kernel_rfl) (by kernel_rfl) (by kernel_rfl) (fun _ _ _ h => h) (Or.inl ⟨by rfl, ?_⟩) (by assumption) ?_
      rotate_left
      · (intro w hSw; (try dsimp only at hSw); go_simp) <;> with_reducible rfl
      try simp only [Act.put, List.setIfInBounds_toArray, List.set_cons_zero, List.set_cons_succ]
      refine wpAnyH_take (i := 2) (oi := { dst := some 23, op := Op.fieldAddr 107 (Operand.tmp 22) 1, type := 0, pos := _, after := _, guard := none }) (v := ?_) rfl (by kernel_rfl) (by kernel_rfl) (by kernel_rfl) (fun _ _ _ h => h) (Or.inl ⟨by rfl, ?_⟩) (by assumption) ?_
      rotate_left
      · (intro w hSw; (try dsimp only at hSw); go_simp) <;> with_reducible rfl
      try simp only [Act.put, List.setIfInBounds_toArray, List.set_cons_zero, List.set_cons_succ]
      refine wpAnyH_take (i := 3) (oi := { dst := some 24, op := Op.load 53 (Operand.tmp 23), type := 53, pos := _, after := _, guard := none }) (v := ?_) rfl (by kernel_rfl) (by kernel_rfl) (by kernel_rfl) (fun _ _ _ h => h) (Or.inl ⟨by rfl, ?_⟩) (by assumption) ?_
      rotate_left
      · (intro w hSw; (try dsimp only at hSw); go_simp) <;> with_reducible rfl
      try simp only [Act.put, List.setIfInBounds_toArray, List.set_cons_zero, List.set_cons_succ]
      refine wpAnyH_take (i := 4) (oi := { dst := some 25, op := Op.move (Operand.tmp 6), type := 3, pos := _, after := #[], guard := none }) (v := ?_) rfl (by kernel_rfl) (by kernel_rfl) (by kernel_rfl) (fun _ _ _ h => h) (Or.inl ⟨by rfl, ?_⟩) (by assumption) ?_
      rotate_left
      · (intro w hSw; (try dsimp only at hSw); go_simp) <;> with_reducible rfl
      try simp only [Act.put, List.setIfInBounds_toArray, List.set_cons_zero, List.set_cons_succ]
      refine wpAnyH_take (i := 5) (oi := { dst := some 26, op := Op.move (Operand.tmp 5), type := 72, pos := _, after := #[], guard := none }) (v := ?_) rfl (by kernel_rfl) (by kernel_rfl) (by kernel_rfl) (fun _ _ _ h => h) (Or.inl ⟨by rfl, ?_⟩) (by assumption) ?_
      rotate_left
      · (intro w hSw; (try dsimp only at hSw); go_simp) <;> with_reducible rfl
      try simp only [Act.put, List.setIfInBounds_toArray, List.set_cons_zero, List.set_cons_succ]
      refine wpAnyH_take (i := 6) (oi := { dst := some 27, op := Op.move (Operand.tmp 1), type := 59, pos := _, after := #[], guard := none }) (v := ?_) rfl (by kernel_rfl) (by kernel_rfl) (by kernel_rfl) (fun _ _ _ h => h) (Or.inl ⟨by rfl, ?_⟩) (by assumption) ?_
      rotate_left
      · (intro w hSw; (try dsimp only at hSw); go_simp) <;> with_reducible rfl
      try simp only [Act.put, List.setIfInBounds_toArray, List.set_cons_zero, List.set_cons_succ]
      refine wpAnyH_take (i := 7) (oi := { dst := some 28, op := Op.move (Operand.tmp 6), type := 3, pos := _, after := #[], guard := none }) (v := ?_) rfl (by kernel_rfl) (by kernel_rfl) (by kernel_rfl) (fun _ _ _ h => h) (Or.inl ⟨by rfl, ?_⟩) (by assumption) ?_
      rotate_left
      · (intro w hSw; (try dsimp only at hSw); go_simp) <;> with_reducible rfl
      try simp only [Act.put, List.setIfInBounds_toArray, List.set_cons_zero, List.set_cons_succ]
      refine wpAnyH_ready (rs := [8]) (by kernel_rfl) (by simp) ?_
      refine AllReadyH.cons (o := { dst := some 29, op := Op.call { callee := Callee.value (Operand.func 59), args := #[Operand.tmp 26, Operand.tmp 27, Operand.tmp 28], argTypes := #[72, 59, 3] }, type := 4, pos := _, after := _, guard := none }) rfl (fun K hK => ?_) AllReadyH.nil
      go_simp
      go_at_call 59
      refine Calls.mono HSa.out ?_
      rintro ex W4 ⟨rfl, hb4⟩
      have HB4 : Hid (Below wr.heap.size wr W4) := HDr.out.trans hb4
      have cs : W4.cell? ⟨W1.heap.size, k, none⟩ = some (.bool false) := cell_later HB4.out HCk.out
      have cf : W4.frozen? ⟨W1.heap.size, k, none⟩ = false := by rw [World.frozen?_of_block (a := ⟨W1.heap.size, k, none⟩) (HB4.out.block _ (World.block_lt_of_cell? _ _ HCk.out))]; exact HFk.out
      have HS4 : Hid (W4.cell? ⟨W1.heap.size + 1, 1, none⟩ = some (.slice (some ⟨W1.heap.size, 0, none⟩) S S)) := cell_later HB4.out HSw.out
      clear hb4
      try go_simp
      clear hHeld
      refine hK.out _ _ ?_ (fun hHeld => ?_)
      · exact HS4.out
      clear hK K
      try simp only [Act.put, List.setIfInBounds_toArray, List.set_cons_zero, List.set_cons_succ]
      refine wpAnyH_take (i := 9) (oi := { dst := some 30, op := Op.indexAddr 53 (Operand.tmp 24) (Operand.tmp 25), type := 0, pos := _, after := _, guard := none }) (v := ?_) rfl (by kernel_rfl) (by kernel_rfl) (by kernel_rfl) (fun _ _ _ h => h) (Or.inl ⟨by rfl, ?_⟩) (by assumption) ?_
      rotate_left
      · (intro w hSw; (try dsimp only at hSw); go_simp) <;> with_reducible rfl
      try simp only [Act.put, List.setIfInBounds_toArray, List.set_cons_zero, List.set_cons_succ]
      refine wpAnyH_ready (rs := [10]) (by kernel_rfl) (by simp) ?_
      refine AllReadyH.cons (o := { dst := none, op := Op.store 4 (Operand.tmp 30) (Operand.tmp 29), type := 0, pos := _, after := _, guard := none }) rfl (fun K hK => ?_) AllReadyH.nil
      go_simp
      skip
      try go_simp
      clear hHeld
      refine hK.out _ _ ?_ (fun hHeld => ?_)
      · exact HSx.out _ _ HB4.out
      clear hK K
      try simp only [Act.put, List.setIfInBounds_toArray, List.set_cons_zero, List.set_cons_succ]
      refine wpAnyH_done (by kernel_rfl) ?_ _
      have HCn : Hid (Cm (W4.setCell ⟨W1.heap.size, k, none⟩ (.bool (decide (prt first k = prt after k)))) W1.heap.size (W1.heap.size + 1) aa n ac after (some ⟨W1.heap.size, 0, none⟩) S S (updM (List.replicate S false) 0 (k + 1) (mayF first after)) ∧ Below W1.heap.size W1 (W4.setCell ⟨W1.heap.size, k, none⟩ (.bool (decide (prt first k = prt after k))))) := by
        have h1 := (HQ.out.1.later HB4.out).set HLt.out (mayF first after k)
        rw [updM_step (Nat.zero_le _) (by simpa using HLt.out)] at h1
        exact ⟨h1, (HQ.out.2.trans (HB4.out.mono HQ.out.2.size)).setCell (Nat.le_refl _) _⟩
      go_wp2
      go_roundw
      case rel => exact ⟨k + 1, HLt.out, by go_num, HCn.out⟩
      case measure => simp [intOf]; omega
    · have n9 : decide ((k : Int) < (S : Int)) = false := decide_eq_false (by omega)
      have HE : Hid (k = S) := Nat.le_antisymm hk (Nat.le_of_not_lt hlt)
      go_wp2
      go_ret
      refine ⟨S, rfl, ?_, HQ.out.2⟩
      have h1 := HQ.out.1
      rw [HE.out] at h1
      exact h1
/-- the verdict -/
def VdEnd (may : List Bool) (e : Ending) : Prop :=
  (∃ k : Nat, may[k]? = some false ∧ (∀ j, j < k → may[j]? = some true) ∧ e = .returned (.tuple #[.int .i64 (k : Int), .bool false])) ∨ ((∀ j, j < may.length → may[j]? = some true) ∧ e = .returned (.tuple #[.int .i64 0, .bool true]))
set_option maxHeartbeats 4000000 in
theorem verdict_any {B P n ac S mc : Nat} {aa ma : Option Addr} {after : List Nat} {may : List Bool} {w : World} (h : Cm w B P aa n ac after ma S mc may) :
    Calls Try.prog 37 #[.pointer (some ⟨P, 0, none⟩)] w fun e w' => VdEnd may e ∧ Below w.heap.size w w' := by
  have c1 : w.cell? ⟨P, 1, none⟩ = some (.slice ma S mc) := blk_at h.blk 1
  have HH : Hid (Cm w B P aa n ac after ma S mc may) := h
  have hS8 : S ≤ 8 := by
    have h1 := h.hS
    have h2 := h.hs
    unfold secs at h1
    omega
  clear h
  go_enter Try.func37, Try.ntmps37
  go_wp2
  clear c1
  go_loopw [11] (fun xv wr => ∃ k : Nat, k ≤ S ∧ xv = .int .i64 (k : Int) ∧ Hid (Below w.heap.size w wr ∧ ∀ j, j < k → may[j]? = some true)) (fun xv _ => S - (intOf xv).toNat)
  case atStart => exact ⟨0, Nat.zero_le _, rfl, Below.refl _ _, fun j hj => by omega⟩
  case round =>
    obtain ⟨k, hk, rfl, HQ⟩ := hrel
    by_cases hlt : k < S
    · have n9 : decide ((k : Int) < (S : Int)) = true := decide_eq_true (by omega)
      have ii0 : (0 : Int) ≤ (k : Int) := by omega
      have ii9 : (k : Int) < (S : Int) := by omega
      have HLt : Hid (k < S) := hlt
      obtain ⟨g, eg, -, hcell, -⟩ := own_some HH.out.row (by omega)
      subst eg
      obtain ⟨b, hb⟩ : ∃ b, may[k]? = some b := ⟨_, List.getElem?_eq_getElem (by rw [HH.out.mlen]; exact hlt)⟩
      have ck : wr.cell? ⟨g, k, none⟩ = some (.bool b) := cell_later HQ.out.1 (by rw [hcell k hlt, List.getElem?_map, hb]; rfl)
      have HBb : Hid (may[k]? = some b) := hb
      clear hcell hb
      cases b with
      | true =>
        have HN : Hid (∀ j, j < k + 1 → may[j]? = some true) := fun j hj => by
          rcases Nat.lt_or_ge j k with h1 | h1
          · exact HQ.out.2 j h1
          · have e : j = k := by omega
            rw [e]; exact HBb.out
        go_wp2
        go_roundw
        case rel => exact ⟨k + 1, HLt.out, by go_num, HQ.out.1, HN.out⟩
        case measure => simp [intOf]; omega
      | false =>
        go_wp2
        go_ret2
        exact ⟨.inl ⟨k, HBb.out, HQ.out.2, rfl⟩, HQ.out.1⟩
    · have n9 : decide ((k : Int) < (S : Int)) = false := decide_eq_false (by omega)
      have HE : Hid (∀ j, j < may.length → may[j]? = some true) := fun j hj => HQ.out.2 j (by rw [HH.out.mlen] at hj; omega)
      go_wp2
      go_ret2
      exact ⟨.inr ⟨HE.out, rfl⟩, HQ.out.1⟩
end Go.Proofs.Ytjkoambfecmglaa
