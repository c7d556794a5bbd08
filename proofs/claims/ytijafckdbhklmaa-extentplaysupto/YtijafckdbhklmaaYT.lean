import Derived.Test.YtijafckdbhklmaaYSI
import Derived.Deep.RegionWith
namespace Go.Proofs.Ytijafckdbhklmaa.I
open Go.RowKit Go.Sort Go.Shelf Classical
attribute [local go_sem] Oper.semAt_some
set_option linter.unusedVariables false
set_option linter.unusedSimpArgs false
set_option maxRecDepth 100000

theorem keepR_put (W : World) (l : Nat) (o o' : Obj) (h : W.heap[l]? = some o) (hc : o.isCells = false) : KeepR W (W.putObj l o') := fun i cur fr hi => by
  have hne : i ≠ l := by
    rintro rfl
    rw [h] at hi
    cases hi
    simp [Obj.isCells] at hc
  exact (World.putObj_heap_other hne).trans hi
theorem keepR_own (W0 : World) (B : Nat) : OwnFrom B (fun (_ : Unit) W => KeepR W0 W) := fun s X Y row hs hg hrow k cur fr hk => by
  have h1 := hs k cur fr hk
  refine (hg.block k (Array.getElem?_eq_some_iff.1 h1).1 (fun e => ?_)).trans h1
  obtain ⟨_, o, ho, hc⟩ := hrow k e.symm
  rw [h1] at ho; cases ho; simp [Obj.isCells] at hc
theorem keepR_box {W : World} {B t : Nat} {v u : Value} (hb : Boxed W B t v) (ht : t ≠ TRun) : KeepR W (W.setCell ⟨B, 0, none⟩ u) := fun i cur fr hi => by
  refine (Below.heap_setCell _ _ _ _ (fun e => ?_)).trans hi
  have e' : i = B := e
  subst e'
  have := hi.symm.trans hb
  simp at this
  exact ht this.2.1.symm
theorem same1_any (lo hi x y : Int) (bs : Nat) (b : Bool) (W : World) (hb : Boxed W bs 4 (.bool b)) :
    Calls Try.prog 41 #[.int .i64 lo, .int .i64 hi, .int .i64 x, .int .i64 y, .pointer (some ⟨bs, 0, none⟩)] W fun e W' => e = .returned (.bool (decide (x = y))) ∧ W' = W.setCell ⟨bs, 0, none⟩ (.bool (decide (x = y))) := by
  have c0 := hb.cell
  have f0 := hb.frozen
  have c1 := (hb.set (.bool (decide (x = y)))).cell
  have HA : Hid (Calls Try.prog 42 #[.int .i64 x, .int .i64 y] W fun e w' => e = .returned (.bool (decide (x = y))) ∧ w' = W) := alike_any x y W
  clear hb
  generalize decide (x = y) = d at HA c1 ⊢
  go_enter Try.func41, Try.ntmps41
  go_wp2_with (go_at_call 42; refine HA.out.mono ?_; rintro e w9 ⟨rfl, hw9⟩; rw [hw9]; clear hw9)
  go_ret
  exact ⟨rfl, rfl⟩
/-- two maps of one size -/
theorem same_any {w : World} {Ba ba Bb bb : Nat} {va vb : Value} {size : Int} {ra rb : List (Rn Int)} (ha : MO w Ba ba va size ra) (hb : MO w Bb bb vb size rb) :
    Calls Try.prog 25 #[.pointer (some ⟨ba, 0, none⟩), .pointer (some ⟨bb, 0, none⟩)] w fun e w' => e = .returned (.bool (decide (ra = rb))) ∧ Below w.heap.size w w' := by
  obtain ⟨w1, hw1⟩ : ∃ w1, w1 = (w.alloc (.cells #[.bool true] 4)).drew := ⟨_, rfl⟩
  have hB1 : Below w.heap.size w w1 := by rw [hw1]; exact below_drew ((Below.refl _ w).alloc (Nat.le_refl _) _)
  have hs1 : w1.heap.size = w.heap.size + 1 := by rw [hw1]; exact World.size_alloc w _
  have b1 : Boxed w1 w.heap.size 4 (.bool true) := by rw [hw1]; exact Boxed.new w 4 _
  have HS : Hid (Calls Try.prog 40 #[.pointer (some ⟨ba, 0, none⟩), .pointer (some ⟨bb, 0, none⟩), .func (.func 41) #[] #[.pointer (some ⟨w.heap.size, 0, none⟩)]] w1 fun e w' => ∃ v, e = .returned v ∧ w'.cell? ⟨w.heap.size, 0, none⟩ = some (.bool (decide (ra = rb))) ∧ Below w.heap.size w w') := by
    refine (side_any (ha.later hB1) (Kp := KeepR) (Fine := fun _ _ => True) (J := fun l W => (∀ st ∈ l, st.2.2.1 = st.2.2.2) ∧ (Boxed W w.heap.size 4 (.bool true) ∧ Below w.heap.size w W)) (Jx := fun l W => (∃ st ∈ l, st.2.2.1 ≠ st.2.2.2) ∧ (Boxed W w.heap.size 4 (.bool false) ∧ Below w.heap.size w W))
      (Bb := Bb) (bb := bb) (vb := vb) (rb := rb) ⟨keepsRow_R, keepR_t, keepR_put, fun W o => keepR_below ((Below.refl _ W).alloc (Nat.le_refl _) _), keepR_own, fun _ _ _ _ _ _ _ _ _ => trivial, fun _ _ _ _ _ _ _ _ _ _ => trivial, ?_, ?_, ?_, ?_, ?_⟩ ⟨by simp, b1, hB1⟩).mono ?_
    · exact fun B hB => OwnFrom.and (ownFrom_pure _ _) (OwnFrom.and (Own.from (boxed_own _ _ _) _) (ownFrom_below (Nat.le_refl _) (by omega)))
    · exact fun B hB => OwnFrom.and (ownFrom_pure _ _) (OwnFrom.and (Own.from (boxed_own _ _ _) _) (ownFrom_below (Nat.le_refl _) (by omega)))
    · exact fun l W h => hb.later h.2.2
    · intro l W h
      have := h.2.1.lt
      omega
    · rintro l lo hi x y W ⟨h1, h2, h3⟩
      refine (same1_any lo hi x y w.heap.size true W h2).mono ?_
      rintro e W' ⟨rfl, rfl⟩
      refine ⟨KeepsOthers.setCell _ _ _, fun k hk cur t fr hc _ => (Below.heap_setCell _ _ _ _ (fun e => by have e' : k = w.heap.size := e; omega)).trans hc, ?_⟩
      by_cases e : x = y
      · rw [decide_eq_true e]
        refine .inl ⟨rfl, ⟨fun st hst => ?_, h2.set _, h3.setCell (p := ⟨w.heap.size, 0, none⟩) (Nat.le_refl _) _⟩, keepR_box h2 (by decide)⟩
        rcases List.mem_append.1 hst with h | h
        · exact h1 st h
        · simp at h; subst h; exact e
      · rw [decide_eq_false e]
        exact .inr ⟨rfl, ⟨_, List.mem_append.2 (.inr (List.mem_singleton.2 rfl)), e⟩, h2.set _, h3.setCell (p := ⟨w.heap.size, 0, none⟩) (Nat.le_refl _) _⟩
    · rintro e w' ⟨⟨v, rfl⟩, ⟨h1, h2, h3⟩ | ⟨l, rest, el, ⟨st, hst, hne⟩, h2, h3⟩⟩
      · rw [decide_eq_true (side_same ha.tiles ha.alt hb.tiles hb.alt h1)]
        exact ⟨v, rfl, h2.cell, h3⟩
      · rw [decide_eq_false (side_diff ha.tiles hb.tiles (by rw [el]; exact List.mem_append_left _ hst) hne)]
        exact ⟨v, rfl, h2.cell, h3⟩
  have a0 : w.cell? ⟨ba, 0, none⟩ = some (.bool true) := ha.c 0
  have a1 : w.cell? ⟨ba, 1, none⟩ = some (.int .i64 size) := ha.c 1
  have e0 : w.cell? ⟨bb, 0, none⟩ = some (.bool true) := hb.c 0
  have e1 : w.cell? ⟨bb, 1, none⟩ = some (.int .i64 size) := hb.c 1
  clear ha hb b1 hB1
  generalize decide (ra = rb) = d at HS ⊢
  go_enter Try.func25, Try.ntmps25
  go_wp2_with (first | (go_at_call_of 33 (Value.pointer (some ⟨ba, 0, none⟩)); refine (usable_at ba true _ a0).mono ?_; rintro e w9 ⟨rfl, hw9⟩; rw [hw9]; clear hw9) | (go_at_call_of 33 (Value.pointer (some ⟨bb, 0, none⟩)); refine (usable_at bb true _ e0).mono ?_; rintro e w9 ⟨rfl, hw9⟩; rw [hw9]; clear hw9))
  go_region
  go_wp2_with (go_at_call 40; rw [← hw1]; refine HS.out.mono ?_; rintro e w8 ⟨v8, rfl, hc8, hb8⟩)
  go_ret
  exact ⟨rfl, hb8⟩
end Go.Proofs.Ytijafckdbhklmaa.I
