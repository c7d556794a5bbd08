import Derived.Test.YtpchllepboolhaazRWI
import Derived.Deep.QuietTactic
import Derived.BigQuiet
namespace Go.Proofs.Ytpchllepboolhaa.I
open Go.RowKit Go.Maps
attribute [local go_sem] Oper.semAt_some
set_option linter.unusedVariables false
set_option linter.unusedSimpArgs false
set_option maxRecDepth 100000

/-- the oldest key without a pin -/
def oldest : List Ent → Option Int
  | [] => none
  | e :: L => if e.pins = 0 then some e.key else oldest L
theorem oldest_none {L : List Ent} (h : ∀ e ∈ L, e.pins ≠ 0) : oldest L = none := by
  induction L with
  | nil => rfl
  | cons x L ih => unfold oldest; rw [if_neg (h x (by simp))]; exact ih fun e he => h e (by simp [he])
theorem oldest_at {L : List Ent} {k : Nat} {e : Ent} (h : ∀ x ∈ L.take k, x.pins ≠ 0) (he : L[k]? = some e) (hp : e.pins = 0) : oldest L = some e.key := by
  induction L generalizing k with
  | nil => simp at he
  | cons x L ih =>
    unfold oldest
    cases k with
    | zero => simp at he; subst he; rw [if_pos hp]
    | succ k =>
      rw [if_neg (h x (by simp))]
      exact ih (k := k) (fun y hy => h y (by simp [hy])) (by simpa using he)

theorem old1_free {W : World} {bo bm g : Nat} {L : List Ent} (h : RO W bo bm g L) {e : Ent} (he : e ∈ L) (hp : e.pins = 0) {b1 b2 : Nat} {k0 : Value} {f0 : Value} (hb1 : W.heap[b1]? = some (.cells #[k0] TKey (0, 0))) (hb2 : W.heap[b2]? = some (.cells #[f0] 4 (0, 0))) :
    Calls Try.prog 70 #[.pointer (some ⟨e.blk, 0, none⟩), .pointer (some ⟨b1, 0, none⟩), .pointer (some ⟨b2, 0, none⟩)] W fun r W' => r = .returned (.bool false) ∧ W' = (W.setCell ⟨b1, 0, none⟩ (kv e.key)).setCell ⟨b2, 0, none⟩ (.bool true) := by
  have hfr := h.free he
  rw [show decide (e.pins = 0) = true from decide_eq_true hp] at hfr
  obtain ⟨o, x, hpl⟩ := h.plcBlk he
  have h0 : W.cell? ⟨e.blk, 0, none⟩ = some (kv e.key) := (cell_of hpl).trans rfl
  have c1 : W.cell? ⟨b1, 0, none⟩ = some k0 := (cell_of hb1).trans rfl
  have f1 : W.frozen? ⟨b1, 0, none⟩ = false := frozen_of hb1
  have c2 : W.cell? ⟨b2, 0, none⟩ = some f0 := (cell_of hb2).trans rfl
  have f2 : W.frozen? ⟨b2, 0, none⟩ = false := frozen_of hb2
  have hne : b1 ≠ b2 := by
    intro e'; subst e'
    rw [hb1] at hb2; simp at hb2; exact absurd hb2.2 (by decide)
  have hne' : b2 ≠ b1 := fun e => hne e.symm
  clear hp h he hpl hb1 hb2
  go_enter Try.func70, Try.ntmps70
  go_wp2_with (go_at_call 71; refine hfr.mono ?_; rintro e w9 ⟨rfl, hw9⟩; rw [hw9]; clear hw9)
  go_ret
  exact ⟨rfl, rfl⟩
theorem old1_held {W : World} {bo bm g : Nat} {L : List Ent} (h : RO W bo bm g L) {e : Ent} (he : e ∈ L) (hp : e.pins ≠ 0) {b1 b2 : Nat} (hb2 : W.heap[b2]? = some (.cells #[.bool false] 4 (0, 0))) :
    Calls Try.prog 70 #[.pointer (some ⟨e.blk, 0, none⟩), .pointer (some ⟨b1, 0, none⟩), .pointer (some ⟨b2, 0, none⟩)] W fun r W' => r = .returned (.bool true) ∧ W' = W := by
  have hfr := h.free he
  rw [show decide (e.pins = 0) = false from decide_eq_false hp] at hfr
  have c2 : W.cell? ⟨b2, 0, none⟩ = some (.bool false) := (cell_of hb2).trans rfl
  have f2 : W.frozen? ⟨b2, 0, none⟩ = false := frozen_of hb2
  clear hp h he hb2
  go_enter Try.func70, Try.ntmps70
  go_wp2_with (go_at_call 71; refine hfr.mono ?_; rintro e w9 ⟨rfl, hw9⟩; rw [hw9]; clear hw9)
  go_ret
  exact ⟨rfl, rfl⟩
theorem RO.notNew {w : World} {bo bm g : Nat} {L : List Ent} (h : RO w bo bm g L) : ∀ i ∈ fp bo bm g L, i ≠ w.heap.size ∧ i ≠ w.heap.size + 1 := fun i hi => by have := h.lt i hi; omega

set_option maxHeartbeats 2000000 in
theorem oldest_any {w : World} {bo bm g : Nat} {L : List Ent} (h : RO w bo bm g L) :
    Calls Try.prog 32 #[.pointer (some ⟨bo, 0, none⟩)] w fun r w' => r = .returned (.tuple #[kv ((oldest L).getD 0), .bool (oldest L).isSome]) ∧ Below w.heap.size w w' := by
  have hmf : ∀ (fn : Fn) (first cap : Array Value) (w : World), (Instr.makeFunc fn first cap).run Try.prog w = .ok (.func fn first cap) w := fun _ _ _ _ => rfl
  have HW : Hid (∀ W0, W0 = (w.alloc (.cells #[kv 0] TKey)).alloc (.cells #[.bool false] 4) → Calls Try.prog 69 #[.pointer (some ⟨bo, 0, none⟩), .func (.func 70) #[] #[.pointer (some ⟨w.heap.size, 0, none⟩), .pointer (some ⟨w.heap.size + 1, 0, none⟩)]] W0 fun r w' => r = .returned (.tuple #[]) ∧ w'.cell? ⟨w.heap.size, 0, none⟩ = some (kv ((oldest L).getD 0)) ∧ w'.cell? ⟨w.heap.size + 1, 0, none⟩ = some (.bool (oldest L).isSome) ∧ Below w.heap.size w w') := by
    rintro W0 hW0
    have hB : Below w.heap.size w W0 := by rw [hW0]; exact ((Below.refl _ w).alloc (Nat.le_refl _) _).alloc (by rw [World.size_alloc]; omega) _
    have s1 : (w.alloc (.cells #[kv 0] TKey)).heap.size = w.heap.size + 1 := World.size_alloc _ _
    have b1 : W0.heap[w.heap.size]? = some (.cells #[kv 0] TKey (0, 0)) := by rw [hW0, Below.heap_alloc _ _ _ (by omega), heap_alloc_new]
    have b2 : W0.heap[w.heap.size + 1]? = some (.cells #[.bool false] 4 (0, 0)) := by rw [hW0, ← s1, heap_alloc_new]
    clear hW0
    refine (walk_old (h.later hB) _ _ (fun pre W => W = W0 ∧ ∀ e ∈ pre, e.pins ≠ 0) (fun pre W => ∃ e k, W = (W0.setCell ⟨w.heap.size, 0, none⟩ (kv e.key)).setCell ⟨w.heap.size + 1, 0, none⟩ (.bool true) ∧ pre = L.take (k + 1) ∧ L[k]? = some e ∧ e.pins = 0 ∧ ∀ x ∈ L.take k, x.pins ≠ 0) ⟨rfl, by simp⟩ (fun pre W hJ => by rw [hJ.1]; exact h.later hB) ?_).mono ?_
    · rintro k e W he ⟨rfl, hpre⟩
      have hm := List.mem_of_getElem? he
      by_cases hp : e.pins = 0
      · refine (old1_free (h.later hB) hm hp b1 b2).mono ?_
        rintro r W' ⟨rfl, rfl⟩
        exact .inr ⟨rfl, e, k, rfl, rfl, he, hp, hpre⟩
      · refine (old1_held (h.later hB) hm hp b2).mono ?_
        rintro r W' ⟨rfl, rfl⟩
        refine .inl ⟨rfl, rfl, fun x hx => ?_⟩
        rw [List.take_add_one, he] at hx
        rcases List.mem_append.1 hx with hx | hx
        · exact hpre x hx
        · simp at hx; subst hx; exact hp
    · rintro r w' ⟨rfl, (⟨rfl, hn⟩ | ⟨k', hk', e, k, rfl, hpre, he, hp, hn⟩)⟩
      · rw [oldest_none hn]
        exact ⟨rfl, (cell_of b1).trans rfl, (cell_of b2).trans rfl, hB⟩
      · rw [oldest_at hn he hp]
        refine ⟨rfl, ?_, ?_, ?_⟩
        · have : ((W0.setCell ⟨w.heap.size, 0, none⟩ (kv e.key)).setCell ⟨w.heap.size + 1, 0, none⟩ (.bool true)).heap[w.heap.size]? = some (.cells #[kv e.key] TKey (0, 0)) := by
            rw [heap_setCell_other _ _ _ _ (by simp), heap_setCell_same _ _ _ _ _ _ b1]; rfl
          exact (cell_of this).trans rfl
        · have h2 : (W0.setCell ⟨w.heap.size, 0, none⟩ (kv e.key)).heap[w.heap.size + 1]? = some (.cells #[.bool false] 4 (0, 0)) := by
            rw [heap_setCell_other _ _ _ _ (by simp)]; exact b2
          have : ((W0.setCell ⟨w.heap.size, 0, none⟩ (kv e.key)).setCell ⟨w.heap.size + 1, 0, none⟩ (.bool true)).heap[w.heap.size + 1]? = some (.cells #[.bool true] 4 (0, 0)) := by
            rw [heap_setCell_same _ _ _ _ _ _ h2]; rfl
          exact (cell_of this).trans rfl
        · exact (hB.setCell (Nat.le_refl _) _).setCell (by simp) _
  clear h
  go_enter Try.func32, Try.ntmps32
  go_wp2_with (go_at_call 69; refine (HW.out _ rfl).mono ?_; rintro r w1 ⟨rfl, hc1, hc2, hb⟩)
  go_region
  all_goals go_wp2
  all_goals go_ret2
  all_goals exact ⟨rfl, hb.trans ⟨rfl, rfl, rfl, Nat.le_refl _, fun _ _ => rfl⟩⟩
end Go.Proofs.Ytpchllepboolhaa.I
