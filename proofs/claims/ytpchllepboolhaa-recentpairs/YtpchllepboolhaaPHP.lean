import Derived.Test.YtpchllepboolhaaPCP
namespace Go.Proofs.Ytpchllepboolhaa.P
open Go.RowKit Go.Maps
attribute [local go_sem] Oper.semAt_some
set_option linter.unusedVariables false
set_option linter.unusedSimpArgs false
set_option maxRecDepth 100000

theorem unpin_no {w : World} {bo bm g : Nat} {L : List Ent} (h : RO w bo bm g L) {k : PK} (hn : ∀ e ∈ L, e.key ≠ k) :
    Calls Try.prog 23 #[.pointer (some ⟨bo, 0, none⟩), kv k] w fun r w' => r = .returned (.bool false) ∧ Below w.heap.size w w' := by
  have hf := no_find h hn
  obtain ⟨x0, x1⟩ := box_key w k
  clear h hn
  go_enter Try.func23, Try.ntmps23
  go_wp2_with (go_at_call 56; refine hf.mono ?_; rintro r9 w9 ⟨rfl, hb9⟩; have HB9 : Hid (Below w.heap.size w w9) := hb9; clear hb9)
  go_ret
  exact ⟨rfl, HB9.out⟩
theorem unpin_zero {w : World} {bo bm g : Nat} {L : List Ent} (h : RO w bo bm g L) {e : Ent} (he : e ∈ L) (hp : e.pins = 0) :
    Calls Try.prog 23 #[.pointer (some ⟨bo, 0, none⟩), kv e.key] w fun r w' => r = .returned (.bool false) ∧ Below w.heap.size w w' := by
  have hf := the_find h he
  obtain ⟨x0, x1⟩ := box_key w e.key
  have HFr : Hid (∀ X, Below w.heap.size w X → Calls Try.prog 61 #[.pointer (some ⟨e.blk, 0, none⟩)] X fun r w' => r = .returned (.bool true) ∧ w' = X) := fun X hX => by
    have := (h.later hX).free he
    rw [show decide (e.pins = 0) = true from decide_eq_true hp] at this
    exact this
  clear hp h he
  go_enter Try.func23, Try.ntmps23
  go_wp2_with (first | (go_at_call 56; refine hf.mono ?_; rintro r9 w9 ⟨rfl, hb9⟩; have HB9 : Hid (Below w.heap.size w w9) := hb9; clear hb9) | (go_at_call 61; refine (HFr.out w9 HB9.out).mono ?_; rintro r8 w8 ⟨rfl, hw8⟩; rw [hw8]; clear hw8))
  go_ret
  exact ⟨rfl, HB9.out⟩
theorem unpin_any {w : World} {bo bm g : Nat} {L1 L2 : List Ent} {e : Ent} (h : RO w bo bm g (L1 ++ e :: L2)) (hp : e.pins ≠ 0) :
    Calls Try.prog 23 #[.pointer (some ⟨bo, 0, none⟩), kv e.key] w fun r w' => r = .returned (.bool true) ∧ Act w w' bo bm g (L1 ++ e :: L2) (L1 ++ ⟨e.key, e.pins - 1, e.blk⟩ :: L2) := by
  have hf := the_find h (e := e) (by simp)
  obtain ⟨x0, x1⟩ := box_key w e.key
  have HFr : Hid (∀ X, Below w.heap.size w X → Calls Try.prog 61 #[.pointer (some ⟨e.blk, 0, none⟩)] X fun r w' => r = .returned (.bool false) ∧ w' = X) := fun X hX => by
    have := (h.later hX).free (e := e) (by simp)
    rw [show decide (e.pins = 0) = false from decide_eq_false hp] at this
    exact this
  have HC : Hid (∀ X, Below w.heap.size w X → X.cell? ⟨e.blk, 2, none⟩ = some (.int .i64 e.pins) ∧ X.frozen? ⟨e.blk, 2, none⟩ = false) := fun X hX => (h.later hX).pinCell (e := e) (by simp)
  have hpm := h.pm e (by simp)
  have HS : Hid (∀ X, Below w.heap.size w X → Act w (X.setCell ⟨e.blk, 2, none⟩ (.int .i64 ((e.pins : Int) - 1))) bo bm g (L1 ++ e :: L2) (L1 ++ ⟨e.key, e.pins - 1, e.blk⟩ :: L2)) := fun X hX => by
    have := (h.later hX).setPins (e.pins - 1) (by omega)
    rw [show ((e.pins - 1 : Nat) : Int) = (e.pins : Int) - 1 by omega] at this
    exact this.from_later hX
  have hp1 : 0 < (e.pins : Int) := by omega
  have hp2 : (e.pins : Int) ≤ 2147483647 := by omega
  clear h hp hpm
  generalize (e.pins : Int) = x at HC hp1 hp2 HS
  go_enter Try.func23, Try.ntmps23
  go_wp2_with (first | (go_at_call 56; refine hf.mono ?_; rintro r9 w9 ⟨rfl, hb9⟩; have HB9 : Hid (Below w.heap.size w w9) := hb9; have hc := (HC.out w9 hb9).1; have hz := (HC.out w9 hb9).2; clear hb9) | (go_at_call 61; refine (HFr.out w9 HB9.out).mono ?_; rintro r8 w8 ⟨rfl, hw8⟩; rw [hw8]; clear hw8))
  go_ret
  exact ⟨rfl, HS.out w9 HB9.out⟩
theorem has_no {w : World} {bo bm g : Nat} {L : List Ent} (h : RO w bo bm g L) {k : PK} (hn : ∀ e ∈ L, e.key ≠ k) :
    Calls Try.prog 25 #[.pointer (some ⟨bo, 0, none⟩), kv k] w fun r w' => r = .returned (.bool false) ∧ Below w.heap.size w w' := by
  have hf := no_find h hn
  obtain ⟨x0, x1⟩ := box_key w k
  clear h hn
  go_enter Try.func25, Try.ntmps25
  go_wp2_with (go_at_call 56; refine hf.mono ?_; rintro r9 w9 ⟨rfl, hb9⟩; have HB9 : Hid (Below w.heap.size w w9) := hb9; clear hb9)
  go_ret
  exact ⟨rfl, HB9.out⟩
theorem has_any {w : World} {bo bm g : Nat} {L : List Ent} (h : RO w bo bm g L) {e : Ent} (he : e ∈ L) :
    Calls Try.prog 25 #[.pointer (some ⟨bo, 0, none⟩), kv e.key] w fun r w' => r = .returned (.bool true) ∧ Below w.heap.size w w' := by
  have hf := the_find h he
  obtain ⟨x0, x1⟩ := box_key w e.key
  clear h he
  go_enter Try.func25, Try.ntmps25
  go_wp2_with (go_at_call 56; refine hf.mono ?_; rintro r9 w9 ⟨rfl, hb9⟩; have HB9 : Hid (Below w.heap.size w w9) := hb9; clear hb9)
  go_ret
  exact ⟨rfl, HB9.out⟩
end Go.Proofs.Ytpchllepboolhaa.P
