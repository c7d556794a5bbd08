import Derived.Test.YtpchllepboolhaaRCI
namespace Go.Proofs.Ytpchllepboolhaa.I
open Go.RowKit Go.Maps
attribute [local go_sem] Oper.semAt_some
set_option linter.unusedVariables false
set_option linter.unusedSimpArgs false
set_option maxRecDepth 100000

theorem unpin_no {w : World} {bo bm g : Nat} {L : List Ent} (h : RO w bo bm g L) {k : Int} (hk : wfK k) (hn : ∀ e ∈ L, e.key ≠ k) :
    Calls Try.prog 43 #[.pointer (some ⟨bo, 0, none⟩), kv k] w fun r w' => r = .returned (.bool false) ∧ w' = w := by
  have hf := no_find h hk hn
  go_enter Try.func43, Try.ntmps43
  go_wp2_with (go_at_call 65; refine hf.mono ?_; rintro e w9 ⟨rfl, hw9⟩; rw [hw9]; clear hw9)
  go_ret
  exact ⟨rfl, rfl⟩
theorem unpin_zero {w : World} {bo bm g : Nat} {L : List Ent} (h : RO w bo bm g L) {e : Ent} (he : e ∈ L) (hp : e.pins = 0) :
    Calls Try.prog 43 #[.pointer (some ⟨bo, 0, none⟩), kv e.key] w fun r w' => r = .returned (.bool false) ∧ w' = w := by
  have hf := the_find h he
  have hfr := h.free he
  rw [show decide (e.pins = 0) = true from decide_eq_true hp] at hfr
  clear hp
  go_enter Try.func43, Try.ntmps43
  go_wp2_with (first | (go_at_call 65; refine hf.mono ?_; rintro e w9 ⟨rfl, hw9⟩; rw [hw9]; clear hw9) | (go_at_call 71; refine hfr.mono ?_; rintro e w9 ⟨rfl, hw9⟩; rw [hw9]; clear hw9))
  go_ret
  exact ⟨rfl, rfl⟩
theorem unpin_any {w : World} {bo bm g : Nat} {L1 L2 : List Ent} {e : Ent} (h : RO w bo bm g (L1 ++ e :: L2)) (hp : e.pins ≠ 0) :
    Calls Try.prog 43 #[.pointer (some ⟨bo, 0, none⟩), kv e.key] w fun r w' => r = .returned (.bool true) ∧ Act w w' bo bm g (L1 ++ e :: L2) (L1 ++ ⟨e.key, e.pins - 1, e.blk⟩ :: L2) := by
  have hf := the_find h (e := e) (by simp)
  have hfr := h.free (e := e) (by simp)
  rw [show decide (e.pins = 0) = false from decide_eq_false hp] at hfr
  obtain ⟨hc, hz⟩ := h.pinCell (e := e) (by simp)
  have hpm := h.pm e (by simp)
  have HS : Hid (Act w (w.setCell ⟨e.blk, 1, none⟩ (.int .i64 ((e.pins : Int) - 1))) bo bm g (L1 ++ e :: L2) (L1 ++ ⟨e.key, e.pins - 1, e.blk⟩ :: L2)) := by
    have := h.setPins (e.pins - 1) (by omega)
    rw [show ((e.pins - 1 : Nat) : Int) = (e.pins : Int) - 1 by omega] at this
    exact this
  have hp1 : 0 < (e.pins : Int) := by omega
  have hp2 : (e.pins : Int) ≤ 2147483647 := by omega
  clear h hp hpm
  generalize (e.pins : Int) = x at hc hp1 hp2 HS
  go_enter Try.func43, Try.ntmps43
  go_wp2_with (first | (go_at_call 65; refine hf.mono ?_; rintro e w9 ⟨rfl, hw9⟩; rw [hw9]; clear hw9) | (go_at_call 71; refine hfr.mono ?_; rintro e w9 ⟨rfl, hw9⟩; rw [hw9]; clear hw9))
  go_ret
  exact ⟨rfl, HS.out⟩
theorem has_no {w : World} {bo bm g : Nat} {L : List Ent} (h : RO w bo bm g L) {k : Int} (hk : wfK k) (hn : ∀ e ∈ L, e.key ≠ k) :
    Calls Try.prog 40 #[.pointer (some ⟨bo, 0, none⟩), kv k] w fun r w' => r = .returned (.bool false) ∧ w' = w := by
  have hf := no_find h hk hn
  go_enter Try.func40, Try.ntmps40
  go_wp2_with (go_at_call 65; refine hf.mono ?_; rintro e w9 ⟨rfl, hw9⟩; rw [hw9]; clear hw9)
  go_ret
  exact ⟨rfl, rfl⟩
theorem has_any {w : World} {bo bm g : Nat} {L : List Ent} (h : RO w bo bm g L) {e : Ent} (he : e ∈ L) :
    Calls Try.prog 40 #[.pointer (some ⟨bo, 0, none⟩), kv e.key] w fun r w' => r = .returned (.bool true) ∧ w' = w := by
  have hf := the_find h he
  go_enter Try.func40, Try.ntmps40
  go_wp2_with (go_at_call 65; refine hf.mono ?_; rintro e w9 ⟨rfl, hw9⟩; rw [hw9]; clear hw9)
  go_ret
  exact ⟨rfl, rfl⟩
end Go.Proofs.Ytpchllepboolhaa.I
