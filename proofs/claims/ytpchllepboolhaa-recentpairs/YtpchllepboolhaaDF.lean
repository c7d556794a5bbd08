import Derived.Test.YtpchllepboolhaaDE
import Derived.Test.YtpchllepboolhaaREI
namespace Go.Proofs.Ytpchllepboolhaa.D
open Go.RowKit Go.Proofs.Ytpchllepboolhaa.I
attribute [local go_sem] Oper.semAt_some
attribute [local go_sem ↓] Go.wp_at_zero Go.wp_at_succ
set_option linter.unusedVariables false
set_option linter.unusedSimpArgs false
set_option maxRecDepth 100000

theorem DAct.kdrew {w w' : World} {bd : Nat} {md : Bool} {v v' : Value} {A' : List It} (h : DAct w w' bd md v v' A') : DAct w w'.drew bd md v v' A' := ⟨⟨h.rd.blk, h.rd.row, h.rd.pm, h.rd.len⟩, h.kp.drew, h.sub⟩
set_option maxHeartbeats 4000000 in
theorem pin_any {w : World} {bd : Nat} {md : Bool} {v : Value} {A1 A2 : List It} {k : Int} {p : Nat} (h : RD w bd md v (A1 ++ (k, p) :: A2)) (hn : ∀ x ∈ A1, x.1 ≠ k) (hp : p < 2147483647) :
    Calls Try.prog 22 #[.pointer (some ⟨bd, 0, none⟩), .int .i64 k] w fun r w' => r = .returned (.bool true) ∧ DAct w w' bd md v v (A1 ++ (k, p + 1) :: A2) := by
  have hat := at_in h hn
  have hc1 := h.c1
  obtain ⟨ao, cap, rfl, ht⟩ := trow_of h.row
  obtain ⟨b, rfl, c0, c1, f1⟩ := ht.c _ _ mid_get
  have hq : (A1.length : Int) < ((A1 ++ (k, p) :: A2).length : Int) := by simp; omega
  have hq0 : (0 : Int) ≤ (A1.length : Int) := by omega
  have c1' : w.cell? ⟨b, A1.length * 2 + 1, none⟩ = some (.int .i64 p) := c1
  have HA : Hid (DAct w (w.setCell ⟨b, A1.length * 2 + 1, none⟩ (.int .i64 ((p : Int) + 1))) bd md (.slice (some ⟨b, 0, none⟩) (A1 ++ (k, p) :: A2).length cap) (.slice (some ⟨b, 0, none⟩) (A1 ++ (k, p) :: A2).length cap) (A1 ++ (k, p + 1) :: A2)) := rd_pins h (p + 1) (by omega)
  have hx1 : (p : Int) < 2147483647 := by omega
  have hx0 : (0 : Int) ≤ (p : Int) := by omega
  generalize (A1 ++ (k, p) :: A2).length = m at *
  generalize A1.length = q at *
  generalize (p : Int) = x at *
  clear h hn ht c1 hp
  go_enter Try.func22, Try.ntmps22
  go_wp2_with (go_at_call 58; refine hat.mono ?_; rintro e w9 ⟨rfl, hw9⟩; rw [hw9]; clear hw9)
  go_region
  all_goals go_wp2
  all_goals go_ret
  all_goals exact ⟨rfl, HA.out.kdrew⟩
set_option maxHeartbeats 4000000 in
theorem unpin_any {w : World} {bd : Nat} {md : Bool} {v : Value} {A1 A2 : List It} {k : Int} {p : Nat} (h : RD w bd md v (A1 ++ (k, p) :: A2)) (hn : ∀ x ∈ A1, x.1 ≠ k) (hp : p ≠ 0) :
    Calls Try.prog 24 #[.pointer (some ⟨bd, 0, none⟩), .int .i64 k] w fun r w' => r = .returned (.bool true) ∧ DAct w w' bd md v v (A1 ++ (k, p - 1) :: A2) := by
  have hat := at_in h hn
  have hc1 := h.c1
  obtain ⟨ao, cap, rfl, ht⟩ := trow_of h.row
  obtain ⟨b, rfl, c0, c1, f1⟩ := ht.c _ _ mid_get
  have hq : (A1.length : Int) < ((A1 ++ (k, p) :: A2).length : Int) := by simp; omega
  have hq0 : (0 : Int) ≤ (A1.length : Int) := by omega
  have c1' : w.cell? ⟨b, A1.length * 2 + 1, none⟩ = some (.int .i64 p) := c1
  have HA : Hid (DAct w (w.setCell ⟨b, A1.length * 2 + 1, none⟩ (.int .i64 ((p : Int) - 1))) bd md (.slice (some ⟨b, 0, none⟩) (A1 ++ (k, p) :: A2).length cap) (.slice (some ⟨b, 0, none⟩) (A1 ++ (k, p) :: A2).length cap) (A1 ++ (k, p - 1) :: A2)) := by
    have h0 := rd_pins h (p - 1) (by have := h.pm (k, p) (by simp); simp at this; omega)
    rw [show ((p - 1 : Nat) : Int) = (p : Int) - 1 by omega] at h0
    exact h0
  have hx1 : (p : Int) ≤ 2147483647 := by have := h.pm (k, p) (by simp); simp at this; omega
  have hx0 : (0 : Int) < (p : Int) := by omega
  have hxz : ((p : Int) == 0) = false := by simpa using hp
  generalize (A1 ++ (k, p) :: A2).length = m at *
  generalize A1.length = q at *
  generalize (p : Int) = x at *
  clear h hn ht c1 hp
  go_enter Try.func24, Try.ntmps24
  go_wp2_with (go_at_call 58; refine hat.mono ?_; rintro e w9 ⟨rfl, hw9⟩; rw [hw9]; clear hw9)
  go_region
  all_goals go_wp2
  all_goals go_ret
  all_goals exact ⟨rfl, HA.out.kdrew⟩
end Go.Proofs.Ytpchllepboolhaa.D
