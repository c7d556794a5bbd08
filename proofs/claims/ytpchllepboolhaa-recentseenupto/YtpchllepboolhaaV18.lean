import Derived.Test.YtpchllepboolhaazDC
import Derived.Test.YtpchllepboolhaaREI
namespace Go.Proofs.Ytpchllepboolhaa.D
open Go.RowKit Go.Proofs.Ytpchllepboolhaa.I
attribute [local go_sem] Oper.semAt_some
attribute [local go_sem ↓] Go.wp_at_zero Go.wp_at_succ
set_option linter.unusedVariables false
set_option linter.unusedSimpArgs false
set_option maxRecDepth 100000

theorem pin_no {w : World} {bd : Nat} {md : Bool} {v : Value} {A : List It} (h : RD w bd md v A) (k : Int) (hn : ∀ x ∈ A, x.1 ≠ k) :
    Calls Try.prog 22 #[.pointer (some ⟨bd, 0, none⟩), .int .i64 k] w fun r w' => r = .returned (.bool false) ∧ w' = w := by
  have hat := at_no h k hn
  clear h
  go_enter Try.func22, Try.ntmps22
  go_wp2_with (go_at_call 58; refine hat.mono ?_; rintro e w9 ⟨rfl, hw9⟩; rw [hw9]; clear hw9)
  go_ret
  exact ⟨rfl, rfl⟩
theorem unpin_no {w : World} {bd : Nat} {md : Bool} {v : Value} {A : List It} (h : RD w bd md v A) (k : Int) (hn : ∀ x ∈ A, x.1 ≠ k) :
    Calls Try.prog 24 #[.pointer (some ⟨bd, 0, none⟩), .int .i64 k] w fun r w' => r = .returned (.bool false) ∧ w' = w := by
  have hat := at_no h k hn
  clear h
  go_enter Try.func24, Try.ntmps24
  go_wp2_with (go_at_call 58; refine hat.mono ?_; rintro e w9 ⟨rfl, hw9⟩; rw [hw9]; clear hw9)
  go_ret
  exact ⟨rfl, rfl⟩
theorem mid_get {A1 A2 : List It} {x : It} : (A1 ++ x :: A2)[A1.length]? = some x := by rw [List.getElem?_append_right (Nat.le_refl _)]; simp
theorem pin_full {w : World} {bd : Nat} {md : Bool} {v : Value} {A1 A2 : List It} {k : Int} {p : Nat} (h : RD w bd md v (A1 ++ (k, p) :: A2)) (hn : ∀ x ∈ A1, x.1 ≠ k) (hp : 2147483647 ≤ p) :
    Calls Try.prog 22 #[.pointer (some ⟨bd, 0, none⟩), .int .i64 k] w fun r w' => r = .returned (.bool false) ∧ w' = w := by
  have hat := at_in h hn
  have hc1 := h.c1
  obtain ⟨ao, cap, rfl, ht⟩ := trow_of h.row
  obtain ⟨b, rfl, c0, c1, _⟩ := ht.c _ _ mid_get
  have hl := h.len
  have hq : (A1.length : Int) < ((A1 ++ (k, p) :: A2).length : Int) := by simp; omega
  have hq0 : (0 : Int) ≤ (A1.length : Int) := by omega
  have hd : decide ((p : Int) < 2147483647) = false := decide_eq_false (by omega)
  have hd2 : decide ((2147483647 : Int) ≤ (p : Int)) = true := decide_eq_true (by omega)
  simp only at c1
  generalize (A1 ++ (k, p) :: A2).length = m at *
  generalize A1.length = q at *
  generalize (p : Int) = x at *
  clear h hn ht hl hp
  go_enter Try.func22, Try.ntmps22
  go_wp2_with (go_at_call 58; refine hat.mono ?_; rintro e w9 ⟨rfl, hw9⟩; rw [hw9]; clear hw9)
  go_ret
  exact ⟨rfl, rfl⟩
theorem unpin_zero {w : World} {bd : Nat} {md : Bool} {v : Value} {A1 A2 : List It} {k : Int} (h : RD w bd md v (A1 ++ (k, 0) :: A2)) (hn : ∀ x ∈ A1, x.1 ≠ k) :
    Calls Try.prog 24 #[.pointer (some ⟨bd, 0, none⟩), .int .i64 k] w fun r w' => r = .returned (.bool false) ∧ w' = w := by
  have hat := at_in h hn
  have hc1 := h.c1
  obtain ⟨ao, cap, rfl, ht⟩ := trow_of h.row
  obtain ⟨b, rfl, c0, c1, _⟩ := ht.c _ _ mid_get
  have hq : (A1.length : Int) < ((A1 ++ (k, 0) :: A2).length : Int) := by simp; omega
  have hq0 : (0 : Int) ≤ (A1.length : Int) := by omega
  have c1' : w.cell? ⟨b, A1.length * 2 + 1, none⟩ = some (.int .i64 0) := c1
  generalize (A1 ++ (k, 0) :: A2).length = m at *
  generalize A1.length = q at *
  clear h hn ht c1
  go_enter Try.func24, Try.ntmps24
  go_wp2_with (go_at_call 58; refine hat.mono ?_; rintro e w9 ⟨rfl, hw9⟩; rw [hw9]; clear hw9)
  go_ret
  exact ⟨rfl, rfl⟩
theorem icells_len2 (A1 A2 : List It) (k : Int) (p : Nat) : icells (A1 ++ (k, p) :: A2) = icells A1 ++ [.int .i64 k, .int .i64 p] ++ icells A2 := by
  rw [icells_append]
  simp [icells, icell]
/-- an item's pins are set -/
theorem rd_pins {w : World} {bd : Nat} {md : Bool} {A1 A2 : List It} {k : Int} {p m cap b : Nat} (h : RD w bd md (.slice (some ⟨b, 0, none⟩) m cap) (A1 ++ (k, p) :: A2)) (p' : Nat) (hp : p' ≤ 2147483647) :
    DAct w (w.setCell ⟨b, A1.length * 2 + 1, none⟩ (.int .i64 p')) bd md (.slice (some ⟨b, 0, none⟩) m cap) (.slice (some ⟨b, 0, none⟩) m cap) (A1 ++ (k, p') :: A2) := by
  rcases h.row.2 with ⟨h0, _⟩ | ⟨g, cap', cur, hv, hb, hg, hc, hmx, hsz, ht⟩
  · cases h0
  · simp only [Value.slice.injEq, Option.some.injEq, Addr.mk.injEq, and_true, true_and] at hv
    obtain ⟨rfl, hm, rfl⟩ := hv
    have hne : bd ≠ b := by
      rintro rfl
      have := h.blk.symm.trans hg
      simp at this
      exact absurd this.2 (by decide)
    refine ⟨⟨?_, ⟨?_, .inr ⟨b, cap, cur.setIfInBounds (A1.length * 2 + 1) (.int .i64 p'), ?_, hb, ?_, ?_, hmx, ?_, ?_⟩⟩, ?_, ?_⟩, ?_, fun i hi => .inl hi⟩
    · rw [heap_setCell_other _ _ _ _ hne]; exact h.blk
    · rw [icells_length]
    · rw [hm]; simp
    · rw [heap_setCell_same _ _ _ _ _ _ hg]
    · simpa using hc
    · simpa using hsz
    · have hl1 := icells_length A1
      have e1 : (A1 ++ (k, p) :: A2).length = (A1 ++ (k, p') :: A2).length := by simp
      rw [e1, icells_len2] at ht
      rw [icells_len2, Array.toList_setIfInBounds, List.take_set, ht, List.append_assoc, List.set_append_right _ _ (by omega), hl1, List.append_assoc]
      rw [show A1.length * 2 + 1 - A1.length * 2 = 1 by omega]
      rfl
    · intro x hx
      rcases List.mem_append.1 hx with hx | hx
      · exact h.pm x (by simp [hx])
      · rcases List.mem_cons.1 hx with rfl | hx
        · exact hp
        · exact h.pm x (by simp [hx])
    · have := h.len; simpa using this
    · exact (Kp.refl w _).set (.inl (by simp [fpd, Value.ownBlock])) _
end Go.Proofs.Ytpchllepboolhaa.D

namespace Go.Proofs.Ytpchllepboolhaa.D
open Go.RowKit Go.Proofs.Ytpchllepboolhaa.I
attribute [local go_sem] Oper.semAt_some
attribute [local go_sem ↓] Go.wp_at_zero Go.wp_at_succ
set_option linter.unusedVariables false
set_option linter.unusedSimpArgs false
set_option maxRecDepth 100000

theorem DAct.kdrew {w w' : World} {bd : Nat} {md : Bool} {v v' : Value} {A' : List It} (h : DAct w w' bd md v v' A') : DAct w w'.drew bd md v v' A' := ⟨⟨h.rd.blk, h.rd.row, h.rd.pm, h.rd.len⟩, h.kp.drew, h.sub⟩
set_option maxHeartbeats 4000000 in
theorem pin_any {w : World} {bd : Nat} {md : Bool} {v : Value} {A1 A2 : List It} {k : Int} {p : Nat} (h : RD w bd md v (A1 ++ (k, p) :: A2)) (hn : ∀ x ∈ A1, x.1 ≠ k) (hp : p < 2147483647) :
    Calls Try.prog 22 #[.pointer (some ⟨bd, 0, none⟩), .int .i64 k] w fun r w' => r = .returned (.bool true) ∧ DAct w w' bd md v v (A1 ++ (k, p + 1) :: A2) := by
  have hat := at_in h hn
  have hc1 := h.c1
  obtain ⟨ao, cap, rfl, ht⟩ := trow_of h.row
  obtain ⟨b, rfl, c0, c1, f1⟩ := ht.c _ _ mid_get
  have hq : (A1.length : Int) < ((A1 ++ (k, p) :: A2).length : Int) := by simp; omega
  have hq0 : (0 : Int) ≤ (A1.length : Int) := by omega
  have c1' : w.cell? ⟨b, A1.length * 2 + 1, none⟩ = some (.int .i64 p) := c1
  have HA : Hid (DAct w (w.setCell ⟨b, A1.length * 2 + 1, none⟩ (.int .i64 ((p : Int) + 1))) bd md (.slice (some ⟨b, 0, none⟩) (A1 ++ (k, p) :: A2).length cap) (.slice (some ⟨b, 0, none⟩) (A1 ++ (k, p) :: A2).length cap) (A1 ++ (k, p + 1) :: A2)) := rd_pins h (p + 1) (by omega)
  have hx1 : (p : Int) < 2147483647 := by omega
  have hx0 : (0 : Int) ≤ (p : Int) := by omega
  generalize (A1 ++ (k, p) :: A2).length = m at *
  generalize A1.length = q at *
  generalize (p : Int) = x at *
  clear h hn ht c1 hp
  go_enter Try.func22, Try.ntmps22
  go_wp2_with (go_at_call 58; refine hat.mono ?_; rintro e w9 ⟨rfl, hw9⟩; rw [hw9]; clear hw9)
  go_region
  all_goals go_wp2
  all_goals go_ret
  all_goals exact ⟨rfl, HA.out.kdrew⟩
set_option maxHeartbeats 4000000 in
theorem unpin_any {w : World} {bd : Nat} {md : Bool} {v : Value} {A1 A2 : List It} {k : Int} {p : Nat} (h : RD w bd md v (A1 ++ (k, p) :: A2)) (hn : ∀ x ∈ A1, x.1 ≠ k) (hp : p ≠ 0) :
    Calls Try.prog 24 #[.pointer (some ⟨bd, 0, none⟩), .int .i64 k] w fun r w' => r = .returned (.bool true) ∧ DAct w w' bd md v v (A1 ++ (k, p - 1) :: A2) := by
  have hat := at_in h hn
  have hc1 := h.c1
  obtain ⟨ao, cap, rfl, ht⟩ := trow_of h.row
  obtain ⟨b, rfl, c0, c1, f1⟩ := ht.c _ _ mid_get
  have hq : (A1.length : Int) < ((A1 ++ (k, p) :: A2).length : Int) := by simp; omega
  have hq0 : (0 : Int) ≤ (A1.length : Int) := by omega
  have c1' : w.cell? ⟨b, A1.length * 2 + 1, none⟩ = some (.int .i64 p) := c1
  have HA : Hid (DAct w (w.setCell ⟨b, A1.length * 2 + 1, none⟩ (.int .i64 ((p : Int) - 1))) bd md (.slice (some ⟨b, 0, none⟩) (A1 ++ (k, p) :: A2).length cap) (.slice (some ⟨b, 0, none⟩) (A1 ++ (k, p) :: A2).length cap) (A1 ++ (k, p - 1) :: A2)) := by
    have h0 := rd_pins h (p - 1) (by have := h.pm (k, p) (by simp); simp at this; omega)
    rw [show ((p - 1 : Nat) : Int) = (p : Int) - 1 by omega] at h0
    exact h0
  have hx1 : (p : Int) ≤ 2147483647 := by have := h.pm (k, p) (by simp); simp at this; omega
  have hx0 : (0 : Int) < (p : Int) := by omega
  have hxz : ((p : Int) == 0) = false := by simpa using hp
  generalize (A1 ++ (k, p) :: A2).length = m at *
  generalize A1.length = q at *
  generalize (p : Int) = x at *
  clear h hn ht c1 hp
  go_enter Try.func24, Try.ntmps24
  go_wp2_with (go_at_call 58; refine hat.mono ?_; rintro e w9 ⟨rfl, hw9⟩; rw [hw9]; clear hw9)
  go_region
  all_goals go_wp2
  all_goals go_ret
  all_goals exact ⟨rfl, HA.out.kdrew⟩
end Go.Proofs.Ytpchllepboolhaa.D
