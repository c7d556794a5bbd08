import Derived.Test.YtijafckdbhklmaaYW
namespace Go.Proofs.Ytijafckdbhklmaa.I
open Go.RowKit Go.Sort Go.Lib Go.Shelf Classical
attribute [local go_sem] Oper.semAt_some
set_option linter.unusedVariables false
set_option linter.unusedSimpArgs false
set_option maxRecDepth 100000

set_option maxHeartbeats 4000000 in
theorem lawCut_bad (size first lo mid hi v : Int) (ao : Option Addr) (n cap : Nat) (w : World) (h : size < 0 ∨ 1099511627776 < size) :
    Calls Try.prog 5 #[.int .i64 size, .int .i64 first, .slice ao n cap, .int .i64 lo, .int .i64 mid, .int .i64 hi, .int .i64 v] w fun e w' => e = .returned (.bool true) ∧ Below w.heap.size w w' := by
  have HL : Hid (∀ W, Calls Try.prog 19 #[.int .i64 size, .int .i64 first, .slice ao n cap] W fun e w' => e = .returned (.pointer none) ∧ w' = W) := fun W => laid_bad size first _ W h
  have HS : Hid (∀ W, Calls Try.prog 20 #[.int .i64 size] W fun e w' => e = .returned (.bool false) ∧ w' = W) := fun W => sized_no size W h
  have HA : Hid (∀ W, Calls Try.prog 18 #[] W fun e w' => e = .returned (.bool true) ∧ Below W.heap.size W w') := alive_any
  clear h
  go_enter Try.func5, Try.ntmps5
  go_big_wp2_with (first | (go_at_call 19; refine (HL.out _).mono ?_; rintro e w9 ⟨rfl, hw9⟩; rw [hw9]; clear hw9) | (go_at_call 20; refine (HS.out _).mono ?_; rintro e w9 ⟨rfl, hw9⟩; rw [hw9]; clear hw9) | (go_at_call 18; refine (HA.out _).mono ?_; rintro e w8 ⟨rfl, hb8⟩))
  go_ret
  exact ⟨rfl, hb8⟩

set_option maxHeartbeats 4000000 in
theorem lawCut_range (size first lo mid hi v : Int) (ao : Option Addr) (n cap : Nat) (l : List Put) (w : World) (HL : Hid (n = l.length)) (hn : n ≤ 9223372036854775807) (HR : Hid (Puts w ao l)) (h0 : 0 ≤ size) (h1 : size ≤ 1099511627776) (hr : lo < 0 ∨ mid < lo ∨ hi < mid ∨ size < hi) :
    Calls Try.prog 5 #[.int .i64 size, .int .i64 first, .slice ao n cap, .int .i64 lo, .int .i64 mid, .int .i64 hi, .int .i64 v] w fun e w' => e = .returned (.bool true) ∧ Below w.heap.size w w' := by
  have H1 : Hid (∀ W, Below w.heap.size w W → Calls Try.prog 19 #[.int .i64 size, .int .i64 first, .slice ao n cap] W fun e w' => ∃ bm, e = .returned (.pointer (some ⟨bm, 0, none⟩)) ∧ Below w.heap.size w w') := fun W hW => (laid_any size first ao n cap l W HL hn (HR.out.later hW) h0 h1).mono fun e w' ⟨bm, v, he, _, hb⟩ => ⟨bm, he, hW.trans (hb.mono hW.size)⟩
  have HS : Hid (∀ W, Calls Try.prog 20 #[.int .i64 size] W fun e w' => e = .returned (.bool true) ∧ w' = W) := fun W => sized_yes size W h0 h1
  have HA : Hid (∀ W, Below w.heap.size w W → Calls Try.prog 18 #[] W fun e w' => e = .returned (.bool true) ∧ Below w.heap.size w w') := fun W hW => (alive_any W).mono fun e w' ⟨he, hb⟩ => ⟨he, hW.trans (hb.mono hW.size)⟩
  have hw0 : Below w.heap.size w w := Below.refl _ _
  clear HL hn HR h0 h1
  have hr2 : decide (lo < 0) = true ∨ (decide (lo < 0) = false ∧ decide (mid < lo) = true) ∨ (decide (lo < 0) = false ∧ decide (mid < lo) = false ∧ decide (hi < mid) = true) ∨ (decide (lo < 0) = false ∧ decide (mid < lo) = false ∧ decide (hi < mid) = false ∧ decide (size < hi) = true) := by
    by_cases q1 : lo < 0
    · exact .inl (decide_eq_true q1)
    · by_cases q2 : mid < lo
      · exact .inr (.inl ⟨decide_eq_false q1, decide_eq_true q2⟩)
      · by_cases q3 : hi < mid
        · exact .inr (.inr (.inl ⟨decide_eq_false q1, decide_eq_false q2, decide_eq_true q3⟩))
        · exact .inr (.inr (.inr ⟨decide_eq_false q1, decide_eq_false q2, decide_eq_false q3, decide_eq_true (by omega)⟩))
  clear hr
  rcases hr2 with d1 | ⟨d1, d2⟩ | ⟨d1, d2, d3⟩ | ⟨d1, d2, d3, d4⟩
  all_goals
    go_enter Try.func5, Try.ntmps5
    go_big_wp2_with (first | (go_at_call 19; refine (H1.out _ hw1).mono ?_; rintro e w2 ⟨b2, rfl, hw2⟩) | (go_at_call 19; refine (H1.out _ hw0).mono ?_; rintro e w1 ⟨b1, rfl, hw1⟩) | (go_at_call 20; refine (HS.out _).mono ?_; rintro e w9 ⟨rfl, hw9⟩; rw [hw9]; clear hw9) | (go_at_call 18; refine (HA.out _ hw2).mono ?_; rintro e w8 ⟨rfl, hb8⟩))
    go_ret
    exact ⟨rfl, hb8⟩

end Go.Proofs.Ytijafckdbhklmaa.I
