import Derived.Test.YtijafckdbhklmaaYW
namespace Go.Proofs.Ytijafckdbhklmaa.I
open Go.RowKit Go.Sort Go.Lib Go.Shelf Classical
attribute [local go_sem] Oper.semAt_some
set_option linter.unusedVariables false
set_option linter.unusedSimpArgs false
set_option maxRecDepth 100000

set_option maxHeartbeats 8000000 in
theorem lawCut_eq (size first lo mid hi v : Int) (ao : Option Addr) (n cap : Nat) (l : List Put) (w : World) (HL : Hid (n = l.length)) (hn : n ≤ 9223372036854775807) (HR : Hid (Puts w ao l)) (h1 : size ≤ 1099511627776) (q1 : 0 ≤ lo) (q2 : lo ≤ mid) (q3 : mid ≤ hi) (q4 : hi ≤ size) (hlt : lo = hi) :
    Calls Try.prog 5 #[.int .i64 size, .int .i64 first, .slice ao n cap, .int .i64 lo, .int .i64 mid, .int .i64 hi, .int .i64 v] w fun e w' => e = .returned (.bool true) ∧ Below w.heap.size w w' := by
  have h0 : 0 ≤ size := by omega
  obtain ⟨R, hR⟩ : ∃ R, R = runsL size first l := ⟨_, rfl⟩
  obtain ⟨sT, sA, _⟩ := runsL_spec size first h0 l
  rw [← hR] at sT sA
  have H1 : Hid (Calls Try.prog 19 #[.int .i64 size, .int .i64 first, .slice ao n cap] w fun e w' => ∃ bm v, e = .returned (.pointer (some ⟨bm, 0, none⟩)) ∧ MO w' w.heap.size bm v size R ∧ Below w.heap.size w w') := by rw [hR]; exact laid_any size first ao n cap l w HL hn HR h0 h1
  have H2 : Hid (∀ W ba va, MO W w.heap.size ba va size R → Below w.heap.size w W → Calls Try.prog 19 #[.int .i64 size, .int .i64 first, .slice ao n cap] W fun e w' => ∃ bb vb, e = .returned (.pointer (some ⟨bb, 0, none⟩)) ∧ Two w w' w.heap.size ba va W.heap.size bb vb size R R) := fun W ba va hm hW => by
    have := laid_any size first ao n cap l W HL hn (HR.out.later hW) h0 h1
    rw [← hR] at this
    exact this.mono fun e w' ⟨bm, v, he, hm', hb⟩ => ⟨bm, v, he, Two.new hm hm' hW hb (Nat.le_refl _)⟩
  have e1 : setE size lo hi = 0 := setE_ok q1 (by omega) q4
  have e2 : setE size mid hi = 0 := setE_ok (by omega) q3 q4
  have e3 : setE size lo mid = 0 := setE_ok q1 q2 (by omega)
  obtain ⟨R1, hR1⟩ : ∃ R1, R1 = setR size R lo hi v := ⟨_, rfl⟩
  have HE1 : Hid (setR size (setR size R mid hi v) lo mid v = R1) := by rw [hR1]; exact (cut_eq sT sA v q1 q2 q3 q4).symm
  have HE2 : Hid (setR size R1 mid hi v = R1) := by rw [hR1]; exact cut_again sT sA v q1 q2 q3 q4
  have HE3 : Hid (setR size R lo hi v = R1) := hR1.symm
  have HHas : Hid (lo < hi → Has R1 lo v) := fun hlt => by rw [hR1]; exact setR_at sT sA v q1 hlt q4
  have HA : Hid (∀ W, Below w.heap.size w W → Calls Try.prog 18 #[] W fun e w' => e = .returned (.bool true) ∧ Below w.heap.size w w') := fun W hW => (alive_any W).mono fun e w' ⟨he, hb⟩ => ⟨he, hW.trans (hb.mono hW.size)⟩
  have S1 : Hid (∀ {W Bb ba bb va vb}, Two w W w.heap.size ba va Bb bb vb size R R → Calls Try.prog 24 #[.pointer (some ⟨ba, 0, none⟩), .int .i64 lo, .int .i64 hi, .int .i64 v] W fun e w' => e = .returned (.int .i64 0) ∧ ∃ v', Two w w' w.heap.size ba v' Bb bb vb size R1 R) := fun t => by have := t.setA lo hi v; rwa [e1, HE3.out] at this
  have S2 : Hid (∀ {W Bb ba bb va vb}, Two w W w.heap.size ba va Bb bb vb size R1 R → Calls Try.prog 24 #[.pointer (some ⟨bb, 0, none⟩), .int .i64 mid, .int .i64 hi, .int .i64 v] W fun e w' => e = .returned (.int .i64 0) ∧ ∃ v', Two w w' w.heap.size ba va Bb bb v' size R1 (setR size R mid hi v)) := fun t => by have := t.setB mid hi v; rwa [e2] at this
  have S3 : Hid (∀ {W Bb ba bb va vb}, Two w W w.heap.size ba va Bb bb vb size R1 (setR size R mid hi v) → Calls Try.prog 24 #[.pointer (some ⟨bb, 0, none⟩), .int .i64 lo, .int .i64 mid, .int .i64 v] W fun e w' => e = .returned (.int .i64 0) ∧ ∃ v', Two w w' w.heap.size ba va Bb bb v' size R1 R1) := fun t => by have := t.setB lo mid v; rwa [e3, HE1.out] at this
  have S4 : Hid (∀ {W Bb ba bb va vb}, Two w W w.heap.size ba va Bb bb vb size R1 R1 → Calls Try.prog 24 #[.pointer (some ⟨ba, 0, none⟩), .int .i64 mid, .int .i64 hi, .int .i64 v] W fun e w' => e = .returned (.int .i64 0) ∧ ∃ v', Two w w' w.heap.size ba v' Bb bb vb size R1 R1) := fun t => by have := t.setA mid hi v; rwa [e2, HE2.out] at this
  have S5 : Hid (∀ {W Bb ba bb va vb}, Two w W w.heap.size ba va Bb bb vb size R1 R1 → Calls Try.prog 25 #[.pointer (some ⟨ba, 0, none⟩), .pointer (some ⟨bb, 0, none⟩)] W fun e w' => e = .returned (.bool true) ∧ Two w w' w.heap.size ba va Bb bb vb size R1 R1) := fun t => by have := t.same; rwa [decide_eq_true rfl] at this
  have S6 : Hid (∀ {W Bb ba bb va vb}, Two w W w.heap.size ba va Bb bb vb size R1 R1 → Calls Try.prog 13 #[.pointer (some ⟨ba, 0, none⟩)] W fun e w' => e = .returned (.int .i64 R1.length) ∧ w' = W) := fun t => count_len t.a
  have S7 : Hid (∀ {W Bb ba bb va vb}, Two w W w.heap.size ba va Bb bb vb size R1 R1 → Calls Try.prog 13 #[.pointer (some ⟨bb, 0, none⟩)] W fun e w' => e = .returned (.int .i64 R1.length) ∧ w' = W) := fun t => count_len t.b
  have d1 : decide (lo < 0) = false := decide_eq_false (by omega)
  have d2 : decide (mid < lo) = false := decide_eq_false (by omega)
  have d3 : decide (hi < mid) = false := decide_eq_false (by omega)
  have d4 : decide (size < hi) = false := decide_eq_false (by omega)
  have hw0 : Below w.heap.size w w := Below.refl _ _
  have db : (lo == hi) = true := by simp [hlt]
  have S8 : Hid (∀ {W Bb ba bb va vb}, Two w W w.heap.size ba va Bb bb vb size R1 R1 → Calls Try.prog 23 #[.pointer (some ⟨ba, 0, none⟩), .int .i64 lo] W fun e w' => ∃ u ok, e = .returned (.tuple #[.int .i64 u, .bool ok]) ∧ Below w.heap.size w w') := fun t => (at_some t.a lo).mono fun e w' ⟨u, ok, he, hb⟩ => ⟨u, ok, he, t.bel.trans (hb.mono t.bel.size)⟩
  clear hlt HHas HE1 HE2 HE3 e1 e2 e3 hR1 hR sT sA HL HR hn h0 h1 q1 q2 q3 q4
  generalize R1.length = m at S6 S7
  have dm : ((m : Int) != (m : Int)) = false := by simp
  go_enter Try.func5, Try.ntmps5
  go_big_wp2_with (first | (go_at_call 19; refine (H2.out _ _ _ hm1 hw1).mono ?_; rintro e w2 ⟨b2, v2, rfl, t2⟩; clear hm1) | (go_at_call 19; refine H1.out.mono ?_; rintro e w1 ⟨b1, v1, rfl, hm1, hw1⟩) | (go_at_call 10; refine (num_any _ _).mono ?_; rintro e w9 ⟨rfl, hw9⟩; rw [hw9]; clear hw9) | (go_at_call 24; refine (S1.out t2).mono ?_; rintro e w3 ⟨rfl, v3, t3⟩; clear S1 t2) | (go_at_call 24; refine (S2.out t3).mono ?_; rintro e w4 ⟨rfl, v4, t4⟩; clear S2 t3) | (go_at_call 24; refine (S3.out t4).mono ?_; rintro e w5 ⟨rfl, v5, t5⟩; clear S3 t4) | (go_at_call 25; refine (S5.out t5).mono ?_; rintro e w6 ⟨rfl, t6⟩; clear t5) | (go_at_call 13; refine (S6.out t6).mono ?_; rintro e w9 ⟨rfl, hw9⟩; rw [hw9]; clear hw9 S6) | (go_at_call 13; refine (S7.out t6).mono ?_; rintro e w9 ⟨rfl, hw9⟩; rw [hw9]; clear hw9) | (go_at_call 24; refine (S4.out t6).mono ?_; rintro e w7 ⟨rfl, v7, t7⟩; clear t6) | (go_at_call 25; refine (S5.out t7).mono ?_; rintro e w8 ⟨rfl, t8⟩) | (go_at_call 23; refine (S8.out t8).mono ?_; rintro e w10 ⟨u, ok, rfl, hb10⟩) | (go_at_call 18; refine (HA.out _ hb10).mono ?_; rintro e w11 ⟨rfl, hb11⟩))
  go_ret
  exact ⟨rfl, hb11⟩
end Go.Proofs.Ytijafckdbhklmaa.I
