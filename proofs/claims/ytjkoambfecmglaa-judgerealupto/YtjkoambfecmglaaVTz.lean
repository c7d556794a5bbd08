import Derived.Test.YtjkoambfecmglaaJN
import Derived.Handy
namespace Go.Proofs.Ytjkoambfecmglaa
open Go.RowKit
set_option linter.unusedVariables false
set_option linter.unusedSimpArgs false
set_option maxRecDepth 100000
/-- what mustBe says of the kind -/
def kOK (k off len : Int) (n : Nat) (a sy : Bool) : Bool := if k = 1 then (!sy && ((n : Int) == 0 || a)) && ((n : Int) == len || !a) else if k = 2 then (n : Int) == len else if k = 3 then (n : Int) == 0 else if k = 4 then (n : Int) == 0 && (off == 0 && len == 0) else false
set_option maxHeartbeats 16000000 in
theorem kinds_any (k fr t off len : Int) (da : Option Addr) (n dc : Nat) (sy : Bool) (size : Nat) (w : World) (hs : size ≤ 4096) (hf : ¬ fr < 0) (hT : ((!(t != -1) || decide (fr ≤ t)) && ((t != -1) || !sy)) = true) (hI : ((decide (0 ≤ off) && decide (off ≤ (size : Int))) && (decide (0 ≤ len) && decide (len ≤ (size : Int) - off))) = true) : Calls Try.prog 41 #[.agg (Opv.mk k fr t off len da n dc sy).cells, .int .i64 (size : Int)] w fun e w' => endsBy (kOK k off len n (t != -1) sy) e ∧ Below w.heap.size w w' := by
  have HB : Hid (Below w.heap.size w (w.alloc (.cells #[.int .i64 k, .int .i64 fr, .int .i64 t, .int .i64 off, .int .i64 len, .slice da n dc, .bool sy] 50))) := (Below.refl w.heap.size w).alloc (Nat.le_refl _) _
  have HC : Hid (∀ V, Below (w.heap.size + 1) (w.alloc (.cells #[.int .i64 k, .int .i64 fr, .int .i64 t, .int .i64 off, .int .i64 len, .slice da n dc, .bool sy] 50)) V → Below w.heap.size w V ∧ Below (w.heap.size + 1) (w.alloc (.cells #[.int .i64 k, .int .i64 fr, .int .i64 t, .int .i64 off, .int .i64 len, .slice da n dc, .bool sy] 50)) V ∧ w.heap.size + 1 ≤ V.heap.size ∧ V.cell? ⟨w.heap.size, 0, none⟩ = some (.int .i64 k) ∧ V.cell? ⟨w.heap.size, 1, none⟩ = some (.int .i64 fr) ∧ V.cell? ⟨w.heap.size, 2, none⟩ = some (.int .i64 t) ∧ V.cell? ⟨w.heap.size, 3, none⟩ = some (.int .i64 off) ∧ V.cell? ⟨w.heap.size, 4, none⟩ = some (.int .i64 len) ∧ V.cell? ⟨w.heap.size, 5, none⟩ = some (.slice da n dc) ∧ V.cell? ⟨w.heap.size, 6, none⟩ = some (.bool sy)) := fun V hV => by
    have h1 := box_cells rfl V hV
    have h2 := hV.size
    rw [World.size_alloc] at h2
    exact ⟨HB.out.trans (hV.mono (by omega)), hV, h2, h1 0 _ rfl, h1 1 _ rfl, h1 2 _ rfl, h1 3 _ rfl, h1 4 _ rfl, h1 5 _ rfl, h1 6 _ rfl⟩
  have HTm : Hid (∀ W, Calls Try.prog 61 #[.agg #[.int .i64 k, .int .i64 fr, .int .i64 t, .int .i64 off, .int .i64 len, .slice da n dc, .bool sy]] W fun e w' => e = .returned (.tuple #[]) ∧ Below W.heap.size W w') := fun W => (timed_ok k fr t off len da n dc sy W hf).mono (fun e w' h => ⟨h.1.1 hT, h.2⟩)
  have HIn : Hid (∀ W, Calls Try.prog 62 #[.agg #[.int .i64 k, .int .i64 fr, .int .i64 t, .int .i64 off, .int .i64 len, .slice da n dc, .bool sy], .int .i64 (size : Int)] W fun e w' => e = .returned (.tuple #[]) ∧ Below W.heap.size W w') := fun W => (inside_any k fr t off len da n dc sy size W hs).mono (fun e w' h => ⟨h.1.1 hI, h.2⟩)
  obtain ⟨a, ha⟩ : ∃ a, (t != -1) = a := ⟨_, rfl⟩
  have HA : Hid (∀ W, Calls Try.prog 43 #[.agg #[.int .i64 k, .int .i64 fr, .int .i64 t, .int .i64 off, .int .i64 len, .slice da n dc, .bool sy]] W fun e w' => e = .returned (.bool a) ∧ Below W.heap.size W w') := fun W => by rw [← ha]; exact answered_any ⟨k, fr, t, off, len, da, n, dc, sy⟩ W
  obtain ⟨r, hr⟩ : ∃ r, kOK k off len n (t != -1) sy = r := ⟨_, rfl⟩
  have HK : Hid (kOK k off len n a sy = r) := by rw [← ha]; exact hr
  rw [hr]
  clear hT hI hf ha hr
  go_enter Try.func41, Try.ntmps41
  go_wp2_with fail
  refine (HTm.out _).mono ?_
  rintro e W1 ⟨rfl, hb⟩
  have H1 : Hid _ := HC.out W1 (hb.mono (by rw [World.size_alloc]; exact Nat.le_refl _))
  clear hb
  obtain ⟨_, _, _, c0, c1, c2, c3, c4, c5, c6⟩ := H1.out
  go_wp2_with fail
  refine (HIn.out _).mono ?_
  rintro e W2 ⟨rfl, hb⟩
  have H2 : Hid _ := HC.out W2 (H1.out.2.1.trans (hb.mono H1.out.2.2.1))
  clear hb c0 c1 c2 c3 c4 c5 c6 HTm HIn
  obtain ⟨_, _, _, c0, c1, c2, c3, c4, c5, c6⟩ := H2.out
  by_cases e1 : k = 1
  · subst e1
    cases sy with
    | true =>
      go_wp2_with (first | (go_at_call 63; refine (must_yes _).mono ?_; rintro e w9 ⟨rfl, rfl⟩) | (go_at_call 63; refine (must_no _).mono ?_; rintro e w9 ⟨rfl, rfl⟩) | fail)
      exact ⟨rfl, .no (by rw [← HK.out]; simp [kOK, *]), H2.out.1⟩
    | false =>
      by_cases pn : (n : Int) = 0
      · have pn1 : (((n : Int)) == 0) = true := by simpa using pn
        have pn2 : decide (((n : Int)) = 0) = true := by simpa using pn
        by_cases pl : (n : Int) = len
        · have pl1 : (((n : Int)) == len) = true := by simpa using pl
          have pl2 : decide (((n : Int)) = len) = true := by simpa using pl
          have pl3 : ((0 : Int) == len) = true := by rw [← pn]; exact pl1
          have pl4 : decide ((0 : Int) = len) = true := by rw [← pn]; exact pl2
          go_wp2_with (first | (go_at_call 63; refine (must_yes _).mono ?_; rintro e w9 ⟨rfl, rfl⟩) | (go_at_call 63; refine (must_no _).mono ?_; rintro e w9 ⟨rfl, rfl⟩) | fail)
          go_returns
          exact ⟨.yes (by rw [← HK.out]; simp [kOK, *]), H2.out.1⟩
        · have pl1 : (((n : Int)) == len) = false := by simpa using pl
          have pl2 : decide (((n : Int)) = len) = false := by simpa using pl
          have pl3 : ((0 : Int) == len) = false := by rw [← pn]; exact pl1
          have pl4 : decide ((0 : Int) = len) = false := by rw [← pn]; exact pl2
          cases a with
          | true =>
            go_wp2_with (first | (go_at_call 63; refine (must_yes _).mono ?_; rintro e w9 ⟨rfl, rfl⟩) | (go_at_call 63; refine (must_no _).mono ?_; rintro e w9 ⟨rfl, rfl⟩) | fail)
            refine (HA.out _).mono ?_
            rintro e W3 ⟨rfl, hb⟩
            have H3 : Hid _ := HC.out W3 (H2.out.2.1.trans (hb.mono H2.out.2.2.1))
            clear hb c0 c1 c2 c3 c4 c5 c6
            obtain ⟨_, _, _, c0, c1, c2, c3, c4, c5, c6⟩ := H3.out
            go_wp2_with (first | (go_at_call 63; refine (must_yes _).mono ?_; rintro e w9 ⟨rfl, rfl⟩) | (go_at_call 63; refine (must_no _).mono ?_; rintro e w9 ⟨rfl, rfl⟩) | fail)
            exact ⟨rfl, .no (by rw [← HK.out]; simp [kOK, *]), H3.out.1⟩
          | false =>
            go_wp2_with (first | (go_at_call 63; refine (must_yes _).mono ?_; rintro e w9 ⟨rfl, rfl⟩) | (go_at_call 63; refine (must_no _).mono ?_; rintro e w9 ⟨rfl, rfl⟩) | fail)
            refine (HA.out _).mono ?_
            rintro e W3 ⟨rfl, hb⟩
            have H3 : Hid _ := HC.out W3 (H2.out.2.1.trans (hb.mono H2.out.2.2.1))
            clear hb c0 c1 c2 c3 c4 c5 c6
            obtain ⟨_, _, _, c0, c1, c2, c3, c4, c5, c6⟩ := H3.out
            go_wp2_with (first | (go_at_call 63; refine (must_yes _).mono ?_; rintro e w9 ⟨rfl, rfl⟩) | (go_at_call 63; refine (must_no _).mono ?_; rintro e w9 ⟨rfl, rfl⟩) | fail)
            go_returns
            exact ⟨.yes (by rw [← HK.out]; simp [kOK, *]), H3.out.1⟩
      · have pn1 : (((n : Int)) == 0) = false := by simpa using pn
        have pn2 : decide (((n : Int)) = 0) = false := by simpa using pn
        cases a with
        | false =>
          go_wp2_with (first | (go_at_call 63; refine (must_yes _).mono ?_; rintro e w9 ⟨rfl, rfl⟩) | (go_at_call 63; refine (must_no _).mono ?_; rintro e w9 ⟨rfl, rfl⟩) | fail)
          refine (HA.out _).mono ?_
          rintro e W3 ⟨rfl, hb⟩
          have H3 : Hid _ := HC.out W3 (H2.out.2.1.trans (hb.mono H2.out.2.2.1))
          clear hb c0 c1 c2 c3 c4 c5 c6
          obtain ⟨_, _, _, c0, c1, c2, c3, c4, c5, c6⟩ := H3.out
          go_wp2_with (first | (go_at_call 63; refine (must_yes _).mono ?_; rintro e w9 ⟨rfl, rfl⟩) | (go_at_call 63; refine (must_no _).mono ?_; rintro e w9 ⟨rfl, rfl⟩) | fail)
          exact ⟨rfl, .no (by rw [← HK.out]; simp [kOK, *]), H3.out.1⟩
        | true =>
          go_wp2_with (first | (go_at_call 63; refine (must_yes _).mono ?_; rintro e w9 ⟨rfl, rfl⟩) | (go_at_call 63; refine (must_no _).mono ?_; rintro e w9 ⟨rfl, rfl⟩) | fail)
          refine (HA.out _).mono ?_
          rintro e W3 ⟨rfl, hb⟩
          have H3 : Hid _ := HC.out W3 (H2.out.2.1.trans (hb.mono H2.out.2.2.1))
          clear hb c0 c1 c2 c3 c4 c5 c6
          obtain ⟨_, _, _, c0, c1, c2, c3, c4, c5, c6⟩ := H3.out
          by_cases pl : (n : Int) = len
          · have pl1 : (((n : Int)) == len) = true := by simpa using pl
            have pl2 : decide (((n : Int)) = len) = true := by simpa using pl
            go_wp2_with (first | (go_at_call 63; refine (must_yes _).mono ?_; rintro e w9 ⟨rfl, rfl⟩) | (go_at_call 63; refine (must_no _).mono ?_; rintro e w9 ⟨rfl, rfl⟩) | fail)
            go_returns
            exact ⟨.yes (by rw [← HK.out]; simp [kOK, *]), H3.out.1⟩
          · have pl1 : (((n : Int)) == len) = false := by simpa using pl
            have pl2 : decide (((n : Int)) = len) = false := by simpa using pl
            go_wp2_with (first | (go_at_call 63; refine (must_yes _).mono ?_; rintro e w9 ⟨rfl, rfl⟩) | (go_at_call 63; refine (must_no _).mono ?_; rintro e w9 ⟨rfl, rfl⟩) | fail)
            refine (HA.out _).mono ?_
            rintro e W4 ⟨rfl, hb⟩
            have H4 : Hid _ := HC.out W4 (H3.out.2.1.trans (hb.mono H3.out.2.2.1))
            clear hb c0 c1 c2 c3 c4 c5 c6
            obtain ⟨_, _, _, c0, c1, c2, c3, c4, c5, c6⟩ := H4.out
            go_wp2_with (first | (go_at_call 63; refine (must_yes _).mono ?_; rintro e w9 ⟨rfl, rfl⟩) | (go_at_call 63; refine (must_no _).mono ?_; rintro e w9 ⟨rfl, rfl⟩) | fail)
            exact ⟨rfl, .no (by rw [← HK.out]; simp [kOK, *]), H4.out.1⟩
  by_cases e2 : k = 2
  · subst e2
    by_cases pl : (n : Int) = len
    · have pl1 : (((n : Int)) == len) = true := by simpa using pl
      have pl2 : decide (((n : Int)) = len) = true := by simpa using pl
      go_wp2_with (first | (go_at_call 63; refine (must_yes _).mono ?_; rintro e w9 ⟨rfl, rfl⟩) | (go_at_call 63; refine (must_no _).mono ?_; rintro e w9 ⟨rfl, rfl⟩) | fail)
      go_returns
      exact ⟨.yes (by rw [← HK.out]; simp [kOK, *]), H2.out.1⟩
    · have pl1 : (((n : Int)) == len) = false := by simpa using pl
      have pl2 : decide (((n : Int)) = len) = false := by simpa using pl
      go_wp2_with (first | (go_at_call 63; refine (must_yes _).mono ?_; rintro e w9 ⟨rfl, rfl⟩) | (go_at_call 63; refine (must_no _).mono ?_; rintro e w9 ⟨rfl, rfl⟩) | fail)
      exact ⟨rfl, .no (by rw [← HK.out]; simp [kOK, *]), H2.out.1⟩
  by_cases e3 : k = 3
  · subst e3
    by_cases pn : (n : Int) = 0
    · have pn1 : (((n : Int)) == 0) = true := by simpa using pn
      have pn2 : decide (((n : Int)) = 0) = true := by simpa using pn
      go_wp2_with (first | (go_at_call 63; refine (must_yes _).mono ?_; rintro e w9 ⟨rfl, rfl⟩) | (go_at_call 63; refine (must_no _).mono ?_; rintro e w9 ⟨rfl, rfl⟩) | fail)
      go_returns
      exact ⟨.yes (by rw [← HK.out]; simp [kOK, *]), H2.out.1⟩
    · have pn1 : (((n : Int)) == 0) = false := by simpa using pn
      have pn2 : decide (((n : Int)) = 0) = false := by simpa using pn
      go_wp2_with (first | (go_at_call 63; refine (must_yes _).mono ?_; rintro e w9 ⟨rfl, rfl⟩) | (go_at_call 63; refine (must_no _).mono ?_; rintro e w9 ⟨rfl, rfl⟩) | fail)
      exact ⟨rfl, .no (by rw [← HK.out]; simp [kOK, *]), H2.out.1⟩
  by_cases e4 : k = 4
  · subst e4
    by_cases pn : (n : Int) = 0
    · have pn1 : (((n : Int)) == 0) = true := by simpa using pn
      have pn2 : decide (((n : Int)) = 0) = true := by simpa using pn
      by_cases po : off = 0
      · have po1 : ((off) == 0) = true := by simpa using po
        have po2 : decide ((off) = 0) = true := by simpa using po
        by_cases pl : len = 0
        · have pl1 : ((len) == 0) = true := by simpa using pl
          have pl2 : decide ((len) = 0) = true := by simpa using pl
          go_wp2_with (first | (go_at_call 63; refine (must_yes _).mono ?_; rintro e w9 ⟨rfl, rfl⟩) | (go_at_call 63; refine (must_no _).mono ?_; rintro e w9 ⟨rfl, rfl⟩) | fail)
          go_returns
          exact ⟨.yes (by rw [← HK.out]; simp [kOK, *]), H2.out.1⟩
        · have pl1 : ((len) == 0) = false := by simpa using pl
          have pl2 : decide ((len) = 0) = false := by simpa using pl
          go_wp2_with (first | (go_at_call 63; refine (must_yes _).mono ?_; rintro e w9 ⟨rfl, rfl⟩) | (go_at_call 63; refine (must_no _).mono ?_; rintro e w9 ⟨rfl, rfl⟩) | fail)
          exact ⟨rfl, .no (by rw [← HK.out]; simp [kOK, *]), H2.out.1⟩
      · have po1 : ((off) == 0) = false := by simpa using po
        have po2 : decide ((off) = 0) = false := by simpa using po
        go_wp2_with (first | (go_at_call 63; refine (must_yes _).mono ?_; rintro e w9 ⟨rfl, rfl⟩) | (go_at_call 63; refine (must_no _).mono ?_; rintro e w9 ⟨rfl, rfl⟩) | fail)
        exact ⟨rfl, .no (by rw [← HK.out]; simp [kOK, *]), H2.out.1⟩
    · have pn1 : (((n : Int)) == 0) = false := by simpa using pn
      have pn2 : decide (((n : Int)) = 0) = false := by simpa using pn
      go_wp2_with (first | (go_at_call 63; refine (must_yes _).mono ?_; rintro e w9 ⟨rfl, rfl⟩) | (go_at_call 63; refine (must_no _).mono ?_; rintro e w9 ⟨rfl, rfl⟩) | fail)
      exact ⟨rfl, .no (by rw [← HK.out]; simp [kOK, *]), H2.out.1⟩
  have e1b : ((k) == 1) = false := by simpa using e1
  have e1d : decide (k = 1) = false := by simpa using e1
  have e2b : ((k) == 2) = false := by simpa using e2
  have e2d : decide (k = 2) = false := by simpa using e2
  have e3b : ((k) == 3) = false := by simpa using e3
  have e3d : decide (k = 3) = false := by simpa using e3
  have e4b : ((k) == 4) = false := by simpa using e4
  have e4d : decide (k = 4) = false := by simpa using e4
  go_wp2_with (first | (go_at_call 63; refine (must_yes _).mono ?_; rintro e w9 ⟨rfl, rfl⟩) | (go_at_call 63; refine (must_no _).mono ?_; rintro e w9 ⟨rfl, rfl⟩) | fail)
  exact ⟨rfl, .no (by rw [← HK.out]; simp [kOK, *]), H2.out.1⟩
end Go.Proofs.Ytjkoambfecmglaa
