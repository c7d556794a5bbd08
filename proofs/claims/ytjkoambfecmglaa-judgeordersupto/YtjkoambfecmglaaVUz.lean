import Derived.Test.YtjkoambfecmglaaVTz
import Derived.Handy
namespace Go.Proofs.Ytjkoambfecmglaa
open Go.RowKit
set_option linter.unusedVariables false
set_option linter.unusedSimpArgs false
set_option maxRecDepth 100000
set_option maxHeartbeats 8000000 in
theorem mustBe_no1 (k fr t off len : Int) (da : Option Addr) (n dc : Nat) (sy : Bool) (size : Nat) (w : World) (hTm : ∀ W, Calls Try.prog 61 #[.agg #[.int .i64 k, .int .i64 fr, .int .i64 t, .int .i64 off, .int .i64 len, .slice da n dc, .bool sy]] W fun e w' => byOp e ∧ Below W.heap.size W w') : Calls Try.prog 41 #[.agg (Opv.mk k fr t off len da n dc sy).cells, .int .i64 (size : Int)] w fun e w' => byOp e ∧ Below w.heap.size w w' := by
  have HB : Hid (Below w.heap.size w (w.alloc (.cells #[.int .i64 k, .int .i64 fr, .int .i64 t, .int .i64 off, .int .i64 len, .slice da n dc, .bool sy] 50))) := (Below.refl w.heap.size w).alloc (Nat.le_refl _) _
  have HC : Hid (∀ V, Below (w.heap.size + 1) (w.alloc (.cells #[.int .i64 k, .int .i64 fr, .int .i64 t, .int .i64 off, .int .i64 len, .slice da n dc, .bool sy] 50)) V → Below w.heap.size w V ∧ Below (w.heap.size + 1) (w.alloc (.cells #[.int .i64 k, .int .i64 fr, .int .i64 t, .int .i64 off, .int .i64 len, .slice da n dc, .bool sy] 50)) V ∧ w.heap.size + 1 ≤ V.heap.size ∧ V.cell? ⟨w.heap.size, 0, none⟩ = some (.int .i64 k) ∧ V.cell? ⟨w.heap.size, 1, none⟩ = some (.int .i64 fr) ∧ V.cell? ⟨w.heap.size, 2, none⟩ = some (.int .i64 t) ∧ V.cell? ⟨w.heap.size, 3, none⟩ = some (.int .i64 off) ∧ V.cell? ⟨w.heap.size, 4, none⟩ = some (.int .i64 len) ∧ V.cell? ⟨w.heap.size, 5, none⟩ = some (.slice da n dc) ∧ V.cell? ⟨w.heap.size, 6, none⟩ = some (.bool sy)) := fun V hV => by
    have h1 := box_cells rfl V hV
    have h2 := hV.size
    rw [World.size_alloc] at h2
    exact ⟨HB.out.trans (hV.mono (by omega)), hV, h2, h1 0 _ rfl, h1 1 _ rfl, h1 2 _ rfl, h1 3 _ rfl, h1 4 _ rfl, h1 5 _ rfl, h1 6 _ rfl⟩
  have HTm : Hid _ := hTm
  clear hTm
  go_enter Try.func41, Try.ntmps41
  go_wp2_with fail
  refine (HTm.out _).mono ?_
  rintro e W1 ⟨rfl, hb⟩
  have H1 : Hid _ := HC.out W1 (hb.mono (by rw [World.size_alloc]; exact Nat.le_refl _))
  exact ⟨rfl, rfl, H1.out.1⟩
set_option maxHeartbeats 8000000 in
theorem mustBe_no2 (k fr t off len : Int) (da : Option Addr) (n dc : Nat) (sy : Bool) (size : Nat) (w : World) (hTm : ∀ W, Calls Try.prog 61 #[.agg #[.int .i64 k, .int .i64 fr, .int .i64 t, .int .i64 off, .int .i64 len, .slice da n dc, .bool sy]] W fun e w' => e = .returned (.tuple #[]) ∧ Below W.heap.size W w') (hIn : ∀ W, Calls Try.prog 62 #[.agg #[.int .i64 k, .int .i64 fr, .int .i64 t, .int .i64 off, .int .i64 len, .slice da n dc, .bool sy], .int .i64 (size : Int)] W fun e w' => byOp e ∧ Below W.heap.size W w') : Calls Try.prog 41 #[.agg (Opv.mk k fr t off len da n dc sy).cells, .int .i64 (size : Int)] w fun e w' => byOp e ∧ Below w.heap.size w w' := by
  have HB : Hid (Below w.heap.size w (w.alloc (.cells #[.int .i64 k, .int .i64 fr, .int .i64 t, .int .i64 off, .int .i64 len, .slice da n dc, .bool sy] 50))) := (Below.refl w.heap.size w).alloc (Nat.le_refl _) _
  have HC : Hid (∀ V, Below (w.heap.size + 1) (w.alloc (.cells #[.int .i64 k, .int .i64 fr, .int .i64 t, .int .i64 off, .int .i64 len, .slice da n dc, .bool sy] 50)) V → Below w.heap.size w V ∧ Below (w.heap.size + 1) (w.alloc (.cells #[.int .i64 k, .int .i64 fr, .int .i64 t, .int .i64 off, .int .i64 len, .slice da n dc, .bool sy] 50)) V ∧ w.heap.size + 1 ≤ V.heap.size ∧ V.cell? ⟨w.heap.size, 0, none⟩ = some (.int .i64 k) ∧ V.cell? ⟨w.heap.size, 1, none⟩ = some (.int .i64 fr) ∧ V.cell? ⟨w.heap.size, 2, none⟩ = some (.int .i64 t) ∧ V.cell? ⟨w.heap.size, 3, none⟩ = some (.int .i64 off) ∧ V.cell? ⟨w.heap.size, 4, none⟩ = some (.int .i64 len) ∧ V.cell? ⟨w.heap.size, 5, none⟩ = some (.slice da n dc) ∧ V.cell? ⟨w.heap.size, 6, none⟩ = some (.bool sy)) := fun V hV => by
    have h1 := box_cells rfl V hV
    have h2 := hV.size
    rw [World.size_alloc] at h2
    exact ⟨HB.out.trans (hV.mono (by omega)), hV, h2, h1 0 _ rfl, h1 1 _ rfl, h1 2 _ rfl, h1 3 _ rfl, h1 4 _ rfl, h1 5 _ rfl, h1 6 _ rfl⟩
  have HTm : Hid _ := hTm
  have HIn : Hid _ := hIn
  clear hTm hIn
  go_enter Try.func41, Try.ntmps41
  go_wp2_with fail
  refine (HTm.out _).mono ?_
  rintro e W1 ⟨rfl, hb⟩
  have H1 : Hid _ := HC.out W1 (hb.mono (by rw [World.size_alloc]; exact Nat.le_refl _))
  clear hb
  obtain ⟨_, _, _, c0, c1, c2, c3, c4, c5, c6⟩ := H1.out
  go_wp2_with fail
  refine (HIn.out _).mono ?_
  rintro e W2 ⟨rfl, hb⟩
  have H2 : Hid _ := HC.out W2 (H1.out.2.1.trans (hb.mono H1.out.2.2.1))
  exact ⟨rfl, rfl, H2.out.1⟩
theorem may_eq (o : Opv) (size : Nat) : o.may size = (decide (0 ≤ o.fr) && ((!(o.to_ != -1) || decide (o.fr ≤ o.to_)) && ((o.to_ != -1) || !o.sy)) && ((decide (0 ≤ o.off) && decide (o.off ≤ (size : Int))) && (decide (0 ≤ o.len) && decide (o.len ≤ (size : Int) - o.off))) && kOK o.k o.off o.len o.n (o.to_ != -1) o.sy) := by
  rw [Bool.eq_iff_iff]
  constructor
  · intro h
    obtain ⟨k1, k4, fr0, to1, off0, len0, offn, lenn, fl, sy, da⟩ := Opv.may_of h
    have a1 : decide (0 ≤ o.fr) = true := decide_eq_true fr0
    have a2 : (decide (0 ≤ o.off) && decide (o.off ≤ (size : Int)) && (decide (0 ≤ o.len) && decide (o.len ≤ (size : Int) - o.off))) = true := by simp; omega
    have a3 : ((!(o.to_ != -1) || decide (o.fr ≤ o.to_)) && ((o.to_ != -1) || !o.sy)) = true := by
      cases hs : o.sy with
      | true => have := (sy hs).1; simp; omega
      | false => simp; omega
    rw [a1, a2, a3]
    simp only [Bool.true_and, Bool.and_true]
    unfold kOK
    by_cases e1 : o.k = 1
    · have hs : o.sy = false := by
        cases hs : o.sy with
        | true => exact absurd e1 (sy hs).2
        | false => rfl
      rw [if_pos e1, hs]
      by_cases ht : o.to_ = -1
      · rw [if_neg (by omega)] at da
        simp [ht, da]
      · rw [if_pos (.inr ⟨e1, ht⟩)] at da
        simp [ht, da]
    rw [if_neg e1]
    by_cases e2 : o.k = 2
    · rw [if_pos e2]
      rw [if_pos (.inl e2)] at da
      simpa using da
    rw [if_neg e2]
    rw [if_neg (by omega)] at da
    by_cases e3 : o.k = 3
    · rw [if_pos e3]; simpa using da
    rw [if_neg e3, if_pos (by omega)]
    have := fl (by omega)
    simp [da, this.1, this.2]
  · intro h
    simp only [Bool.and_eq_true] at h
    obtain ⟨⟨⟨a1, a3, a4⟩, ⟨b1, b2⟩, b3, b4⟩, hk⟩ := h
    have a1 := of_decide_eq_true a1
    have b1 := of_decide_eq_true b1
    have b2 := of_decide_eq_true b2
    have b3 := of_decide_eq_true b3
    have b4 := of_decide_eq_true b4
    have a3' : o.to_ = -1 ∨ o.fr ≤ o.to_ := by
      rcases (Bool.or_eq_true_iff.1 a3) with h | h
      · left; simpa using h
      · right; exact of_decide_eq_true h
    have a4' : o.sy = true → o.to_ ≠ -1 := by
      intro hs; rw [hs] at a4; simpa using a4
    unfold kOK at hk
    have key : 1 ≤ o.k ∧ o.k ≤ 4 ∧ (o.k = 4 → o.off = 0 ∧ o.len = 0) ∧ (o.k = 1 → o.sy = false) ∧ (if o.k = 2 ∨ (o.k = 1 ∧ o.to_ ≠ -1) then ((o.n : Int) == o.len) else ((o.n : Int) == 0)) = true := by
      by_cases e1 : o.k = 1
      · rw [if_pos e1] at hk
        by_cases ht : o.to_ = -1
        · rw [if_neg (by omega)]
          simp [ht] at hk
          exact ⟨by omega, by omega, fun h => absurd h (by omega), fun _ => hk.1, by simpa using hk.2⟩
        · rw [if_pos (.inr ⟨e1, ht⟩)]
          simp [ht] at hk
          exact ⟨by omega, by omega, fun h => absurd h (by omega), fun _ => hk.1, by simpa using hk.2⟩
      rw [if_neg e1] at hk
      by_cases e2 : o.k = 2
      · rw [if_pos e2] at hk
        rw [if_pos (.inl e2)]
        exact ⟨by omega, by omega, fun h => absurd h (by omega), fun h => absurd h e1, hk⟩
      rw [if_neg e2] at hk
      rw [if_neg (by omega)]
      by_cases e3 : o.k = 3
      · rw [if_pos e3] at hk
        exact ⟨by omega, by omega, fun h => absurd h (by omega), fun h => absurd h e1, hk⟩
      rw [if_neg e3] at hk
      by_cases e4 : o.k = 4
      · rw [if_pos e4] at hk
        simp at hk
        exact ⟨by omega, by omega, fun _ => hk.2, fun h => absurd h e1, by simpa using hk.1⟩
      · rw [if_neg e4] at hk; cases hk
    obtain ⟨k1, k4, kf, ks, kd⟩ := key
    unfold Opv.may
    rw [if_neg (by omega), if_neg (by omega), if_neg (by omega), if_neg (by omega), if_neg (by omega), if_neg (by omega), if_neg (by omega), if_neg (by omega), if_neg (by rintro ⟨h1, h2⟩; have := kf h1; omega), if_neg (by rintro ⟨h1, h2 | h2⟩; exact a4' h1 h2; have := ks h2; rw [h1] at this; cases this)]
    exact kd
theorem mustBe_any (o : Opv) (size : Nat) (w : World) (hs : size ≤ 4096) : Calls Try.prog 41 #[.agg o.cells, .int .i64 (size : Int)] w fun e w' => endsBy (o.may size) e ∧ Below w.heap.size w w' := by
  rw [may_eq]
  obtain ⟨k, fr, t, off, len, da, n, dc, sy⟩ := o
  by_cases hf : fr < 0
  · refine (mustBe_no1 k fr t off len da n dc sy size w (fun W => timed_neg k fr t off len da n dc sy W hf)).mono ?_
    rintro e w' ⟨rfl, hb⟩
    exact ⟨.no (by have : decide (0 ≤ fr) = false := decide_eq_false (by omega); simp only [this, Bool.false_and]), hb⟩
  have h0 : decide (0 ≤ fr) = true := decide_eq_true (by omega)
  cases hT : ((!(t != -1) || decide (fr ≤ t)) && ((t != -1) || !sy)) with
  | false =>
    refine (mustBe_no1 k fr t off len da n dc sy size w (fun W => (timed_ok k fr t off len da n dc sy W hf).mono (fun e w' h => ⟨h.1.2 hT, h.2⟩))).mono ?_
    rintro e w' ⟨rfl, hb⟩
    exact ⟨.no (by simp only [hT, Bool.and_false, Bool.false_and]), hb⟩
  | true =>
    cases hI : ((decide (0 ≤ off) && decide (off ≤ (size : Int))) && (decide (0 ≤ len) && decide (len ≤ (size : Int) - off))) with
    | false =>
      refine (mustBe_no2 k fr t off len da n dc sy size w (fun W => (timed_ok k fr t off len da n dc sy W hf).mono (fun e w' h => ⟨h.1.1 hT, h.2⟩)) (fun W => (inside_any k fr t off len da n dc sy size W hs).mono (fun e w' h => ⟨h.1.2 hI, h.2⟩))).mono ?_
      rintro e w' ⟨rfl, hb⟩
      exact ⟨.no (by simp only [hI, Bool.and_false, Bool.false_and]), hb⟩
    | true =>
      refine (kinds_any k fr t off len da n dc sy size w hs hf hT hI).mono ?_
      rintro e w' ⟨he, hb⟩
      refine ⟨?_, hb⟩
      simp only [h0, hT, hI, Bool.true_and]
      exact he
end Go.Proofs.Ytjkoambfecmglaa
