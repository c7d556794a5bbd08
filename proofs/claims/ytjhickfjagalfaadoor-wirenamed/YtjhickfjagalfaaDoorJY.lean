import Derived.Test.YtjhickfjagalfaaDoorJX
import Derived.Test.YtjhickfjagalfaaDoorJUn
import Derived.Test.YtjhickfjagalfaaDoorJV
namespace Go.Proofs.YtjhickfjagalfaaDoor
open Go.RowKit
set_option linter.unusedVariables false
set_option linter.unusedSimpArgs false
set_option maxRecDepth 100000

set_option maxHeartbeats 4000000 in
theorem wireTables_any (T : Int) (n : Nat) (s : ByteArray) (w : World) (hT : Tb w) :
    Calls Tryd.prog 3 #[.int .i64 T, .int .u32 (n : Int), .string s] w fun e w' => e = .returned (.bool true) ∧ Below w.heap.size w w' := by
  have HTb : Hid (Tb w) := hT
  have H1 : Hid (Calls Tryd.prog 9 #[.int .i64 T, .string s] w fun e w' => e = .returned (.tuple #[.int .u32 ((numOf T s).1 : Int), .bool (numOf T s).2]) ∧ Below w.heap.size w w') := wnumber_any T s w hT
  have H2 : Hid (∀ w, Calls Tryd.prog 10 #[.int .i64 T, .string s] w fun e w' => e = .returned (.tuple #[.int .u32 ((numOf T s).1 : Int), .bool (numOf T s).2]) ∧ Below w.heap.size w w') := rnumberW_any T s
  have H3 : Hid (∀ w, Tb w → Calls Tryd.prog 11 #[.int .i64 T, .int .u32 (n : Int)] w fun e w' => e = .returned (.string (nameOf T n)) ∧ Below w.heap.size w w') := wname_any T n
  have H4 : Hid (∀ w, Calls Tryd.prog 12 #[.int .i64 T, .int .u32 (n : Int)] w fun e w' => e = .returned (.string (nameOf T n)) ∧ Below w.heap.size w w') := rname_any T n
  have H5 : Hid (∀ w, Tb w → Calls Tryd.prog 13 #[] w fun e w' => e = .returned (.bool true) ∧ Below w.heap.size w w') := alive_any
  clear hT
  generalize (numOf T s).1 = m at *
  generalize (numOf T s).2 = ok at *
  generalize nameOf T n = a at *
  have ea : (a.toList == a.toList) = true := by simp
  go_enter Tryd.func3, Tryd.ntmps3
  go_wp2_with fail
  refine H1.out.mono ?_
  rintro e w1 ⟨rfl, hb⟩
  have B1 : Hid (Below w.heap.size w w1) := hb
  clear hb H1
  go_wp2_with fail
  refine (H2.out _).mono ?_
  rintro e w2 ⟨rfl, hb⟩
  have B2 : Hid (Below w.heap.size w w2) := B1.out.trans (hb.mono B1.out.size)
  clear hb H2 B1
  go_wp2_with fail
  refine (H3.out _ (HTb.out.later B2.out)).mono ?_
  rintro e w3 ⟨rfl, hb⟩
  have B3 : Hid (Below w.heap.size w w3) := B2.out.trans (hb.mono B2.out.size)
  clear hb H3 B2
  go_wp2_with fail
  refine (H4.out _).mono ?_
  rintro e w4 ⟨rfl, hb⟩
  have B4 : Hid (Below w.heap.size w w4) := B3.out.trans (hb.mono B3.out.size)
  clear hb H4 B3
  go_wp2_with fail
  refine (H5.out _ (HTb.out.later B4.out)).mono ?_
  rintro e w5 ⟨rfl, hb⟩
  have B5 : Hid (Below w.heap.size w w5) := B4.out.trans (hb.mono B4.out.size)
  clear hb H5 B4
  go_wp2
  go_ret
  exact ⟨rfl, B5.out⟩

/-- what is so of every row of the tables -/
theorem rows_ok : allL.all (fun x => decide (1 ≤ x.t) && decide (x.t ≤ 7) && decide (x.s ≠ []) && x.s.all (fun b => decide (b < 256)) && allL.all (fun y => !(decide (x.t = y.t) && decide (x.s = y.s)) || decide (x.n = y.n))) = true := by decide +kernel
theorem row_ok {x : Rw} (hx : x ∈ allL) : 1 ≤ x.t ∧ x.t ≤ 7 ∧ x.s ≠ [] ∧ (∀ b ∈ x.s, b < 256) ∧ ∀ y ∈ allL, x.t = y.t → x.s = y.s → x.n = y.n := by
  have := List.all_eq_true.1 rows_ok x hx
  simp only [Bool.and_eq_true, decide_eq_true_eq, List.all_eq_true, Bool.or_eq_true, Bool.not_eq_true', Bool.and_eq_false_iff, decide_eq_false_iff_not] at this
  obtain ⟨⟨⟨⟨h1, h2⟩, h3⟩, h4⟩, h5⟩ := this
  refine ⟨h1, h2, h3, h4, fun y hy e1 e2 => ?_⟩
  rcases h5 y hy with (h | h) | h
  · exact absurd e1 h
  · exact absurd e2 h
  · exact h
theorem bstr_inj {a b : List Nat} (ha : ∀ x ∈ a, x < 256) (hb : ∀ x ∈ b, x < 256) (h : bstr a = bstr b) : a = b := by rw [← sbytes_bstr a ha, ← sbytes_bstr b hb, h]
theorem nameOf_cases (T : Int) (n : Nat) : (nameOf T n = ⟨#[]⟩) ∨ ∃ x ∈ allL, (x.t : Int) = T ∧ x.n = n ∧ nameOf T n = bstr x.s := by
  unfold nameOf
  cases h : allL.find? (hitN T n) with
  | none => exact .inl rfl
  | some x =>
    have h1 := List.find?_some h
    simp only [hitN, Bool.and_eq_true, decide_eq_true_eq] at h1
    exact .inr ⟨x, List.mem_of_find?_eq_some h, h1.1, h1.2, rfl⟩
theorem numOf_row {T : Int} {x : Rw} (hx : x ∈ allL) (ht : (x.t : Int) = T) : numOf T (bstr x.s) = (x.n, true) := by
  unfold numOf
  cases h : allL.find? (hitS T (bstr x.s)) with
  | none =>
    have := List.find?_eq_none.1 h x hx
    simp [hitS, ht] at this
  | some y =>
    have h1 := List.find?_some h
    have hy := List.mem_of_find?_eq_some h
    simp only [hitS, Bool.and_eq_true, decide_eq_true_eq] at h1
    have e := bstr_inj (row_ok hy).2.2.2.1 (row_ok hx).2.2.2.1 h1.2
    have := (row_ok hy).2.2.2.2 x hx (by omega) e
    simp [this]
theorem bstr_ne {x : Rw} (hx : x ∈ allL) : bstr x.s ≠ ⟨#[]⟩ := by
  intro e
  have := congrArg ByteArray.size e
  rw [bstr_size] at this
  exact (row_ok hx).2.2.1 (List.eq_nil_of_length_eq_zero this)
theorem numOf_nil (T : Int) : numOf T ⟨#[]⟩ = (0, false) := by
  unfold numOf
  rw [find_none]
  intro y hy
  simp only [hitS, Bool.and_eq_false_iff, decide_eq_false_iff_not]
  exact .inr (bstr_ne hy)
end Go.Proofs.YtjhickfjagalfaaDoor
