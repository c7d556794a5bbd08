import Derived.Test.YtjhickfjagalfaaDoorJY
namespace Go.Proofs.YtjhickfjagalfaaDoor
open Go.RowKit
set_option linter.unusedVariables false
set_option linter.unusedSimpArgs false
set_option maxRecDepth 100000

/-- the law over what the calls answer -/
def NamedOk (T : Int) (n m : Nat) (a b : ByteArray) (x : Nat) (ok : Bool) : Prop :=
  (a = ⟨#[]⟩ ∧ ok = false) ∨ (a ≠ ⟨#[]⟩ ∧ ok = true ∧ x = n ∧ 1 ≤ T ∧ T ≤ 7 ∧ (n ≠ m → a ≠ b))
theorem named_ok (T : Int) (n m : Nat) : NamedOk T n m (nameOf T n) (nameOf T m) (numOf T (nameOf T n)).1 (numOf T (nameOf T n)).2 := by
  rcases nameOf_cases T n with h | ⟨x, hx, ht, hn, h⟩
  · left; rw [h, numOf_nil]; exact ⟨rfl, rfl⟩
  · right
    have h7 := row_ok hx
    rw [h, numOf_row hx ht]
    refine ⟨bstr_ne hx, rfl, hn, by omega, by omega, fun hne e => ?_⟩
    rcases nameOf_cases T m with h' | ⟨y, hy, ht', hm, h'⟩
    · rw [h'] at e; exact bstr_ne hx e
    · rw [h'] at e
      have e2 := numOf_row hx ht
      rw [e, numOf_row hy ht'] at e2
      have := congrArg Prod.fst e2
      simp at this
      omega
set_option maxHeartbeats 8000000 in
theorem wireNamed_any (T : Int) (n m : Nat) (w : World) (hT : Tb w) :
    Calls Tryd.prog 4 #[.int .i64 T, .int .u32 (n : Int), .int .u32 (m : Int)] w fun e w' => e = .returned (.bool true) ∧ Below w.heap.size w w' := by
  have HTb : Hid (Tb w) := hT
  have H1 : Hid (∀ (n : Nat) (w : World), Tb w → Calls Tryd.prog 11 #[.int .i64 T, .int .u32 (n : Int)] w fun e w' => e = .returned (.string (nameOf T n)) ∧ Below w.heap.size w w') := fun n w h => wname_any T n w h
  have H2 : Hid (∀ w, Tb w → Calls Tryd.prog 9 #[.int .i64 T, .string (nameOf T n)] w fun e w' => e = .returned (.tuple #[.int .u32 ((numOf T (nameOf T n)).1 : Int), .bool (numOf T (nameOf T n)).2]) ∧ Below w.heap.size w w') := fun w h => wnumber_any T _ w h
  have H3 : Hid (∀ w, Tb w → Calls Tryd.prog 9 #[.int .i64 T, .string ⟨#[]⟩] w fun e w' => e = .returned (.tuple #[.int .u32 0, .bool false]) ∧ Below w.heap.size w w') := fun w h => by
    have := wnumber_any T ⟨#[]⟩ w h
    rw [numOf_nil] at this
    exact this
  have H5 : Hid (∀ w, Tb w → Calls Tryd.prog 13 #[] w fun e w' => e = .returned (.bool true) ∧ Below w.heap.size w w') := alive_any
  have HOk := named_ok T n m
  have H1a := H1.out n
  have H1b := H1.out m
  generalize (numOf T (nameOf T n)).1 = x at *
  generalize (numOf T (nameOf T n)).2 = ok at *
  generalize nameOf T n = a at *
  generalize nameOf T m = b at *
  have HA : Hid _ := H1a
  have HB : Hid _ := H1b
  clear hT H1 H1a H1b
  go_enter Tryd.func4, Tryd.ntmps4
  go_wp2_with fail
  refine (HA.out _ HTb.out).mono ?_
  rintro e w1 ⟨rfl, hb⟩
  have B1 : Hid (Below w.heap.size w w1) := hb
  clear hb HA
  go_wp2_with fail
  refine (HB.out _ (HTb.out.later B1.out)).mono ?_
  rintro e w2 ⟨rfl, hb⟩
  have B2 : Hid (Below w.heap.size w w2) := B1.out.trans (hb.mono B1.out.size)
  clear hb HB B1
  go_wp2_with fail
  refine (H2.out _ (HTb.out.later B2.out)).mono ?_
  rintro e w3 ⟨rfl, hb⟩
  have B3 : Hid (Below w.heap.size w w3) := B2.out.trans (hb.mono B2.out.size)
  clear hb H2 B2
  go_wp2_with fail
  refine (H3.out _ (HTb.out.later B3.out)).mono ?_
  rintro e w4 ⟨rfl, hb⟩
  have B4 : Hid (Below w.heap.size w w4) := B3.out.trans (hb.mono B3.out.size)
  have HT4 : Hid (Tb w4) := HTb.out.later B4.out
  clear hb H3 B3 HTb
  rcases HOk with ⟨rfl, rfl⟩ | ⟨ha, rfl, rfl, ht1, ht7, hab⟩
  · by_cases h1 : (1 : Int) ≤ T
    · by_cases h7 : T ≤ 7
      · go_wp2_with fail
        refine (H5.out _ HT4.out).mono ?_
        rintro e w5 ⟨rfl, hb⟩
        have B5 : Hid (Below w.heap.size w w5) := B4.out.trans (hb.mono B4.out.size)
        clear hb H5 B4
        go_wp2
        go_ret
        exact ⟨rfl, B5.out⟩
      · have d7 : decide (T ≤ 7) = false := by simpa using h7
        go_wp2_with fail
        refine (H5.out _ HT4.out).mono ?_
        rintro e w5 ⟨rfl, hb⟩
        have B5 : Hid (Below w.heap.size w w5) := B4.out.trans (hb.mono B4.out.size)
        clear hb H5 B4
        go_wp2
        go_ret
        exact ⟨rfl, B5.out⟩
    · have d1 : decide ((1 : Int) ≤ T) = false := by simpa using h1
      go_wp2_with fail
      refine (H5.out _ HT4.out).mono ?_
      rintro e w5 ⟨rfl, hb⟩
      have B5 : Hid (Below w.heap.size w w5) := B4.out.trans (hb.mono B4.out.size)
      clear hb H5 B4
      go_wp2
      go_ret
      exact ⟨rfl, B5.out⟩
  · have e1 : (a.toList == (⟨#[]⟩ : ByteArray).toList) = false := bytes_ne ha
    have e1' : (a.toList == []) = false := by simpa using e1
    by_cases hnm : x = m
    · subst hnm
      go_wp2_with fail
      refine (H5.out _ HT4.out).mono ?_
      rintro e w5 ⟨rfl, hb⟩
      have B5 : Hid (Below w.heap.size w w5) := B4.out.trans (hb.mono B4.out.size)
      clear hb H5 B4
      go_wp2
      go_ret
      exact ⟨rfl, B5.out⟩
    · have e2 : (a.toList == b.toList) = false := bytes_ne (hab hnm)
      have e3 : ¬ ((x : Int) = (m : Int)) := by omega
      go_wp2_with fail
      refine (H5.out _ HT4.out).mono ?_
      rintro e w5 ⟨rfl, hb⟩
      have B5 : Hid (Below w.heap.size w w5) := B4.out.trans (hb.mono B4.out.size)
      clear hb H5 B4
      go_wp2
      go_ret
      exact ⟨rfl, B5.out⟩
end Go.Proofs.YtjhickfjagalfaaDoor
