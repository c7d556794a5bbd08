import Derived.Test.YtjkoambfecmglaaVRz
import Derived.Handy
namespace Go.Proofs.Ytjkoambfecmglaa
open Go.RowKit
set_option linter.unusedVariables false
set_option linter.unusedSimpArgs false
set_option maxRecDepth 100000
set_option maxHeartbeats 8000000 in
theorem inside_any (k fr t off len : Int) (da : Option Addr) (n dc : Nat) (sy : Bool) (size : Nat) (w : World) (hs : size ≤ 4096) : Calls Try.prog 62 #[.agg (Opv.mk k fr t off len da n dc sy).cells, .int .i64 (size : Int)] w fun e w' => endsBy ((decide (0 ≤ off) && decide (off ≤ (size : Int))) && (decide (0 ≤ len) && decide (len ≤ (size : Int) - off))) e ∧ Below w.heap.size w w' := by
  have HB : Hid (Below w.heap.size w (w.alloc (.cells #[.int .i64 k, .int .i64 fr, .int .i64 t, .int .i64 off, .int .i64 len, .slice da n dc, .bool sy] 50))) := (Below.refl w.heap.size w).alloc (Nat.le_refl _) _
  by_cases h1 : 0 ≤ off ∧ off ≤ (size : Int)
  · have a1 : decide (0 ≤ off) = true := decide_eq_true h1.1
    have a2 : decide (off ≤ (size : Int)) = true := decide_eq_true h1.2
    have a3 : 0 ≤ off := h1.1
    have a4 : off ≤ (size : Int) := h1.2
    have a5 : IntKind.i64.wrap ((size : Int) - off) = (size : Int) - off := by rw [IntKind.wrap_i64]; omega
    by_cases h2 : 0 ≤ len ∧ len ≤ (size : Int) - off
    · have b1 : decide (0 ≤ len) = true := decide_eq_true h2.1
      have b2 : decide (len ≤ (size : Int) - off) = true := decide_eq_true h2.2
      have b3 : 0 ≤ len := h2.1
      have b4 : len ≤ (size : Int) - off := h2.2
      have HE : Hid (((decide (0 ≤ off) && decide (off ≤ (size : Int))) && (decide (0 ≤ len) && decide (len ≤ (size : Int) - off))) = true) := by show _ = _; rw [a1, a2, b1, b2]; rfl
      go_enter Try.func62, Try.ntmps62
      go_wp2_with (first | (go_at_call 63; refine (must_yes _).mono ?_; rintro e w9 ⟨rfl, rfl⟩) | fail)
      go_returns
      exact ⟨.yes HE.out, HB.out⟩
    · have HE : Hid (((decide (0 ≤ off) && decide (off ≤ (size : Int))) && (decide (0 ≤ len) && decide (len ≤ (size : Int) - off))) = false) := by show _ = _; rw [a1, a2]; simpa using h2
      by_cases h3 : 0 ≤ len
      · have b1 : decide (0 ≤ len) = true := decide_eq_true h3
        have b2 : decide (len ≤ (size : Int) - off) = false := decide_eq_false (fun h => h2 ⟨h3, h⟩)
        have b4 : ¬ len ≤ (size : Int) - off := fun h => h2 ⟨h3, h⟩
        clear h2
        go_enter Try.func62, Try.ntmps62
        go_wp2_with (first | (go_at_call 63; refine (must_yes _).mono ?_; rintro e w9 ⟨rfl, rfl⟩) | (go_at_call 63; refine (must_no _).mono ?_; rintro e w9 ⟨rfl, rfl⟩) | fail)
        exact ⟨rfl, .no HE.out, HB.out⟩
      · have b1 : decide (0 ≤ len) = false := decide_eq_false h3
        clear h2
        go_enter Try.func62, Try.ntmps62
        go_wp2_with (first | (go_at_call 63; refine (must_yes _).mono ?_; rintro e w9 ⟨rfl, rfl⟩) | (go_at_call 63; refine (must_no _).mono ?_; rintro e w9 ⟨rfl, rfl⟩) | fail)
        exact ⟨rfl, .no HE.out, HB.out⟩
  · have HE : Hid (((decide (0 ≤ off) && decide (off ≤ (size : Int))) && (decide (0 ≤ len) && decide (len ≤ (size : Int) - off))) = false) := by
      show _ = _
      have : (decide (0 ≤ off) && decide (off ≤ (size : Int))) = false := by simpa using h1
      rw [this]; rfl
    by_cases h3 : 0 ≤ off
    · have a1 : decide (0 ≤ off) = true := decide_eq_true h3
      have a2 : decide (off ≤ (size : Int)) = false := decide_eq_false (fun h => h1 ⟨h3, h⟩)
      have a4 : ¬ off ≤ (size : Int) := fun h => h1 ⟨h3, h⟩
      clear h1
      go_enter Try.func62, Try.ntmps62
      go_wp2_with (first | (go_at_call 63; refine (must_no _).mono ?_; rintro e w9 ⟨rfl, rfl⟩) | fail)
      exact ⟨rfl, .no HE.out, HB.out⟩
    · have a1 : decide (0 ≤ off) = false := decide_eq_false h3
      clear h1
      go_enter Try.func62, Try.ntmps62
      go_wp2_with (first | (go_at_call 63; refine (must_no _).mono ?_; rintro e w9 ⟨rfl, rfl⟩) | fail)
      exact ⟨rfl, .no HE.out, HB.out⟩
end Go.Proofs.Ytjkoambfecmglaa
