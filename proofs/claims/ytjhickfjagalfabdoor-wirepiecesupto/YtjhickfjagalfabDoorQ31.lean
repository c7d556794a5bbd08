import Derived.Test.YtjhickfjagalfabDoorQ17
import Derived.Test.YtjhickfjagalfabDoorQ29
import Derived.Test.YtjhickfjagalfabDoorQ30
import Derived.Test.YtjhickfjagalfabDoorQ25
namespace Go.Proofs.YtjhickfjagalfabDoor
open Go.RowKit
set_option linter.unusedVariables false
set_option linter.unusedSimpArgs false
set_option maxRecDepth 100000
theorem decExportA0 (ao : Option Addr) (cap : Nat) (l : List Nat) (w : World) (h : CRow w ao cap l) :
    Calls Tryd.prog 34 #[.slice ao l.length cap, .bool false] w fun e w' => ∃ (s f n er : Nat), e = .returned (.tuple #[.agg #[.int .u64 (s : Int), .int .u16 (f : Int)], .int .i64 (n : Int), .int .i64 (er : Int)]) ∧ expD false l = ((s, f), n, er) ∧ Below w.heap.size w w' := by
  have hz : xz false = 10 := rfl
  unfold expD
  rw [hz]
  by_cases h1 : l.length < 10
  · rw [if_pos h1]
    refine (decExport0_short ao cap l.length w h1).mono ?_
    rintro e w' ⟨rfl, hb⟩
    exact ⟨0, 0, 10, 10, rfl, rfl, hb⟩
  rw [if_neg h1]
  obtain ⟨b, off, rfl⟩ := h.some (by omega)
  by_cases h2 : xzs false l = false
  · rw [if_pos h2]
    have h3 : ∃ x ∈ (l.take 10).drop 10, x ≠ 0 := by
      unfold xzs at h2
      rw [hz, List.all_eq_false] at h2
      obtain ⟨x, hx, hx0⟩ := h2
      exact ⟨x, hx, by simpa using hx0⟩
    refine (decExport0_form b off cap l.length l w h rfl (by omega) h3).mono ?_
    rintro e w' ⟨rfl, hb⟩
    exact ⟨0, 0, 0, 81, rfl, rfl, hb⟩
  rw [if_neg h2]
  have h3 : ∀ x ∈ (l.take 10).drop 10, x = 0 := fun x hx => by
    have h2' : xzs false l = true := by simpa using h2
    unfold xzs at h2'
    rw [hz, List.all_eq_true] at h2'
    simpa using h2' x hx
  refine (decExport0_ok b off cap l.length l (vl l 0 8) (vl l 8 2) w h rfl (by omega) rfl rfl h3).mono ?_
  rintro e w' ⟨rfl, hb⟩
  exact ⟨_, _, 10, 0, rfl, rfl, hb⟩
theorem decExportA1 (ao : Option Addr) (cap : Nat) (l : List Nat) (w : World) (h : CRow w ao cap l) :
    Calls Tryd.prog 34 #[.slice ao l.length cap, .bool true] w fun e w' => ∃ (s f n er : Nat), e = .returned (.tuple #[.agg #[.int .u64 (s : Int), .int .u16 (f : Int)], .int .i64 (n : Int), .int .i64 (er : Int)]) ∧ expD true l = ((s, f), n, er) ∧ Below w.heap.size w w' := by
  have hz : xz true = 134 := rfl
  unfold expD
  rw [hz]
  by_cases h1 : l.length < 134
  · rw [if_pos h1]
    refine (decExport1_short ao cap l.length w h1).mono ?_
    rintro e w' ⟨rfl, hb⟩
    exact ⟨0, 0, 134, 10, rfl, rfl, hb⟩
  rw [if_neg h1]
  obtain ⟨b, off, rfl⟩ := h.some (by omega)
  by_cases h2 : xzs true l = false
  · rw [if_pos h2]
    have h3 : ∃ x ∈ (l.take 134).drop 10, x ≠ 0 := by
      unfold xzs at h2
      rw [hz, List.all_eq_false] at h2
      obtain ⟨x, hx, hx0⟩ := h2
      exact ⟨x, hx, by simpa using hx0⟩
    refine (decExport1_form b off cap l.length l w h rfl (by omega) h3).mono ?_
    rintro e w' ⟨rfl, hb⟩
    exact ⟨0, 0, 0, 81, rfl, rfl, hb⟩
  rw [if_neg h2]
  have h3 : ∀ x ∈ (l.take 134).drop 10, x = 0 := fun x hx => by
    have h2' : xzs true l = true := by simpa using h2
    unfold xzs at h2'
    rw [hz, List.all_eq_true] at h2'
    simpa using h2' x hx
  refine (decExport1_ok b off cap l.length l (vl l 0 8) (vl l 8 2) w h rfl (by omega) rfl rfl h3).mono ?_
  rintro e w' ⟨rfl, hb⟩
  exact ⟨_, _, 134, 0, rfl, rfl, hb⟩
theorem decExportA (ao : Option Addr) (cap : Nat) (l : List Nat) (z : Bool) (w : World) (h : CRow w ao cap l) :
    Calls Tryd.prog 34 #[.slice ao l.length cap, .bool z] w fun e w' => ∃ (s f n er : Nat), e = .returned (.tuple #[.agg #[.int .u64 (s : Int), .int .u16 (f : Int)], .int .i64 (n : Int), .int .i64 (er : Int)]) ∧ expD z l = ((s, f), n, er) ∧ Below w.heap.size w w' := by
  cases z with
  | false => exact decExportA0 ao cap l w h
  | true => exact decExportA1 ao cap l w h
end Go.Proofs.YtjhickfjagalfabDoor
