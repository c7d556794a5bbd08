import Derived.Test.YtodinademhibjaaDoorRows
import Derived.WalkKit
import Derived.WalkSpells
import Derived.WalkLawsBesides
import Derived.BigQuiet
import Derived.Deep.QuietTactic
import Derived.Laws.AppendOwnNone
import Derived.Deep.RegionLawGrows
namespace Go.Proofs.YtodinademhibjaaDoor
open Go.RowKit
set_option linter.unusedVariables false
set_option linter.unusedSimpArgs false
set_option maxRecDepth 100000

theorem blk_at {w : World} {p : Nat} {cs : Array Value} {t : TypeId} {fr : Nat × Nat} (h : w.heap[p]? = some (.cells cs t fr)) (j : Nat) : w.cell? ⟨p, j, none⟩ = cs[j]? := by
  simp [World.cell?, h]
/-- the table of the commands, column by column -/
def flOf (c : Nat) : Nat := [5, 1, 1, 1, 1, 1, 19, 9].getD c 0
def chOf (c : Nat) : Bool := [false, true, false, false, true, false, true, false].getD c false
def caOf (c : Nat) : Bool := [true, true, false, false, false, false, false, false].getD c false
def beOf (c : Nat) : Nat := [22, 28, 0, 0, 22, 22, 28, 22].getD c 0
def rowC (c : Nat) : List Value := [.int .u16 (flOf c : Int), .bool (chOf c), .bool (caOf c), .int .u32 (beOf c : Int)]
def tabL : List Value := (List.range 8).flatMap rowC
/-- the table lies in memory -/
structure Tb (w : World) : Prop where
  h : ∃ t fr, w.heap[0]? = some (.cells tabL.toArray t fr)
theorem Tb.lt {w : World} (h : Tb w) : 0 < w.heap.size := by obtain ⟨t, fr, h⟩ := h.h; exact (Array.getElem?_eq_some_iff.1 h).1
theorem Tb.later {w w' : World} (h : Tb w) (hb : Below w.heap.size w w') : Tb w' := by
  have h0 := h.lt
  obtain ⟨t, fr, ha⟩ := h
  exact ⟨t, fr, (hb.block _ h0).trans ha⟩
theorem getD_out {α : Type} (l : List α) (c : Nat) (d : α) (h : l.length ≤ c) : l.getD c d = d := by simp [List.getD, List.getElem?_eq_none h]
theorem flOf_out {c : Nat} (h : 8 ≤ c) : flOf c = 0 := getD_out _ _ _ h
theorem chOf_out {c : Nat} (h : 8 ≤ c) : chOf c = false := getD_out _ _ _ h
theorem flOf_lt (c : Nat) : flOf c < 32 := by
  by_cases h : c < 8
  · rcases (show c = 0 ∨ c = 1 ∨ c = 2 ∨ c = 3 ∨ c = 4 ∨ c = 5 ∨ c = 6 ∨ c = 7 by omega) with rfl | rfl | rfl | rfl | rfl | rfl | rfl | rfl <;> decide
  · rw [flOf_out (by omega)]; decide
theorem lt8 {c : Nat} (h : c < 8) : c = 0 ∨ c = 1 ∨ c = 2 ∨ c = 3 ∨ c = 4 ∨ c = 5 ∨ c = 6 ∨ c = 7 := by omega
theorem Tb.c0 {w : World} (h : Tb w) {c : Nat} (hc : c < 8) : w.cell? ⟨0, c * 4, none⟩ = some (.int .u16 (flOf c : Int)) := by
  obtain ⟨t, fr, ha⟩ := h.h
  rw [blk_at ha]
  rcases lt8 hc with rfl | rfl | rfl | rfl | rfl | rfl | rfl | rfl <;> rfl
theorem Tb.c1 {w : World} (h : Tb w) {c : Nat} (hc : c < 8) : w.cell? ⟨0, c * 4 + 1, none⟩ = some (.bool (chOf c)) := by
  obtain ⟨t, fr, ha⟩ := h.h
  rw [blk_at ha]
  rcases lt8 hc with rfl | rfl | rfl | rfl | rfl | rfl | rfl | rfl <;> rfl
theorem Tb.c2 {w : World} (h : Tb w) {c : Nat} (hc : c < 8) : w.cell? ⟨0, c * 4 + 2, none⟩ = some (.bool (caOf c)) := by
  obtain ⟨t, fr, ha⟩ := h.h
  rw [blk_at ha]
  rcases lt8 hc with rfl | rfl | rfl | rfl | rfl | rfl | rfl | rfl <;> rfl
theorem Tb.c3 {w : World} (h : Tb w) {c : Nat} (hc : c < 8) : w.cell? ⟨0, c * 4 + 3, none⟩ = some (.int .u32 (beOf c : Int)) := by
  obtain ⟨t, fr, ha⟩ := h.h
  rw [blk_at ha]
  rcases lt8 hc with rfl | rfl | rfl | rfl | rfl | rfl | rfl | rfl <;> rfl

theorem known_any (c : Nat) (hc : c < 65536) (w : World) : Calls Tryd.prog 8 #[.int .u16 (c : Int)] w fun e w' => e = .returned (.bool (decide (c < 8))) ∧ w' = w := by
  go_enter Tryd.func8, Tryd.ntmps8
  go_wp2
  go_ret
  refine ⟨?_, rfl⟩
  congr 2
  simp
  omega
theorem rknown_any (c : Nat) (hc : c < 65536) (w : World) : Calls Tryd.prog 9 #[.int .u16 (c : Int)] w fun e w' => e = .returned (.bool (decide (c < 8))) ∧ w' = w := by
  go_enter Tryd.func9, Tryd.ntmps9
  go_wp2
  go_ret
  refine ⟨?_, rfl⟩
  congr 2
  simp
  omega
theorem allowed_any (c : Nat) (hc : c < 65536) (w : World) (hT : Tb w) : Calls Tryd.prog 10 #[.int .u16 (c : Int)] w fun e w' => e = .returned (.int .u16 (flOf c : Int)) ∧ w' = w := by
  have HK : Hid (∀ w, Calls Tryd.prog 8 #[.int .u16 (c : Int)] w fun e w' => e = .returned (.bool (decide (c < 8))) ∧ w' = w) := known_any c hc
  have HT : Hid (Tb w) := hT
  clear hT
  by_cases h8 : c < 8
  · have hd : decide (c < 8) = true := by simp [h8]
    have h0 := HT.out.c0 h8
    go_enter Tryd.func10, Tryd.ntmps10
    go_wp2_with fail
    refine (HK.out _).mono ?_
    rintro e w1 ⟨rfl, rfl⟩
    rw [hd]
    go_wp2
    go_ret
    exact ⟨rfl, rfl⟩
  · have hd : decide (c < 8) = false := by simp [h8]
    go_enter Tryd.func10, Tryd.ntmps10
    go_wp2_with fail
    refine (HK.out _).mono ?_
    rintro e w1 ⟨rfl, rfl⟩
    rw [hd]
    go_wp2
    go_ret
    refine ⟨?_, rfl⟩
    have : flOf c = 0 := flOf_out (by omega)
    rw [this]; rfl
theorem changes_any (c : Nat) (hc : c < 65536) (w : World) (hT : Tb w) : Calls Tryd.prog 12 #[.int .u16 (c : Int)] w fun e w' => e = .returned (.bool (chOf c)) ∧ w' = w := by
  have HK : Hid (∀ w, Calls Tryd.prog 8 #[.int .u16 (c : Int)] w fun e w' => e = .returned (.bool (decide (c < 8))) ∧ w' = w) := known_any c hc
  have HT : Hid (Tb w) := hT
  clear hT
  by_cases h8 : c < 8
  · have hd : decide (c < 8) = true := by simp [h8]
    have h0 := HT.out.c1 h8
    go_enter Tryd.func12, Tryd.ntmps12
    go_wp2_with fail
    refine (HK.out _).mono ?_
    rintro e w1 ⟨rfl, rfl⟩
    rw [hd]
    go_wp2
    go_ret
    exact ⟨rfl, rfl⟩
  · have hd : decide (c < 8) = false := by simp [h8]
    go_enter Tryd.func12, Tryd.ntmps12
    go_wp2_with fail
    refine (HK.out _).mono ?_
    rintro e w1 ⟨rfl, rfl⟩
    rw [hd]
    go_wp2
    go_ret
    refine ⟨?_, rfl⟩
    rw [chOf_out (by omega)]; rfl
theorem rallowed_any (c : Nat) (hc : c < 65536) (w : World) : Calls Tryd.prog 11 #[.int .u16 (c : Int)] w fun e w' => e = .returned (.int .u16 (flOf c : Int)) ∧ w' = w := by
  by_cases h8 : c < 8
  · rcases lt8 h8 with rfl | rfl | rfl | rfl | rfl | rfl | rfl | rfl <;>
    · go_enter Tryd.func11, Tryd.ntmps11
      go_wp2
      go_ret
      exact ⟨rfl, rfl⟩
  · have h1 : (7 : Int) < (c : Int) := by omega
    rw [flOf_out (by omega)]
    go_enter Tryd.func11, Tryd.ntmps11
    go_wp2
    go_ret
    exact ⟨rfl, rfl⟩
theorem rchanges_any (c : Nat) (hc : c < 65536) (w : World) : Calls Tryd.prog 13 #[.int .u16 (c : Int)] w fun e w' => e = .returned (.bool (chOf c)) ∧ w' = w := by
  by_cases h8 : c < 8
  · rcases lt8 h8 with rfl | rfl | rfl | rfl | rfl | rfl | rfl | rfl <;>
    · go_enter Tryd.func13, Tryd.ntmps13
      go_wp2
      go_ret
      exact ⟨rfl, rfl⟩
  · have h1 : (c : Int) ≠ 1 := by omega
    have h2 : (c : Int) ≠ 4 := by omega
    have h3 : (c : Int) ≠ 6 := by omega
    rw [chOf_out (by omega)]
    go_enter Tryd.func13, Tryd.ntmps13
    go_wp2
    go_ret
    refine ⟨?_, rfl⟩
    congr 2
    simp [h1, h2, h3]
end Go.Proofs.YtodinademhibjaaDoor
