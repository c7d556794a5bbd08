import Derived.Test.YtfifaaopdhcaaaaGreatDoorY15
import Derived.Test.YtfifaaopdhcaaaaGreatDoorY12
import Derived.Test.YtfifaaopdhcaaaaGreatDoorY8
import Derived.Lib.ConvBytes
namespace Go.Proofs.YtfifaaopdhcaaaaGreatDoor
open Go.RowKit
set_option linter.unusedVariables false
set_option linter.unusedSimpArgs false
set_option maxRecDepth 100000
/-- a text of the wire -/
def tx (s : ByteArray) : Bool := decide (s.size ≤ 4096) && plainB s.data.toList
theorem tx_true {s : ByteArray} (h : tx s = true) : s.size ≤ 4096 ∧ plainB s.data.toList = true := by simpa [tx] using h
theorem tx_empty : tx ⟨#[]⟩ = true := by decide
set_option maxHeartbeats 1000000 in
theorem isText_any (s : ByteArray) (w : World) (hs : s.size ≤ 9223372036854775807) (hT : Tabs w) : Calls Tryz.prog 65 #[.string s] w fun e w' => e = .returned (.bool (tx s)) ∧ Below w.heap.size w w' := by
  have HP : Hid (Calls Tryz.prog 92 #[.string s] w fun e w' => e = .returned (.bool (plainB s.data.toList)) ∧ Below w.heap.size w w') := plain_any s w hs hT
  clear hT
  unfold tx
  generalize plainB s.data.toList = b at *
  by_cases h : s.size ≤ 4096
  · have h1 : decide (s.size ≤ 4096) = true := by simp [h]
    have h2 : decide ((s.size : Int) ≤ 4096) = true := by simp; omega
    rw [h1, Bool.true_and]
    have HH : Hid (s.size ≤ 4096) := h
    clear h h1
    go_enter Tryz.func65, Tryz.ntmps65
    go_wp2_with fail
    refine HP.out.mono ?_
    rintro e w1 ⟨rfl, hb⟩
    go_wp2
    go_ret
    exact ⟨rfl, hb⟩
  · have h1 : decide (s.size ≤ 4096) = false := by simp; omega
    have h2 : decide ((s.size : Int) ≤ 4096) = false := by simp; omega
    rw [h1, Bool.false_and]
    clear h h1 HP
    go_enter Tryz.func65, Tryz.ntmps65
    go_wp2
    go_ret
    exact ⟨rfl, Below.refl _ _⟩
set_option maxHeartbeats 1000000 in
theorem rText_any (s : ByteArray) (w : World) (hs : s.size ≤ 9223372036854775807) : Calls Tryz.prog 49 #[.string s] w fun e w' => e = .returned (.bool (tx s)) ∧ Below w.heap.size w w' := by
  have HP : Hid (Calls Tryz.prog 76 #[.string s] w fun e w' => e = .returned (.bool (plainB s.data.toList)) ∧ Below w.heap.size w w') := (refPlain_any s w hs).mono fun e w' h => ⟨h.1, by rw [h.2]; exact Below.refl _ _⟩
  unfold tx
  generalize plainB s.data.toList = b at *
  by_cases h : s.size ≤ 4096
  · have h1 : decide (s.size ≤ 4096) = true := by simp [h]
    have h2 : decide ((s.size : Int) ≤ 4096) = true := by simp; omega
    rw [h1, Bool.true_and]
    clear h h1
    go_enter Tryz.func49, Tryz.ntmps49
    go_wp2_with fail
    refine HP.out.mono ?_
    rintro e w1 ⟨rfl, hb⟩
    go_wp2
    go_ret
    exact ⟨rfl, hb⟩
  · have h1 : decide (s.size ≤ 4096) = false := by simp; omega
    have h2 : decide ((s.size : Int) ≤ 4096) = false := by simp; omega
    rw [h1, Bool.false_and]
    clear h h1 HP
    go_enter Tryz.func49, Tryz.ntmps49
    go_wp2
    go_ret
    exact ⟨rfl, Below.refl _ _⟩
/-- a text turned to bytes: a row of its own -/
theorem conv_any (s : ByteArray) (w : World) (hs : s.size ≤ 4096) : ∃ w' cp, (convert 9 22 (.string s)).run Tryz.prog w = .ok (.slice (some ⟨w.heap.size, 0, none⟩) s.size cp) w' ∧ Below w.heap.size w w' ∧ BRow w' (some ⟨w.heap.size, 0, none⟩) cp (sbytes s) := by
  refine ⟨_, _, Lib.run_convert_string_bytes w 9 22 5 s Tryz.underlying9 Tryz.underlying22 Tryz.underlying5, ⟨rfl, rfl, rfl, by rw [Lib.bytesWorld_size]; omega, fun k hk => Lib.bytesWorld_at_old w 5 _ k hk⟩, ?_⟩
  refine ⟨sbytes_lt s, by rw [sbytes_length]; omega, (fun h => by cases h), fun _ => ⟨_, _, rfl, fun k hk => ?_⟩⟩
  have hk' : k < s.size := by rw [← sbytes_length]; exact hk
  rw [Nat.zero_add, Lib.bytesWorld_cell w 5 s k hk']
  have hk2 : k < s.data.toList.length := by simpa using hk'
  have hk3 : k < s.data.size := hk'
  simp [bv, sbytes, List.getD, hk2]
  rw [Array.getElem?_eq_getElem hk3]
  rfl
end Go.Proofs.YtfifaaopdhcaaaaGreatDoor

namespace Go.Proofs.YtfifaaopdhcaaaaGreatDoor
open Go.RowKit
set_option linter.unusedVariables false
set_option linter.unusedSimpArgs false
set_option maxRecDepth 100000
/-- what Pack answers -/
def Pk (w : World) (L : List Nat) (E : Nat) (e : Ending) (w' : World) : Prop := ∃ ao cap n, e = .returned (.tuple #[.slice ao n cap, .int .i64 (E : Int)]) ∧ L.length = n ∧ Row w w' ao cap L
theorem pk_none {w w' : World} {E : Nat} (h : Below w.heap.size w w') : Pk w [] E (.returned (.tuple #[.slice none 0 0, .int .i64 (E : Int)])) w' :=
  ⟨none, 0, 0, rfl, rfl, World.ownsRow_nil _ _ _ _, by simp, h⟩
def hoL (off ln : Nat) : List Nat := [] ++ bigTo off 8 8 ++ bigTo ln 4 4
def daL (off : Nat) (m : List Nat) : List Nat := [] ++ bigTo off 8 8 ++ m
def meL (c : Nat) (s : ByteArray) : List Nat := [] ++ bigTo c 4 4 ++ sbytes s
def seL (s : ByteArray) (m : List Nat) : List Nat := [] ++ (bigTo s.size 4 4 ++ sbytes s) ++ m
def erL1 (c : Nat) (s : ByteArray) (a : Nat) : List Nat := [] ++ bigTo c 4 4 ++ bigTo s.size 2 2 ++ sbytes s ++ bigTo a 8 8
def erL0 (c : Nat) (s : ByteArray) : List Nat := [] ++ bigTo c 4 4 ++ bigTo s.size 2 2 ++ sbytes s
end Go.Proofs.YtfifaaopdhcaaaaGreatDoor
