import Derived.Test.YtjikibhhhchgeaaDoorY17
import Derived.Test.YtjikibhhhchgeaaDoorY13
import Derived.Test.YtjikibhhhchgeaaDoorY8
import Derived.Lib.ConvBytes
namespace Go.Proofs.YtjikibhhhchgeaaDoor
open Go.RowKit
set_option linter.unusedVariables false
set_option linter.unusedSimpArgs false
set_option maxRecDepth 100000
/-- a text of the wire -/
def tx (s : ByteArray) : Bool := decide (s.size ≤ 4096) && plainB s.data.toList
theorem tx_true {s : ByteArray} (h : tx s = true) : s.size ≤ 4096 ∧ plainB s.data.toList = true := by simpa [tx] using h
theorem tx_empty : tx ⟨#[]⟩ = true := by decide
set_option maxHeartbeats 1000000 in
theorem isText_any (s : ByteArray) (w : World) (hs : s.size ≤ 9223372036854775807) (hT : Tabs w) : Calls Tryd.prog 90 #[.string s] w fun e w' => e = .returned (.bool (tx s)) ∧ Below w.heap.size w w' := by
  have HP : Hid (Calls Tryd.prog 114 #[.string s] w fun e w' => e = .returned (.bool (plainB s.data.toList)) ∧ Below w.heap.size w w') := plain_any s w hs hT
  clear hT
  unfold tx
  generalize plainB s.data.toList = b at *
  by_cases h : s.size ≤ 4096
  · have h1 : decide (s.size ≤ 4096) = true := by simp [h]
    have h2 : decide ((s.size : Int) ≤ 4096) = true := by simp; omega
    rw [h1, Bool.true_and]
    have HH : Hid (s.size ≤ 4096) := h
    clear h h1
    go_enter Tryd.func90, Tryd.ntmps90
    go_wp2_with fail
    refine HP.out.mono ?_
    rintro e w1 ⟨rfl, hb⟩
    go_wp2
    go_ret
    exact ⟨rfl, hb⟩
  · have h1 : decide (s.size ≤ 4096) = false := by simp; omega
    have h2 : decide ((s.size : Int) ≤ 4096) = false := by simp; omega
    rw [h1, Bool.false_and]
    clear h h1 HP
    go_enter Tryd.func90, Tryd.ntmps90
    go_wp2
    go_ret
    exact ⟨rfl, Below.refl _ _⟩
set_option maxHeartbeats 1000000 in
theorem rText_any (s : ByteArray) (w : World) (hs : s.size ≤ 9223372036854775807) : Calls Tryd.prog 96 #[.string s] w fun e w' => e = .returned (.bool (tx s)) ∧ Below w.heap.size w w' := by
  have HP : Hid (Calls Tryd.prog 116 #[.string s] w fun e w' => e = .returned (.bool (plainB s.data.toList)) ∧ Below w.heap.size w w') := (refPlain_any s w hs).mono fun e w' h => ⟨h.1, by rw [h.2]; exact Below.refl _ _⟩
  unfold tx
  generalize plainB s.data.toList = b at *
  by_cases h : s.size ≤ 4096
  · have h1 : decide (s.size ≤ 4096) = true := by simp [h]
    have h2 : decide ((s.size : Int) ≤ 4096) = true := by simp; omega
    rw [h1, Bool.true_and]
    clear h h1
    go_enter Tryd.func96, Tryd.ntmps96
    go_wp2_with fail
    refine HP.out.mono ?_
    rintro e w1 ⟨rfl, hb⟩
    go_wp2
    go_ret
    exact ⟨rfl, hb⟩
  · have h1 : decide (s.size ≤ 4096) = false := by simp; omega
    have h2 : decide ((s.size : Int) ≤ 4096) = false := by simp; omega
    rw [h1, Bool.false_and]
    clear h h1 HP
    go_enter Tryd.func96, Tryd.ntmps96
    go_wp2
    go_ret
    exact ⟨rfl, Below.refl _ _⟩
/-- a text turned to bytes: a row of its own -/
theorem conv_any (s : ByteArray) (w : World) (hs : s.size ≤ 4096) : ∃ w' cp, (convert 9 25 (.string s)).run Tryd.prog w = .ok (.slice (some ⟨w.heap.size, 0, none⟩) s.size cp) w' ∧ Below w.heap.size w w' ∧ BRow w' (some ⟨w.heap.size, 0, none⟩) cp (sbytes s) := by
  refine ⟨_, _, Lib.run_convert_string_bytes w 9 25 5 s Tryd.underlying9 Tryd.underlying25 Tryd.underlying5, ⟨rfl, rfl, rfl, by rw [Lib.bytesWorld_size]; omega, fun k hk => Lib.bytesWorld_at_old w 5 _ k hk⟩, ?_⟩
  refine ⟨sbytes_lt s, by rw [sbytes_length]; omega, (fun h => by cases h), fun _ => ⟨_, _, rfl, fun k hk => ?_⟩⟩
  have hk' : k < s.size := by rw [← sbytes_length]; exact hk
  rw [Nat.zero_add, Lib.bytesWorld_cell w 5 s k hk']
  have hk2 : k < s.data.toList.length := by simpa using hk'
  have hk3 : k < s.data.size := hk'
  simp [bv, sbytes, List.getD, hk2]
  rw [Array.getElem?_eq_getElem hk3]
  rfl
end Go.Proofs.YtjikibhhhchgeaaDoor
