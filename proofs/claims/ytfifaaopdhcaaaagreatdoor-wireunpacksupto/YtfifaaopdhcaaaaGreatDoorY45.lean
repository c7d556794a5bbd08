import Derived.Test.YtfifaaopdhcaaaaGreatDoorY44
import Derived.Test.YtfifaaopdhcaaaaGreatDoorY38
import Derived.Test.YtfifaaopdhcaaaaGreatDoorY20
import Derived.Test.YtfifaaopdhcaaaaGreatDoorY21
import Derived.Deep.RegionWith
namespace Go.Proofs.YtfifaaopdhcaaaaGreatDoor
open Go.RowKit
set_option linter.unusedVariables false
set_option linter.unusedSimpArgs false
set_option maxRecDepth 100000
theorem em_eq2 (s : ByteArray) : (s.toList == (⟨#[]⟩ : ByteArray).toList) = emB s := by
  have h : (⟨#[]⟩ : ByteArray).toList = [] := by rw [Lib.toList_data]
  rw [h, ← em_eq]
  cases s.toList <;> rfl
theorem em_tx {s : ByteArray} (h : emB s = true) : tx s = true := by
  have h1 : s.size = 0 := by simpa [emB] using h
  have h2 : s = ⟨#[]⟩ := by
    apply ByteArray.ext
    have h3 : s.data.size = 0 := h1
    exact Array.eq_empty_of_size_eq_zero h3
  rw [h2]; exact tx_empty
theorem nil_dec (d : List Nat) (n : Nat) (h : d.length = n) : decide (d = []) = decide (n = 0) := by
  subst h
  cases d <;> simp
theorem z_eq (x : Nat) : ((x : Int) == ((0 : Nat) : Int)) = decide (x = 0) := by
  by_cases h : x = 0 <;> simp [h] <;> omega
end Go.Proofs.YtfifaaopdhcaaaaGreatDoor
