import Derived.Test.YtfifaaopdhcaaaaGreatDoorY25
namespace Go.Proofs.YtfifaaopdhcaaaaGreatDoor
open Go.RowKit
set_option linter.unusedVariables false
set_option linter.unusedSimpArgs false
set_option maxRecDepth 100000
def emB (s : ByteArray) : Bool := decide (s.size = 0)
theorem em_eq (s : ByteArray) : s.toList.isEmpty = emB s := by
  rw [Lib.toList_data]
  have h : s.data.toList.length = s.size := by simp
  unfold emB
  cases hl : s.data.toList with
  | nil =>
    have h' : s.size = 0 := by rw [← h, hl]; rfl
    simp [h']
  | cons a t =>
    have h' : s.size ≠ 0 := by rw [← h, hl]; simp
    simp [h']
def exB (sz fl : Nat) : Bool := decide (sz = 0) && decide (fl = 0)
def blB (mn pf mx : Nat) : Bool := decide (mn = 0) && (decide (pf = 0) && decide (mx = 0))
/-- what an information of each kind may have -/
def ifB (k sz fl : Nat) (s : ByteArray) (mn pf mx n : Nat) : Bool :=
  if k = 0 then emB s && (blB mn pf mx && decide (n = 0))
  else if k = 1 ∨ k = 2 then exB sz fl && (tx s && (blB mn pf mx && decide (n = 0)))
  else if k = 3 then exB sz fl && (emB s && decide (n = 0))
  else exB sz fl && (emB s && blB mn pf mx)
end Go.Proofs.YtfifaaopdhcaaaaGreatDoor

namespace Go.Proofs.YtfifaaopdhcaaaaGreatDoor
open Go.RowKit
set_option linter.unusedVariables false
set_option linter.unusedSimpArgs false
set_option maxRecDepth 100000
/-- the bytes of an information -/
def inL (k sz fl : Nat) (s : ByteArray) (mn pf mx : Nat) (d : List Nat) : List Nat :=
  if k = 0 then [] ++ bigTo k 2 2 ++ bigTo sz 8 8 ++ bigTo fl 2 2
  else if k = 1 ∨ k = 2 then [] ++ bigTo k 2 2 ++ sbytes s
  else if k = 3 then [] ++ bigTo k 2 2 ++ bigTo mn 4 4 ++ bigTo pf 4 4 ++ bigTo mx 4 4
  else [] ++ bigTo k 2 2 ++ d
end Go.Proofs.YtfifaaopdhcaaaaGreatDoor
