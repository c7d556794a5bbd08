import Derived.Test.YtjkoambfecmglaaVXz
import Derived.Deep.RegionHeld3
namespace Go.Proofs.Ytjkoambfecmglaa
open Go.RowKit
set_option linter.unusedVariables false
set_option linter.unusedSimpArgs false
set_option maxRecDepth 100000
/-- the four fields of a walk: operations, bytes now, what was played, what is owed -/
structure Wk (W : World) (P : Nat) (oa : Option Addr) (m oc : Nat) (na : Option Addr) (n nc : Nat) (pa : Option Addr) (pc : Nat) (wa : Option Addr) (d dc : Nat) : Prop where
  c0 : W.cell? ⟨P, 0, none⟩ = some (.slice oa m oc)
  c1 : W.cell? ⟨P, 1, none⟩ = some (.slice na n nc)
  c2 : W.cell? ⟨P, 2, none⟩ = some (.slice pa m pc)
  c3 : W.cell? ⟨P, 3, none⟩ = some (.slice wa d dc)
theorem whole_any {W : World} {P m oc n nc pc d dc : Nat} {oa na pa wa : Option Addr} (h : Wk W P oa m oc na n nc pa pc wa d dc) : Calls Try.prog 27 #[.pointer (some ⟨P, 0, none⟩)] W fun e w' => e = .returned (.bool (decide (d = 0))) ∧ w' = W := by
  have c3 := h.c3
  clear h
  by_cases hd : d = 0
  · subst hd
    go_enter Try.func27, Try.ntmps27
    go_wp2
    go_ret
    exact ⟨rfl, rfl⟩
  · have e1 : decide (d = 0) = false := decide_eq_false hd
    have e2 : ((d : Int) == 0) = false := by simp; omega
    rw [e1]
    clear hd
    go_enter Try.func27, Try.ntmps27
    go_wp2
    go_ret
    exact ⟨rfl, rfl⟩
end Go.Proofs.Ytjkoambfecmglaa
