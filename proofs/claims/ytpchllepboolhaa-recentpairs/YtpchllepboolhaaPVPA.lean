import Derived.Test.YtpchllepboolhaaPUPA
import Derived.Maps.OwnIn
namespace Go.Proofs.Ytpchllepboolhaa.P.A
open Go.RowKit Go.Maps Go.Shelf Go.Proofs.Ytpchllepboolhaa.P
attribute [local go_sem] Oper.semAt_some
set_option linter.unusedVariables false
set_option linter.unusedSimpArgs false
set_option maxRecDepth 100000

abbrev TPo : TypeId := 36
abbrev TPf : TypeId := 89
theorem func_any (w : World) (m : Option Addr) : Calls Try.prog 28 #[.pointer m] w fun e w' =>
    e = .returned (.func (.func 83) #[] #[.pointer (some ⟨w.heap.size, 0, none⟩), .pointer (some ⟨w.heap.size + 1, 0, none⟩)]) ∧ w' = (w.alloc (.cells #[.pointer m] TPo)).alloc (.cells #[.func (.func 63) #[] #[]] TPf) := by
  have hmf : ∀ (fn : Fn) (first cap : Array Value) (w : World), (Instr.makeFunc fn first cap).run Try.prog w = .ok (.func fn first cap) w := fun _ _ _ _ => rfl
  have ht : ∀ (w : World) (fn : Fn) (fa fb : Array Value), Calls Try.prog 62 #[.pointer m, .func fn fa fb] w fun e w' =>
    e = .returned (.func (.func 83) #[] #[.pointer (some ⟨w.heap.size, 0, none⟩), .pointer (some ⟨w.heap.size + 1, 0, none⟩)]) ∧ w' = (w.alloc (.cells #[.pointer m] TPo)).alloc (.cells #[.func fn fa fb] TPf) := by
    intro w fn fa fb
    go_enter Try.func62, Try.ntmps62
    go_wp2
    go_ret
    exact ⟨rfl, rfl⟩
  go_enter Try.func28, Try.ntmps28
  go_wp2_with (go_at_call 62; refine (ht _ _ _ _).mono ?_; rintro e w9 ⟨rfl, hw9⟩; rw [hw9]; clear hw9)
  go_ret
  exact ⟨rfl, rfl⟩

end Go.Proofs.Ytpchllepboolhaa.P.A
