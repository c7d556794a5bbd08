import Derived.Test.YtncajaihojhkkaaGreatXL
import Derived.Test.YtncajaihojhkkaaGreatProg
import Derived.WalkKit
import Derived.Defers
import Derived.Recover
import Derived.RegionTactic
import Derived.Test.YtncajaihojhkkaaGreatXB
import Derived.Laws.Pointers
namespace Go.Proofs.YtncajaihojhkkaaGreat.S
open Go.RowKit Go.Sort
set_option linter.unusedVariables false
set_option linter.unusedSimpArgs false
set_option maxRecDepth 100000

theorem alike1_idle (w : World) : CallsD Tryz.prog 39 #[] .returning w fun e u' w' => e = .returned (.tuple #[]) ∧ u' = .returning ∧ w' = w := by
  refine callsD_of_wpS Tryz.func39 rfl fun c₀ cs hu => ?_
  apply wpS_region
  cases c₀
  simp_all [wpOpsS, go_sem, recoverD, hu, Tryz.ntmps39, Exit.thenS, bodyPostS, results, Tryz.results39]

theorem alike_any (a b : ByteArray) (w : World) : Calls Tryz.prog 28 #[.string a, .string b] w fun e w' => e = .returned (.bool (decide (a = b))) ∧ w' = w := by
  have hmf : ∀ (fn : Fn) (first cap : Array Value) (w : World), (Instr.makeFunc fn first cap).run Tryz.prog w = .ok (.func fn first cap) w := fun _ _ _ _ => rfl
  go_enter_defers Tryz.func28, Tryz.ntmps28
  go_wp2
  refine leaves_cons (f := 39) (args := #[]) (by simp) (by simp [go_sem]) ?_
  refine (alike1_idle _).mono ?_
  rintro e u' w'' ⟨rfl, rfl, rfl⟩
  simp [Leaves, settle, results, Tryz.results28, go_sem]
  by_cases h : a = b
  · subst h; simp
  · rw [decide_eq_false h, beq_eq_false_iff_ne]
    intro e
    rw [Lib.toList_data, Lib.toList_data] at e
    obtain ⟨⟨x⟩⟩ := a
    obtain ⟨⟨y⟩⟩ := b
    simp at e
    exact h (by rw [e])

theorem usable_nil (w : World) : Calls Tryz.prog 22 #[.pointer none] w fun e w' => e = .returned (.bool false) ∧ w' = w := by
  go_enter Tryz.func22, Tryz.ntmps22
  go_wp2
  go_ret
  exact ⟨rfl, rfl⟩
theorem usable_at (p : Nat) (x : Bool) (w : World) (h0 : w.cell? ⟨p, 0, none⟩ = some (.bool x)) : Calls Tryz.prog 22 #[.pointer (some ⟨p, 0, none⟩)] w fun e w' => e = .returned (.bool x) ∧ w' = w := by
  go_enter Tryz.func22, Tryz.ntmps22
  go_wp2
  go_ret
  exact ⟨rfl, rfl⟩

set_option maxHeartbeats 2000000 in
theorem find1_any (bM bI bm g n cap : Nat) (k : Nat) (i h : Int) (W : World) (hk : k < n)
    (hm : W.cell? ⟨bM, 0, none⟩ = some (.pointer (some ⟨bm, 0, none⟩))) (hi : W.cell? ⟨bI, 0, none⟩ = some (.int .i64 i))
    (hr : W.cell? ⟨bm, 2, none⟩ = some (.slice (some ⟨g, 0, none⟩) n cap)) (hc : W.cell? ⟨g, k * 3 + 1, none⟩ = some (.int .i64 h)) :
    Calls Tryz.prog 48 (#[.int .i64 k] ++ #[.pointer (some ⟨bM, 0, none⟩), .pointer (some ⟨bI, 0, none⟩)]) W fun e w' => e = .returned (.bool (decide (i < h))) ∧ ∃ q, w' = W.drewN q := by
  have hkz : (k : Int) < (n : Int) := by omega
  go_enter Tryz.func48, Tryz.ntmps48
  go_wp2
  go_region
  all_goals go_wp2
  all_goals go_ret
  all_goals exact ⟨by first | rfl | simp, 1, rfl⟩
end Go.Proofs.YtncajaihojhkkaaGreat.S
