import Derived.Test.YtjkoambfecmglaaVB
namespace Go.Proofs.Ytjkoambfecmglaa
open Go.RowKit
set_option linter.unusedVariables false
set_option linter.unusedSimpArgs false
set_option maxRecDepth 100000
theorem belowTwo (w : World) (o1 o2 : Obj) : Below w.heap.size w ((w.alloc o1).alloc o2) := ((Below.refl w.heap.size w).alloc (Nat.le_refl _) o1).alloc (by simp) o2
abbrev opc (k fr t off len : Int) (da : Option Addr) (n dc : Nat) (sy : Bool) : Array Value := #[.int .i64 k, .int .i64 fr, .int .i64 t, .int .i64 off, .int .i64 len, .slice da n dc, .bool sy]
set_option maxHeartbeats 2000000 in
theorem rBefore_any (a b : Opv) (w : World) : Calls Try.prog 52 #[.agg a.cells, .agg b.cells] w fun e w' => e = .returned (.bool (a.bef b)) ∧ Below w.heap.size w w' := by
  obtain ⟨k, fr, t, off, len, da, n, dc, sy⟩ := a
  obtain ⟨k', fr', t', off', len', da', n', dc', sy'⟩ := b
  have HB : Hid _ := belowTwo w (Obj.cells #[.int .i64 k, .int .i64 fr, .int .i64 t, .int .i64 off, .int .i64 len, .slice da n dc, .bool sy] 50) (Obj.cells #[.int .i64 k', .int .i64 fr', .int .i64 t', .int .i64 off', .int .i64 len', .slice da' n' dc', .bool sy'] 50)
  by_cases ht : t = -1
  · subst ht
    have e1 : Opv.bef ⟨k, fr, -1, off, len, da, n, dc, sy⟩ ⟨k', fr', t', off', len', da', n', dc', sy'⟩ = false := rfl
    rw [e1]
    go_enter Try.func52, Try.ntmps52
    go_wp2
    go_ret
    exact ⟨rfl, HB.out⟩
  · have f0 : (t == -1) = false := by rw [beq_eq_false_iff_ne]; exact ht
    have f1 : (t != -1) = true := by simp [bne, f0]
    obtain ⟨c, hc⟩ : ∃ c, decide (t < fr') = c := ⟨_, rfl⟩
    have e1 : Opv.bef ⟨k, fr, t, off, len, da, n, dc, sy⟩ ⟨k', fr', t', off', len', da', n', dc', sy'⟩ = c := by
      show ((t != -1) && decide (t < fr')) = c
      rw [f1, hc]; rfl
    rw [e1]
    go_enter Try.func52, Try.ntmps52
    go_wp2
    all_goals go_ret
    all_goals exact ⟨by simp_all, HB.out⟩
end Go.Proofs.Ytjkoambfecmglaa
