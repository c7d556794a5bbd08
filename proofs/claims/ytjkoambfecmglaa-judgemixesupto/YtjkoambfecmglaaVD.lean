import Derived.Test.YtjkoambfecmglaaVC
namespace Go.Proofs.Ytjkoambfecmglaa
open Go.RowKit
set_option linter.unusedVariables false
set_option linter.unusedSimpArgs false
set_option maxRecDepth 100000
set_option maxHeartbeats 2000000 in
theorem before_any (a b : Opv) (w : World) : Calls Try.prog 54 #[.agg a.cells, .agg b.cells] w fun e w' => e = .returned (.bool (a.bef b)) ∧ Below w.heap.size w w' := by
  obtain ⟨k, fr, t, off, len, da, n, dc, sy⟩ := a
  obtain ⟨k', fr', t', off', len', da', n', dc', sy'⟩ := b
  have HB : Hid _ := belowTwo w (Obj.cells #[.int .i64 k, .int .i64 fr, .int .i64 t, .int .i64 off, .int .i64 len, .slice da n dc, .bool sy] 50) (Obj.cells #[.int .i64 k', .int .i64 fr', .int .i64 t', .int .i64 off', .int .i64 len', .slice da' n' dc', .bool sy'] 50)
  have HA : Hid (∀ W, Calls Try.prog 43 #[.agg #[.int .i64 k, .int .i64 fr, .int .i64 t, .int .i64 off, .int .i64 len, .slice da n dc, .bool sy]] W fun e w' => e = .returned (.bool (t != -1)) ∧ Below W.heap.size W w') := fun W => answered_any ⟨k, fr, t, off, len, da, n, dc, sy⟩ W
  by_cases ht : t = -1
  · subst ht
    have e1 : Opv.bef ⟨k, fr, -1, off, len, da, n, dc, sy⟩ ⟨k', fr', t', off', len', da', n', dc', sy'⟩ = false := rfl
    rw [e1]
    go_enter Try.func54, Try.ntmps54
    go_wp2_with fail
    refine Calls.mono (HA.out _) ?_
    rintro e W1 ⟨rfl, hb⟩
    have HB1 : Hid (Below w.heap.size w W1) := HB.out.trans (hb.mono HB.out.size)
    clear hb
    go_wp2
    go_ret
    exact ⟨rfl, HB1.out⟩
  · have f0 : (t == -1) = false := by rw [beq_eq_false_iff_ne]; exact ht
    have f1 : (t != -1) = true := by simp [bne, f0]
    obtain ⟨c, hc⟩ : ∃ c, decide (t < fr') = c := ⟨_, rfl⟩
    have e1 : Opv.bef ⟨k, fr, t, off, len, da, n, dc, sy⟩ ⟨k', fr', t', off', len', da', n', dc', sy'⟩ = c := by
      show ((t != -1) && decide (t < fr')) = c
      rw [f1, hc]; rfl
    rw [e1]
    rw [f1] at HA
    have HC : Hid (∀ W, Below ((w.alloc (Obj.cells #[.int .i64 k, .int .i64 fr, .int .i64 t, .int .i64 off, .int .i64 len, .slice da n dc, .bool sy] 50)).alloc (Obj.cells #[.int .i64 k', .int .i64 fr', .int .i64 t', .int .i64 off', .int .i64 len', .slice da' n' dc', .bool sy'] 50)).heap.size ((w.alloc (Obj.cells #[.int .i64 k, .int .i64 fr, .int .i64 t, .int .i64 off, .int .i64 len, .slice da n dc, .bool sy] 50)).alloc (Obj.cells #[.int .i64 k', .int .i64 fr', .int .i64 t', .int .i64 off', .int .i64 len', .slice da' n' dc', .bool sy'] 50)) W → W.cell? ⟨w.heap.size, 2, none⟩ = some (.int .i64 t) ∧ W.cell? ⟨w.heap.size + 1, 1, none⟩ = some (.int .i64 fr')) := fun W hb => by
      constructor
      · refine cell_later hb ?_
        go_simp
      · refine cell_later hb ?_
        go_simp
    go_enter Try.func54, Try.ntmps54
    go_wp2_with fail
    refine Calls.mono (HA.out _) ?_
    rintro e W1 ⟨rfl, hb⟩
    have HB1 : Hid (Below w.heap.size w W1) := HB.out.trans (hb.mono HB.out.size)
    obtain ⟨c1, c2⟩ := HC.out W1 hb
    clear hb HC
    go_wp2
    all_goals go_ret
    all_goals exact ⟨by simp_all, HB1.out⟩
end Go.Proofs.Ytjkoambfecmglaa
