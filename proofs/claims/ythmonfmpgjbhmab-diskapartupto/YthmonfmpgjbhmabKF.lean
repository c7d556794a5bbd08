import Derived.Test.YthmonfmpgjbhmabKR
namespace Go.Proofs.Ythmonfmpgjbhmab.K
open Go.RowKit Go.Maps Go.Proofs.Ythmonfmpgjbhmab
attribute [local go_sem] Oper.semAt_some
set_option linter.unusedVariables false
set_option linter.unusedSimpArgs false
set_option maxRecDepth 100000

def f0 : Value := .agg #[.int .i64 0, .int .i64 0, .int .i64 0, .int .i64 0, .bool false]
set_option maxHeartbeats 2000000 in
theorem fail_none {w : World} {lk : Int} {b ms ml : Nat} {qv fv : Value} {S : Dk} (h : RK w lk b ms ml qv fv S) (hf : S.fs = []) (kind s : Int) :
    Calls Try.prog 29 #[.pointer (some ⟨b, 0, none⟩), .int .i64 kind, .int .i64 s] w fun r w' => r = .returned (.tuple #[.agg #[.int .i64 0, .int .i64 0, .int .i64 0, .int .i64 0, .bool false], .bool false]) ∧ Below w.heap.size w w' := by
  have hB0 : Below w.heap.size w (w.alloc (.cells #[.int .i64 0, .int .i64 0, .int .i64 0, .int .i64 0, .bool false] TFa)) := (Below.refl _ w).alloc (Nat.le_refl _) _
  have HB : Hid (Below w.heap.size w (w.alloc (.cells #[.int .i64 0, .int .i64 0, .int .i64 0, .int .i64 0, .bool false] TFa))) := hB0
  have h0 := h.later hB0
  have c6 : (w.alloc (.cells #[.int .i64 0, .int .i64 0, .int .i64 0, .int .i64 0, .bool false] TFa)).cell? ⟨b, 6, none⟩ = some fv := h0.c 6
  obtain ⟨ao, cap, rfl⟩ : ∃ ao cap, fv = .slice ao 0 cap := by
    have h1 := h.fr
    rw [hf] at h1
    rcases h1.2 with ⟨rfl, _⟩ | ⟨g, cap, cur, rfl, _⟩
    · exact ⟨_, _, rfl⟩
    · exact ⟨_, _, rfl⟩
  clear h h0 hf hB0
  go_enter Try.func29, Try.ntmps29
  go_wp2
  refine wp_loop_rounds 1 ?_
  rw [rounds_succ]
  go_wp2
  exact bodyPost_ret (v := .tuple #[.agg #[.int .i64 0, .int .i64 0, .int .i64 0, .int .i64 0, .bool false], .bool false]) (by simp [results, Try.results29, asAddr, go_sem]) rfl ⟨rfl, HB.out⟩
end Go.Proofs.Ythmonfmpgjbhmab.K
