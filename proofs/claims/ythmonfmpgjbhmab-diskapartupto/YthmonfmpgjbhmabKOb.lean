import Derived.Test.YthmonfmpgjbhmabKKb
import Derived.Test.YthmonfmpgjbhmabKM
namespace Go.Proofs.Ythmonfmpgjbhmab.K
open Go.RowKit Go.Maps Go.Proofs.Ythmonfmpgjbhmab
attribute [local go_sem] Oper.semAt_some
set_option linter.unusedVariables false
set_option linter.unusedSimpArgs false
set_option maxRecDepth 100000

set_option maxHeartbeats 2000000 in
/-- two disks are made -/
theorem made_bad (w : World) (n : Int) (h : n < 1 ∨ 65536 < n) : Calls Try.prog 19 #[.int .i64 n] w fun r w' => r = .returned (.tuple #[.pointer none, .pointer none, .bool true]) ∧ w' = w := by
  have h1 := new_bad w n h
  have h2 := rnew_bad w n h
  clear h
  go_enter Try.func19, Try.ntmps19
  go_wp2_with (first | (go_at_call 6; refine h1.mono ?_; clear h1; rintro e w9 ⟨rfl, hw9⟩; rw [hw9]; clear hw9) | (go_at_call 38; refine h2.mono ?_; clear h2; rintro e w9 ⟨rfl, hw9⟩; rw [hw9]; clear hw9))
  go_ret3
  exact ⟨rfl, rfl⟩
theorem made_any (w : World) (n : Nat) (h0 : 1 ≤ n) (h1 : n ≤ 65536) : Calls Try.prog 19 #[.int .i64 n] w fun r w' => ∃ b p, r = .returned (.tuple #[.pointer (some ⟨b, 0, none⟩), .pointer (some ⟨p, 0, none⟩), .bool true]) ∧ ∃ ms ml, Hs w w' b ms ml (.slice none 0 0) (.slice none 0 0) (newDk n) ∧ RRf w' p n (.slice none 0 0) 0 ∧ w.heap.size ≤ p ∧ p ∉ fp b ms ml (.slice none 0 0) (.slice none 0 0) := by
  have hn := new_any w n h0 h1
  have hr := fun w => rnew_any w n h0 h1
  have HR := (show Hid _ from hr)
  clear hr h0 h1
  go_enter Try.func19, Try.ntmps19
  go_wp2_with (first | (go_at_call 6; refine hn.mono ?_; clear hn; rintro e w1 ⟨b, rfl, ms, ml, hrk, hb1, hf1⟩; have HS : Hid (Hs w w1 b ms ml (.slice none 0 0) (.slice none 0 0) (newDk n)) := ⟨hrk, hb1, hf1⟩; clear hrk hb1 hf1) | (go_at_call 38; refine (HR.out w1).mono ?_; clear HR; rintro e w2 ⟨rfl, hrf, hb2⟩; have HF : Hid (RRf w2 w1.heap.size n (.slice none 0 0) 0) := hrf; have HB : Hid (Below w1.heap.size w1 w2) := hb2; clear hrf hb2))
  go_ret3
  refine ⟨b, w1.heap.size, rfl, ms, ml, HS.out.later HB.out, HF.out, HS.out.bl.size, fun hm => ?_⟩
  have := HS.out.rk.lt _ hm
  omega
end Go.Proofs.Ythmonfmpgjbhmab.K
