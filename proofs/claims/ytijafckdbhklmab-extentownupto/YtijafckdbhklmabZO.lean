import Derived.Test.YtijafckdbhklmabZK
namespace Go.Proofs.Ytijafckdbhklmab.B
open Go.RowKit Go.Sort Go.Lib Go.Shelf
attribute [local go_sem] Oper.semAt_some
set_option linter.unusedVariables false
set_option linter.unusedSimpArgs false
set_option maxRecDepth 100000

theorem union_own {w : World} {v1 v2 : Value} {la lb : List (Int × Int)} (h1 : SL w v1 la) (h2 : SL w v2 lb) :
    Calls Try.prog 26 #[v1, v2] w fun e w' => ∃ v L, e = .returned v ∧ Norm L (fun i => inL la i ∨ inL lb i) ∧ w'.ownsRow w.heap.size TRng 2 v L.length (pcells L) ∧ Below w.heap.size w w' := by
  obtain ⟨ao, ca, rfl, hna, HA⟩ := h1
  obtain ⟨bo, cb, rfl, hnb, HB⟩ := h2
  have HP : Hid (Calls Try.prog 48 #[.slice ao la.length ca, .slice bo lb.length cb, .func (.func 49) #[] #[]] w fun e w' => ∃ v L, e = .returned v ∧ Norm L (fun i => inL la i ∨ inL lb i) ∧ w'.ownsRow w.heap.size TRng 2 v L.length (pcells L) ∧ Below w.heap.size w w') := by
    refine (picked_any (.inl ⟨rfl, rfl⟩) ao bo ca _ cb _ la lb w rfl hna HA rfl hnb HB).mono ?_
    rintro e w' ⟨v, ra, rb, rfl, sa, sb, ho, hb⟩
    have hN := norm_pick (p := fun a b => a || b) (S := fun i => inL la i ∨ inL lb i) sa sb (fun i x y hx hy => by rw [← hx, ← hy, Bool.or_eq_true])
    exact ⟨v, _, rfl, hN, ho, hb⟩
  clear HA HB hna hnb
  go_enter Try.func26, Try.ntmps26
  go_wp2_with (go_at_call 48; refine HP.out.mono ?_; rintro e w9 ⟨v9, L, rfl, hr⟩)
  go_ret
  exact ⟨v9, L, rfl, hr⟩
theorem minus_own {w : World} {v1 v2 : Value} {la lb : List (Int × Int)} (h1 : SL w v1 la) (h2 : SL w v2 lb) :
    Calls Try.prog 27 #[v1, v2] w fun e w' => ∃ v L, e = .returned v ∧ Norm L (fun i => inL la i ∧ ¬ inL lb i) ∧ w'.ownsRow w.heap.size TRng 2 v L.length (pcells L) ∧ Below w.heap.size w w' := by
  obtain ⟨ao, ca, rfl, hna, HA⟩ := h1
  obtain ⟨bo, cb, rfl, hnb, HB⟩ := h2
  have HP : Hid (Calls Try.prog 48 #[.slice ao la.length ca, .slice bo lb.length cb, .func (.func 50) #[] #[]] w fun e w' => ∃ v L, e = .returned v ∧ Norm L (fun i => inL la i ∧ ¬ inL lb i) ∧ w'.ownsRow w.heap.size TRng 2 v L.length (pcells L) ∧ Below w.heap.size w w') := by
    refine (picked_any (.inr (.inl ⟨rfl, rfl⟩)) ao bo ca _ cb _ la lb w rfl hna HA rfl hnb HB).mono ?_
    rintro e w' ⟨v, ra, rb, rfl, sa, sb, ho, hb⟩
    have hN := norm_pick (p := fun a b => a && !b) (S := fun i => inL la i ∧ ¬ inL lb i) sa sb (fun i x y hx hy => by rw [← hx, ← hy, Bool.and_eq_true]; cases y <;> simp)
    exact ⟨v, _, rfl, hN, ho, hb⟩
  clear HA HB hna hnb
  go_enter Try.func27, Try.ntmps27
  go_wp2_with (go_at_call 48; refine HP.out.mono ?_; rintro e w9 ⟨v9, L, rfl, hr⟩)
  go_ret
  exact ⟨v9, L, rfl, hr⟩
theorem meet_own {w : World} {v1 v2 : Value} {la lb : List (Int × Int)} (h1 : SL w v1 la) (h2 : SL w v2 lb) :
    Calls Try.prog 28 #[v1, v2] w fun e w' => ∃ v L, e = .returned v ∧ Norm L (fun i => inL la i ∧ inL lb i) ∧ w'.ownsRow w.heap.size TRng 2 v L.length (pcells L) ∧ Below w.heap.size w w' := by
  obtain ⟨ao, ca, rfl, hna, HA⟩ := h1
  obtain ⟨bo, cb, rfl, hnb, HB⟩ := h2
  have HP : Hid (Calls Try.prog 48 #[.slice ao la.length ca, .slice bo lb.length cb, .func (.func 51) #[] #[]] w fun e w' => ∃ v L, e = .returned v ∧ Norm L (fun i => inL la i ∧ inL lb i) ∧ w'.ownsRow w.heap.size TRng 2 v L.length (pcells L) ∧ Below w.heap.size w w') := by
    refine (picked_any (.inr (.inr ⟨rfl, rfl⟩)) ao bo ca _ cb _ la lb w rfl hna HA rfl hnb HB).mono ?_
    rintro e w' ⟨v, ra, rb, rfl, sa, sb, ho, hb⟩
    have hN := norm_pick (p := fun a b => a && b) (S := fun i => inL la i ∧ inL lb i) sa sb (fun i x y hx hy => by rw [← hx, ← hy, Bool.and_eq_true])
    exact ⟨v, _, rfl, hN, ho, hb⟩
  clear HA HB hna hnb
  go_enter Try.func28, Try.ntmps28
  go_wp2_with (go_at_call 48; refine HP.out.mono ?_; rintro e w9 ⟨v9, L, rfl, hr⟩)
  go_ret
  exact ⟨v9, L, rfl, hr⟩
theorem normal_own {w : World} {v1 : Value} {la : List (Int × Int)} (h1 : SL w v1 la) :
    Calls Try.prog 22 #[v1] w fun e w' => ∃ v L, e = .returned v ∧ Norm L (inL la) ∧ w'.ownsRow w.heap.size TRng 2 v L.length (pcells L) ∧ Below w.heap.size w w' := by
  obtain ⟨ao, ca, rfl, hna, HA⟩ := h1
  exact normal_any ao ca _ la w rfl hna HA
end Go.Proofs.Ytijafckdbhklmab.B
