import Derived.Test.YtijafckdbhklmabYU
namespace Go.Proofs.Ytijafckdbhklmab.B
open Go.RowKit Go.Sort Go.Lib Go.Shelf
attribute [local go_sem] Oper.semAt_some
set_option linter.unusedVariables false
set_option linter.unusedSimpArgs false
set_option maxRecDepth 100000

theorem kpM_t {bm : Nat} {A B C : World} (h : KpM bm A B) (k : KpM bm B C) : KpM bm A C := fun g hf => ⟨fun cur fr hc => (k g (h g hf).2).1 _ _ ((h g hf).1 _ _ hc), (k g (h g hf).2).2⟩
theorem pj_no (B : Nat) : OwnFrom B (fun (_ : List St) (_ : World) => False) := fun _ _ _ _ h _ _ => h
set_option maxHeartbeats 400000 in
theorem picked_side {w0 w1 : World} {Bm bm mb pb fp Ba ba Bb bb : Nat} {p : Bool → Bool → Bool} {va vb vm : Value} {ra rb : List (Rn Bool)} (hp : PickIs fp p) (ha : MO w1 Ba ba va 1099511627776 ra) (hb : MO w1 Bb bb vb 1099511627776 rb) (hm : MO w1 Bm bm vm 1099511627776 [⟨0, 1099511627776, false⟩]) (hsep : ∀ g, vm.ownBlock = some g → vb.ownBlock ≠ some g) (hne : bm ≠ bb)
    (bM : Boxed w1 mb TMapP (.pointer (some ⟨bm, 0, none⟩))) (bP : Boxed w1 pb TPick (.func (.func fp) #[] #[])) (bel : Below w0.heap.size w0 w1) (base : w0.heap.size ≤ Bm) :
    Calls Try.prog 61 #[.pointer (some ⟨ba, 0, none⟩), .pointer (some ⟨bb, 0, none⟩), .func (.func 62) #[] #[.pointer (some ⟨mb, 0, none⟩), .pointer (some ⟨pb, 0, none⟩)]] w1 fun e w' => (∃ v, e = .returned v) ∧ PJ w0 w1.heap.size Bm bm mb pb fp p Bb bb vb rb (side ra rb) w' := by
  have h0 : PJ w0 w1.heap.size Bm bm mb pb fp p Bb bb vb rb [] w1 := ⟨⟨vm, hm, hsep⟩, bM, bP, hb, bel, hne, hm.ltm, Nat.le_refl _, base⟩
  have H : SideBy w1 Bb bb vb 1099511627776 rb 62 #[.pointer (some ⟨mb, 0, none⟩), .pointer (some ⟨pb, 0, none⟩)] (KpM bm) (FineM bm) (PJ w0 w1.heap.size Bm bm mb pb fp p Bb bb vb rb) (fun _ _ => False) := by
    refine ⟨keepsRowM bm, fun h k => kpM_t h k, kpM_put bm, kpM_alloc bm, kpM_own bm, fineM_own bm, ?_, fun B hB => pj_own (Nat.le_trans bel.size hB), fun B hB => pj_no B, fun l W h => h.b, fun l W h => h.le, ?_⟩
    · intro l W0 W X k h h1 h2 h3 h4
      obtain ⟨v, hv, _⟩ := h.m
      refine ⟨v, (h2.block bm (Nat.lt_of_lt_of_le hv.ltm h1.size)).trans ((h1.block bm hv.ltm).trans hv.blk), fun e => ?_, h4⟩
      have h5 := (hv.row.lt k e).2
      have h6 := h1.size
      omega
    · intro l lo hi x y W h
      obtain ⟨v, hv, hs⟩ := h.m
      have hE := picked1_any hv h.bM h.bP hp lo hi x y
      show Calls Try.prog 62 #[.int .i64 lo, .int .i64 hi, .bool x, .bool y, .pointer (some ⟨mb, 0, none⟩), .pointer (some ⟨pb, 0, none⟩)] W _
      refine hE.mono ?_
      rintro e W' ⟨rfl, v', hm', hk⟩
      obtain ⟨k1, k2, k3, k4⟩ := pj_set h hv hs hm' hk
      exact ⟨k3, k4, .inl ⟨rfl, k1, k2⟩⟩
  refine (side_any ha H h0).mono ?_
  rintro e w' ⟨hv, h | ⟨l, rest, _, h⟩⟩
  · exact ⟨hv, h⟩
  · exact h.elim
end Go.Proofs.Ytijafckdbhklmab.B
