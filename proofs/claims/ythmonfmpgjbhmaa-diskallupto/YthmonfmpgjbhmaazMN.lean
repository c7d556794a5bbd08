import Derived.Test.YthmonfmpgjbhmaaG45
namespace Go.Proofs.Ythmonfmpgjbhmaa.K
open Go.RowKit Go.Maps Go.Proofs.Ythmonfmpgjbhmaa
attribute [local go_sem] Oper.semAt_some
set_option linter.unusedVariables false
set_option linter.unusedSimpArgs false
set_option maxRecDepth 100000

abbrev TOp : TypeId := 90
/-- the box of a call that was handed in -/
structure Bx (W0 W : World) (x : Nat) (cs : Array Value) : Prop where
  blk : W.heap[x]? = some (.cells cs TOp (0, 0))
theorem rdL_lt {W : World} {b p : Nat} {S T : Dk} {N : Nat} {H : List Nat} (h : PP W b p S T N H) (s : Int) : ∀ x ∈ rdL S s, x < 256 := by
  obtain ⟨ms, ml, qv, fv, dv, rq, av, D, Q, hk, hr, hN, hd, rfl⟩ := h.ex
  unfold rdL
  intro x hx
  split at hx
  · rename_i hi
    split at hx
    · simp at hx
    · have hr : 0 ≤ s ∧ s < S.n := of_decide_eq_true hi
      exact (look_ok hk (s := s.toNat) (by omega)).lt x hx
  · simp at hx
theorem rdL_len {W : World} {b p : Nat} {S T : Dk} {N : Nat} {H : List Nat} (h : PP W b p S T N H) (s : Int) : (rdL S s).length ≤ 512 := by
  obtain ⟨ms, ml, qv, fv, dv, rq, av, D, Q, hk, hr, hN, hd, rfl⟩ := h.ex
  unfold rdL
  split
  · rename_i hi
    split
    · simp
    · have hr : 0 ≤ s ∧ s < S.n := of_decide_eq_true hi
      rw [(look_ok hk (s := s.toNat) (by omega)).len]
      exact Nat.le_refl _
  · simp
set_option maxHeartbeats 4000000 in
theorem acts_read {W : World} {b p : Nat} {S : Dk} {N : Nat} {H : List Nat} (h : PP W b p S S N H) (hN : N < 1048576) (osec : Int) (ofill : Nat) (omore fk fsec fa ft : Int) (fl : Bool) (oao : Option Addr) (ocap : Nat) (okeep : List Bool) :
    Calls Try.prog 43 #[.pointer (some ⟨b, 0, none⟩), .pointer (some ⟨p, 0, none⟩), .agg #[.int .i64 1, .int .i64 osec, .int .u8 ofill, .int .i64 omore, .int .i64 fk, .int .i64 fsec, .int .i64 fa, .int .i64 ft, .bool fl, .slice oao okeep.length ocap]] W fun r W' => r = .returned (.bool true) ∧ ∃ S' H', PP W' b p S' S' (N + 1) H' ∧ Mv W W' H H' := by
  have hB0 : Below W.heap.size W (W.alloc (.cells #[.int .i64 1, .int .i64 osec, .int .u8 ofill, .int .i64 omore, .int .i64 fk, .int .i64 fsec, .int .i64 fa, .int .i64 ft, .bool fl, .slice oao okeep.length ocap] TOp)) := (Below.refl _ W).alloc (Nat.le_refl _) _
  obtain ⟨W0, hW0⟩ : ∃ W0, W0 = W.alloc (.cells #[.int .i64 1, .int .i64 osec, .int .u8 ofill, .int .i64 omore, .int .i64 fk, .int .i64 fsec, .int .i64 fa, .int .i64 ft, .bool fl, .slice oao okeep.length ocap] TOp) := ⟨_, rfl⟩
  rw [← hW0] at hB0
  have HP0 : Hid (PP W0 b p S S N H) := h.later hB0
  have hx0 : W0.heap[W.heap.size]? = some (.cells #[.int .i64 1, .int .i64 osec, .int .u8 ofill, .int .i64 omore, .int .i64 fk, .int .i64 fsec, .int .i64 fa, .int .i64 ft, .bool fl, .slice oao okeep.length ocap] TOp) := by rw [hW0]; exact heap_alloc_new W _
  have HXk : Hid (∀ W' F, Kp W0 W' F → (∀ i ∈ F, i ∈ H ∨ W0.heap.size ≤ i) → W'.heap[W.heap.size]? = some (.cells #[.int .i64 1, .int .i64 osec, .int .u8 ofill, .int .i64 omore, .int .i64 fk, .int .i64 fsec, .int .i64 fa, .int .i64 ft, .bool fl, .slice oao okeep.length ocap] TOp)) := fun W' F hk hs => by
    have hl := (Array.getElem?_eq_some_iff.1 hx0).1
    refine (hk.block _ hl (fun hm => ?_)).trans hx0
    rcases hs _ hm with h1 | h1
    · have := h.lt _ h1; omega
    · omega
  have HMv : Hid (∀ W' H', Mv W0 W' H H' → Mv W W' H H') := fun W' H' hm => ⟨(Kp.of_below hB0 _).trans hm.kp (fun i hi => .inl hi), fun i hi => (hm.sub i hi).imp id (fun h1 => Nat.le_trans hB0.size h1)⟩
  have HL : Hid ((∀ x ∈ rdL S osec, x < 256) ∧ (rdL S osec).length ≤ 512) := ⟨rdL_lt h osec, rdL_len h osec⟩
  have y1 : W0.cell? ⟨W.heap.size, 1, none⟩ = some (.int .i64 osec) := (cell_of hx0).trans rfl
  have HW0 : Hid (W0 = W.alloc (.cells #[.int .i64 1, .int .i64 osec, .int .u8 ofill, .int .i64 omore, .int .i64 fk, .int .i64 fsec, .int .i64 fa, .int .i64 ft, .bool fl, .slice oao okeep.length ocap] TOp)) := hW0
  clear h hx0 hB0 hW0
  go_enter Try.func43, Try.ntmps43
  go_wp2_with fail
  rw [← HW0.out]
  refine (HP0.out.readD osec).mono ?_
  rintro r W1 ⟨v1, rfl, ho1, H1, ⟨hp1, hm1⟩, hv1⟩
  have HP1 : Hid (PP W1 b p (rdS S osec) S N H1) := hp1
  have HM1 : Hid (Mv W0 W1 H H1) := hm1
  obtain ⟨a1, c1, e1, hb1⟩ := BRow.own ho1 HL.out.1 (by have := HL.out.2; omega)
  have HO1 : Hid (W1.ownsRow W0.heap.size 5 1 v1 (rdL S osec).length ((rdL S osec).map bv) ∧ (∀ g, v1.ownBlock = some g → g ∉ H1) ∧ v1 = .slice a1 (rdL S osec).length c1) := ⟨ho1, hv1, e1⟩
  subst e1
  have y11 : W1.cell? ⟨W.heap.size, 1, none⟩ = some (.int .i64 osec) := (cell_of (HXk.out W1 H hm1.kp (fun i hi => .inl hi))).trans rfl
  clear ho1 hv1 hp1 hm1 hb1
  go_wp2_with fail
  refine (HP1.out.readR (by omega) osec).mono ?_
  rintro r W2 ⟨v2, rfl, ho2, H2, hp2, hm2⟩
  have HP2 : Hid (PP W2 b p (rdS S osec) (rdS S osec) (N + 1) H2) := hp2.more (by omega)
  have HM2 : Hid (Mv W W2 H H2) := HMv.out W2 H2 (HM1.out.trans hm2)
  obtain ⟨a2, c2, e2, hb2⟩ := BRow.own ho2 HL.out.1 (by have := HL.out.2; omega)
  have ho12 := ownsRow_block HO1.out.1 (w' := W2) (fun g e => hm2.kp.block g (row_lt HO1.out.1 g e).1 (HO1.out.2.1 g e))
  obtain ⟨a1', c1', e1', hb1⟩ := BRow.own ho12 HL.out.1 (by have := HL.out.2; omega)
  simp at e1'
  obtain ⟨rfl, rfl⟩ := e1'
  have hsm := same_any a1 a2 c1 c2 (rdL S osec) (rdL S osec) W2 hb1 hb2
  rw [decide_eq_true rfl] at hsm
  subst e2
  clear ho2 hp2 hm2 hb1 hb2 ho12 HO1 HXk
  generalize (rdL S osec).length = ln at *
  go_wp2_with fail
  refine hsm.mono ?_
  clear hsm
  rintro r W3 ⟨rfl, q, rfl⟩
  go_wp2
  go_ret
  exact ⟨rfl, _, H2, HP2.out.later (below_drewN W2 q), HM2.out.later (below_drewN W2 q)⟩
end Go.Proofs.Ythmonfmpgjbhmaa.K
