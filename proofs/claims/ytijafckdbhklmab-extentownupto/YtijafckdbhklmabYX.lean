import Derived.Test.YtijafckdbhklmabYV
namespace Go.Proofs.Ytijafckdbhklmab.B
open Go.RowKit Go.Sort Go.Lib Go.Shelf
attribute [local go_sem] Oper.semAt_some
set_option linter.unusedVariables false
set_option linter.unusedSimpArgs false
set_option maxRecDepth 100000

/-- a list of ranges as it lies -/
def Rngs (w : World) (ao : Option Addr) (l : List (Int × Int)) : Prop := ∀ k p, l[k]? = some p → ∃ b off, ao = some ⟨b, off, none⟩ ∧ w.cell? ⟨b, off + k * 2, none⟩ = some (.int .i64 p.1) ∧ w.cell? ⟨b, off + k * 2 + 1, none⟩ = some (.int .i64 p.2)
theorem Rngs.later {w w' : World} {ao : Option Addr} {l : List (Int × Int)} (h : Rngs w ao l) (hb : Below w.heap.size w w') : Rngs w' ao l := fun k p hk => by
  obtain ⟨b, off, e, h1, h2⟩ := h k p hk
  exact ⟨b, off, e, cell_later hb h1, cell_later hb h2⟩
/-- the runs of a set -/
def SetR (R : List (Rn Bool)) (l : List (Int × Int)) : Prop := Tiles 0 1099511627776 R ∧ Alt R ∧ ∀ i, Has R i true ↔ (0 ≤ i ∧ i < 1099511627776 ∧ inL l i)
theorem setGood : Hid (∀ (W : World) (B bm : Nat) (v : Value) (rs : List (Rn Bool)) (p : Int × Int), MO W B bm v 1099511627776 rs → True → 0 ≤ p.1 → p.1 < p.2 → p.2 ≤ 1099511627776 → Calls Try.prog 60 #[.pointer (some ⟨bm, 0, none⟩), .int .i64 p.1, .int .i64 p.2, .bool true] W fun e w' => e = .returned (.int .i64 0) ∧ SetTo W B bm v 1099511627776 (lay 1099511627776 rs ⟨p.1, p.2, true⟩) w') := fun W B bm v rs p hM _ h0 h1 h2 => by
  have := set_any hM p.1 p.2 true
  have e1 : setE 1099511627776 p.1 p.2 = 0 := by unfold setE; rw [if_pos ⟨h0, by omega, h2⟩]
  have e2 : setR 1099511627776 rs p.1 p.2 true = lay 1099511627776 rs ⟨p.1, p.2, true⟩ := by unfold setR; rw [if_pos ⟨h0, h1, h2⟩]
  rwa [e1, e2] at this
theorem setOf_any (ao : Option Addr) (cap n : Nat) (l : List (Int × Int)) (w : World) (hl : n = l.length) (hn : n ≤ 8796093022207) (HR : Rngs w ao l) :
    Calls Try.prog 43 #[.slice ao n cap] w fun e w' => ∃ bm v R, e = .returned (.pointer (some ⟨bm, 0, none⟩)) ∧ MO w' w.heap.size bm v 1099511627776 R ∧ SetR R l ∧ Below w.heap.size w w' := by
  refine (setOf_by (fun _ _ => True) setGood ao cap n l w hl hn HR (fun _ _ _ _ _ _ => trivial)).mono ?_
  rintro e w' ⟨l', bm, v, rfl, hp, _, hM, hb⟩
  obtain ⟨t, a, hh⟩ := runsOf_spec l' (fun q hq => clamps_ok (hp.mem_iff.1 hq))
  exact ⟨bm, v, _, rfl, hM, ⟨t, a, fun i => (hh i).trans ((inL_perm hp i).trans (inL_clamps l i))⟩, hb⟩
theorem setOf_nil (w : World) :
    Calls Try.prog 43 #[.slice none 0 0] w fun e w' => ∃ bm v, e = .returned (.pointer (some ⟨bm, 0, none⟩)) ∧ MO w' w.heap.size bm v 1099511627776 [⟨0, 1099511627776, false⟩] ∧ Below w.heap.size w w' := by
  refine (setOf_by (fun _ _ => True) setGood none 0 0 [] w rfl (by decide) (fun k p h => by simp at h) (fun _ _ _ _ _ _ => trivial)).mono ?_
  rintro e w' ⟨l', bm, v, rfl, hp, _, hM, hb⟩
  have : l' = [] := List.Perm.eq_nil hp
  subst this
  exact ⟨bm, v, rfl, hM, hb⟩
theorem normal_any (ao : Option Addr) (cap n : Nat) (l : List (Int × Int)) (w : World) (hl : n = l.length) (hn : n ≤ 8796093022207) (HR : Rngs w ao l) :
    Calls Try.prog 22 #[.slice ao n cap] w fun e w' => ∃ v L, e = .returned v ∧ Norm L (inL l) ∧ w'.ownsRow w.heap.size TRng 2 v L.length (pcells L) ∧ Below w.heap.size w w' := by
  refine (normal_by (fun _ _ => True) setGood ao cap n l w hl hn HR (fun _ _ _ _ _ _ => trivial)).mono ?_
  rintro e w' ⟨l', v, rfl, hp, _, ho, hb⟩
  obtain ⟨t, a, hh⟩ := runsOf_spec l' (fun q hq => clamps_ok (hp.mem_iff.1 hq))
  exact ⟨v, _, rfl, ⟨_, t, a, fun i h0 h1 => (hh i).trans ((inL_perm hp i).trans ((inL_clamps l i).trans ⟨fun h => h.2.2, fun h => ⟨h0, h1, h⟩⟩)), rfl⟩, ho, hb⟩
theorem boxed_later' {W W' : World} {k t : Nat} {v : Value} (h : Boxed W k t v) (hb : Below W.heap.size W W') : Boxed W' k t v := (hb.block k h.lt).trans h
set_option maxHeartbeats 4000000 in
theorem picked_any {fp : Nat} {p : Bool → Bool → Bool} (hp : PickIs fp p) (ao bo : Option Addr) (ca na cb nb : Nat) (la lb : List (Int × Int)) (w : World) (hla : na = la.length) (hna : na ≤ 8796093022207) (HA : Rngs w ao la) (hlb : nb = lb.length) (hnb : nb ≤ 8796093022207) (HB : Rngs w bo lb) :
    Calls Try.prog 48 #[.slice ao na ca, .slice bo nb cb, .func (.func fp) #[] #[]] w fun e w' => ∃ v ra rb, e = .returned v ∧ SetR ra la ∧ SetR rb lb ∧ w'.ownsRow w.heap.size TRng 2 v (lst (pickR p (side ra rb))).length (pcells (lst (pickR p (side ra rb)))) ∧ Below w.heap.size w w' := by
  obtain ⟨W1, hW1⟩ : ∃ W1, W1 = w.alloc (.cells #[.func (.func fp) #[] #[]] TPick) := ⟨_, rfl⟩
  have hB1 : Below w.heap.size w W1 := by rw [hW1]; exact (Below.refl _ w).alloc (Nat.le_refl _) _
  have hs1 : W1.heap.size = w.heap.size + 1 := by rw [hW1]; simp
  have bP : Boxed W1 w.heap.size TPick (.func (.func fp) #[] #[]) := by rw [hW1]; exact Boxed.new w _ _
  have H1 : Hid (Calls Try.prog 43 #[.slice none 0 0] W1 fun e w' => ∃ bm v, e = .returned (.pointer (some ⟨bm, 0, none⟩)) ∧ MO w' W1.heap.size bm v 1099511627776 [⟨0, 1099511627776, false⟩] ∧ Below W1.heap.size W1 w') := setOf_nil W1
  have H2 : Hid (∀ W, Below w.heap.size w W → Calls Try.prog 43 #[.slice ao na ca] W fun e w' => ∃ bm v R, e = .returned (.pointer (some ⟨bm, 0, none⟩)) ∧ MO w' W.heap.size bm v 1099511627776 R ∧ SetR R la ∧ Below W.heap.size W w') := fun W hW => setOf_any ao ca na la W hla hna (HA.later hW)
  have H3 : Hid (∀ W, Below w.heap.size w W → Calls Try.prog 43 #[.slice bo nb cb] W fun e w' => ∃ bm v R, e = .returned (.pointer (some ⟨bm, 0, none⟩)) ∧ MO w' W.heap.size bm v 1099511627776 R ∧ SetR R lb ∧ Below W.heap.size W w') := fun W hW => setOf_any bo cb nb lb W hlb hnb (HB.later hW)
  have HP : Hid (PickIs fp p) := hp
  clear hp hla hna HA hlb hnb HB
  go_enter Try.func48, Try.ntmps48
  go_wp2_with (go_at_call 43; rw [← hW1]; refine H1.out.mono ?_; rintro e W2 ⟨bm, vm, rfl, hm, hb2⟩; clear H1)
  obtain ⟨W3, hW3⟩ : ∃ W3, W3 = W2.alloc (.cells #[.pointer (some ⟨bm, 0, none⟩)] TMapP) := ⟨_, rfl⟩
  have hb3 : Below W2.heap.size W2 W3 := by rw [hW3]; exact (Below.refl _ W2).alloc (Nat.le_refl _) _
  have hs3 : W3.heap.size = W2.heap.size + 1 := by rw [hW3]; simp
  have bM : Boxed W3 W2.heap.size TMapP (.pointer (some ⟨bm, 0, none⟩)) := by rw [hW3]; exact Boxed.new W2 _ _
  have bP3 : Boxed W3 w.heap.size TPick (.func (.func fp) #[] #[]) := (hb3.block _ (Nat.lt_of_lt_of_le bP.lt hb2.size)).trans ((hb2.block _ bP.lt).trans bP)
  have hm3 := hm.later hb3
  have hw3 : Below w.heap.size w W3 := hB1.trans ((hb2.mono (by omega)).trans (hb3.mono (by have := hb2.size; omega)))
  have lt2 := hm.ltm
  have lt2' : ∀ g, vm.ownBlock = some g → g < W2.heap.size := fun g hg => (hm.row.lt g hg).2
  have base : w.heap.size ≤ W1.heap.size := by omega
  rw [← hW3]
  clear hW3 hm bP hb2 hb3 hB1 hW1
  refine (H2.out _ hw3).mono ?_
  rintro e W4 ⟨ba, va, ra, rfl, ha, hsa, hb4⟩
  have hw4 : Below w.heap.size w W4 := hw3.trans (hb4.mono hw3.size)
  clear H2
  go_wp2_with (go_at_call 43; refine (H3.out _ hw4).mono ?_; rintro e W5 ⟨bb, vb, rb, rfl, hb, hsb, hb5⟩; clear H3)
  have hw5 : Below w.heap.size w W5 := hw4.trans (hb5.mono hw4.size)
  have hS := picked_side (w0 := w) HP.out (ha.later hb5) hb ((hm3.later hb4).later hb5) (fun g h1 h2 => by have := lt2' g h1; have := (hb.row.lt g h2).1; have := hb4.size; omega) (by have := hb.base; have := hb4.size; omega) (boxed_later' (boxed_later' bM hb4) hb5) (boxed_later' (boxed_later' bP3 hb4) hb5) hw5 base
  have HS : Hid (Calls Try.prog 61 #[.pointer (some ⟨ba, 0, none⟩), .pointer (some ⟨bb, 0, none⟩), .func (.func 62) #[] #[.pointer (some ⟨W2.heap.size, 0, none⟩), .pointer (some ⟨w.heap.size, 0, none⟩)]] W5 fun e w' => ∃ v, e = .returned v ∧ w'.cell? ⟨W2.heap.size, 0, none⟩ = some (.pointer (some ⟨bm, 0, none⟩)) ∧ Below w.heap.size w w' ∧ ∃ vm', MO w' W1.heap.size bm vm' 1099511627776 (pickR p (side ra rb))) := hS.mono fun e w' ⟨⟨v, he⟩, hJ⟩ => ⟨v, he, hJ.bM.cell, hJ.bel, hJ.m.imp fun _ h => h.1⟩
  clear hS ha hb hm3 bM bP3 hb4 hb5 hw3 hw4 hw5 lt2 lt2'
  refine HS.out.mono ?_
  rintro e W6 ⟨v6, rfl, c6, hw6, vm', hm6⟩
  clear HS
  go_wp2_with (go_at_call 42; refine (listed_any hm6 (by decide)).mono ?_; rintro e W7 ⟨v7, rfl, ho, hb7⟩)
  go_ret
  exact ⟨v7, ra, rb, rfl, hsa, hsb, owns_mono ho hw6.size, hw6.trans (hb7.mono hw6.size)⟩
end Go.Proofs.Ytijafckdbhklmab.B
