import Derived.Test.YtckfmpoddmccfaaV49
import Derived.Test.YtckfmpoddmccfaaV50
namespace Go.Proofs.Ytckfmpoddmccfaa
open Go.RowKit
set_option linter.unusedVariables false
set_option linter.unusedSimpArgs false
set_option maxRecDepth 100000
/-- two inboxes apart, boxes, and rows of bytes that were told -/
structure Py (w W : World) (b1 : Nat) (v1 : Value) (rm ov1 : Nat) (l1 : List Nat) (b2 : Nat) (v2 : Value) (ov2 : Nat) (l2 : List Nat) (bs : List (Nat × Array Value × TypeId)) (rs : List (Value × List Nat)) : Prop where
  x : Inb W w.heap.size b1 v1 rm ov1 l1
  y : Inb W w.heap.size b2 v2 rm ov2 l2
  ap : Apt b1 v1 b2 v2
  bel : Below w.heap.size w W
  box : ∀ e ∈ bs, W.heap[e.1]? = some (.cells e.2.1 e.2.2 (0, 0)) ∧ w.heap.size ≤ e.1 ∧ e.2.2 ≠ 5 ∧ e.2.2 ≠ TIn
  nd : (bs.map (·.1)).Nodup
  row : ∀ e ∈ rs, W.ownsRow w.heap.size 5 1 e.1 e.2.length (e.2.map bv) ∧ ∀ g, e.1.ownBlock = some g → v1.ownBlock ≠ some g ∧ v2.ownBlock ≠ some g
section
variable {w W W' : World} {b1 b2 : Nat} {v1 v2 : Value} {rm ov1 ov2 : Nat} {l1 l2 : List Nat} {bs : List (Nat × Array Value × TypeId)} {rs : List (Value × List Nat)}
theorem Py.later (h : Py w W b1 v1 rm ov1 l1 b2 v2 ov2 l2 bs rs) (hb : Below W.heap.size W W') : Py w W' b1 v1 rm ov1 l1 b2 v2 ov2 l2 bs rs :=
  ⟨h.x.later hb, h.y.later hb, h.ap, h.bel.trans (hb.mono h.bel.size), fun e he => ⟨(hb.block _ (block_lt (h.box e he).1)).trans (h.box e he).1, (h.box e he).2⟩, h.nd, fun e he => ⟨owns_same (h.row e he).1 fun g hg => hb.block g (owns_lt (h.row e he).1 g hg).1, (h.row e he).2⟩⟩
theorem Py.alloc (h : Py w W b1 v1 rm ov1 l1 b2 v2 ov2 l2 bs rs) (cs : Array Value) (t : TypeId) (ht : t ≠ 5) (ht2 : t ≠ TIn) : Py w (W.alloc (.cells cs t)) b1 v1 rm ov1 l1 b2 v2 ov2 l2 ((W.heap.size, cs, t) :: bs) rs := by
  have h2 := h.later (W' := W.alloc (.cells cs t)) ((Below.refl _ _).alloc (Nat.le_refl _) _)
  refine ⟨h2.x, h2.y, h2.ap, h2.bel, fun e he => ?_, ?_, h2.row⟩
  · rcases List.mem_cons.1 he with rfl | he
    · exact ⟨heap_new W _, h.bel.size, ht, ht2⟩
    · exact h2.box e he
  · rw [List.map_cons, List.nodup_cons]
    refine ⟨fun hm => ?_, h.nd⟩
    obtain ⟨e, he, ee⟩ := List.mem_map.1 hm
    have e' : e.1 = W.heap.size := ee
    have := block_lt (h.box e he).1
    omega
theorem Inb.notbox {B b : Nat} {v : Value} {ov : Nat} {l : List Nat} (h : Inb W B b v rm ov l) {g : Nat} {cs : Array Value} {t : TypeId} (hg : W.heap[g]? = some (.cells cs t (0, 0))) (h5 : t ≠ 5) (hT : t ≠ TIn) : ¬ ifp b v g := by
  rintro (e | e)
  · subst e
    have := hg.symm.trans h.blk
    simp at this
    exact hT this.2
  · obtain ⟨_, _, cur, hc⟩ := h.row.lo _ e
    have := hg.symm.trans hc
    simp at this
    exact h5 this.2
theorem apt_act {b v b' v' : _} {u : Value} (ap : Apt b v b' v') {B : Nat} {ov : Nat} {l : List Nat} (hy : Inb W B b' v' rm ov l) (hf : Fresh W v u) : Apt b u b' v' := by
  rintro g (e | e) k
  · exact ap g (.inl e) k
  · rcases hf with f | ⟨g', f, hlt⟩
    · exact ap g (.inr (f ▸ e)) k
    · rw [e] at f; simp at f; subst f
      have := (hy.lt g k).2
      omega
/-- a call on the first inbox -/
theorem Py.actx {u : Value} {ov' : Nat} {l' : List Nat} (h : Py w W b1 v1 rm ov1 l1 b2 v2 ov2 l2 bs rs) (hi : Inb W' w.heap.size b1 u rm ov' l') (ha : IAct W W' b1 v1 u) : Py w W' b1 u rm ov' l' b2 v2 ov2 l2 bs rs := by
  have hk := ha.kept
  refine ⟨hi, h.y.keep hk (fun g hg k => h.ap g k hg), apt_act h.ap h.y ha.fresh, h.bel.trans (ha.below h.x), fun e he => ?_, h.nd, fun e he => ⟨owns_same (h.row e he).1 fun g hg => hk.block g (owns_lt (h.row e he).1 g hg).1 ?_, fun g hg => ⟨ha.fresh.not (owns_lt (h.row e he).1 g hg).1 ((h.row e he).2 g hg).1, ((h.row e he).2 g hg).2⟩⟩⟩
  · obtain ⟨k1, k2, k3, k4⟩ := h.box e he
    exact ⟨(hk.block _ (block_lt k1) (h.x.notbox k1 k3 k4)).trans k1, k2, k3, k4⟩
  · rintro (k | k)
    · subst k
      obtain ⟨cur, hc⟩ := owns_type (h.row e he).1 _ hg
      have := hc.symm.trans h.x.blk
      simp [TIn] at this
    · exact ((h.row e he).2 g hg).1 k
theorem Apt.symm {b b' : Nat} {v v' : Value} (h : Apt b v b' v') : Apt b' v' b v := fun g k k' => h g k' k
theorem Py.swap (h : Py w W b1 v1 rm ov1 l1 b2 v2 ov2 l2 bs rs) : Py w W b2 v2 rm ov2 l2 b1 v1 ov1 l1 bs rs :=
  ⟨h.y, h.x, h.ap.symm, h.bel, h.box, h.nd, fun e he => ⟨(h.row e he).1, fun g hg => ⟨((h.row e he).2 g hg).2, ((h.row e he).2 g hg).1⟩⟩⟩
/-- a call on the second inbox -/
theorem Py.acty {u : Value} {ov' : Nat} {l' : List Nat} (h : Py w W b1 v1 rm ov1 l1 b2 v2 ov2 l2 bs rs) (hi : Inb W' w.heap.size b2 u rm ov' l') (ha : IAct W W' b2 v2 u) : Py w W' b1 v1 rm ov1 l1 b2 u ov' l' bs rs :=
  (h.swap.actx hi ha).swap
/-- a row that a call on the first inbox told -/
theorem Py.toldx {u : Value} {ov' : Nat} {l' : List Nat} {dv : Value} {d : List Nat} (h : Py w W b1 v1 rm ov1 l1 b2 v2 ov2 l2 bs rs) (hi : Inb W' w.heap.size b1 u rm ov' l') (ha : IAct W W' b1 v1 u) (hr : W'.ownsRow W.heap.size 5 1 dv d.length (d.map bv)) (hn : ∀ g, dv.ownBlock = some g → u.ownBlock ≠ some g) : Py w W' b1 u rm ov' l' b2 v2 ov2 l2 bs ((dv, d) :: rs) := by
  have h2 := h.actx hi ha
  refine ⟨h2.x, h2.y, h2.ap, h2.bel, h2.box, h2.nd, fun e he => ?_⟩
  rcases List.mem_cons.1 he with rfl | he
  · refine ⟨owns_mono hr h.bel.size, fun g hg => ⟨hn g hg, fun k => ?_⟩⟩
    have h1 := (owns_lt hr g hg).2
    have h3 := (h.y.lt g (.inr k)).2
    omega
  · exact h2.row e he
theorem Py.toldy {u : Value} {ov' : Nat} {l' : List Nat} {dv : Value} {d : List Nat} (h : Py w W b1 v1 rm ov1 l1 b2 v2 ov2 l2 bs rs) (hi : Inb W' w.heap.size b2 u rm ov' l') (ha : IAct W W' b2 v2 u) (hr : W'.ownsRow W.heap.size 5 1 dv d.length (d.map bv)) (hn : ∀ g, dv.ownBlock = some g → u.ownBlock ≠ some g) : Py w W' b1 v1 rm ov1 l1 b2 u ov' l' bs ((dv, d) :: rs) :=
  (h.swap.toldx hi ha hr hn).swap
theorem Py.c (h : Py w W b1 v1 rm ov1 l1 b2 v2 ov2 l2 bs rs) {g : Nat} {cs : Array Value} {t : TypeId} (hg : (g, cs, t) ∈ bs) (j : Nat) : W.cell? ⟨g, j, none⟩ = cs[j]? ∧ W.frozen? ⟨g, j, none⟩ = false :=
  ⟨blk_at (h.box _ hg).1 j, blk_free (h.box _ hg).1 j⟩
theorem Py.drop (h : Py w W b1 v1 rm ov1 l1 b2 v2 ov2 l2 bs rs) {bs' : List (Nat × Array Value × TypeId)} {rs' : List (Value × List Nat)} (hb : bs'.Sublist bs) (hr : ∀ e ∈ rs', e ∈ rs) : Py w W b1 v1 rm ov1 l1 b2 v2 ov2 l2 bs' rs' :=
  ⟨h.x, h.y, h.ap, h.bel, fun e he => h.box e (hb.subset he), h.nd.sublist (hb.map _), fun e he => h.row e (hr e he)⟩
end
end Go.Proofs.Ytckfmpoddmccfaa
