import Derived.Test.YtckfmpoddmccfaaU47
import Derived.Test.YtckfmpoddmccfaaU48
import Derived.Test.YtckfmpoddmccfaaU49
import Derived.Test.YtckfmpoddmccfaaU50
import Derived.Test.YtckfmpoddmccfaaU51
import Derived.Test.YtckfmpoddmccfaaU52
import Derived.Test.YtckfmpoddmccfaaU38
import Derived.Test.YtckfmpoddmccfaaU45
namespace Go.Proofs.Ytckfmpoddmccfaa
open Go.RowKit
set_option linter.unusedVariables false
set_option linter.unusedSimpArgs false
set_option maxRecDepth 100000
theorem wantsR_any {w : World} {B b : Nat} {v : Value} {rm ov : Nat} {l : List Nat} (h : RIn w B b v rm ov l) (bo : Option Addr) (bn bc m : Nat) (z x : Bool) (a : Int) (kd : Int) (hm : m < 4294967296) :
    Calls Try.prog 15 #[.pointer (some ⟨b, 0, none⟩), .agg #[.int .i64 kd, .slice bo bn bc, .int .u32 (m : Int), .bool z, .bool x, .int .i64 a]] w fun e w' => CgR w B b v rm (cgD kd m z x a ov l) e w' := by
  unfold cgD
  by_cases q2 : kd = 2
  · rw [if_pos q2, q2]; exact wantsR_2 h bo bn bc m z x a hm
  rw [if_neg q2]
  by_cases q3 : kd = 3
  · rw [if_pos q3, q3]; exact wantsR_3 h bo bn bc m z x a hm
  rw [if_neg q3]
  by_cases q4 : kd = 4
  · rw [if_pos q4, q4]; exact wantsR_4 h bo bn bc m z x a hm
  rw [if_neg q4]
  by_cases q5 : kd = 5
  · rw [if_pos q5, q5]; exact wantsR_5 h bo bn bc m z x a hm
  rw [if_neg q5]
  by_cases q6 : kd = 6
  · rw [if_pos q6, q6]; exact wantsR_6 h bo bn bc m z x a hm
  rw [if_neg q6]
  by_cases q7 : kd = 7
  · rw [if_pos q7, q7]; exact wantsR_7 h bo bn bc m z x a hm
  rw [if_neg q7]
  by_cases q8 : kd = 8
  · rw [if_pos q8, q8]; exact wantsR_8 h bo bn bc m z x a hm
  rw [if_neg q8]
  by_cases q9 : kd = 9
  · rw [if_pos q9, q9]; exact wantsR_9 h bo bn bc m z x a hm
  rw [if_neg q9]
  exact wantsR_other h bo bn bc m z x a kd (by omega)
end Go.Proofs.Ytckfmpoddmccfaa
namespace Go.Proofs.Ytckfmpoddmccfaa
open Go.RowKit
set_option linter.unusedVariables false
set_option linter.unusedSimpArgs false
set_option maxRecDepth 100000
/-- the program's inbox and the document's, apart; boxes; rows; what was told -/
structure Lc (w W : World) (b1 : Nat) (v1 : Value) (rm ov1 : Nat) (l1 : List Nat) (B2 b2 : Nat) (v2 : Value) (ov2 : Nat) (l2 : List Nat) (tv : Value) (n : Nat) (L : Nat → Value) (len : Nat → Nat) (bs : List (Nat × Array Value × TypeId)) (rs : List (Value × List Nat)) : Prop where
  x : Inb W w.heap.size b1 v1 rm ov1 l1
  y : RIn W B2 b2 v2 rm ov2 l2
  hB : w.heap.size ≤ B2
  ap : Apt b1 v1 b2 v2
  bel : Below w.heap.size w W
  box : ∀ e ∈ bs, W.heap[e.1]? = some (.cells e.2.1 e.2.2 (0, 0)) ∧ (e.2.2 ≠ 5 ∧ e.2.2 ≠ TIn ∧ e.2.2 ≠ TRi ∧ e.2.2 ≠ 22)
  row : ∀ e ∈ rs, W.ownsRow w.heap.size 5 1 e.1 e.2.length (e.2.map bv) ∧ (∀ g, e.1.ownBlock = some g → v1.ownBlock ≠ some g ∧ v2.ownBlock ≠ some g) ∧ ∀ i, i < n → Sep e.1 (L i)
  told : W.ownsRow w.heap.size 22 1 tv n ((List.range n).map L)
  own : ∀ i, i < n → ∃ C : List Nat, W.ownsRow w.heap.size 5 1 (L i) (len i) (C.map bv)
  sep : ∀ i j, i < n → j < n → i ≠ j → Sep (L i) (L j)
  dis : ∀ i, i < n → ∀ g, (L i).ownBlock = some g → v1.ownBlock ≠ some g ∧ v2.ownBlock ≠ some g
  small : ∀ i, i < n → len i ≤ 4398046511104
  n8 : n ≤ 8
section
variable {w W W' : World} {b1 : Nat} {v1 : Value} {rm ov1 : Nat} {l1 : List Nat} {B2 b2 : Nat} {v2 : Value} {ov2 : Nat} {l2 : List Nat} {tv : Value} {n : Nat} {L : Nat → Value} {len : Nat → Nat} {bs : List (Nat × Array Value × TypeId)} {rs : List (Value × List Nat)}
theorem blk_type {g : Nat} {cs cs' : Array Value} {t t' : TypeId} (h : W.heap[g]? = some (.cells cs t (0, 0))) (h' : W.heap[g]? = some (.cells cs' t' (0, 0))) : t = t' := by
  have := h.symm.trans h'
  simp at this
  exact this.2
theorem Lc.free (h : Lc w W b1 v1 rm ov1 l1 B2 b2 v2 ov2 l2 tv n L len bs rs) {g : Nat} {cs : Array Value} {t : TypeId} (hg : W.heap[g]? = some (.cells cs t (0, 0))) (hT : t ≠ TIn) (hR : t ≠ TRi) (h1 : v1.ownBlock ≠ some g) (h2 : v2.ownBlock ≠ some g) : ¬ (ifp b1 v1 g ∨ ifp b2 v2 g) := by
  rintro ((e | e) | (e | e))
  · subst e; exact hT (blk_type hg h.x.blk)
  · exact h1 e
  · subst e; exact hR (blk_type hg h.y.blk)
  · exact h2 e
theorem Lc.freeT (h : Lc w W b1 v1 rm ov1 l1 B2 b2 v2 ov2 l2 tv n L len bs rs) {g : Nat} {cs : Array Value} {t : TypeId} (hg : W.heap[g]? = some (.cells cs t (0, 0))) (h5 : t ≠ 5) (hT : t ≠ TIn) (hR : t ≠ TRi) : ¬ (ifp b1 v1 g ∨ ifp b2 v2 g) := by
  refine h.free hg hT hR (fun e => ?_) (fun e => ?_)
  · obtain ⟨_, _, cur, hc⟩ := h.x.row.lo g e
    exact h5 (blk_type hg hc)
  · obtain ⟨_, _, cur, hc⟩ := h.y.row.lo g e
    exact h5 (blk_type hg hc)
theorem Lc.freeO (h : Lc w W b1 v1 rm ov1 l1 B2 b2 v2 ov2 l2 tv n L len bs rs) {v : Value} {m B : Nat} {xs : List Value} (ho : W.ownsRow B 5 1 v m xs) (hd : ∀ g, v.ownBlock = some g → v1.ownBlock ≠ some g ∧ v2.ownBlock ≠ some g) (g : Nat) (hg : v.ownBlock = some g) : ¬ (ifp b1 v1 g ∨ ifp b2 v2 g) := by
  obtain ⟨cur, hc⟩ := owns_type ho g hg
  exact h.free hc (by decide) (by decide) (hd g hg).1 (hd g hg).2
/-- a step of the inboxes -/
theorem Lc.act {u1 u2 : Value} {o1 o2 : Nat} {m1 m2 : List Nat} (h : Lc w W b1 v1 rm ov1 l1 B2 b2 v2 ov2 l2 tv n L len bs rs) (hx : Inb W' w.heap.size b1 u1 rm o1 m1) (hy : RIn W' B2 b2 u2 rm o2 m2) (ap : Apt b1 u1 b2 u2) (hk : KeptIn (fun g => ifp b1 v1 g ∨ ifp b2 v2 g) W W') (f1 : ∀ g, u1.ownBlock = some g → v1.ownBlock = some g ∨ W.heap.size ≤ g) (f2 : ∀ g, u2.ownBlock = some g → v2.ownBlock = some g ∨ W.heap.size ≤ g) : Lc w W' b1 u1 rm o1 m1 B2 b2 u2 o2 m2 tv n L len bs rs := by
  have ho : ∀ {v : Value} {m : Nat} {xs : List Value}, W.ownsRow w.heap.size 5 1 v m xs → (∀ g, v.ownBlock = some g → v1.ownBlock ≠ some g ∧ v2.ownBlock ≠ some g) → W'.ownsRow w.heap.size 5 1 v m xs ∧ ∀ g, v.ownBlock = some g → u1.ownBlock ≠ some g ∧ u2.ownBlock ≠ some g := fun {v m xs} hr hd => by
    refine ⟨owns_same hr fun g hg => hk.block g (owns_lt hr g hg).1 (h.freeO hr hd g hg), fun g hg => ?_⟩
    have hlt := (owns_lt hr g hg).1
    refine ⟨fun e => ?_, fun e => ?_⟩
    · rcases f1 g e with k | k
      · exact (hd g hg).1 k
      · omega
    · rcases f2 g e with k | k
      · exact (hd g hg).2 k
      · omega
  have hb : Below w.heap.size W W' := hk.below h.bel.size (fun g hg hf => by
    rcases hf with e | e
    · have := (h.x.lt g e).1; omega
    · have := (h.y.lt g e).1; have := h.hB; omega)
  refine ⟨hx, hy, h.hB, ap, h.bel.trans hb, fun e he => ?_, fun e he => ?_, ?_, fun i hi => ?_, h.sep, fun i hi => ?_, h.small, h.n8⟩
  · obtain ⟨k1, k2, k3, k4, k5⟩ := h.box e he
    exact ⟨(hk.block _ (block_lt k1) (h.freeT k1 k2 k3 k4)).trans k1, k2, k3, k4, k5⟩
  · obtain ⟨k1, k2, k3⟩ := h.row e he
    exact ⟨(ho k1 k2).1, (ho k1 k2).2, k3⟩
  · refine owns_same h.told fun g hg => ?_
    obtain ⟨cur, hc⟩ := owns_type h.told g hg
    exact hk.block g (block_lt hc) (h.freeT hc (by decide) (by decide) (by decide))
  · obtain ⟨C, hC⟩ := h.own i hi
    exact ⟨C, (ho hC (h.dis i hi)).1⟩
  · obtain ⟨C, hC⟩ := h.own i hi
    exact (ho hC (h.dis i hi)).2
theorem Lc.later (h : Lc w W b1 v1 rm ov1 l1 B2 b2 v2 ov2 l2 tv n L len bs rs) (hb : Below W.heap.size W W') : Lc w W' b1 v1 rm ov1 l1 B2 b2 v2 ov2 l2 tv n L len bs rs :=
  h.act (h.x.later hb) (h.y.later hb) h.ap (KeptIn.ofBelow hb) (fun g e => .inl e) (fun g e => .inl e)
theorem Lc.drewN (h : Lc w W b1 v1 rm ov1 l1 B2 b2 v2 ov2 l2 tv n L len bs rs) (q : Nat) : Lc w (W.drewN q) b1 v1 rm ov1 l1 B2 b2 v2 ov2 l2 tv n L len bs rs :=
  h.later ⟨rfl, rfl, rfl, Nat.le_refl _, fun _ _ => rfl⟩
theorem Lc.alloc (h : Lc w W b1 v1 rm ov1 l1 B2 b2 v2 ov2 l2 tv n L len bs rs) (cs : Array Value) (t : TypeId) (ht : t ≠ 5 ∧ t ≠ TIn ∧ t ≠ TRi ∧ t ≠ 22) : Lc w (W.alloc (.cells cs t)) b1 v1 rm ov1 l1 B2 b2 v2 ov2 l2 tv n L len ((W.heap.size, cs, t) :: bs) rs := by
  have h2 := h.later (W' := W.alloc (.cells cs t)) ((Below.refl _ _).alloc (Nat.le_refl _) _)
  refine ⟨h2.x, h2.y, h2.hB, h2.ap, h2.bel, fun e he => ?_, h2.row, h2.told, h2.own, h2.sep, h2.dis, h2.small, h2.n8⟩
  rcases List.mem_cons.1 he with rfl | he
  · exact ⟨heap_new W _, ht⟩
  · exact h2.box e he
theorem Lc.c (h : Lc w W b1 v1 rm ov1 l1 B2 b2 v2 ov2 l2 tv n L len bs rs) {g : Nat} {cs : Array Value} {t : TypeId} (hg : (g, cs, t) ∈ bs) (j : Nat) : W.cell? ⟨g, j, none⟩ = cs[j]? ∧ W.frozen? ⟨g, j, none⟩ = false :=
  ⟨blk_at (h.box _ hg).1 j, blk_free (h.box _ hg).1 j⟩
theorem Lc.drop (h : Lc w W b1 v1 rm ov1 l1 B2 b2 v2 ov2 l2 tv n L len bs rs) : Lc w W b1 v1 rm ov1 l1 B2 b2 v2 ov2 l2 tv n L len [] [] :=
  ⟨h.x, h.y, h.hB, h.ap, h.bel, by simp, by simp, h.told, h.own, h.sep, h.dis, h.small, h.n8⟩
/-- a Feed of both -/
theorem Lc.fed {u1 u2 : Value} {o1 : Nat} {m1 : List Nat} (h : Lc w W b1 v1 rm ov1 l1 B2 b2 v2 ov2 l2 tv n L len bs rs) (hx : Inb W' w.heap.size b1 u1 rm o1 m1) (hy : RIn W' B2 b2 u2 rm o1 m1) (ap : Apt b1 u1 b2 u2) (hk : KeptIn (fun g => ifp b1 v1 g ∨ ifp b2 v2 g) W W') (f1 : Fresh W v1 u1) (f2 : Fresh W v2 u2) : Lc w W' b1 u1 rm o1 m1 B2 b2 u2 o1 m1 tv n L len bs rs := by
  refine h.act hx hy ap hk (fun g hg => ?_) (fun g hg => ?_)
  · rcases f1 with f | ⟨g', f, hlt⟩
    · exact .inl (f ▸ hg)
    · rw [hg] at f; simp at f; subst f; exact .inr hlt
  · rcases f2 with f | ⟨g', f, hlt⟩
    · exact .inl (f ▸ hg)
    · rw [hg] at f; simp at f; subst f; exact .inr hlt
/-- bytes handed in stay -/
theorem Lc.hand (h : Lc w W b1 v1 rm ov1 l1 B2 b2 v2 ov2 l2 tv n L len bs rs) (hk : KeptIn (fun g => ifp b1 v1 g ∨ ifp b2 v2 g) W W') : Below w.heap.size w W' :=
  h.bel.trans (hk.below h.bel.size (fun g hg hf => by
    rcases hf with e | e
    · have := (h.x.lt g e).1; omega
    · have := (h.y.lt g e).1; have := h.hB; omega))
/-- a row is told -/
theorem Lc.rowed (h : Lc w W b1 v1 rm ov1 l1 B2 b2 v2 ov2 l2 tv n L len bs rs) {s : Nat} {dv : Value} {d : List Nat} (hr : W.ownsRow s 5 1 dv d.length (d.map bv)) (hs : w.heap.size ≤ s) (hd : ∀ g, dv.ownBlock = some g → v1.ownBlock ≠ some g ∧ v2.ownBlock ≠ some g) (hL : ∀ i, i < n → Sep dv (L i)) : Lc w W b1 v1 rm ov1 l1 B2 b2 v2 ov2 l2 tv n L len bs ((dv, d) :: rs) := by
  refine ⟨h.x, h.y, h.hB, h.ap, h.bel, h.box, fun e he => ?_, h.told, h.own, h.sep, h.dis, h.small, h.n8⟩
  rcases List.mem_cons.1 he with rfl | he
  · exact ⟨owns_mono hr hs, hd, hL⟩
  · exact h.row e he
theorem Lc.sepL (h : Lc w W b1 v1 rm ov1 l1 B2 b2 v2 ov2 l2 tv n L len bs rs) {dv : Value} (hd : ∀ g, dv.ownBlock = some g → W.heap.size ≤ g) (i : Nat) (hi : i < n) : Sep dv (L i) := fun g hg e => by
  obtain ⟨C, hC⟩ := h.own i hi
  have h1 := (owns_lt hC g e).1
  have h2 := hd g hg
  omega
theorem Lc.cutx {u : Value} {o : Nat} {m : List Nat} {dv : Value} {d : List Nat} (h : Lc w W b1 v1 rm ov1 l1 B2 b2 v2 ov2 l2 tv n L len bs rs) (hi : Inb W' w.heap.size b1 u rm o m) (ha : IAct W W' b1 v1 u) (hr : W'.ownsRow W.heap.size 5 1 dv d.length (d.map bv)) (hn : ∀ g, dv.ownBlock = some g → u.ownBlock ≠ some g) : Lc w W' b1 u rm o m B2 b2 v2 ov2 l2 tv n L len bs ((dv, d) :: rs) := by
  have hfr := (RAct.ofI ha).fresh
  have ap : Apt b1 u b2 v2 := by
    rintro g (e | e) k
    · exact h.ap g (.inl e) k
    · rcases hfr g e with f | f
      · exact h.ap g (.inr f) k
      · have := (h.y.lt g k).2; omega
  have h2 : Lc w W' b1 u rm o m B2 b2 v2 ov2 l2 tv n L len bs rs := h.act hi (h.y.keep ha.kept (fun g hg k => h.ap g k hg)) ap (ha.kept.mono fun g _ e => .inl e) hfr (fun g e => .inl e)
  refine h2.rowed hr h.bel.size (fun g hg => ⟨hn g hg, fun k => ?_⟩) (fun i hi => h.sepL (fun g hg => (owns_lt hr g hg).2) i hi)
  have h3 := (owns_lt hr g hg).2
  have h4 := (h.y.lt g (.inr k)).2
  omega
theorem Lc.cuty {u : Value} {o : Nat} {m : List Nat} {dv : Value} {d : List Nat} (h : Lc w W b1 v1 rm ov1 l1 B2 b2 v2 ov2 l2 tv n L len bs rs) (hi : RIn W' B2 b2 u rm o m) (ha : RAct W W' b2 v2 u) (hr : W'.ownsRow W.heap.size 5 1 dv d.length (d.map bv)) (hn : ∀ g, dv.ownBlock = some g → u.ownBlock ≠ some g) : Lc w W' b1 v1 rm ov1 l1 B2 b2 u o m tv n L len bs ((dv, d) :: rs) := by
  have ap : Apt b1 v1 b2 u := by
    rintro g k (e | e)
    · exact h.ap g k (.inl e)
    · rcases ha.fresh g e with f | f
      · exact h.ap g k (.inr f)
      · have := (h.x.lt g k).2; omega
  have h2 : Lc w W' b1 v1 rm ov1 l1 B2 b2 u o m tv n L len bs rs := h.act (h.x.keep ha.kept (fun g hg k => h.ap g hg k)) hi ap (ha.kept.mono fun g _ e => .inr e) (fun g e => .inl e) ha.fresh
  refine h2.rowed hr h.bel.size (fun g hg => ⟨fun k => ?_, hn g hg⟩) (fun i hi => h.sepL (fun g hg => (owns_lt hr g hg).2) i hi)
  have h3 := (owns_lt hr g hg).2
  have h4 := (h.x.lt g (.inr k)).2
  omega
def updN (f : Nat → Nat) (i v j : Nat) : Nat := if j = i then v else f j
/-- a told row is taken among the lists -/
theorem Lc.add {w1 W0 : World} {dv u' : Value} {d : List Nat} (h : Lc w W b1 v1 rm ov1 l1 B2 b2 v2 ov2 l2 tv n L len bs rs) (hm : (dv, d) ∈ rs) (hd : d.length ≤ 4398046511104) (hn : n < 8) (hb : Below W.heap.size W W0) (ho : w1.ownsRow w.heap.size 22 1 u' (n + 1) ((List.range n).map L ++ [dv])) (hg : W0.grownBy w1 tv.ownBlock) :
    Lc w w1 b1 v1 rm ov1 l1 B2 b2 v2 ov2 l2 u' (n + 1) (updV L n dv) (updN len n d.length) [] [] := by
  have h0 := h.later hb
  have htb : ∀ g, tv.ownBlock = some g → ∃ cur, W0.heap[g]? = some (.cells cur 22 (0, 0)) := fun g hg' => owns_type h0.told g hg'
  have hblk : ∀ g {cs : Array Value} {t : TypeId}, W0.heap[g]? = some (Obj.cells cs t (0, 0)) → t ≠ 22 → w1.heap[g]? = W0.heap[g]? := fun g cs t hc ht => hg.block g (block_lt hc) (fun e => by
    obtain ⟨cur, hc2⟩ := htb g e.symm
    exact ht (blk_type hc hc2))
  have hV : ∀ {v : Value} {m : Nat} {xs : List Value}, W0.ownsRow w.heap.size 5 1 v m xs → w1.ownsRow w.heap.size 5 1 v m xs := fun {v m xs} hx => owns_same hx fun g hg' => by
    obtain ⟨cur, hc⟩ := owns_type hx g hg'
    exact hblk g hc (by decide)
  obtain ⟨r1, r2, r3⟩ := h0.row _ hm
  have hbw : Below w.heap.size W0 w1 := by
    refine ⟨hg.os, hg.tape, hg.output, hg.size, fun g hlt => hg.block g (Nat.lt_of_lt_of_le hlt h0.bel.size) (fun e => ?_)⟩
    have := (owns_lt h0.told g e.symm).2
    omega
  refine ⟨⟨(hblk _ h0.x.blk (by decide)).trans h0.x.blk, h0.x.row.same fun g hg' => ?_, h0.x.hb, h0.x.r1, h0.x.r2, h0.x.le, h0.x.ov4⟩, ⟨(hblk _ h0.y.blk (by decide)).trans h0.y.blk, h0.y.row.same fun g hg' => ?_, h0.y.hb, h0.y.r1, h0.y.r2, h0.y.le, h0.y.ov4⟩, h0.hB, h0.ap, h0.bel.trans hbw, by simp, by simp, ?_, fun i hi => ?_, fun i j hi hj hne => ?_, fun i hi => ?_, fun i hi => ?_, by omega⟩
  · obtain ⟨_, _, cur, hc⟩ := h0.x.row.lo g hg'
    exact hblk g hc (by decide)
  · obtain ⟨_, _, cur, hc⟩ := h0.y.row.lo g hg'
    exact hblk g hc (by decide)
  · have e : (List.range (n + 1)).map (updV L n dv) = (List.range n).map L ++ [dv] := by
      rw [List.range_succ, List.map_append]
      congr 1
      · apply List.map_congr_left
        intro j hj
        have : j < n := List.mem_range.1 hj
        simp only [updV, if_neg (show ¬ j = n by omega)]
      · simp [updV]
    rw [e]; exact ho
  · by_cases e : i = n
    · subst e; simp only [updV, updN, if_pos]; exact ⟨d, hV r1⟩
    · simp only [updV, updN, if_neg e]
      obtain ⟨C, hC⟩ := h0.own i (by omega)
      exact ⟨C, hV hC⟩
  · by_cases e : i = n
    · subst e
      simp only [updV, if_pos, if_neg (show ¬ j = i by omega)]
      exact r3 j (by omega)
    · by_cases e2 : j = n
      · subst e2
        simp only [updV, if_pos, if_neg e]
        exact (r3 i (by omega)).symm
      · simp only [updV, if_neg e, if_neg e2]
        exact h0.sep i j (by omega) (by omega) hne
  · by_cases e : i = n
    · subst e; simp only [updV, if_pos]; exact r2
    · simp only [updV, if_neg e]; exact h0.dis i (by omega)
  · by_cases e : i = n
    · subst e; simp only [updN, if_pos]; exact hd
    · simp only [updN, if_neg e]; exact h0.small i (by omega)
/-- as lists for mark -/
theorem Lc.lists {lb cap : Nat} (h : Lc w W b1 v1 rm ov1 l1 B2 b2 v2 ov2 l2 (.slice (some ⟨lb, 0, none⟩) n cap) n L len bs rs) : Lists W w.heap.size lb 0 n L len := by
  refine ⟨fun i hi => ?_, h.own, h.sep, fun i hi e => ?_, h.small, h.bel.size⟩
  · rw [Nat.zero_add, h.told.cellAt i (by omega)]
    simp [hi]
  · obtain ⟨C, hC⟩ := h.own i hi
    obtain ⟨c1, e1⟩ := owns_type hC lb e
    obtain ⟨c2, e2⟩ := owns_type h.told lb rfl
    exact absurd (blk_type e1 e2) (by decide)
/-- behind mark -/
theorem Lc.marked (h : Lc w W b1 v1 rm ov1 l1 B2 b2 v2 ov2 l2 tv n L len bs rs) (hk : KeptIn (OwnSet n L) W W') (ho : ∀ i, i < n → ∃ C : List Nat, W'.ownsRow w.heap.size 5 1 (L i) (len i) (C.map bv)) : Lc w W' b1 v1 rm ov1 l1 B2 b2 v2 ov2 l2 tv n L len [] [] := by
  have hS : ∀ g, (ifp b1 v1 g ∨ ifp b2 v2 g) → ¬ OwnSet n L g := by
    rintro g hf ⟨i, hi, e⟩
    obtain ⟨C, hC⟩ := h.own i hi
    exact h.freeO hC (h.dis i hi) g e hf
  refine ⟨h.x.keep hk fun g hg => hS g (.inl hg), h.y.keep hk fun g hg => hS g (.inr hg), h.hB, h.ap, h.bel.trans (hk.below h.bel.size fun g hg ⟨i, hi, e⟩ => ?_), by simp, by simp, owns_same h.told fun g hg => hk.block g (owns_lt h.told g hg).1 fun ⟨i, hi, e⟩ => ?_, ho, h.sep, h.dis, h.small, h.n8⟩
  · obtain ⟨C, hC⟩ := h.own i hi
    have := (owns_lt hC g e).2
    omega
  · obtain ⟨C, hC⟩ := h.own i hi
    obtain ⟨c1, e1⟩ := owns_type hC g e
    obtain ⟨c2, e2⟩ := owns_type h.told g hg
    exact absurd (blk_type e1 e2) (by decide)
end
end Go.Proofs.Ytckfmpoddmccfaa
