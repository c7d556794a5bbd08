import Derived.Test.YtijafckdbhklmaaSN1
namespace Go.Proofs.Ytijafckdbhklmaa.I
open Go.RowKit Go.Sort Go.Lib Go.Shelf Go.Proofs.Ytijafckdbhklmaa
set_option linter.unusedVariables false
set_option linter.unusedSimpArgs false
set_option maxRecDepth 100000

/-- all but these blocks stay -/
structure KX (S : Nat → Prop) (W W' : World) : Prop where
  os : W'.os = W.os
  tape : W'.tape = W.tape
  output : W'.output = W.output
  size : W.heap.size ≤ W'.heap.size
  block : ∀ k, k < W.heap.size → ¬ S k → W'.heap[k]? = W.heap[k]?
theorem KX.refl (S : Nat → Prop) (W : World) : KX S W W := ⟨rfl, rfl, rfl, Nat.le_refl _, fun _ _ _ => rfl⟩
theorem KX.trans {S : Nat → Prop} {A B C : World} (h : KX S A B) (k : KX S B C) : KX S A C :=
  ⟨k.os.trans h.os, k.tape.trans h.tape, k.output.trans h.output, Nat.le_trans h.size k.size, fun i hi hS => (k.block i (Nat.lt_of_lt_of_le hi h.size) hS).trans (h.block i hi hS)⟩
theorem KX.of_below {S : Nat → Prop} {A B : World} (h : Below A.heap.size A B) : KX S A B := ⟨h.os, h.tape, h.output, h.size, fun k hk _ => h.block k hk⟩
theorem KX.below {S : Nat → Prop} {n : Nat} {A B C : World} (h : Below n A B) (k : KX S B C) (hn : n ≤ B.heap.size) (hS : ∀ i, S i → n ≤ i) : Below n A C :=
  ⟨k.os.trans h.os, k.tape.trans h.tape, k.output.trans h.output, Nat.le_trans h.size k.size, fun i hi => (k.block i (by omega) (fun hs => by have := hS i hs; omega)).trans (h.block i hi)⟩
theorem KX.box {S : Nat → Prop} {A B : World} (h : KX S A B) {k t : Nat} {v : Value} (hb : Boxed A k t v) (hS : ¬ S k) : Boxed B k t v := (h.block k hb.lt hS).trans hb
theorem KX.row {S : Nat → Prop} {A B : World} (h : KX S A B) {base T n s : Nat} {v : Value} {xs : List Value} (hr : A.ownsRow base T s v n xs) (hS : ∀ g, v.ownBlock = some g → ¬ S g) : B.ownsRow base T s v n xs :=
  owns_same hr (fun g e => h.block g (row_lt hr g e).1 (hS g e))
theorem KX.mo {S : Nat → Prop} {A B : World} (h : KX S A B) {base bm : Nat} {v : Value} {size : Int} {rs : List (Rn Int)} (hm : MO A base bm v size rs) (h1 : ¬ S bm) (hS : ∀ g, v.ownBlock = some g → ¬ S g) : MO B base bm v size rs :=
  hm.same (h.block _ hm.ltm h1) (fun g e => h.block g (row_lt hm.row g e).1 (hS g e))
theorem KX.own_grown {S : Nat → Prop} {A X Y : World} {row : Option Nat} (h : KX S A X) (hg : X.grownBy Y row) (hr : ∀ r, row = some r → A.heap.size ≤ r) : KX S A Y :=
  ⟨hg.os.trans h.os, hg.tape.trans h.tape, hg.output.trans h.output, Nat.le_trans h.size hg.size, fun k hk hS => (hg.block k (Nat.lt_of_lt_of_le hk h.size) (fun e => by have := hr k e.symm; omega)).trans (h.block k hk hS)⟩
/-- what the ranging may change -/
def S0 (bm ib gb : Nat) (vm0 : Value) (k : Nat) : Prop := k = bm ∨ k = ib ∨ k = gb ∨ vm0.ownBlock = some k
/-- while the law ranges -/
structure SJ (W0 : World) (Bm bm ib gb : Nat) (vm0 : Value) (size : Int) (got : List (Rn Int)) (i : Int) (rs : List (Rn Int)) (W : World) : Prop where
  kx : KX (S0 bm ib gb vm0) W0 W
  m : ∃ vm, MO W Bm bm vm size rs ∧ ∀ g, vm.ownBlock = some g → vm0.ownBlock = some g ∨ W0.heap.size ≤ g
  i : Boxed W ib 3 (.int .i64 i)
  g : ∃ gv, Boxed W gb TEnts gv ∧ W.ownsRow W0.heap.size TEnt 3 gv got.length (rcells E got)
  ne : ib ≠ gb
  li : ib < W0.heap.size
  lg : gb < W0.heap.size
  lm : bm < W0.heap.size
section
variable {W0 W W' : World} {Bm bm ib gb : Nat} {vm0 : Value} {size i : Int} {got rs : List (Rn Int)}
theorem box_not {W : World} {k t b : Nat} {v : Value} {cs : Array Value} {T : TypeId} (hb : Boxed W k t v) (hc : W.heap[b]? = some (.cells cs T (0, 0))) (ht : t ≠ T) : k ≠ b := fun e => by
  have h1 : W.heap[k]? = some (.cells #[v] t (0, 0)) := hb
  rw [e, hc] at h1
  simp at h1
  exact ht h1.2.symm
theorem rows_not {W : World} {B B' T T' s s' n n' : Nat} {v v' : Value} {xs xs' : List Value} (h : W.ownsRow B T s v n xs) (h' : W.ownsRow B' T' s' v' n' xs') (ht : T ≠ T') {g : Nat} (hg : v.ownBlock = some g) : v'.ownBlock ≠ some g := fun e => by
  obtain ⟨_, _, cs, h1⟩ := row_lt h g hg
  obtain ⟨_, _, cs', h2⟩ := row_lt h' g e
  rw [h1] at h2
  simp at h2
  exact ht h2.2
/-- a change of blocks that are none of the ranging's -/
theorem SJ.other (h : SJ W0 Bm bm ib gb vm0 size got i rs W) {S : Nat → Prop} (hk : KX S W W') (hS : ∀ k, S k → W0.heap.size ≤ k ∧ ∃ cs T, W.heap[k]? = some (.cells cs T (0, 0)) ∧ T ≠ TRun ∧ T ≠ TEnt) : SJ W0 Bm bm ib gb vm0 size got i rs W' := by
  obtain ⟨vm, hm, hf⟩ := h.m
  obtain ⟨gv, hg, hr⟩ := h.g
  have n0 : ∀ k, k < W0.heap.size → ¬ S k := fun k hk hs => by have := (hS k hs).1; omega
  refine ⟨⟨hk.os.trans h.kx.os, hk.tape.trans h.kx.tape, hk.output.trans h.kx.output, Nat.le_trans h.kx.size hk.size, fun k hlt hs => (hk.block k (Nat.lt_of_lt_of_le hlt h.kx.size) (n0 k hlt)).trans (h.kx.block k hlt hs)⟩, ⟨vm, hk.mo hm (n0 _ h.lm) (fun g e hs => ?_), hf⟩, hk.box h.i (n0 _ h.li), ⟨gv, hk.box hg (n0 _ h.lg), hk.row hr (fun g e hs => ?_)⟩, h.ne, h.li, h.lg, h.lm⟩
  · obtain ⟨_, cs, T, h1, h2, h3⟩ := hS g hs
    obtain ⟨_, _, cs', h4⟩ := row_lt hm.row g e
    rw [h1] at h4; simp at h4; exact h2 h4.2
  · obtain ⟨_, cs, T, h1, h2, h3⟩ := hS g hs
    obtain ⟨_, _, cs', h4⟩ := row_lt hr g e
    rw [h1] at h4; simp at h4; exact h3 h4.2
theorem SJ.later (h : SJ W0 Bm bm ib gb vm0 size got i rs W) (hb : Below W.heap.size W W') : SJ W0 Bm bm ib gb vm0 size got i rs W' :=
  h.other (S := fun _ => False) (KX.of_below hb) (fun _ f => f.elim)
theorem SJ.own {B : Nat} (hB : W0.heap.size ≤ B) : OwnFrom B (fun (_ : Unit) W => SJ W0 Bm bm ib gb vm0 size got i rs W) := fun _ X Y row hs hg hr => by
  have key : ∀ (k : Nat) (cs : Array Value) (T : TypeId) (fr : Nat × Nat), X.heap[k]? = some (.cells cs T fr) → Y.heap[k]? = X.heap[k]? := fun k cs T fr hk => hg.block k (Array.getElem?_eq_some_iff.1 hk).1 (fun e => by
    obtain ⟨_, o, ho, hc⟩ := hr k e.symm
    rw [hk] at ho; cases ho; simp [Obj.isCells] at hc)
  obtain ⟨vm, hm, hf⟩ := hs.m
  obtain ⟨gv, hgv, hrw⟩ := hs.g
  refine ⟨⟨hg.os.trans hs.kx.os, hg.tape.trans hs.kx.tape, hg.output.trans hs.kx.output, Nat.le_trans hs.kx.size hg.size, fun k hlt hS => (hg.block k (Nat.lt_of_lt_of_le hlt hs.kx.size) (fun e => by have := (hr k e.symm).1; omega)).trans (hs.kx.block k hlt hS)⟩, ⟨vm, hm.same (key _ _ _ _ hm.blk) (fun g e => ?_), hf⟩, (key _ _ _ _ hs.i).trans hs.i, ⟨gv, (key _ _ _ _ hgv).trans hgv, owns_same hrw (fun g e => ?_)⟩, hs.ne, hs.li, hs.lg, hs.lm⟩
  · obtain ⟨_, _, cs, h1⟩ := row_lt hm.row g e
    exact key _ _ _ _ h1
  · obtain ⟨_, _, cs, h1⟩ := row_lt hrw g e
    exact key _ _ _ _ h1
theorem kpC_of (h1 : ∀ k cur fr, FineC bm k W → W.heap[k]? = some (.cells cur TRun fr) → W'.heap[k]? = W.heap[k]?) (h2 : bm < W.heap.size → W'.heap[bm]? = W.heap[bm]?) (h3 : W.heap.size ≤ W'.heap.size) : KpC bm W W' := fun g hf =>
  ⟨fun cur fr hi => (h1 g cur fr hf hi).trans hi, fineC_same hf (h2 (fineC_lt hf)) h3⟩
/-- a change of boxes and of rows of other types -/
theorem kpC_kx {S : Nat → Prop} (hk : KX S W W') (hS : ∀ k, S k → ∃ cs T, W.heap[k]? = some (.cells cs T (0, 0)) ∧ T ≠ TRun ∧ T ≠ TMap) (hm : ∃ cs, W.heap[bm]? = some (.cells cs TMap (0, 0))) : KpC bm W W' := by
  refine kpC_of (fun k cur fr _ hi => hk.block k (Array.getElem?_eq_some_iff.1 hi).1 (fun hs => ?_)) (fun hlt => hk.block bm hlt (fun hs => ?_)) hk.size
  · obtain ⟨cs, T, h1, h2, h3⟩ := hS k hs
    rw [h1] at hi; simp at hi; exact h2 hi.2.1
  · obtain ⟨cs, T, h1, h2, h3⟩ := hS bm hs
    obtain ⟨cs', h4⟩ := hm
    rw [h1] at h4; simp at h4; exact h3 h4.2
theorem keeps_kx {S : Nat → Prop} (hk : KX S W W') (hS : ∀ k, S k → ∃ cs T, W.heap[k]? = some (.cells cs T (0, 0))) : KeepsOthers W W' :=
  ⟨hk.size, fun k o ho hc => (hk.block k (Array.getElem?_eq_some_iff.1 ho).1 (fun hs => by obtain ⟨cs, T, h1⟩ := hS k hs; rw [h1] at ho; cases ho; simp [Obj.isCells] at hc)).trans ho⟩
theorem kx_set (W : World) (b j : Nat) (u : Value) : KX (· = b) W (W.setCell ⟨b, j, none⟩ u) := by
  have h := grownBy_setCell' W b u
  have e : (W.setCell ⟨b, j, none⟩ u).heap.size = W.heap.size := by simp
  refine ⟨?_, ?_, ?_, by omega, fun k hk hne => Below.heap_setCell _ _ _ _ hne⟩
  all_goals first | rfl | (unfold World.setCell; split <;> rfl) | simp [World.setCell]
/-- a store into i -/
theorem SJ.setI (h : SJ W0 Bm bm ib gb vm0 size got i rs W) (i' : Int) : SJ W0 Bm bm ib gb vm0 size got i' rs (W.setCell ⟨ib, 0, none⟩ (.int .i64 i')) ∧ KpC bm W (W.setCell ⟨ib, 0, none⟩ (.int .i64 i')) ∧ KeepsOthers W (W.setCell ⟨ib, 0, none⟩ (.int .i64 i')) := by
  have hk := kx_set W ib 0 (.int .i64 i')
  obtain ⟨vm, hm, hf⟩ := h.m
  obtain ⟨gv, hg, hr⟩ := h.g
  have hc : W.heap[ib]? = some (.cells #[.int .i64 i] 3 (0, 0)) := h.i
  refine ⟨⟨⟨hk.os.trans h.kx.os, hk.tape.trans h.kx.tape, hk.output.trans h.kx.output, Nat.le_trans h.kx.size hk.size, fun k hlt hs => (hk.block k (Nat.lt_of_lt_of_le hlt h.kx.size) (fun e => hs (.inr (.inl e)))).trans (h.kx.block k hlt hs)⟩, ⟨vm, hk.mo hm (fun e => ?_) (fun g e he => ?_), hf⟩, h.i.set _, ⟨gv, hk.box hg (fun e => h.ne e.symm), hk.row hr (fun g e he => ?_)⟩, h.ne, h.li, h.lg, h.lm⟩, kpC_kx hk (fun k e => ⟨#[.int .i64 i], 3, by rw [e]; exact hc, by decide, by decide⟩) ⟨_, hm.blk⟩, keeps_kx hk (fun k e => ⟨#[.int .i64 i], 3, by rw [e]; exact hc⟩)⟩
  · have := hm.blk; rw [e, hc] at this; simp [TMap] at this
  · obtain ⟨_, _, cs', h4⟩ := row_lt hm.row g e
    rw [he, hc] at h4; simp [TRun] at h4
  · obtain ⟨_, _, cs', h4⟩ := row_lt hr g e
    rw [he, hc] at h4; simp [TEnt] at h4
/-- a Set -/
theorem SJ.set {rs' : List (Rn Int)} {vm vm' : Value} (h : SJ W0 Bm bm ib gb vm0 size got i rs W) (hm : MO W Bm bm vm size rs) (hf : ∀ g, vm.ownBlock = some g → vm0.ownBlock = some g ∨ W0.heap.size ≤ g) (hm' : MO W' Bm bm vm' size rs') (hk : KeptM W W' bm vm vm') : SJ W0 Bm bm ib gb vm0 size got i rs' W' ∧ KpC bm W W' ∧ KeepsOthers W W' := by
  obtain ⟨gv, hg, hr⟩ := h.g
  have hkx : KX (fun k => k = bm ∨ vm.ownBlock = some k) W W' := ⟨hk.os, hk.tape, hk.output, hk.size, fun k hlt hs => hk.block k hlt (fun e => hs (.inl e)) (fun e => hs (.inr e))⟩
  have hS : ∀ k, (k = bm ∨ vm.ownBlock = some k) → ∃ cs T, W.heap[k]? = some (.cells cs T (0, 0)) ∧ T ≠ 3 ∧ T ≠ TEnts ∧ T ≠ TEnt := fun k hs => by
    rcases hs with rfl | e
    · exact ⟨_, _, hm.blk, by decide, by decide, by decide⟩
    · obtain ⟨_, _, cs, h1⟩ := row_lt hm.row k e
      exact ⟨_, _, h1, by decide, by decide, by decide⟩
  refine ⟨⟨⟨hk.os.trans h.kx.os, hk.tape.trans h.kx.tape, hk.output.trans h.kx.output, Nat.le_trans h.kx.size hk.size, fun k hlt hs => (hkx.block k (Nat.lt_of_lt_of_le hlt h.kx.size) (fun e => ?_)).trans (h.kx.block k hlt hs)⟩, ⟨vm', hm', fun g e => ?_⟩, hkx.box h.i (fun hs => ?_), ⟨gv, hkx.box hg (fun hs => ?_), hkx.row hr (fun g e hs => ?_)⟩, h.ne, h.li, h.lg, h.lm⟩, fun g hfn => ?_, keeps_kx hkx (fun k hs => by obtain ⟨cs, T, h1, _⟩ := hS k hs; exact ⟨cs, T, h1⟩)⟩
  · rcases e with rfl | e
    · exact hs (.inl rfl)
    · rcases hf k e with e2 | e2
      · exact hs (.inr (.inr (.inr e2)))
      · omega
  · rcases hk.fresh with e2 | e2
    · exact hf g (e2 ▸ e)
    · exact .inr (Nat.le_trans h.kx.size (e2 g e))
  · obtain ⟨cs, T, h1, h2, h3, h4⟩ := hS _ hs
    exact box_not h.i h1 (fun e => h2 e.symm) rfl
  · obtain ⟨cs, T, h1, h2, h3, h4⟩ := hS _ hs
    exact box_not hg h1 (fun e => h3 e.symm) rfl
  · obtain ⟨cs, T, h1, h2, h3, h4⟩ := hS _ hs
    obtain ⟨_, _, cs', h5⟩ := row_lt hr g e
    rw [h1] at h5; simp at h5; exact h4 h5.2
  · obtain ⟨sz, v, a, b, c⟩ := hfn
    have ev : v = vm := by
      have := a.symm.trans hm.blk
      simpa using (by simpa using this : _ ∧ _).2
    subst ev
    refine ⟨fun cur fr hi => (hk.block g c (fun e => ?_) b).trans hi, size, vm', hm'.blk, fun e => ?_, Nat.lt_of_lt_of_le c hk.size⟩
    · subst e
      have := hi.symm.trans hm.blk
      simp [TRun, TMap] at this
    · rcases hk.fresh with e2 | e2
      · exact b (e2.symm.trans e)
      · have := e2 g e
        omega
/-- a run is appended to what was got -/
theorem SJ.app {x : Rn Int} {gv v' : Value} {w1 : World} {tmp : Obj} (h : SJ W0 Bm bm ib gb vm0 size got i rs W) (hg : Boxed W gb TEnts gv) (hr : W.ownsRow W0.heap.size TEnt 3 gv got.length (rcells E got)) (hown : w1.ownsRow W0.heap.size TEnt 3 v' (got.length + 1) (rcells E got ++ [.int .i64 x.lo, .int .i64 x.hi, .int .i64 x.v])) (hgrow : (W.alloc tmp).grownBy w1 gv.ownBlock) :
    SJ W0 Bm bm ib gb vm0 size (got ++ [x]) i rs (w1.setCell ⟨gb, 0, none⟩ v') ∧ KpC bm W (w1.setCell ⟨gb, 0, none⟩ v') ∧ KeepsOthers W (w1.setCell ⟨gb, 0, none⟩ v') ∧ Boxed w1 gb TEnts gv := by
  obtain ⟨vm, hm, hf⟩ := h.m
  have hsz := h.kx.size
  have hk : KX (fun k => k = gb ∨ gv.ownBlock = some k) W (w1.setCell ⟨gb, 0, none⟩ v') := by
    have h1 : KX (fun k => k = gb ∨ gv.ownBlock = some k) W w1 := ⟨hgrow.os, hgrow.tape, hgrow.output, by have := hgrow.size; simp at this; omega, fun k hlt hs => (hgrow.block k (by simp; omega) (fun e => hs (.inr e.symm))).trans (Below.heap_alloc _ _ _ hlt)⟩
    have h2 := kx_set w1 gb 0 v'
    exact h1.trans ⟨h2.os, h2.tape, h2.output, h2.size, fun k hlt hs => h2.block k hlt (fun e => hs (.inl e))⟩
  have hS : ∀ k, (k = gb ∨ gv.ownBlock = some k) → ∃ cs T, W.heap[k]? = some (.cells cs T (0, 0)) ∧ T ≠ 3 ∧ T ≠ TRun ∧ T ≠ TMap := fun k hs => by
    rcases hs with rfl | e
    · exact ⟨_, _, hg, by decide, by decide, by decide⟩
    · obtain ⟨_, _, cs, h1⟩ := row_lt hr k e
      exact ⟨_, _, h1, by decide, by decide, by decide⟩
  obtain ⟨hv1, hv2, hr2, hk2, hb2⟩ := hg.appended (n₀ := gb) (by decide) (owns_mono (b := gb) hr (by have := h.lg; omega)) (by have := hg.lt; omega) (Nat.le_refl _) (owns_mono (b := gb) hown (by have := h.lg; omega)) hgrow
  refine ⟨⟨⟨hk.os.trans h.kx.os, hk.tape.trans h.kx.tape, hk.output.trans h.kx.output, Nat.le_trans h.kx.size hk.size, fun k hlt hs => (hk.block k (Nat.lt_of_lt_of_le hlt h.kx.size) (fun e => ?_)).trans (h.kx.block k hlt hs)⟩, ⟨vm, hk.mo hm (fun hs => ?_) (fun g e hs => ?_), hf⟩, hk.box h.i (fun hs => ?_), ⟨v', hv2, ?_⟩, h.ne, h.li, h.lg, h.lm⟩, kpC_kx hk (fun k hs => by obtain ⟨cs, T, h1, h2, h3, h4⟩ := hS k hs; exact ⟨cs, T, h1, h3, h4⟩) ⟨_, hm.blk⟩, keeps_kx hk (fun k hs => by obtain ⟨cs, T, h1, _⟩ := hS k hs; exact ⟨cs, T, h1⟩), hv1⟩
  · rcases e with e | e
    · exact hs (.inr (.inr (.inl e)))
    · have := (row_lt hr k e).2.1; omega
  · obtain ⟨cs, T, h1, h2, h3, h4⟩ := hS _ hs
    have := hm.blk
    rw [h1] at this; simp at this; exact h4 this.2
  · obtain ⟨cs, T, h1, h2, h3, h4⟩ := hS _ hs
    obtain ⟨_, _, cs', h5⟩ := row_lt hm.row g e
    rw [h1] at h5; simp at h5; exact h3 h5.2
  · obtain ⟨cs, T, h1, h2, h3, h4⟩ := hS _ hs
    exact box_not h.i h1 (fun e => h2 e.symm) rfl
  · rw [List.length_append, rcells_snoc]
    refine owns_same hown (fun g e => Below.heap_setCell _ _ _ _ (fun e2 => ?_))
    have := (row_lt hown g e).2.1
    have := h.lg
    have e3 : g = gb := e2
    omega
end
end Go.Proofs.Ytijafckdbhklmaa.I
