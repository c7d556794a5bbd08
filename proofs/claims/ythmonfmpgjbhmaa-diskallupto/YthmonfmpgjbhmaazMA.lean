import Derived.Test.YthmonfmpgjbhmaazLQ
import Derived.Test.YthmonfmpgjbhmaazKO
namespace Go.Proofs.Ythmonfmpgjbhmaa.K
open Go.RowKit Go.Maps Go.Proofs.Ythmonfmpgjbhmaa
attribute [local go_sem] Oper.semAt_some
set_option linter.unusedVariables false
set_option linter.unusedSimpArgs false
set_option maxRecDepth 100000

/-- the blocks of the document's disk -/
def fr (p : Nat) (dv qv av : Value) (X : List Pv) : List Nat := p :: (dv.ownBlock.toList ++ (qv.ownBlock.toList ++ (av.ownBlock.toList ++ X.flatMap fun x => x.2.1.ownBlock.toList)))
def rst (n : Nat) (dv qv av : Value) (st : Sts) : Array Value := #[.int .i64 n, .slice none 0 0, dv, qv, av, .int .u64 st.reads, .int .u64 st.writes, .int .u64 st.bars, .int .u64 st.failed, .int .u64 st.crashes]
/-- the document's disk in memory -/
structure RR (w : World) (p : Nat) (dv qv av : Value) (D Q : List Pv) (S : Dk) : Prop where
  blk : w.heap[p]? = some (.cells (rst S.n dv qv av S.st) TRf (0, 0))
  n0 : 1 ≤ S.n
  n1 : S.n ≤ 65536
  dr : w.ownsRow 0 TPt 2 dv D.length (qcells D)
  qr : w.ownsRow 0 TPt 2 qv Q.length (qcells Q)
  fr : w.ownsRow 0 TFa 5 av S.fs.length (fcells S.fs)
  dat : ∀ x ∈ D ++ Q, w.ownsRow 0 5 1 x.2.1 512 (x.2.2.map bv)
  ok : ∀ x ∈ D ++ Q, x.1 < S.n ∧ OkB x.2.2
  ne : ∀ g, dv.ownBlock = some g → qv.ownBlock ≠ some g
  q : Q.map bare = S.q
  sf : ∀ s, s < S.n → S.safe s = (lastQ s (D.map bare)).getD z512
  qz : Q = [] → qv = .slice none 0 0
theorem mem_fr {p i : Nat} {dv qv av : Value} {X : List Pv} : i ∈ fr p dv qv av X ↔ i = p ∨ dv.ownBlock = some i ∨ qv.ownBlock = some i ∨ av.ownBlock = some i ∨ ∃ x ∈ X, x.2.1.ownBlock = some i := by
  simp [fr, List.mem_flatMap]
section
variable {w w' : World} {p : Nat} {dv qv av : Value} {D Q : List Pv} {S : Dk}
theorem RR.c (h : RR w p dv qv av D Q S) (j : Nat) : w.cell? ⟨p, j, none⟩ = (rst S.n dv qv av S.st)[j]? := cell_of h.blk
theorem RR.fz (h : RR w p dv qv av D Q S) (j : Nat) : w.frozen? ⟨p, j, none⟩ = false := frozen_of h.blk
theorem RR.lt (h : RR w p dv qv av D Q S) : ∀ i ∈ Go.Proofs.Ythmonfmpgjbhmaa.K.fr p dv qv av (D ++ Q), i < w.heap.size := by
  intro i hi
  rcases mem_fr.1 hi with rfl | hi | hi | hi | ⟨x, hx, hi⟩
  · exact (Array.getElem?_eq_some_iff.1 h.blk).1
  · exact (row_lt h.dr i hi).1
  · exact (row_lt h.qr i hi).1
  · exact (row_lt h.fr i hi).1
  · exact (row_lt (h.dat x hx) i hi).1
theorem RR.same (h : RR w p dv qv av D Q S) (hs : ∀ i ∈ Go.Proofs.Ythmonfmpgjbhmaa.K.fr p dv qv av (D ++ Q), w'.heap[i]? = w.heap[i]?) : RR w' p dv qv av D Q S :=
  ⟨(hs p (mem_fr.2 (.inl rfl))).trans h.blk, h.n0, h.n1, ownsRow_block h.dr fun g e => hs g (mem_fr.2 (.inr (.inl e))), ownsRow_block h.qr fun g e => hs g (mem_fr.2 (.inr (.inr (.inl e)))), ownsRow_block h.fr fun g e => hs g (mem_fr.2 (.inr (.inr (.inr (.inl e))))), fun x hx => ownsRow_block (h.dat x hx) fun g e => hs g (mem_fr.2 (.inr (.inr (.inr (.inr ⟨x, hx, e⟩))))), h.ok, h.ne, h.q, h.sf, h.qz⟩
theorem RR.later (h : RR w p dv qv av D Q S) (hb : Below w.heap.size w w') : RR w' p dv qv av D Q S := h.same fun i hi => hb.block i (h.lt i hi)
theorem RR.kept {F : List Nat} (h : RR w p dv qv av D Q S) (hk : Kp w w' F) (hd : ∀ i ∈ Go.Proofs.Ythmonfmpgjbhmaa.K.fr p dv qv av (D ++ Q), i ∉ F) : RR w' p dv qv av D Q S := h.same fun i hi => hk.block i (h.lt i hi) (hd i hi)
theorem own_types {B B' T T' size size' n n' g : Nat} {v v' : Value} {xs xs' : List Value} (h : w.ownsRow B T size v n xs) (h' : w.ownsRow B' T' size' v' n' xs') (hT : T ≠ T') (e : v.ownBlock = some g) : v'.ownBlock ≠ some g := fun e' => by
  obtain ⟨_, cs, hc⟩ := row_lt h g e
  obtain ⟨_, cs', hc'⟩ := row_lt h' g e'
  rw [hc] at hc'
  simp at hc'
  exact hT hc'.2
theorem blk_types {B T T' size n g : Nat} {v : Value} {xs : List Value} {cs : Array Value} (hb : w.heap[g]? = some (.cells cs T' (0, 0))) (h : w.ownsRow B T size v n xs) (hT : T ≠ T') : v.ownBlock ≠ some g := fun e' => by
  obtain ⟨_, cs', hc'⟩ := row_lt h g e'
  rw [hb] at hc'
  simp at hc'
  exact hT hc'.2.symm
theorem RR.pne (h : RR w p dv qv av D Q S) : dv.ownBlock ≠ some p ∧ qv.ownBlock ≠ some p ∧ av.ownBlock ≠ some p ∧ ∀ x ∈ D ++ Q, x.2.1.ownBlock ≠ some p :=
  ⟨blk_types h.blk h.dr (by decide), blk_types h.blk h.qr (by decide), blk_types h.blk h.fr (by decide), fun x hx => blk_types h.blk (h.dat x hx) (by decide)⟩
end
/-- what a call on the document's disk leaves -/
structure RAct (w w' : World) (p : Nat) (dv qv av : Value) (D Q : List Pv) (dv' qv' av' : Value) (D' Q' : List Pv) (S' : Dk) : Prop where
  rk : RR w' p dv' qv' av' D' Q' S'
  kp : Kp w w' (fr p dv qv av (D ++ Q))
  sub : ∀ i ∈ fr p dv' qv' av' (D' ++ Q'), i ∈ fr p dv qv av (D ++ Q) ∨ w.heap.size ≤ i
section
variable {w w' w0 : World} {p : Nat} {dv qv av dv' qv' av' dv2 qv2 av2 : Value} {D Q D' Q' D2 Q2 : List Pv} {S S' S2 : Dk}
theorem RAct.refl (h : RR w p dv qv av D Q S) : RAct w w p dv qv av D Q dv qv av D Q S := ⟨h, Kp.refl _ _, fun _ h => .inl h⟩
theorem RAct.trans {w1 w2 : World} (h : RAct w w1 p dv qv av D Q dv' qv' av' D' Q' S') (h' : RAct w1 w2 p dv' qv' av' D' Q' dv2 qv2 av2 D2 Q2 S2) : RAct w w2 p dv qv av D Q dv2 qv2 av2 D2 Q2 S2 :=
  ⟨h'.rk, h.kp.trans h'.kp (fun i hi => h.sub i hi), fun i hi => (h'.sub i hi).elim (fun h1 => h.sub i h1) (fun h1 => .inr (Nat.le_trans h.kp.size h1))⟩
theorem RAct.later (h : RAct w w' p dv qv av D Q dv' qv' av' D' Q' S') (hb : Below w'.heap.size w' w0) : RAct w w0 p dv qv av D Q dv' qv' av' D' Q' S' :=
  ⟨h.rk.later hb, h.kp.trans (Kp.of_below hb []) (by simp), h.sub⟩
/-- the counts turn -/
theorem RAct.put (h : RAct w w' p dv qv av D Q dv' qv' av' D' Q' S') (j : Nat) (v : Value) (st' : Sts) (hb : (rst S'.n dv' qv' av' S'.st).setIfInBounds j v = rst S'.n dv' qv' av' st') : RAct w (w'.setCell ⟨p, j, none⟩ v) p dv qv av D Q dv' qv' av' D' Q' { S' with st := st' } := by
  obtain ⟨a1, a2, a3, a4⟩ := h.rk.pne
  have hs : ∀ i, i ≠ p → (w'.setCell ⟨p, j, none⟩ v).heap[i]? = w'.heap[i]? := fun i hi => Below.heap_setCell _ _ _ _ hi
  have hn : ∀ {x : Value} {g : Nat}, x.ownBlock ≠ some p → x.ownBlock = some g → g ≠ p := fun h1 h2 e => h1 (by rw [h2, e])
  exact ⟨⟨by rw [blk_set h.rk.blk, hb], h.rk.n0, h.rk.n1, ownsRow_block h.rk.dr fun g e => hs g (hn a1 e), ownsRow_block h.rk.qr fun g e => hs g (hn a2 e), ownsRow_block h.rk.fr fun g e => hs g (hn a3 e), fun x hx => ownsRow_block (h.rk.dat x hx) fun g e => hs g (hn (a4 x hx) e), h.rk.ok, h.rk.ne, h.rk.q, h.rk.sf, h.rk.qz⟩, h.kp.set (.inl (mem_fr.2 (.inl rfl))) _ _, h.sub⟩
/-- the queue has grown -/
theorem RR.newQ {w5 W : World} (h : RR w p dv qv av D Q S) (hb : Below w.heap.size w w5) (hg : w5.grownBy W qv.ownBlock) {x : Pv} {g' m cap' : Nat} (hx : w5.ownsRow 0 5 1 x.2.1 512 (x.2.2.map bv)) (hx0 : ∀ g, x.2.1.ownBlock = some g → w.heap.size ≤ g) (hxs : x.1 < S.n) (hxo : OkB x.2.2) (hrow : W.ownsRow 0 TPt 2 (.slice (some ⟨g', 0, none⟩) m cap') (Q.length + 1) (qcells Q ++ qcell x)) (hat : qv.ownBlock = some g' ∨ w.heap.size ≤ g') (hgl : g' < W.heap.size) :
    W.heap[p]? = w.heap[p]? ∧ RAct w (W.setCell ⟨p, 3, none⟩ (.slice (some ⟨g', 0, none⟩) m cap')) p dv qv av D Q dv (.slice (some ⟨g', 0, none⟩) m cap') av D (Q ++ [x]) { S with q := S.q ++ [bare x] } := by
  obtain ⟨a1, a2, a3, a4⟩ := h.pne
  have hlt := h.lt
  have hk : ∀ i, i < w.heap.size → qv.ownBlock ≠ some i → W.heap[i]? = w.heap[i]? := fun i h1 h2 => (hg.block i (Nat.lt_of_lt_of_le h1 hb.size) (fun e => h2 e.symm)).trans (hb.block i h1)
  have hpl := hlt p (mem_fr.2 (.inl rfl))
  have hp : W.heap[p]? = w.heap[p]? := hk p hpl a2
  have hgp : g' ≠ p := by
    rcases hat with e | e
    · exact fun e' => a2 (by rw [e, e'])
    · omega
  have hs : ∀ i, i ≠ p → (W.setCell ⟨p, 3, none⟩ (.slice (some ⟨g', 0, none⟩) m cap')).heap[i]? = W.heap[i]? := fun i hi => Below.heap_setCell _ _ _ _ hi
  have hrow' : (W.setCell ⟨p, 3, none⟩ (.slice (some ⟨g', 0, none⟩) m cap')).ownsRow 0 TPt 2 (.slice (some ⟨g', 0, none⟩) m cap') (Q.length + 1) (qcells Q ++ qcell x) := ownsRow_block hrow (fun g e => hs g (by simp [Value.ownBlock] at e; omega))
  have hdq : ∀ y ∈ D ++ Q, ∀ g, y.2.1.ownBlock = some g → qv.ownBlock ≠ some g := fun y hy g e => own_types (h.dat y hy) h.qr (by decide) e
  have hx5 : ∀ g, x.2.1.ownBlock = some g → g < w5.heap.size ∧ qv.ownBlock ≠ some g := fun g e => ⟨(row_lt hx g e).1, fun e2 => by have := hx0 g e; have := (row_lt h.qr g e2).1; omega⟩
  refine ⟨hp, ⟨by rw [blk_set (hp.trans h.blk)]; rfl, h.n0, h.n1, ownsRow_block h.dr fun g e => (hs g (fun e' => a1 (by rw [e, e']))).trans (hk g (row_lt h.dr g e).1 (h.ne g e)), by simpa [qcells] using hrow', ownsRow_block h.fr fun g e => (hs g (fun e' => a3 (by rw [e, e']))).trans (hk g (row_lt h.fr g e).1 (own_types h.fr h.qr (by decide) e)), ?_, ?_, ?_, by simp [h.q], h.sf, fun e => by simp at e⟩, ?_, ?_⟩
  · intro y hy
    have hy' : y ∈ D ++ Q ∨ y = x := by simpa [or_assoc] using hy
    rcases hy' with hy | rfl
    · exact ownsRow_block (h.dat y hy) fun g e => (hs g (fun e' => a4 y hy (by rw [e, e']))).trans (hk g (row_lt (h.dat y hy) g e).1 (hdq y hy g e))
    · exact ownsRow_block hx fun g e => (hs g (by have := hx0 g e; omega)).trans (hg.block g (hx5 g e).1 (fun e2 => (hx5 g e).2 e2.symm))
  · intro y hy
    have hy' : y ∈ D ++ Q ∨ y = x := by simpa [or_assoc] using hy
    rcases hy' with hy | rfl
    · exact h.ok y hy
    · exact ⟨hxs, hxo⟩
  · intro g e e2
    simp [Value.ownBlock] at e2
    subst e2
    rcases hat with h1 | h1
    · exact h.ne _ e h1
    · have := (row_lt h.dr _ e).1; omega
  · exact Kp.set (Kp.grown (Kp.of_below hb _) hg (fun k e => .inl (mem_fr.2 (.inr (.inr (.inl e)))))) (.inl (mem_fr.2 (.inl rfl))) _ _
  · intro i hi
    rcases mem_fr.1 hi with rfl | hi | hi | hi | ⟨y, hy, hi⟩
    · exact .inl (mem_fr.2 (.inl rfl))
    · exact .inl (mem_fr.2 (.inr (.inl hi)))
    · simp [Value.ownBlock] at hi
      subst hi
      rcases hat with h1 | h1
      · exact .inl (mem_fr.2 (.inr (.inr (.inl h1))))
      · exact .inr h1
    · exact .inl (mem_fr.2 (.inr (.inr (.inr (.inl hi)))))
    · have hy' : y ∈ D ++ Q ∨ y = x := by simpa [or_assoc] using hy
      rcases hy' with hy | rfl
      · exact .inl (mem_fr.2 (.inr (.inr (.inr (.inr ⟨y, hy, hi⟩)))))
      · exact .inr (hx0 i (by assumption))
/-- the safe writes have grown -/
theorem RR.newD {w5 W : World} (h : RR w p dv qv av D Q S) (hb : Below w.heap.size w w5) (hg : w5.grownBy W dv.ownBlock) {X : List Pv} {dv' : Value} (hX : ∀ x ∈ X, x ∈ Q) (hrow : W.ownsRow 0 TPt 2 dv' (D.length + X.length) (qcells D ++ qcells X)) (hat : ∀ g', dv'.ownBlock = some g' → dv.ownBlock = some g' ∨ w.heap.size ≤ g') {f : Nat → Bl} (hf : ∀ s, s < S.n → f s = (lastQ s ((D ++ X).map bare)).getD z512) :
    W.heap[p]? = w.heap[p]? ∧ RAct w (W.setCell ⟨p, 2, none⟩ dv') p dv qv av D Q dv' qv av (D ++ X) Q { S with safe := f } := by
  obtain ⟨a1, a2, a3, a4⟩ := h.pne
  have hlt := h.lt
  have hk : ∀ i, i < w.heap.size → dv.ownBlock ≠ some i → W.heap[i]? = w.heap[i]? := fun i h1 h2 => (hg.block i (Nat.lt_of_lt_of_le h1 hb.size) (fun e => h2 e.symm)).trans (hb.block i h1)
  have hpl := hlt p (mem_fr.2 (.inl rfl))
  have hp : W.heap[p]? = w.heap[p]? := hk p hpl a1
  have hgp : ∀ g', dv'.ownBlock = some g' → g' ≠ p := fun g' e => by
    rcases hat g' e with e1 | e1
    · exact fun e' => a1 (by rw [e1, e'])
    · omega
  have hs : ∀ i, i ≠ p → (W.setCell ⟨p, 2, none⟩ dv').heap[i]? = W.heap[i]? := fun i hi => Below.heap_setCell _ _ _ _ hi
  have hrow' : (W.setCell ⟨p, 2, none⟩ dv').ownsRow 0 TPt 2 dv' (D.length + X.length) (qcells D ++ qcells X) := ownsRow_block hrow (fun g e => hs g (hgp g e))
  have hdq : ∀ y ∈ D ++ Q, ∀ g, y.2.1.ownBlock = some g → dv.ownBlock ≠ some g := fun y hy g e => own_types (h.dat y hy) h.dr (by decide) e
  have hm : ∀ y, y ∈ (D ++ X) ++ Q → y ∈ D ++ Q := fun y hy => by
    simp only [List.mem_append] at hy ⊢
    rcases hy with (hy | hy) | hy
    · exact .inl hy
    · exact .inr (hX y hy)
    · exact .inr hy
  refine ⟨hp, ⟨by rw [blk_set (hp.trans h.blk)]; rfl, h.n0, h.n1, by rw [qcells_append, List.length_append]; exact hrow', ownsRow_block h.qr fun g e => (hs g (fun e' => a2 (by rw [e, e']))).trans (hk g (row_lt h.qr g e).1 (fun e2 => h.ne g e2 e)), ownsRow_block h.fr fun g e => (hs g (fun e' => a3 (by rw [e, e']))).trans (hk g (row_lt h.fr g e).1 (own_types h.fr h.dr (by decide) e)), ?_, fun y hy => h.ok y (hm y hy), ?_, h.q, hf, h.qz⟩, ?_, ?_⟩
  · intro y hy
    have hy := hm y hy
    exact ownsRow_block (h.dat y hy) fun g e => (hs g (fun e' => a4 y hy (by rw [e, e']))).trans (hk g (row_lt (h.dat y hy) g e).1 (hdq y hy g e))
  · intro g e e2
    rcases hat g e with h1 | h1
    · exact h.ne _ h1 e2
    · have := (row_lt h.qr _ e2).1; omega
  · exact Kp.set (Kp.grown (Kp.of_below hb _) hg (fun k e => .inl (mem_fr.2 (.inr (.inl e))))) (.inl (mem_fr.2 (.inl rfl))) _ _
  · intro i hi
    rcases mem_fr.1 hi with rfl | hi | hi | hi | ⟨y, hy, hi⟩
    · exact .inl (mem_fr.2 (.inl rfl))
    · rcases hat i hi with h1 | h1
      · exact .inl (mem_fr.2 (.inr (.inl h1)))
      · exact .inr h1
    · exact .inl (mem_fr.2 (.inr (.inr (.inl hi))))
    · exact .inl (mem_fr.2 (.inr (.inr (.inr (.inl hi)))))
    · exact .inl (mem_fr.2 (.inr (.inr (.inr (.inr ⟨y, hm y hy, hi⟩)))))
/-- the queue is emptied -/
theorem RAct.noQ (h : RAct w w' p dv qv av D Q dv' qv' av' D' Q' S') : RAct w (w'.setCell ⟨p, 3, none⟩ (.slice none 0 0)) p dv qv av D Q dv' (.slice none 0 0) av' D' [] { S' with q := [] } := by
  obtain ⟨a1, a2, a3, a4⟩ := h.rk.pne
  have hs : ∀ i, i ≠ p → (w'.setCell ⟨p, 3, none⟩ (.slice none 0 0)).heap[i]? = w'.heap[i]? := fun i hi => Below.heap_setCell _ _ _ _ hi
  have hn : ∀ {x : Value} {g : Nat}, x.ownBlock ≠ some p → x.ownBlock = some g → g ≠ p := fun h1 h2 e => h1 (by rw [h2, e])
  have hm : ∀ y, y ∈ D' ++ [] → y ∈ D' ++ Q' := fun y hy => by simp at hy; simp [hy]
  refine ⟨⟨by rw [blk_set h.rk.blk]; rfl, h.rk.n0, h.rk.n1, ownsRow_block h.rk.dr fun g e => hs g (hn a1 e), World.ownsRow_nil _ _ _ _, ownsRow_block h.rk.fr fun g e => hs g (hn a3 e), fun x hx => ownsRow_block (h.rk.dat x (hm x hx)) fun g e => hs g (hn (a4 x (hm x hx)) e), fun y hy => h.rk.ok y (hm y hy), fun g _ e => by simp [Value.ownBlock] at e, rfl, h.rk.sf, fun _ => rfl⟩, h.kp.set (.inl (mem_fr.2 (.inl rfl))) _ _, fun i hi => h.sub i ?_⟩
  rcases mem_fr.1 hi with rfl | hi | hi | hi | ⟨y, hy, hi⟩
  · exact mem_fr.2 (.inl rfl)
  · exact mem_fr.2 (.inr (.inl hi))
  · simp [Value.ownBlock] at hi
  · exact mem_fr.2 (.inr (.inr (.inr (.inl hi))))
  · exact mem_fr.2 (.inr (.inr (.inr (.inr ⟨y, hm y hy, hi⟩))))
/-- the faults are others -/
theorem RR.newA {w5 W : World} (h : RR w p dv qv av D Q S) (hk5 : Kp w W av.ownBlock.toList) {fs : List Flt} {av' : Value} (hrow : W.ownsRow 0 TFa 5 av' fs.length (fcells fs)) (hat : ∀ g', av'.ownBlock = some g' → av.ownBlock = some g' ∨ w.heap.size ≤ g') :
    W.heap[p]? = w.heap[p]? ∧ RAct w (W.setCell ⟨p, 4, none⟩ av') p dv qv av D Q dv qv av' D Q { S with fs := fs } := by
  obtain ⟨a1, a2, a3, a4⟩ := h.pne
  have hlt := h.lt
  have hk : ∀ i, i < w.heap.size → av.ownBlock ≠ some i → W.heap[i]? = w.heap[i]? := fun i h1 h2 => hk5.block i h1 (by simpa using h2)
  have hpl := hlt p (mem_fr.2 (.inl rfl))
  have hp : W.heap[p]? = w.heap[p]? := hk p hpl a3
  have hgp : ∀ g', av'.ownBlock = some g' → g' ≠ p := fun g' e => by
    rcases hat g' e with e1 | e1
    · exact fun e' => a3 (by rw [e1, e'])
    · omega
  have hs : ∀ i, i ≠ p → (W.setCell ⟨p, 4, none⟩ av').heap[i]? = W.heap[i]? := fun i hi => Below.heap_setCell _ _ _ _ hi
  refine ⟨hp, ⟨by rw [blk_set (hp.trans h.blk)]; rfl, h.n0, h.n1, ownsRow_block h.dr fun g e => (hs g (fun e' => a1 (by rw [e, e']))).trans (hk g (row_lt h.dr g e).1 (own_types h.dr h.fr (by decide) e)), ownsRow_block h.qr fun g e => (hs g (fun e' => a2 (by rw [e, e']))).trans (hk g (row_lt h.qr g e).1 (own_types h.qr h.fr (by decide) e)), ownsRow_block hrow (fun g e => hs g (hgp g e)), ?_, h.ok, h.ne, h.q, h.sf, h.qz⟩, ?_, ?_⟩
  · intro y hy
    exact ownsRow_block (h.dat y hy) fun g e => (hs g (fun e' => a4 y hy (by rw [e, e']))).trans (hk g (row_lt (h.dat y hy) g e).1 (own_types (h.dat y hy) h.fr (by decide) e))
  · exact Kp.set (hk5.sub (fun i hi => .inl (mem_fr.2 (.inr (.inr (.inr (.inl (by simpa using hi)))))))) (.inl (mem_fr.2 (.inl rfl))) _ _
  · intro i hi
    rcases mem_fr.1 hi with rfl | hi | hi | hi | ⟨y, hy, hi⟩
    · exact .inl (mem_fr.2 (.inl rfl))
    · exact .inl (mem_fr.2 (.inr (.inl hi)))
    · exact .inl (mem_fr.2 (.inr (.inr (.inl hi))))
    · rcases hat i hi with h1 | h1
      · exact .inl (mem_fr.2 (.inr (.inr (.inr (.inl h1)))))
      · exact .inr h1
    · exact .inl (mem_fr.2 (.inr (.inr (.inr (.inr ⟨y, hy, hi⟩)))))
/-- the faults' cells have changed where they stand -/
theorem RR.sameA {W : World} (h : RR w p dv qv av D Q S) (hk5 : Kp w W av.ownBlock.toList) {fs : List Flt} (hrow : W.ownsRow 0 TFa 5 av fs.length (fcells fs)) : RAct w W p dv qv av D Q dv qv av D Q { S with fs := fs } := by
  obtain ⟨a1, a2, a3, a4⟩ := h.pne
  have hk : ∀ i, i < w.heap.size → av.ownBlock ≠ some i → W.heap[i]? = w.heap[i]? := fun i h1 h2 => hk5.block i h1 (by simpa using h2)
  have hpl := h.lt p (mem_fr.2 (.inl rfl))
  refine ⟨⟨(hk p hpl a3).trans h.blk, h.n0, h.n1, ownsRow_block h.dr fun g e => hk g (row_lt h.dr g e).1 (own_types h.dr h.fr (by decide) e), ownsRow_block h.qr fun g e => hk g (row_lt h.qr g e).1 (own_types h.qr h.fr (by decide) e), hrow, fun y hy => ownsRow_block (h.dat y hy) fun g e => hk g (row_lt (h.dat y hy) g e).1 (own_types (h.dat y hy) h.fr (by decide) e), h.ok, h.ne, h.q, h.sf, h.qz⟩, hk5.sub (fun i hi => .inl (mem_fr.2 (.inr (.inr (.inr (.inl (by simpa using hi))))))), fun i hi => .inl hi⟩
end
/-- lists of writes -/
theorem lastQ_cons (s : Nat) (x : Pu) (r : List Pu) : lastQ s (x :: r) = (lastQ s r).or (if x.1 = s then some x.2 else none) := by
  conv => lhs; unfold lastQ
  cases lastQ s r <;> rfl
theorem lastQ_append (s : Nat) (a b : List Pu) : lastQ s (a ++ b) = (lastQ s b).or (lastQ s a) := by
  induction a with
  | nil => simp [lastQ]
  | cons x r ih => rw [List.cons_append, lastQ_cons, ih, lastQ_cons, Option.or_assoc]
/-- what is picked of a queue, up to a place -/
def pick (k : Nat → Bool) (Q : List Pv) : Nat → List Pv
  | 0 => []
  | n + 1 => match Q[n]? with
    | some x => if k n then pick k Q n ++ [x] else pick k Q n
    | none => pick k Q n
theorem pick_sub (k : Nat → Bool) (Q : List Pv) : ∀ n, ∀ x ∈ pick k Q n, x ∈ Q
  | 0, x, hx => by simp [pick] at hx
  | n + 1, x, hx => by
    unfold pick at hx
    split at hx
    · rename_i y hy
      split at hx
      · rcases List.mem_append.1 hx with hx | hx
        · exact pick_sub k Q n x hx
        · simp at hx; subst hx; exact List.mem_of_getElem? hy
      · exact pick_sub k Q n x hx
    · exact pick_sub k Q n x hx
theorem pick_lay (k : Nat → Bool) (Q D : List Pv) (f : Nat → Bl) (N : Nat) (h : ∀ s, s < N → f s = (lastQ s (D.map bare)).getD z512) : ∀ n, ∀ s, s < N → layTo k (Q.map bare) f n s = (lastQ s ((D ++ pick k Q n).map bare)).getD z512
  | 0, s, hs => by simp [layTo, pick, h s hs]
  | n + 1, s, hs => by
    have ih := pick_lay k Q D f N h n s hs
    unfold layTo pick
    rw [List.getElem?_map]
    cases hq : Q[n]? with
    | none => simp only [Option.map_none]; exact ih
    | some x =>
      simp only [Option.map_some]
      by_cases hk : k n = true
      · rw [if_pos hk, if_pos hk, ← List.append_assoc, List.map_append, lastQ_append]
        simp only [List.map_cons, List.map_nil, lastQ, upd]
        by_cases e : s = (bare x).1
        · rw [if_pos e, if_pos e.symm]; rfl
        · rw [if_neg e, if_neg (fun h => e h.symm)]; exact ih
      · rw [if_neg hk, if_neg hk]; exact ih
theorem pick_all (Q : List Pv) : ∀ n, pick (fun _ => true) Q n = Q.take n
  | 0 => by simp [pick]
  | n + 1 => by
    unfold pick
    rw [pick_all Q n, List.take_add_one]
    cases Q[n]? <;> simp
end Go.Proofs.Ythmonfmpgjbhmaa.K
