import Derived.Test.YtoabigjajnikcaaTXa
namespace Go.Proofs.Ytoabigjajnikcaa.X
open Go.RowKit Go.Maps Go.Proofs.Ytoabigjajnikcaa
attribute [local go_sem] Oper.semAt_some
set_option linter.unusedVariables false
set_option linter.unusedSimpArgs false
set_option maxRecDepth 100000

section
variable {w w' W W' : World} {n0 B s0 : Nat} {F F' G G' : Nat → Prop} {b bm p : Nat} {V V' U U' : Int → Value} {v v' vg : Value} {S S1 S2 S' : St} {ys : List Pe}
/-- the table without its first k entries -/
def drp (S : St) (k : Nat) : St := ⟨S.most, S.last, S.L.drop k⟩
theorem ids_ne {S : St} (hok : SOk S) {k : Nat} {e : En} (he : S.L[k]? = some e) : ∀ x ∈ S.L.drop (k + 1), x.id ≠ e.id := by
  intro x hx
  obtain ⟨i, hi, rfl⟩ := List.getElem_of_mem hx
  have hr := hok.rise
  unfold ids at hr
  rw [List.pairwise_map, List.pairwise_iff_getElem] at hr
  have hk := (List.getElem?_eq_some_iff.1 he).1
  have hk2 := (List.getElem?_eq_some_iff.1 he).2
  rw [List.length_drop] at hi
  have := hr k (k + 1 + i) hk (by omega) (by omega)
  rw [hk2] at this
  rw [List.getElem_drop]
  omega
theorem drop_at {S : St} {k : Nat} {e : En} (he : S.L[k]? = some e) : S.L.drop k = e :: S.L.drop (k + 1) := by
  have hk := (List.getElem?_eq_some_iff.1 he).1
  rw [List.drop_eq_getElem_cons hk, (List.getElem?_eq_some_iff.1 he).2]
theorem step_S {S : St} (hok : SOk S) {k : Nat} {e : En} (he : S.L[k]? = some e) : takeT (doneT (drp S k) e.id []) e.id = drp S (k + 1) := by
  have hne := ids_ne hok he
  have hd := drop_at he
  have hf : S.L.drop (k + 1) = (S.L.drop (k + 1)).filter (fun x => decide (x.id ≠ e.id)) := by
    rw [List.filter_eq_self.2]; intro x hx; simpa using hne x hx
  have hm : (S.L.drop (k + 1)).map (fun x => if x.id = e.id then (⟨x.id, x.rq, true, []⟩ : En) else x) = S.L.drop (k + 1) := by
    rw [List.map_congr_left (g := id) (fun x hx => by rw [if_neg (hne x hx)]; rfl), List.map_id]
  by_cases hr : e.rd = true
  · have e1 : doneE (drp S k) e.id = 133 := by simp [doneE, drp, hd, hr]
    have e2 : takeE (drp S k) e.id = 0 := by simp [takeE, drp, hd, hr]
    rw [doneT, e1, if_neg (by decide), takeT, e2, if_pos rfl]
    simp only [takeS, drp, hd]
    rw [List.filter_cons_of_neg (by simp), ← hf]
  · have e1 : doneE (drp S k) e.id = 0 := by simp [doneE, drp, hd, hr]
    rw [doneT, e1, if_pos rfl]
    have e3 : (doneS (drp S k) e.id []).L = ⟨e.id, e.rq, true, []⟩ :: S.L.drop (k + 1) := by
      simp only [doneS, drp, hd, List.map_cons, if_true]
      rw [hm]
    have e2 : takeE (doneS (drp S k) e.id []) e.id = 0 := by simp [takeE, e3]
    rw [takeT, e2, if_pos rfl]
    simp only [takeS, e3]
    rw [List.filter_cons_of_neg (by simp), ← hf]
    rfl
/-- what a ranging's body leaves as it was -/
def FineR (B l b bm p : Nat) (g : Nat) (W : World) : Prop := g < W.heap.size ∧ (B < W.heap.size ∧ p < W.heap.size) ∧ (g ≠ B ∧ g ≠ l ∧ g ≠ b ∧ g ≠ bm ∧ g ≠ p) ∧ (∀ v, Boxed W B TEns v → v.ownBlock ≠ some g) ∧ (∀ v, W.cell? ⟨p, 2, none⟩ = some v → v.ownBlock ≠ some g)
def KpR (B l b bm p : Nat) (W W' : World) : Prop := W.heap.size ≤ W'.heap.size ∧ ∀ g, FineR B l b bm p g W → W'.heap[g]? = W.heap[g]? ∧ FineR B l b bm p g W'
variable {l g : Nat}
theorem fineR_same (h : FineR B l b bm p g W) (hs : W.heap.size ≤ W'.heap.size) (hB : W'.heap[B]? = W.heap[B]?) (hp : W'.heap[p]? = W.heap[p]?) : FineR B l b bm p g W' := by
  refine ⟨by have := h.1; omega, ⟨by have := h.2.1.1; omega, by have := h.2.1.2; omega⟩, h.2.2.1, fun v hv => h.2.2.2.1 v ?_, fun v hv => h.2.2.2.2 v ?_⟩
  · unfold Boxed at hv ⊢; rw [← hB]; exact hv
  · rw [← cell_block hp]; exact hv
theorem keepsR : KeepsV (KpR B l b bm p) (FineR B l b bm p) := ⟨fun h hf => h.2 _ hf, fun hb hf => fineR_same hf hb.size (hb.block _ hf.2.1.1) (hb.block _ hf.2.1.2), fun h => h.1, fun h => h.1⟩
theorem kpR_t {X Y Z : World} (h : KpR B l b bm p X Y) (k : KpR B l b bm p Y Z) : KpR B l b bm p X Z := ⟨Nat.le_trans h.1 k.1, fun g hf => by
  have h1 := h.2 g hf
  have h2 := k.2 g h1.2
  exact ⟨h2.1.trans h1.1, h2.2⟩⟩
theorem kpR_below (hb : Below W.heap.size W W') : KpR B l b bm p W W' := ⟨hb.size, fun g hf => ⟨hb.block g hf.1, fineR_same hf hb.size (hb.block _ hf.2.1.1) (hb.block _ hf.2.1.2)⟩⟩
theorem kpR_put (hB : B ≠ l) (hp : p ≠ l) (W : World) (o : Obj) : KpR B l b bm p W (W.putObj l o) :=
  ⟨by simp, fun g hf => ⟨World.putObj_heap_other hf.2.2.1.2.1, fineR_same hf (by simp) (World.putObj_heap_other hB) (World.putObj_heap_other hp)⟩⟩
/-- both tables while they are ranged over, and what was gathered -/
structure Rg (W : World) (n0 B s0 b bm p : Nat) (F G : Nat → Prop) (V : Int → Value) (v : Value) (U : Int → Value) (S1 S2 : St) (vg : Value) (ys : List Pe) : Prop where
  p2 : P2 W n0 F G b bm p V v U S1 S2
  bx : Boxed W B TEns vg
  tl : Tell W B vg ys
  ap : ∀ g, fpT b bm F g ∨ fpR p v G g → ¬ told ys g ∧ vg.ownBlock ≠ some g ∧ g ≠ B ∧ g ≠ s0 ∧ g ≠ s0 + 1
theorem Tell.keepX {X : Nat → Prop} (h : Tell W B vg ys) (hk : KeptIn X W W') (hr : ∀ g, vg.ownBlock = some g → ¬ X g) (ht : ∀ g, told ys g → ¬ X g) : Tell W' B vg ys :=
  ⟨row_at h.row (fun g cs hg hc => hk.block g (block_lt hc) (hr g hg)), fun y hy => (h.ok y hy).same hk.size (fun g cs h1 h2 hc => hk.block g (block_lt hc) (ht g ⟨y, hy, h1, h2⟩)), h.lo, h.ap⟩
theorem Rg.keep {X : Nat → Prop} (h : Rg W n0 B s0 b bm p F G V v U S1 S2 vg ys) (hk : KeptIn X W W') (hd : ∀ g, fpT b bm F g ∨ fpR p v G g → ¬ X g) (hB : ¬ X B) (hr : ∀ g, vg.ownBlock = some g → ¬ X g) (ht : ∀ g, told ys g → ¬ X g) : Rg W' n0 B s0 b bm p F G V v U S1 S2 vg ys :=
  ⟨h.p2.keep hk hd, (hk.block B h.bx.lt hB).trans h.bx, Tell.keepX h.tl hk hr ht, h.ap⟩
theorem Rg.later (h : Rg W n0 B s0 b bm p F G V v U S1 S2 vg ys) (hb : Below W.heap.size W W') : Rg W' n0 B s0 b bm p F G V v U S1 S2 vg ys := h.keep (X := fun _ => False) (KeptIn.ofBelow hb) (fun _ _ h => h) (fun h => h) (fun _ _ h => h) (fun _ _ h => h)
theorem told_lt (h : Tell W B vg ys) {g : Nat} (hg : told ys g) : g < W.heap.size := by
  obtain ⟨y, hy, h1, h2⟩ := hg
  exact Nat.lt_of_lt_of_le h2 (h.ok y hy).le
theorem Rg.newAp (h : Rg W n0 B s0 b bm p F G V v U S1 S2 vg ys) (hs : s0 + 1 < W.heap.size) {g : Nat} (hg : W.heap.size ≤ g) : ¬ told ys g ∧ vg.ownBlock ≠ some g ∧ g ≠ B ∧ g ≠ s0 ∧ g ≠ s0 + 1 := by
  refine ⟨fun e => by have := told_lt h.tl e; omega, fun e => by have := (row_typ h.tl.row g e).1; omega, ?_, by omega, by omega⟩
  have := h.bx.lt
  omega
theorem Rg.actT (h : Rg W n0 B s0 b bm p F G V v U S1 S2 vg ys) (a : TAct W W' F F' b bm V' S') (hs : s0 + 1 < W.heap.size) : Rg W' n0 B s0 b bm p F' G V' v U S' S2 vg ys := by
  have fpb : ∀ g, g = b ∨ g = bm → fpT b bm F g ∨ fpR p v G g := fun g e => .inl (e.elim (fun e => .inl e) (fun e => .inr (.inl e)))
  refine ⟨h.p2.actT a, (a.kept.block B h.bx.lt (fun e => (h.ap B (fpb B e)).2.2.1 rfl)).trans h.bx, Tell.keepX h.tl a.kept (fun g hg e => (h.ap g (fpb g e)).2.1 hg) (fun g hg e => (h.ap g (fpb g e)).1 hg), fun g hg => ?_⟩
  rcases hg with (e | e | e) | e
  · exact h.ap g (.inl (.inl e))
  · exact h.ap g (.inl (.inr (.inl e)))
  · rcases a.new g e with e | e
    · exact h.ap g (.inl (.inr (.inr e)))
    · exact h.newAp hs e
  · exact h.ap g (.inr e)
theorem Rg.actR (h : Rg W n0 B s0 b bm p F G V v U S1 S2 vg ys) (a : RAct W W' G G' p v v' U' S') (hs : s0 + 1 < W.heap.size) : Rg W' n0 B s0 b bm p F G' V v' U' S1 S' vg ys := by
  have fpb : ∀ g, g = p ∨ v.ownBlock = some g → fpT b bm F g ∨ fpR p v G g := fun g e => .inr (e.elim (fun e => .inl e) (fun e => .inr (.inl e)))
  refine ⟨h.p2.actR a, (a.kept.block B h.bx.lt (fun e => (h.ap B (fpb B e)).2.2.1 rfl)).trans h.bx, Tell.keepX h.tl a.kept (fun g hg e => (h.ap g (fpb g e)).2.1 hg) (fun g hg e => (h.ap g (fpb g e)).1 hg), fun g hg => ?_⟩
  rcases hg with e | e
  · exact h.ap g (.inl e)
  · rcases a.new g e with e | e
    · exact h.ap g (.inr e)
    · exact h.newAp hs e
theorem Rg.kpT (h : Rg W n0 B s0 b bm p F G V v U S1 S2 vg ys) (a : TAct W W' F F' b bm V' S') : KpR B l b bm p W W' := by
  have hB : W'.heap[B]? = W.heap[B]? := a.kept.block B h.bx.lt (fun e => (h.ap B (.inl (e.elim (fun e => .inl e) (fun e => .inr (.inl e))))).2.2.1 rfl)
  have hp : W'.heap[p]? = W.heap[p]? := a.kept.block p h.p2.r.ltp (fun e => h.p2.ap p (e.elim (fun e => .inl e) (fun e => .inr (.inl e))) (.inl rfl))
  exact ⟨a.kept.size, fun g hf => ⟨a.kept.block g hf.1 (fun e => e.elim hf.2.2.1.2.2.1 hf.2.2.1.2.2.2.1), fineR_same hf a.kept.size hB hp⟩⟩
theorem Rg.kpR (h : Rg W n0 B s0 b bm p F G V v U S1 S2 vg ys) (a : RAct W W' G G' p v v' U' S') (hv : ∀ g, v'.ownBlock = some g → v.ownBlock = some g ∨ W.heap.size ≤ g) : KpR B l b bm p W W' := by
  have hB : W'.heap[B]? = W.heap[B]? := a.kept.block B h.bx.lt (fun e => (h.ap B (.inr (e.elim (fun e => .inl e) (fun e => .inr (.inl e))))).2.2.1 rfl)
  have c2 : W.cell? ⟨p, 2, none⟩ = some v := (h.p2.r.c 2).trans rfl
  have c2' : W'.cell? ⟨p, 2, none⟩ = some v' := (a.rr.c 2).trans rfl
  refine ⟨a.kept.size, fun g hf => ⟨a.kept.block g hf.1 (fun e => e.elim hf.2.2.1.2.2.2.2 (fun e => hf.2.2.2.2 v c2 e)), ?_⟩⟩
  refine ⟨by have := hf.1; have := a.kept.size; omega, ⟨by have := hf.2.1.1; have := a.kept.size; omega, by have := hf.2.1.2; have := a.kept.size; omega⟩, hf.2.2.1, fun u hu => hf.2.2.2.1 u ?_, fun u hu e => ?_⟩
  · unfold Boxed at hu ⊢; rw [← hB]; exact hu
  · rw [c2'] at hu
    cases hu
    rcases hv g e with e | e
    · exact hf.2.2.2.2 v c2 e
    · have := hf.1; omega
theorem Rg.twoT (h : Rg W n0 B s0 b bm p F G V v U S1 S2 vg ys) (a : TAct W W' F F' b bm V' S') (hs : s0 + 1 < W.heap.size) : Two2 s0 W W' :=
  ⟨a.kept.block s0 (by omega) (fun e => (h.ap s0 (.inl (e.elim (fun e => .inl e) (fun e => .inr (.inl e))))).2.2.2.1 rfl), a.kept.block (s0 + 1) hs (fun e => (h.ap (s0 + 1) (.inl (e.elim (fun e => .inl e) (fun e => .inr (.inl e))))).2.2.2.2 rfl)⟩
theorem Rg.twoR (h : Rg W n0 B s0 b bm p F G V v U S1 S2 vg ys) (a : RAct W W' G G' p v v' U' S') (hs : s0 + 1 < W.heap.size) : Two2 s0 W W' :=
  ⟨a.kept.block s0 (by omega) (fun e => (h.ap s0 (.inr (e.elim (fun e => .inl e) (fun e => .inr (.inl e))))).2.2.2.1 rfl), a.kept.block (s0 + 1) hs (fun e => (h.ap (s0 + 1) (.inr (e.elim (fun e => .inl e) (fun e => .inr (.inl e))))).2.2.2.2 rfl)⟩
theorem two_t {X Y Z : World} (h : Two2 s0 X Y) (k : Two2 s0 Y Z) : Two2 s0 X Z := ⟨k.1.trans h.1, k.2.trans h.2⟩
/-- the document's Done with nothing: the row of entries stays where it is -/
theorem rdoneV (h : RR W G p v U S) (k : Int) : Calls Try.prog 28 #[.pointer (some ⟨p, 0, none⟩), .int .i64 k, .slice none 0 0] W fun r w' => (∃ x, r = .returned x) ∧ ∃ G' U', RAct W w' G G' p v v U' (doneT S k []) := by
  rcases mem_or (k := k) (L := S.L) with ⟨i, e, he, rfl⟩ | hno
  · by_cases hr : e.rd = true
    · have e1 : doneE S e.id = 133 := by unfold doneE; rw [find_at h.ok he]; simp [hr]
      rw [doneT, e1, if_neg (by decide)]
      refine (rdone_rdy h i e he hr _).mono ?_
      rintro r w' ⟨rfl, rfl⟩
      exact ⟨⟨_, rfl⟩, G, U, h, KeptIn.refl _ _, fun g hg => .inl hg⟩
    · have e1 : doneE S e.id = 0 := by unfold doneE; rw [find_at h.ok he]; simp [hr]
      rw [doneT, e1, if_pos rfl]
      refine (rdone_ok h i e he (by simpa using hr) none 0 0 [] (FRow.nil W (fun _ => False)).row (fun a ha => by simp at ha) rfl).mono ?_
      rintro r w' ⟨rfl, G', U', ha⟩
      exact ⟨⟨_, rfl⟩, G', U', ha⟩
  · have e1 : doneE S k = 132 := by unfold doneE; rw [find_none hno]
    rw [doneT, e1, if_neg (by decide)]
    refine (rdone_no h k hno _).mono ?_
    rintro r w' ⟨rfl, rfl⟩
    exact ⟨⟨_, rfl⟩, G, U, h, KeptIn.refl _ _, fun g hg => .inl hg⟩
theorem rtakeV (h : RR W G p v U S) (k : Int) : Calls Try.prog 29 #[.pointer (some ⟨p, 0, none⟩), .int .i64 k] W fun r w' => (∃ x, r = .returned x) ∧ ∃ v', RAct W w' G G p v v' U (takeT S k) ∧ ∀ g, v'.ownBlock = some g → v.ownBlock = some g ∨ W.heap.size ≤ g := by
  refine (rtakeC h k).mono ?_
  rintro r w' ⟨ao, cap, rfl, _, v', ha⟩
  refine ⟨⟨_, rfl⟩, v', ha, fun g hg => ?_⟩
  rcases ha.new g (.inr (.inl hg)) with (e | e | e) | e
  · subst e; exact absurd hg ha.rr.ne
  · exact .inl e
  · exact absurd e (ha.rr.nv g hg)
  · exact .inr e
end
end Go.Proofs.Ytoabigjajnikcaa.X
