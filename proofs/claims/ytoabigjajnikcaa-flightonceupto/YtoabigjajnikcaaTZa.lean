import Derived.Test.YtoabigjajnikcaaTQ
import Derived.Test.YtoabigjajnikcaaTY
namespace Go.Proofs.Ytoabigjajnikcaa
open Go.RowKit Go.Maps
attribute [local go_sem] Oper.semAt_some
set_option linter.unusedVariables false
set_option linter.unusedSimpArgs false
set_option maxRecDepth 100000

section
variable {w w' : World} {n0 : Nat} {F F' G G' : Nat → Prop} {b bm p : Nat} {V V' U U' : Int → Value} {v v' : Value} {S S2 S' : St}
theorem RR.ltf (h : RR w G p v U S) (g : Nat) (hg : fpR p v G g) : g < w.heap.size := by
  rcases hg with rfl | hg | hg
  · exact h.ltp
  · exact (row_lt h.row g hg).1
  · exact h.lt g hg
theorem RT.ltf (h : RT w F b bm V S) (g : Nat) (hg : fpT b bm F g) : g < w.heap.size := by
  rcases hg with rfl | rfl | hg
  · exact h.ltb
  · exact h.ltm
  · exact h.lt g hg
/-- both tables, which share nothing, and nothing that lies below n0 -/
structure P2 (w : World) (n0 : Nat) (F G : Nat → Prop) (b bm p : Nat) (V : Int → Value) (v : Value) (U : Int → Value) (S S2 : St) : Prop where
  t : RT w F b bm V S
  r : RR w G p v U S2
  ap : ∀ g, fpT b bm F g → ¬ fpR p v G g
  lo : ∀ g, fpT b bm F g ∨ fpR p v G g → n0 ≤ g
  le : n0 ≤ w.heap.size
theorem Pr.p2 (h : Pr w n0 F G b bm p V v U S) : P2 w n0 F G b bm p V v U S S := ⟨h.t, h.r, h.ap, h.lo, h.le⟩
theorem P2.keep {X : Nat → Prop} (h : P2 w n0 F G b bm p V v U S S2) (hk : KeptIn X w w') (hd : ∀ g, fpT b bm F g ∨ fpR p v G g → ¬ X g) : P2 w' n0 F G b bm p V v U S S2 :=
  ⟨h.t.keep hk (fun g hg => hd g (.inl hg)), h.r.keep hk (fun g hg => hd g (.inr hg)), h.ap, h.lo, Nat.le_trans h.le hk.size⟩
theorem P2.later (h : P2 w n0 F G b bm p V v U S S2) (hb : Below w.heap.size w w') : P2 w' n0 F G b bm p V v U S S2 := h.keep (X := fun _ => False) (KeptIn.ofBelow hb) (fun _ _ h => h)
theorem P2.actT (h : P2 w n0 F G b bm p V v U S S2) (a : TAct w w' F F' b bm V' S') : P2 w' n0 F' G b bm p V' v U S' S2 := by
  have nw : ∀ g, fpT b bm F' g → fpT b bm F g ∨ w.heap.size ≤ g := fun g hg => by
    rcases hg with e | e | e
    · exact .inl (.inl e)
    · exact .inl (.inr (.inl e))
    · exact (a.new g e).imp (fun h => .inr (.inr h)) (fun h => h)
  refine ⟨a.rt, h.r.keep a.kept (fun g hg e => h.ap g (e.elim (fun e => .inl e) (fun e => .inr (.inl e))) hg), fun g hg hr => ?_, fun g hg => ?_, Nat.le_trans h.le a.kept.size⟩
  · rcases nw g hg with h1 | h1
    · exact h.ap g h1 hr
    · have := h.r.ltf g hr; omega
  · rcases hg with hg | hg
    · rcases nw g hg with h1 | h1
      · exact h.lo g (.inl h1)
      · exact Nat.le_trans h.le h1
    · exact h.lo g (.inr hg)
theorem P2.actR (h : P2 w n0 F G b bm p V v U S S2) (a : RAct w w' G G' p v v' U' S') : P2 w' n0 F G' b bm p V v' U' S S' := by
  refine ⟨h.t.keep a.kept (fun g hg e => h.ap g hg (e.elim (fun e => .inl e) (fun e => .inr (.inl e)))), a.rr, fun g hg hr => ?_, fun g hg => ?_, Nat.le_trans h.le a.kept.size⟩
  · rcases a.new g hr with h1 | h1
    · exact h.ap g hg h1
    · have := h.t.ltf g hg; omega
  · rcases hg with hg | hg
    · exact h.lo g (.inl hg)
    · rcases a.new g hg with h1 | h1
      · exact h.lo g (.inr h1)
      · exact Nat.le_trans h.le h1
/-- both tables, and blocks that are none of theirs -/
structure Ck (w : World) (n0 : Nat) (F G : Nat → Prop) (b bm p : Nat) (V : Int → Value) (v : Value) (U : Int → Value) (S S2 : St) (bs : List (Nat × Obj)) : Prop where
  pr : P2 w n0 F G b bm p V v U S S2
  bx : ∀ x ∈ bs, w.heap[x.1]? = some x.2 ∧ ¬ (fpT b bm F x.1 ∨ fpR p v G x.1)
variable {bs : List (Nat × Obj)}
theorem Ck.of (h : P2 w n0 F G b bm p V v U S S2) : Ck w n0 F G b bm p V v U S S2 [] := ⟨h, by simp⟩
theorem Ck.later (h : Ck w n0 F G b bm p V v U S S2 bs) (hb : Below w.heap.size w w') : Ck w' n0 F G b bm p V v U S S2 bs :=
  ⟨h.pr.later hb, fun x hx => ⟨(hb.block _ (block_lt (h.bx x hx).1)).trans (h.bx x hx).1, (h.bx x hx).2⟩⟩
theorem Ck.push (h : Ck w n0 F G b bm p V v U S S2 bs) {k : Nat} {o : Obj} (hk : w.heap.size ≤ k) (hb : Below w.heap.size w w') (ho : w'.heap[k]? = some o) : Ck w' n0 F G b bm p V v U S S2 ((k, o) :: bs) := by
  refine ⟨h.pr.later hb, fun x hx => ?_⟩
  rcases List.mem_cons.1 hx with rfl | hx
  · exact ⟨ho, fun e => by
      rcases e with e | e
      · have := h.pr.t.ltf _ e; omega
      · have := h.pr.r.ltf _ e; omega⟩
  · exact (h.later hb).bx x hx
theorem Ck.pushes (h : Ck w n0 F G b bm p V v U S S2 bs) {cs : List (Nat × Obj)} (hb : Below w.heap.size w w') (hc : ∀ x ∈ cs, w.heap.size ≤ x.1 ∧ w'.heap[x.1]? = some x.2) : Ck w' n0 F G b bm p V v U S S2 (cs ++ bs) := by
  refine ⟨h.pr.later hb, fun x hx => ?_⟩
  rcases List.mem_append.1 hx with hx | hx
  · refine ⟨(hc x hx).2, fun e => ?_⟩
    have h1 := (hc x hx).1
    rcases e with e | e
    · have := h.pr.t.ltf _ e; omega
    · have := h.pr.r.ltf _ e; omega
  · exact (h.later hb).bx x hx
theorem Ck.first (h : P2 w n0 F G b bm p V v U S S2) {cs : List (Nat × Obj)} (hb : Below w.heap.size w w') (hc : ∀ x ∈ cs, w.heap.size ≤ x.1 ∧ w'.heap[x.1]? = some x.2) : Ck w' n0 F G b bm p V v U S S2 cs := by
  have := (Ck.of h).pushes hb hc
  rwa [List.append_nil] at this
theorem Ck.at (h : Ck w n0 F G b bm p V v U S S2 bs) (i : Nat) {x : Nat × Obj} (hx : bs[i]? = some x) : w.heap[x.1]? = some x.2 := (h.bx x (List.mem_of_getElem? hx)).1
theorem Ck.actT (h : Ck w n0 F G b bm p V v U S S2 bs) (a : TAct w w' F F' b bm V' S') : Ck w' n0 F' G b bm p V' v U S' S2 bs := by
  refine ⟨h.pr.actT a, fun x hx => ?_⟩
  have hlt := block_lt (h.bx x hx).1
  refine ⟨(a.kept.block _ hlt (fun e => (h.bx x hx).2 (.inl (e.elim (fun e => .inl e) (fun e => .inr (.inl e)))))).trans (h.bx x hx).1, fun e => ?_⟩
  rcases e with (e | e | e) | e
  · exact (h.bx x hx).2 (.inl (.inl e))
  · exact (h.bx x hx).2 (.inl (.inr (.inl e)))
  · rcases a.new _ e with e | e
    · exact (h.bx x hx).2 (.inl (.inr (.inr e)))
    · omega
  · exact (h.bx x hx).2 (.inr e)
theorem Ck.actR (h : Ck w n0 F G b bm p V v U S S2 bs) (a : RAct w w' G G' p v v' U' S') : Ck w' n0 F G' b bm p V v' U' S S' bs := by
  refine ⟨h.pr.actR a, fun x hx => ?_⟩
  have hlt := block_lt (h.bx x hx).1
  refine ⟨(a.kept.block _ hlt (fun e => (h.bx x hx).2 (.inr (e.elim (fun e => .inl e) (fun e => .inr (.inl e)))))).trans (h.bx x hx).1, fun e => ?_⟩
  rcases e with e | e
  · exact (h.bx x hx).2 (.inl e)
  · rcases a.new _ e with e | e
    · exact (h.bx x hx).2 (.inr e)
    · omega
/-- a block of one's own is changed -/
theorem Ck.touch {k : Nat} {o : Obj} (h : Ck w n0 F G b bm p V v U S S2 ((k, o) :: bs)) (hk : KeptIn (fun g => g = k) w w') (hn : ∀ x ∈ bs, x.1 ≠ k) : Ck w' n0 F G b bm p V v U S S2 bs := by
  refine ⟨h.pr.keep hk (fun g hg e => (h.bx (k, o) (by simp)).2 (by rw [← e]; exact hg)), fun x hx => ?_⟩
  have hx' : x ∈ (k, o) :: bs := List.mem_cons_of_mem _ hx
  exact ⟨(hk.block _ (block_lt (h.bx x hx').1) (hn x hx)).trans (h.bx x hx').1, (h.bx x hx').2⟩
theorem Ck.put {k : Nat} {cs cs' : Array Value} {t : TypeId} (h : Ck w n0 F G b bm p V v U S S2 ((k, .cells cs t (0, 0)) :: bs)) (j : Nat) (u : Value) (hc : cs.setIfInBounds j u = cs') (hn : ∀ x ∈ bs, x.1 ≠ k) : Ck (w.setCell ⟨k, j, none⟩ u) n0 F G b bm p V v U S S2 ((k, .cells cs' t (0, 0)) :: bs) := by
  have h1 := h.touch (keptIn_set w k j u) hn
  refine ⟨h1.pr, fun x hx => ?_⟩
  rcases List.mem_cons.1 hx with rfl | hx
  · exact ⟨put_box (h.bx (k, .cells cs t (0, 0)) (by simp)).1 j u hc, (h.bx (k, .cells cs t (0, 0)) (by simp)).2⟩
  · exact h1.bx x hx
theorem Ck.tail {x : Nat × Obj} (h : Ck w n0 F G b bm p V v U S S2 (x :: bs)) : Ck w n0 F G b bm p V v U S S2 bs := ⟨h.pr, fun y hy => h.bx y (List.mem_cons_of_mem _ hy)⟩
theorem Ck.swap {x y : Nat × Obj} (h : Ck w n0 F G b bm p V v U S S2 (x :: y :: bs)) : Ck w n0 F G b bm p V v U S S2 (y :: x :: bs) := ⟨h.pr, fun z hz => h.bx z (by
  simp only [List.mem_cons] at hz ⊢
  rcases hz with h | h | h
  · exact .inr (.inl h)
  · exact .inl h
  · exact .inr (.inr h))⟩
/-- what a step leaves -/
def Step (w w' : World) (n0 b bm p : Nat) (S : St) : Prop := ∃ F G V v U S', P2 w' n0 F G b bm p V v U S' S' ∧ S'.last ≤ S.last + 1 ∧ Below n0 w w'
theorem TAct.below' (a : TAct w w' F F' b bm V' S') (h : P2 w n0 F G b bm p V v U S S2) : Below n0 w w' := a.kept.below h.le (fun g hg e => by
  have := h.lo g (.inl (e.elim (fun e => .inl e) (fun e => .inr (.inl e)))); omega)
theorem RAct.below' (a : RAct w w' G G' p v v' U' S') (h : P2 w n0 F G b bm p V v U S S2) : Below n0 w w' := a.kept.below h.le (fun g hg e => by
  have := h.lo g (.inr (e.elim (fun e => .inl e) (fun e => .inr (.inl e)))); omega)
end
/-- one call of a script -/
structure OpF where
  kind : Int
  id : Int
  rq : Rq
  an : List Nat
structure OpOk (w : World) (n0 : Nat) (o : OpF) (da : Option Addr) (dc : Nat) (aa : Option Addr) (ac : Nat) : Prop where
  d : FRow w (fun g => g < n0) da dc o.rq.data
  a : FRow w (fun g => g < n0) aa ac o.an
  wf : (Lit.int .i64 o.id).wf = true
  dl : o.rq.data.length ≤ 1099511627776
  al : o.an.length ≤ 1099511627776
def opl (o : OpF) (n1 n2 : Nat) (da : Option Addr) (dc : Nat) (aa : Option Addr) (ac : Nat) : Array Value := #[.int .i64 o.kind, .int .i64 o.id, .int .u16 o.rq.fl, .int .u16 o.rq.ty, .int .u64 o.rq.ck, .int .u64 o.rq.off, .int .u64 o.rq.len, .slice da n1 dc, .slice aa n2 ac]
theorem OpOk.below {w w' : World} {n0 : Nat} {o : OpF} {da aa : Option Addr} {dc ac : Nat} (h : OpOk w n0 o da dc aa ac) (hb : Below n0 w w') : OpOk w' n0 o da dc aa ac := ⟨h.d.same (fun g hg => hb.block g hg), h.a.same (fun g hg => hb.block g hg), h.wf, h.dl, h.al⟩
theorem mem_or {k : Int} {L : List En} : (∃ (i : Nat) (e : En), L[i]? = some e ∧ e.id = k) ∨ k ∉ ids L := by
  by_cases h : k ∈ ids L
  · left
    obtain ⟨e, he, rfl⟩ := List.mem_map.1 h
    obtain ⟨i, hi, he2⟩ := List.getElem_of_mem he
    exact ⟨i, e, by rw [List.getElem?_eq_getElem hi, he2], rfl⟩
  · exact .inr h
end Go.Proofs.Ytoabigjajnikcaa
