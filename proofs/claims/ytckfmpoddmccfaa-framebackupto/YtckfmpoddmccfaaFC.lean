import Derived.Test.YtckfmpoddmccfaaFB
import Derived.Test.YtckfmpoddmccfaaJK
namespace Go.Proofs.Ytckfmpoddmccfaa
open Go.RowKit
set_option linter.unusedVariables false
set_option linter.unusedSimpArgs false
set_option maxRecDepth 100000

/-- results in a box and in a slot -/
theorem results_cell_tmp1 {P : Program} {fn : Func} {p u : Tmp} {ty : TypeId} (h : fn.results = #[.cell p ty, .tmp u]) (tmps : Array Value) (w : World) (g : Nat) (t : TypeId) (cs : Array Value) (fr : Nat × Nat) (d : TypeDesc)
    (hp : tmps.getD p undef = .pointer (some ⟨g, 0, none⟩)) (hg : w.heap[g]? = some (.cells cs t fr))
    (hu : P.underlying ty = some d) (hd : (match d with | .struct _ | .array _ _ => true | _ => false) = true) (hi : (P.info? ty).map (·.size) = some cs.size) :
    (results fn tmps).run P w = .ok (.tuple #[.agg cs, tmps.getD u undef]) w := by
  have hp' : tmps[p]?.getD undef = .pointer (some ⟨g, 0, none⟩) := by simpa using hp
  simp [results, h, hp', asAddr, Sem.run_bind, Result.andThen, run_loadVar_row w g t ty cs fr d hg hu hd hi]
/-- what a cut comes to: the message, the answer, what is held behind it -/
def cutOf {X : Type} (z : X) (ov : Nat) (l : List Nat) (r : X × Nat × Nat) : X × Nat × List Nat :=
  if 0 < ov then (z, 0, l) else if r.2.2 = 0 then (r.1, 1, l.drop r.2.1) else if r.2.2 = 10 then (z, 0, l) else if r.2.2 = 12 then (z, 3, l) else (z, 2, l)
/-- an inbox, boxes and a row of bytes, while a cut is made -/
structure Cf (w W : World) (B b : Nat) (v v' : Value) (rm ov : Nat) (l : List Nat) (bs : List (Nat × Array Value × TypeId)) (dv : Value) (d : List Nat) : Prop where
  inb : Inb W B b v' rm ov l
  act : IAct w W b v v'
  bw : b < w.heap.size
  box : ∀ x ∈ bs, W.heap[x.1]? = some (.cells x.2.1 x.2.2 (0, 0)) ∧ w.heap.size ≤ x.1 ∧ x.2.2 ≠ 5
  nd : (bs.map (·.1)).Nodup
  row : W.ownsRow w.heap.size 5 1 dv d.length (d.map bv)
  rn : ∀ g, dv.ownBlock = some g → v'.ownBlock ≠ some g
section
variable {w W W' : World} {B b : Nat} {v v' : Value} {rm ov : Nat} {l : List Nat} {bs : List (Nat × Array Value × TypeId)} {dv : Value} {d : List Nat}
theorem Cf.later (h : Cf w W B b v v' rm ov l bs dv d) (hb : Below W.heap.size W W') : Cf w W' B b v v' rm ov l bs dv d :=
  ⟨h.inb.later hb, h.act.trans (IAct.ofBelow hb), h.bw, fun x hx => ⟨(hb.block _ (block_lt (h.box x hx).1)).trans (h.box x hx).1, (h.box x hx).2⟩, h.nd, owns_same h.row fun g hg => hb.block g (owns_lt h.row g hg).1, h.rn⟩
theorem Cf.ne5 (h : Cf w W B b v v' rm ov l bs dv d) {x : Nat × Array Value × TypeId} (hx : x ∈ bs) : ¬ ifp b v' x.1 ∧ dv.ownBlock ≠ some x.1 := by
  obtain ⟨h1, h2, h3⟩ := h.box x hx
  have hbw := h.bw
  refine ⟨?_, fun e => ?_⟩
  · rintro (e | e)
    · omega
    · obtain ⟨_, _, cur, hc⟩ := h.inb.row.lo _ e
      have := h1.symm.trans hc
      simp at this
      exact h3 this.2
  · obtain ⟨cur, hc⟩ := owns_type h.row _ e
    have := h1.symm.trans hc
    simp at this
    exact h3 this.2
theorem Cf.put {pre post : List (Nat × Array Value × TypeId)} {g : Nat} {cs : Array Value} {t : TypeId} (h : Cf w W B b v v' rm ov l (pre ++ (g, cs, t) :: post) dv d) (j : Nat) (u : Value) {cs' : Array Value} (hcs : cs.setIfInBounds j u = cs') : Cf w (W.setCell ⟨g, j, none⟩ u) B b v v' rm ov l (pre ++ (g, cs', t) :: post) dv d := by
  have hg : (g, cs, t) ∈ pre ++ (g, cs, t) :: post := by simp
  obtain ⟨h1, h2, h3⟩ := h.box _ hg
  obtain ⟨n1, n2⟩ := h.ne5 hg
  have hk : KeptIn (fun k => k = g) W (W.setCell ⟨g, j, none⟩ u) := ⟨rfl, rfl, rfl, by simp [World.setCell], fun k _ hn => Below.heap_setCell _ _ _ _ hn⟩
  have hnd := h.nd
  rw [List.map_append, List.map_cons, List.nodup_append, List.nodup_cons] at hnd
  obtain ⟨hn1, ⟨hn2, hn3⟩, hn4⟩ := hnd
  have hoth : ∀ x, x ∈ pre ∨ x ∈ post → x.1 ≠ g := by
    rintro x (hx | hx) e
    · exact hn4 x.1 (List.mem_map_of_mem hx) g (by simp) e
    · exact hn2 (List.mem_map.2 ⟨x, hx, e⟩)
  refine ⟨h.inb.keep hk (fun k hf e => n1 (by subst e; exact hf)), ⟨h.act.kept.trans hk (fun k hk2 _ e => by have h2' : w.heap.size ≤ g := h2; omega), h.act.fresh⟩, h.bw, fun x hx => ?_, by simpa using h.nd, owns_same h.row fun k hk2 => Below.heap_setCell _ _ _ _ (fun e => n2 (by rw [hk2, e])), h.rn⟩
  have key : ∀ x, x ∈ pre ∨ x ∈ post → (W.setCell ⟨g, j, none⟩ u).heap[x.1]? = some (.cells x.2.1 x.2.2 (0, 0)) ∧ w.heap.size ≤ x.1 ∧ x.2.2 ≠ 5 := fun x hx' => by
    obtain ⟨k1, k2⟩ := h.box x (by rcases hx' with e | e <;> simp [e])
    exact ⟨(Below.heap_setCell _ _ _ _ (hoth x hx')).trans k1, k2⟩
  rcases List.mem_append.1 hx with hx' | hx'
  · exact key x (.inl hx')
  · rcases List.mem_cons.1 hx' with rfl | hx'
    · refine ⟨?_, h2, h3⟩
      have := heap_setCell_same W g j cs t u h1
      rw [this, hcs]
    · exact key x (.inr hx')
theorem Cf.alloc (h : Cf w W B b v v' rm ov l bs dv d) (cs : Array Value) (t : TypeId) (ht : t ≠ 5) : Cf w (W.alloc (.cells cs t)) B b v v' rm ov l ((W.heap.size, cs, t) :: bs) dv d := by
  have h2 := h.later (W' := W.alloc (.cells cs t)) ((Below.refl _ _).alloc (Nat.le_refl _) _)
  refine ⟨h2.inb, h2.act, h2.bw, fun x hx => ?_, ?_, h2.row, h2.rn⟩
  · rcases List.mem_cons.1 hx with rfl | hx
    · exact ⟨heap_new W _, h.act.kept.size, ht⟩
    · exact h2.box x hx
  · rw [List.map_cons, List.nodup_cons]
    refine ⟨fun hm => ?_, h.nd⟩
    obtain ⟨x, hx, e⟩ := List.mem_map.1 hm
    have e' : x.1 = W.heap.size := e
    have := block_lt (h.box x hx).1
    omega
theorem Cf.told (h : Cf w W B b v v' rm ov l bs dv d) {ao : Option Addr} {cap : Nat} {d' : List Nat} (hr : Row W W' ao cap d') : Cf w W' B b v v' rm ov l bs (.slice ao d'.length cap) d' := by
  have h2 := h.later hr.bel
  refine ⟨h2.inb, h2.act, h2.bw, h2.box, h2.nd, owns_mono hr.own h.act.kept.size, fun g hg e => ?_⟩
  have h1 := (owns_lt hr.own g hg).2
  have h3 := (h.inb.row.lo g e).2.1
  omega
theorem Cf.acts {v'' : Value} {ov' : Nat} {l' : List Nat} (h : Cf w W B b v v' rm ov l bs dv d) (hi : Inb W' B b v'' rm ov' l') (ha : IAct W W' b v' v'') : Cf w W' B b v v'' rm ov' l' bs dv d := by
  refine ⟨hi, h.act.trans ha, h.bw, fun x hx => ?_, h.nd, owns_same h.row fun g hg => ha.kept.block g (owns_lt h.row g hg).1 ?_, fun g hg e => ?_⟩
  · exact ⟨(ha.kept.block _ (block_lt (h.box x hx).1) (h.ne5 hx).1).trans (h.box x hx).1, (h.box x hx).2⟩
  · rintro (e | e)
    · have h1 := (owns_lt h.row g hg).2
      have := h.bw
      omega
    · exact h.rn g hg e
  · rcases ha.fresh with f | ⟨g', f, hlt⟩
    · exact h.rn g hg (f ▸ e)
    · rw [e] at f; simp at f; subst f
      have := (owns_lt h.row g hg).1
      omega
theorem Cf.c (h : Cf w W B b v v' rm ov l bs dv d) {g : Nat} {cs : Array Value} {t : TypeId} (hg : (g, cs, t) ∈ bs) (j : Nat) : W.cell? ⟨g, j, none⟩ = cs[j]? ∧ W.frozen? ⟨g, j, none⟩ = false :=
  ⟨blk_at (h.box _ hg).1 j, blk_free (h.box _ hg).1 j⟩
theorem Cf.start (h : Inb w B b v rm ov l) : Cf w w B b v v rm ov l [] (.slice none 0 0) [] :=
  ⟨h, ⟨KeptIn.refl _ _, .inl rfl⟩, block_lt h.blk, by simp, by simp, World.ownsRow_nil _ _ _ _, by simp [Value.ownBlock]⟩
theorem Cf.drew (h : Cf w W B b v v' rm ov l bs dv d) : Cf w W.drew B b v v' rm ov l bs dv d := h.later ⟨rfl, rfl, rfl, Nat.le_refl _, fun _ _ => rfl⟩
end
end Go.Proofs.Ytckfmpoddmccfaa
