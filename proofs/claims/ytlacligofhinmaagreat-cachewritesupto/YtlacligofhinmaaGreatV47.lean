import Derived.Test.YtlacligofhinmaaGreatV46
import Derived.Test.YtlacligofhinmaaGreatV40
namespace Go.Proofs.YtlacligofhinmaaGreat.C
open Go.RowKit Go.Maps Go.Shelf Go.Proofs.YtlacligofhinmaaGreat
attribute [local go_sem] Oper.semAt_some
set_option linter.unusedVariables false
set_option linter.unusedSimpArgs false
set_option maxRecDepth 100000

theorem backs_n : ∀ (ks : List Int) (S : K.Dk) (C : Ch), (backs ks S C).2.1.n = S.n
  | [], S, C => rfl
  | s :: ks, S, C => by
    rw [backs_cons]
    split
    · rw [backs_n ks, wbS_n]
    · exact wbS_n S C s
theorem settle_n (ks : List Int) (S : K.Dk) (C : Ch) : (settleR ks S C).2.1.n = S.n := by
  unfold settleR
  split
  · exact (baS_n _).trans (backs_n ks S C)
  · exact backs_n ks S C
theorem flush_n (S : K.Dk) (C : Ch) : (flushR S C).2.1.n = S.n := by
  unfold flushR
  split
  · split
    · exact settle_n _ S C
    · exact (settle_n _ _ _).trans (settle_n _ S C)
  · exact settle_n _ S C
theorem gw_n (S : K.Dk) (C : Ch) (l : Ln) : (gwR S C l).2.1.n = S.n := by
  unfold gwR
  repeat' split
  all_goals first | rfl | exact wrS_n _ _ _
theorem room_n (S : K.Dk) (C : Ch) : (roomR S C).2.1.n = S.n := by
  unfold roomR
  split
  · rfl
  · split
    · exact gw_n S C _
    · split
      · split
        · exact (gw_n _ _ _).trans (flush_n S C)
        · exact flush_n S C
      · exact flush_n S C
theorem read_n (S : K.Dk) (C : Ch) (s : Int) (b : Nat) : (readR S C s b).2.2.1.n = S.n := by
  unfold readR
  split
  · split
    · rfl
    · split
      · split
        · exact (rdS_n _ _).trans (room_n S _)
        · exact (rdS_n _ _).trans (room_n S _)
      · exact room_n S _
  · rfl
theorem write_n (S : K.Dk) (C : Ch) (s : Int) (bs : K.Bl) (b : Nat) : (writeR S C s bs b).2.1.n = S.n := by
  unfold writeR
  split
  · split
    · split
      · rfl
      · split
        · exact room_n S _
        · exact room_n S _
    · rfl
  · rfl
theorem through_n (S : K.Dk) (C : Ch) (ks : List Int) : (throughR S C ks).2.1.n = S.n := by
  unfold throughR
  split
  · split
    · exact flush_n S C
    · exact settle_n _ S C
  · rfl
theorem back_n (S : K.Dk) (C : Ch) : (backR S C).2.2.1.n = S.n := by
  unfold backR
  split
  · rfl
  · split
    · exact wbS_n _ _ _
    · exact wbS_n _ _ _
abbrev TOp : TypeId := 44
/-- what stands while changes runs: the pair, and the two boxes of the arguments -/
structure Pf (n0 : Nat) (W W1 : World) (x : Nat) (sc oc : Array Value) (P : Loc) (A : Qa) (S : K.Dk) (C : Ch) (T : K.Dk) (E : Ch) : Prop where
  pq : Pq n0 W1 x P A S C T E
  bl : Below n0 W W1
  s : W1.heap[W.heap.size]? = some (.cells sc TSe)
  o : W1.heap[W.heap.size + 1]? = some (.cells oc TOp)
  np : ∀ i ∈ P.fp C.L, i ≠ W.heap.size ∧ i ≠ W.heap.size + 1
  nq : ∀ i ∈ A.fp, i ≠ W.heap.size ∧ i ≠ W.heap.size + 1
  xw : x < W.heap.size
section
variable {n0 x N : Nat} {W W1 W2 : World} {sc oc : Array Value} {P P' : Loc} {A A' : Qa} {S T S' T' : K.Dk} {C E C' E' : Ch}
theorem Pf.lt (h : Pf n0 W W1 x sc oc P A S C T E) : W.heap.size + 1 < W1.heap.size := (Array.getElem?_eq_some_iff.1 h.o).1
theorem Pf.later (h : Pf n0 W W1 x sc oc P A S C T E) (hb : Below W1.heap.size W1 W2) : Pf n0 W W2 x sc oc P A S C T E :=
  have hl := h.lt
  ⟨h.pq.later hb, h.bl.trans (hb.mono h.pq.nlt), (hb.block _ (by omega)).trans h.s, (hb.block _ hl).trans h.o, h.np, h.nq, h.xw⟩
theorem Pf.actC (h : Pf n0 W W1 x sc oc P A S C T E) (ha : CAct W1 W2 P P' C S' C') : Pf n0 W W2 x sc oc P' A S' C' T E := by
  have hl := h.lt
  obtain ⟨h1, h2⟩ := h.pq.actC ha
  refine ⟨h1, h.bl.trans h2, (ha.kp.block _ (by omega) (fun hm => (h.np _ hm).1 rfl)).trans h.s, (ha.kp.block _ hl (fun hm => (h.np _ hm).2 rfl)).trans h.o, fun i hi => ?_, h.nq, h.xw⟩
  rcases ha.sub i hi with h3 | h3
  · exact h.np i h3
  · omega
theorem Pf.actQ (h : Pf n0 W W1 x sc oc P A S C T E) (ha : QAct W1 W2 A A' E T' E' N) : Pf n0 W W2 x sc oc P A' S C T' E' := by
  have hl := h.lt
  obtain ⟨h1, h2⟩ := h.pq.actQ ha
  refine ⟨h1, h.bl.trans h2, (ha.kp.block _ (by omega) (fun hm => (h.nq _ hm).1 rfl)).trans h.s, (ha.kp.block _ hl (fun hm => (h.nq _ hm).2 rfl)).trans h.o, h.np, fun i hi => ?_, h.xw⟩
  rcases ha.sub i hi with h3 | h3
  · exact h.nq i h3
  · omega
theorem Pf.new (h : Pq n0 W x P A S C T E) (sc oc : Array Value) : Pf n0 W ((W.alloc (.cells sc TSe)).alloc (.cells oc TOp)) x sc oc P A S C T E := by
  have hb1 : Below W.heap.size W (W.alloc (.cells sc TSe)) := (Below.refl _ W).alloc (Nat.le_refl _) _
  have hb : Below W.heap.size W ((W.alloc (.cells sc TSe)).alloc (.cells oc TOp)) := hb1.alloc (by simp) _
  refine ⟨h.later hb, hb.mono h.nlt, ?_, ?_, fun i hi => ?_, fun i hi => ?_, h.xlt⟩
  · rw [Below.heap_alloc _ _ _ (by simp)]; exact heap_alloc_new W _
  · have := heap_alloc_new (W.alloc (.cells sc TSe)) (.cells oc TOp)
    rw [World.size_alloc] at this
    exact this
  · have := h.rc.lt i hi; omega
  · have := h.rq.lt i hi; omega
theorem Pf.c0 (h : Pf n0 W W1 x sc oc P A S C T E) : W1.cell? ⟨x, 0, none⟩ = some (.pointer (some ⟨P.bd, 0, none⟩)) := h.pq.c0
theorem Pf.c1 (h : Pf n0 W W1 x sc oc P A S C T E) : W1.cell? ⟨x, 1, none⟩ = some (.pointer (some ⟨P.bc, 0, none⟩)) := h.pq.c1
theorem Pf.c2 (h : Pf n0 W W1 x sc oc P A S C T E) : W1.cell? ⟨x, 2, none⟩ = some (.pointer (some ⟨A.p, 0, none⟩)) := h.pq.c2
theorem Pf.c3 (h : Pf n0 W W1 x sc oc P A S C T E) : W1.cell? ⟨x, 3, none⟩ = some (.pointer (some ⟨A.q, 0, none⟩)) := h.pq.c3
theorem Pf.ocell (h : Pf n0 W W1 x sc oc P A S C T E) (j : Nat) : W1.cell? ⟨W.heap.size + 1, j, none⟩ = oc[j]? := K.cell_of h.o
theorem Pf.scell (h : Pf n0 W W1 x sc oc P A S C T E) (j : Nat) : W1.cell? ⟨W.heap.size, j, none⟩ = sc[j]? := K.cell_of h.s
end
/-- what a call of the script leaves -/
def ChP (n0 : Nat) (W : World) (x n N : Nat) (r : Ending) (W' : World) : Prop :=
  r = .returned (.bool true) ∧ ∃ P A S C, Pq n0 W' x P A S C S C ∧ Below n0 W W' ∧ S.n = n ∧ A.pot C ≤ N
end Go.Proofs.YtlacligofhinmaaGreat.C

namespace Go.Proofs.YtlacligofhinmaaGreat.K
open Go.RowKit Go.Maps Go.Proofs.YtlacligofhinmaaGreat
set_option linter.unusedVariables false
/-- a row of bytes is none of the disk's blocks -/
theorem RK.notbyte {W : World} {b : Nat} {S : Dk} {ms ml : Nat} {lk : Int} {qv fv : Value} {g : Nat} {cs : Array Value} (h : RK W lk b ms ml qv fv S) (hg : W.heap[g]? = some (.cells cs 5 (0, 0))) : g ∉ fp b ms ml qv fv := by
  obtain ⟨D, ⟨es, ck, hm, _⟩, _⟩ := h.sm
  obtain ⟨D', ⟨es', ck', hm', _⟩, _⟩ := h.lm
  intro hmem
  simp only [fp, List.mem_cons, List.mem_append, Option.mem_toList] at hmem
  rcases hmem with rfl | rfl | rfl | hi | hi
  · rw [h.blk] at hg; simp at hg; exact absurd hg.2 (by decide)
  · rw [hm] at hg; cases hg
  · rw [hm'] at hg; cases hg
  · obtain ⟨_, cs', h1⟩ := row_lt h.qr g hi; rw [h1] at hg; simp at hg; exact absurd hg.2 (by decide)
  · obtain ⟨_, cs', h1⟩ := row_lt h.fr g hi; rw [h1] at hg; simp at hg; exact absurd hg.2 (by decide)
end Go.Proofs.YtlacligofhinmaaGreat.K
namespace Go.Proofs.YtlacligofhinmaaGreat.C
open Go.RowKit Go.Maps Go.Shelf Go.Proofs.YtlacligofhinmaaGreat
attribute [local go_sem] Oper.semAt_some
set_option linter.unusedVariables false
set_option linter.unusedSimpArgs false
set_option maxRecDepth 100000

/-- a row of bytes is none of the cache's blocks -/
theorem RC.notbyte {w : World} {P : Loc} {S : K.Dk} {C : Ch} {g : Nat} {cs : Array Value} (h : RC w P S C) (hg : w.heap[g]? = some (.cells cs 5 (0, 0))) : g ∉ P.fp C.L := by
  intro hm
  simp only [Loc.fp, List.mem_append] at hm
  rcases hm with hm | hm | hm
  · exact h.rk.notbyte hg hm
  · obtain ⟨nx, pv, _, h1, h2⟩ := h.ro.rg
    obtain ⟨_, D, ⟨es, ck, hmp, _⟩, _⟩ := h.ro.mp
    simp only [Loc.ofp, I.fp, List.mem_cons, List.mem_map] at hm
    rcases hm with e | e | e | ⟨t, ht, e⟩
    · rw [e, h.ro.ord] at hg; simp at hg; exact absurd hg.2 (by decide)
    · rw [e, hmp] at hg; cases hg
    · rw [e, h1] at hg; simp [I.plc] at hg; exact absurd hg.2 (by decide)
    · rw [← e, h2 t ht] at hg; simp [I.plc] at hg; exact absurd hg.2 (by decide)
  · obtain ⟨D, ⟨es, ck, hmp, _⟩, _⟩ := h.lm
    simp only [Loc.cfp, List.mem_cons, List.mem_append, List.mem_map, Option.mem_toList] at hm
    rcases hm with e | e | e | ⟨l, hl, e⟩
    · rw [e, h.blk] at hg; simp at hg; exact absurd hg.2 (by decide)
    · rw [e, hmp] at hg; cases hg
    · obtain ⟨_, cs', h1⟩ := h.nr.lt g e; rw [h1] at hg; simp at hg; exact absurd hg.2 (by decide)
    · rw [← e, h.ln l hl] at hg; simp at hg; exact absurd hg.2 (by decide)
theorem readR_bytes {S : K.Dk} {C : Ch} {s : Int} {b : Nat} (h : ∀ l ∈ (readR S C s b).2.2.2.L, K.OkB l.dat) : (∀ x ∈ (readR S C s b).2.1, x < 256) ∧ (readR S C s b).2.1.length ≤ 512 := by
  have hn : (∀ x ∈ ([] : K.Bl), x < 256) ∧ ([] : K.Bl).length ≤ 512 := ⟨by simp, by simp⟩
  have ho : ∀ l : K.Bl, K.OkB l → (∀ x ∈ l, x < 256) ∧ l.length ≤ 512 := fun l hl => ⟨hl.lt, Nat.le_of_eq hl.len⟩
  unfold readR at h ⊢
  split
  · rename_i hi
    rw [if_pos hi] at h
    split
    · rename_i l hl
      rw [hl] at h
      refine ho _ (h l ?_)
      simp only [useC, hl]
      exact List.mem_append_right _ (List.mem_singleton.2 rfl)
    · rename_i hl
      rw [hl] at h
      split
      · rename_i h0
        simp only [if_pos h0] at h
        split
        · rename_i h1
          simp only [if_pos h1] at h
          exact ho _ (h _ (List.mem_append_right _ (List.mem_singleton.2 rfl)))
        · exact hn
      · exact hn
  · exact hn
section
variable {n0 x N : Nat} {W W1 : World} {sc oc : Array Value} {P : Loc} {A : Qa} {S T : K.Dk} {C E : Ch}
/-- a cell of one's own is set -/
theorem Pf.poke (h : Pf n0 W W1 x sc oc P A S C T E) {g j : Nat} {u : Value} (h1 : g ∉ P.fp C.L) (h2 : g ∉ A.fp) (h3 : W.heap.size + 1 < g) : Pf n0 W (W1.setCell ⟨g, j, none⟩ u) x sc oc P A S C T E := by
  have hs : ∀ i, i ≠ g → (W1.setCell ⟨g, j, none⟩ u).heap[i]? = W1.heap[i]? := fun i hi => Below.heap_setCell _ _ _ _ hi
  have hxl := h.pq.lx
  have hxw := h.xw
  have hpq : Pq n0 (W1.setCell ⟨g, j, none⟩ u) x P A S C T E := ⟨(hs x (by omega)).trans h.pq.blk, h.pq.rc.same (fun i hi => hs i (fun e => h1 (e ▸ hi))), h.pq.rq.same (fun i hi => hs i (fun e => h2 (e ▸ hi))), h.pq.dj, h.pq.xp, h.pq.xq, h.pq.lx, h.pq.lp, h.pq.lq⟩
  exact ⟨hpq, h.bl.setCell (p := ⟨g, j, none⟩) (by show n0 ≤ g; omega) _, (hs _ (by omega)).trans h.s, (hs _ (by omega)).trans h.o, h.np, h.nq, h.xw⟩
end
end Go.Proofs.YtlacligofhinmaaGreat.C

namespace Go.Proofs.YtlacligofhinmaaGreat.C
open Go.RowKit Go.Maps Go.Shelf Go.Proofs.YtlacligofhinmaaGreat
attribute [local go_sem] Oper.semAt_some
set_option linter.unusedVariables false
set_option linter.unusedSimpArgs false
set_option maxRecDepth 100000

/-- what stands while asks runs: the pair, and the box of the call -/
structure Pg (n0 : Nat) (W W1 : World) (x : Nat) (oc : Array Value) (P : Loc) (A : Qa) (S : K.Dk) (C : Ch) : Prop where
  pq : Pq n0 W1 x P A S C S C
  bl : Below n0 W W1
  o : W1.heap[W.heap.size]? = some (.cells oc TOp)
  np : ∀ i ∈ P.fp C.L, i < W.heap.size
  nq : ∀ i ∈ A.fp, i < W.heap.size
  xw : x < W.heap.size
section
variable {n0 x N : Nat} {W W1 W2 : World} {oc : Array Value} {P : Loc} {A : Qa} {S : K.Dk} {C : Ch}
theorem Pg.lt (h : Pg n0 W W1 x oc P A S C) : W.heap.size < W1.heap.size := (Array.getElem?_eq_some_iff.1 h.o).1
theorem Pg.later (h : Pg n0 W W1 x oc P A S C) (hb : Below W1.heap.size W1 W2) : Pg n0 W W2 x oc P A S C :=
  ⟨h.pq.later hb, h.bl.trans (hb.mono h.pq.nlt), (hb.block _ h.lt).trans h.o, h.np, h.nq, h.xw⟩
theorem Pg.act (h : Pg n0 W W1 x oc P A S C) (ha : CAct W1 W2 P P C S C) : Pg n0 W W2 x oc P A S C := by
  obtain ⟨h1, h2⟩ := h.pq.actC ha
  exact ⟨h1, h.bl.trans h2, (ha.kp.block _ h.lt (fun hm => by have := h.np _ hm; omega)).trans h.o, h.np, h.nq, h.xw⟩
theorem Pg.new (h : Pq n0 W x P A S C S C) (oc : Array Value) : Pg n0 W (W.alloc (.cells oc TOp)) x oc P A S C := by
  have hb : Below W.heap.size W (W.alloc (.cells oc TOp)) := (Below.refl _ W).alloc (Nat.le_refl _) _
  exact ⟨h.later hb, hb.mono h.nlt, heap_alloc_new W _, h.rc.lt, h.rq.lt, h.xlt⟩
theorem Pg.poke (h : Pg n0 W W1 x oc P A S C) {g j : Nat} {u : Value} (h3 : W.heap.size < g) : Pg n0 W (W1.setCell ⟨g, j, none⟩ u) x oc P A S C := by
  have hs : ∀ i, i ≠ g → (W1.setCell ⟨g, j, none⟩ u).heap[i]? = W1.heap[i]? := fun i hi => Below.heap_setCell _ _ _ _ hi
  have hxl := h.pq.lx
  have hxw := h.xw
  have hpq : Pq n0 (W1.setCell ⟨g, j, none⟩ u) x P A S C S C := ⟨(hs x (by omega)).trans h.pq.blk, h.pq.rc.same (fun i hi => hs i (by have := h.np i hi; omega)), h.pq.rq.same (fun i hi => hs i (by have := h.nq i hi; omega)), h.pq.dj, h.pq.xp, h.pq.xq, h.pq.lx, h.pq.lp, h.pq.lq⟩
  exact ⟨hpq, h.bl.setCell (p := ⟨g, j, none⟩) (by show n0 ≤ g; omega) _, (hs _ (by omega)).trans h.o, h.np, h.nq, h.xw⟩
theorem Pg.c0 (h : Pg n0 W W1 x oc P A S C) : W1.cell? ⟨x, 0, none⟩ = some (.pointer (some ⟨P.bd, 0, none⟩)) := h.pq.c0
theorem Pg.c1 (h : Pg n0 W W1 x oc P A S C) : W1.cell? ⟨x, 1, none⟩ = some (.pointer (some ⟨P.bc, 0, none⟩)) := h.pq.c1
theorem Pg.c2 (h : Pg n0 W W1 x oc P A S C) : W1.cell? ⟨x, 2, none⟩ = some (.pointer (some ⟨A.p, 0, none⟩)) := h.pq.c2
theorem Pg.c3 (h : Pg n0 W W1 x oc P A S C) : W1.cell? ⟨x, 3, none⟩ = some (.pointer (some ⟨A.q, 0, none⟩)) := h.pq.c3
theorem Pg.ocell (h : Pg n0 W W1 x oc P A S C) (j : Nat) : W1.cell? ⟨W.heap.size, j, none⟩ = oc[j]? := K.cell_of h.o
theorem peek_bytes {w : World} (h : RC w P S C) (s : Int) : (∀ y ∈ peekL S C s, y < 256) ∧ (peekL S C s).length ≤ 512 := by
  have ho : ∀ l : K.Bl, K.OkB l → (∀ x ∈ l, x < 256) ∧ l.length ≤ 512 := fun l hl => ⟨hl.lt, Nat.le_of_eq hl.len⟩
  unfold peekL
  split
  · rename_i hi
    obtain ⟨t, rfl, ht⟩ := inD_nat hi
    refine ho _ ?_
    unfold seen
    split
    · rename_i l hl
      exact (h.ok l (lineAt_mem hl).1).2
    · exact K.look_ok h.rk (by simpa using ht)
  · exact ⟨by simp, by simp⟩
end
/-- what a question leaves -/
def AsP (n0 : Nat) (W : World) (x : Nat) (P : Loc) (A : Qa) (S : K.Dk) (C : Ch) (r : Ending) (W' : World) : Prop :=
  r = .returned (.bool true) ∧ Pq n0 W' x P A S C S C ∧ Below n0 W W'
end Go.Proofs.YtlacligofhinmaaGreat.C
