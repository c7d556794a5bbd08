import Derived.Test.YtlacligofhinmaaGreatV20
import Derived.Test.YtlacligofhinmaaGreatV8
import Derived.Laws.ResultCell
import Derived.Maps.RangeWalk
import Derived.Laws.CopyRow
import Derived.Laws.AppendOwnNone
import Derived.Deep.RegionHeld3
import Derived.Deep.Slices
import Derived.Carry
import Derived.WalkKit
import Derived.ProofKit
import Derived.OpenShut
import Derived.ChangeOld
import Derived.SizedLaws
import Derived.JoinedCond
namespace Go.Proofs.YtlacligofhinmaaGreat.C
open Go.RowKit Go.Maps Go.Proofs.YtlacligofhinmaaGreat
set_option linter.unusedVariables false
set_option linter.unusedSimpArgs false
set_option maxRecDepth 100000

abbrev TCa : TypeId := 110
abbrev TLn : TypeId := 106
abbrev TLp : TypeId := 101
abbrev TLm : TypeId := 107
abbrev TSp : TypeId := 68
abbrev TIn : TypeId := 3
/-- a line: its sector, its block in memory, its bytes, is it dirty, is it a note's -/
structure Ln where
  sec : Nat
  blk : Nat
  dat : K.Bl
  dirty : Bool
  note : Bool
def Ln.ent (l : Ln) : I.Ent := ⟨(l.sec : Int), 0, l.blk⟩
def lcells (l : Ln) : Array Value := (l.dat.map bv ++ [Value.bool l.dirty, Value.bool l.note]).toArray
structure Cs where
  hits : Int
  misses : Int
  evicted : Int
  written : Int
/-- what a cache is; the line used least lately first -/
structure Ch where
  most : Nat
  notes : List (Int × Int)
  L : List Ln
  st : Cs
/-- where it lies -/
structure Loc where
  bc : Nat
  bd : Nat
  ms : Nat
  ml : Nat
  qv : Value
  fv : Value
  nv : Value
  nb : Option Nat
  bl : Nat
  bo : Nat
  bm : Nat
  g : Nat
  E : List I.Ent
def spcell (p : Int × Int) : List Value := [.int .i64 p.1, .int .i64 p.2]
def spcells (l : List (Int × Int)) : List Value := l.flatMap spcell
def Loc.dfp (P : Loc) : List Nat := K.fp P.bd P.ms P.ml P.qv P.fv
def Loc.ofp (P : Loc) : List Nat := I.fp P.bo P.bm P.g P.E
def Loc.cfp (P : Loc) (L : List Ln) : List Nat := P.bc :: P.bl :: (P.nb.toList ++ L.map (·.blk))
def Loc.fp (P : Loc) (L : List Ln) : List Nat := P.dfp ++ (P.ofp ++ P.cfp L)
def ccells (P : Loc) (C : Ch) : Array Value := #[.pointer (some ⟨P.bd, 0, none⟩), .int .i64 C.most, P.nv, .map (some P.bl), .pointer (some ⟨P.bo, 0, none⟩), .int .u64 C.st.hits, .int .u64 C.st.misses, .int .u64 C.st.evicted, .int .u64 C.st.written]
/-- the spans of notes in memory: of none at all nothing is held -/
def NR (w : World) (nv : Value) (nb : Option Nat) (notes : List (Int × Int)) : Prop := (notes = [] ∧ nb = none ∧ ∃ ao cap, nv = .slice ao 0 cap) ∨ (nb = nv.ownBlock ∧ w.ownsRow 0 TSp 2 nv notes.length (spcells notes))
theorem NR.block {w w' : World} {nv : Value} {nb : Option Nat} {notes : List (Int × Int)} (h : NR w nv nb notes) (hb : ∀ g, nb = some g → w'.heap[g]? = w.heap[g]?) : NR w' nv nb notes := by
  rcases h with h | ⟨rfl, h⟩
  · exact .inl h
  · exact .inr ⟨rfl, K.ownsRow_block h hb⟩
theorem NR.lt {w : World} {nv : Value} {nb : Option Nat} {notes : List (Int × Int)} (h : NR w nv nb notes) : ∀ g, nb = some g → g < w.heap.size ∧ ∃ cs, w.heap[g]? = some (.cells cs TSp (0, 0)) := by
  intro g hg
  rcases h with ⟨_, rfl, _⟩ | ⟨rfl, h⟩
  · cases hg
  · exact K.row_lt h g hg
/-- a cache in memory -/
structure RC (w : World) (P : Loc) (S : K.Dk) (C : Ch) : Prop where
  blk : w.heap[P.bc]? = some (.cells (ccells P C) TCa (0, 0))
  rk : K.RK w 0 P.bd P.ms P.ml P.qv P.fv S
  ro : I.RO w P.bo P.bm P.g P.E
  eq : P.E.map (·.key) = C.L.map (fun l => (l.sec : Int))
  nr : NR w P.nv P.nb C.notes
  lm : ∃ D, w.ownsMap Tryz.prog TIn I.ptrE P.bl (Maps.size D) D ∧ I.MapOk (C.L.map Ln.ent) D
  ln : ∀ l ∈ C.L, w.heap[l.blk]? = some (.cells (lcells l) TLn (0, 0))
  nd : (C.L.map (·.blk)).Nodup
  ok : ∀ l ∈ C.L, l.sec < S.n ∧ K.OkB l.dat
  lim : C.L.length ≤ C.most ∧ 1 ≤ C.most ∧ C.most ≤ 1024
  nl : C.notes.length ≤ 64
  nok : ∀ p ∈ C.notes, 0 ≤ p.1 ∧ 1 ≤ p.2 ∧ p.1 + p.2 ≤ S.n
  d1 : ∀ i ∈ P.dfp, i ∉ P.ofp
  d2 : ∀ i ∈ P.dfp, i ∉ P.cfp C.L
  d3 : ∀ i ∈ P.ofp, i ∉ P.cfp C.L
section
variable {w w' : World} {P : Loc} {S S' : K.Dk} {C C' : Ch}
theorem RC.cl (h : RC w P S C) : ∀ i ∈ P.cfp C.L, i < w.heap.size := by
  intro i hi
  simp only [Loc.cfp, List.mem_cons, List.mem_append, List.mem_map, Option.mem_toList] at hi
  obtain ⟨D, hm, _⟩ := h.lm
  rcases hi with rfl | rfl | hi | ⟨l, hl, rfl⟩
  · exact (Array.getElem?_eq_some_iff.1 h.blk).1
  · exact hm.lt
  · exact (h.nr.lt i hi).1
  · exact (Array.getElem?_eq_some_iff.1 (h.ln l hl)).1
theorem RC.lt (h : RC w P S C) : ∀ i ∈ P.fp C.L, i < w.heap.size := by
  intro i hi
  simp only [Loc.fp, List.mem_append] at hi
  rcases hi with hi | hi | hi
  · exact h.rk.lt i hi
  · exact h.ro.lt i hi
  · exact h.cl i hi
theorem RC.same (h : RC w P S C) (hs : ∀ i ∈ P.fp C.L, w'.heap[i]? = w.heap[i]?) : RC w' P S C := by
  have hc : ∀ i ∈ P.cfp C.L, w'.heap[i]? = w.heap[i]? := fun i hi => hs i (by simp [Loc.fp, hi])
  obtain ⟨D, hm, ho⟩ := h.lm
  exact ⟨(hc P.bc (by simp [Loc.cfp])).trans h.blk, h.rk.same (fun i hi => hs i (by simp only [Loc.fp, List.mem_append]; exact .inl hi)), h.ro.same (fun i hi => hs i (by simp only [Loc.fp, List.mem_append]; exact .inr (.inl hi))), h.eq, h.nr.block (fun g hg => hc g (by simp [Loc.cfp, hg])), ⟨D, K.ownsMap_block hm (hc P.bl (by simp [Loc.cfp])), ho⟩, fun l hl => (hc l.blk (by simp only [Loc.cfp, List.mem_cons, List.mem_append, List.mem_map]; exact .inr (.inr (.inr ⟨l, hl, rfl⟩)))).trans (h.ln l hl), h.nd, h.ok, h.lim, h.nl, h.nok, h.d1, h.d2, h.d3⟩
theorem RC.later (h : RC w P S C) (hb : Below w.heap.size w w') : RC w' P S C := h.same fun i hi => hb.block i (h.lt i hi)
theorem RC.kept {F : List Nat} (h : RC w P S C) (hk : K.Kp w w' F) (hd : ∀ i ∈ P.fp C.L, i ∉ F) : RC w' P S C := h.same fun i hi => hk.block i (h.lt i hi) (hd i hi)
/-- the cache's own blocks are apart -/
theorem RC.apart (h : RC w P S C) : P.bc ≠ P.bl ∧ P.nb ≠ some P.bc ∧ P.nb ≠ some P.bl ∧ ∀ l ∈ C.L, l.blk ≠ P.bc ∧ l.blk ≠ P.bl ∧ P.nb ≠ some l.blk := by
  obtain ⟨D, ⟨es, ck, hm, _⟩, _⟩ := h.lm
  have hb := h.blk
  have hn := h.nr.lt
  refine ⟨?_, ?_, ?_, fun l hl => ⟨?_, ?_, ?_⟩⟩
  · intro e; rw [e, hm] at hb; cases hb
  · intro e; obtain ⟨_, cs, h1⟩ := hn _ e; rw [hb] at h1; simp at h1; exact absurd h1.2 (by decide)
  · intro e; obtain ⟨_, cs, h1⟩ := hn _ e; rw [hm] at h1; cases h1
  · intro e; have h1 := h.ln l hl; rw [e, hb] at h1; simp at h1; exact absurd h1.2 (by decide)
  · intro e; have h1 := h.ln l hl; rw [e, hm] at h1; cases h1
  · intro e; obtain ⟨_, cs, h1⟩ := hn _ e; rw [h.ln l hl] at h1; simp at h1; exact absurd h1.2 (by decide)
/-- what a call leaves -/
structure CAct (w w' : World) (P P' : Loc) (C : Ch) (S' : K.Dk) (C' : Ch) : Prop where
  rc : RC w' P' S' C'
  kp : K.Kp w w' (P.fp C.L)
  sub : ∀ i ∈ P'.fp C'.L, i ∈ P.fp C.L ∨ w.heap.size ≤ i
  bc : P'.bc = P.bc
  bd : P'.bd = P.bd
theorem CAct.refl (h : RC w P S C) : CAct w w P P C S C := ⟨h, K.Kp.refl _ _, fun _ h => .inl h, rfl, rfl⟩
theorem CAct.trans {w2 : World} {P1 P2 : Loc} {S1 S2 : K.Dk} {C1 C2 : Ch} (h : CAct w w' P P1 C S1 C1) (k : CAct w' w2 P1 P2 C1 S2 C2) : CAct w w2 P P2 C S2 C2 :=
  ⟨k.rc, h.kp.trans k.kp h.sub, fun i hi => (k.sub i hi).elim (h.sub i) (fun hh => .inr (Nat.le_trans h.kp.size hh)), k.bc.trans h.bc, k.bd.trans h.bd⟩
theorem CAct.later {P' : Loc} {w2 : World} (h : CAct w w' P P' C S' C') (hb : Below w'.heap.size w' w2) : CAct w w2 P P' C S' C' :=
  ⟨h.rc.later hb, h.kp.trans (K.Kp.of_below hb (P.fp C.L)) (fun i hi => .inl hi), h.sub, h.bc, h.bd⟩
theorem CAct.from_later {P' : Loc} {w0 : World} (hb : Below w0.heap.size w0 w) (hP : ∀ i ∈ P.fp C.L, i < w0.heap.size) (h : CAct w w' P P' C S' C') : CAct w0 w' P P' C S' C' :=
  ⟨h.rc, (K.Kp.of_below hb (P.fp C.L)).trans h.kp (fun i hi => .inl hi), fun i hi => (h.sub i hi).imp id (fun hh => Nat.le_trans hb.size hh), h.bc, h.bd⟩
/-- a call on the disk -/
theorem RC.disk (h : RC w P S C) {ms' ml' : Nat} {qv' fv' : Value} (hn : S'.n = S.n) (ha : K.DAct w w' 0 P.bd P.ms P.ml ms' ml' P.qv P.fv qv' fv' S') :
    CAct w w' P { P with ms := ms', ml := ml', qv := qv', fv := fv' } C S' C := by
  have hk : ∀ i ∈ P.ofp ++ P.cfp C.L, w'.heap[i]? = w.heap[i]? := fun i hi => ha.kp.block i (h.lt i (by simp only [Loc.fp, List.mem_append] at hi ⊢; exact .inr hi)) (fun hd => by
    rcases List.mem_append.1 hi with hi | hi
    · exact h.d1 i hd hi
    · exact h.d2 i hd hi)
  have hc : ∀ i ∈ P.cfp C.L, w'.heap[i]? = w.heap[i]? := fun i hi => hk i (List.mem_append_right _ hi)
  obtain ⟨D, hm, ho⟩ := h.lm
  have hsub : ∀ i ∈ K.fp P.bd ms' ml' qv' fv', i ∈ P.dfp ∨ w.heap.size ≤ i := ha.sub
  refine ⟨⟨(hc P.bc (by simp [Loc.cfp])).trans h.blk, ha.rk, h.ro.same (fun i hi => hk i (List.mem_append_left _ hi)), h.eq, h.nr.block (fun g hg => hc g (by simp [Loc.cfp, hg])), ⟨D, K.ownsMap_block hm (hc P.bl (by simp [Loc.cfp])), ho⟩, fun l hl => (hc l.blk (by simp only [Loc.cfp, List.mem_cons, List.mem_append, List.mem_map]; exact .inr (.inr (.inr ⟨l, hl, rfl⟩)))).trans (h.ln l hl), h.nd, fun l hl => ⟨by rw [hn]; exact (h.ok l hl).1, (h.ok l hl).2⟩, h.lim, h.nl, fun p hp => by rw [hn]; exact h.nok p hp, ?_, ?_, h.d3⟩, ?_, ?_, rfl, rfl⟩
  · intro i hi ho'
    rcases hsub i hi with hi | hi
    · exact h.d1 i hi ho'
    · have := h.ro.lt i ho'; omega
  · intro i hi hc'
    rcases hsub i hi with hi | hi
    · exact h.d2 i hi hc'
    · have := h.cl i hc'; omega
  · exact ha.kp.sub fun i hi => .inl (by simp only [Loc.fp, List.mem_append]; exact .inl hi)
  · intro i hi
    simp only [Loc.fp, List.mem_append] at hi
    rcases hi with hi | hi
    · exact (hsub i hi).imp (fun hh => by simp only [Loc.fp, List.mem_append]; exact .inl hh) id
    · exact .inl (by simp only [Loc.fp, List.mem_append]; exact .inr hi)
theorem kpI {w w' : World} {F : List Nat} (h : I.Kp w w' F) : K.Kp w w' F := ⟨h.os, h.tape, h.output, h.size, h.block⟩
/-- a call on the order, the lines as they are but for their order -/
theorem RC.order (h : RC w P S C) {E' : List I.Ent} (ha : I.Act w w' P.bo P.bm P.g P.E E') {L' : List Ln} (hp : L'.Perm C.L) (he : E'.map (·.key) = L'.map (fun l => (l.sec : Int))) :
    CAct w w' P { P with E := E' } C S { C with L := L' } := by
  have hk : ∀ i, i ∈ P.dfp ∨ i ∈ P.cfp C.L → w'.heap[i]? = w.heap[i]? := fun i hi => ha.kp.block i (h.lt i (by simp only [Loc.fp, List.mem_append]; rcases hi with hi | hi; exact .inl hi; exact .inr (.inr hi))) (fun ho => by
    rcases hi with hi | hi
    · exact h.d1 i hi ho
    · exact h.d3 i ho hi)
  have hc : ∀ i ∈ P.cfp C.L, w'.heap[i]? = w.heap[i]? := fun i hi => hk i (.inr hi)
  have hcf : ∀ i, i ∈ P.cfp L' ↔ i ∈ P.cfp C.L := fun i => by
    simp only [Loc.cfp, List.mem_cons, List.mem_append, (hp.map (·.blk)).mem_iff]
  obtain ⟨D, hm, ho⟩ := h.lm
  have hsub : ∀ i ∈ I.fp P.bo P.bm P.g E', i ∈ P.ofp ∨ w.heap.size ≤ i := ha.sub
  refine ⟨⟨(hc P.bc (by simp [Loc.cfp])).trans h.blk, h.rk.same (fun i hi => hk i (.inl hi)), ha.ro, he, h.nr.block (fun g hg => hc g (by simp [Loc.cfp, hg])), ⟨D, K.ownsMap_block hm (hc P.bl (by simp [Loc.cfp])), ?_⟩, fun l hl => ?_, (hp.map (·.blk)).nodup_iff.2 h.nd, fun l hl => h.ok l (hp.mem_iff.1 hl), by rw [show ({ C with L := L' } : Ch).L.length = C.L.length from hp.length_eq]; exact h.lim, h.nl, h.nok, ?_, ?_, ?_⟩, ?_, ?_, rfl, rfl⟩
  · refine ho.same ?_ ?_ ?_
    · intro e hm'
      obtain ⟨l, hl, rfl⟩ := List.mem_map.1 hm'
      exact ⟨_, List.mem_map.2 ⟨l, hp.mem_iff.1 hl, rfl⟩, rfl, rfl⟩
    · intro e hm'
      obtain ⟨l, hl, rfl⟩ := List.mem_map.1 hm'
      exact ⟨_, List.mem_map.2 ⟨l, hp.mem_iff.2 hl, rfl⟩, rfl⟩
    · rw [List.length_map, List.length_map]; exact hp.length_eq
  · have hl' := hp.mem_iff.1 hl
    exact (hc l.blk (by simp only [Loc.cfp, List.mem_cons, List.mem_append, List.mem_map]; exact .inr (.inr (.inr ⟨l, hl', rfl⟩)))).trans (h.ln l hl')
  · intro i hi ho'
    rcases hsub i ho' with ho' | ho'
    · exact h.d1 i hi ho'
    · have := h.rk.lt i hi; omega
  · exact fun i hi hc' => h.d2 i hi ((hcf i).1 hc')
  · intro i hi hc'
    rcases hsub i hi with hi | hi
    · exact h.d3 i hi ((hcf i).1 hc')
    · have := h.cl i ((hcf i).1 hc'); omega
  · exact (kpI ha.kp).sub fun i hi => .inl (by simp only [Loc.fp, List.mem_append]; exact .inr (.inl hi))
  · intro i hi
    simp only [Loc.fp, List.mem_append] at hi
    rcases hi with hi | hi | hi
    · exact .inl (by simp only [Loc.fp, List.mem_append]; exact .inl hi)
    · exact (hsub i hi).imp (fun hh => by simp only [Loc.fp, List.mem_append]; exact .inr (.inl hh)) id
    · exact .inl (by simp only [Loc.fp, List.mem_append]; exact .inr (.inr ((hcf i).1 hi)))
/-- a cell of the cache's own block -/
theorem RC.c (h : RC w P S C) (j : Nat) : w.cell? ⟨P.bc, j, none⟩ = (ccells P C)[j]? := K.cell_of h.blk
theorem RC.fz (h : RC w P S C) (j : Nat) : w.frozen? ⟨P.bc, j, none⟩ = false := K.frozen_of h.blk
/-- the counts are changed -/
theorem RC.stat (h : RC w P S C) (j : Nat) (v : Value) (st : Cs) (hv : (ccells P C).setIfInBounds j v = ccells P { C with st := st }) :
    CAct w (w.setCell ⟨P.bc, j, none⟩ v) P P C S { C with st := st } := by
  have ho : ∀ i, i ≠ P.bc → (w.setCell ⟨P.bc, j, none⟩ v).heap[i]? = w.heap[i]? := fun i hi => Below.heap_setCell _ _ _ _ hi
  obtain ⟨D, hm, hmo⟩ := h.lm
  have ha := h.apart
  have hd : ∀ i ∈ P.dfp, i ≠ P.bc := fun i hi e => h.d2 i hi (by rw [e]; simp [Loc.cfp])
  have hoo : ∀ i ∈ P.ofp, i ≠ P.bc := fun i hi e => h.d3 i hi (by rw [e]; simp [Loc.cfp])
  refine ⟨⟨?_, h.rk.same (fun i hi => ho i (hd i hi)), h.ro.same (fun i hi => ho i (hoo i hi)), h.eq, h.nr.block (fun g hg => ho g (fun e => ha.2.1 (by rw [← e]; exact hg))), ⟨D, K.ownsMap_block hm (ho _ (Ne.symm ha.1)), hmo⟩, fun l hl => (ho _ (ha.2.2.2 l hl).1).trans (h.ln l hl), h.nd, h.ok, h.lim, h.nl, h.nok, h.d1, h.d2, h.d3⟩, ?_, fun i hi => .inl hi, rfl, rfl⟩
  · rw [← hv]; exact K.blk_set h.blk j v
  · exact (K.Kp.refl w _).set (.inl (by simp [Loc.fp, Loc.cfp])) j v
/-- a line in the midst -/
theorem RC.line (h : RC w P S C) {L1 L2 : List Ln} {l l' : Ln} (hL : C.L = L1 ++ l :: L2) (hw : w'.heap[l.blk]? = some (.cells (lcells l') TLn (0, 0))) (hb : l'.blk = l.blk) (hs : l'.sec = l.sec) (hok : K.OkB l'.dat) (hk : K.Kp w w' [l.blk]) :
    CAct w w' P P C S { C with L := L1 ++ l' :: L2 } := by
  have hm0 : l ∈ C.L := by rw [hL]; simp
  have hbl : l.blk ∈ P.cfp C.L := by simp only [Loc.cfp, List.mem_cons, List.mem_append, List.mem_map]; exact .inr (.inr (.inr ⟨l, hm0, rfl⟩))
  have ho : ∀ i, i < w.heap.size → i ≠ l.blk → w'.heap[i]? = w.heap[i]? := fun i hl hi => hk.block i hl (by simpa using hi)
  obtain ⟨D, hm, hmo⟩ := h.lm
  have ha := h.apart
  have eb : (L1 ++ l' :: L2).map (·.blk) = C.L.map (·.blk) := by rw [hL]; simp [hb]
  have es : (L1 ++ l' :: L2).map (fun l => (l.sec : Int)) = C.L.map (fun l => (l.sec : Int)) := by rw [hL]; simp [hs]
  have ee : (L1 ++ l' :: L2).map Ln.ent = C.L.map Ln.ent := by rw [hL]; simp [Ln.ent, hb, hs]
  have ecf : P.cfp (L1 ++ l' :: L2) = P.cfp C.L := by unfold Loc.cfp; rw [eb]
  have efp : P.fp (L1 ++ l' :: L2) = P.fp C.L := by unfold Loc.fp; rw [ecf]
  have hnd := h.nd
  rw [hL] at hnd
  refine ⟨⟨(ho _ (h.cl _ (by simp [Loc.cfp])) (Ne.symm (ha.2.2.2 l hm0).1)).trans h.blk, h.rk.same (fun i hi => ho i (h.rk.lt i hi) (fun e => h.d2 i hi (by rw [e]; exact hbl))), h.ro.same (fun i hi => ho i (h.ro.lt i hi) (fun e => h.d3 i hi (by rw [e]; exact hbl))), h.eq.trans es.symm, h.nr.block (fun g hg => ho g (h.nr.lt g hg).1 (fun e => (ha.2.2.2 l hm0).2.2 (by rw [← e]; exact hg))), ⟨D, K.ownsMap_block hm (ho _ hm.lt (Ne.symm (ha.2.2.2 l hm0).2.1)), by rw [show ({ C with L := L1 ++ l' :: L2 } : Ch).L.map Ln.ent = C.L.map Ln.ent from ee]; exact hmo⟩, ?_, by rw [show ({ C with L := L1 ++ l' :: L2 } : Ch).L.map (·.blk) = C.L.map (·.blk) from eb]; exact h.nd, ?_, ?_, h.nl, h.nok, h.d1, ?_, ?_⟩, hk.sub (fun i hi => .inl (by simp at hi; rw [hi]; simp only [Loc.fp, List.mem_append]; exact .inr (.inr hbl))), fun i hi => .inl (by rw [← efp]; exact hi), rfl, rfl⟩
  · intro x hx
    have hx' : x = l' ∨ x ∈ L1 ++ L2 := by
      simp only [List.mem_append, List.mem_cons] at hx ⊢
      rcases hx with hx | hx | hx
      · exact .inr (.inl hx)
      · exact .inl hx
      · exact .inr (.inr hx)
    rcases hx' with rfl | hx'
    · rw [hb]; exact hw
    · have hxm : x ∈ C.L := by rw [hL]; simp only [List.mem_append, List.mem_cons] at hx' ⊢; rcases hx' with h | h; exact .inl h; exact .inr (.inr h)
      refine (ho _ (h.cl _ (by simp only [Loc.cfp, List.mem_cons, List.mem_append, List.mem_map]; exact .inr (.inr (.inr ⟨x, hxm, rfl⟩)))) ?_).trans (h.ln x hxm)
      intro e
      simp only [List.map_append, List.map_cons, List.nodup_append, List.nodup_cons, List.mem_map, List.mem_cons] at hnd
      rcases List.mem_append.1 hx' with hx1 | hx2
      · exact hnd.2.2 x.blk ⟨x, hx1, rfl⟩ l.blk (.inl rfl) e
      · exact hnd.2.1.1 ⟨x, hx2, e⟩
  · intro x hx
    simp only [List.mem_append, List.mem_cons] at hx
    rcases hx with hx | rfl | hx
    · exact h.ok x (by rw [hL]; simp [hx])
    · exact ⟨by rw [hs]; exact (h.ok l hm0).1, hok⟩
    · exact h.ok x (by rw [hL]; simp [hx])
  · have : (L1 ++ l' :: L2).length = C.L.length := by rw [hL]; simp
    simp only [this]; exact h.lim
  · intro i hi hc; rw [show P.cfp (L1 ++ l' :: L2) = P.cfp C.L from ecf] at hc; exact h.d2 i hi hc
  · intro i hi hc; rw [show P.cfp (L1 ++ l' :: L2) = P.cfp C.L from ecf] at hc; exact h.d3 i hi hc
end
end Go.Proofs.YtlacligofhinmaaGreat.C

namespace Go.Proofs.YtlacligofhinmaaGreat.C
open Go.RowKit Go.Maps Go.Proofs.YtlacligofhinmaaGreat
attribute [local go_sem] Oper.semAt_some
set_option linter.unusedVariables false
set_option linter.unusedSimpArgs false
set_option maxRecDepth 100000

theorem zeroLp (w : World) : (zeroValue TLp).run Tryz.prog w = .ok (.pointer none) w := by kernel_rfl
/-- the line of a sector -/
def lineAt : List Ln → Int → Option Ln
  | [], _ => none
  | l :: L, k => if (l.sec : Int) = k then some l else lineAt L k
def linePtr : Option Ln → Value
  | none => .pointer none
  | some l => .pointer (some ⟨l.blk, 0, none⟩)
theorem lineAt_mem {L : List Ln} {k : Int} {l : Ln} (h : lineAt L k = some l) : l ∈ L ∧ (l.sec : Int) = k := by
  induction L with
  | nil => simp [lineAt] at h
  | cons x L ih =>
    unfold lineAt at h
    split at h
    · rename_i e; simp at h; subst h; exact ⟨by simp, e⟩
    · exact ⟨List.mem_cons_of_mem _ (ih h).1, (ih h).2⟩
theorem lineAt_none {L : List Ln} {k : Int} (h : lineAt L k = none) : ∀ l ∈ L, (l.sec : Int) ≠ k := by
  induction L with
  | nil => intro l hl; cases hl
  | cons x L ih =>
    unfold lineAt at h
    split at h
    · simp at h
    · rename_i e
      intro l hl
      rcases List.mem_cons.1 hl with rfl | hl
      · exact e
      · exact ih h l hl
theorem look_line (L : List Ln) (k : Int) : I.look (L.map Ln.ent) k = linePtr (lineAt L k) := by
  induction L with
  | nil => rfl
  | cons x L ih =>
    simp only [List.map_cons, I.look, lineAt]
    by_cases e : (x.sec : Int) = k
    · rw [if_pos (show x.ent.key = k from e), if_pos e]; rfl
    · rw [if_neg (show ¬ x.ent.key = k from e), if_neg e]; exact ih
/-- the line in the midst of the others -/
theorem lineAt_split {L : List Ln} {k : Int} {l : Ln} (h : lineAt L k = some l) : ∃ L1 L2, L = L1 ++ l :: L2 ∧ (l.sec : Int) = k ∧ ∀ x ∈ L1, (x.sec : Int) ≠ k := by
  induction L with
  | nil => simp [lineAt] at h
  | cons x L ih =>
    unfold lineAt at h
    split at h
    · rename_i e; simp at h; subst h; exact ⟨[], L, rfl, e, fun x hx => by cases hx⟩
    · rename_i e
      obtain ⟨L1, L2, rfl, h1, h2⟩ := ih h
      exact ⟨x :: L1, L2, rfl, h1, fun y hy => by rcases List.mem_cons.1 hy with rfl | hy; exact e; exact h2 y hy⟩
section
variable {w w' : World} {P : Loc} {S S' : K.Dk} {C C' : Ch}
theorem RC.sd (h : RC w P S C) : (C.L.map (fun l => (l.sec : Int))).Nodup := by rw [← h.eq]; exact h.ro.kd
theorem RC.sdE (h : RC w P S C) : ((C.L.map Ln.ent).map (·.key)).Nodup := by rw [List.map_map]; exact h.sd
theorem RC.wf (h : RC w P S C) {l : Ln} (hl : l ∈ C.L) : I.wfK (l.sec : Int) := by
  have h1 := (h.ok l hl).1
  have h2 := h.rk.n1
  exact K.wfI l.sec (by omega)
theorem RC.look (h : RC w P S C) {k : Int} (hk : I.wfK k) : (Instr.lookup TLm (.map (some P.bl)) (.int .i64 k) false).run Tryz.prog w = .ok (linePtr (lineAt C.L k)) w := by
  rw [← look_line]
  obtain ⟨D, hm, ho⟩ := h.lm
  obtain ⟨v, ps, hr, hv⟩ := hm.lookup I.keyed Tryz.underlying107 (zeroLp w) (zd := .nil) (zp := []) rfl (I.keyAt hk)
  rw [hr]
  congr 1
  by_cases hin : ∃ e ∈ C.L.map Ln.ent, e.key = k
  · obtain ⟨e, he, rfl⟩ := hin
    rw [ho.at_ e he] at hv
    rw [I.look_mem he h.sdE]
    exact I.ptrE_some hv
  · have hno : ∀ e ∈ C.L.map Ln.ent, e.key ≠ k := fun e he hk => hin ⟨e, he, hk⟩
    rw [atKey_of_not_has (ho.no k hno)] at hv
    rw [I.look_no hno]
    exact I.ptrE_nil hv
theorem RC.mapLen (h : RC w P S C) (ty : TypeId) : (Builtin.len_ #[TLm] ty #[.map (some P.bl)]).run Tryz.prog w = .ok (.int .i64 C.L.length) w := by
  obtain ⟨D, hm, ho⟩ := h.lm
  rw [hm.len Tryz.underlying107 ty, ho.size, List.length_map]
theorem neq_dp (w : World) (a : Addr) : (binOp .neq 32 (.pointer (some a)) (.pointer none)).run Tryz.prog w = .ok (.bool true) w := by rfl
theorem eql_lp_none (w : World) : (binOp .eql TLp (.pointer none) (.pointer none)).run Tryz.prog w = .ok (.bool true) w := by rfl
theorem eql_lp_some (w : World) (a : Addr) : (binOp .eql TLp (.pointer (some a)) (.pointer none)).run Tryz.prog w = .ok (.bool false) w := by rfl
theorem neq_lp_none (w : World) : (binOp .neq TLp (.pointer none) (.pointer none)).run Tryz.prog w = .ok (.bool false) w := by rfl
theorem neq_lp_some (w : World) (a : Addr) : (binOp .neq TLp (.pointer (some a)) (.pointer none)).run Tryz.prog w = .ok (.bool true) w := by rfl
theorem usable_c (h : RC w P S C) : Calls Tryz.prog 63 #[.pointer (some ⟨P.bc, 0, none⟩)] w fun r w' => r = .returned (.bool true) ∧ w' = w := by
  have c0 : w.cell? ⟨P.bc, 0, none⟩ = some (.pointer (some ⟨P.bd, 0, none⟩)) := h.c 0
  clear h
  go_enter Tryz.func63, Tryz.ntmps63
  go_wp2
  go_ret
  exact ⟨rfl, rfl⟩
/-- nothing but the disk's lock is touched -/
theorem RC.dsame (h : RC w P S C) (ha : K.DAct w w' 0 P.bd P.ms P.ml P.ms P.ml P.qv P.fv P.qv P.fv S) : CAct w w' P P C S C := h.disk rfl ha
theorem has_c (h : RC w P S C) (s : Int) : Calls Tryz.prog 70 #[.pointer (some ⟨P.bc, 0, none⟩), .int .i64 s] w fun r w' => r = .returned (.bool (K.inD S.n s)) ∧ CAct w w' P P C S C := by
  have c0 : w.cell? ⟨P.bc, 0, none⟩ = some (.pointer (some ⟨P.bd, 0, none⟩)) := h.c 0
  have hs := K.sectors_any h.rk
  have H : Hid (RC w P S C) := h
  clear h
  by_cases h0 : 0 ≤ s
  · have h0' : decide (s ≥ 0) = true := decide_eq_true h0
    go_enter Tryz.func70, Tryz.ntmps70
    go_wp2_with (go_at_call 56; refine hs.mono ?_; rintro e w9 ⟨rfl, ha⟩)
    go_ret
    refine ⟨?_, H.out.dsame ha⟩
    simp [K.inD, h0]
  · have h0' : decide (s ≥ 0) = false := decide_eq_false h0
    go_enter Tryz.func70, Tryz.ntmps70
    go_wp2_with (go_at_call 56; refine hs.mono ?_; rintro e w9 ⟨rfl, ha⟩)
    go_ret
    refine ⟨?_, CAct.refl H.out⟩
    have : K.inD S.n s = false := by unfold K.inD; simp; omega
    rw [this]; rfl
theorem refusal_c (h : RC w P S C) (s : Int) : Calls Tryz.prog 41 #[.pointer (some ⟨P.bc, 0, none⟩), .int .i64 s] w fun r w' => r = .returned (.int .i64 (if K.inD S.n s = true then 0 else 31)) ∧ CAct w w' P P C S C := by
  have hu := usable_c h
  have hh := has_c h s
  clear h
  generalize K.inD S.n s = b at *
  go_enter Tryz.func41, Tryz.ntmps41
  cases b
  · go_wp2_with (first | (go_at_call 63; refine hu.mono ?_; rintro e w9 ⟨rfl, hw9⟩; rw [hw9]; clear hw9) | (go_at_call 70; refine hh.mono ?_; rintro e w8 ⟨rfl, ha⟩))
    go_ret
    exact ⟨rfl, ha⟩
  · go_wp2_with (first | (go_at_call 63; refine hu.mono ?_; rintro e w9 ⟨rfl, hw9⟩; rw [hw9]; clear hw9) | (go_at_call 70; refine hh.mono ?_; rintro e w8 ⟨rfl, ha⟩))
    go_ret
    exact ⟨rfl, ha⟩
end
/-- is a sector a note's? -/
def isN (notes : List (Int × Int)) (s : Int) : Bool := notes.any fun p => decide (p.1 ≤ s) && decide (s - p.1 < p.2)
theorem spcells_get (l : List (Int × Int)) (k : Nat) (p : Int × Int) (h : l[k]? = some p) : (spcells l)[k * 2]? = some (.int .i64 p.1) ∧ (spcells l)[k * 2 + 1]? = some (.int .i64 p.2) := by
  induction l generalizing k with
  | nil => simp at h
  | cons a t ih =>
    cases k with
    | zero => simp at h; subst h; simp [spcells, spcell]
    | succ k =>
      have := ih k (by simpa using h)
      simp only [spcells, spcell, List.flatMap_cons] at this ⊢
      constructor
      · rw [show (k + 1) * 2 = k * 2 + 2 by omega]; simpa using this.1
      · rw [show (k + 1) * 2 + 1 = k * 2 + 1 + 2 by omega]; simpa using this.2
abbrev I64 (z : Int) : Prop := -9223372036854775808 ≤ z ∧ z ≤ 9223372036854775807
/-- isNote's question of one span -/
theorem note1 {W : World} {b : Nat} {s : Int} (hc : W.cell? ⟨b, 0, none⟩ = some (.int .i64 s)) (p : Int × Int) (h0 : 0 ≤ s ∧ s ≤ 65536) (hp : 0 ≤ p.1 ∧ p.1 ≤ 65536) :
    Calls Tryz.prog 128 #[.agg #[.int .i64 p.1, .int .i64 p.2], .pointer (some ⟨b, 0, none⟩)] W fun r w' => r = .returned (.bool (decide (p.1 ≤ s) && decide (s - p.1 < p.2))) ∧ Below W.heap.size W w' := by
  have hc' : (W.alloc (.cells #[.int .i64 p.1, .int .i64 p.2] TSp)).cell? ⟨b, 0, none⟩ = some (.int .i64 s) := cell_later ((Below.refl _ W).alloc (Nat.le_refl _) _) hc
  have hw : IntKind.i64.wrap (s - p.1) = s - p.1 := by rw [IntKind.wrap_i64]; omega
  clear hc
  by_cases h1 : p.1 ≤ s
  · have h1' : decide (s ≥ p.1) = true := decide_eq_true h1
    go_enter Tryz.func128, Tryz.ntmps128
    go_wp2
    go_ret
    exact ⟨by simp [h1], (Below.refl _ W).alloc (Nat.le_refl _) _⟩
  · have h1' : decide (s ≥ p.1) = false := decide_eq_false h1
    go_enter Tryz.func128, Tryz.ntmps128
    go_wp2
    go_ret
    exact ⟨by simp [h1], (Below.refl _ W).alloc (Nat.le_refl _) _⟩
end Go.Proofs.YtlacligofhinmaaGreat.C

namespace Go.Proofs.YtlacligofhinmaaGreat.C
open Go.RowKit Go.Maps Go.Proofs.YtlacligofhinmaaGreat
attribute [local go_sem] Oper.semAt_some
set_option linter.unusedVariables false
set_option linter.unusedSimpArgs false
set_option maxRecDepth 100000

theorem sp_form {w : World} {B n : Nat} {v : Value} {xs : List Value} (h : w.ownsRow B TSp 2 v n xs) : ∃ ao cap, v = .slice ao n cap ∧ (0 < n → ∃ g, ao = some ⟨g, 0, none⟩ ∧ g < w.heap.size) := by
  rcases h.2 with ⟨rfl, h0⟩ | ⟨g, cap, cur, rfl, _, hg, _⟩
  · exact ⟨none, 0, by rw [h0], fun h => by omega⟩
  · exact ⟨_, cap, rfl, fun _ => ⟨g, rfl, (Array.getElem?_eq_some_iff.1 hg).1⟩⟩
theorem sp_cells {w : World} {B n g cap : Nat} {l : List (Int × Int)} (h : w.ownsRow B TSp 2 (.slice (some ⟨g, 0, none⟩) n cap) n (spcells l)) {k : Nat} {p : Int × Int} (hk : l[k]? = some p) : w.cell? ⟨g, k * 2, none⟩ = some (.int .i64 p.1) ∧ w.cell? ⟨g, k * 2 + 1, none⟩ = some (.int .i64 p.2) := by
  obtain ⟨h1, h2⟩ := spcells_get l k p hk
  have c1 := h.cells (g := g) rfl _ _ h1
  have c2 := h.cells (g := g) rfl _ _ h2
  rw [WideShapes.add_plain, Nat.zero_add] at c1 c2
  exact ⟨c1, c2⟩
theorem NR.form {w : World} {nv : Value} {nb : Option Nat} {notes : List (Int × Int)} (h : NR w nv nb notes) : ∃ ao cap, nv = .slice ao notes.length cap ∧ ∀ (k : Nat) (p : Int × Int), notes[k]? = some p → ∃ g, ao = some ⟨g, 0, none⟩ ∧ w.cell? ⟨g, k * 2, none⟩ = some (.int .i64 p.1) ∧ w.cell? ⟨g, k * 2 + 1, none⟩ = some (.int .i64 p.2) := by
  rcases h with ⟨rfl, _, ao, cap, rfl⟩ | ⟨_, h⟩
  · exact ⟨ao, cap, rfl, fun k p hk => by simp at hk⟩
  · obtain ⟨ao, cap, rfl, hao⟩ := sp_form h
    refine ⟨ao, cap, rfl, fun k p hk => ?_⟩
    obtain ⟨g, rfl, _⟩ := hao (by have := (List.getElem?_eq_some_iff.1 hk).1; omega)
    exact ⟨g, rfl, sp_cells h hk⟩
set_option maxHeartbeats 4000000 in
theorem index_c {w : World} {nv : Value} {b : Nat} {nb : Option Nat} {notes : List (Int × Int)} {s : Int} (hr : NR w nv nb notes) (hc : w.cell? ⟨b, 0, none⟩ = some (.int .i64 s)) (hl : notes.length ≤ 64) (h0 : 0 ≤ s ∧ s ≤ 65536) (hp : ∀ p ∈ notes, 0 ≤ p.1 ∧ p.1 ≤ 65536) :
    Calls Tryz.prog 162 #[nv, .func (.func 128) #[] #[.pointer (some ⟨b, 0, none⟩)]] w fun r w' => ∃ z : Int, r = .returned (.int .i64 z) ∧ decide (z ≥ 0) = isN notes s ∧ Below w.heap.size w w' := by
  obtain ⟨ao, cap, rfl, hao⟩ := hr.form
  obtain ⟨n, hn⟩ : ∃ n, n = notes.length := ⟨_, rfl⟩
  rw [← hn] at hr hl ⊢
  have HN : Hid (n = notes.length) := hn
  have HR : Hid (∀ (k : Nat) (p : Int × Int), notes[k]? = some p → ∃ g, ao = some ⟨g, 0, none⟩ ∧ w.cell? ⟨g, k * 2, none⟩ = some (.int .i64 p.1) ∧ w.cell? ⟨g, k * 2 + 1, none⟩ = some (.int .i64 p.2)) := hao
  have HC : Hid (w.cell? ⟨b, 0, none⟩ = some (.int .i64 s)) := hc
  have HP : Hid (∀ p ∈ notes, 0 ≤ p.1 ∧ p.1 ≤ 65536) := hp
  clear hr hc hp hn hao
  go_enter Tryz.func162, Tryz.ntmps162
  go_wp2
  go_loopw [8] (fun i wr => ∃ k : Nat, k ≤ n ∧ i = .int .i64 k ∧ Hid (Below w.heap.size w wr ∧ isN (notes.take k) s = false)) (fun i _ => n - (intOf i).toNat)
  case atStart => exact ⟨0, Nat.zero_le _, rfl, Below.refl _ _, by simp [isN]⟩
  case round =>
    obtain ⟨k, hk, rfl, HB⟩ := hrel
    by_cases hlt : k < n
    · have hkz : (k : Int) < (n : Int) := by omega
      obtain ⟨p, hq⟩ : ∃ p, notes[k]? = some p := ⟨_, List.getElem?_eq_getElem (by have := HN.out; omega)⟩
      obtain ⟨g, rfl, d0, d1⟩ := HR.out k p hq
      have e0 := cell_later HB.out.1 d0
      have e1 := cell_later HB.out.1 d1
      have HQ : Hid (notes[k]? = some p) := hq
      have N1 : Hid (Calls Tryz.prog 128 #[.agg #[.int .i64 p.1, .int .i64 p.2], .pointer (some ⟨b, 0, none⟩)] wr fun r w' => r = .returned (.bool (decide (p.1 ≤ s) && decide (s - p.1 < p.2))) ∧ Below wr.heap.size wr w') := note1 (cell_later HB.out.1 HC.out) p h0 (HP.out p (List.mem_of_getElem? hq))
      clear d0 d1 hq
      obtain ⟨v, hv⟩ : ∃ v, v = (decide (p.1 ≤ s) && decide (s - p.1 < p.2)) := ⟨_, rfl⟩
      rw [← hv] at N1
      have HV : Hid (v = (decide (p.1 ≤ s) && decide (s - p.1 < p.2))) := hv
      clear hv
      cases v
      · go_wp2_with (go_at_call 128; refine N1.out.mono ?_; rintro e w9 ⟨rfl, hb9⟩)
        go_roundw
        case rel =>
          refine ⟨k + 1, by omega, by go_num, HB.out.1.trans (hb9.mono HB.out.1.size), ?_⟩
          rw [List.take_add_one, HQ.out]
          have h1 := HB.out.2
          unfold isN at h1 ⊢
          rw [List.any_append, h1]
          simpa using HV.out.symm
        case measure => simp [intOf]; omega
      · go_wp2_with (go_at_call 128; refine N1.out.mono ?_; rintro e w9 ⟨rfl, hb9⟩)
        go_ret
        refine ⟨k, rfl, ?_, HB.out.1.trans (hb9.mono HB.out.1.size)⟩
        rw [decide_eq_true (by omega)]
        symm
        unfold isN
        rw [List.any_eq_true]
        exact ⟨p, List.mem_of_getElem? HQ.out, HV.out.symm⟩
    · have hkz : ¬ (k : Int) < (n : Int) := by omega
      go_wp2
      go_ret
      refine ⟨-1, rfl, ?_, HB.out.1⟩
      have h1 := HB.out.2
      rw [List.take_of_length_le (by have := HN.out; omega)] at h1
      rw [h1]; rfl
section
variable {w w' : World} {P : Loc} {S S' : K.Dk} {C C' : Ch}
theorem isNote_c (h : RC w P S C) {s : Int} (h0 : 0 ≤ s ∧ s ≤ 65536) : Calls Tryz.prog 99 #[.pointer (some ⟨P.bc, 0, none⟩), .int .i64 s] w fun r w' => r = .returned (.bool (isN C.notes s)) ∧ Below w.heap.size w w' := by
  obtain ⟨W0, hW0⟩ : ∃ W0, W0 = w.alloc (.cells #[.int .i64 s] TIn) := ⟨_, rfl⟩
  have hB0 : Below w.heap.size w W0 := by rw [hW0]; exact (Below.refl _ w).alloc (Nat.le_refl _) _
  have h' := h.later hB0
  have c2 : W0.cell? ⟨P.bc, 2, none⟩ = some P.nv := h'.c 2
  have cb : W0.cell? ⟨w.heap.size, 0, none⟩ = some (.int .i64 s) := by rw [hW0]; simp
  have hmf : ∀ (fn : Fn) (first cap : Array Value) (w : World), (Instr.makeFunc fn first cap).run Tryz.prog w = .ok (.func fn first cap) w := fun _ _ _ _ => rfl
  have hn1 := h.rk.n1
  have HI : Hid (Calls Tryz.prog 162 #[P.nv, .func (.func 128) #[] #[.pointer (some ⟨w.heap.size, 0, none⟩)]] W0 fun r w' => ∃ z : Int, r = .returned (.int .i64 z) ∧ decide (z ≥ 0) = isN C.notes s ∧ Below w.heap.size w w') := by
    refine (index_c h'.nr cb h.nl h0 (fun p hp => by have := h.nok p hp; omega)).mono ?_
    rintro r w' ⟨z, rfl, hz, hb⟩
    exact ⟨z, rfl, hz, hB0.trans (hb.mono hB0.size)⟩
  have HC : Hid (Calls Tryz.prog 127 #[P.nv, .func (.func 128) #[] #[.pointer (some ⟨w.heap.size, 0, none⟩)]] W0 fun r w' => r = .returned (.bool (isN C.notes s)) ∧ Below w.heap.size w w') := by
    clear h h' hB0 c2 cb hW0
    go_enter Tryz.func127, Tryz.ntmps127
    go_wp2_with (go_at_call 162; refine HI.out.mono ?_; rintro e w9 ⟨z, rfl, hz, hb⟩)
    go_ret
    exact ⟨by rw [← hz]; rfl, hb⟩
  subst hW0
  clear h h' hB0 cb HI
  go_enter Tryz.func99, Tryz.ntmps99
  go_wp2_with (go_at_call 127; refine HC.out.mono ?_; rintro e w9 ⟨rfl, hb⟩)
  go_ret
  exact ⟨rfl, hb⟩
end
end Go.Proofs.YtlacligofhinmaaGreat.C

namespace Go.Proofs.YtlacligofhinmaaGreat.C
open Go.RowKit Go.Maps Go.Proofs.YtlacligofhinmaaGreat
attribute [local go_sem] Oper.semAt_some
set_option linter.unusedVariables false
set_option linter.unusedSimpArgs false
set_option maxRecDepth 100000

/-- the lines without a sector's -/
def dropL (L : List Ln) (s : Int) : List Ln := L.filter fun x => decide ((x.sec : Int) ≠ s)
theorem dropL_split {L1 L2 : List Ln} {l : Ln} (hd : ((L1 ++ l :: L2).map (fun l => (l.sec : Int))).Nodup) : dropL (L1 ++ l :: L2) l.sec = L1 ++ L2 := by
  simp only [List.map_append, List.map_cons, List.nodup_append, List.nodup_cons, List.mem_map, List.mem_cons] at hd
  unfold dropL
  rw [List.filter_append, List.filter_cons]
  have e1 : L1.filter (fun x => decide ((x.sec : Int) ≠ l.sec)) = L1 := List.filter_eq_self.2 fun x hx => by
    simpa using fun e => hd.2.2 x.sec ⟨x, hx, rfl⟩ l.sec (.inl rfl) (by omega)
  have e2 : L2.filter (fun x => decide ((x.sec : Int) ≠ l.sec)) = L2 := List.filter_eq_self.2 fun x hx => by
    simpa using fun e => hd.2.1.1 ⟨x, hx, by omega⟩
  rw [e1, e2]; simp
def missC (C : Ch) : Ch := { C with st := { C.st with misses := K.inc C.st.misses } }
def hitC (C : Ch) : Ch := { C with st := { C.st with hits := K.inc C.st.hits } }
def useC (C : Ch) (s : Int) : Ch := match lineAt C.L s with
  | none => missC C
  | some l => { hitC C with L := dropL C.L s ++ [l] }
section
variable {w w' : World} {P : Loc} {S S' : K.Dk} {C C' : Ch}
/-- the order's entries follow the lines -/
theorem RC.split (h : RC w P S C) {L1 L2 : List Ln} {l : Ln} (hL : C.L = L1 ++ l :: L2) : ∃ E1 e E2, P.E = E1 ++ e :: E2 ∧ e.key = (l.sec : Int) ∧ E1.map (·.key) = L1.map (fun l => (l.sec : Int)) ∧ E2.map (·.key) = L2.map (fun l => (l.sec : Int)) := by
  have he := h.eq
  rw [hL, List.map_append, List.map_cons] at he
  obtain ⟨E1, E3, e1, e2, e3⟩ := List.map_eq_append_iff.1 he
  obtain ⟨e, E2, rfl, e4, e5⟩ := List.map_eq_cons_iff.1 e3
  exact ⟨E1, e, E2, e1, e4, e2, e5⟩
theorem use_c (h : RC w P S C) {s : Int} (hs : I.wfK s) : Calls Tryz.prog 42 #[.pointer (some ⟨P.bc, 0, none⟩), .int .i64 s] w fun r w' => r = .returned (linePtr (lineAt C.L s)) ∧ ∃ P', CAct w w' P P' C S (useC C s) := by
  have c3 : w.cell? ⟨P.bc, 3, none⟩ = some (.map (some P.bl)) := h.c 3
  have hlk := h.look hs
  unfold useC
  cases hl : lineAt C.L s with
  | none =>
    rw [hl] at hlk
    have c6 : w.cell? ⟨P.bc, 6, none⟩ = some (.int .u64 C.st.misses) := h.c 6
    have f6 := h.fz 6
    have ha := h.stat 6 (.int .u64 (K.inc C.st.misses)) { C.st with misses := K.inc C.st.misses } rfl
    have HA : Hid (CAct w (w.setCell ⟨P.bc, 6, none⟩ (.int .u64 (K.inc C.st.misses))) P P C S (missC C)) := ha
    simp only [linePtr] at hlk ⊢
    have e1 := eql_lp_none
    clear h ha
    go_enter Tryz.func42, Tryz.ntmps42
    go_wp2
    go_ret
    exact ⟨rfl, P, HA.out⟩
  | some l =>
    rw [hl] at hlk
    obtain ⟨L1, L2, hL, hls, _⟩ := lineAt_split hl
    obtain ⟨E1, e, E2, hE, hek, h1, h2⟩ := h.split hL
    have c5 : w.cell? ⟨P.bc, 5, none⟩ = some (.int .u64 C.st.hits) := h.c 5
    have f5 := h.fz 5
    have ha := h.stat 5 (.int .u64 (K.inc C.st.hits)) { C.st with hits := K.inc C.st.hits } rfl
    have c4 : (w.setCell ⟨P.bc, 5, none⟩ (.int .u64 (IntKind.u64.wrap (C.st.hits + 1)))).cell? ⟨P.bc, 4, none⟩ = some (.pointer (some ⟨P.bo, 0, none⟩)) := ha.rc.c 4
    have hd := h.sd
    have hro := ha.rc.ro
    rw [hE] at hro
    have ht := I.touch_any hro
    rw [hek, hls] at ht
    have HT : Hid (Calls Tryz.prog 93 #[.pointer (some ⟨P.bo, 0, none⟩), .int .i64 s] (w.setCell ⟨P.bc, 5, none⟩ (.int .u64 (IntKind.u64.wrap (C.st.hits + 1)))) fun r w' => r = .returned (.bool true) ∧ ∃ P', CAct w w' P P' C S { hitC C with L := dropL C.L s ++ [l] }) := by
      refine ht.mono ?_
      rintro r w' ⟨rfl, hact⟩
      rw [← hE] at hact
      have hdr : dropL C.L s = L1 ++ L2 := by rw [hL, ← hls]; exact dropL_split (by rw [← hL]; exact hd)
      have ho := ha.rc.order hact (L' := L1 ++ L2 ++ [l]) (by show (L1 ++ L2 ++ [l]).Perm C.L; rw [hL, List.append_assoc]; exact List.Perm.append_left L1 (List.perm_append_singleton l L2)) (by simp [h1, h2, hek])
      rw [hdr]
      exact ⟨rfl, _, ha.trans ho⟩
    have e2 := eql_lp_some
    simp only [linePtr] at hlk ⊢
    clear h ha hro ht hl hd hE hL
    go_enter Tryz.func42, Tryz.ntmps42
    go_wp2_with (go_at_call 93; refine HT.out.mono ?_; rintro e w9 ⟨rfl, ha⟩)
    go_ret
    exact ⟨rfl, ha⟩
end
def Zl : Array Value := Array.replicate 512 (.int .u8 0) ++ #[.bool false, .bool false]
theorem infoLn : (Tryz.prog.info? TLn).map (fun i => (i.zero, i.size, i.bytes)) = some (some (.agg Zl), 514, 514) := by kernel_rfl
theorem undLn : Tryz.prog.underlying TLn = some (.struct (Tryz.prog.fieldsOf TLn)) := by kernel_rfl
theorem plLn : (Tryz.prog.fieldsOf TLn).toList.mapM (fun f => (Tryz.prog.info? f.type).map fun i => (f.offset, i.size)) = some [(0, 512), (512, 1), (513, 1)] := by kernel_rfl
/-- a new line -/
def newLn (s b : Nat) (n : Bool) : Ln := ⟨s, b, K.z512, false, n⟩
theorem Zl_size : Zl.size = 514 := by simp [Zl]
theorem built_line (s b : Nat) (n : Bool) : Tryz.prog.built TLn [(2, .bool n)] = some (lcells (newLn s b n)) := by
  obtain ⟨i0, hi, hz0, hz1, hz2⟩ := info_parts infoLn
  obtain ⟨r1, e1, s1, g1⟩ := K.fill_one (place := fun x => ([(0, 512), (512, 1), (513, 1)] : List (Nat × Nat)).toArray[x]?) (cells := Zl) (i := 2) (off := 513) (v := .bool n) (rest := []) (by rfl) (by rw [Zl_size]; show 513 + 1 ≤ 514; omega)
  have hr : r1 = lcells (newLn s b n) := by
    apply Array.ext_getElem?
    intro k
    rw [g1 k]
    have hc : (Value.bool n).cells = #[.bool n] := rfl
    rw [hc]
    by_cases hk : 513 ≤ k ∧ k < 513 + 1
    · obtain rfl : k = 513 := by omega
      rw [if_pos (by simp)]
      rfl
    · rw [if_neg (by simpa using hk)]
      by_cases h1 : k < 512
      · have e1 : Zl[k]? = some (.int .u8 0) := by
          unfold Zl
          rw [Array.getElem?_append_left (by rw [Array.size_replicate]; exact h1), Array.getElem?_replicate, if_pos h1]
        have e2 : (lcells (newLn s b n))[k]? = some (.int .u8 0) := by
          unfold lcells
          rw [List.getElem?_toArray, List.getElem?_append_left (by rw [List.length_map]; show k < (List.replicate 512 0).length; rw [List.length_replicate]; exact h1), List.getElem?_map]
          show Option.map bv ((List.replicate 512 0)[k]?) = _
          rw [List.getElem?_replicate, if_pos h1]
          rfl
        rw [e1, e2]
      · by_cases h2 : k = 512
        · subst h2; rfl
        · rw [Array.getElem?_eq_none (by rw [Zl_size]; omega), Array.getElem?_eq_none (by rw [show (lcells (newLn s b n)).size = 514 from rfl]; omega)]
  unfold Program.built
  rw [hi, undLn]
  simp only [hz0, plLn]
  change Instr.fill _ Zl _ = _
  rw [e1, hr]
  rfl
theorem line_cells (s b : Nat) (n : Bool) : Tryz.zeroCells106.setIfInBounds 513 (.bool n) = lcells (newLn s b n) := by cases n <;> rfl
theorem run_line (w : World) (s b : Nat) (n : Bool) : (Instr.build TLn #[(2, .bool n)]).run Tryz.prog w = .ok (.agg (lcells (newLn s b n))) w := run_build w TLn _ _ (built_line s b n)
end Go.Proofs.YtlacligofhinmaaGreat.C

namespace Go.Proofs.YtlacligofhinmaaGreat.C
open Go.RowKit Go.Maps Go.Proofs.YtlacligofhinmaaGreat
attribute [local go_sem] Oper.semAt_some
set_option linter.unusedVariables false
set_option linter.unusedSimpArgs false
set_option maxRecDepth 100000

section
variable {w w' : World} {P : Loc} {S S' : K.Dk} {C C' : Ch}
/-- lines come or go -/
theorem RC.remap (h : RC w P S C) {w4 : World} {E' : List I.Ent} {L' : List Ln}
    (hd : ∀ i, i ∈ P.dfp ∨ (i ∈ P.cfp C.L ∧ i ≠ P.bl) → w4.heap[i]? = w.heap[i]?) (hk : K.Kp w w4 (P.fp C.L))
    (hm : ∃ n D, w4.ownsMap Tryz.prog TIn I.ptrE P.bl n D ∧ I.MapOk (L'.map Ln.ent) D) (ho : I.RO w4 P.bo P.bm P.g E') (he : E'.map (·.key) = L'.map (fun l => (l.sec : Int)))
    (hE : ∀ i ∈ I.fp P.bo P.bm P.g E', i ∈ P.ofp ∨ (w.heap.size ≤ i ∧ ∀ l ∈ L', l.blk ≠ i))
    (hL : ∀ l ∈ L', l ∈ C.L ∨ (w.heap.size ≤ l.blk ∧ w4.heap[l.blk]? = some (.cells (lcells l) TLn (0, 0)) ∧ l.sec < S.n ∧ K.OkB l.dat))
    (hnd : (L'.map (·.blk)).Nodup) (hlen : L'.length ≤ C.most) : CAct w w4 P { P with E := E' } C S { C with L := L' } := by
  have ha := h.apart
  have hc : ∀ i ∈ P.cfp C.L, i ≠ P.bl → w4.heap[i]? = w.heap[i]? := fun i hi hne => hd i (.inr ⟨hi, hne⟩)
  have hcf : ∀ i ∈ P.cfp L', i ∈ P.cfp C.L ∨ (w.heap.size ≤ i ∧ ∃ l ∈ L', l.blk = i) := fun i hi => by
    simp only [Loc.cfp, List.mem_cons, List.mem_append, List.mem_map] at hi ⊢
    rcases hi with hi | hi | hi | ⟨l, hl, rfl⟩
    · exact .inl (.inl hi)
    · exact .inl (.inr (.inl hi))
    · exact .inl (.inr (.inr (.inl hi)))
    · rcases hL l hl with h1 | h1
      · exact .inl (.inr (.inr (.inr ⟨l, h1, rfl⟩)))
      · exact .inr ⟨h1.1, l, hl, rfl⟩
  obtain ⟨n, D, hm1, hm2⟩ := hm
  refine ⟨⟨(hc P.bc (by simp [Loc.cfp]) ha.1).trans h.blk, h.rk.same (fun i hi => hd i (.inl hi)), ho, he, h.nr.block (fun g hg => hc g (by simp [Loc.cfp, hg]) (fun e => ha.2.2.1 (by rw [← e]; exact hg))), ⟨D, I.ownsMap_tight hm1, hm2⟩, fun l hl => ?_, hnd, fun l hl => ?_, ⟨hlen, h.lim.2⟩, h.nl, h.nok, ?_, ?_, ?_⟩, hk, ?_, rfl, rfl⟩
  · rcases hL l hl with h1 | h1
    · exact (hc l.blk (by simp only [Loc.cfp, List.mem_cons, List.mem_append, List.mem_map]; exact .inr (.inr (.inr ⟨l, h1, rfl⟩))) (ha.2.2.2 l h1).2.1).trans (h.ln l h1)
    · exact h1.2.1
  · rcases hL l hl with h1 | h1
    · exact h.ok l h1
    · exact h1.2.2
  · intro i hi ho'
    rcases hE i ho' with h1 | h1
    · exact h.d1 i hi h1
    · have := h.rk.lt i hi; omega
  · intro i hi hc'
    rcases hcf i hc' with h1 | h1
    · exact h.d2 i hi h1
    · have := h.rk.lt i hi; omega
  · intro i hi hc'
    rcases hE i hi with h1 | h1
    · rcases hcf i hc' with h2 | h2
      · exact h.d3 i h1 h2
      · have := h.ro.lt i h1; omega
    · rcases hcf i hc' with h2 | ⟨_, l, hl, h2⟩
      · have := h.cl i h2; omega
      · exact h1.2 l hl h2
  · intro i hi
    simp only [Loc.fp, List.mem_append] at hi ⊢
    rcases hi with hi | hi | hi
    · exact .inl (.inl hi)
    · exact (hE i hi).imp (fun h1 => .inr (.inl h1)) (fun h1 => h1.1)
    · exact (hcf i hi).imp (fun h1 => .inr (.inr h1)) (fun h1 => h1.1)
theorem RC.keyE (h : RC w P S C) {s : Int} (hno : lineAt C.L s = none) : ∀ e ∈ P.E, e.key ≠ s := fun e he => by
  have h1 : e.key ∈ C.L.map (fun l => (l.sec : Int)) := by rw [← h.eq]; exact List.mem_map.2 ⟨e, he, rfl⟩
  obtain ⟨l, hl, e1⟩ := List.mem_map.1 h1
  rw [← e1]
  exact lineAt_none hno l hl
theorem RC.lenE (h : RC w P S C) : P.E.length = C.L.length := by
  have := congrArg List.length h.eq
  simpa using this
set_option maxHeartbeats 2000000 in
theorem addLine_c (h : RC w P S C) {s : Nat} (hs : s < S.n) (hno : lineAt C.L s = none) (hl : C.L.length < C.most) :
    Calls Tryz.prog 46 #[.pointer (some ⟨P.bc, 0, none⟩), .int .i64 s] w fun r w' => ∃ b P', r = .returned (.pointer (some ⟨b, 0, none⟩)) ∧ CAct w w' P P' C S { C with L := C.L ++ [newLn s b (isN C.notes s)] } := by
  have hn1 := h.rk.n1
  have hnote := isNote_c h (s := (s : Int)) (by omega)
  have H : Hid (RC w P S C) := h
  have hkey : I.wfK (s : Int) := K.wfI s (by omega)
  have hlim := h.lim
  obtain ⟨D, hm, hmo⟩ := h.lm
  have hmz : Maps.size D = C.L.length := by rw [hmo.size, List.length_map]
  rw [hmz] at hm
  -- what the map is behind the note's question and the new line
  have HM : Hid (∀ W, Below w.heap.size w W → W.ownsMap Tryz.prog TIn I.ptrE P.bl C.L.length D ∧ W.cell? ⟨P.bc, 3, none⟩ = some (.map (some P.bl))) := fun W hb => ⟨K.ownsMap_block hm (hb.block _ hm.lt), (h.later hb).c 3⟩
  have HMO : Hid (I.MapOk (C.L.map Ln.ent) D) := hmo
  have HD : Hid (IsMap D ∧ Tidy D) := ⟨hm.isMap, hm.tidy I.keyed⟩
  have hml : C.L.length < maxLen := by unfold maxLen; omega
  have HNO : Hid (lineAt C.L s = none) := hno
  -- the order's Add
  have HADD : Hid (∀ W W3, Below w.heap.size w W → W.grownBy W3 (some P.bl) → W3.cell? ⟨P.bc, 4, none⟩ = some (.pointer (some ⟨P.bo, 0, none⟩)) ∧ Calls Tryz.prog 100 #[.pointer (some ⟨P.bo, 0, none⟩), .int .i64 s] W3 fun r w' => r = .returned (.bool true) ∧ ∃ p, I.Act W3 w' P.bo P.bm P.g P.E (P.E ++ [⟨(s : Int), 0, p⟩])) := fun W W3 hb hg => by
    have hW := h.later hb
    have ha := hW.apart
    have hne : ∀ i ∈ P.ofp, i ≠ P.bl := fun i hi e => h.d3 i hi (by rw [e]; simp [Loc.cfp])
    have hro : I.RO W3 P.bo P.bm P.g P.E := hW.ro.same fun i hi => hg.block i (hW.ro.lt i hi) (fun e => by cases e; exact hne _ hi rfl)
    have hbc : W3.heap[P.bc]? = some (.cells (ccells P C) TCa (0, 0)) := (hg.block P.bc (hW.cl _ (by simp [Loc.cfp])) (fun e => ha.1 (Option.some.inj e))).trans hW.blk
    exact ⟨(K.cell_of hbc).trans rfl, I.add_new hro hkey (h.keyE hno) (by rw [h.lenE]; exact hml)⟩
  clear h hm hmo hno
  go_enter Tryz.func46, Tryz.ntmps46
  go_wp2_with (first | (go_at_call 99; refine hnote.mono ?_; rintro e w1 ⟨rfl, hb1⟩; have HB1 : Hid (Below w.heap.size w w1) := hb1; have HB2 : Hid (Below w.heap.size w (w1.alloc (.cells (Tryz.zeroCells106.setIfInBounds 513 (.bool (isN C.notes s))) TLn))) := hb1.alloc hb1.size _; obtain ⟨hM1, c3⟩ := HM.out (w1.alloc (.cells (Tryz.zeroCells106.setIfInBounds 513 (.bool (isN C.notes s))) TLn)) HB2.out; have HM2 : Hid ((w1.alloc (.cells (Tryz.zeroCells106.setIfInBounds 513 (.bool (isN C.notes s))) TLn)).ownsMap Tryz.prog TIn I.ptrE P.bl C.L.length D) := hM1; clear hb1 hM1 HM) | (at_mapUpdate; refine wpList_mapUpdate_own _ rfl _ _ _ TLm rfl TIn TLp I.keyed Tryz.underlying107 _ P.bl C.L.length D rfl HM2.out hml _ _ (I.kl (s : Int)) rfl rfl (I.keyAt hkey) (.lit (.int .i64 w1.heap.size)) [] rfl ?_; intro w3 hown3 hgrow3; obtain ⟨c4, hadd⟩ := HADD.out (w1.alloc (.cells (Tryz.zeroCells106.setIfInBounds 513 (.bool (isN C.notes s))) TLn)) w3 HB2.out hgrow3) | (go_at_call 100; refine hadd.mono ?_; rintro e w4 ⟨rfl, p, hact⟩))
  go_ret
  refine ⟨w1.heap.size, { P with E := P.E ++ [⟨(s : Int), 0, p⟩] }, rfl, ?_⟩
  have h := H.out
  have HLN : Hid ((w1.alloc (.cells (Tryz.zeroCells106.setIfInBounds 513 (.bool (isN C.notes s))) TLn)).heap[w1.heap.size]? = some (.cells (lcells (newLn s w1.heap.size (isN C.notes s))) TLn (0, 0))) := by rw [← line_cells]; exact heap_alloc_new w1 _
  have HSZ : Hid ((w1.alloc (.cells (Tryz.zeroCells106.setIfInBounds 513 (.bool (isN C.notes s))) TLn)).heap.size = w1.heap.size + 1) := World.size_alloc _ _
  obtain ⟨w2, hw2⟩ : ∃ w2, w2 = w1.alloc (.cells (Tryz.zeroCells106.setIfInBounds 513 (.bool (isN C.notes s))) TLn) := ⟨_, rfl⟩
  rw [← hw2] at HLN HSZ HB2 hgrow3
  clear hw2
  have hW := h.later HB2.out
  have ha := h.apart
  have s1 := HB1.out.size
  have s2 := HSZ.out
  have hofp : ∀ i ∈ P.ofp, i < w.heap.size := h.ro.lt
  have hbl : P.bl < w.heap.size := h.cl _ (by simp [Loc.cfp])
  have hob : ∀ i ∈ P.ofp, i ≠ P.bl := fun i hi e => h.d3 i hi (by rw [e]; simp [Loc.cfp])
  have hst : ∀ i, i < w2.heap.size → i ∉ P.ofp → i ≠ P.bl → w4.heap[i]? = w2.heap[i]? := fun i hi h1 h2 => (hact.kp.block i (Nat.lt_of_lt_of_le hi hgrow3.size) h1).trans (hgrow3.block i hi (fun e => by cases e; exact h2 rfl))
  refine h.remap ?_ ?_ ⟨_, _, K.ownsMap_block hown3 (hact.kp.block _ (Nat.lt_of_lt_of_le (by omega) hgrow3.size) (fun hh => hob _ hh rfl)), ?_⟩ hact.ro ?_ ?_ ?_ ?_ ?_
  · rintro i (hi | ⟨hi, hne⟩)
    · have h1 := h.rk.lt i hi
      exact (hst i (by omega) (h.d1 i hi) (fun e => h.d2 i hi (by rw [e]; simp [Loc.cfp]))).trans (HB2.out.block i h1)
    · have h1 := h.cl i hi
      exact (hst i (by omega) (fun ho => h.d3 i ho hi) hne).trans (HB2.out.block i h1)
  · refine ((K.Kp.of_below HB2.out (P.fp C.L)).grown hgrow3 (fun k e => by cases e; exact .inl (by simp [Loc.fp, Loc.cfp]))).trans (kpI hact.kp) (fun i hi => .inl (by simp only [Loc.fp, List.mem_append]; exact .inr (.inl hi)))
  · have := HMO.out.put HD.out.1 HD.out.2 hkey (fun e he => by obtain ⟨l, hl', rfl⟩ := List.mem_map.1 he; exact lineAt_none HNO.out l hl') 0 w1.heap.size
    rw [List.map_append]
    exact this
  · rw [List.map_append, List.map_append, h.eq]; rfl
  · intro i hi
    rcases hact.sub i hi with h1 | h1
    · exact .inl h1
    · have h3 := hgrow3.size
      refine .inr ⟨by omega, fun l hl' => ?_⟩
      rcases List.mem_append.1 hl' with h4 | h4
      · have := h.cl l.blk (by simp only [Loc.cfp, List.mem_cons, List.mem_append, List.mem_map]; exact .inr (.inr (.inr ⟨l, h4, rfl⟩)))
        omega
      · simp at h4; subst h4; simp only [newLn]; omega
  · intro l hl'
    rcases List.mem_append.1 hl' with h4 | h4
    · exact .inl h4
    · simp at h4; subst h4
      refine .inr ⟨s1, ?_, hs, K.okZ⟩
      exact (hst _ (by simp only [newLn]; omega) (fun ho => by have := hofp _ ho; simp only [newLn] at this; omega) (by simp only [newLn]; omega)).trans HLN.out
  · rw [List.map_append, List.nodup_append]
    refine ⟨h.nd, by simp, fun a ha' b hb e => ?_⟩
    obtain ⟨l, hl', rfl⟩ := List.mem_map.1 ha'
    simp [newLn] at hb
    have := h.cl l.blk (by simp only [Loc.cfp, List.mem_cons, List.mem_append, List.mem_map]; exact .inr (.inr (.inr ⟨l, hl', rfl⟩)))
    omega
  · simp; omega
end
end Go.Proofs.YtlacligofhinmaaGreat.C

namespace Go.Proofs.YtlacligofhinmaaGreat.C
open Go.RowKit Go.Maps Go.Proofs.YtlacligofhinmaaGreat
attribute [local go_sem] Oper.semAt_some
set_option linter.unusedVariables false
set_option linter.unusedSimpArgs false
set_option maxRecDepth 100000

theorem failS_n (S : K.Dk) (k : Int) (s : Int) : (K.failS S k s).n = S.n := by
  unfold K.failS
  try split
  all_goals rfl
theorem wrS_n (S : K.Dk) (s : Int) (l : List Nat) : (K.wrS S s l).n = S.n := by
  unfold K.wrS
  split
  · split
    · split
      · split
        · exact failS_n _ _ _
        · exact failS_n _ _ _
      · exact failS_n _ _ _
    · rfl
  · rfl
theorem rdS_n (S : K.Dk) (s : Int) : (K.rdS S s).n = S.n := by
  unfold K.rdS
  split
  · split
    · exact failS_n _ _ _
    · exact failS_n _ _ _
  · rfl
theorem baS_n (S : K.Dk) : (K.baS S).n = S.n := by
  unfold K.baS
  split
  · exact failS_n _ _ _
  · exact failS_n _ _ _
theorem wrE_two {S : K.Dk} {s : Nat} {l : List Nat} (hs : s < S.n) (hl : K.OkB l) : K.wrE S s l = 0 ∨ K.wrE S s l = 33 := by
  unfold K.wrE
  rw [if_pos (by unfold K.inD; simp; omega), if_pos hl.len]
  split
  · exact .inr rfl
  · exact .inl rfl
theorem baE_two (S : K.Dk) : K.baE S = 0 ∨ K.baE S = 33 := by
  unfold K.baE
  split
  · exact .inr rfl
  · exact .inl rfl
section
variable {w w' : World} {P : Loc} {S S' : K.Dk} {C C' : Ch}
theorem RC.drew (h : RC w P S C) : RC w.drew P S C := h.same fun _ _ => rfl
theorem CAct.drew {P' : Loc} (h : CAct w.drew w' P P' C S' C') : CAct w w' P P' C S' C' :=
  ⟨h.rc, ⟨h.kp.os, h.kp.tape, h.kp.output, h.kp.size, h.kp.block⟩, h.sub, h.bc, h.bd⟩
theorem RC.lcell (h : RC w P S C) {l : Ln} (hl : l ∈ C.L) (j : Nat) : w.cell? ⟨l.blk, j, none⟩ = (lcells l)[j]? := K.cell_of (h.ln l hl)
theorem lcells_dirty {l : Ln} (h : K.OkB l.dat) : (lcells l)[512]? = some (.bool l.dirty) := by
  unfold lcells
  rw [List.getElem?_toArray, List.getElem?_append_right (by simp [h.len])]
  simp [h.len]
theorem lcells_note {l : Ln} (h : K.OkB l.dat) : (lcells l)[513]? = some (.bool l.note) := by
  unfold lcells
  rw [List.getElem?_toArray, List.getElem?_append_right (by simp [h.len])]
  simp [h.len]
theorem lcells_dat {l : Ln} (h : K.OkB l.dat) {j : Nat} {v : Value} (hj : (l.dat.map bv)[j]? = some v) : (lcells l)[j]? = some v := by
  unfold lcells
  rw [List.getElem?_toArray, List.getElem?_append_left (List.getElem?_eq_some_iff.1 hj).1]
  exact hj
theorem lcells_set {l : Ln} (h : K.OkB l.dat) (d : Bool) : (lcells l).setIfInBounds 512 (.bool d) = lcells { l with dirty := d } := by
  unfold lcells
  have : (List.map bv l.dat).length = 512 := by simp [h.len]
  apply Array.ext'
  rw [Array.toList_setIfInBounds]
  simp only
  rw [List.set_append, if_neg (by omega), this]
  rfl
def cleaned (l : Ln) : Ln := { l with dirty := false }
def writtenC (C : Ch) (L1 : List Ln) (l : Ln) (L2 : List Ln) : Ch := { C with L := L1 ++ cleaned l :: L2, st := { C.st with written := K.inc C.st.written } }
set_option maxHeartbeats 2000000 in
/-- a line is written back -/
theorem writeBack_c (h : RC w P S C) (hf : K.FsOk S.fs) (hq : S.q.length < 1048576) {L1 L2 : List Ln} {l : Ln} (hL : C.L = L1 ++ l :: L2) :
    Calls Tryz.prog 77 #[.pointer (some ⟨P.bc, 0, none⟩), .int .i64 l.sec] w fun r w' => r = .returned (.int .i64 (if K.wrE S l.sec l.dat = 0 then 0 else 33)) ∧ ∃ P', CAct w w' P P' C (K.wrS S l.sec l.dat) (if K.wrE S l.sec l.dat = 0 then writtenC C L1 l L2 else C) := by
  have hm : l ∈ C.L := by rw [hL]; simp
  have hok := h.ok l hm
  have hwf := h.wf hm
  have hlk := h.look hwf
  have hat : lineAt C.L l.sec = some l := by
    cases e : lineAt C.L l.sec with
    | none => exact absurd rfl (lineAt_none e l hm)
    | some x =>
      obtain ⟨hx, hxs⟩ := lineAt_mem e
      congr 1
      have hd := h.sd
      obtain ⟨i, hi, ei⟩ := List.getElem_of_mem hx
      obtain ⟨j, hj, ej⟩ := List.getElem_of_mem hm
      have : i = j := (List.getElem_inj (h₀ := by simpa using hi) (h₁ := by simpa using hj) hd).1 (by simp [ei, ej, hxs])
      subst this
      rw [← ei, ej]
  rw [hat] at hlk
  simp only [linePtr] at hlk
  have c3 : w.cell? ⟨P.bc, 3, none⟩ = some (.map (some P.bl)) := h.c 3
  have c0 : w.cell? ⟨P.bc, 0, none⟩ = some (.pointer (some ⟨P.bd, 0, none⟩)) := h.c 0
  have hbl : l.blk ∈ P.cfp C.L := by simp only [Loc.cfp, List.mem_cons, List.mem_append, List.mem_map]; exact .inr (.inr (.inr ⟨l, hm, rfl⟩))
  have hwr := K.write_gen h.drew.rk hf hq l.sec (l := l.dat) hok.2.lt (m := 512) hok.2.len (by omega) (sb := l.blk) (so := 0) (cap := 512) (fun j v hj => by rw [Nat.zero_add]; exact (h.drew.lcell hm j).trans (lcells_dat hok.2 hj)) (fun hd => h.d2 _ hd hbl)
  have hn := wrS_n S l.sec l.dat
  have HW : Hid (Calls Tryz.prog 114 #[.pointer (some ⟨P.bd, 0, none⟩), .int .i64 l.sec, .slice (some ⟨l.blk, 0, none⟩) 512 512] w.drew fun r w' => r = .returned (.int .i64 (K.wrE S l.sec l.dat)) ∧ ∃ P', CAct w w' P P' C (K.wrS S l.sec l.dat) C ∧ w'.cell? ⟨P.bc, 0, none⟩ = some (.pointer (some ⟨P.bd, 0, none⟩))) := by
    refine hwr.mono ?_
    rintro r w' ⟨rfl, qv', fv1, ha⟩
    have hc := (h.drew.disk hn ha).drew
    exact ⟨rfl, _, hc, by have := hc.rc.c 0; rw [hc.bc] at this; rw [this]; rfl⟩
  have HFin : Hid (∀ (w1 : World) (P1 : Loc) (S1 : K.Dk), CAct w w1 P P1 C S1 C → w1.frozen? ⟨l.blk, 512, none⟩ = false ∧ (∃ x, w1.cell? ⟨l.blk, 512, none⟩ = some x) ∧ (w1.setCell ⟨l.blk, 512, none⟩ (.bool false)).cell? ⟨P.bc, 8, none⟩ = some (.int .u64 C.st.written) ∧ (w1.setCell ⟨l.blk, 512, none⟩ (.bool false)).frozen? ⟨P.bc, 8, none⟩ = false ∧ CAct w ((w1.setCell ⟨l.blk, 512, none⟩ (.bool false)).setCell ⟨P.bc, 8, none⟩ (.int .u64 (K.inc C.st.written))) P P1 C S1 (writtenC C L1 l L2)) := fun w1 P1 S1 ha => by
    have hln := ha.rc.ln l hm
    have hset := K.blk_set hln 512 (.bool false)
    rw [lcells_set hok.2] at hset
    have hk : K.Kp w1 (w1.setCell ⟨l.blk, 512, none⟩ (.bool false)) [l.blk] := (K.Kp.refl w1 _).set (.inl (by simp)) 512 _
    have a2 := ha.rc.line hL (l' := cleaned l) hset rfl rfl hok.2 hk
    have hbc : P1.bc = P.bc := ha.bc
    have a3 := a2.rc.stat 8 (.int .u64 (K.inc C.st.written)) { C.st with written := K.inc C.st.written } rfl
    refine ⟨K.frozen_of hln, ⟨_, (K.cell_of hln).trans (lcells_dirty hok.2)⟩, ?_, ?_, ?_⟩
    · have := a2.rc.c 8; rw [hbc] at this; exact this
    · have := a2.rc.fz 8; rw [hbc] at this; exact this
    · rw [hbc] at a3
      exact (ha.trans a2).trans a3
  have h2 := wrE_two hok.1 hok.2
  clear h hwr hat hL hm hbl hwf hok hn hf hq
  rcases h2 with he | he
  · simp only [he, if_true] at HW ⊢
    go_enter Tryz.func77, Tryz.ntmps77
    go_wp2
    go_region_held3 (fun w' => w'.cell? ⟨P.bc, 0, none⟩ = some (.pointer (some ⟨P.bd, 0, none⟩))) (first | go_keep | exact k0) (first | (go_at_call 114; refine HW.out.mono ?_; rintro r w1 ⟨rfl, P1, ha, k0⟩; obtain ⟨f1, ⟨x1, k1⟩, k2, f2, hfin⟩ := HFin.out w1 P1 _ ha; have HF : Hid _ := hfin; clear hfin HFin ha))
    go_wp2
    go_ret
    exact ⟨rfl, P1, HF.out⟩
  · simp only [he, show ((33 : Int) = 0) = False by simp, if_false] at HW ⊢
    go_enter Tryz.func77, Tryz.ntmps77
    go_wp2
    go_region_held3 (fun w' => w'.cell? ⟨P.bc, 0, none⟩ = some (.pointer (some ⟨P.bd, 0, none⟩))) (first | go_keep | exact k0) (first | (go_at_call 114; refine HW.out.mono ?_; rintro r w1 ⟨rfl, P1, ha, k0⟩))
    go_wp2
    go_ret
    exact ⟨rfl, P1, ha⟩
end
end Go.Proofs.YtlacligofhinmaaGreat.C

namespace Go.Proofs.YtlacligofhinmaaGreat.C
open Go.RowKit Go.Maps Go.Proofs.YtlacligofhinmaaGreat
attribute [local go_sem] Oper.semAt_some
set_option linter.unusedVariables false
set_option linter.unusedSimpArgs false
set_option maxRecDepth 100000

section
variable {w w' : World} {P : Loc} {S S' : K.Dk} {C C' : Ch}
def evC (C : Ch) (L : List Ln) : Ch := { C with L := L, st := { C.st with evicted := K.inc C.st.evicted } }
/-- a line is taken out -/
theorem RC.gone (h : RC w P S C) {L1 L2 : List Ln} {l : Ln} (hL : C.L = L1 ++ l :: L2) {D : DataW Unit} (hm : w.ownsMap Tryz.prog TIn I.ptrE P.bl (Maps.size D) D) (hmo : I.MapOk (C.L.map Ln.ent) D) {w3 : World} {n : Nat} (hown : w3.ownsMap Tryz.prog TIn I.ptrE P.bl n (D.del (I.kl (l.sec : Int)))) (hg : w.grownBy w3 (some P.bl)) :
    w3.cell? ⟨P.bc, 4, none⟩ = some (.pointer (some ⟨P.bo, 0, none⟩)) ∧ Calls Tryz.prog 124 #[.pointer (some ⟨P.bo, 0, none⟩), .int .i64 l.sec] w3 fun r w' => r = .returned (.bool true) ∧ ∃ P', w'.cell? ⟨P.bc, 7, none⟩ = some (.int .u64 C.st.evicted) ∧ w'.frozen? ⟨P.bc, 7, none⟩ = false ∧ CAct w (w'.setCell ⟨P.bc, 7, none⟩ (.int .u64 (K.inc C.st.evicted))) P P' C S (evC C (L1 ++ L2)) := by
  have ha := h.apart
  obtain ⟨E1, e, E2, hE, hek, h1, h2⟩ := h.split hL
  have hob : ∀ i ∈ P.ofp, i ≠ P.bl := fun i hi e => h.d3 i hi (by rw [e]; simp [Loc.cfp])
  have hro : I.RO w3 P.bo P.bm P.g P.E := h.ro.same fun i hi => hg.block i (h.ro.lt i hi) (fun e => by cases e; exact hob _ hi rfl)
  have hbc : w3.heap[P.bc]? = some (.cells (ccells P C) TCa (0, 0)) := (hg.block P.bc (h.cl _ (by simp [Loc.cfp])) (fun e => ha.1 (Option.some.inj e))).trans h.blk
  rw [hE] at hro
  have hdr := I.drop_any hro
  rw [hek] at hdr
  refine ⟨(K.cell_of hbc).trans rfl, hdr.mono ?_⟩
  rintro r w4 ⟨rfl, hact⟩
  rw [← hE] at hact
  have hst : ∀ i, i < w.heap.size → i ∉ P.ofp → i ≠ P.bl → w4.heap[i]? = w.heap[i]? := fun i hi h1 h2 => (hact.kp.block i (Nat.lt_of_lt_of_le hi hg.size) h1).trans (hg.block i hi (fun e => by cases e; exact h2 rfl))
  have hbl : P.bl < w.heap.size := h.cl _ (by simp [Loc.cfp])
  have hin : ∀ x ∈ L1 ++ L2, x ∈ C.L := fun x hx => by rw [hL]; rcases List.mem_append.1 hx with h | h <;> simp [h]
  have a1 : CAct w w4 P { P with E := E1 ++ E2 } C S { C with L := L1 ++ L2 } := by
    refine h.remap ?_ ?_ ⟨_, _, K.ownsMap_block hown (hact.kp.block _ (Nat.lt_of_lt_of_le hbl hg.size) (fun hh => hob _ hh rfl)), ?_⟩ hact.ro ?_ ?_ ?_ ?_ ?_
    · rintro i (hi | ⟨hi, hne⟩)
      · exact hst i (h.rk.lt i hi) (h.d1 i hi) (fun e => h.d2 i hi (by rw [e]; simp [Loc.cfp]))
      · exact hst i (h.cl i hi) (fun ho => h.d3 i ho hi) hne
    · exact ((K.Kp.refl w (P.fp C.L)).grown hg (fun k e => by cases e; exact .inl (by simp [Loc.fp, Loc.cfp]))).trans (kpI hact.kp) (fun i hi => .inl (by simp only [Loc.fp, List.mem_append]; exact .inr (.inl hi)))
    · have hd := h.sdE
      rw [hL] at hmo hd
      simp only [List.map_append, List.map_cons] at hmo hd
      have := hmo.del (hm.tidy I.keyed) (by simpa using hd)
      rw [List.map_append]
      exact this
    · simp [h1, h2]
    · intro i hi
      refine .inl ((hact.sub i hi).elim id fun hh => ?_)
      exfalso
      -- the order's blocks behind Drop are among those ahead of it
      have : i ∈ I.fp P.bo P.bm P.g P.E := by
        rw [hE]
        simp only [I.fp, List.mem_cons, List.map_append, List.map_cons, List.mem_append] at hi ⊢
        rcases hi with h | h | h | h | h <;> simp [h]
      have h3 := h.ro.lt i this
      have h4 := hg.size
      omega
    · exact fun x hx => .inl (hin x hx)
    · have hd := h.nd
      rw [hL] at hd
      simp only [List.map_append, List.map_cons, List.nodup_append, List.nodup_cons, List.mem_cons] at hd ⊢
      exact ⟨hd.1, hd.2.1.2, fun a ha b hb => hd.2.2 a ha b (.inr hb)⟩
    · have := h.lim.1
      rw [hL] at this
      simp at this ⊢
      omega
  exact ⟨rfl, _, a1.rc.c 7, a1.rc.fz 7, a1.trans (a1.rc.stat 7 (.int .u64 (K.inc C.st.evicted)) { C.st with evicted := K.inc C.st.evicted } rfl)⟩
def gwE (S : K.Dk) (l : Ln) : Int := if l.dirty = true then (if K.wrE S l.sec l.dat = 0 then 0 else 33) else 0
def gwS (S : K.Dk) (l : Ln) : K.Dk := if l.dirty = true then K.wrS S l.sec l.dat else S
def gwC (S : K.Dk) (C : Ch) (L1 : List Ln) (l : Ln) (L2 : List Ln) : Ch :=
  if l.dirty = true then (if K.wrE S l.sec l.dat = 0 then evC (writtenC C L1 l L2) (L1 ++ L2) else C) else evC C (L1 ++ L2)
theorem RC.atLine (h : RC w P S C) {l : Ln} (hm : l ∈ C.L) : lineAt C.L l.sec = some l := by
  cases e : lineAt C.L l.sec with
  | none => exact absurd rfl (lineAt_none e l hm)
  | some x =>
    obtain ⟨hx, hxs⟩ := lineAt_mem e
    congr 1
    have hd := h.sd
    obtain ⟨i, hi, ei⟩ := List.getElem_of_mem hx
    obtain ⟨j, hj, ej⟩ := List.getElem_of_mem hm
    have : i = j := (List.getElem_inj (h₀ := by simpa using hi) (h₁ := by simpa using hj) hd).1 (by simp [ei, ej, hxs])
    subst this
    rw [← ei, ej]
set_option maxHeartbeats 4000000 in
theorem giveWay_c (h : RC w P S C) (hf : K.FsOk S.fs) (hq : S.q.length < 1048576) {L1 L2 : List Ln} {l : Ln} (hL : C.L = L1 ++ l :: L2) :
    Calls Tryz.prog 95 #[.pointer (some ⟨P.bc, 0, none⟩), .int .i64 l.sec] w fun r w' => r = .returned (.int .i64 (gwE S l)) ∧ ∃ P', CAct w w' P P' C (gwS S l) (gwC S C L1 l L2) := by
  have hm : l ∈ C.L := by rw [hL]; simp
  have hok := h.ok l hm
  have hwf := h.wf hm
  have hlk := h.look hwf
  rw [h.atLine hm] at hlk
  simp only [linePtr] at hlk
  have c3 : w.cell? ⟨P.bc, 3, none⟩ = some (.map (some P.bl)) := h.c 3
  have cd : w.cell? ⟨l.blk, 512, none⟩ = some (.bool l.dirty) := (h.lcell hm 512).trans (lcells_dirty hok.2)
  have hwb := writeBack_c h hf hq hL
  unfold gwE gwS gwC
  -- what follows, from any state with the line
  have HGO : Hid (∀ (w1 : World) (P1 : Loc) (S1 : K.Dk) (C1 : Ch) (l1 : Ln), CAct w w1 P P1 C S1 C1 → C1.L = L1 ++ l1 :: L2 → l1.sec = l.sec → w1.cell? ⟨P.bc, 3, none⟩ = some (.map (some P1.bl)) ∧ ∃ n D, w1.ownsMap Tryz.prog TIn I.ptrE P1.bl n D ∧ ∀ n' w3, w3.ownsMap Tryz.prog TIn I.ptrE P1.bl n' (D.del (I.kl (l.sec : Int))) → w1.grownBy w3 (some P1.bl) → w3.cell? ⟨P.bc, 4, none⟩ = some (.pointer (some ⟨P1.bo, 0, none⟩)) ∧ Calls Tryz.prog 124 #[.pointer (some ⟨P1.bo, 0, none⟩), .int .i64 l.sec] w3 fun r w' => r = .returned (.bool true) ∧ w'.cell? ⟨P.bc, 7, none⟩ = some (.int .u64 C1.st.evicted) ∧ w'.frozen? ⟨P.bc, 7, none⟩ = false ∧ ∃ P', CAct w (w'.setCell ⟨P.bc, 7, none⟩ (.int .u64 (K.inc C1.st.evicted))) P P' C S1 (evC C1 (L1 ++ L2))) := fun w1 P1 S1 C1 l1 ha hL1 hs => by
    have h1 := ha.rc
    have hbc := ha.bc
    obtain ⟨D, hm1, hmo⟩ := h1.lm
    refine ⟨by have := h1.c 3; rw [hbc] at this; exact this, _, D, hm1, fun n' w3 ho hg => ?_⟩
    rw [← hs] at ho
    obtain ⟨k4, hcall⟩ := h1.gone hL1 hm1 hmo ho hg
    rw [hs, hbc] at hcall
    rw [hbc] at k4
    refine ⟨k4, hcall.mono ?_⟩
    rintro r w' ⟨rfl, P', k7, f7, ha'⟩
    exact ⟨rfl, k7, f7, P', ha.trans ha'⟩
  have HR : Hid (CAct w w P P C S C) := CAct.refl h
  have HL : Hid (C.L = L1 ++ l :: L2) := hL
  clear h hm hok hL
  cases hdy : l.dirty with
  | false =>
    rw [hdy] at cd
    simp only [Bool.false_eq_true, if_false]
    obtain ⟨_, n, D, hm1, hgo⟩ := HGO.out w P S C l HR.out HL.out rfl
    have HM1 : Hid (w.ownsMap Tryz.prog TIn I.ptrE P.bl n D) := hm1
    have HG : Hid (∀ n' w3, w3.ownsMap Tryz.prog TIn I.ptrE P.bl n' (D.del (I.kl (l.sec : Int))) → w.grownBy w3 (some P.bl) → w3.cell? ⟨P.bc, 4, none⟩ = some (.pointer (some ⟨P.bo, 0, none⟩)) ∧ Calls Tryz.prog 124 #[.pointer (some ⟨P.bo, 0, none⟩), .int .i64 l.sec] w3 fun r w' => r = .returned (.bool true) ∧ w'.cell? ⟨P.bc, 7, none⟩ = some (.int .u64 C.st.evicted) ∧ w'.frozen? ⟨P.bc, 7, none⟩ = false ∧ ∃ P', CAct w (w'.setCell ⟨P.bc, 7, none⟩ (.int .u64 (K.inc C.st.evicted))) P P' C S (evC C (L1 ++ L2))) := hgo
    clear hm1 hgo HGO hwb HR HL
    go_enter Tryz.func95, Tryz.ntmps95
    go_wp2_with (first | (at_delete; refine wpList_delete_own _ rfl _ _ TLm TIn rfl TLp I.keyed Tryz.underlying107 _ P.bl n D rfl HM1.out _ _ rfl (I.keyAt hwf) ?_; intro w2 hown2 hturn2; obtain ⟨k4, hdrop⟩ := HG.out _ w2 hown2 hturn2.grown; clear hown2 hturn2) | (go_at_call 124; refine hdrop.mono ?_; rintro r w5 ⟨rfl, k7, f7, hfin⟩; have HFI : Hid _ := hfin; clear hfin))
    go_ret
    exact ⟨rfl, HFI.out⟩
  | true =>
    rw [hdy] at cd
    simp only [if_true]
    by_cases he : K.wrE S l.sec l.dat = 0
    · rw [if_pos he] at hwb ⊢
      rw [if_pos he] at hwb
      rw [if_pos he]
      go_enter Tryz.func95, Tryz.ntmps95
      go_wp2_with (first | (go_at_call 77; refine hwb.mono ?_; rintro r w1 ⟨rfl, P1, ha1⟩; obtain ⟨k3, n, D, hm1, hgo⟩ := HGO.out w1 P1 _ _ _ ha1 rfl rfl; have HM1 : Hid _ := hm1; have HG : Hid _ := hgo; clear hm1 hgo) | (at_delete; refine wpList_delete_own _ rfl _ _ TLm TIn rfl TLp I.keyed Tryz.underlying107 _ P1.bl n D rfl HM1.out _ _ rfl (I.keyAt hwf) ?_; intro w2 hown2 hturn2; obtain ⟨k4, hdrop⟩ := HG.out _ w2 hown2 hturn2.grown; clear hown2 hturn2) | (go_at_call 124; refine hdrop.mono ?_; rintro r w5 ⟨rfl, k7, f7, hfin⟩; have HFI : Hid _ := hfin; clear hfin))
      go_ret
      exact ⟨rfl, HFI.out⟩
    · rw [if_neg he] at hwb ⊢
      rw [if_neg he] at hwb
      rw [if_neg he]
      go_enter Tryz.func95, Tryz.ntmps95
      go_wp2_with (go_at_call 77; refine hwb.mono ?_; rintro r w1 ⟨rfl, P1, ha1⟩)
      go_ret
      exact ⟨rfl, P1, ha1⟩
end
end Go.Proofs.YtlacligofhinmaaGreat.C

namespace Go.Proofs.YtlacligofhinmaaGreat.C
open Go.RowKit Go.Maps Go.Shelf Go.Proofs.YtlacligofhinmaaGreat
attribute [local go_sem] Oper.semAt_some
set_option linter.unusedVariables false
set_option linter.unusedSimpArgs false
set_option maxRecDepth 100000

/-- a question of a line -/
def Pk (f : Nat) (p : Ln → Bool) : Prop := ∀ (W : World) (l : Ln), W.heap[l.blk]? = some (.cells (lcells l) TLn (0, 0)) → K.OkB l.dat → Calls Tryz.prog f #[.pointer (some ⟨l.blk, 0, none⟩)] W fun r w' => r = .returned (.bool (p l)) ∧ w' = W
def mayGo (l : Ln) : Bool := !l.dirty || !l.note
def isData (l : Ln) : Bool := !l.note
def isNoted (l : Ln) : Bool := l.note
def dirtyData (l : Ln) : Bool := l.dirty && !l.note
theorem pk_may : Pk 94 mayGo := fun W l hl hok => by
  have c1 : W.cell? ⟨l.blk, 512, none⟩ = some (.bool l.dirty) := (K.cell_of hl).trans (lcells_dirty hok)
  have c2 : W.cell? ⟨l.blk, 513, none⟩ = some (.bool l.note) := (K.cell_of hl).trans (lcells_note hok)
  unfold mayGo
  generalize l.dirty = d at *
  generalize l.note = n at *
  clear hl hok
  cases d
  · go_enter Tryz.func94, Tryz.ntmps94
    go_wp2
    go_ret
    exact ⟨rfl, rfl⟩
  · go_enter Tryz.func94, Tryz.ntmps94
    go_wp2
    go_ret
    exact ⟨by simp, rfl⟩
theorem pk_data : Pk 65 isData := fun W l hl hok => by
  have c2 : W.cell? ⟨l.blk, 513, none⟩ = some (.bool l.note) := (K.cell_of hl).trans (lcells_note hok)
  unfold isData
  clear hl hok
  go_enter Tryz.func65, Tryz.ntmps65
  go_wp2
  go_ret
  exact ⟨rfl, rfl⟩
theorem pk_note : Pk 67 isNoted := fun W l hl hok => by
  have c2 : W.cell? ⟨l.blk, 513, none⟩ = some (.bool l.note) := (K.cell_of hl).trans (lcells_note hok)
  unfold isNoted
  clear hl hok
  go_enter Tryz.func67, Tryz.ntmps67
  go_wp2
  go_ret
  exact ⟨rfl, rfl⟩
theorem pk_back : Pk 76 dirtyData := fun W l hl hok => by
  have c1 : W.cell? ⟨l.blk, 512, none⟩ = some (.bool l.dirty) := (K.cell_of hl).trans (lcells_dirty hok)
  have c2 : W.cell? ⟨l.blk, 513, none⟩ = some (.bool l.note) := (K.cell_of hl).trans (lcells_note hok)
  unfold dirtyData
  generalize l.dirty = d at *
  generalize l.note = n at *
  clear hl hok
  cases d
  · go_enter Tryz.func76, Tryz.ntmps76
    go_wp2
    go_ret
    exact ⟨rfl, rfl⟩
  · go_enter Tryz.func76, Tryz.ntmps76
    go_wp2
    go_ret
    exact ⟨by simp, rfl⟩
def secOf : Option Ln → Int
  | none => 0
  | some l => l.sec
/-- rows of keys are kept -/
def KpN (W W' : World) : Prop := ∀ (k : Nat) (cur : Array Value) (fr : Nat × Nat), W.heap[k]? = some (.cells cur I.TKey fr) → W'.heap[k]? = some (.cells cur I.TKey fr)
theorem kpN_row : I.A.KeepsRow KpN (fun _ _ => True) := ⟨fun h _ hc => ⟨h _ _ _ hc, trivial⟩⟩
theorem kpN_t {A B C : World} (h : KpN A B) (k : KpN B C) : KpN A C := fun i cur fr hi => k i cur fr (h i cur fr hi)
theorem kpN_b {w : World} (W : World) (l : Nat) (o o' : Obj) (_ : w.heap.size ≤ l) (h : W.heap[l]? = some o) (hc : o.isCells = false) (_ : o.isWalk = false) : KpN W (W.putObj l o') := fun i cur fr hi => by
  have hne : i ≠ l := by
    rintro rfl
    rw [h] at hi
    cases hi
    simp [Obj.isCells] at hc
  exact (World.putObj_heap_other hne).trans hi
theorem pickedA (E : List I.Ent) : I.A.picked E = E.map (·.key) := by
  show (E.filter fun _ => true).map _ = _
  rw [List.filter_eq_self.2 (fun _ _ => rfl)]
theorem attach_secs (L : List Ln) : L.attach.map (fun x => (x.1.sec : Int)) = L.map (fun l => (l.sec : Int)) := by
  have h : L.attach.map (fun x => (x.1.sec : Int)) = (L.attach.map Subtype.val).map (fun l => (l.sec : Int)) := by rw [List.map_map]; rfl
  rw [h, List.attach_map_subtype_val]
theorem find_at {L L1 L2 : List Ln} {l : Ln} {p : Ln → Bool} (h : L = L1 ++ l :: L2) (h1 : ∀ x ∈ L1, p x = false) (h2 : p l = true) : L.find? p = some l := by
  rw [h, List.find?_append, List.find?_eq_none.2 (fun x hx => by simp [h1 x hx])]
  simp [h2]
abbrev TPc : TypeId := 33
abbrev TFn : TypeId := 140
abbrev TBo : TypeId := 4
theorem results_cell2 {fn : Func} {p q : Tmp} {tp tq : TypeId} (h : fn.results = #[.cell p tp, .cell q tq]) (tmps : Array Value) (P : Program) (w : World) :
    (results fn tmps).run P w = ((asAddr (tmps.getD p undef)).run P w).andThen fun a w₁ => ((loadVar tp a).run P w₁).andThen fun v w₂ => ((asAddr (tmps.getD q undef)).run P w₂).andThen fun b w₃ => ((loadVar tq b).run P w₃).andThen fun u w₄ => .ok (.tuple #[v, u]) w₄ := by
  simp only [results, h]
  simp [Sem.run_bind, Result.andThen]
theorem load_int {w : World} {a : Addr} {x : Int} (h : w.cell? a = some (.int .i64 x)) : (loadVar TIn a).run Tryz.prog w = .ok (.int .i64 x) w := by
  simp [loadVar, go_sem, h]
theorem load_bool {w : World} {a : Addr} {x : Bool} (h : w.cell? a = some (.bool x)) : (loadVar TBo a).run Tryz.prog w = .ok (.bool x) w := by
  simp [loadVar, go_sem, h]
theorem load_two {w : World} {a b : Addr} {x : Int} {y : Bool} (h : w.cell? a = some (.int .i64 x)) (h' : w.cell? b = some (.bool y)) :
    (((asAddr (.pointer (some a))).run Tryz.prog w).andThen fun a w₁ => ((loadVar TIn a).run Tryz.prog w₁).andThen fun v w₂ => ((asAddr (.pointer (some b))).run Tryz.prog w₂).andThen fun b w₃ => ((loadVar TBo b).run Tryz.prog w₃).andThen fun u w₄ => Result.ok (Value.tuple #[v, u]) w₄) = Result.ok (Value.tuple #[.int .i64 x, .bool y]) w := by
  have e : ∀ (a : Addr) (w : World), (asAddr (.pointer (some a))).run Tryz.prog w = .ok a w := fun _ _ => rfl
  rw [e]
  simp only [Result.andThen]
  rw [load_int h]
  simp only
  rw [e]
  simp only
  rw [load_bool h']
end Go.Proofs.YtlacligofhinmaaGreat.C

namespace Go.Proofs.YtlacligofhinmaaGreat.C
open Go.RowKit Go.Maps Go.Shelf Go.Sort Go.Proofs.YtlacligofhinmaaGreat
attribute [local go_sem] Oper.semAt_some
set_option linter.unusedVariables false
set_option linter.unusedSimpArgs false
set_option maxRecDepth 100000

/-- numbers as values -/
def IV (l : List Int) : List Value := l.map (.int .i64)
theorem IV_get {ks : List Int} {k : Nat} {x : Int} (h : ks[k]? = some x) : (IV ks)[k]? = some (.int .i64 x) := by unfold IV; rw [List.getElem?_map, h]; rfl
theorem int_form {w : World} {B n : Nat} {v : Value} {xs : List Value} (h : w.ownsRow B TIn 1 v n xs) : ∃ ao cap, v = .slice ao n cap := by
  rcases h.2 with ⟨hv, hn⟩ | ⟨g, cap, cur, hv, _⟩
  · exact ⟨none, 0, by rw [hv, hn]⟩
  · exact ⟨_, _, hv⟩
/-- the numbers in their order -/
def sortI (l : List Int) : List Int := l.mergeSort fun x y => decide (x ≤ y)
theorem sortI_perm (l : List Int) : (sortI l).Perm l := List.mergeSort_perm _ _
theorem sortI_sorted (l : List Int) : (sortI l).Pairwise (· ≤ ·) := by
  have := List.pairwise_mergeSort (le := fun x y : Int => decide (x ≤ y)) (fun a b c h1 h2 => by simp at *; omega) (fun a b => by simp; omega) l
  exact this.imp (by simp)
theorem sorted_unique : ∀ {a b : List Int}, a.Perm b → a.Pairwise (· ≤ ·) → b.Pairwise (· ≤ ·) → a = b
  | [], b, h, _, _ => (List.nil_perm.1 h).symm
  | x :: a, [], h, _, _ => absurd h (by simp)
  | x :: a, y :: b, h, ha, hb => by
    have hx : x ∈ y :: b := h.mem_iff.1 (by simp)
    have hy : y ∈ x :: a := h.mem_iff.2 (by simp)
    have e : x = y := by
      rcases List.mem_cons.1 hx with rfl | hx
      · rfl
      · rcases List.mem_cons.1 hy with rfl | hy
        · rfl
        · have h1 := (List.pairwise_cons.1 ha).1 y hy
          have h2 := (List.pairwise_cons.1 hb).1 x hx
          omega
    subst e
    rw [sorted_unique (List.Perm.cons_inv h) (List.pairwise_cons.1 ha).2 (List.pairwise_cons.1 hb).2]
theorem sortI_congr {a b : List Int} (h : a.Perm b) : sortI a = sortI b := sorted_unique ((sortI_perm a).trans (h.trans (sortI_perm b).symm)) (sortI_sorted a) (sortI_sorted b)
theorem ahead_block (w : World) (n i : Nat) : (Sort.ahead w n).heap[i]? = w.heap[i]? := rfl
/-- a sorted row of one's own -/
theorem sort_c {w : World} {B : Nat} {v : Value} {zs : List Int} (h : w.ownsRow B TIn 1 v zs.length (IV zs)) (hl : zs.length < 4611686018427387904) :
    Calls Tryz.prog 71 #[v] w fun e w' => e = .returned (.tuple #[]) ∧ w'.ownsRow B TIn 1 v zs.length (IV (sortI zs)) ∧ w'.os = w.os ∧ w'.tape = w.tape ∧ w'.output = w.output ∧ w.heap.size ≤ w'.heap.size ∧ ∀ i, i < w.heap.size → v.ownBlock ≠ some i → w'.heap[i]? = w.heap[i]? := by
  rcases h.2 with ⟨rfl, h0⟩ | ⟨g, cap, cur, rfl, hb, hg, hnc, hcm, hcs, htake⟩
  · have hz : zs = [] := List.length_eq_zero_iff.1 h0
    subst hz
    refine (Tryz.slices_Sort_int_none none 0 w).mono ?_
    rintro e w' ⟨rfl, rfl⟩
    have e : sortI [] = [] := by simp [sortI]
    rw [e]
    exact ⟨rfl, h, rfl, rfl, rfl, Nat.le_refl _, fun _ _ _ => rfl⟩
  · have hH : Holds (Value.int .i64) w g 0 zs.toArray := by
      intro j hj
      have hj' : j < zs.length := by simpa using hj
      have hx : zs[j]? = some (zs.toArray[j]!) := by simp [hj']
      have c1 := h.cells (g := g) rfl j _ (IV_get hx)
      rw [WideShapes.add_plain] at c1
      exact ⟨c1, h.frozenAt _⟩
    refine (Tryz.slices_Sort_int g 0 cap zs w hH (Array.getElem?_eq_some_iff.1 hg).1 hl).mono ?_
    rintro e w' ⟨rfl, n, os, rfl⟩
    have hlen : (sortI zs).length = zs.length := (sortI_perm zs).length_eq
    have hblk : ∀ i, i < w.heap.size → i ≠ g → (grow (putRow (Value.int .i64) (Sort.ahead w n) g 0 (sortI zs).toArray) os).heap[i]? = w.heap[i]? := fun i hi hne => by
      unfold grow putRow mapBlock
      simp only
      rw [Array.getElem?_append_left (by simpa using hi), Array.getElem?_modify, if_neg (Ne.symm hne)]
      rfl
    have hself : (grow (putRow (Value.int .i64) (Sort.ahead w n) g 0 (sortI zs).toArray) os).heap[g]? = some (.cells (putCells (Value.int .i64) 0 (sortI zs).toArray cur) TIn (0, 0)) := by
      unfold grow putRow mapBlock
      simp only
      rw [Array.getElem?_append_left (by simpa using (Array.getElem?_eq_some_iff.1 hg).1), Array.getElem?_modify, if_pos rfl, ahead_block, hg]
      rfl
    refine ⟨rfl, ⟨by simp [IV, hlen], .inr ⟨g, cap, _, rfl, hb, hself, hnc, hcm, by simp [putCells, hcs], ?_⟩⟩, rfl, rfl, rfl, ?_, fun i hi hne => hblk i hi (fun e => hne (by rw [e]; rfl))⟩
    · refine List.ext_getElem? fun i => ?_
      rw [List.getElem?_take]
      by_cases hi : i < zs.length * 1
      · rw [if_pos hi]
        have hi' : i < (sortI zs).length := by omega
        have hic : i < cur.size := by rw [hcs]; omega
        rw [Array.getElem?_toList, putCells, Array.getElem?_mapIdx, Array.getElem?_eq_getElem hic]
        simp only [Option.map_some]
        rw [if_pos ⟨by omega, by simpa using hi'⟩, IV_get (x := (sortI zs)[i]) (List.getElem?_eq_getElem hi')]
        simp [hi']
      · rw [if_neg hi, List.getElem?_eq_none (by simp [IV, hlen]; omega)]
    · unfold grow putRow mapBlock
      simp
end Go.Proofs.YtlacligofhinmaaGreat.C

namespace Go.Proofs.YtlacligofhinmaaGreat.C
open Go.RowKit Go.Maps Go.Shelf Go.Sort Go.Proofs.YtlacligofhinmaaGreat
attribute [local go_sem] Oper.semAt_some
set_option linter.unusedVariables false
set_option linter.unusedSimpArgs false
set_option maxRecDepth 100000

/-- a line is clean from now on -/
def cleanL (L : List Ln) (s : Int) : List Ln := L.map fun x => if (x.sec : Int) = s then cleaned x else x
theorem cleanL_split {L1 L2 : List Ln} {l : Ln} (hd : ((L1 ++ l :: L2).map (fun l => (l.sec : Int))).Nodup) : cleanL (L1 ++ l :: L2) l.sec = L1 ++ cleaned l :: L2 := by
  simp only [List.map_append, List.map_cons, List.nodup_append, List.nodup_cons, List.mem_map, List.mem_cons] at hd
  unfold cleanL
  rw [List.map_append, List.map_cons, if_pos rfl]
  congr 1
  · conv => rhs; rw [← List.map_id L1]
    refine List.map_congr_left fun x hx => ?_
    rw [if_neg (fun e => hd.2.2 x.sec ⟨x, hx, rfl⟩ l.sec (.inl rfl) e)]; rfl
  · congr 1
    conv => rhs; rw [← List.map_id L2]
    refine List.map_congr_left fun x hx => ?_
    rw [if_neg (fun e => hd.2.1.1 ⟨x, hx, e⟩)]; rfl
def wbE (S : K.Dk) (C : Ch) (s : Int) : Int := match lineAt C.L s with
  | some l => if K.wrE S l.sec l.dat = 0 then 0 else 33
  | none => 0
def wbS (S : K.Dk) (C : Ch) (s : Int) : K.Dk := match lineAt C.L s with
  | some l => K.wrS S l.sec l.dat
  | none => S
def wbC (S : K.Dk) (C : Ch) (s : Int) : Ch := match lineAt C.L s with
  | some l => if K.wrE S l.sec l.dat = 0 then { C with L := cleanL C.L s, st := { C.st with written := K.inc C.st.written } } else C
  | none => C
theorem wb_c {w : World} {P : Loc} {S : K.Dk} {C : Ch} (h : RC w P S C) (hf : K.FsOk S.fs) (hq : S.q.length < 1048576) {s : Int} (hs : ∃ l ∈ C.L, (l.sec : Int) = s) :
    Calls Tryz.prog 77 #[.pointer (some ⟨P.bc, 0, none⟩), .int .i64 s] w fun r w' => r = .returned (.int .i64 (wbE S C s)) ∧ ∃ P', CAct w w' P P' C (wbS S C s) (wbC S C s) := by
  obtain ⟨l, hl, rfl⟩ := hs
  obtain ⟨L1, L2, hL, _, _⟩ := lineAt_split (h.atLine hl)
  unfold wbE wbS wbC
  rw [h.atLine hl]
  simp only
  have hd := h.sd
  rw [hL] at hd
  have := writeBack_c h hf hq hL
  rw [show cleanL C.L l.sec = L1 ++ cleaned l :: L2 by rw [hL]; exact cleanL_split hd]
  exact this
/-- how many lines are dirty -/
def dirtyN (L : List Ln) : Nat := (L.filter (·.dirty)).length
theorem dirtyN_clean {L1 L2 : List Ln} {l : Ln} (hd : l.dirty = true) : dirtyN (L1 ++ cleaned l :: L2) + 1 = dirtyN (L1 ++ l :: L2) := by
  simp [dirtyN, List.filter_append, List.filter_cons, cleaned, hd]
  omega
theorem wrS_ql (S : K.Dk) (s : Int) (l : List Nat) (h : K.wrE S s l = 33 ∨ K.wrE S s l = 0) : (K.wrS S s l).q.length ≤ S.q.length + 1 := K.wrS_q S s l
/-- the dirty lines of these sectors, in this order, as far as the disk takes them -/
def backs : List Int → K.Dk → Ch → Int × K.Dk × Ch
  | [], S, C => (0, S, C)
  | s :: ks, S, C => if wbE S C s = 0 then backs ks (wbS S C s) (wbC S C s) else (33, wbS S C s, wbC S C s)
theorem backs_cons (s : Int) (ks : List Int) (S : K.Dk) (C : Ch) : backs (s :: ks) S C = if wbE S C s = 0 then backs ks (wbS S C s) (wbC S C s) else (33, wbS S C s, wbC S C s) := rfl
def settleR (ks : List Int) (S : K.Dk) (C : Ch) : Int × K.Dk × Ch :=
  if (backs ks S C).1 = 0 then ((if K.baE (backs ks S C).2.1 = 0 then 0 else 33), K.baS (backs ks S C).2.1, (backs ks S C).2.2) else backs ks S C
theorem wbS_ok {S : K.Dk} {C : Ch} {s : Int} (h : K.FsOk S.fs) : K.FsOk (wbS S C s).fs := by
  unfold wbS
  split
  · exact K.wrS_ok h _ _
  · exact h
/-- these sectors have dirty lines, each once -/
structure Dirt (ks : List Int) (C : Ch) : Prop where
  nd : ks.Nodup
  has : ∀ s ∈ ks, ∃ l ∈ C.L, (l.sec : Int) = s ∧ l.dirty = true
theorem mem_cleanL {L : List Ln} {s : Int} {l : Ln} (hl : l ∈ L) (hs : (l.sec : Int) ≠ s) : l ∈ cleanL L s := by
  unfold cleanL
  exact List.mem_map.2 ⟨l, hl, if_neg hs⟩
theorem Dirt.next {w : World} {P : Loc} {S : K.Dk} {C : Ch} {s : Int} {ks : List Int} (h : RC w P S C) (hd : Dirt (s :: ks) C) (he : wbE S C s = 0) :
    Dirt ks (wbC S C s) ∧ (wbS S C s).q.length + dirtyN (wbC S C s).L ≤ S.q.length + dirtyN C.L := by
  obtain ⟨l, hl, rfl, hdy⟩ := hd.has s (by simp)
  obtain ⟨L1, L2, hL, _, _⟩ := lineAt_split (h.atLine hl)
  have hsd := h.sd
  rw [hL] at hsd
  unfold wbE at he
  unfold wbS wbC
  rw [h.atLine hl] at he ⊢
  simp only at he ⊢
  by_cases hw : K.wrE S l.sec l.dat = 0
  · rw [if_pos hw]
    refine ⟨⟨(List.nodup_cons.1 hd.nd).2, fun t ht => ?_⟩, ?_⟩
    · obtain ⟨x, hx, rfl, hxd⟩ := hd.has t (by simp [ht])
      refine ⟨x, mem_cleanL hx (fun e => (List.nodup_cons.1 hd.nd).1 (by rw [← e]; exact ht)), rfl, hxd⟩
    · have h1 := K.wrS_q S l.sec l.dat
      have h2 : dirtyN (cleanL C.L l.sec) + 1 = dirtyN C.L := by rw [hL, cleanL_split hsd]; exact dirtyN_clean hdy
      simp only
      omega
  · rw [if_neg hw] at he
    omega
set_option maxHeartbeats 4000000 in
theorem settle_c {w : World} {P : Loc} {S : K.Dk} {C : Ch} (h : RC w P S C) (hf : K.FsOk S.fs) (hq : S.q.length + dirtyN C.L < 1048576) {ks : List Int} {v : Value} {B : Nat} (hrow : w.ownsRow B TIn 1 v ks.length (IV ks)) (hfar : ∀ g, v.ownBlock = some g → g ∉ P.fp C.L) (hd : Dirt ks C) (hkl : ks.length ≤ 65536) :
    Calls Tryz.prog 66 #[.pointer (some ⟨P.bc, 0, none⟩), v] w fun r w' => r = .returned (.int .i64 (settleR ks S C).1) ∧ ∃ P', CAct w w' P P' C (settleR ks S C).2.1 (settleR ks S C).2.2 := by
  obtain ⟨ao, cap, rfl⟩ := int_form hrow
  obtain ⟨n, hn⟩ : ∃ n, n = ks.length := ⟨_, rfl⟩
  rw [← hn] at hrow hkl ⊢
  have HN : Hid (n = ks.length) := hn
  have HROW : Hid (∀ w', K.Kp w w' (P.fp C.L) → ∀ (k : Nat) (x : Int), ks[k]? = some x → ∃ g, ao = some ⟨g, 0, none⟩ ∧ w'.cell? ⟨g, k, none⟩ = some (.int .i64 x)) := fun w' hk k x hx => by
    rcases hrow.2 with ⟨hv, h0⟩ | ⟨g, cap', cur, hv, _, hg, _⟩
    · have := (List.getElem?_eq_some_iff.1 hx).1; omega
    · simp only [Value.slice.injEq] at hv
      obtain ⟨rfl, _, _⟩ := hv
      refine ⟨g, rfl, ?_⟩
      have c1 := hrow.cells (g := g) rfl k _ (IV_get hx)
      rw [WideShapes.add_plain, Nat.zero_add] at c1
      have hb := hk.block g (Array.getElem?_eq_some_iff.1 hg).1 (hfar g rfl)
      unfold World.cell? at c1 ⊢
      rw [hb]; exact c1
  have HBC : Hid (∀ w' P' S' C', CAct w w' P P' C S' C' → w'.cell? ⟨P.bc, 0, none⟩ = some (.pointer (some ⟨P.bd, 0, none⟩))) := fun w' P' S' C' ha => by
    have := ha.rc.c 0
    rw [ha.bc] at this
    rw [this, ← ha.bd]; rfl
  have H0 : Hid (∃ P', CAct w w P P' C S C) := ⟨P, CAct.refl h⟩
  have HD0 : Hid (Dirt ks C) := hd
  have HF0 : Hid (K.FsOk S.fs) := hf
  have HQ0 : Hid (S.q.length + dirtyN C.L < 1048576) := hq
  clear h hrow hfar hd hf hn hq
  go_enter Tryz.func66, Tryz.ntmps66
  go_wp2
  go_loopw [10] (fun i wr => ∃ (k : Nat) (S1 : K.Dk) (C1 : Ch), k ≤ n ∧ i = .int .i64 k ∧ Hid ((∃ P1, CAct w wr P P1 C S1 C1) ∧ Dirt (ks.drop k) C1 ∧ K.FsOk S1.fs ∧ S1.q.length + dirtyN C1.L < 1048576 ∧ backs ks S C = backs (ks.drop k) S1 C1)) (fun i _ => n - (intOf i).toNat)
  case atStart => exact ⟨0, S, C, Nat.zero_le _, rfl, H0.out, HD0.out, HF0.out, HQ0.out, rfl⟩
  case round =>
    obtain ⟨k, S1, C1, hk, rfl, HI⟩ := hrel
    obtain ⟨⟨P1, ha⟩, hd, hf, hq, hbk⟩ := HI.out
    by_cases hlt : k < n
    · have hkz : (k : Int) < (n : Int) := by omega
      obtain ⟨x, hx⟩ : ∃ x, ks[k]? = some x := ⟨_, List.getElem?_eq_getElem (by have := HN.out; omega)⟩
      obtain ⟨g, rfl, c1⟩ := HROW.out wr ha.kp k x hx
      have hdr : ks.drop k = x :: ks.drop (k + 1) := by
        have hk' : k < ks.length := by have := HN.out; omega
        rw [List.drop_eq_getElem_cons hk']
        congr 1
        rw [List.getElem?_eq_getElem hk'] at hx
        simpa using hx
      rw [hdr] at hd hbk
      obtain ⟨l, hl, hls, _⟩ := hd.has x (by simp)
      have hwb := wb_c ha.rc hf (by omega) ⟨l, hl, hls⟩
      rw [ha.bc] at hwb
      have HWB : Hid (Calls Tryz.prog 77 #[.pointer (some ⟨P.bc, 0, none⟩), .int .i64 x] wr fun r w' => r = .returned (.int .i64 (wbE S1 C1 x)) ∧ ∃ P', CAct w w' P P' C (wbS S1 C1 x) (wbC S1 C1 x)) := by
        refine hwb.mono ?_
        rintro r w' ⟨rfl, P', ha'⟩
        exact ⟨rfl, P', ha.trans ha'⟩
      rw [backs_cons] at hbk
      by_cases he : wbE S1 C1 x = 0
      · have hdn := hd.next ha.rc he
        rw [if_pos he] at hbk
        have HX : Hid (Dirt (ks.drop (k + 1)) (wbC S1 C1 x) ∧ K.FsOk (wbS S1 C1 x).fs ∧ (wbS S1 C1 x).q.length + dirtyN (wbC S1 C1 x).L < 1048576 ∧ backs ks S C = backs (ks.drop (k + 1)) (wbS S1 C1 x) (wbC S1 C1 x)) := ⟨hdn.1, wbS_ok hf, by have := hdn.2; omega, hbk⟩
        simp only [he] at HWB
        clear hd hf hq hbk hdn ha hl hls hwb HI hx hdr
        go_wp2_with (go_at_call 77; refine HWB.out.mono ?_; rintro r w2 ⟨rfl, ha2⟩)
        go_roundw
        case rel => exact ⟨k + 1, _, _, by omega, by go_num, ha2, HX.out⟩
        case measure => simp [intOf]; omega
      · rw [if_neg he] at hbk
        have h33 : wbE S1 C1 x = 33 := by
          unfold wbE at he ⊢
          split
          · split
            · rename_i h1 h2; simp [h1, h2] at he
            · rfl
          · rename_i h1; simp [h1] at he
        have HX : Hid (settleR ks S C = (33, wbS S1 C1 x, wbC S1 C1 x)) := by show _ = _; unfold settleR; rw [hbk, if_neg (by simp)]
        simp only [h33] at HWB
        clear hd hf hq hbk ha hl hls hwb HI hx hdr
        go_wp2_with (go_at_call 77; refine HWB.out.mono ?_; rintro r w2 ⟨rfl, ha2⟩)
        go_ret
        rw [HX.out]
        exact ⟨rfl, ha2⟩
    · have hkz : ¬ (k : Int) < (n : Int) := by omega
      have hdr : ks.drop k = [] := List.drop_of_length_le (by have := HN.out; omega)
      rw [hdr] at hbk
      have c0 := HBC.out wr P1 S1 C1 ha
      have hba := K.barrier_gen ha.rc.rk hf (by omega)
      rw [ha.bd] at hba
      have HBA : Hid (Calls Tryz.prog 110 #[.pointer (some ⟨P.bd, 0, none⟩)] wr fun r w' => r = .returned (.int .i64 (K.baE S1)) ∧ ∃ P', CAct w w' P P' C (K.baS S1) C1) := by
        refine hba.mono ?_
        rintro r w' ⟨rfl, ml', qv', fv1, hda⟩
        rw [← ha.bd] at hda
        exact ⟨rfl, _, ha.trans (ha.rc.disk (baS_n S1) hda)⟩
      have HX : Hid (settleR ks S C = ((if K.baE S1 = 0 then 0 else 33), K.baS S1, C1)) := by show _ = _; unfold settleR; rw [hbk]; rfl
      clear hd hf hq hbk ha hba HI hdr
      rcases baE_two S1 with he | he
      · simp only [he, if_true] at HX HBA
        go_wp2_with (go_at_call 110; refine HBA.out.mono ?_; rintro r w2 ⟨rfl, ha2⟩)
        go_ret
        rw [HX.out]
        exact ⟨rfl, ha2⟩
      · simp only [he, show ((33 : Int) = 0) = False by simp, if_false] at HX HBA
        go_wp2_with (go_at_call 110; refine HBA.out.mono ?_; rintro r w2 ⟨rfl, ha2⟩)
        go_ret
        rw [HX.out]
        exact ⟨rfl, ha2⟩
end Go.Proofs.YtlacligofhinmaaGreat.C

namespace Go.Proofs.YtlacligofhinmaaGreat.C
open Go.RowKit Go.Maps Go.Shelf Go.Sort Go.Proofs.YtlacligofhinmaaGreat
attribute [local go_sem] Oper.semAt_some
set_option linter.unusedVariables false
set_option linter.unusedSimpArgs false
set_option maxRecDepth 100000

/-- the sectors of the dirty lines that a question picks, rising -/
def dlL (p : Ln → Bool) (L : List Ln) : List Int := sortI ((L.filter fun l => l.dirty && p l).map fun l => (l.sec : Int))
theorem ptrE_ptr {v : Value} {y : DataW Unit × List MemPlace} (h : I.ptrE v = some y) : ∃ c, v = .pointer c := by
  unfold I.ptrE at h
  split at h
  · exact ⟨_, rfl⟩
  · exact ⟨_, rfl⟩
  · cases h
theorem row_base {w : World} {B n s : Nat} {T : TypeId} {v : Value} {xs : List Value} (h : w.ownsRow B T s v n xs) {g : Nat} (hg : v.ownBlock = some g) : B ≤ g := by
  rcases h.2 with ⟨rfl, _⟩ | ⟨g', cap, cur, rfl, hb, _⟩
  · simp [Value.ownBlock] at hg
  · simp [Value.ownBlock] at hg
    omega
theorem same_kl (a b : Int) : (I.kl a).sameKey (I.kl b) = decide (a = b) := by
  simp [I.kl, Lit.sameKey]
/-- the sectors that were gathered, of the lines that a ranging has gone through -/
structure GoneK (p : Ln → Bool) (L : List Ln) (left : Lit → Bool) (ks : List Int) : Prop where
  nd : ks.Nodup
  mem : ∀ k : Int, k ∈ ks ↔ ∃ l ∈ L, (l.sec : Int) = k ∧ (l.dirty && p l) = true ∧ left (I.kl k) = false
section
variable {w : World} {P : Loc} {S : K.Dk} {C : Ch} {p : Ln → Bool} {left : Lit → Bool} {ks : List Int}
theorem secs_nodup (h : RC w P S C) (q : Ln → Bool) : ((C.L.filter q).map fun l => (l.sec : Int)).Nodup := (List.filter_sublist.map _).nodup h.sd
theorem GoneK.done (g : GoneK p C.L left ks) (h : RC w P S C) (hl : ∀ z, left z = false) : ks.Perm ((C.L.filter fun l => l.dirty && p l).map fun l => (l.sec : Int)) := by
  refine (List.perm_ext_iff_of_nodup g.nd (secs_nodup h _)).2 fun k => ?_
  rw [g.mem k, List.mem_map]
  constructor
  · rintro ⟨l, hm, rfl, hy, _⟩
    exact ⟨l, List.mem_filter.2 ⟨hm, hy⟩, rfl⟩
  · rintro ⟨l, hm, rfl⟩
    obtain ⟨h1, h2⟩ := List.mem_filter.1 hm
    exact ⟨l, h1, rfl, h2, hl _⟩
theorem nodup_sub_len : ∀ {a b : List Int}, a.Nodup → (∀ x ∈ a, x ∈ b) → a.length ≤ b.length
  | [], _, _, _ => by simp
  | x :: a, b, hd, hs => by
    have hx := hs x (by simp)
    have ih := nodup_sub_len (a := a) (b := b.erase x) (List.nodup_cons.1 hd).2 (fun y hy => (List.mem_erase_of_ne (fun e => (List.nodup_cons.1 hd).1 (by rw [← e]; exact hy))).2 (hs y (by simp [hy])))
    have := List.length_erase_of_mem hx
    have hpos : 0 < b.length := List.length_pos_of_mem hx
    simp
    omega
theorem GoneK.small (g : GoneK p C.L left ks) (h : RC w P S C) : ks.length ≤ 1024 := by
  have h1 : ks.length ≤ (C.L.map fun l => (l.sec : Int)).length := nodup_sub_len g.nd fun k hk => by
    obtain ⟨l, hl, rfl, _⟩ := (g.mem k).1 hk
    exact List.mem_map.2 ⟨l, hl, rfl⟩
  have h2 := h.lim
  rw [List.length_map] at h1
  omega
theorem GoneK.yes (g : GoneK p C.L left ks) {l : Ln} (hl : l ∈ C.L) (hk : left (I.kl (l.sec : Int)) = true) (hy : (l.dirty && p l) = true) : GoneK p C.L (fun z => left z && !z.sameKey (I.kl (l.sec : Int))) (ks ++ [(l.sec : Int)]) := by
  have hno : (l.sec : Int) ∉ ks := fun hm => by
    obtain ⟨_, _, _, _, hf⟩ := (g.mem _).1 hm
    rw [hk] at hf; cases hf
  refine ⟨?_, fun k => ?_⟩
  · rw [List.nodup_append]
    exact ⟨g.nd, by simp, fun a ha b hb => by simp at hb; subst hb; rintro rfl; exact hno ha⟩
  · rw [List.mem_append, g.mem k]
    simp only [List.mem_singleton, same_kl]
    constructor
    · rintro (⟨x, hx, rfl, h1, h2⟩ | rfl)
      · exact ⟨x, hx, rfl, h1, by simp [h2]⟩
      · exact ⟨l, hl, rfl, hy, by simp⟩
    · rintro ⟨x, hx, rfl, h1, h2⟩
      by_cases e : (x.sec : Int) = l.sec
      · exact .inr e
      · exact .inl ⟨x, hx, rfl, h1, by simpa [e] using h2⟩
theorem GoneK.no (g : GoneK p C.L left ks) (h : RC w P S C) {l : Ln} (hl : l ∈ C.L) (hk : left (I.kl (l.sec : Int)) = true) (hy : (l.dirty && p l) = false) : GoneK p C.L (fun z => left z && !z.sameKey (I.kl (l.sec : Int))) ks := by
  refine ⟨g.nd, fun k => ?_⟩
  rw [g.mem k]
  simp only [same_kl]
  constructor
  · rintro ⟨x, hx, rfl, h1, h2⟩
    exact ⟨x, hx, rfl, h1, by simp [h2]⟩
  · rintro ⟨x, hx, rfl, h1, h2⟩
    by_cases e : (x.sec : Int) = l.sec
    · exfalso
      have e1 := h.atLine hx
      rw [e, h.atLine hl] at e1
      cases e1
      rw [hy] at h1; cases h1
    · exact ⟨x, hx, rfl, h1, by simpa [e] using h2⟩
end
end Go.Proofs.YtlacligofhinmaaGreat.C

namespace Go.Proofs.YtlacligofhinmaaGreat.C
open Go.RowKit Go.Maps Go.Shelf Go.Sort Go.Proofs.YtlacligofhinmaaGreat
attribute [local go_sem] Oper.semAt_some
set_option linter.unusedVariables false
set_option linter.unusedSimpArgs false
set_option maxRecDepth 100000

set_option maxHeartbeats 8000000 in
theorem dirty_data {w : World} {P : Loc} {S : K.Dk} {C : Ch} (h : RC w P S C) :
    Calls Tryz.prog 64 #[.pointer (some ⟨P.bc, 0, none⟩), .func (.func 65) #[] #[]] w fun r w' => ∃ v, r = .returned v ∧ w'.ownsRow (w.heap.size + 1) TIn 1 v (dlL isData C.L).length (IV (dlL isData C.L)) ∧ Below w.heap.size w w' := by
  have hp : Pk 65 isData := pk_data
  have c3 : w.cell? ⟨P.bc, 3, none⟩ = some (.map (some P.bl)) := h.c 3
  have hlim := h.lim
  obtain ⟨D, hm, hmo⟩ := h.lm
  obtain ⟨i0, hi, hz0, hz1, hz2⟩ := info_parts I.A.infoKey
  have HM : Hid (w.ownsMap Tryz.prog TIn I.ptrE P.bl (Maps.size D) D) := hm
  have HRC : Hid (∀ W, Below w.heap.size w W → RC W P S C) := fun W hb => h.later hb
  have HMO : Hid (I.MapOk (C.L.map Ln.ent) D) := hmo
  have HBL : Hid (P.bl < w.heap.size) := hm.lt
  have HP : Hid (Pk 65 isData) := hp
  have HS0 : Hid (GoneK isData C.L (Maps.has D) []) := ⟨List.nodup_nil, fun k => by
    constructor
    · intro hk; cases hk
    · rintro ⟨l, hl, rfl, _, hf⟩
      have := hmo.has_ l.ent (List.mem_map.2 ⟨l, hl, rfl⟩)
      simp only [Ln.ent] at this
      rw [this] at hf; cases hf⟩
  clear h hm hmo hp
  go_enter Tryz.func64, Tryz.ntmps64
  go_wp2_with (at_range; refine wpList_range_own _ rfl _ TLm rfl TIn TLp I.keyed Tryz.underlying107 I.ptrE P.bl _ D rfl HM.out ?_; intro w3 hrg hg3 hs3)
  go_frame
  have HR0 : Hid (w3.ranges Tryz.prog TIn I.ptrE P.bl w.heap.size (Maps.size D) D (Maps.has D) (Maps.size D)) := hrg
  have HB3 : Hid (Below w.heap.size w w3 ∧ w.heap.size + 1 ≤ w3.heap.size) := ⟨⟨hg3.os, hg3.tape, hg3.output, hg3.size, fun i hi => hg3.block i hi (by simp)⟩, by omega⟩
  clear hrg hg3 hs3 HM
  go_loopw [5] (fun v wr => ∃ left cnt ks, Hid (wr.ranges Tryz.prog TIn I.ptrE P.bl w.heap.size (Maps.size D) D left cnt) ∧ Hid (wr.ownsRow (w.heap.size + 1) TIn 1 v ks.length (IV ks)) ∧ Hid (Below w.heap.size w wr ∧ w.heap.size + 1 ≤ wr.heap.size) ∧ Hid (GoneK isData C.L left ks)) (fun _ wr => wr.rangeLeft P.bl w.heap.size)
  case atStart => exact ⟨_, _, [], HR0, World.ownsRow_nil _ _ _ _, HB3, HS0⟩
  case round =>
    obtain ⟨left, cnt, ks, HR, HO, HB, HG⟩ := hrel
    obtain ⟨ao, cap, hu5⟩ := int_form HO.out
    subst hu5
    go_wp2_with (at_next; refine wpList_next_ranges _ rfl _ rfl TIn I.keyed I.ptrE (Value.int .i64) Value.pointer (fun key kl hkey => by obtain ⟨x, rfl, _⟩ := Maps.keyOf_int_inv Tryz.underlying3 hkey; exact ⟨x, rfl⟩) (fun v y hv => ptrE_ptr hv) P.bl w.heap.size _ D left cnt rfl HR.out ?_ ?_)
    · intro hc0 hl0
      have hpm : ks.Perm ((C.L.filter fun l => l.dirty && isData l).map fun l => (l.sec : Int)) := HG.out.done (HRC.out _ HB.out.1) hl0
      have hsc := sort_c HO.out (by have := hpm.length_eq; have h2 := List.length_filter_le (fun l => l.dirty && isData l) C.L; rw [List.length_map] at this; omega)
      have hdl : sortI ks = dlL isData C.L := sortI_congr hpm
      have hdn : ks.length = (dlL isData C.L).length := by rw [← hdl]; exact (sortI_perm ks).length_eq.symm
      have HF : Hid (Calls Tryz.prog 71 #[.slice ao ks.length cap] wr fun e w' => e = .returned (.tuple #[]) ∧ w'.ownsRow (w.heap.size + 1) TIn 1 (.slice ao ks.length cap) (dlL isData C.L).length (IV (dlL isData C.L)) ∧ Below w.heap.size w w') := by
        refine hsc.mono ?_
        rintro e w' ⟨rfl, ho, h1, h2, h3, h4, h5⟩
        rw [hdl] at ho
        refine ⟨rfl, by rw [← hdn]; exact ho, ⟨h1.trans HB.out.1.os, h2.trans HB.out.1.tape, h3.trans HB.out.1.output, Nat.le_trans HB.out.1.size h4, fun i hi => (h5 i (Nat.lt_of_lt_of_le hi HB.out.1.size) (fun e => ?_)).trans (HB.out.1.block i hi)⟩⟩
        have := row_base HO.out e
        omega
      clear hpm hsc hdl hdn hl0 HG HR HO
      go_wp2_with (go_at_call 71; refine HF.out.mono ?_; rintro e w9 ⟨rfl, ho, hb⟩)
      go_ret
      exact ⟨_, rfl, ho, hb⟩
    · intro x c kl' y1 y2 w4 cnt1 hkey hlk hv hat hrg1 hlt1 hg1 hs1 hen
      obtain ⟨x', ex, rfl, hwx⟩ := Maps.keyOf_int_inv Tryz.underlying3 hkey
      cases ex
      obtain ⟨l, hl, hls⟩ : ∃ l ∈ C.L, (l.sec : Int) = x := by
        by_cases hin : ∃ l ∈ C.L, (l.sec : Int) = x
        · exact hin
        · exfalso
          have hno := HMO.out.no x (fun e he hek => by obtain ⟨l, hl, rfl⟩ := List.mem_map.1 he; exact hin ⟨l, hl, hek⟩)
          rw [Maps.has_true_of_atKey hat] at hno
          cases hno
      subst hls
      have hy := HMO.out.at_ l.ent (List.mem_map.2 ⟨l, hl, rfl⟩)
      have hc : Value.pointer c = .pointer (some ⟨l.blk, 0, none⟩) := by
        have h1 : y1 = .lit (.int .i64 l.blk) := by rw [← hat .nil]; exact hy
        exact I.ptrE_some (ps := y2) (by rw [hv, h1])
      cases hc
      have hB4 : Below w.heap.size w w4 := HB.out.1.grown hg1 HB.out.1.size (fun g e => by cases e; exact Nat.le_refl _)
      have hrc := HRC.out w4 hB4
      have cd : w4.cell? ⟨l.blk, 512, none⟩ = some (.bool l.dirty) := (hrc.lcell hl 512).trans (lcells_dirty (hrc.ok l hl).2)
      have hpk := HP.out w4 l (hrc.ln l hl) (hrc.ok l hl).2
      have hO4 : w4.ownsRow (w.heap.size + 1) TIn 1 (.slice ao ks.length cap) ks.length (IV ks) := K.ownsRow_block HO.out fun g hg => hg1.block g (K.row_lt HO.out g hg).1 (fun e => by have := row_base HO.out hg; cases e; omega)
      have HR4 : Hid (w4.ranges Tryz.prog TIn I.ptrE P.bl w.heap.size (Maps.size D) D (fun z => left z && !z.sameKey (I.kl (l.sec : Int))) cnt1) := hrg1
      have HB4 : Hid (Below w.heap.size w w4 ∧ w.heap.size + 1 ≤ w4.heap.size) := ⟨hB4, by rw [hs1]; exact HB.out.2⟩
      have HCN : Hid (wr.rangeLeft P.bl w.heap.size = cnt ∧ cnt1 < cnt) := ⟨HR.out.left_eq, hlt1⟩
      have HO4 : Hid (w4.ownsRow (w.heap.size + 1) TIn 1 (.slice ao ks.length cap) ks.length (IV ks)) := hO4
      have HKL : Hid (ks.length ≤ 1024) := by
        have := HG.out.small (HRC.out _ HB.out.1)
        show ks.length ≤ 1024
        omega
      have HGY : Hid ((l.dirty && isData l) = true → GoneK isData C.L (fun z => left z && !z.sameKey (I.kl (l.sec : Int))) (ks ++ [(l.sec : Int)])) := fun hy => HG.out.yes hl hlk hy
      have HGN : Hid ((l.dirty && isData l) = false → GoneK isData C.L (fun z => left z && !z.sameKey (I.kl (l.sec : Int))) ks) := fun hy => HG.out.no (HRC.out _ HB.out.1) hl hlk hy
      clear hB4 hrc hO4 hrg1 hlt1 hg1 hs1 hv hat hkey hwx hlk hy HG HR HO HB hl
      generalize hdy : l.dirty = dy at *
      cases dy
      · go_wp2
        go_roundw
        case rel => exact ⟨_, _, ks, HR4, HO4, HB4, HGN.out rfl⟩
        case measure => rw [HR4.out.left_eq, HCN.out.1]; exact HCN.out.2
      · generalize hlp : isData l = lp at *
        cases lp
        · go_wp2_with (go_at_call 65; refine hpk.mono ?_; rintro r w9 ⟨rfl, hw9⟩; rw [hw9]; clear hw9)
          go_roundw
          case rel => exact ⟨_, _, ks, HR4, HO4, HB4, HGN.out rfl⟩
          case measure => rw [HR4.out.left_eq, HCN.out.1]; exact HCN.out.2
        · go_wp2_with (first | (go_at_call 65; refine hpk.mono ?_; rintro r w9 ⟨rfl, hw9⟩; rw [hw9]; clear hw9) | (at_builtin; refine wpList_append_own_at _ rfl _ _ 39 rfl (w.heap.size + 1) TIn i0 _ 1 8 Tryz.underlying39 hi hz0 hz1 hz2 rfl (by decide) (.slice ao ks.length cap) ks.length (IV ks) rfl (HO4.out.alloc _) ⟨w4.heap.size, 0, none⟩ 1 1 [.int .i64 l.sec] rfl rfl (I.A.news1 _ _) (by simp [Value.oneCell']) (by have := HKL.out; unfold maxLen; omega) (by have := HKL.out; omega) (by have := HB4.out.2; simp; omega) ?_; intro v' w5 hown5 hgrow5 _ hat5))
          have ha5 : w4.grownBy (w4.alloc (.cells #[.int .i64 l.sec] TIn)) none := World.grownBy_alloc w4 _ none
          have HR5 : Hid (w5.ranges Tryz.prog TIn I.ptrE P.bl w.heap.size (Maps.size D) D (fun z => left z && !z.sameKey (I.kl (l.sec : Int))) cnt1) := (HR4.out.alloc _).kept hgrow5 (fun e => by have := row_base HO4.out e.symm; have h2 := HBL.out; omega) (fun e => by have := row_base HO4.out e.symm; omega)
          have HO5 : Hid (w5.ownsRow (w.heap.size + 1) TIn 1 v' (ks ++ [(l.sec : Int)]).length (IV (ks ++ [(l.sec : Int)]))) := by
            rw [List.length_append, IV, List.map_append]
            exact hown5
          have HB5 : Hid (Below w.heap.size w w5 ∧ w.heap.size + 1 ≤ w5.heap.size) := by
            have h1 : Below w.heap.size w (w4.alloc (.cells #[.int .i64 l.sec] TIn)) := HB4.out.1.alloc HB4.out.1.size _
            refine ⟨h1.grown hgrow5 h1.size (fun g e => by have := row_base HO4.out e; omega), ?_⟩
            have h2 := hgrow5.size
            have h3 := HB4.out.2
            simp at h2
            omega
          clear hown5 hgrow5 hat5 ha5
          go_wp2
          go_roundw
          case rel => exact ⟨_, _, _, HR5, HO5, HB5, HGY.out rfl⟩
          case measure => rw [HR5.out.left_eq, HCN.out.1]; exact HCN.out.2
end Go.Proofs.YtlacligofhinmaaGreat.C

namespace Go.Proofs.YtlacligofhinmaaGreat.C
open Go.RowKit Go.Maps Go.Shelf Go.Sort Go.Proofs.YtlacligofhinmaaGreat
attribute [local go_sem] Oper.semAt_some
set_option linter.unusedVariables false
set_option linter.unusedSimpArgs false
set_option maxRecDepth 100000

set_option maxHeartbeats 8000000 in
theorem dirty_note {w : World} {P : Loc} {S : K.Dk} {C : Ch} (h : RC w P S C) :
    Calls Tryz.prog 64 #[.pointer (some ⟨P.bc, 0, none⟩), .func (.func 67) #[] #[]] w fun r w' => ∃ v, r = .returned v ∧ w'.ownsRow (w.heap.size + 1) TIn 1 v (dlL isNoted C.L).length (IV (dlL isNoted C.L)) ∧ Below w.heap.size w w' := by
  have hp : Pk 67 isNoted := pk_note
  have c3 : w.cell? ⟨P.bc, 3, none⟩ = some (.map (some P.bl)) := h.c 3
  have hlim := h.lim
  obtain ⟨D, hm, hmo⟩ := h.lm
  obtain ⟨i0, hi, hz0, hz1, hz2⟩ := info_parts I.A.infoKey
  have HM : Hid (w.ownsMap Tryz.prog TIn I.ptrE P.bl (Maps.size D) D) := hm
  have HRC : Hid (∀ W, Below w.heap.size w W → RC W P S C) := fun W hb => h.later hb
  have HMO : Hid (I.MapOk (C.L.map Ln.ent) D) := hmo
  have HBL : Hid (P.bl < w.heap.size) := hm.lt
  have HP : Hid (Pk 67 isNoted) := hp
  have HS0 : Hid (GoneK isNoted C.L (Maps.has D) []) := ⟨List.nodup_nil, fun k => by
    constructor
    · intro hk; cases hk
    · rintro ⟨l, hl, rfl, _, hf⟩
      have := hmo.has_ l.ent (List.mem_map.2 ⟨l, hl, rfl⟩)
      simp only [Ln.ent] at this
      rw [this] at hf; cases hf⟩
  clear h hm hmo hp
  go_enter Tryz.func64, Tryz.ntmps64
  go_wp2_with (at_range; refine wpList_range_own _ rfl _ TLm rfl TIn TLp I.keyed Tryz.underlying107 I.ptrE P.bl _ D rfl HM.out ?_; intro w3 hrg hg3 hs3)
  go_frame
  have HR0 : Hid (w3.ranges Tryz.prog TIn I.ptrE P.bl w.heap.size (Maps.size D) D (Maps.has D) (Maps.size D)) := hrg
  have HB3 : Hid (Below w.heap.size w w3 ∧ w.heap.size + 1 ≤ w3.heap.size) := ⟨⟨hg3.os, hg3.tape, hg3.output, hg3.size, fun i hi => hg3.block i hi (by simp)⟩, by omega⟩
  clear hrg hg3 hs3 HM
  go_loopw [5] (fun v wr => ∃ left cnt ks, Hid (wr.ranges Tryz.prog TIn I.ptrE P.bl w.heap.size (Maps.size D) D left cnt) ∧ Hid (wr.ownsRow (w.heap.size + 1) TIn 1 v ks.length (IV ks)) ∧ Hid (Below w.heap.size w wr ∧ w.heap.size + 1 ≤ wr.heap.size) ∧ Hid (GoneK isNoted C.L left ks)) (fun _ wr => wr.rangeLeft P.bl w.heap.size)
  case atStart => exact ⟨_, _, [], HR0, World.ownsRow_nil _ _ _ _, HB3, HS0⟩
  case round =>
    obtain ⟨left, cnt, ks, HR, HO, HB, HG⟩ := hrel
    obtain ⟨ao, cap, hu5⟩ := int_form HO.out
    subst hu5
    go_wp2_with (at_next; refine wpList_next_ranges _ rfl _ rfl TIn I.keyed I.ptrE (Value.int .i64) Value.pointer (fun key kl hkey => by obtain ⟨x, rfl, _⟩ := Maps.keyOf_int_inv Tryz.underlying3 hkey; exact ⟨x, rfl⟩) (fun v y hv => ptrE_ptr hv) P.bl w.heap.size _ D left cnt rfl HR.out ?_ ?_)
    · intro hc0 hl0
      have hpm : ks.Perm ((C.L.filter fun l => l.dirty && isNoted l).map fun l => (l.sec : Int)) := HG.out.done (HRC.out _ HB.out.1) hl0
      have hsc := sort_c HO.out (by have := hpm.length_eq; have h2 := List.length_filter_le (fun l => l.dirty && isNoted l) C.L; rw [List.length_map] at this; omega)
      have hdl : sortI ks = dlL isNoted C.L := sortI_congr hpm
      have hdn : ks.length = (dlL isNoted C.L).length := by rw [← hdl]; exact (sortI_perm ks).length_eq.symm
      have HF : Hid (Calls Tryz.prog 71 #[.slice ao ks.length cap] wr fun e w' => e = .returned (.tuple #[]) ∧ w'.ownsRow (w.heap.size + 1) TIn 1 (.slice ao ks.length cap) (dlL isNoted C.L).length (IV (dlL isNoted C.L)) ∧ Below w.heap.size w w') := by
        refine hsc.mono ?_
        rintro e w' ⟨rfl, ho, h1, h2, h3, h4, h5⟩
        rw [hdl] at ho
        refine ⟨rfl, by rw [← hdn]; exact ho, ⟨h1.trans HB.out.1.os, h2.trans HB.out.1.tape, h3.trans HB.out.1.output, Nat.le_trans HB.out.1.size h4, fun i hi => (h5 i (Nat.lt_of_lt_of_le hi HB.out.1.size) (fun e => ?_)).trans (HB.out.1.block i hi)⟩⟩
        have := row_base HO.out e
        omega
      clear hpm hsc hdl hdn hl0 HG HR HO
      go_wp2_with (go_at_call 71; refine HF.out.mono ?_; rintro e w9 ⟨rfl, ho, hb⟩)
      go_ret
      exact ⟨_, rfl, ho, hb⟩
    · intro x c kl' y1 y2 w4 cnt1 hkey hlk hv hat hrg1 hlt1 hg1 hs1 hen
      obtain ⟨x', ex, rfl, hwx⟩ := Maps.keyOf_int_inv Tryz.underlying3 hkey
      cases ex
      obtain ⟨l, hl, hls⟩ : ∃ l ∈ C.L, (l.sec : Int) = x := by
        by_cases hin : ∃ l ∈ C.L, (l.sec : Int) = x
        · exact hin
        · exfalso
          have hno := HMO.out.no x (fun e he hek => by obtain ⟨l, hl, rfl⟩ := List.mem_map.1 he; exact hin ⟨l, hl, hek⟩)
          rw [Maps.has_true_of_atKey hat] at hno
          cases hno
      subst hls
      have hy := HMO.out.at_ l.ent (List.mem_map.2 ⟨l, hl, rfl⟩)
      have hc : Value.pointer c = .pointer (some ⟨l.blk, 0, none⟩) := by
        have h1 : y1 = .lit (.int .i64 l.blk) := by rw [← hat .nil]; exact hy
        exact I.ptrE_some (ps := y2) (by rw [hv, h1])
      cases hc
      have hB4 : Below w.heap.size w w4 := HB.out.1.grown hg1 HB.out.1.size (fun g e => by cases e; exact Nat.le_refl _)
      have hrc := HRC.out w4 hB4
      have cd : w4.cell? ⟨l.blk, 512, none⟩ = some (.bool l.dirty) := (hrc.lcell hl 512).trans (lcells_dirty (hrc.ok l hl).2)
      have hpk := HP.out w4 l (hrc.ln l hl) (hrc.ok l hl).2
      have hO4 : w4.ownsRow (w.heap.size + 1) TIn 1 (.slice ao ks.length cap) ks.length (IV ks) := K.ownsRow_block HO.out fun g hg => hg1.block g (K.row_lt HO.out g hg).1 (fun e => by have := row_base HO.out hg; cases e; omega)
      have HR4 : Hid (w4.ranges Tryz.prog TIn I.ptrE P.bl w.heap.size (Maps.size D) D (fun z => left z && !z.sameKey (I.kl (l.sec : Int))) cnt1) := hrg1
      have HB4 : Hid (Below w.heap.size w w4 ∧ w.heap.size + 1 ≤ w4.heap.size) := ⟨hB4, by rw [hs1]; exact HB.out.2⟩
      have HCN : Hid (wr.rangeLeft P.bl w.heap.size = cnt ∧ cnt1 < cnt) := ⟨HR.out.left_eq, hlt1⟩
      have HO4 : Hid (w4.ownsRow (w.heap.size + 1) TIn 1 (.slice ao ks.length cap) ks.length (IV ks)) := hO4
      have HKL : Hid (ks.length ≤ 1024) := by
        have := HG.out.small (HRC.out _ HB.out.1)
        show ks.length ≤ 1024
        omega
      have HGY : Hid ((l.dirty && isNoted l) = true → GoneK isNoted C.L (fun z => left z && !z.sameKey (I.kl (l.sec : Int))) (ks ++ [(l.sec : Int)])) := fun hy => HG.out.yes hl hlk hy
      have HGN : Hid ((l.dirty && isNoted l) = false → GoneK isNoted C.L (fun z => left z && !z.sameKey (I.kl (l.sec : Int))) ks) := fun hy => HG.out.no (HRC.out _ HB.out.1) hl hlk hy
      clear hB4 hrc hO4 hrg1 hlt1 hg1 hs1 hv hat hkey hwx hlk hy HG HR HO HB hl
      generalize hdy : l.dirty = dy at *
      cases dy
      · go_wp2
        go_roundw
        case rel => exact ⟨_, _, ks, HR4, HO4, HB4, HGN.out rfl⟩
        case measure => rw [HR4.out.left_eq, HCN.out.1]; exact HCN.out.2
      · generalize hlp : isNoted l = lp at *
        cases lp
        · go_wp2_with (go_at_call 67; refine hpk.mono ?_; rintro r w9 ⟨rfl, hw9⟩; rw [hw9]; clear hw9)
          go_roundw
          case rel => exact ⟨_, _, ks, HR4, HO4, HB4, HGN.out rfl⟩
          case measure => rw [HR4.out.left_eq, HCN.out.1]; exact HCN.out.2
        · go_wp2_with (first | (go_at_call 67; refine hpk.mono ?_; rintro r w9 ⟨rfl, hw9⟩; rw [hw9]; clear hw9) | (at_builtin; refine wpList_append_own_at _ rfl _ _ 39 rfl (w.heap.size + 1) TIn i0 _ 1 8 Tryz.underlying39 hi hz0 hz1 hz2 rfl (by decide) (.slice ao ks.length cap) ks.length (IV ks) rfl (HO4.out.alloc _) ⟨w4.heap.size, 0, none⟩ 1 1 [.int .i64 l.sec] rfl rfl (I.A.news1 _ _) (by simp [Value.oneCell']) (by have := HKL.out; unfold maxLen; omega) (by have := HKL.out; omega) (by have := HB4.out.2; simp; omega) ?_; intro v' w5 hown5 hgrow5 _ hat5))
          have ha5 : w4.grownBy (w4.alloc (.cells #[.int .i64 l.sec] TIn)) none := World.grownBy_alloc w4 _ none
          have HR5 : Hid (w5.ranges Tryz.prog TIn I.ptrE P.bl w.heap.size (Maps.size D) D (fun z => left z && !z.sameKey (I.kl (l.sec : Int))) cnt1) := (HR4.out.alloc _).kept hgrow5 (fun e => by have := row_base HO4.out e.symm; have h2 := HBL.out; omega) (fun e => by have := row_base HO4.out e.symm; omega)
          have HO5 : Hid (w5.ownsRow (w.heap.size + 1) TIn 1 v' (ks ++ [(l.sec : Int)]).length (IV (ks ++ [(l.sec : Int)]))) := by
            rw [List.length_append, IV, List.map_append]
            exact hown5
          have HB5 : Hid (Below w.heap.size w w5 ∧ w.heap.size + 1 ≤ w5.heap.size) := by
            have h1 : Below w.heap.size w (w4.alloc (.cells #[.int .i64 l.sec] TIn)) := HB4.out.1.alloc HB4.out.1.size _
            refine ⟨h1.grown hgrow5 h1.size (fun g e => by have := row_base HO4.out e; omega), ?_⟩
            have h2 := hgrow5.size
            have h3 := HB4.out.2
            simp at h2
            omega
          clear hown5 hgrow5 hat5 ha5
          go_wp2
          go_roundw
          case rel => exact ⟨_, _, _, HR5, HO5, HB5, HGY.out rfl⟩
          case measure => rw [HR5.out.left_eq, HCN.out.1]; exact HCN.out.2
end Go.Proofs.YtlacligofhinmaaGreat.C

namespace Go.Proofs.YtlacligofhinmaaGreat.C
open Go.RowKit Go.Maps Go.Shelf Go.Sort Go.Proofs.YtlacligofhinmaaGreat
attribute [local go_sem] Oper.semAt_some
set_option linter.unusedVariables false
set_option linter.unusedSimpArgs false
set_option maxRecDepth 100000

abbrev secs (L : List Ln) : List Int := L.map fun l => (l.sec : Int)
theorem at_line {L : List Ln} (hd : (secs L).Nodup) {l : Ln} (hm : l ∈ L) : lineAt L l.sec = some l := by
  cases e : lineAt L l.sec with
  | none => exact absurd rfl (lineAt_none e l hm)
  | some x =>
    obtain ⟨hx, hxs⟩ := lineAt_mem e
    congr 1
    obtain ⟨i, hi, ei⟩ := List.getElem_of_mem hx
    obtain ⟨j, hj, ej⟩ := List.getElem_of_mem hm
    have : i = j := (List.getElem_inj (h₀ := by simpa using hi) (h₁ := by simpa using hj) hd).1 (by simp [ei, ej, hxs])
    subst this
    rw [← ei, ej]
theorem secs_cleanL (L : List Ln) (s : Int) : secs (cleanL L s) = secs L := by
  unfold secs cleanL
  rw [List.map_map]
  refine List.map_congr_left fun x _ => ?_
  simp only [Function.comp]
  split <;> rfl
theorem secs_wbC (S : K.Dk) (C : Ch) (s : Int) : secs (wbC S C s).L = secs C.L := by
  unfold wbC
  split
  · split
    · exact secs_cleanL _ _
    · rfl
  · rfl
theorem wbE_two (S : K.Dk) (C : Ch) (s : Int) : wbE S C s = 0 ∨ wbE S C s = 33 := by
  unfold wbE
  split
  · split
    · exact .inl rfl
    · exact .inr rfl
  · exact .inl rfl
theorem dirt_next {S : K.Dk} {C : Ch} {s : Int} {ks : List Int} (hsd : (secs C.L).Nodup) (hd : Dirt (s :: ks) C) (he : wbE S C s = 0) :
    Dirt ks (wbC S C s) ∧ (wbS S C s).q.length + dirtyN (wbC S C s).L ≤ S.q.length + dirtyN C.L ∧ ∀ l ∈ (wbC S C s).L, l.dirty = true → l ∈ C.L ∧ (l.sec : Int) ≠ s := by
  obtain ⟨l, hl, rfl, hdy⟩ := hd.has s (by simp)
  obtain ⟨L1, L2, hL, _, _⟩ := lineAt_split (at_line hsd hl)
  have hsd' := hsd
  rw [hL] at hsd'
  unfold wbE at he
  unfold wbS wbC
  rw [at_line hsd hl] at he ⊢
  simp only at he ⊢
  by_cases hw : K.wrE S l.sec l.dat = 0
  · rw [if_pos hw]
    refine ⟨⟨(List.nodup_cons.1 hd.nd).2, fun t ht => ?_⟩, ?_, ?_⟩
    · obtain ⟨x, hx, rfl, hxd⟩ := hd.has t (by simp [ht])
      refine ⟨x, mem_cleanL hx (fun e => (List.nodup_cons.1 hd.nd).1 (by rw [← e]; exact ht)), rfl, hxd⟩
    · have h1 := K.wrS_q S l.sec l.dat
      have h2 : dirtyN (cleanL C.L l.sec) + 1 = dirtyN C.L := by rw [hL, cleanL_split hsd']; exact dirtyN_clean hdy
      simp only
      omega
    · intro x hx hxd
      unfold cleanL at hx
      obtain ⟨y, hy, e⟩ := List.mem_map.1 hx
      by_cases hys : (y.sec : Int) = l.sec
      · rw [if_pos hys] at e
        rw [← e] at hxd
        cases hxd
      · rw [if_neg hys] at e
        subst e
        exact ⟨hy, hys⟩
  · rw [if_neg hw] at he
    omega
theorem wbS_n (S : K.Dk) (C : Ch) (s : Int) : (wbS S C s).n = S.n := by
  unfold wbS
  split
  · exact wrS_n _ _ _
  · rfl
theorem wbS_q (S : K.Dk) (C : Ch) (s : Int) : (wbS S C s).q.length ≤ S.q.length + 1 := by
  unfold wbS
  split
  · exact K.wrS_q _ _ _
  · omega
theorem wbC_bad {S : K.Dk} {C : Ch} {s : Int} (h : wbE S C s ≠ 0) : wbC S C s = C := by
  unfold wbE at h
  unfold wbC
  split
  · rename_i l hl
    rw [hl] at h
    simp only at h
    split
    · rename_i h0; rw [if_pos h0] at h; exact absurd rfl h
    · rfl
  · rfl
/-- what stays so through the writing back -/
structure Kept (S : K.Dk) (C : Ch) (e : Int) (S' : K.Dk) (C' : Ch) : Prop where
  fs : K.FsOk S.fs → K.FsOk S'.fs
  n : S'.n = S.n
  sec : secs C'.L = secs C.L
  phi : S'.q.length + dirtyN C'.L ≤ S.q.length + dirtyN C.L + (if e = 0 then 0 else 1)
  two : e = 0 ∨ e = 33
  old : ∀ l ∈ C'.L, l.dirty = true → l ∈ C.L
theorem backs_ok : ∀ (ks : List Int) (S : K.Dk) (C : Ch), (secs C.L).Nodup → Dirt ks C → Kept S C (backs ks S C).1 (backs ks S C).2.1 (backs ks S C).2.2 ∧ ((backs ks S C).1 = 0 → ∀ l ∈ (backs ks S C).2.2.L, l.dirty = true → (l.sec : Int) ∉ ks)
  | [], S, C, hsd, hd => ⟨⟨id, rfl, rfl, by simp [backs], .inl rfl, fun l hl _ => hl⟩, fun _ l _ _ => by simp⟩
  | s :: ks, S, C, hsd, hd => by
    rw [backs_cons]
    rcases wbE_two S C s with he | he
    · rw [if_pos he]
      obtain ⟨h1, h2, h3⟩ := dirt_next hsd hd he
      obtain ⟨k, c⟩ := backs_ok ks (wbS S C s) (wbC S C s) (by rw [secs_wbC]; exact hsd) h1
      refine ⟨⟨fun hf => k.fs (wbS_ok hf), k.n.trans (wbS_n _ _ _), k.sec.trans (secs_wbC _ _ _), by have := k.phi; omega, k.two, fun l hl hdy => (h3 l (k.old l hl hdy) hdy).1⟩, fun h0 l hl hdy hm => ?_⟩
      rcases List.mem_cons.1 hm with e | hm
      · exact (h3 l (k.old l hl hdy) hdy).2 e
      · exact c h0 l hl hdy hm
    · rw [if_neg (by omega)]
      have hc := wbC_bad (S := S) (C := C) (s := s) (by omega)
      refine ⟨⟨fun hf => wbS_ok hf, wbS_n _ _ _, secs_wbC _ _ _, ?_, .inr rfl, fun l hl _ => by simp only [hc] at hl; exact hl⟩, fun h0 => by simp at h0⟩
      have := wbS_q S C s
      simp only [hc]
      simp
      omega
theorem settle_ok {ks : List Int} {S : K.Dk} {C : Ch} (hsd : (secs C.L).Nodup) (hd : Dirt ks C) : Kept S C (settleR ks S C).1 (settleR ks S C).2.1 (settleR ks S C).2.2 ∧ ((settleR ks S C).1 = 0 → ∀ l ∈ (settleR ks S C).2.2.L, l.dirty = true → (l.sec : Int) ∉ ks) := by
  obtain ⟨k, c⟩ := backs_ok ks S C hsd hd
  unfold settleR
  by_cases h0 : (backs ks S C).1 = 0
  · rw [if_pos h0]
    have hphi := k.phi
    rw [if_pos h0] at hphi
    have hq := K.baS_q (backs ks S C).2.1
    refine ⟨⟨fun hf => K.baS_ok (k.fs hf), (baS_n _).trans k.n, k.sec, ?_, ?_, k.old⟩, fun _ => c h0⟩
    · simp only
      split <;> omega
    · simp only
      split
      · exact .inl rfl
      · exact .inr rfl
  · rw [if_neg h0]
    exact ⟨k, c⟩
theorem dirt_dl {p : Ln → Bool} {C : Ch} (hsd : (secs C.L).Nodup) : Dirt (dlL p C.L) C := by
  refine ⟨(sortI_perm _).nodup_iff.2 ((List.filter_sublist.map _).nodup hsd), fun s hs => ?_⟩
  obtain ⟨l, hl, rfl⟩ := List.mem_map.1 ((sortI_perm _).mem_iff.1 hs)
  obtain ⟨h1, h2⟩ := List.mem_filter.1 hl
  simp only [Bool.and_eq_true] at h2
  exact ⟨l, h1, rfl, h2.1⟩
theorem mem_dl {p : Ln → Bool} {L : List Ln} {l : Ln} (hl : l ∈ L) (hd : l.dirty = true) (hp : p l = true) : (l.sec : Int) ∈ dlL p L :=
  (sortI_perm _).mem_iff.2 (List.mem_map.2 ⟨l, List.mem_filter.2 ⟨hl, by simp [hd, hp]⟩, rfl⟩)
theorem dl_len (p : Ln → Bool) (L : List Ln) : (dlL p L).length ≤ L.length := by
  unfold dlL
  rw [(sortI_perm _).length_eq, List.length_map]
  exact List.length_filter_le _ _
/-- Flush -/
def flushR (S : K.Dk) (C : Ch) : Int × K.Dk × Ch :=
  if (settleR (dlL isData C.L) S C).1 = 0 then
    (if (dlL isNoted (settleR (dlL isData C.L) S C).2.2.L).length = 0 then settleR (dlL isData C.L) S C
     else settleR (dlL isNoted (settleR (dlL isData C.L) S C).2.2.L) (settleR (dlL isData C.L) S C).2.1 (settleR (dlL isData C.L) S C).2.2)
  else settleR (dlL isData C.L) S C
theorem flush_ok {S : K.Dk} {C : Ch} (hsd : (secs C.L).Nodup) : Kept S C (flushR S C).1 (flushR S C).2.1 (flushR S C).2.2 ∧ ((flushR S C).1 = 0 → ∀ l ∈ (flushR S C).2.2.L, l.dirty = false) := by
  obtain ⟨k, c⟩ := settle_ok (S := S) hsd (dirt_dl (p := isData) hsd)
  unfold flushR
  generalize hr : settleR (dlL isData C.L) S C = r at *
  obtain ⟨e, S1, C1⟩ := r
  simp only at k c ⊢
  have hsd1 : (secs C1.L).Nodup := by rw [k.sec]; exact hsd
  by_cases h0 : e = 0
  · rw [if_pos h0]
    subst h0
    have hc := c rfl
    have hdat : ∀ l ∈ C1.L, l.dirty = true → l.note = true := fun l hl hdy => by
      cases hn : l.note with
      | true => rfl
      | false => exact absurd (mem_dl (k.old l hl hdy) hdy (show isData l = true by simp [isData, hn])) (hc l hl hdy)
    by_cases hz : (dlL isNoted C1.L).length = 0
    · rw [if_pos hz]
      refine ⟨k, fun _ l hl => ?_⟩
      cases hdy : l.dirty with
      | false => rfl
      | true =>
        have := mem_dl hl hdy (show isNoted l = true from hdat l hl hdy)
        rw [List.length_eq_zero_iff.1 hz] at this
        cases this
    · rw [if_neg hz]
      obtain ⟨k2, c2⟩ := settle_ok (S := S1) hsd1 (dirt_dl (p := isNoted) hsd1)
      have hphi := k.phi
      have hphi2 := k2.phi
      simp only [if_true] at hphi
      refine ⟨⟨fun hf => k2.fs (k.fs hf), k2.n.trans k.n, k2.sec.trans k.sec, by omega, k2.two, fun l hl hdy => k.old l (k2.old l hl hdy) hdy⟩, fun he l hl => ?_⟩
      cases hdy : l.dirty with
      | false => rfl
      | true => exact absurd (mem_dl (k2.old l hl hdy) hdy (show isNoted l = true from hdat l (k2.old l hl hdy) hdy)) (c2 he l hl hdy)
  · rw [if_neg h0]
    exact ⟨k, fun he => absurd he h0⟩
section
variable {w w' : World} {P : Loc} {S S' : K.Dk} {C C' : Ch}
theorem far_new (h : RC w P S C) {v : Value} {W : World} {B n : Nat} {xs : List Value} (hB : w.heap.size ≤ B) (hr : W.ownsRow B TIn 1 v n xs) : ∀ g, v.ownBlock = some g → g ∉ P.fp C.L := fun g hg hm => by
  have h1 := row_base hr hg
  have h2 := h.lt g hm
  omega
set_option maxHeartbeats 4000000 in
theorem flush_c (h : RC w P S C) (hf : K.FsOk S.fs) (hq : S.q.length + dirtyN C.L < 1048576) :
    Calls Tryz.prog 24 #[.pointer (some ⟨P.bc, 0, none⟩)] w fun r w' => r = .returned (.int .i64 (flushR S C).1) ∧ ∃ P', CAct w w' P P' C (flushR S C).2.1 (flushR S C).2.2 := by
  have hu := usable_c h
  have hlim := h.lim
  have hsd : (secs C.L).Nodup := h.sd
  obtain ⟨k, c⟩ := settle_ok (S := S) hsd (dirt_dl (p := isData) hsd)
  have hl1 := dl_len isData C.L
  -- the data lines
  have HD1 : Hid (Calls Tryz.prog 64 #[.pointer (some ⟨P.bc, 0, none⟩), .func (.func 65) #[] #[]] w fun r w1 => ∃ v, r = .returned v ∧ Calls Tryz.prog 66 #[.pointer (some ⟨P.bc, 0, none⟩), v] w1 fun r w' => r = .returned (.int .i64 (settleR (dlL isData C.L) S C).1) ∧ ∃ P', CAct w w' P P' C (settleR (dlL isData C.L) S C).2.1 (settleR (dlL isData C.L) S C).2.2) := by
    refine (dirty_data h).mono ?_
    rintro r w1 ⟨v, rfl, ho, hb⟩
    have h1 := h.later hb
    refine ⟨v, rfl, (settle_c h1 hf hq ho (far_new h (by omega) ho) (dirt_dl hsd) (by omega)).mono ?_⟩
    rintro r w' ⟨rfl, P', ha⟩
    exact ⟨rfl, P', ha.from_later hb h.lt⟩
  -- the notes
  have HD2 : Hid (∀ (w1 : World) (P1 : Loc) (S1 : K.Dk) (C1 : Ch), CAct w w1 P P1 C S1 C1 → K.FsOk S1.fs → S1.q.length + dirtyN C1.L < 1048576 → (secs C1.L).Nodup → C1.L.length ≤ 1024 → Calls Tryz.prog 64 #[.pointer (some ⟨P.bc, 0, none⟩), .func (.func 67) #[] #[]] w1 fun r w2 => ∃ ao cap, r = .returned (.slice ao (dlL isNoted C1.L).length cap) ∧ (∃ P', CAct w w2 P P' C S1 C1) ∧ Calls Tryz.prog 66 #[.pointer (some ⟨P.bc, 0, none⟩), .slice ao (dlL isNoted C1.L).length cap] w2 fun r w' => r = .returned (.int .i64 (settleR (dlL isNoted C1.L) S1 C1).1) ∧ ∃ P', CAct w w' P P' C (settleR (dlL isNoted C1.L) S1 C1).2.1 (settleR (dlL isNoted C1.L) S1 C1).2.2) := fun w1 P1 S1 C1 ha hf1 hq1 hsd1 hl1 => by
    have hdn := dirty_note ha.rc
    rw [ha.bc] at hdn
    refine hdn.mono ?_
    rintro r w2 ⟨v, rfl, ho, hb⟩
    obtain ⟨ao, cap, rfl⟩ := int_form ho
    have h2 := ha.rc.later hb
    have hl2 := dl_len isNoted C1.L
    have hsc := settle_c h2 hf1 hq1 ho (far_new ha.rc (by omega) ho) (dirt_dl hsd1) (by omega)
    rw [ha.bc] at hsc
    refine ⟨ao, cap, rfl, ⟨P1, ha.later hb⟩, hsc.mono ?_⟩
    rintro r w' ⟨rfl, P', ha'⟩
    exact ⟨rfl, P', ha.trans (ha'.from_later hb ha.rc.lt)⟩
  unfold flushR
  generalize hr : settleR (dlL isData C.L) S C = r at *
  obtain ⟨e, S1, C1⟩ := r
  simp only at k c HD1 ⊢
  have hphi := k.phi
  have hlen : C1.L.length ≤ 1024 := by
    have := congrArg List.length k.sec
    simp only [secs, List.length_map] at this
    omega
  rcases k.two with he | he
  · subst he
    simp only [if_true] at hphi ⊢
    have H2 : Hid (∀ (w1 : World) (P1 : Loc), CAct w w1 P P1 C S1 C1 → _) := fun w1 P1 ha => HD2.out w1 P1 S1 C1 ha (k.fs hf) (by omega) (by rw [k.sec]; exact hsd) hlen
    by_cases hz : (dlL isNoted C1.L).length = 0
    · rw [if_pos hz]
      simp only [hz] at H2
      clear k c hphi hlen HD2 h hq hf hr hl1 hsd
      go_enter Tryz.func24, Tryz.ntmps24
      go_wp2_with (first | (go_at_call 63; refine hu.mono ?_; rintro e w9 ⟨rfl, hw9⟩; rw [hw9]; clear hw9 hu) | (go_at_call 64; refine HD1.out.mono ?_; clear HD1; rintro r w1 ⟨v, rfl, hst⟩) | (go_at_call 66; refine hst.mono ?_; clear hst; rintro r w2 ⟨rfl, P2, ha2⟩) | (go_at_call 64; refine (H2.out w2 P2 ha2).mono ?_; rintro r w3 ⟨ao, cap, rfl, ha3, hst3⟩))
      go_ret
      exact ⟨rfl, ha3⟩
    · rw [if_neg hz]
      obtain ⟨m, hm⟩ : ∃ m, (dlL isNoted C1.L).length = m + 1 := ⟨(dlL isNoted C1.L).length - 1, by omega⟩
      simp only [hm] at H2
      clear k c hphi hlen HD2 h hq hf hr hl1 hsd
      go_enter Tryz.func24, Tryz.ntmps24
      go_wp2_with (first | (go_at_call 63; refine hu.mono ?_; rintro e w9 ⟨rfl, hw9⟩; rw [hw9]; clear hw9 hu) | (go_at_call 64; refine HD1.out.mono ?_; clear HD1; rintro r w1 ⟨v, rfl, hst⟩) | (go_at_call 64; refine (H2.out w2 P2 ha2).mono ?_; rintro r w3 ⟨ao, cap, rfl, ha3, hst3⟩) | (go_at_call 66; refine hst.mono ?_; clear hst; rintro r w2 ⟨rfl, P2, ha2⟩) | (go_at_call 66; refine hst3.mono ?_; rintro r w4 ⟨rfl, P4, ha4⟩))
      go_ret
      exact ⟨rfl, P4, ha4⟩
  · subst he
    rw [if_neg (by decide)]
    clear k c hphi hlen HD2 h hq hf hr hl1 hsd
    go_enter Tryz.func24, Tryz.ntmps24
    go_wp2_with (first | (go_at_call 63; refine hu.mono ?_; rintro e w9 ⟨rfl, hw9⟩; rw [hw9]; clear hw9 hu) | (go_at_call 64; refine HD1.out.mono ?_; clear HD1; rintro r w1 ⟨v, rfl, hst⟩) | (go_at_call 66; refine hst.mono ?_; clear hst; rintro r w2 ⟨rfl, P2, ha2⟩))
    go_ret
    exact ⟨rfl, P2, ha2⟩
end
end Go.Proofs.YtlacligofhinmaaGreat.C

namespace Go.Proofs.YtlacligofhinmaaGreat.C
open Go.RowKit Go.Maps Go.Shelf Go.Proofs.YtlacligofhinmaaGreat
attribute [local go_sem] Oper.semAt_some
set_option linter.unusedVariables false
set_option linter.unusedSimpArgs false
set_option maxRecDepth 100000

set_option maxHeartbeats 8000000 in
theorem least_may {w : World} {P : Loc} {S : K.Dk} {C : Ch} (h : RC w P S C) :
    Calls Tryz.prog 75 #[.pointer (some ⟨P.bc, 0, none⟩), .func (.func 94) #[] #[]] w fun r w' => r = .returned (.tuple #[.int .i64 (secOf (C.L.find? mayGo)), .bool (C.L.find? mayGo).isSome]) ∧ Below w.heap.size w w' := by
  have hlim := h.lim
  refine (callsIn_wide (n := 4)).1 ?_
  have f0 : Fence.wide.fn 75 := trivial
  have f1 : Fence.wide.fn 92 := trivial
  have f2 : Fence.wide.fn 157 := trivial
  have f3 : Fence.wide.fn 94 := trivial
  have hp : Pk 94 mayGo := pk_may
  obtain ⟨w1, hw1⟩ : ∃ w1, w1 = (((w.alloc (.cells #[.pointer (some ⟨P.bc, 0, none⟩)] TPc)).alloc (.cells #[.func (.func 94) #[] #[]] TFn)).alloc (.cells #[.int .i64 0] TIn)).alloc (.cells #[.bool false] TBo) := ⟨_, rfl⟩
  have hB1 : Below w.heap.size w w1 := by rw [hw1]; exact ((((Below.refl _ w).alloc (Nat.le_refl _) _).alloc (by simp) _).alloc (by simp; omega) _).alloc (by simp; omega) _
  have hs1 : w1.heap.size = w.heap.size + 4 := by rw [hw1]; simp
  have h1 := h.later hB1
  have c4 : w1.cell? ⟨P.bc, 4, none⟩ = some (.pointer (some ⟨P.bo, 0, none⟩)) := h1.c 4
  have x0 : Boxed w1 w.heap.size TPc (.pointer (some ⟨P.bc, 0, none⟩)) := by rw [hw1]; exact (((Boxed.new w TPc _).alloc _).alloc _).alloc _
  have x1 : Boxed w1 (w.heap.size + 1) TFn (.func (.func 94) #[] #[]) := by
    have := Boxed.new (w.alloc (.cells #[.pointer (some ⟨P.bc, 0, none⟩)] TPc)) TFn (.func (.func 94) #[] #[])
    rw [World.size_alloc] at this
    rw [hw1]; exact (this.alloc _).alloc _
  have x2 : Boxed w1 (w.heap.size + 2) TIn (.int .i64 0) := by
    have := Boxed.new ((w.alloc (.cells #[.pointer (some ⟨P.bc, 0, none⟩)] TPc)).alloc (.cells #[.func (.func 94) #[] #[]] TFn)) TIn (.int .i64 0)
    rw [World.size_alloc, World.size_alloc] at this
    rw [hw1]; exact this.alloc _
  have x3 : Boxed w1 (w.heap.size + 3) TBo (.bool false) := by
    have := Boxed.new (((w.alloc (.cells #[.pointer (some ⟨P.bc, 0, none⟩)] TPc)).alloc (.cells #[.func (.func 94) #[] #[]] TFn)).alloc (.cells #[.int .i64 0] TIn)) TBo (.bool false)
    rw [World.size_alloc, World.size_alloc, World.size_alloc] at this
    rw [hw1]; exact this
  have d0 := x0.cell
  refine callsIn_of_wp_marks Tryz.func75 rfl f0 ?_ rfl
  simp only [Tryz.ntmps75, List.size_toArray, List.length_cons, List.length_nil, Nat.reduceAdd, Nat.reduceSub, Array.replicate_succ, Array.replicate_zero, List.push_toArray, List.append_toArray, List.nil_append, List.cons_append]
  have c4' := c4
  rw [hw1] at c4'
  gi_wp2_with (gi_at_call 92; refine (callsIn_wide.2 (I.A.func_any _ _)).mono ?_; rintro e w' ⟨rfl, rfl⟩)
  obtain ⟨W0, hW0⟩ : ∃ W0, W0 = (w1.alloc (.cells #[.pointer (some ⟨P.bo, 0, none⟩)] I.A.TPo)).alloc (.cells #[.func (.func 120) #[] #[]] I.A.TPf) := ⟨_, rfl⟩
  rw [← hw1, ← hW0]
  have hB10 : Below w1.heap.size w1 W0 := by rw [hW0]; exact ((Below.refl _ w1).alloc (Nat.le_refl _) _).alloc (by simp) _
  have hB0 : Below w.heap.size w W0 := hB1.trans (hB10.mono hB1.size)
  have hs0 : W0.heap.size = w.heap.size + 6 := by rw [hW0]; simp [hs1]
  have bx1 : W0.cell? ⟨w.heap.size + 1 + 1 + 1 + 1, 0, none⟩ = some (.pointer (some ⟨P.bo, 0, none⟩)) := by
    have := Boxed.new w1 I.A.TPo (.pointer (some ⟨P.bo, 0, none⟩))
    rw [hs1] at this
    rw [hW0]; exact (this.alloc _).cell
  have bx2 : W0.cell? ⟨w.heap.size + 1 + 1 + 1 + 1 + 1, 0, none⟩ = some (.func (.func 120) #[] #[]) := by
    have := Boxed.new (w1.alloc (.cells #[.pointer (some ⟨P.bo, 0, none⟩)] I.A.TPo)) I.A.TPf (.func (.func 120) #[] #[])
    rw [World.size_alloc, hs1] at this
    rw [hW0]; exact this.cell
  have hlen : P.E.length * 8 ≤ 140737488355328 := by rw [h.lenE]; omega
  have hseq := I.A.seq_gen (fun x : { l // l ∈ C.L } => (x.1.sec : Int)) C.L.attach 3 (by omega) kpN_row (h.later hB0).ro (by rw [pickedA, h.eq, attach_secs]) bx1 bx2 (by omega) hlen (fun _ _ _ _ _ _ _ => trivial)
  have HX : Hid (∀ W, Below W0.heap.size W0 W → RC W P S C ∧ Boxed W w.heap.size TPc (.pointer (some ⟨P.bc, 0, none⟩)) ∧ Boxed W (w.heap.size + 1) TFn (.func (.func 94) #[] #[]) ∧ Boxed W (w.heap.size + 1 + 1) TIn (.int .i64 0) ∧ Boxed W (w.heap.size + 1 + 1 + 1) TBo (.bool false) ∧ Below w.heap.size w W) := fun W hb => by
    have hb' : Below w1.heap.size w1 W := hB10.trans (hb.mono hB10.size)
    have hbw : Below w.heap.size w W := hB1.trans (hb'.mono hB1.size)
    exact ⟨h.later hbw, (hb'.block _ (by omega)).trans x0, (hb'.block _ (by omega)).trans x1, (hb'.block _ (by omega)).trans x2, (hb'.block _ (by omega)).trans x3, hbw⟩
  have HP : Hid (Pk 94 mayGo) := hp
  clear bx1 bx2 c4 c4' d0 x0 x1 x2 x3 h1 hw1 hW0 hp h hlen
  refine wpIn_rangeFunc_ownH rfl (by omega) (gf := 157) (lb := #[.pointer (some ⟨w.heap.size + 1 + 1 + 1 + 1, 0, none⟩), .pointer (some ⟨w.heap.size + 1 + 1 + 1 + 1 + 1, 0, none⟩)]) rfl f2 (enters_of Tryz.func157 (by kernel_rfl) rfl)
    hseq kpN_t (kpN_b (w := W0)) (Below.refl _ _) (fun _ => rfl)
    (fun pre W => Below W0.heap.size W0 W ∧ ∀ x ∈ pre, mayGo x.1 = false)
    (fun c pre' W => c = .ret ∧ ∃ pre x, pre' = pre ++ [x] ∧ (∀ y ∈ pre, mayGo y.1 = false) ∧ mayGo x.1 = true ∧ Boxed W (w.heap.size + 1 + 1) TIn (.int .i64 x.1.sec) ∧ Boxed W (w.heap.size + 1 + 1 + 1) TBo (.bool true) ∧ Below w.heap.size w W)
    (OwnFrom.and (ownFrom_below (Nat.le_refl _) (Nat.le_refl _)) (fun _ _ _ _ h _ _ => h))
    (fun c s X Y row hs hg hr => by
      obtain ⟨e1, pre, x, e2, e3, e4, e5, e6, e7⟩ := hs
      exact ⟨e1, pre, x, e2, e3, e4, boxed_own _ TIn (fun _ : Unit => .int .i64 x.1.sec) () X Y row e5 hg (fun r e => (hr r e).2), boxed_own _ TBo (fun _ : Unit => .bool true) () X Y row e6 hg (fun r e => (hr r e).2), ownFrom_below (β := Unit) (Nat.le_refl _) (by omega) () X Y row e7 hg hr⟩)
    ⟨Below.refl _ _, fun x hx => by cases hx⟩
    (fun x a' W => a' = { tmps := #[.pointer (some ⟨P.bc, 0, none⟩), .func (.func 94) #[] #[], .pointer (some ⟨w.heap.size, 0, none⟩), .pointer (some ⟨w.heap.size + 1, 0, none⟩), .pointer (some ⟨w.heap.size + 1 + 1, 0, none⟩), .pointer (some ⟨w.heap.size + 1 + 1 + 1, 0, none⟩), .int .i64 x.1.sec, .pointer (some ⟨P.bc, 0, none⟩), .pointer (some ⟨P.bc, 0, none⟩), .pointer (some ⟨P.bc, 4, none⟩), .pointer (some ⟨P.bo, 0, none⟩), .func (.func 157) #[] #[.pointer (some ⟨w.heap.size + 1 + 1 + 1 + 1, 0, none⟩), .pointer (some ⟨w.heap.size + 1 + 1 + 1 + 1 + 1, 0, none⟩)], .int .i64 x.1.sec, undef, undef, undef, undef, undef, undef, undef, undef, undef], defers := [] })
    (fun x a' s X Y row hs hg hrow => hs)
    ?assign ?body ?done ?stop
  case assign =>
    rintro l pre x W K hI hK
    gi_wp2
    exact hK _ _ (KeepsFrom.refl _ _) (fun _ _ _ h => h) hI rfl
  case body =>
    rintro l pre x a' W hl ⟨r, hr⟩ ⟨hB, hpre⟩ rfl hlt
    obtain ⟨hrc, y0, y1, y2, y3, hbw⟩ := HX.out W hB
    have d0 := y0.cell
    have d1 := y1.cell
    have c3 : W.cell? ⟨P.bc, 3, none⟩ = some (.map (some P.bl)) := hrc.c 3
    have hlk : ∀ q, (Instr.lookup TLm (.map (some P.bl)) (.int .i64 x.1.sec) false).run Tryz.prog (W.drewN q) = .ok (.pointer (some ⟨x.1.blk, 0, none⟩)) (W.drewN q) := fun q => by
      have hrq : RC (W.drewN q) P S C := hrc.same fun _ _ => rfl
      have := hrq.look (hrq.wf x.2)
      rw [hrq.atLine x.2] at this
      exact this
    have hpk : ∀ q, Calls Tryz.prog 94 #[.pointer (some ⟨x.1.blk, 0, none⟩)] (W.drewN q) fun r w' => r = .returned (.bool (mayGo x.1)) ∧ w' = W.drewN q := fun q => HP.out (W.drewN q) x.1 (hrc.ln x.1 x.2) (hrc.ok x.1 x.2).2
    have HY : Hid (Boxed W (w.heap.size + 1 + 1) TIn (.int .i64 0) ∧ Boxed W (w.heap.size + 1 + 1 + 1) TBo (.bool false) ∧ Below w.heap.size w W) := ⟨y2, y3, hbw⟩
    clear hrc y0 y1 y2 y3 hbw
    obtain ⟨b, hb⟩ : ∃ b, b = mayGo x.1 := ⟨_, rfl⟩
    rw [← hb] at hpk
    have HPB : Hid (b = mayGo x.1) := hb
    have HPR : Hid (∀ y ∈ pre, mayGo y.1 = false) := hpre
    have HBW : Hid (Below W0.heap.size W0 W) := hB
    clear hb hpre hB hB0 hB10 HX HP hseq
    cases b
    · gi_wp2
      refine region_quiet (by kernel_rfl) mixed (by kernel_rfl) ?_
      repeat (gi_big_quiet_step (first | (gi_at_call 94; exact CallsIn.inRound _ (CallsIn.quiet_of_same (callsIn_wide.2 (hpk _))))))
      refine wpQuietIn_nil ?_
      intro _ hw'
      obtain ⟨nq, rfl⟩ := hw'
      gi_big_wp2
      have hdr : Below W0.heap.size W0 (W.drewN nq) := ⟨HBW.out.os, HBW.out.tape, HBW.out.output, HBW.out.size, HBW.out.block⟩
      exact ⟨⟨Nat.le_refl _, fun _ _ _ h _ => h⟩, fun _ _ _ h => h, hdr, fun y hy => by
        rcases List.mem_append.1 hy with hy | hy
        · exact HPR.out y hy
        · simp at hy; subst hy; exact HPB.out.symm⟩
    · gi_wp2
      refine region_quiet (by kernel_rfl) mixed (by kernel_rfl) ?_
      repeat (gi_big_quiet_step (first | (gi_at_call 94; exact CallsIn.inRound _ (CallsIn.quiet_of_same (callsIn_wide.2 (hpk _))))))
      refine wpQuietIn_nil ?_
      intro _ hw'
      obtain ⟨nq, rfl⟩ := hw'
      have e2 : (W.drewN nq).heap[w.heap.size + 1 + 1]? = some (.cells #[.int .i64 0] TIn (0, 0)) := HY.out.1
      have e3 : (W.drewN nq).heap[w.heap.size + 1 + 1 + 1]? = some (.cells #[.bool false] TBo (0, 0)) := HY.out.2.1
      have k2 := K.cell_of (j := 0) e2
      have g2 := K.frozen_of (j := 0) e2
      have e3' : ((W.drewN nq).setCell ⟨w.heap.size + 1 + 1, 0, none⟩ (.int .i64 x.1.sec)).heap[w.heap.size + 1 + 1 + 1]? = some (.cells #[.bool false] TBo (0, 0)) := (Below.heap_setCell _ _ _ _ (by show w.heap.size + 1 + 1 + 1 ≠ w.heap.size + 1 + 1; omega)).trans e3
      have k3 := K.cell_of (j := 0) e3'
      have g3 := K.frozen_of (j := 0) e3'
      simp only [List.getElem?_toArray, List.getElem?_cons_zero] at k2 k3
      gi_big_wp2
      have hfin : Below w.heap.size w (((W.drewN nq).setCell ⟨w.heap.size + 1 + 1, 0, none⟩ (.int .i64 x.1.sec)).setCell ⟨w.heap.size + 1 + 1 + 1, 0, none⟩ (.bool true)) := by
        have hbw := HY.out.2.2
        have h0 : Below w.heap.size w (W.drewN nq) := ⟨hbw.os, hbw.tape, hbw.output, hbw.size, hbw.block⟩
        exact (h0.setCell (p := ⟨w.heap.size + 1 + 1, 0, none⟩) (by show w.heap.size ≤ w.heap.size + 1 + 1; omega) _).setCell (p := ⟨w.heap.size + 1 + 1 + 1, 0, none⟩) (by show w.heap.size ≤ w.heap.size + 1 + 1 + 1; omega) _
      refine ⟨?_, rfl, pre, x, rfl, HPR.out, HPB.out.symm, ?_, ?_, hfin⟩
      · have q1 : KeepsOthers W (W.drewN nq) := ⟨Nat.le_refl _, fun _ _ h _ => h⟩
        exact ((q1.trans (KeepsOthers.setCell _ _ _)).trans (KeepsOthers.setCell _ _ _)).from _
      · show (World.setCell _ _ _).heap[_]? = _
        rw [Below.heap_setCell _ _ _ _ (by show w.heap.size + 1 + 1 ≠ w.heap.size + 1 + 1 + 1; omega)]
        exact K.blk_set e2 0 _
      · exact K.blk_set e3' 0 _
  case done =>
    rintro D ys W hD rfl ⟨hB, hall⟩ hK
    obtain ⟨hrc, y0, y1, y2, y3, hbw⟩ := HX.out W hB
    have hno : C.L.find? mayGo = none := List.find?_eq_none.2 fun l hl => by
      have := hall ⟨l, hl⟩ (List.mem_attach _ _)
      simp at this
      simp [this]
    have k2 := y2.cell
    have g2 := y2.frozen
    have y3' : Boxed (W.setCell ⟨w.heap.size + 1 + 1, 0, none⟩ (.int .i64 0)) (w.heap.size + 1 + 1 + 1) TBo (.bool false) := (Below.heap_setCell _ _ _ _ (by show w.heap.size + 1 + 1 + 1 ≠ w.heap.size + 1 + 1; omega)).trans y3
    have k3 := y3'.cell
    have g3 := y3'.frozen
    have y2' : Boxed ((W.setCell ⟨w.heap.size + 1 + 1, 0, none⟩ (.int .i64 0)).setCell ⟨w.heap.size + 1 + 1 + 1, 0, none⟩ (.bool false)) (w.heap.size + 1 + 1) TIn (.int .i64 0) := (Below.heap_setCell _ _ _ _ (by show w.heap.size + 1 + 1 ≠ w.heap.size + 1 + 1 + 1; omega)).trans (K.blk_set y2 0 _)
    have y3'' : Boxed ((W.setCell ⟨w.heap.size + 1 + 1, 0, none⟩ (.int .i64 0)).setCell ⟨w.heap.size + 1 + 1 + 1, 0, none⟩ (.bool false)) (w.heap.size + 1 + 1 + 1) TBo (.bool false) := K.blk_set y3' 0 _
    have hD2 : D ≠ w.heap.size + 1 + 1 ∧ D ≠ w.heap.size + 1 + 1 + 1 := by omega
    have hK2 : ((W.setCell ⟨w.heap.size + 1 + 1, 0, none⟩ (.int .i64 0)).setCell ⟨w.heap.size + 1 + 1 + 1, 0, none⟩ (.bool false)).heap[D]? = some (.deferred (some [])) := (Below.heap_setCell _ _ _ _ hD2.2).trans ((Below.heap_setCell _ _ _ _ hD2.1).trans hK)
    have hfin : Below w.heap.size w ((W.setCell ⟨w.heap.size + 1 + 1, 0, none⟩ (.int .i64 0)).setCell ⟨w.heap.size + 1 + 1 + 1, 0, none⟩ (.bool false)) := (hbw.setCell (p := ⟨w.heap.size + 1 + 1, 0, none⟩) (by show w.heap.size ≤ w.heap.size + 1 + 1; omega) _).setCell (p := ⟨w.heap.size + 1 + 1 + 1, 0, none⟩) (by show w.heap.size ≤ w.heap.size + 1 + 1 + 1; omega) _
    have HFIN : Hid _ := hfin
    clear hfin hrc y0 y1 hall hB hbw
    gi_wp2
    refine ⟨by simp, .inl ⟨_, _, rfl, run_takeDeferred hK2, ?_⟩⟩
    have r2 : (((W.setCell ⟨w.heap.size + 1 + 1, 0, none⟩ (.int .i64 0)).setCell ⟨w.heap.size + 1 + 1 + 1, 0, none⟩ (.bool false)).putObj D (.deferred none)).cell? ⟨w.heap.size + 1 + 1, 0, none⟩ = some (.int .i64 0) := K.cell_of ((World.putObj_heap_other (Ne.symm hD2.1)).trans y2')
    have r3 : (((W.setCell ⟨w.heap.size + 1 + 1, 0, none⟩ (.int .i64 0)).setCell ⟨w.heap.size + 1 + 1 + 1, 0, none⟩ (.bool false)).putObj D (.deferred none)).cell? ⟨w.heap.size + 1 + 1 + 1, 0, none⟩ = some (.bool false) := K.cell_of ((World.putObj_heap_other (Ne.symm hD2.2)).trans y3'')
    refine ⟨_, by rw [results_cell2 (p := 4) (q := 5) (tp := TIn) (tq := TBo) rfl]; exact load_two r2 r3, ?_, HFIN.out.trans (belowK_b (w := w) (Nat.le_refl _) _ D _ _ (by omega) hK2 rfl rfl)⟩
    rw [hno]; rfl
  case stop =>
    rintro D c pre' W hD ⟨rest, hrest⟩ ⟨rfl, pre, x, rfl, h1, h2, b2, b3, hbw⟩ hK
    have hL : C.L = pre.map Subtype.val ++ x.1 :: rest.map Subtype.val := by
      have := congrArg (List.map Subtype.val) hrest
      rw [List.attach_map_subtype_val] at this
      simpa using this
    have hfd : C.L.find? mayGo = some x.1 := find_at hL (fun y hy => by obtain ⟨z, hz, rfl⟩ := List.mem_map.1 hy; exact h1 z hz) h2
    gi_wp2
    refine ⟨by simp, .inl ⟨_, _, rfl, run_takeDeferred hK, ?_⟩⟩
    have hD2 : D ≠ w.heap.size + 1 + 1 ∧ D ≠ w.heap.size + 1 + 1 + 1 := by omega
    have r2 : (W.putObj D (.deferred none)).cell? ⟨w.heap.size + 1 + 1, 0, none⟩ = some (.int .i64 x.1.sec) := K.cell_of ((World.putObj_heap_other (Ne.symm hD2.1)).trans b2)
    have r3 : (W.putObj D (.deferred none)).cell? ⟨w.heap.size + 1 + 1 + 1, 0, none⟩ = some (.bool true) := K.cell_of ((World.putObj_heap_other (Ne.symm hD2.2)).trans b3)
    refine ⟨_, by rw [results_cell2 (p := 4) (q := 5) (tp := TIn) (tq := TBo) rfl]; exact load_two r2 r3, ?_, hbw.trans (belowK_b (w := w) (Nat.le_refl _) _ D _ _ (by omega) hK rfl rfl)⟩
    rw [hfd]; rfl
end Go.Proofs.YtlacligofhinmaaGreat.C

namespace Go.Proofs.YtlacligofhinmaaGreat.C
open Go.RowKit Go.Maps Go.Shelf Go.Proofs.YtlacligofhinmaaGreat
attribute [local go_sem] Oper.semAt_some
set_option linter.unusedVariables false
set_option linter.unusedSimpArgs false
set_option maxRecDepth 100000

set_option maxHeartbeats 8000000 in
theorem least_back {w : World} {P : Loc} {S : K.Dk} {C : Ch} (h : RC w P S C) :
    Calls Tryz.prog 75 #[.pointer (some ⟨P.bc, 0, none⟩), .func (.func 76) #[] #[]] w fun r w' => r = .returned (.tuple #[.int .i64 (secOf (C.L.find? dirtyData)), .bool (C.L.find? dirtyData).isSome]) ∧ Below w.heap.size w w' := by
  have hlim := h.lim
  refine (callsIn_wide (n := 4)).1 ?_
  have f0 : Fence.wide.fn 75 := trivial
  have f1 : Fence.wide.fn 92 := trivial
  have f2 : Fence.wide.fn 157 := trivial
  have f3 : Fence.wide.fn 76 := trivial
  have hp : Pk 76 dirtyData := pk_back
  obtain ⟨w1, hw1⟩ : ∃ w1, w1 = (((w.alloc (.cells #[.pointer (some ⟨P.bc, 0, none⟩)] TPc)).alloc (.cells #[.func (.func 76) #[] #[]] TFn)).alloc (.cells #[.int .i64 0] TIn)).alloc (.cells #[.bool false] TBo) := ⟨_, rfl⟩
  have hB1 : Below w.heap.size w w1 := by rw [hw1]; exact ((((Below.refl _ w).alloc (Nat.le_refl _) _).alloc (by simp) _).alloc (by simp; omega) _).alloc (by simp; omega) _
  have hs1 : w1.heap.size = w.heap.size + 4 := by rw [hw1]; simp
  have h1 := h.later hB1
  have c4 : w1.cell? ⟨P.bc, 4, none⟩ = some (.pointer (some ⟨P.bo, 0, none⟩)) := h1.c 4
  have x0 : Boxed w1 w.heap.size TPc (.pointer (some ⟨P.bc, 0, none⟩)) := by rw [hw1]; exact (((Boxed.new w TPc _).alloc _).alloc _).alloc _
  have x1 : Boxed w1 (w.heap.size + 1) TFn (.func (.func 76) #[] #[]) := by
    have := Boxed.new (w.alloc (.cells #[.pointer (some ⟨P.bc, 0, none⟩)] TPc)) TFn (.func (.func 76) #[] #[])
    rw [World.size_alloc] at this
    rw [hw1]; exact (this.alloc _).alloc _
  have x2 : Boxed w1 (w.heap.size + 2) TIn (.int .i64 0) := by
    have := Boxed.new ((w.alloc (.cells #[.pointer (some ⟨P.bc, 0, none⟩)] TPc)).alloc (.cells #[.func (.func 76) #[] #[]] TFn)) TIn (.int .i64 0)
    rw [World.size_alloc, World.size_alloc] at this
    rw [hw1]; exact this.alloc _
  have x3 : Boxed w1 (w.heap.size + 3) TBo (.bool false) := by
    have := Boxed.new (((w.alloc (.cells #[.pointer (some ⟨P.bc, 0, none⟩)] TPc)).alloc (.cells #[.func (.func 76) #[] #[]] TFn)).alloc (.cells #[.int .i64 0] TIn)) TBo (.bool false)
    rw [World.size_alloc, World.size_alloc, World.size_alloc] at this
    rw [hw1]; exact this
  have d0 := x0.cell
  refine callsIn_of_wp_marks Tryz.func75 rfl f0 ?_ rfl
  simp only [Tryz.ntmps75, List.size_toArray, List.length_cons, List.length_nil, Nat.reduceAdd, Nat.reduceSub, Array.replicate_succ, Array.replicate_zero, List.push_toArray, List.append_toArray, List.nil_append, List.cons_append]
  have c4' := c4
  rw [hw1] at c4'
  gi_wp2_with (gi_at_call 92; refine (callsIn_wide.2 (I.A.func_any _ _)).mono ?_; rintro e w' ⟨rfl, rfl⟩)
  obtain ⟨W0, hW0⟩ : ∃ W0, W0 = (w1.alloc (.cells #[.pointer (some ⟨P.bo, 0, none⟩)] I.A.TPo)).alloc (.cells #[.func (.func 120) #[] #[]] I.A.TPf) := ⟨_, rfl⟩
  rw [← hw1, ← hW0]
  have hB10 : Below w1.heap.size w1 W0 := by rw [hW0]; exact ((Below.refl _ w1).alloc (Nat.le_refl _) _).alloc (by simp) _
  have hB0 : Below w.heap.size w W0 := hB1.trans (hB10.mono hB1.size)
  have hs0 : W0.heap.size = w.heap.size + 6 := by rw [hW0]; simp [hs1]
  have bx1 : W0.cell? ⟨w.heap.size + 1 + 1 + 1 + 1, 0, none⟩ = some (.pointer (some ⟨P.bo, 0, none⟩)) := by
    have := Boxed.new w1 I.A.TPo (.pointer (some ⟨P.bo, 0, none⟩))
    rw [hs1] at this
    rw [hW0]; exact (this.alloc _).cell
  have bx2 : W0.cell? ⟨w.heap.size + 1 + 1 + 1 + 1 + 1, 0, none⟩ = some (.func (.func 120) #[] #[]) := by
    have := Boxed.new (w1.alloc (.cells #[.pointer (some ⟨P.bo, 0, none⟩)] I.A.TPo)) I.A.TPf (.func (.func 120) #[] #[])
    rw [World.size_alloc, hs1] at this
    rw [hW0]; exact this.cell
  have hlen : P.E.length * 8 ≤ 140737488355328 := by rw [h.lenE]; omega
  have hseq := I.A.seq_gen (fun x : { l // l ∈ C.L } => (x.1.sec : Int)) C.L.attach 3 (by omega) kpN_row (h.later hB0).ro (by rw [pickedA, h.eq, attach_secs]) bx1 bx2 (by omega) hlen (fun _ _ _ _ _ _ _ => trivial)
  have HX : Hid (∀ W, Below W0.heap.size W0 W → RC W P S C ∧ Boxed W w.heap.size TPc (.pointer (some ⟨P.bc, 0, none⟩)) ∧ Boxed W (w.heap.size + 1) TFn (.func (.func 76) #[] #[]) ∧ Boxed W (w.heap.size + 1 + 1) TIn (.int .i64 0) ∧ Boxed W (w.heap.size + 1 + 1 + 1) TBo (.bool false) ∧ Below w.heap.size w W) := fun W hb => by
    have hb' : Below w1.heap.size w1 W := hB10.trans (hb.mono hB10.size)
    have hbw : Below w.heap.size w W := hB1.trans (hb'.mono hB1.size)
    exact ⟨h.later hbw, (hb'.block _ (by omega)).trans x0, (hb'.block _ (by omega)).trans x1, (hb'.block _ (by omega)).trans x2, (hb'.block _ (by omega)).trans x3, hbw⟩
  have HP : Hid (Pk 76 dirtyData) := hp
  clear bx1 bx2 c4 c4' d0 x0 x1 x2 x3 h1 hw1 hW0 hp h hlen
  refine wpIn_rangeFunc_ownH rfl (by omega) (gf := 157) (lb := #[.pointer (some ⟨w.heap.size + 1 + 1 + 1 + 1, 0, none⟩), .pointer (some ⟨w.heap.size + 1 + 1 + 1 + 1 + 1, 0, none⟩)]) rfl f2 (enters_of Tryz.func157 (by kernel_rfl) rfl)
    hseq kpN_t (kpN_b (w := W0)) (Below.refl _ _) (fun _ => rfl)
    (fun pre W => Below W0.heap.size W0 W ∧ ∀ x ∈ pre, dirtyData x.1 = false)
    (fun c pre' W => c = .ret ∧ ∃ pre x, pre' = pre ++ [x] ∧ (∀ y ∈ pre, dirtyData y.1 = false) ∧ dirtyData x.1 = true ∧ Boxed W (w.heap.size + 1 + 1) TIn (.int .i64 x.1.sec) ∧ Boxed W (w.heap.size + 1 + 1 + 1) TBo (.bool true) ∧ Below w.heap.size w W)
    (OwnFrom.and (ownFrom_below (Nat.le_refl _) (Nat.le_refl _)) (fun _ _ _ _ h _ _ => h))
    (fun c s X Y row hs hg hr => by
      obtain ⟨e1, pre, x, e2, e3, e4, e5, e6, e7⟩ := hs
      exact ⟨e1, pre, x, e2, e3, e4, boxed_own _ TIn (fun _ : Unit => .int .i64 x.1.sec) () X Y row e5 hg (fun r e => (hr r e).2), boxed_own _ TBo (fun _ : Unit => .bool true) () X Y row e6 hg (fun r e => (hr r e).2), ownFrom_below (β := Unit) (Nat.le_refl _) (by omega) () X Y row e7 hg hr⟩)
    ⟨Below.refl _ _, fun x hx => by cases hx⟩
    (fun x a' W => a' = { tmps := #[.pointer (some ⟨P.bc, 0, none⟩), .func (.func 76) #[] #[], .pointer (some ⟨w.heap.size, 0, none⟩), .pointer (some ⟨w.heap.size + 1, 0, none⟩), .pointer (some ⟨w.heap.size + 1 + 1, 0, none⟩), .pointer (some ⟨w.heap.size + 1 + 1 + 1, 0, none⟩), .int .i64 x.1.sec, .pointer (some ⟨P.bc, 0, none⟩), .pointer (some ⟨P.bc, 0, none⟩), .pointer (some ⟨P.bc, 4, none⟩), .pointer (some ⟨P.bo, 0, none⟩), .func (.func 157) #[] #[.pointer (some ⟨w.heap.size + 1 + 1 + 1 + 1, 0, none⟩), .pointer (some ⟨w.heap.size + 1 + 1 + 1 + 1 + 1, 0, none⟩)], .int .i64 x.1.sec, undef, undef, undef, undef, undef, undef, undef, undef, undef], defers := [] })
    (fun x a' s X Y row hs hg hrow => hs)
    ?assign ?body ?done ?stop
  case assign =>
    rintro l pre x W K hI hK
    gi_wp2
    exact hK _ _ (KeepsFrom.refl _ _) (fun _ _ _ h => h) hI rfl
  case body =>
    rintro l pre x a' W hl ⟨r, hr⟩ ⟨hB, hpre⟩ rfl hlt
    obtain ⟨hrc, y0, y1, y2, y3, hbw⟩ := HX.out W hB
    have d0 := y0.cell
    have d1 := y1.cell
    have c3 : W.cell? ⟨P.bc, 3, none⟩ = some (.map (some P.bl)) := hrc.c 3
    have hlk : ∀ q, (Instr.lookup TLm (.map (some P.bl)) (.int .i64 x.1.sec) false).run Tryz.prog (W.drewN q) = .ok (.pointer (some ⟨x.1.blk, 0, none⟩)) (W.drewN q) := fun q => by
      have hrq : RC (W.drewN q) P S C := hrc.same fun _ _ => rfl
      have := hrq.look (hrq.wf x.2)
      rw [hrq.atLine x.2] at this
      exact this
    have hpk : ∀ q, Calls Tryz.prog 76 #[.pointer (some ⟨x.1.blk, 0, none⟩)] (W.drewN q) fun r w' => r = .returned (.bool (dirtyData x.1)) ∧ w' = W.drewN q := fun q => HP.out (W.drewN q) x.1 (hrc.ln x.1 x.2) (hrc.ok x.1 x.2).2
    have HY : Hid (Boxed W (w.heap.size + 1 + 1) TIn (.int .i64 0) ∧ Boxed W (w.heap.size + 1 + 1 + 1) TBo (.bool false) ∧ Below w.heap.size w W) := ⟨y2, y3, hbw⟩
    clear hrc y0 y1 y2 y3 hbw
    obtain ⟨b, hb⟩ : ∃ b, b = dirtyData x.1 := ⟨_, rfl⟩
    rw [← hb] at hpk
    have HPB : Hid (b = dirtyData x.1) := hb
    have HPR : Hid (∀ y ∈ pre, dirtyData y.1 = false) := hpre
    have HBW : Hid (Below W0.heap.size W0 W) := hB
    clear hb hpre hB hB0 hB10 HX HP hseq
    cases b
    · gi_wp2
      refine region_quiet (by kernel_rfl) mixed (by kernel_rfl) ?_
      repeat (gi_big_quiet_step (first | (gi_at_call 76; exact CallsIn.inRound _ (CallsIn.quiet_of_same (callsIn_wide.2 (hpk _))))))
      refine wpQuietIn_nil ?_
      intro _ hw'
      obtain ⟨nq, rfl⟩ := hw'
      gi_big_wp2
      have hdr : Below W0.heap.size W0 (W.drewN nq) := ⟨HBW.out.os, HBW.out.tape, HBW.out.output, HBW.out.size, HBW.out.block⟩
      exact ⟨⟨Nat.le_refl _, fun _ _ _ h _ => h⟩, fun _ _ _ h => h, hdr, fun y hy => by
        rcases List.mem_append.1 hy with hy | hy
        · exact HPR.out y hy
        · simp at hy; subst hy; exact HPB.out.symm⟩
    · gi_wp2
      refine region_quiet (by kernel_rfl) mixed (by kernel_rfl) ?_
      repeat (gi_big_quiet_step (first | (gi_at_call 76; exact CallsIn.inRound _ (CallsIn.quiet_of_same (callsIn_wide.2 (hpk _))))))
      refine wpQuietIn_nil ?_
      intro _ hw'
      obtain ⟨nq, rfl⟩ := hw'
      have e2 : (W.drewN nq).heap[w.heap.size + 1 + 1]? = some (.cells #[.int .i64 0] TIn (0, 0)) := HY.out.1
      have e3 : (W.drewN nq).heap[w.heap.size + 1 + 1 + 1]? = some (.cells #[.bool false] TBo (0, 0)) := HY.out.2.1
      have k2 := K.cell_of (j := 0) e2
      have g2 := K.frozen_of (j := 0) e2
      have e3' : ((W.drewN nq).setCell ⟨w.heap.size + 1 + 1, 0, none⟩ (.int .i64 x.1.sec)).heap[w.heap.size + 1 + 1 + 1]? = some (.cells #[.bool false] TBo (0, 0)) := (Below.heap_setCell _ _ _ _ (by show w.heap.size + 1 + 1 + 1 ≠ w.heap.size + 1 + 1; omega)).trans e3
      have k3 := K.cell_of (j := 0) e3'
      have g3 := K.frozen_of (j := 0) e3'
      simp only [List.getElem?_toArray, List.getElem?_cons_zero] at k2 k3
      gi_big_wp2
      have hfin : Below w.heap.size w (((W.drewN nq).setCell ⟨w.heap.size + 1 + 1, 0, none⟩ (.int .i64 x.1.sec)).setCell ⟨w.heap.size + 1 + 1 + 1, 0, none⟩ (.bool true)) := by
        have hbw := HY.out.2.2
        have h0 : Below w.heap.size w (W.drewN nq) := ⟨hbw.os, hbw.tape, hbw.output, hbw.size, hbw.block⟩
        exact (h0.setCell (p := ⟨w.heap.size + 1 + 1, 0, none⟩) (by show w.heap.size ≤ w.heap.size + 1 + 1; omega) _).setCell (p := ⟨w.heap.size + 1 + 1 + 1, 0, none⟩) (by show w.heap.size ≤ w.heap.size + 1 + 1 + 1; omega) _
      refine ⟨?_, rfl, pre, x, rfl, HPR.out, HPB.out.symm, ?_, ?_, hfin⟩
      · have q1 : KeepsOthers W (W.drewN nq) := ⟨Nat.le_refl _, fun _ _ h _ => h⟩
        exact ((q1.trans (KeepsOthers.setCell _ _ _)).trans (KeepsOthers.setCell _ _ _)).from _
      · show (World.setCell _ _ _).heap[_]? = _
        rw [Below.heap_setCell _ _ _ _ (by show w.heap.size + 1 + 1 ≠ w.heap.size + 1 + 1 + 1; omega)]
        exact K.blk_set e2 0 _
      · exact K.blk_set e3' 0 _
  case done =>
    rintro D ys W hD rfl ⟨hB, hall⟩ hK
    obtain ⟨hrc, y0, y1, y2, y3, hbw⟩ := HX.out W hB
    have hno : C.L.find? dirtyData = none := List.find?_eq_none.2 fun l hl => by
      have := hall ⟨l, hl⟩ (List.mem_attach _ _)
      simp at this
      simp [this]
    have k2 := y2.cell
    have g2 := y2.frozen
    have y3' : Boxed (W.setCell ⟨w.heap.size + 1 + 1, 0, none⟩ (.int .i64 0)) (w.heap.size + 1 + 1 + 1) TBo (.bool false) := (Below.heap_setCell _ _ _ _ (by show w.heap.size + 1 + 1 + 1 ≠ w.heap.size + 1 + 1; omega)).trans y3
    have k3 := y3'.cell
    have g3 := y3'.frozen
    have y2' : Boxed ((W.setCell ⟨w.heap.size + 1 + 1, 0, none⟩ (.int .i64 0)).setCell ⟨w.heap.size + 1 + 1 + 1, 0, none⟩ (.bool false)) (w.heap.size + 1 + 1) TIn (.int .i64 0) := (Below.heap_setCell _ _ _ _ (by show w.heap.size + 1 + 1 ≠ w.heap.size + 1 + 1 + 1; omega)).trans (K.blk_set y2 0 _)
    have y3'' : Boxed ((W.setCell ⟨w.heap.size + 1 + 1, 0, none⟩ (.int .i64 0)).setCell ⟨w.heap.size + 1 + 1 + 1, 0, none⟩ (.bool false)) (w.heap.size + 1 + 1 + 1) TBo (.bool false) := K.blk_set y3' 0 _
    have hD2 : D ≠ w.heap.size + 1 + 1 ∧ D ≠ w.heap.size + 1 + 1 + 1 := by omega
    have hK2 : ((W.setCell ⟨w.heap.size + 1 + 1, 0, none⟩ (.int .i64 0)).setCell ⟨w.heap.size + 1 + 1 + 1, 0, none⟩ (.bool false)).heap[D]? = some (.deferred (some [])) := (Below.heap_setCell _ _ _ _ hD2.2).trans ((Below.heap_setCell _ _ _ _ hD2.1).trans hK)
    have hfin : Below w.heap.size w ((W.setCell ⟨w.heap.size + 1 + 1, 0, none⟩ (.int .i64 0)).setCell ⟨w.heap.size + 1 + 1 + 1, 0, none⟩ (.bool false)) := (hbw.setCell (p := ⟨w.heap.size + 1 + 1, 0, none⟩) (by show w.heap.size ≤ w.heap.size + 1 + 1; omega) _).setCell (p := ⟨w.heap.size + 1 + 1 + 1, 0, none⟩) (by show w.heap.size ≤ w.heap.size + 1 + 1 + 1; omega) _
    have HFIN : Hid _ := hfin
    clear hfin hrc y0 y1 hall hB hbw
    gi_wp2
    refine ⟨by simp, .inl ⟨_, _, rfl, run_takeDeferred hK2, ?_⟩⟩
    have r2 : (((W.setCell ⟨w.heap.size + 1 + 1, 0, none⟩ (.int .i64 0)).setCell ⟨w.heap.size + 1 + 1 + 1, 0, none⟩ (.bool false)).putObj D (.deferred none)).cell? ⟨w.heap.size + 1 + 1, 0, none⟩ = some (.int .i64 0) := K.cell_of ((World.putObj_heap_other (Ne.symm hD2.1)).trans y2')
    have r3 : (((W.setCell ⟨w.heap.size + 1 + 1, 0, none⟩ (.int .i64 0)).setCell ⟨w.heap.size + 1 + 1 + 1, 0, none⟩ (.bool false)).putObj D (.deferred none)).cell? ⟨w.heap.size + 1 + 1 + 1, 0, none⟩ = some (.bool false) := K.cell_of ((World.putObj_heap_other (Ne.symm hD2.2)).trans y3'')
    refine ⟨_, by rw [results_cell2 (p := 4) (q := 5) (tp := TIn) (tq := TBo) rfl]; exact load_two r2 r3, ?_, HFIN.out.trans (belowK_b (w := w) (Nat.le_refl _) _ D _ _ (by omega) hK2 rfl rfl)⟩
    rw [hno]; rfl
  case stop =>
    rintro D c pre' W hD ⟨rest, hrest⟩ ⟨rfl, pre, x, rfl, h1, h2, b2, b3, hbw⟩ hK
    have hL : C.L = pre.map Subtype.val ++ x.1 :: rest.map Subtype.val := by
      have := congrArg (List.map Subtype.val) hrest
      rw [List.attach_map_subtype_val] at this
      simpa using this
    have hfd : C.L.find? dirtyData = some x.1 := find_at hL (fun y hy => by obtain ⟨z, hz, rfl⟩ := List.mem_map.1 hy; exact h1 z hz) h2
    gi_wp2
    refine ⟨by simp, .inl ⟨_, _, rfl, run_takeDeferred hK, ?_⟩⟩
    have hD2 : D ≠ w.heap.size + 1 + 1 ∧ D ≠ w.heap.size + 1 + 1 + 1 := by omega
    have r2 : (W.putObj D (.deferred none)).cell? ⟨w.heap.size + 1 + 1, 0, none⟩ = some (.int .i64 x.1.sec) := K.cell_of ((World.putObj_heap_other (Ne.symm hD2.1)).trans b2)
    have r3 : (W.putObj D (.deferred none)).cell? ⟨w.heap.size + 1 + 1 + 1, 0, none⟩ = some (.bool true) := K.cell_of ((World.putObj_heap_other (Ne.symm hD2.2)).trans b3)
    refine ⟨_, by rw [results_cell2 (p := 4) (q := 5) (tp := TIn) (tq := TBo) rfl]; exact load_two r2 r3, ?_, hbw.trans (belowK_b (w := w) (Nat.le_refl _) _ D _ _ (by omega) hK rfl rfl)⟩
    rw [hfd]; rfl
end Go.Proofs.YtlacligofhinmaaGreat.C

namespace Go.Proofs.YtlacligofhinmaaGreat.C
open Go.RowKit Go.Maps Go.Shelf Go.Sort Go.Proofs.YtlacligofhinmaaGreat
attribute [local go_sem] Oper.semAt_some
set_option linter.unusedVariables false
set_option linter.unusedSimpArgs false
set_option maxRecDepth 100000

/-- a line gives way -/
def gwR (S : K.Dk) (C : Ch) (l : Ln) : Int × K.Dk × Ch :=
  if l.dirty = true then
    (if K.wrE S l.sec l.dat = 0 then (0, K.wrS S l.sec l.dat, { C with L := dropL C.L l.sec, st := { C.st with written := K.inc C.st.written, evicted := K.inc C.st.evicted } }) else (33, K.wrS S l.sec l.dat, C))
  else (0, S, { C with L := dropL C.L l.sec, st := { C.st with evicted := K.inc C.st.evicted } })
/-- room is made -/
def roomR (S : K.Dk) (C : Ch) : Int × K.Dk × Ch :=
  if C.L.length < C.most then (0, S, C)
  else match C.L.find? mayGo with
    | some l => gwR S C l
    | none => if (flushR S C).1 = 0 then (match (flushR S C).2.2.L.find? mayGo with
        | some l => gwR (flushR S C).2.1 (flushR S C).2.2 l
        | none => (0, (flushR S C).2.1, (flushR S C).2.2))
      else flushR S C
section
variable {w w' : World} {P : Loc} {S S' : K.Dk} {C C' : Ch}
theorem gw_c (h : RC w P S C) (hf : K.FsOk S.fs) (hq : S.q.length < 1048576) {l : Ln} (hl : l ∈ C.L) :
    Calls Tryz.prog 95 #[.pointer (some ⟨P.bc, 0, none⟩), .int .i64 l.sec] w fun r w' => r = .returned (.int .i64 (gwR S C l).1) ∧ ∃ P', CAct w w' P P' C (gwR S C l).2.1 (gwR S C l).2.2 := by
  obtain ⟨L1, L2, hL, _, _⟩ := lineAt_split (h.atLine hl)
  have hg := giveWay_c h hf hq hL
  have hd := h.sd
  rw [hL] at hd
  have hdr : dropL C.L l.sec = L1 ++ L2 := by rw [hL]; exact dropL_split hd
  unfold gwR
  rw [hdr]
  unfold gwE gwS gwC at hg
  cases hdy : l.dirty with
  | false =>
    simp only [hdy, Bool.false_eq_true, if_false] at hg ⊢
    exact hg
  | true =>
    simp only [hdy, if_true] at hg ⊢
    by_cases he : K.wrE S l.sec l.dat = 0
    · simp only [he, if_true] at hg ⊢
      exact hg
    · simp only [he, if_false] at hg ⊢
      exact hg
theorem find_mem {L : List Ln} {p : Ln → Bool} {l : Ln} (h : L.find? p = some l) : l ∈ L ∧ p l = true := ⟨List.mem_of_find?_eq_some h, List.find?_some h⟩
theorem gw_two (h : RC w P S C) {l : Ln} (hl : l ∈ C.L) : (gwR S C l).1 = 0 ∨ (gwR S C l).1 = 33 := by
  unfold gwR
  split
  · split
    · exact .inl rfl
    · exact .inr rfl
  · exact .inl rfl
theorem RC.most0 (h : RC w P S C) : w.cell? ⟨P.bc, 1, none⟩ = some (.int .i64 C.most) := h.c 1
theorem quiet_len (h : RC w P S C) (q : Nat) (ty : TypeId) : (Builtin.len_ #[TLm] ty #[.map (some P.bl)]).run Tryz.prog (w.drewN q) = .ok (.int .i64 C.L.length) (w.drewN q) := by
  have hr : RC (w.drewN q) P S C := h.same fun _ _ => rfl
  exact hr.mapLen ty
set_option maxHeartbeats 4000000 in
theorem room_c (h : RC w P S C) (hf : K.FsOk S.fs) (hq : S.q.length + dirtyN C.L < 1048576) :
    Calls Tryz.prog 44 #[.pointer (some ⟨P.bc, 0, none⟩)] w fun r w' => r = .returned (.int .i64 (roomR S C).1) ∧ ∃ P', CAct w w' P P' C (roomR S C).2.1 (roomR S C).2.2 := by
  have c3 : w.cell? ⟨P.bc, 3, none⟩ = some (.map (some P.bl)) := h.c 3
  have c1 := h.most0
  have hlim := h.lim
  have hln := fun q => quiet_len h q 3
  have HR : Hid (∀ q, RC (w.drewN q) P S C) := fun q => h.same fun _ _ => rfl
  have HDW : Hid (∀ q w' P' S' C', CAct (w.drewN q) w' P P' C S' C' → CAct w w' P P' C S' C') := fun q w' P' S' C' ha => ⟨ha.rc, ⟨ha.kp.os, ha.kp.tape, ha.kp.output, ha.kp.size, ha.kp.block⟩, ha.sub, ha.bc, ha.bd⟩
  by_cases hfull : C.L.length < C.most
  · have hz : (C.L.length : Int) < (C.most : Int) := by omega
    unfold roomR
    rw [if_pos hfull]
    have H0 : Hid (CAct w w P P C S C) := CAct.refl h
    clear h
    go_enter Tryz.func44, Tryz.ntmps44
    go_wp2
    go_quiet (fail)
    go_wp2
    go_ret
    exact ⟨rfl, P, HDW.out _ _ _ _ _ (CAct.refl (HR.out _))⟩
  · have hz : ¬ (C.L.length : Int) < (C.most : Int) := by omega
    have hsd : (secs C.L).Nodup := h.sd
    obtain ⟨kf, cf⟩ := flush_ok (S := S) hsd
    -- the first question
    have HL1 : Hid (∀ q, Calls Tryz.prog 75 #[.pointer (some ⟨P.bc, 0, none⟩), .func (.func 94) #[] #[]] (w.drewN q) fun r w1 => r = .returned (.tuple #[.int .i64 (secOf (C.L.find? mayGo)), .bool (C.L.find? mayGo).isSome]) ∧ Below w.heap.size w w1) := fun q => by
      refine (least_may (HR.out q)).mono ?_
      rintro r w1 ⟨rfl, hb⟩
      exact ⟨rfl, ⟨hb.os, hb.tape, hb.output, hb.size, hb.block⟩⟩
    have HRL : Hid (∀ w1, Below w.heap.size w w1 → RC w1 P S C) := fun w1 hb => h.later hb
    have HFL : Hid (∀ w1 w' P' S' C', Below w.heap.size w w1 → CAct w1 w' P P' C S' C' → CAct w w' P P' C S' C') := fun w1 w' P' S' C' hb ha => ha.from_later hb h.lt
    unfold roomR
    rw [if_neg hfull]
    cases hfd : C.L.find? mayGo with
    | some l =>
      simp only [hfd, secOf, Option.isSome_some] at HL1 ⊢
      have hl := (find_mem hfd).1
      have HG : Hid (∀ w1, Below w.heap.size w w1 → Calls Tryz.prog 95 #[.pointer (some ⟨P.bc, 0, none⟩), .int .i64 l.sec] w1 fun r w' => r = .returned (.int .i64 (gwR S C l).1) ∧ ∃ P', CAct w w' P P' C (gwR S C l).2.1 (gwR S C l).2.2) := fun w1 hb => by
        refine (gw_c (HRL.out w1 hb) hf (by omega) hl).mono ?_
        rintro r w' ⟨rfl, P', ha⟩
        exact ⟨rfl, P', HFL.out w1 w' P' _ _ hb ha⟩
      clear h kf cf HR HRL HFL HDW hl hfd hsd
      go_enter Tryz.func44, Tryz.ntmps44
      go_wp2
      go_quiet (fail)
      go_wp2_with (first | (go_at_call 75; refine (HL1.out _).mono ?_; clear HL1; rintro r w1 ⟨rfl, hb1⟩) | (go_at_call 95; refine (HG.out w1 hb1).mono ?_; rintro r w2 ⟨rfl, ha⟩))
      go_ret
      exact ⟨rfl, ha⟩
    | none =>
      simp only [hfd, secOf, Option.isSome_none] at HL1 ⊢
      have HF : Hid (∀ w1, Below w.heap.size w w1 → Calls Tryz.prog 24 #[.pointer (some ⟨P.bc, 0, none⟩)] w1 fun r w' => r = .returned (.int .i64 (flushR S C).1) ∧ ∃ P', CAct w w' P P' C (flushR S C).2.1 (flushR S C).2.2) := fun w1 hb => by
        refine (flush_c (HRL.out w1 hb) hf hq).mono ?_
        rintro r w' ⟨rfl, P', ha⟩
        exact ⟨rfl, P', HFL.out w1 w' P' _ _ hb ha⟩
      generalize hr : flushR S C = r at *
      obtain ⟨e, S1, C1⟩ := r
      simp only at kf cf HF ⊢
      rcases kf.two with he | he
      · subst he
        simp only [if_true]
        have hphi := kf.phi
        rw [if_pos rfl] at hphi
        have hlen : C1.L.length = C.L.length := by have := congrArg List.length kf.sec; simpa [secs] using this
        obtain ⟨l, hfd1⟩ : ∃ l, C1.L.find? mayGo = some l := by
          cases hL : C1.L with
          | nil => rw [hL] at hlen; simp at hlen; omega
          | cons x L =>
            refine ⟨x, ?_⟩
            have := cf rfl x (by rw [hL]; simp)
            simp [mayGo, this]
        rw [hfd1]
        simp only
        have hl := (find_mem hfd1).1
        have HL2 : Hid (∀ (w2 : World) (P2 : Loc), CAct w w2 P P2 C S1 C1 → Calls Tryz.prog 75 #[.pointer (some ⟨P.bc, 0, none⟩), .func (.func 94) #[] #[]] w2 fun r w3 => r = .returned (.tuple #[.int .i64 l.sec, .bool true]) ∧ Calls Tryz.prog 95 #[.pointer (some ⟨P.bc, 0, none⟩), .int .i64 l.sec] w3 fun r w' => r = .returned (.int .i64 (gwR S1 C1 l).1) ∧ ∃ P', CAct w w' P P' C (gwR S1 C1 l).2.1 (gwR S1 C1 l).2.2) := fun w2 P2 ha => by
          have hlm := least_may ha.rc
          rw [ha.bc, hfd1] at hlm
          refine hlm.mono ?_
          rintro r w3 ⟨rfl, hb⟩
          have hg := gw_c (ha.rc.later hb) (kf.fs hf) (by omega) hl
          rw [ha.bc] at hg
          refine ⟨rfl, hg.mono ?_⟩
          rintro r w' ⟨rfl, P', ha'⟩
          exact ⟨rfl, P', ha.trans (ha'.from_later hb ha.rc.lt)⟩
        clear h kf cf HR HRL HFL HDW hl hfd hfd1 hsd hphi hlen hr
        go_enter Tryz.func44, Tryz.ntmps44
        go_wp2
        go_quiet (fail)
        go_wp2_with (first | (go_at_call 75; refine (HL1.out _).mono ?_; clear HL1; rintro r w1 ⟨rfl, hb1⟩) | (go_at_call 24; refine (HF.out w1 hb1).mono ?_; clear HF; rintro r w2 ⟨rfl, P2, ha2⟩) | (go_at_call 75; refine (HL2.out w2 P2 ha2).mono ?_; clear HL2; rintro r w3 ⟨rfl, hg3⟩) | (go_at_call 95; refine hg3.mono ?_; rintro r w4 ⟨rfl, ha⟩))
        go_ret
        exact ⟨rfl, ha⟩
      · subst he
        rw [if_neg (by decide)]
        clear h kf cf HR HRL HFL HDW hfd hsd hr
        go_enter Tryz.func44, Tryz.ntmps44
        go_wp2
        go_quiet (fail)
        go_wp2_with (first | (go_at_call 75; refine (HL1.out _).mono ?_; clear HL1; rintro r w1 ⟨rfl, hb1⟩) | (go_at_call 24; refine (HF.out w1 hb1).mono ?_; clear HF; rintro r w2 ⟨rfl, P2, ha2⟩))
        go_ret
        exact ⟨rfl, P2, ha2⟩
end
end Go.Proofs.YtlacligofhinmaaGreat.C

namespace Go.Proofs.YtlacligofhinmaaGreat.C
open Go.RowKit Go.Maps Go.Shelf Go.Sort Go.Proofs.YtlacligofhinmaaGreat
attribute [local go_sem] Oper.semAt_some
set_option linter.unusedVariables false
set_option linter.unusedSimpArgs false
set_option maxRecDepth 100000

/-- what stays so through any call that may write lines back or give them up -/
structure Held (S : K.Dk) (C : Ch) (S' : K.Dk) (C' : Ch) : Prop where
  fs : K.FsOk S.fs → K.FsOk S'.fs
  n : S'.n = S.n
  most : C'.most = C.most
  notes : C'.notes = C.notes
  phi : S'.q.length + dirtyN C'.L ≤ S.q.length + dirtyN C.L + 1
  sub : ∀ s : Int, lineAt C.L s = none → lineAt C'.L s = none
theorem wbC_most (S : K.Dk) (C : Ch) (s : Int) : (wbC S C s).most = C.most ∧ (wbC S C s).notes = C.notes := by
  unfold wbC
  split
  · split <;> exact ⟨rfl, rfl⟩
  · exact ⟨rfl, rfl⟩
theorem backs_most : ∀ (ks : List Int) (S : K.Dk) (C : Ch), (backs ks S C).2.2.most = C.most ∧ (backs ks S C).2.2.notes = C.notes
  | [], S, C => ⟨rfl, rfl⟩
  | s :: ks, S, C => by
    rw [backs_cons]
    have h := wbC_most S C s
    split
    · have := backs_most ks (wbS S C s) (wbC S C s)
      exact ⟨this.1.trans h.1, this.2.trans h.2⟩
    · exact h
theorem settle_most (ks : List Int) (S : K.Dk) (C : Ch) : (settleR ks S C).2.2.most = C.most ∧ (settleR ks S C).2.2.notes = C.notes := by
  unfold settleR
  split
  · exact backs_most ks S C
  · exact backs_most ks S C
theorem flush_most (S : K.Dk) (C : Ch) : (flushR S C).2.2.most = C.most ∧ (flushR S C).2.2.notes = C.notes := by
  unfold flushR
  have h1 := settle_most (dlL isData C.L) S C
  split
  · split
    · exact h1
    · have h2 := settle_most (dlL isNoted (settleR (dlL isData C.L) S C).2.2.L) (settleR (dlL isData C.L) S C).2.1 (settleR (dlL isData C.L) S C).2.2
      exact ⟨h2.1.trans h1.1, h2.2.trans h1.2⟩
  · exact h1
theorem none_iff {L : List Ln} {s : Int} : lineAt L s = none ↔ s ∉ secs L := by
  constructor
  · intro h hm
    obtain ⟨l, hl, e⟩ := List.mem_map.1 hm
    exact lineAt_none h l hl e
  · intro h
    cases e : lineAt L s with
    | none => rfl
    | some l => exact absurd (List.mem_map.2 ⟨l, (lineAt_mem e).1, (lineAt_mem e).2⟩) h
theorem flush_held {S : K.Dk} {C : Ch} (hsd : (secs C.L).Nodup) : Held S C (flushR S C).2.1 (flushR S C).2.2 := by
  obtain ⟨k, _⟩ := flush_ok (S := S) hsd
  have hm := flush_most S C
  refine ⟨k.fs, k.n, hm.1, hm.2, ?_, fun s hs => ?_⟩
  · have := k.phi; split at this <;> omega
  · rw [none_iff, k.sec, ← none_iff]; exact hs
theorem dirtyN_drop (L : List Ln) (s : Int) : dirtyN (dropL L s) ≤ dirtyN L := by
  unfold dirtyN dropL
  rw [List.filter_filter]
  have : (fun a : Ln => a.dirty && decide ((a.sec : Int) ≠ s)) = fun a => decide ((a.sec : Int) ≠ s) && a.dirty := by funext a; rw [Bool.and_comm]
  rw [this, ← List.filter_filter]
  exact List.length_filter_le _ _
theorem dirtyN_drop_dirty {L : List Ln} {l : Ln} (hl : l ∈ L) (hd : l.dirty = true) : dirtyN (dropL L l.sec) + 1 ≤ dirtyN L := by
  induction L with
  | nil => cases hl
  | cons x L ih =>
    have e1 : dropL (x :: L) l.sec = if (x.sec : Int) ≠ l.sec then x :: dropL L l.sec else dropL L l.sec := by
      unfold dropL
      rw [List.filter_cons]
      by_cases h : (x.sec : Int) ≠ l.sec <;> simp [h]
    have e2 : ∀ (y : Ln) (M : List Ln), dirtyN (y :: M) = (if y.dirty = true then 1 else 0) + dirtyN M := fun y M => by
      unfold dirtyN
      rw [List.filter_cons]
      cases y.dirty <;> simp <;> omega
    rw [e1, e2]
    rcases List.mem_cons.1 hl with rfl | hl
    · rw [if_neg (by simp)]
      have := dirtyN_drop L l.sec
      rw [if_pos hd]
      omega
    · have := ih hl
      split
      · rw [e2]; omega
      · omega
theorem drop_sub (L : List Ln) (s t : Int) (h : lineAt L t = none) : lineAt (dropL L s) t = none := by
  rw [none_iff] at h ⊢
  intro hm
  obtain ⟨l, hl, e⟩ := List.mem_map.1 hm
  exact h (List.mem_map.2 ⟨l, (List.mem_filter.1 hl).1, e⟩)
theorem gw_held {S : K.Dk} {C : Ch} {l : Ln} (hl : l ∈ C.L) : Held S C (gwR S C l).2.1 (gwR S C l).2.2 ∧ ((gwR S C l).1 = 0 → (gwR S C l).2.2.L = dropL C.L l.sec) := by
  unfold gwR
  by_cases hd : l.dirty = true
  · rw [if_pos hd]
    have hq := K.wrS_q S l.sec l.dat
    have hdr := dirtyN_drop_dirty hl hd
    split
    · exact ⟨⟨fun hf => K.wrS_ok hf _ _, wrS_n _ _ _, rfl, rfl, by simp only; omega, fun s hs => drop_sub _ _ _ hs⟩, fun _ => rfl⟩
    · exact ⟨⟨fun hf => K.wrS_ok hf _ _, wrS_n _ _ _, rfl, rfl, by simp only; omega, fun s hs => hs⟩, fun h => by simp at h⟩
  · rw [if_neg hd]
    have hdr := dirtyN_drop C.L l.sec
    exact ⟨⟨id, rfl, rfl, rfl, by simp only; omega, fun s hs => drop_sub _ _ _ hs⟩, fun _ => rfl⟩
theorem dropL_len {L : List Ln} (hd : (secs L).Nodup) {l : Ln} (hl : l ∈ L) : (dropL L l.sec).length + 1 = L.length := by
  obtain ⟨L1, L2, hL, _, _⟩ := lineAt_split (at_line hd hl)
  have hd' := hd
  rw [hL] at hd'
  rw [hL, dropL_split hd']
  simp
  omega
theorem room_ok {S : K.Dk} {C : Ch} (hsd : (secs C.L).Nodup) (hlen : C.L.length ≤ C.most) (hm1 : 1 ≤ C.most) : Held S C (roomR S C).2.1 (roomR S C).2.2 ∧ ((roomR S C).1 = 0 → (roomR S C).2.2.L.length < C.most) ∧ ((roomR S C).1 = 0 ∨ (roomR S C).1 = 33) := by
  unfold roomR
  by_cases hfull : C.L.length < C.most
  · rw [if_pos hfull]
    exact ⟨⟨id, rfl, rfl, rfl, by simp only; omega, fun s hs => hs⟩, fun _ => hfull, .inl rfl⟩
  · rw [if_neg hfull]
    have two : ∀ (S : K.Dk) (C : Ch) (l : Ln), (gwR S C l).1 = 0 ∨ (gwR S C l).1 = 33 := fun S C l => by
      unfold gwR
      split
      · split
        · exact .inl rfl
        · exact .inr rfl
      · exact .inl rfl
    cases hfd : C.L.find? mayGo with
    | some l =>
      simp only
      have hl := (find_mem hfd).1
      obtain ⟨h1, h2⟩ := gw_held (S := S) hl
      refine ⟨h1, fun h0 => ?_, two _ _ _⟩
      rw [h2 h0]
      have := dropL_len hsd hl
      omega
    | none =>
      simp only
      obtain ⟨k, c⟩ := flush_ok (S := S) hsd
      have hh := flush_held (S := S) hsd
      split
      · rename_i h0
        have hlen1 : (flushR S C).2.2.L.length = C.L.length := by have := congrArg List.length k.sec; simpa [secs] using this
        have hphi := k.phi
        rw [if_pos h0] at hphi
        have hsd1 : (secs (flushR S C).2.2.L).Nodup := by rw [k.sec]; exact hsd
        obtain ⟨l, hfd1⟩ : ∃ l, (flushR S C).2.2.L.find? mayGo = some l := by
          cases hL : (flushR S C).2.2.L with
          | nil => rw [hL] at hlen1; simp at hlen1; omega
          | cons x L =>
            refine ⟨x, ?_⟩
            have := c h0 x (by rw [hL]; simp)
            simp [mayGo, this]
        rw [hfd1]
        simp only
        have hl := (find_mem hfd1).1
        obtain ⟨h1, h2⟩ := gw_held (S := (flushR S C).2.1) hl
        have hp := h1.phi
        refine ⟨⟨fun hf => h1.fs (k.fs hf), h1.n.trans k.n, h1.most.trans hh.most, h1.notes.trans hh.notes, by omega, fun s hs => h1.sub s (hh.sub s hs)⟩, fun e0 => ?_, two _ _ _⟩
        rw [h2 e0]
        have := dropL_len hsd1 hl
        omega
      · rename_i h0
        exact ⟨hh, fun e => absurd e h0, k.two⟩
section
variable {w w' : World} {P : Loc} {S S' : K.Dk} {C C' : Ch}
/-- bytes are laid into a line -/
theorem RC.fill (h : RC w P S C) {L1 L2 : List Ln} {l : Ln} (hL : C.L = L1 ++ l :: L2) {bs : K.Bl} (hbs : K.OkB bs) {a : Addr} {m cap : Nat} (hm : m = 512) (hsrc : ∀ j v, (bs.map bv)[j]? = some v → w.cell? (a.add j) = some v) (ty : TypeId) :
    (Builtin.copy_ #[52, 52] ty #[.slice (some ⟨l.blk, 0, none⟩) 512 512, .slice (some a) m cap]).run Tryz.prog w = .ok (goInt 512) (w.setRow l.blk (lcells { l with dat := bs })) ∧ CAct w (w.setRow l.blk (lcells { l with dat := bs })) P P C S { C with L := L1 ++ { l with dat := bs } :: L2 } := by
  have hl : l ∈ C.L := by rw [hL]; simp
  have hok := (h.ok l hl).2
  have hlen : (bs.map bv).length = 512 := by rw [List.length_map]; exact hbs.len
  have hcl : (lcells l).size = 514 := by unfold lcells; simp [hok.len]
  have h1 := run_copy_row (P := Tryz.prog) w 52 52 ty 5 l.blk 0 512 512 a m cap (lcells l) TLn (bs.map bv) Tryz.underlying52 K.sizeU8 (h.ln l hl) (by rw [hlen, hm]; rfl) hsrc (by rw [hlen, hcl]; decide) (K.Lc_one' bs)
  rw [hlen] at h1
  have e : ((lcells l).toList.take 0 ++ bs.map bv ++ (lcells l).toList.drop (0 + 512)).toArray = lcells { l with dat := bs } := by
    unfold lcells
    simp only [List.take_zero, List.nil_append, Nat.zero_add]
    rw [List.drop_append_of_le_length (by simp [hok.len]), List.drop_of_length_le (by simp [hok.len])]
    rfl
  rw [e] at h1
  refine ⟨h1, h.line hL (l' := { l with dat := bs }) (setRow_heap w l.blk _ _ TLn _ (h.ln l hl)) rfl rfl hbs ⟨rfl, rfl, rfl, by simp [World.setRow], fun i hi hn => setRow_other w l.blk i _ (by simpa using hn)⟩⟩
end
end Go.Proofs.YtlacligofhinmaaGreat.C

namespace Go.Proofs.YtlacligofhinmaaGreat.C
open Go.RowKit Go.Maps Go.Shelf Go.Sort Go.Proofs.YtlacligofhinmaaGreat
attribute [local go_sem] Oper.semAt_some
set_option linter.unusedVariables false
set_option linter.unusedSimpArgs false
set_option maxRecDepth 100000

abbrev TB8 : TypeId := 5
section
variable {w w' : World} {P : Loc} {S S' : K.Dk} {C C' : Ch}
/-- no block of the cache's is a row of bytes -/
theorem RC.noB (h : RC w P S C) {g : Nat} (hg : g ∈ P.fp C.L) (cs : Array Value) (fr : Nat × Nat) : w.heap[g]? ≠ some (.cells cs TB8 fr) := by
  intro hb
  simp only [Loc.fp, List.mem_append] at hg
  rcases hg with hg | hg | hg
  · obtain ⟨D, ⟨es, ck, hm, _⟩, _⟩ := h.rk.sm
    obtain ⟨D', ⟨es', ck', hm', _⟩, _⟩ := h.rk.lm
    simp only [Loc.dfp, K.fp, List.mem_cons, List.mem_append, Option.mem_toList] at hg
    rcases hg with rfl | rfl | rfl | hg | hg
    · rw [h.rk.blk] at hb; simp at hb; exact absurd hb.2.1 (by decide)
    · rw [hm] at hb; cases hb
    · rw [hm'] at hb; cases hb
    · obtain ⟨_, cs', h1⟩ := K.row_lt h.rk.qr _ hg; rw [h1] at hb; simp at hb; exact absurd hb.2.1 (by decide)
    · obtain ⟨_, cs', h1⟩ := K.row_lt h.rk.fr _ hg; rw [h1] at hb; simp at hb; exact absurd hb.2.1 (by decide)
  · obtain ⟨nx, pv, hr, hgp, hp⟩ := h.ro.rg
    obtain ⟨n, D, ⟨es, ck, hm, _⟩, _⟩ := h.ro.mp
    simp only [Loc.ofp, I.fp, List.mem_cons, List.mem_map] at hg
    rcases hg with rfl | rfl | rfl | ⟨e, he, rfl⟩
    · rw [h.ro.ord] at hb; simp at hb; exact absurd hb.2.1 (by decide)
    · rw [hm] at hb; cases hb
    · rw [hgp] at hb; simp [I.plc] at hb; exact absurd hb.2.1 (by decide)
    · rw [hp e he] at hb; simp [I.plc] at hb; exact absurd hb.2.1 (by decide)
  · obtain ⟨D, ⟨es, ck, hm, _⟩, _⟩ := h.lm
    simp only [Loc.cfp, List.mem_cons, List.mem_append, List.mem_map, Option.mem_toList] at hg
    rcases hg with rfl | rfl | hg | ⟨l, hl, rfl⟩
    · rw [h.blk] at hb; simp at hb; exact absurd hb.2.1 (by decide)
    · rw [hm] at hb; cases hb
    · obtain ⟨_, cs', h1⟩ := h.nr.lt _ hg; rw [h1] at hb; simp at hb; exact absurd hb.2.1 (by decide)
    · rw [h.ln l hl] at hb; simp at hb; exact absurd hb.2.1 (by decide)
theorem RC.farB (h : RC w P S C) {B n : Nat} {v : Value} {xs : List Value} (ho : w.ownsRow B TB8 1 v n xs) : ∀ g, v.ownBlock = some g → g ∉ P.fp C.L := fun g hg hm => by
  obtain ⟨_, cs, h1⟩ := K.row_lt ho g hg
  exact h.noB hm cs _ h1
/-- a row of bytes through a call -/
theorem CAct.row {P' : Loc} {B n : Nat} {v : Value} {xs : List Value} (ha : CAct w w' P P' C S' C') (h : RC w P S C) (ho : w.ownsRow B TB8 1 v n xs) : w'.ownsRow B TB8 1 v n xs :=
  K.ownsRow_block ho fun g hg => ha.kp.block g (K.row_lt ho g hg).1 (h.farB ho g hg)
/-- Read: the error, the bytes, disk and cache behind it; b: where a new line lies -/
def readR (S : K.Dk) (C : Ch) (s : Int) (b : Nat) : Int × K.Bl × K.Dk × Ch :=
  if K.inD S.n s = true then
    match lineAt C.L s with
    | some l => (0, l.dat, S, useC C s)
    | none =>
      if (roomR S (missC C)).1 = 0 then
        (if K.rdE (roomR S (missC C)).2.1 s = 0 then
          (0, K.rdL (roomR S (missC C)).2.1 s, K.rdS (roomR S (missC C)).2.1 s, { (roomR S (missC C)).2.2 with L := (roomR S (missC C)).2.2.L ++ [⟨s.toNat, b, K.rdL (roomR S (missC C)).2.1 s, false, isN C.notes s⟩] })
        else (33, [], K.rdS (roomR S (missC C)).2.1 s, (roomR S (missC C)).2.2))
      else ((roomR S (missC C)).1, [], (roomR S (missC C)).2.1, (roomR S (missC C)).2.2)
  else (31, [], S, C)
theorem rdE_two {S : K.Dk} {s : Int} (h : K.inD S.n s = true) : K.rdE S s = 0 ∨ K.rdE S s = 33 := by
  unfold K.rdE
  rw [if_pos h]
  split
  · exact .inr rfl
  · exact .inl rfl
theorem rdL_ok {lk : Int} {b ms ml : Nat} {qv fv : Value} {S : K.Dk} (h : K.RK w lk b ms ml qv fv S) {s : Int} (hi : K.inD S.n s = true) (he : K.rdE S s = 0) : K.OkB (K.rdL S s) := by
  unfold K.rdE at he
  unfold K.rdL
  rw [if_pos hi] at he ⊢
  split
  · rename_i hh; rw [if_pos hh] at he; omega
  · simp only [K.inD, decide_eq_true_eq] at hi
    exact K.look_ok h (by omega)
theorem inD_nat {n : Nat} {s : Int} (h : K.inD n s = true) : ∃ t : Nat, s = t ∧ t < n := by
  simp only [K.inD, decide_eq_true_eq] at h
  exact ⟨s.toNat, by omega, by omega⟩
set_option maxHeartbeats 8000000 in
theorem read_c (h : RC w P S C) (hf : K.FsOk S.fs) (hq : S.q.length + dirtyN C.L < 1048576) (s : Int) :
    Calls Tryz.prog 14 #[.pointer (some ⟨P.bc, 0, none⟩), .int .i64 s] w fun r w' => ∃ b v, r = .returned (.tuple #[v, .int .i64 (readR S C s b).1]) ∧ w'.ownsRow w.heap.size TB8 1 v (readR S C s b).2.1.length ((readR S C s b).2.1.map bv) ∧ ∃ P', CAct w w' P P' C (readR S C s b).2.2.1 (readR S C s b).2.2.2 := by
  have hrf := refusal_c h s
  unfold readR
  by_cases hi : K.inD S.n s = true
  · simp only [hi, if_true] at hrf ⊢
    obtain ⟨t, rfl, ht⟩ := inD_nat hi
    have hn1 := h.rk.n1
    have hwf : I.wfK (t : Int) := K.wfI t (by omega)
    have HU : Hid (∀ w1, CAct w w1 P P C S C → Calls Tryz.prog 42 #[.pointer (some ⟨P.bc, 0, none⟩), .int .i64 t] w1 fun r w2 => r = .returned (linePtr (lineAt C.L t)) ∧ ∃ P', CAct w w2 P P' C S (useC C t)) := fun w1 ha => by
      refine (use_c ha.rc hwf).mono ?_
      rintro r w2 ⟨rfl, P', ha'⟩
      exact ⟨rfl, P', ha.trans ha'⟩
    cases hl : lineAt C.L t with
    | some l =>
      simp only [hl, linePtr] at HU ⊢
      have HC : Hid (∀ w1 P1, CAct w w1 P P1 C S (useC C t) → Calls Tryz.prog 43 #[.slice (some ⟨l.blk, 0, none⟩) 512 512] w1 fun r w2 => ∃ v, r = .returned v ∧ w2.ownsRow w.heap.size TB8 1 v l.dat.length (l.dat.map bv) ∧ ∃ P', CAct w w2 P P' C S (useC C t)) := fun w1 P1 ha => by
        have hm : l ∈ (useC C t).L := by unfold useC; rw [hl]; simp
        have hok := (ha.rc.ok l hm).2
        have hbr : BRow w1 (some ⟨l.blk, 0, none⟩) 512 l.dat := ⟨hok.lt, by rw [hok.len]; decide, (fun e => by cases e), fun _ => ⟨l.blk, 0, rfl, fun k hk => by
          rw [Nat.zero_add]
          exact (ha.rc.lcell hm k).trans (lcells_dat hok (by rw [List.getElem?_map, List.getElem?_eq_getElem hk]; rfl))⟩⟩
        refine (clone_some ⟨l.blk, 0, none⟩ 512 512 l.dat w1 hbr hok.len (by decide)).mono ?_
        rintro r w2 ⟨v, rfl, ho, hb⟩
        exact ⟨v, rfl, by rw [hok.len]; exact owns_mono ho ha.kp.size, P1, ha.later hb⟩
      have e1 := neq_lp_some
      clear h hl hf hq
      go_enter Tryz.func14, Tryz.ntmps14
      go_wp2_with (first | (go_at_call 41; refine hrf.mono ?_; clear hrf; rintro r w1 ⟨rfl, ha1⟩) | (go_at_call 42; refine (HU.out w1 ha1).mono ?_; clear HU; rintro r w2 ⟨rfl, P2, ha2⟩) | (go_at_call 43; refine (HC.out w2 P2 ha2).mono ?_; clear HC; rintro r w3 ⟨v, rfl, ho, ha3⟩))
      refine bodyPost_ret (results_tmp2 rfl _ _ _) rfl ?_
      first | exact ⟨0, v, rfl, ho, ha3⟩ | exact ⟨v, rfl, ho, ha3⟩
    | none =>
      simp only [hl, linePtr] at HU ⊢
      have huse : useC C t = missC C := by unfold useC; rw [hl]
      rw [huse] at HU
      have hsd : (secs (missC C).L).Nodup := h.sd
      have hlim := h.lim
      obtain ⟨hh, hroom, htwo⟩ := room_ok (S := S) (C := missC C) hsd hlim.1 hlim.2.1
      have HM : Hid (∀ w1 P1, CAct w w1 P P1 C S (missC C) → Calls Tryz.prog 44 #[.pointer (some ⟨P.bc, 0, none⟩)] w1 fun r w2 => r = .returned (.int .i64 (roomR S (missC C)).1) ∧ ∃ P', CAct w w2 P P' C (roomR S (missC C)).2.1 (roomR S (missC C)).2.2) := fun w1 P1 ha => by
        have hr := room_c ha.rc hf hq
        rw [ha.bc] at hr
        refine hr.mono ?_
        rintro r w2 ⟨rfl, P', ha'⟩
        exact ⟨rfl, P', ha.trans ha'⟩
      have hnn : lineAt (missC C).L t = none := hl
      have hno := hh.sub t hnn
      have hfs := hh.fs hf
      have hnS := hh.n
      have hnt : (roomR S (missC C)).2.2.notes = C.notes := hh.notes
      have hmost : (roomR S (missC C)).2.2.most = C.most := hh.most
      generalize hR : roomR S (missC C) = R at *
      obtain ⟨e, S1, C1⟩ := R
      simp only at *
      have e1 := neq_lp_none
      rcases htwo with he | he
      · subst he
        simp only [if_true]
        have hin1 : K.inD S1.n t = true := by rw [hnS]; exact hi
        have HRD : Hid (∀ w2 P2, CAct w w2 P P2 C S1 C1 → w2.cell? ⟨P.bc, 0, none⟩ = some (.pointer (some ⟨P.bd, 0, none⟩)) ∧ Calls Tryz.prog 45 #[.pointer (some ⟨P.bd, 0, none⟩), .int .i64 t] w2 fun r w3 => ∃ v, r = .returned (.tuple #[v, .int .i64 (K.rdE S1 t)]) ∧ w3.ownsRow w.heap.size TB8 1 v (K.rdL S1 t).length ((K.rdL S1 t).map bv) ∧ ∃ P', CAct w w3 P P' C (K.rdS S1 t) C1) := fun w2 P2 ha => by
          have hc := ha.rc.c 0
          rw [ha.bc] at hc
          have hr := K.read_gen ha.rc.rk hfs t
          rw [ha.bd] at hr
          refine ⟨by rw [hc, ← ha.bd]; rfl, hr.mono ?_⟩
          rintro r w3 ⟨v, fv1, rfl, ho, hda⟩
          rw [← ha.bd] at hda
          exact ⟨v, rfl, owns_mono ho ha.kp.size, _, ha.trans (ha.rc.disk (rdS_n S1 t) hda)⟩
        rcases rdE_two hin1 with hre | hre
        · simp only [hre, if_true] at HRD ⊢
          have HAD : Hid (∀ w3 P3 v, CAct w w3 P P3 C (K.rdS S1 t) C1 → w3.ownsRow w.heap.size TB8 1 v (K.rdL S1 t).length ((K.rdL S1 t).map bv) → ∃ g cap, v = .slice (some ⟨g, 0, none⟩) 512 cap ∧ Calls Tryz.prog 46 #[.pointer (some ⟨P.bc, 0, none⟩), .int .i64 t] w3 fun r w4 => ∃ b, r = .returned (.pointer (some ⟨b, 0, none⟩)) ∧ ∃ w5, (∀ ty, (Builtin.copy_ #[52, 52] ty #[.slice (some ⟨b, 0, none⟩) 512 512, .slice (some ⟨g, 0, none⟩) 512 cap]).run Tryz.prog w4 = .ok (goInt 512) w5) ∧ w5.ownsRow w.heap.size TB8 1 v (K.rdL S1 t).length ((K.rdL S1 t).map bv) ∧ ∃ P', CAct w w5 P P' C (K.rdS S1 t) { C1 with L := C1.L ++ [⟨t, b, K.rdL S1 t, false, isN C.notes t⟩] }) := fun w3 P3 v ha ho => by
            have hrn : (K.rdS S1 t).n = S.n := (rdS_n S1 t).trans hnS
            have hokb : K.OkB (K.rdL S1 t) := by
              unfold K.rdE at hre
              unfold K.rdL
              rw [if_pos hin1] at hre ⊢
              split
              · rename_i hx; rw [if_pos hx] at hre; omega
              · rename_i hx
                have hlk := K.look_ok ha.rc.rk (s := t) (by rw [hrn]; exact ht)
                have : K.look (K.rdS S1 t) t = K.look S1 (t : Int).toNat := by
                  unfold K.rdS
                  rw [if_pos hin1, if_neg hx]
                  rw [Int.toNat_natCast]
                  unfold K.look K.readS K.failS
                  split <;> rfl
                rw [← this]; exact hlk
            rw [hokb.len] at ho ⊢
            obtain ⟨g, cap, cur, rfl, _, hgc, _⟩ := K.own_form ho (by decide)
            refine ⟨g, cap, rfl, ?_⟩
            have had := addLine_c ha.rc (s := t) (by rw [hrn]; exact ht) hno (by rw [hmost]; exact hroom rfl)
            rw [ha.bc] at had
            refine had.mono ?_
            rintro r w4 ⟨b, P4, rfl, ha4⟩
            have ho4 := ha4.row ha.rc ho
            obtain ⟨hcp, ha5⟩ := ha4.rc.fill (L1 := C1.L) (L2 := []) (l := newLn t b (isN C1.notes t)) rfl hokb (a := ⟨g, 0, none⟩) (m := 512) (cap := cap) rfl (fun j x hx => ho4.cells (g := g) rfl j x hx) 0
            refine ⟨b, rfl, w4.setRow b (lcells { newLn t b (isN C1.notes t) with dat := K.rdL S1 t }), fun ty => (ha4.rc.fill (L1 := C1.L) (L2 := []) (l := newLn t b (isN C1.notes t)) rfl hokb (a := ⟨g, 0, none⟩) (m := 512) (cap := cap) rfl (fun j x hx => ho4.cells (g := g) rfl j x hx) ty).1, ha5.row ha4.rc ho4, P4, ?_⟩
            have := (ha.trans ha4).trans ha5
            rw [← hnt]
            exact this
          clear h hl hf hq hh hroom hno hfs hnS hnt hmost hR hnn hi hsd hin1
          go_enter Tryz.func14, Tryz.ntmps14
          go_wp2_with (first | (go_at_call 41; refine hrf.mono ?_; clear hrf; rintro r w1 ⟨rfl, ha1⟩) | (go_at_call 42; refine (HU.out w1 ha1).mono ?_; clear HU; rintro r w2 ⟨rfl, P2, ha2⟩) | (go_at_call 44; refine (HM.out w2 P2 ha2).mono ?_; clear HM; rintro r w3 ⟨rfl, P3, ha3⟩; obtain ⟨k0, hrd⟩ := HRD.out w3 P3 ha3; clear HRD) | (go_at_call 45; refine hrd.mono ?_; clear hrd; rintro r w4 ⟨v, rfl, ho4, P4, ha4⟩; obtain ⟨g, cap, rfl, had⟩ := HAD.out w4 P4 v ha4 ho4; clear HAD) | (go_at_call 46; refine had.mono ?_; clear had; rintro r w5 ⟨b, rfl, w6, hcp, ho6, ha6⟩))
          refine bodyPost_ret (results_tmp2 rfl _ _ _) rfl ?_
          exact ⟨b, _, rfl, ho6, ha6⟩
        · simp only [hre, show ((33 : Int) = 0) = False by simp, if_false] at HRD ⊢
          clear h hl hf hq hh hroom hno hfs hnS hnt hmost hR hnn hi hsd hin1
          go_enter Tryz.func14, Tryz.ntmps14
          go_wp2_with (first | (go_at_call 41; refine hrf.mono ?_; clear hrf; rintro r w1 ⟨rfl, ha1⟩) | (go_at_call 42; refine (HU.out w1 ha1).mono ?_; clear HU; rintro r w2 ⟨rfl, P2, ha2⟩) | (go_at_call 44; refine (HM.out w2 P2 ha2).mono ?_; clear HM; rintro r w3 ⟨rfl, P3, ha3⟩; obtain ⟨k0, hrd⟩ := HRD.out w3 P3 ha3; clear HRD) | (go_at_call 45; refine hrd.mono ?_; clear hrd; rintro r w4 ⟨v, rfl, ho4, ha4⟩))
          refine bodyPost_ret (results_tmp2 rfl _ _ _) rfl ?_
          first | exact ⟨0, _, rfl, World.ownsRow_nil _ _ _ _, ha4⟩ | exact ⟨_, rfl, World.ownsRow_nil _ _ _ _, ha4⟩
      · subst he
        simp only [show ((33 : Int) = 0) = False by simp, if_false]
        clear h hl hf hq hh hroom hno hfs hnS hnt hmost hR hnn hi hsd
        go_enter Tryz.func14, Tryz.ntmps14
        go_wp2_with (first | (go_at_call 41; refine hrf.mono ?_; clear hrf; rintro r w1 ⟨rfl, ha1⟩) | (go_at_call 42; refine (HU.out w1 ha1).mono ?_; clear HU; rintro r w2 ⟨rfl, P2, ha2⟩) | (go_at_call 44; refine (HM.out w2 P2 ha2).mono ?_; clear HM; rintro r w3 ⟨rfl, ha3⟩))
        refine bodyPost_ret (results_tmp2 rfl _ _ _) rfl ?_
        first | exact ⟨0, _, rfl, World.ownsRow_nil _ _ _ _, ha3⟩ | exact ⟨_, rfl, World.ownsRow_nil _ _ _ _, ha3⟩
  · simp only [hi, if_false] at hrf ⊢
    clear h hf hq
    go_enter Tryz.func14, Tryz.ntmps14
    go_wp2_with (go_at_call 41; refine hrf.mono ?_; clear hrf; rintro r w1 ⟨rfl, ha1⟩)
    refine bodyPost_ret (results_tmp2 rfl _ _ _) rfl ?_
    first | exact ⟨0, _, rfl, World.ownsRow_nil _ _ _ _, P, ha1⟩ | exact ⟨_, rfl, World.ownsRow_nil _ _ _ _, P, ha1⟩
end
end Go.Proofs.YtlacligofhinmaaGreat.C

namespace Go.Proofs.YtlacligofhinmaaGreat.C
open Go.RowKit Go.Maps Go.Shelf Go.Sort Go.Proofs.YtlacligofhinmaaGreat
attribute [local go_sem] Oper.semAt_some
set_option linter.unusedVariables false
set_option linter.unusedSimpArgs false
set_option maxRecDepth 100000

section
variable {w w' : World} {P : Loc} {S S' : K.Dk} {C C' : Ch}
/-- bytes are laid into a line, which is dirty then -/
theorem RC.lay (h : RC w P S C) {L1 L2 : List Ln} {l : Ln} (hL : C.L = L1 ++ l :: L2) {bs : K.Bl} (hbs : K.OkB bs) {a : Addr} {m cap : Nat} (hm : m = 512) (hsrc : ∀ j v, (bs.map bv)[j]? = some v → w.cell? (a.add j) = some v) :
    ∃ w5, (∀ ty, (Builtin.copy_ #[52, 52] ty #[.slice (some ⟨l.blk, 0, none⟩) 512 512, .slice (some a) m cap]).run Tryz.prog w = .ok (goInt 512) w5) ∧ w5.frozen? ⟨l.blk, 512, none⟩ = false ∧ (∃ x, w5.cell? ⟨l.blk, 512, none⟩ = some x) ∧ CAct w (w5.setCell ⟨l.blk, 512, none⟩ (.bool true)) P P C S { C with L := L1 ++ { l with dat := bs, dirty := true } :: L2 } := by
  have hl : l ∈ C.L := by rw [hL]; simp
  obtain ⟨_, ha⟩ := h.fill hL hbs (cap := cap) hm hsrc 0
  have hln : (w.setRow l.blk (lcells { l with dat := bs })).heap[l.blk]? = some (.cells (lcells { l with dat := bs }) TLn (0, 0)) := setRow_heap w l.blk _ _ TLn _ (h.ln l hl)
  have hset := K.blk_set hln 512 (.bool true)
  rw [lcells_set hbs] at hset
  have hk : K.Kp (w.setRow l.blk (lcells { l with dat := bs })) ((w.setRow l.blk (lcells { l with dat := bs })).setCell ⟨l.blk, 512, none⟩ (.bool true)) [l.blk] := (K.Kp.refl _ _).set (.inl (by simp)) 512 _
  have a2 := ha.rc.line (L1 := L1) (L2 := L2) (l := { l with dat := bs }) rfl (l' := { l with dat := bs, dirty := true }) hset rfl rfl hbs hk
  refine ⟨_, fun ty => (h.fill hL hbs (cap := cap) hm hsrc ty).1, K.frozen_of hln, ⟨_, (K.cell_of hln).trans (lcells_dirty hbs)⟩, ha.trans a2⟩
/-- Write -/
def writeR (S : K.Dk) (C : Ch) (s : Int) (bs : K.Bl) (b : Nat) : Int × K.Dk × Ch :=
  if K.inD S.n s = true then
    (if bs.length = 512 then
      match lineAt C.L s with
      | some l => (0, S, { hitC C with L := dropL C.L s ++ [{ l with dat := bs, dirty := true }] })
      | none => if (roomR S (missC C)).1 = 0 then (0, (roomR S (missC C)).2.1, { (roomR S (missC C)).2.2 with L := (roomR S (missC C)).2.2.L ++ [⟨s.toNat, b, bs, true, isN C.notes s⟩] })
        else roomR S (missC C)
    else (32, S, C))
  else (31, S, C)
/-- where a write's bytes come from -/
def Src (w : World) (F : List Nat) (ao : Option Addr) (bs : K.Bl) : Prop := ∃ sb so, ao = some ⟨sb, so, none⟩ ∧ sb ∉ F ∧ sb < w.heap.size ∧ ∀ j v, (bs.map bv)[j]? = some v → w.cell? ⟨sb, so + j, none⟩ = some v
theorem Src.through {P' : Loc} {ao : Option Addr} {bs : K.Bl} (hs : Src w (P.fp C.L) ao bs) (ha : CAct w w' P P' C S' C') : ∃ a, ao = some a ∧ ∀ j v, (bs.map bv)[j]? = some v → w'.cell? (a.add j) = some v := by
  obtain ⟨sb, so, rfl, hf, hl, hc⟩ := hs
  refine ⟨_, rfl, fun j v hv => ?_⟩
  have h1 := hc j v hv
  have hb := ha.kp.block sb hl hf
  rw [add_plain]
  unfold World.cell? at h1 ⊢
  rw [hb]; exact h1
set_option maxHeartbeats 8000000 in
theorem write_c (h : RC w P S C) (hf : K.FsOk S.fs) (hq : S.q.length + dirtyN C.L < 1048576) (s : Int) {bs : K.Bl} (hlt : ∀ x ∈ bs, x < 256) {ao : Option Addr} {m cap : Nat} (hm : m = bs.length) (hml : m ≤ 140737488351232) (hsrc : m = 512 → Src w (P.fp C.L) ao bs) :
    Calls Tryz.prog 21 #[.pointer (some ⟨P.bc, 0, none⟩), .int .i64 s, .slice ao m cap] w fun r w' => ∃ b, r = .returned (.int .i64 (writeR S C s bs b).1) ∧ ∃ P', CAct w w' P P' C (writeR S C s bs b).2.1 (writeR S C s bs b).2.2 := by
  have hrf := refusal_c h s
  unfold writeR
  by_cases hi : K.inD S.n s = true
  · simp only [hi, if_true] at hrf ⊢
    obtain ⟨t, rfl, ht⟩ := inD_nat hi
    by_cases h512 : bs.length = 512
    · simp only [h512, if_true]
      obtain rfl : m = 512 := by omega
      have hbs : K.OkB bs := ⟨h512, hlt⟩
      have HSR := hsrc rfl
      have HSrc : Hid (Src w (P.fp C.L) ao bs) := HSR
      obtain ⟨sb, so, rfl, _⟩ := HSR
      have hn1 := h.rk.n1
      have hwf : I.wfK (t : Int) := K.wfI t (by omega)
      have HU : Hid (∀ w1, CAct w w1 P P C S C → Calls Tryz.prog 42 #[.pointer (some ⟨P.bc, 0, none⟩), .int .i64 t] w1 fun r w2 => r = .returned (linePtr (lineAt C.L t)) ∧ ∃ P', CAct w w2 P P' C S (useC C t)) := fun w1 ha => by
        refine (use_c ha.rc hwf).mono ?_
        rintro r w2 ⟨rfl, P', ha'⟩
        exact ⟨rfl, P', ha.trans ha'⟩
      cases hl : lineAt C.L t with
      | some l =>
        simp only [hl, linePtr] at HU ⊢
        have HC : Hid (∀ w1 P1, CAct w w1 P P1 C S (useC C t) → ∃ w5, (∀ ty, (Builtin.copy_ #[52, 52] ty #[.slice (some ⟨l.blk, 0, none⟩) 512 512, .slice (some ⟨sb, so, none⟩) 512 cap]).run Tryz.prog w1 = .ok (goInt 512) w5) ∧ w5.frozen? ⟨l.blk, 512, none⟩ = false ∧ (∃ x, w5.cell? ⟨l.blk, 512, none⟩ = some x) ∧ ∃ P', CAct w (w5.setCell ⟨l.blk, 512, none⟩ (.bool true)) P P' C S { hitC C with L := dropL C.L t ++ [{ l with dat := bs, dirty := true }] }) := fun w1 P1 ha => by
          obtain ⟨a, ea, hs⟩ := HSrc.out.through ha
          cases ea
          have hu : useC C t = { hitC C with L := dropL C.L t ++ [l] } := by unfold useC; rw [hl]
          rw [hu] at ha
          obtain ⟨w5, h1, h2, h3, h4⟩ := ha.rc.lay (L1 := dropL C.L t) (L2 := []) rfl hbs (cap := cap) rfl hs
          exact ⟨w5, h1, h2, h3, P1, ha.trans h4⟩
        have e1 := eql_lp_some
        clear h hl hf hq hsrc hm h512 hbs hml
        go_enter Tryz.func21, Tryz.ntmps21
        go_wp2_with (first | (go_at_call 41; refine hrf.mono ?_; clear hrf; rintro r w1 ⟨rfl, ha1⟩) | (go_at_call 42; refine (HU.out w1 ha1).mono ?_; clear HU; rintro r w2 ⟨rfl, P2, ha2⟩; obtain ⟨w5, hcp, f5, ⟨x5, k5⟩, ha5⟩ := HC.out w2 P2 ha2; clear HC))
        go_ret
        first | exact ⟨0, rfl, ha5⟩ | exact ⟨rfl, ha5⟩
      | none =>
        simp only [hl, linePtr] at HU ⊢
        have huse : useC C t = missC C := by unfold useC; rw [hl]
        rw [huse] at HU
        have hsd : (secs (missC C).L).Nodup := h.sd
        have hlim := h.lim
        obtain ⟨hh, hroom, htwo⟩ := room_ok (S := S) (C := missC C) hsd hlim.1 hlim.2.1
        have HM : Hid (∀ w1 P1, CAct w w1 P P1 C S (missC C) → Calls Tryz.prog 44 #[.pointer (some ⟨P.bc, 0, none⟩)] w1 fun r w2 => r = .returned (.int .i64 (roomR S (missC C)).1) ∧ ∃ P', CAct w w2 P P' C (roomR S (missC C)).2.1 (roomR S (missC C)).2.2) := fun w1 P1 ha => by
          have hr := room_c ha.rc hf hq
          rw [ha.bc] at hr
          refine hr.mono ?_
          rintro r w2 ⟨rfl, P', ha'⟩
          exact ⟨rfl, P', ha.trans ha'⟩
        have hnn : lineAt (missC C).L t = none := hl
        have hno := hh.sub t hnn
        have hnS := hh.n
        have hnt : (roomR S (missC C)).2.2.notes = C.notes := hh.notes
        have hmost : (roomR S (missC C)).2.2.most = C.most := hh.most
        generalize hR : roomR S (missC C) = R at *
        obtain ⟨e, S1, C1⟩ := R
        simp only at *
        have e1 := eql_lp_none
        rcases htwo with he | he
        · subst he
          simp only [if_true]
          have HAD : Hid (∀ w3 P3, CAct w w3 P P3 C S1 C1 → Calls Tryz.prog 46 #[.pointer (some ⟨P.bc, 0, none⟩), .int .i64 t] w3 fun r w4 => ∃ b, r = .returned (.pointer (some ⟨b, 0, none⟩)) ∧ ∃ w5, (∀ ty, (Builtin.copy_ #[52, 52] ty #[.slice (some ⟨b, 0, none⟩) 512 512, .slice (some ⟨sb, so, none⟩) 512 cap]).run Tryz.prog w4 = .ok (goInt 512) w5) ∧ w5.frozen? ⟨b, 512, none⟩ = false ∧ (∃ x, w5.cell? ⟨b, 512, none⟩ = some x) ∧ ∃ P', CAct w (w5.setCell ⟨b, 512, none⟩ (.bool true)) P P' C S1 { C1 with L := C1.L ++ [⟨t, b, bs, true, isN C.notes t⟩] }) := fun w3 P3 ha => by
            have had := addLine_c ha.rc (s := t) (by rw [hnS]; exact ht) hno (by rw [hmost]; exact hroom rfl)
            rw [ha.bc] at had
            refine had.mono ?_
            rintro r w4 ⟨b, P4, rfl, ha4⟩
            have hat := ha.trans ha4
            obtain ⟨a, ea, hs⟩ := HSrc.out.through hat
            cases ea
            obtain ⟨w5, h1, h2, h3, h4⟩ := ha4.rc.lay (L1 := C1.L) (L2 := []) (l := newLn t b (isN C1.notes t)) rfl hbs (cap := cap) rfl hs
            refine ⟨b, rfl, w5, h1, h2, h3, P4, ?_⟩
            have := hat.trans h4
            rw [← hnt]
            exact this
          clear h hl hf hq hh hroom hno hnS hnt hmost hR hnn hi hsd hsrc hm h512 hbs hml
          go_enter Tryz.func21, Tryz.ntmps21
          go_wp2_with (first | (go_at_call 41; refine hrf.mono ?_; clear hrf; rintro r w1 ⟨rfl, ha1⟩) | (go_at_call 42; refine (HU.out w1 ha1).mono ?_; clear HU; rintro r w2 ⟨rfl, P2, ha2⟩) | (go_at_call 44; refine (HM.out w2 P2 ha2).mono ?_; clear HM; rintro r w3 ⟨rfl, P3, ha3⟩; have had := HAD.out w3 P3 ha3; clear HAD) | (go_at_call 46; refine had.mono ?_; clear had; rintro r w4 ⟨b, rfl, w5, hcp, f5, ⟨x5, k5⟩, ha5⟩))
          go_ret
          exact ⟨b, rfl, ha5⟩
        · subst he
          simp only [show ((33 : Int) = 0) = False by simp, if_false]
          clear h hl hf hq hh hroom hno hnS hnt hmost hR hnn hi hsd hsrc hm h512 hbs hml
          go_enter Tryz.func21, Tryz.ntmps21
          go_wp2_with (first | (go_at_call 41; refine hrf.mono ?_; clear hrf; rintro r w1 ⟨rfl, ha1⟩) | (go_at_call 42; refine (HU.out w1 ha1).mono ?_; clear HU; rintro r w2 ⟨rfl, P2, ha2⟩) | (go_at_call 44; refine (HM.out w2 P2 ha2).mono ?_; clear HM; rintro r w3 ⟨rfl, ha3⟩))
          go_ret
          first | exact ⟨0, rfl, ha3⟩ | exact ⟨rfl, ha3⟩
    · simp only [h512, if_false]
      have hne : ¬ (m : Int) = 512 := by omega
      have hne' : ¬ m = 512 := by omega
      clear h hf hq hsrc
      go_enter Tryz.func21, Tryz.ntmps21
      go_wp2_with (go_at_call 41; refine hrf.mono ?_; clear hrf; rintro r w1 ⟨rfl, ha1⟩)
      go_ret
      first | exact ⟨0, rfl, P, ha1⟩ | exact ⟨rfl, P, ha1⟩
  · simp only [hi, if_false] at hrf ⊢
    clear h hf hq hsrc
    go_enter Tryz.func21, Tryz.ntmps21
    go_wp2_with (go_at_call 41; refine hrf.mono ?_; clear hrf; rintro r w1 ⟨rfl, ha1⟩)
    go_ret
    first | exact ⟨0, rfl, P, ha1⟩ | exact ⟨rfl, P, ha1⟩
end
end Go.Proofs.YtlacligofhinmaaGreat.C

namespace Go.Proofs.YtlacligofhinmaaGreat.C
open Go.RowKit Go.Maps Go.Shelf Go.Proofs.YtlacligofhinmaaGreat
attribute [local go_sem] Oper.semAt_some
set_option linter.unusedVariables false
set_option linter.unusedSimpArgs false
set_option maxRecDepth 100000

/-- is a sector's line dirty? -/
def dirtyAt (L : List Ln) (s : Int) : Bool := match lineAt L s with
  | some l => l.dirty
  | none => false
def safeAt (S : K.Dk) (C : Ch) (s : Int) : Bool := K.inD S.n s && !dirtyAt C.L s && !K.waitsI S.q s
section
variable {w w' : World} {P : Loc} {S S' : K.Dk} {C C' : Ch}
theorem dirty_c (h : RC w P S C) {s : Int} (hs : I.wfK s) : Calls Tryz.prog 83 #[.pointer (some ⟨P.bc, 0, none⟩), .int .i64 s] w fun r w' => r = .returned (.bool (dirtyAt C.L s)) ∧ w' = w := by
  have hu := usable_c h
  have c3 : w.cell? ⟨P.bc, 3, none⟩ = some (.map (some P.bl)) := h.c 3
  have hlk := h.look hs
  unfold dirtyAt
  cases hl : lineAt C.L s with
  | none =>
    rw [hl] at hlk
    simp only [linePtr] at hlk ⊢
    have e1 := neq_lp_none
    clear h
    go_enter Tryz.func83, Tryz.ntmps83
    go_wp2_with (go_at_call 63; refine hu.mono ?_; rintro e w9 ⟨rfl, hw9⟩; rw [hw9]; clear hw9)
    go_ret
    exact ⟨rfl, rfl⟩
  | some l =>
    rw [hl] at hlk
    have hd : w.cell? ⟨l.blk, 512, none⟩ = some (.bool l.dirty) := (h.lcell (lineAt_mem hl).1 512).trans (lcells_dirty (h.ok l (lineAt_mem hl).1).2)
    simp only [linePtr] at hlk ⊢
    have e1 := neq_lp_some
    clear h hl
    go_enter Tryz.func83, Tryz.ntmps83
    go_wp2_with (go_at_call 63; refine hu.mono ?_; rintro e w9 ⟨rfl, hw9⟩; rw [hw9]; clear hw9)
    go_ret
    exact ⟨rfl, rfl⟩
theorem safe_c (h : RC w P S C) {s : Int} (hs : I.wfK s) : Calls Tryz.prog 85 #[.pointer (some ⟨P.bc, 0, none⟩), .int .i64 s] w fun r w' => r = .returned (.bool (safeAt S C s)) ∧ CAct w w' P P C S C := by
  have hu := usable_c h
  have hh := has_c h s
  have HD : Hid (∀ w1, CAct w w1 P P C S C → Calls Tryz.prog 83 #[.pointer (some ⟨P.bc, 0, none⟩), .int .i64 s] w1 fun r w' => r = .returned (.bool (dirtyAt C.L s)) ∧ w' = w1) := fun w1 ha => dirty_c ha.rc hs
  have HW : Hid (∀ w1, CAct w w1 P P C S C → w1.cell? ⟨P.bc, 0, none⟩ = some (.pointer (some ⟨P.bd, 0, none⟩)) ∧ Calls Tryz.prog 117 #[.pointer (some ⟨P.bd, 0, none⟩), .int .i64 s] w1 fun r w' => r = .returned (.bool (K.waitsI S.q s)) ∧ CAct w w' P P C S C) := fun w1 ha => ⟨ha.rc.c 0, (K.waits_gen ha.rc.rk hs).mono (by
    rintro r w' ⟨rfl, hda⟩
    exact ⟨rfl, ha.trans (ha.rc.dsame hda)⟩)⟩
  have H0 : Hid (CAct w w P P C S C) := CAct.refl h
  unfold safeAt
  clear h
  generalize K.inD S.n s = b at *
  generalize dirtyAt C.L s = d at *
  generalize K.waitsI S.q s = q at *
  go_enter Tryz.func85, Tryz.ntmps85
  cases b
  · go_wp2_with (first | (go_at_call 63; refine hu.mono ?_; rintro e w9 ⟨rfl, hw9⟩; rw [hw9]; clear hw9) | (go_at_call 70; refine hh.mono ?_; rintro e w8 ⟨rfl, ha⟩))
    go_ret
    exact ⟨rfl, ha⟩
  · cases d
    · go_wp2_with (first | (go_at_call 63; refine hu.mono ?_; rintro e w9 ⟨rfl, hw9⟩; rw [hw9]; clear hw9) | (go_at_call 70; refine hh.mono ?_; clear hh; rintro e w8 ⟨rfl, ha⟩) | (go_at_call 83; refine (HD.out w8 ha).mono ?_; rintro e w7 ⟨rfl, hw7⟩; rw [hw7]; clear hw7; obtain ⟨c0, hw⟩ := HW.out w8 ha) | (go_at_call 117; refine hw.mono ?_; clear hw; rintro e w6 ⟨rfl, ha6⟩))
      go_ret
      exact ⟨by simp, ha6⟩
    · go_wp2_with (first | (go_at_call 63; refine hu.mono ?_; rintro e w9 ⟨rfl, hw9⟩; rw [hw9]; clear hw9) | (go_at_call 70; refine hh.mono ?_; clear hh; rintro e w8 ⟨rfl, ha⟩) | (go_at_call 83; refine (HD.out w8 ha).mono ?_; rintro e w7 ⟨rfl, hw7⟩; rw [hw7]; clear hw7))
      go_ret
      exact ⟨rfl, ha⟩
/-- Back -/
def backR (S : K.Dk) (C : Ch) : Int × Int × K.Dk × Ch := match C.L.find? dirtyData with
  | none => (-1, 0, S, C)
  | some l => if wbE S C l.sec = 0 then (l.sec, 0, wbS S C l.sec, wbC S C l.sec) else (-1, 33, wbS S C l.sec, wbC S C l.sec)
set_option maxHeartbeats 2000000 in
theorem back_c (h : RC w P S C) (hf : K.FsOk S.fs) (hq : S.q.length < 1048576) :
    Calls Tryz.prog 31 #[.pointer (some ⟨P.bc, 0, none⟩)] w fun r w' => r = .returned (.tuple #[.int .i64 (backR S C).1, .int .i64 (backR S C).2.1]) ∧ ∃ P', CAct w w' P P' C (backR S C).2.2.1 (backR S C).2.2.2 := by
  have hu := usable_c h
  have hlb := least_back h
  have hmf : ∀ (fn : Fn) (first cap : Array Value) (w : World), (Instr.makeFunc fn first cap).run Tryz.prog w = .ok (.func fn first cap) w := fun _ _ _ _ => rfl
  have HA : Hid (∀ w1, Below w.heap.size w w1 → CAct w w1 P P C S C) := fun w1 hb => (CAct.refl h).later hb
  unfold backR
  cases hfd : C.L.find? dirtyData with
  | none =>
    rw [hfd] at hlb
    simp only [secOf, Option.isSome_none] at hlb ⊢
    have HLB : Hid (Calls Tryz.prog 75 #[.pointer (some ⟨P.bc, 0, none⟩), .func (.func 76) #[] #[]] w fun r w' => r = .returned (.tuple #[.int .i64 0, .bool false]) ∧ Below w.heap.size w w') := hlb
    clear h hf hq hlb hfd
    go_enter Tryz.func31, Tryz.ntmps31
    go_wp2_with (first | (go_at_call 63; refine hu.mono ?_; rintro e w9 ⟨rfl, hw9⟩; rw [hw9]; clear hw9) | (go_at_call 75; refine HLB.out.mono ?_; rintro e w1 ⟨rfl, hb1⟩))
    refine bodyPost_ret (results_tmp2 rfl _ _ _) rfl ?_
    exact ⟨rfl, P, HA.out _ hb1⟩
  | some l =>
    rw [hfd] at hlb
    simp only [secOf, Option.isSome_some] at hlb ⊢
    have hl := (find_mem hfd).1
    have HLB : Hid (Calls Tryz.prog 75 #[.pointer (some ⟨P.bc, 0, none⟩), .func (.func 76) #[] #[]] w fun r w' => r = .returned (.tuple #[.int .i64 l.sec, .bool true]) ∧ Below w.heap.size w w') := hlb
    have HWB : Hid (∀ w1, Below w.heap.size w w1 → Calls Tryz.prog 77 #[.pointer (some ⟨P.bc, 0, none⟩), .int .i64 l.sec] w1 fun r w' => r = .returned (.int .i64 (wbE S C l.sec)) ∧ ∃ P', CAct w w' P P' C (wbS S C l.sec) (wbC S C l.sec)) := fun w1 hb => by
      refine (wb_c (h.later hb) hf hq ⟨l, hl, rfl⟩).mono ?_
      rintro r w' ⟨rfl, P', ha⟩
      exact ⟨rfl, P', ha.from_later hb h.lt⟩
    clear h hf hq hlb hfd hl HA
    rcases wbE_two S C l.sec with he | he
    · rw [if_pos he]
      rw [he] at HWB
      go_enter Tryz.func31, Tryz.ntmps31
      go_wp2_with (first | (go_at_call 63; refine hu.mono ?_; rintro e w9 ⟨rfl, hw9⟩; rw [hw9]; clear hw9) | (go_at_call 75; refine HLB.out.mono ?_; rintro e w1 ⟨rfl, hb1⟩) | (go_at_call 77; refine (HWB.out w1 hb1).mono ?_; rintro e w2 ⟨rfl, ha2⟩))
      refine bodyPost_ret (results_tmp2 rfl _ _ _) rfl ?_
      exact ⟨rfl, ha2⟩
    · rw [if_neg (by omega)]
      rw [he] at HWB
      go_enter Tryz.func31, Tryz.ntmps31
      go_wp2_with (first | (go_at_call 63; refine hu.mono ?_; rintro e w9 ⟨rfl, hw9⟩; rw [hw9]; clear hw9) | (go_at_call 75; refine HLB.out.mono ?_; rintro e w1 ⟨rfl, hb1⟩) | (go_at_call 77; refine (HWB.out w1 hb1).mono ?_; rintro e w2 ⟨rfl, ha2⟩))
      refine bodyPost_ret (results_tmp2 rfl _ _ _) rfl ?_
      exact ⟨rfl, ha2⟩
end
end Go.Proofs.YtlacligofhinmaaGreat.C

namespace Go.Proofs.YtlacligofhinmaaGreat.C
open Go.RowKit Go.Maps Go.Shelf Go.Sort Go.Proofs.YtlacligofhinmaaGreat
attribute [local go_sem] Oper.semAt_some
set_option linter.unusedVariables false
set_option linter.unusedSimpArgs false
set_option maxRecDepth 100000

theorem compact_upto {zs : List Int} (hs : zs.Pairwise (· ≤ ·)) : ∀ m, m ≤ zs.length → (Lib.compactUpTo zs.toArray m).Pairwise (· < ·) ∧ (∀ x ∈ Lib.compactUpTo zs.toArray m, x ∈ zs ∧ ∀ y, zs[m - 1]? = some y → 0 < m → x ≤ y) ∧ (Lib.compactUpTo zs.toArray m).length ≤ m
  | 0, _ => by simp [Lib.compactUpTo]
  | m + 1, hm => by
    obtain ⟨h1, h2, h3⟩ := compact_upto hs m (by omega)
    have hle : ∀ i j (hi : i < zs.length) (hj : j < zs.length), i < j → zs[i] ≤ zs[j] := List.pairwise_iff_getElem.1 hs
    have em : zs.toArray[m]! = zs[m] := by simp [show m < zs.length by omega]
    rw [Lib.compactUpTo_succ]
    by_cases hk : Lib.keeps zs.toArray m = true
    · rw [if_pos hk, em]
      refine ⟨?_, fun x hx => ?_, by simp; omega⟩
      · rw [List.pairwise_append]
        refine ⟨h1, by simp, fun a ha b hb => ?_⟩
        simp at hb
        subst hb
        have hm0 : 0 < m := by
          rcases Nat.eq_zero_or_pos m with e | e
          · subst e; simp [Lib.compactUpTo] at ha
          · exact e
        have hl := (h2 a ha).2 zs[m - 1] (List.getElem?_eq_getElem (by omega)) hm0
        have hl2 := hle (m - 1) m (by omega) (by omega) (by omega)
        have hne : zs[m] ≠ zs[m - 1] := fun e => by
          have := Lib.keeps_neg (d := zs.toArray) hm0 (by simp [show m < zs.length by omega, show m - 1 < zs.length by omega, e])
          rw [this] at hk
          cases hk
        omega
      · simp only [Nat.add_sub_cancel]
        rcases List.mem_append.1 hx with hx | hx
        · refine ⟨(h2 x hx).1, fun y hy _ => ?_⟩
          rw [List.getElem?_eq_getElem (by omega)] at hy
          cases hy
          rcases Nat.eq_zero_or_pos m with e | e
          · subst e; simp [Lib.compactUpTo] at hx
          · have hl := (h2 x hx).2 zs[m - 1] (List.getElem?_eq_getElem (by omega)) e
            have hl2 := hle (m - 1) m (by omega) (by omega) (by omega)
            omega
        · simp at hx
          subst hx
          refine ⟨List.getElem_mem _, fun y hy _ => ?_⟩
          rw [List.getElem?_eq_getElem (by omega)] at hy
          cases hy
          exact Int.le_refl _
    · rw [if_neg hk, List.append_nil]
      refine ⟨h1, fun x hx => ⟨(h2 x hx).1, fun y hy _ => ?_⟩, by omega⟩
      simp only [Nat.add_sub_cancel] at hy
      rw [List.getElem?_eq_getElem (by omega)] at hy
      cases hy
      rcases Nat.eq_zero_or_pos m with e | e
      · subst e; simp [Lib.compactUpTo] at hx
      · have hl := (h2 x hx).2 zs[m - 1] (List.getElem?_eq_getElem (by omega)) e
        have hl2 := hle (m - 1) m (by omega) (by omega) (by omega)
        omega
theorem compact_ok {zs : List Int} (hs : zs.Pairwise (· ≤ ·)) : (Lib.compact zs).Nodup ∧ (∀ x ∈ Lib.compact zs, x ∈ zs) ∧ (Lib.compact zs).length ≤ zs.length := by
  obtain ⟨h1, h2, h3⟩ := compact_upto hs zs.length (Nat.le_refl _)
  exact ⟨h1.imp (fun h => by omega), fun x hx => (h2 x hx).1, h3⟩
/-- doublets go -/
theorem compact_c {w : World} {B : Nat} {v : Value} {zs : List Int} (h : w.ownsRow B TIn 1 v zs.length (IV zs)) (hle : (Lib.compact zs).length ≤ zs.length) (hl : zs.length < 4611686018427387904) :
    Calls Tryz.prog 72 #[v] w fun e w' => ∃ v', e = .returned v' ∧ v'.ownBlock = v.ownBlock ∧ w'.ownsRow B TIn 1 v' (Lib.compact zs).length (IV (Lib.compact zs)) ∧ w'.os = w.os ∧ w'.tape = w.tape ∧ w'.output = w.output ∧ w.heap.size ≤ w'.heap.size ∧ ∀ i, i < w.heap.size → v.ownBlock ≠ some i → w'.heap[i]? = w.heap[i]? := by
  rcases h.2 with ⟨rfl, h0⟩ | ⟨g, cap, cur, rfl, hb, hg, hnc, hcm, hcs, htake⟩
  · have hz : zs = [] := List.length_eq_zero_iff.1 h0
    subst hz
    refine (Tryz.slices_Compact_int_empty none 0 w).mono ?_
    rintro e w' ⟨rfl, rfl⟩
    exact ⟨_, rfl, rfl, h, rfl, rfl, rfl, Nat.le_refl _, fun _ _ _ => rfl⟩
  · have hH : Holds (Value.int .i64) w g 0 zs.toArray := by
      intro j hj
      have hj' : j < zs.length := by simpa using hj
      have hx : zs[j]? = some (zs.toArray[j]!) := by simp [hj']
      have c1 := h.cells (g := g) rfl j _ (IV_get hx)
      rw [WideShapes.add_plain] at c1
      exact ⟨c1, h.frozenAt _⟩
    refine (Tryz.slices_Compact_int g 0 cap zs w hH (by omega) hnc).mono ?_
    rintro e w' ⟨rfl, n, rfl⟩
    have hblk : ∀ (d : Array Int) i, i ≠ g → (putRow (Value.int .i64) (Sort.ahead w n) g 0 d).heap[i]? = w.heap[i]? := fun d i hne => by
      unfold putRow mapBlock
      simp only
      rw [Array.getElem?_modify, if_neg (Ne.symm hne)]
      rfl
    have hself : ∀ (d : Array Int), (putRow (Value.int .i64) (Sort.ahead w n) g 0 d).heap[g]? = some (.cells (putCells (Value.int .i64) 0 d cur) TIn (0, 0)) := fun d => by
      unfold putRow mapBlock
      simp only
      rw [Array.getElem?_modify, if_pos rfl, ahead_block, hg]
      rfl
    refine ⟨_, rfl, rfl, ⟨by simp [IV], .inr ⟨g, cap, _, rfl, hb, hself _, by omega, hcm, by simp [putCells, hcs], ?_⟩⟩, rfl, rfl, rfl, ?_, fun i hi hne => hblk _ i (fun e => hne (by rw [e]; rfl))⟩
    · refine List.ext_getElem? fun i => ?_
      rw [List.getElem?_take]
      by_cases hi : i < (Lib.compact zs).length * 1
      · rw [if_pos hi]
        have hi' : i < (Lib.compact zs).length := by omega
        have hic : i < cur.size := by rw [hcs]; omega
        rw [Array.getElem?_toList, putCells, Array.getElem?_mapIdx, Array.getElem?_eq_getElem hic]
        simp only [Option.map_some]
        rw [if_pos ⟨by omega, by simp; omega⟩, IV_get (x := (Lib.compact zs)[i]) (List.getElem?_eq_getElem hi')]
        simp [hi', List.getElem?_append_left hi']
      · rw [if_neg hi, List.getElem?_eq_none (by simp [IV]; omega)]
    · unfold putRow mapBlock
      simp
def noteAt (L : List Ln) (s : Int) : Bool := match lineAt L s with
  | some l => l.note
  | none => false
/-- Through -/
def throughR (S : K.Dk) (C : Ch) (ks : List Int) : Int × K.Dk × Ch :=
  if ks.all (fun k => K.inD S.n k) = true then
    (if (ks.filter (dirtyAt C.L)).any (noteAt C.L) = true then flushR S C else settleR (Lib.compact (sortI (ks.filter (dirtyAt C.L)))) S C)
  else (31, S, C)
theorem dirt_thr {C : Ch} (ks : List Int) : Dirt (Lib.compact (sortI (ks.filter (dirtyAt C.L)))) C := by
  obtain ⟨h1, h2, _⟩ := compact_ok (sortI_sorted (ks.filter (dirtyAt C.L)))
  refine ⟨h1, fun s hs => ?_⟩
  have h3 := (List.mem_filter.1 ((sortI_perm _).mem_iff.1 (h2 s hs))).2
  unfold dirtyAt at h3
  cases hl : lineAt C.L s with
  | none => rw [hl] at h3; cases h3
  | some l => rw [hl] at h3; exact ⟨l, (lineAt_mem hl).1, (lineAt_mem hl).2, h3⟩
/-- numbers that were handed in -/
def IRw (w : World) (F : List Nat) (ao : Option Addr) (ks : List Int) : Prop := ∀ (k : Nat) (x : Int), ks[k]? = some x → ∃ g off, ao = some ⟨g, off, none⟩ ∧ g < w.heap.size ∧ g ∉ F ∧ w.cell? ⟨g, off + k, none⟩ = some (.int .i64 x)
section
variable {w w' : World} {P : Loc} {S S' : K.Dk} {C C' : Ch}
theorem CAct.grown {P' : Loc} {W' : World} {row : Option Nat} (ha : CAct w w' P P' C S' C') (hg : w'.grownBy W' row) (hr : ∀ k, row = some k → w.heap.size ≤ k) (hn : ∀ i ∈ P'.fp C'.L, row ≠ some i) : CAct w W' P P' C S' C' :=
  ⟨ha.rc.same fun i hi => hg.block i (ha.rc.lt i hi) (fun e => hn i hi e.symm), ha.kp.grown hg (fun k e => .inr (hr k e)), ha.sub, ha.bc, ha.bd⟩
theorem CAct.rowI {P' : Loc} {H n : Nat} {v : Value} {xs : List Value} (ha : CAct w w' P P' C S' C') (hH : ∀ i ∈ P.fp C.L, i < H) (ho : w.ownsRow H TIn 1 v n xs) : w'.ownsRow H TIn 1 v n xs :=
  K.ownsRow_block ho fun g hg => ha.kp.block g (K.row_lt ho g hg).1 (fun hm => by have := hH g hm; have := row_base ho hg; omega)
set_option maxHeartbeats 8000000 in
theorem through_c (h : RC w P S C) (hf : K.FsOk S.fs) (hq : S.q.length + dirtyN C.L < 1048576) {ao : Option Addr} {m cap : Nat} {ks : List Int} (hm : m = ks.length) (hml : m ≤ 1048576) (hr : IRw w (P.fp C.L) ao ks) :
    Calls Tryz.prog 29 #[.pointer (some ⟨P.bc, 0, none⟩), .slice ao m cap] w fun r w' => r = .returned (.int .i64 (throughR S C ks).1) ∧ ∃ P', CAct w w' P P' C (throughR S C ks).2.1 (throughR S C ks).2.2 := by
  have hu := usable_c h
  obtain ⟨i0, hi, hz0, hz1, hz2⟩ := info_parts I.A.infoKey
  have hn1 := h.rk.n1
  have HM : Hid (m = ks.length) := hm
  have HLT : Hid (∀ i ∈ P.fp C.L, i < w.heap.size) := h.lt
  have H0 : Hid (CAct w w P P C S C) := CAct.refl h
  have HR : Hid (∀ W, CAct w W P P C S C → ∀ (k : Nat) (x : Int), ks[k]? = some x → ∃ g off, ao = some ⟨g, off, none⟩ ∧ W.cell? ⟨g, off + k, none⟩ = some (.int .i64 x)) := fun W ha k x hk => by
    obtain ⟨g, off, e, h1, h2, h3⟩ := hr k x hk
    refine ⟨g, off, e, ?_⟩
    have hb := ha.kp.block g h1 h2
    unfold World.cell? at h3 ⊢
    rw [hb]; exact h3
  have HH : Hid (∀ W, CAct w W P P C S C → ∀ x, Calls Tryz.prog 70 #[.pointer (some ⟨P.bc, 0, none⟩), .int .i64 x] W fun r w' => r = .returned (.bool (K.inD S.n x)) ∧ CAct W w' P P C S C) := fun W ha x => has_c ha.rc x
  have HC : Hid (∀ W, CAct w W P P C S C → W.cell? ⟨P.bc, 3, none⟩ = some (.map (some P.bl))) := fun W ha => ha.rc.c 3
  have HLk : Hid (∀ W, CAct w W P P C S C → ∀ x, K.inD S.n x = true → (Instr.lookup TLm (.map (some P.bl)) (.int .i64 x) false).run Tryz.prog W = .ok (linePtr (lineAt C.L x)) W) := fun W ha x hx => by
    obtain ⟨t, rfl, ht⟩ := inD_nat hx
    exact ha.rc.look (K.wfI t (by omega))
  have HLn : Hid (∀ W, CAct w W P P C S C → ∀ l ∈ C.L, W.cell? ⟨l.blk, 512, none⟩ = some (.bool l.dirty) ∧ W.cell? ⟨l.blk, 513, none⟩ = some (.bool l.note)) := fun W ha l hl => ⟨(ha.rc.lcell hl 512).trans (lcells_dirty (ha.rc.ok l hl).2), (ha.rc.lcell hl 513).trans (lcells_note (ha.rc.ok l hl).2)⟩
  have HFl : Hid (∀ W, CAct w W P P C S C → Calls Tryz.prog 24 #[.pointer (some ⟨P.bc, 0, none⟩)] W fun r w' => r = .returned (.int .i64 (flushR S C).1) ∧ ∃ P', CAct w w' P P' C (flushR S C).2.1 (flushR S C).2.2) := fun W ha => by
    refine (flush_c ha.rc hf hq).mono ?_
    rintro r w' ⟨rfl, P', ha'⟩
    exact ⟨rfl, P', ha.trans ha'⟩
  have HSo : Hid (∀ W v, CAct w W P P C S C → W.ownsRow w.heap.size TIn 1 v (ks.filter (dirtyAt C.L)).length (IV (ks.filter (dirtyAt C.L))) → Calls Tryz.prog 71 #[v] W fun r W1 => r = .returned (.tuple #[]) ∧ Calls Tryz.prog 72 #[v] W1 fun r W2 => ∃ v', r = .returned v' ∧ Calls Tryz.prog 66 #[.pointer (some ⟨P.bc, 0, none⟩), v'] W2 fun r w' => r = .returned (.int .i64 (settleR (Lib.compact (sortI (ks.filter (dirtyAt C.L)))) S C).1) ∧ ∃ P', CAct w w' P P' C (settleR (Lib.compact (sortI (ks.filter (dirtyAt C.L)))) S C).2.1 (settleR (Lib.compact (sortI (ks.filter (dirtyAt C.L)))) S C).2.2) := fun W v ha ho => by
    have hfl : (ks.filter (dirtyAt C.L)).length ≤ 1048576 := by have := List.length_filter_le (dirtyAt C.L) ks; omega
    have key : ∀ {W W' : World}, CAct w W P P C S C → (∀ g, v.ownBlock = some g → w.heap.size ≤ g) → W'.os = W.os → W'.tape = W.tape → W'.output = W.output → W.heap.size ≤ W'.heap.size → (∀ i, i < W.heap.size → v.ownBlock ≠ some i → W'.heap[i]? = W.heap[i]?) → CAct w W' P P C S C := fun {W W'} ha hv e1 e2 e3 e4 e5 => ha.grown (row := v.ownBlock) ⟨e1, e2, e3, e4, fun k hk hne => e5 k hk (fun e => hne e.symm)⟩ hv (fun i hi e => by have := hv i e; have := h.lt i hi; omega)
    have hv : ∀ g, v.ownBlock = some g → w.heap.size ≤ g := fun g hg => row_base ho hg
    refine (sort_c ho (by omega)).mono ?_
    rintro r W1 ⟨rfl, ho1, a1, a2, a3, a4, a5⟩
    have ha1 := key ha hv a1 a2 a3 a4 a5
    obtain ⟨hcn, hcm, hcl⟩ := compact_ok (sortI_sorted (ks.filter (dirtyAt C.L)))
    have hsl : (sortI (ks.filter (dirtyAt C.L))).length = (ks.filter (dirtyAt C.L)).length := (sortI_perm _).length_eq
    rw [← hsl] at ho1
    refine ⟨rfl, (compact_c ho1 hcl (by omega)).mono ?_⟩
    rintro r W2 ⟨v', rfl, hvb, ho2, b1, b2, b3, b4, b5⟩
    have ha2 := key ha1 hv b1 b2 b3 b4 b5
    refine ⟨v', rfl, ?_⟩
    have hdt := dirt_thr (C := C) ks
    have hkl : (Lib.compact (sortI (ks.filter (dirtyAt C.L)))).length ≤ 65536 := by
      have h1 := nodup_sub_len hdt.nd (b := secs C.L) (fun x hx => by
        obtain ⟨l, hl, e, _⟩ := hdt.has x hx
        exact List.mem_map.2 ⟨l, hl, e⟩)
      have := h.lim
      simp only [secs, List.length_map] at h1
      omega
    refine (settle_c ha2.rc hf hq ho2 (fun g hg hm => by have := row_base ho2 hg; have := h.lt g hm; omega) hdt hkl).mono ?_
    rintro r w' ⟨rfl, P', ha'⟩
    exact ⟨rfl, P', ha2.trans ha'⟩
  clear h hf hq hr hm
  go_enter Tryz.func29, Tryz.ntmps29
  go_wp2_with (go_at_call 63; refine hu.mono ?_; rintro e w9 ⟨rfl, hw9⟩; rw [hw9]; clear hw9 hu)
  go_loopw [5, 6, 15] (fun dv nv i wr => ∃ (k : Nat), k ≤ m ∧ i = .int .i64 k ∧ nv = .bool (((ks.take k).filter (dirtyAt C.L)).any (noteAt C.L)) ∧ Hid (wr.ownsRow w.heap.size TIn 1 dv ((ks.take k).filter (dirtyAt C.L)).length (IV ((ks.take k).filter (dirtyAt C.L)))) ∧ Hid (CAct w wr P P C S C) ∧ Hid ((ks.take k).all (fun k => K.inD S.n k) = true)) (fun _ _ i _ => m - (intOf i).toNat)
  case atStart => exact ⟨0, Nat.zero_le _, rfl, rfl, World.ownsRow_nil _ _ _ _, H0, rfl⟩
  case round =>
    obtain ⟨k, hk, rfl, rfl, HO, HA, HAL⟩ := hrel
    obtain ⟨da, dc, hdv⟩ := int_form HO.out
    subst hdv
    generalize hfd : (ks.take k).filter (dirtyAt C.L) = d at *
    generalize hany : d.any (noteAt C.L) = an at *
    have HANY : Hid (d.any (noteAt C.L) = an) := hany
    have HFD : Hid ((ks.take k).filter (dirtyAt C.L) = d) := hfd
    clear hany hfd
    by_cases hlt : k < m
    · have hkz : (k : Int) < (m : Int) := by omega
      obtain ⟨x, hx⟩ : ∃ x, ks[k]? = some x := ⟨_, List.getElem?_eq_getElem (by have := HM.out; omega)⟩
      obtain ⟨g, off, rfl, c1⟩ := HR.out wr HA.out k x hx
      have HT : Hid (ks.take (k + 1) = ks.take k ++ [x]) := by show _ = _; rw [List.take_add_one, hx]; rfl
      have hh := HH.out wr HA.out x
      by_cases hin : K.inD S.n x = true
      · rw [hin] at hh
        have HX : Hid (∀ w1, CAct wr w1 P P C S C → CAct w w1 P P C S C ∧ w1.cell? ⟨P.bc, 3, none⟩ = some (.map (some P.bl)) ∧ (Instr.lookup TLm (.map (some P.bl)) (.int .i64 x) false).run Tryz.prog w1 = .ok (linePtr (lineAt C.L x)) w1 ∧ w1.ownsRow w.heap.size TIn 1 (.slice da d.length dc) d.length (IV d)) := fun w1 ha1 => by
          have ha := HA.out.trans ha1
          exact ⟨ha, HC.out w1 ha, HLk.out w1 ha x hin, ha1.rowI HLT.out HO.out⟩
        have HAL2 : Hid ((ks.take (k + 1)).all (fun k => K.inD S.n k) = true) := by show _ = _; rw [HT.out, List.all_append, HAL.out]; simp [hin]
        cases hl : lineAt C.L x with
        | none =>
          have hd : dirtyAt C.L x = false := by unfold dirtyAt; rw [hl]
          have HF : Hid ((ks.take (k + 1)).filter (dirtyAt C.L) = d) := by show _ = _; rw [HT.out, List.filter_append, HFD.out]; simp [hd]
          simp only [hl, linePtr] at HX
          have e1 := neq_lp_none
          clear hx hd hl hin HH HR HC HLk HLn HFl HSo
          go_wp2_with (go_at_call 70; refine hh.mono ?_; clear hh; rintro r w1 ⟨rfl, ha1⟩; obtain ⟨ha, c3, hlk, ho1⟩ := HX.out w1 ha1; have HA1 : Hid (CAct w w1 P P C S C) := ha; have HO1 : Hid (w1.ownsRow w.heap.size TIn 1 (.slice da d.length dc) d.length (IV d)) := ho1; clear ha ho1 ha1)
          go_roundw
          case rel => exact ⟨k + 1, by omega, by go_num, by rw [HF.out, HANY.out], by rw [HF.out]; exact HO1, HA1, HAL2⟩
          case measure => simp [intOf]; omega
        | some l =>
          obtain ⟨hlm, hls⟩ := lineAt_mem hl
          simp only [hl, linePtr] at HX
          have e1 := neq_lp_some
          have HLN : Hid (∀ w1, CAct w w1 P P C S C → w1.cell? ⟨l.blk, 512, none⟩ = some (.bool l.dirty) ∧ w1.cell? ⟨l.blk, 513, none⟩ = some (.bool l.note)) := fun w1 ha => HLn.out w1 ha l hlm
          have hd : dirtyAt C.L x = l.dirty := by unfold dirtyAt; rw [hl]
          have hnt : noteAt C.L x = l.note := by unfold noteAt; rw [hl]
          have HF : Hid ((ks.take (k + 1)).filter (dirtyAt C.L) = d ++ (if l.dirty = true then [x] else [])) := by
            show _ = _
            rw [HT.out, List.filter_append, HFD.out, List.filter_cons, hd]; rfl
          have HNt : Hid (noteAt C.L x = l.note) := hnt
          have HFL : Hid (d.length ≤ 1048576) := by
            have h1 := List.length_filter_le (dirtyAt C.L) (ks.take k)
            rw [HFD.out] at h1
            have h2 : (ks.take k).length ≤ k := List.length_take_le _ _
            show _ ≤ _
            omega
          clear hx hd hl hin HH HR HC HLk HLn HFl HSo hlm hls hnt
          generalize l.dirty = dy at *
          generalize l.note = nt at *
          cases dy
          · go_wp2_with (go_at_call 70; refine hh.mono ?_; clear hh; rintro r w1 ⟨rfl, ha1⟩; obtain ⟨ha, c3, hlk, ho1⟩ := HX.out w1 ha1; obtain ⟨cd, cn⟩ := HLN.out w1 ha; have HA1 : Hid (CAct w w1 P P C S C) := ha; have HO1 : Hid (w1.ownsRow w.heap.size TIn 1 (.slice da d.length dc) d.length (IV d)) := ho1; clear ha ho1 ha1)
            go_roundw
            case rel => exact ⟨k + 1, by omega, by go_num, by rw [HF.out]; simp [HANY.out], by rw [HF.out]; show World.ownsRow _ _ _ _ _ _ _; simpa using HO1.out, HA1, HAL2⟩
            case measure => simp [intOf]; omega
          · cases an <;>
            · go_wp2_with (first | (go_at_call 70; refine hh.mono ?_; clear hh; rintro r w1 ⟨rfl, ha1⟩; obtain ⟨ha, c3, hlk, ho1⟩ := HX.out w1 ha1; obtain ⟨cd, cn⟩ := HLN.out w1 ha; have HA1 : Hid (CAct w w1 P P C S C) := ha; have HO1 : Hid (w1.ownsRow w.heap.size TIn 1 (.slice da d.length dc) d.length (IV d)) := ho1; clear ha ho1 ha1) | (at_builtin; refine wpList_append_own_at _ rfl _ _ 39 rfl w.heap.size TIn i0 _ 1 8 Tryz.underlying39 hi hz0 hz1 hz2 rfl (by decide) (.slice da d.length dc) d.length (IV d) rfl (HO1.out.alloc _) ⟨w1.heap.size, 0, none⟩ 1 1 [.int .i64 x] rfl rfl (I.A.news1 _ _) (by simp [Value.oneCell']) (by have := HFL.out; unfold maxLen; omega) (by have := HFL.out; omega) (by have := HA1.out.kp.size; simp; omega) ?_; intro v' w5 hown5 hgrow5 _ hat5; have HO5 : Hid (w5.ownsRow w.heap.size TIn 1 v' (d ++ [x]).length (IV (d ++ [x]))) := (by rw [List.length_append, IV, List.map_append]; exact hown5); have HA5 : Hid (CAct w w5 P P C S C) := ((HA1.out.grown (World.grownBy_alloc w1 _ none) (fun k e => by cases e) (fun i _ e => by cases e)).grown hgrow5 (fun k e => row_base HO1.out e) (fun i hi e => by have h1 := row_base HO1.out e; have h2 := HLT.out i hi; omega)); obtain ⟨cd5, cn5⟩ := HLN.out w5 HA5.out; clear hown5 hgrow5 hat5))
              go_roundw
              case rel => exact ⟨k + 1, by omega, by go_num, by rw [HF.out]; simp [HANY.out, HNt.out], by rw [HF.out]; show World.ownsRow _ _ _ _ _ _ _; simpa using HO5.out, HA5, HAL2⟩
              case measure => simp [intOf]; omega
      · have hin' : K.inD S.n x = false := by simpa using hin
        rw [hin'] at hh
        have HALL : Hid (¬ ks.all (fun k => K.inD S.n k) = true) := fun hall => by
          rw [List.all_eq_true] at hall
          have := hall x (List.mem_of_getElem? hx)
          rw [hin'] at this
          cases this
        clear hx hin hin' HH HR HC HLk HLn HFl HSo
        go_wp2_with (go_at_call 70; refine hh.mono ?_; clear hh; rintro r w1 ⟨rfl, ha1⟩)
        go_ret
        have e : throughR S C ks = (31, S, C) := by unfold throughR; rw [if_neg HALL.out]
        rw [e]
        exact ⟨rfl, P, HA.out.trans ha1⟩
    · have hkz : ¬ (k : Int) < (m : Int) := by omega
      have HE : Hid (ks.take k = ks) := List.take_of_length_le (by have := HM.out; omega)
      have hd2 : d = ks.filter (dirtyAt C.L) := by rw [← HFD.out, HE.out]
      subst hd2
      rw [HE.out] at HAL
      have HTE : Hid (throughR S C ks = if an = true then flushR S C else settleR (Lib.compact (sortI (ks.filter (dirtyAt C.L)))) S C) := by show _ = _; unfold throughR; rw [if_pos HAL.out, HANY.out]
      have hfl := HFl.out wr HA.out
      have hso := HSo.out wr (.slice da (ks.filter (dirtyAt C.L)).length dc) HA.out HO.out
      clear HH HR HC HLk HLn HFl HSo
      cases an
      · go_wp2_with (first | (go_at_call 71; refine hso.mono ?_; clear hso; rintro r w1 ⟨rfl, hco⟩) | (go_at_call 72; refine hco.mono ?_; clear hco; rintro r w2 ⟨v2, rfl, hst⟩) | (go_at_call 66; refine hst.mono ?_; clear hst; rintro r w3 ⟨rfl, ha3⟩))
        go_ret
        rw [HTE.out, if_neg (by simp)]
        exact ⟨rfl, ha3⟩
      · go_wp2_with (go_at_call 24; refine hfl.mono ?_; clear hfl; rintro r w1 ⟨rfl, ha1⟩)
        go_ret
        have e : throughR S C ks = flushR S C := by rw [HTE.out]; simp
        rw [e]
        exact ⟨rfl, ha1⟩
end
end Go.Proofs.YtlacligofhinmaaGreat.C

namespace Go.Proofs.YtlacligofhinmaaGreat.C
open Go.RowKit Go.Maps Go.Shelf Go.Proofs.YtlacligofhinmaaGreat
set_option linter.unusedVariables false
set_option linter.unusedSimpArgs false
set_option maxRecDepth 100000

/-- a line knows whether it is a note's -/
def Nt (C : Ch) : Prop := ∀ l ∈ C.L, l.note = isN C.notes l.sec
/-- the lines are some of those that there were, clean or not -/
def SubL (C C' : Ch) : Prop := C'.notes = C.notes ∧ ∀ l' ∈ C'.L, ∃ l ∈ C.L, l'.sec = l.sec ∧ l'.note = l.note
theorem SubL.refl (C : Ch) : SubL C C := ⟨rfl, fun l hl => ⟨l, hl, rfl, rfl⟩⟩
theorem SubL.trans {C C1 C2 : Ch} (h : SubL C C1) (k : SubL C1 C2) : SubL C C2 := ⟨k.1.trans h.1, fun l hl => by
  obtain ⟨l1, h1, e1, e2⟩ := k.2 l hl
  obtain ⟨l0, h0, e3, e4⟩ := h.2 l1 h1
  exact ⟨l0, h0, e1.trans e3, e2.trans e4⟩⟩
theorem SubL.nt {C C' : Ch} (h : SubL C C') (nt : Nt C) : Nt C' := fun l hl => by
  obtain ⟨l0, h0, e1, e2⟩ := h.2 l hl
  rw [e2, e1, h.1]
  exact nt l0 h0
theorem SubL.drop (C : Ch) (s : Int) (st : Cs) : SubL C { C with L := dropL C.L s, st := st } := ⟨rfl, fun l hl => ⟨l, (List.mem_filter.1 hl).1, rfl, rfl⟩⟩
theorem wb_sub (S : K.Dk) (C : Ch) (s : Int) : SubL C (wbC S C s) := by
  unfold wbC
  split
  · split
    · refine ⟨rfl, fun l hl => ?_⟩
      obtain ⟨x, hx, e⟩ := List.mem_map.1 hl
      refine ⟨x, hx, ?_⟩
      rw [← e]
      split <;> exact ⟨rfl, rfl⟩
    · exact SubL.refl C
  · exact SubL.refl C
theorem backs_sub : ∀ (ks : List Int) (S : K.Dk) (C : Ch), SubL C (backs ks S C).2.2
  | [], S, C => SubL.refl C
  | s :: ks, S, C => by
    rw [backs_cons]
    split
    · exact (wb_sub S C s).trans (backs_sub ks _ _)
    · exact wb_sub S C s
theorem settle_sub (ks : List Int) (S : K.Dk) (C : Ch) : SubL C (settleR ks S C).2.2 := by
  unfold settleR
  split <;> exact backs_sub ks S C
theorem flush_sub (S : K.Dk) (C : Ch) : SubL C (flushR S C).2.2 := by
  unfold flushR
  split
  · split
    · exact settle_sub _ _ _
    · exact (settle_sub _ _ _).trans (settle_sub _ _ _)
  · exact settle_sub _ _ _
theorem gw_sub (S : K.Dk) (C : Ch) (l : Ln) : SubL C (gwR S C l).2.2 := by
  unfold gwR
  split
  · split
    · exact SubL.drop C _ _
    · exact SubL.refl C
  · exact SubL.drop C _ _
theorem room_sub (S : K.Dk) (C : Ch) : SubL C (roomR S C).2.2 := by
  unfold roomR
  split
  · exact SubL.refl C
  · split
    · exact gw_sub _ _ _
    · split
      · split
        · exact (flush_sub S C).trans (gw_sub _ _ _)
        · exact flush_sub S C
      · exact flush_sub S C
theorem through_sub (S : K.Dk) (C : Ch) (ks : List Int) : SubL C (throughR S C ks).2.2 := by
  unfold throughR
  split
  · split
    · exact flush_sub S C
    · exact settle_sub _ _ _
  · exact SubL.refl C
theorem back_sub (S : K.Dk) (C : Ch) : SubL C (backR S C).2.2.2 := by
  unfold backR
  cases C.L.find? dirtyData with
  | none => exact SubL.refl C
  | some l => simp only; split <;> exact wb_sub _ _ _
theorem nt_add {C C' : Ch} (h : Nt C) (hn : C'.notes = C.notes) {l : Ln} (hl : l.note = isN C.notes l.sec) (hL : ∀ x ∈ C'.L, x ∈ C.L ∨ x = l) : Nt C' := fun x hx => by
  rw [hn]
  rcases hL x hx with h1 | h1
  · exact h x h1
  · rw [h1]; exact hl
theorem read_nt {S : K.Dk} {C : Ch} (nt : Nt C) (s : Int) (b : Nat) : Nt (readR S C s b).2.2.2 ∧ (readR S C s b).2.2.2.notes = C.notes := by
  have hsub := room_sub S (missC C)
  have hnt : Nt (roomR S (missC C)).2.2 := hsub.nt nt
  have hno : (roomR S (missC C)).2.2.notes = C.notes := hsub.1
  unfold readR
  split
  · rename_i hi
    split
    · rename_i l hl
      unfold useC
      rw [hl]
      refine ⟨nt_add nt rfl (nt l (lineAt_mem hl).1) (fun x hx => ?_), rfl⟩
      rcases List.mem_append.1 hx with hx | hx
      · exact .inl (List.mem_filter.1 hx).1
      · simp at hx; exact .inr hx
    · split
      · split
        · obtain ⟨t, rfl, _⟩ := inD_nat hi
          refine ⟨nt_add hnt rfl (l := ⟨(t : Int).toNat, b, K.rdL (roomR S (missC C)).2.1 t, false, isN C.notes t⟩) (by rw [hno]; simp) (fun x hx => ?_), hno⟩
          rcases List.mem_append.1 hx with hx | hx
          · exact .inl hx
          · simp at hx; exact .inr (by rw [hx]; simp)
        · exact ⟨hnt, hno⟩
      · exact ⟨hnt, hno⟩
  · exact ⟨nt, rfl⟩
theorem write_nt {S : K.Dk} {C : Ch} (nt : Nt C) (s : Int) (bs : K.Bl) (b : Nat) : Nt (writeR S C s bs b).2.2 ∧ (writeR S C s bs b).2.2.notes = C.notes := by
  have hsub := room_sub S (missC C)
  have hnt : Nt (roomR S (missC C)).2.2 := hsub.nt nt
  have hno : (roomR S (missC C)).2.2.notes = C.notes := hsub.1
  unfold writeR
  split
  · rename_i hi
    split
    · split
      · rename_i l hl
        refine ⟨nt_add nt rfl (l := { l with dat := bs, dirty := true }) (nt l (lineAt_mem hl).1) (fun x hx => ?_), rfl⟩
        rcases List.mem_append.1 hx with hx | hx
        · exact .inl (List.mem_filter.1 hx).1
        · simp at hx; exact .inr hx
      · split
        · obtain ⟨t, rfl, _⟩ := inD_nat hi
          refine ⟨nt_add hnt rfl (l := ⟨(t : Int).toNat, b, bs, true, isN C.notes t⟩) (by rw [hno]; simp) (fun x hx => ?_), hno⟩
          rcases List.mem_append.1 hx with hx | hx
          · exact .inl hx
          · simp at hx; exact .inr (by rw [hx]; simp)
        · exact ⟨hnt, hno⟩
    · exact ⟨nt, rfl⟩
  · exact ⟨nt, rfl⟩
end Go.Proofs.YtlacligofhinmaaGreat.C

namespace Go.Proofs.YtlacligofhinmaaGreat.C
open Go.RowKit Go.Maps Go.Shelf Go.Proofs.YtlacligofhinmaaGreat
set_option linter.unusedVariables false
set_option linter.unusedSimpArgs false
set_option maxRecDepth 100000

def pkb (b : Bool) (l : Ln) : Bool := l.note == b
theorem pkb_data : isData = pkb false := by
  funext l; unfold isData pkb; cases l.note <;> rfl
theorem pkb_noted : isNoted = pkb true := by
  funext l; unfold isNoted pkb; cases l.note <;> rfl
/-- is a line one of those that are still to be written back? -/
def Cand (b : Bool) (z : Int) (l : Ln) : Prop := l.dirty = true ∧ pkb b l = true ∧ z < l.sec
/-- what stands while lines are written back: k of them are done, the last one's sector is z -/
structure Bks (b : Bool) (ks : List Int) (k : Nat) (z : Int) (C1 : Ch) : Prop where
  dirt : Dirt (ks.drop k) C1
  all : ∀ l ∈ C1.L, Cand b z l → (l.sec : Int) ∈ ks.drop k
  gt : ∀ s ∈ ks.drop k, z < s
  pks : ∀ s ∈ ks.drop k, ∃ l ∈ C1.L, (l.sec : Int) = s ∧ l.dirty = true ∧ pkb b l = true
  nd : (secs C1.L).Nodup
  so : ks.Pairwise (· ≤ ·)
theorem wbC_L {S : K.Dk} {C : Ch} {s : Int} {l : Ln} (hl : lineAt C.L s = some l) (he : wbE S C s = 0) : (wbC S C s).L = cleanL C.L s := by
  unfold wbE at he
  unfold wbC
  rw [hl] at he ⊢
  simp only at he ⊢
  split
  · rfl
  · rename_i h0; rw [if_neg h0] at he; omega
theorem Bks.start {b : Bool} {C : Ch} (hsd : (secs C.L).Nodup) : Bks b (dlL (pkb b) C.L) 0 (-1) C := by
  have hm : ∀ s ∈ dlL (pkb b) C.L, ∃ l ∈ C.L, (l.sec : Int) = s ∧ l.dirty = true ∧ pkb b l = true := fun s hs => by
    obtain ⟨l, hl, rfl⟩ := List.mem_map.1 ((sortI_perm _).mem_iff.1 hs)
    obtain ⟨h1, h2⟩ := List.mem_filter.1 hl
    simp only [Bool.and_eq_true] at h2
    exact ⟨l, h1, rfl, h2.1, h2.2⟩
  refine ⟨dirt_dl hsd, fun l hl h => mem_dl hl h.1 h.2.1, fun s hs => ?_, hm, hsd, sortI_sorted _⟩
  obtain ⟨l, _, rfl, _⟩ := hm s hs
  omega
theorem Bks.done {b : Bool} {ks : List Int} {k : Nat} {z : Int} {C1 : Ch} (h : Bks b ks k z C1) (hn : ∀ l ∈ C1.L, ¬ Cand b z l) : ks.drop k = [] := by
  cases e : ks.drop k with
  | nil => rfl
  | cons s t =>
    obtain ⟨l, hl, hs, h1, h2⟩ := h.pks s (by rw [e]; simp)
    exact absurd ⟨h1, h2, by rw [hs]; exact h.gt s (by rw [e]; simp)⟩ (hn l hl)
theorem Bks.head {b : Bool} {ks : List Int} {k : Nat} {z : Int} {C1 : Ch} (h : Bks b ks k z C1) {l : Ln} (hl : l ∈ C1.L) (hc : Cand b z l) (hmin : ∀ l' ∈ C1.L, Cand b z l' → l.sec ≤ l'.sec) : ks.drop k = (l.sec : Int) :: ks.drop (k + 1) ∧ k < ks.length := by
  have hm := h.all l hl hc
  have hso := h.so.drop (i := k)
  cases e : ks.drop k with
  | nil => rw [e] at hm; cases hm
  | cons s t =>
    rw [e] at hm hso
    have ht : t = ks.drop (k + 1) := by
      rw [← List.drop_drop (l := ks) (i := 1) (j := k), e]; rfl
    obtain ⟨l', hl', hs, h1, h2⟩ := h.pks s (by rw [e]; simp)
    have h3 := hmin l' hl' ⟨h1, h2, by rw [hs]; exact h.gt s (by rw [e]; simp)⟩
    have h4 : s ≤ (l.sec : Int) := by
      rcases List.mem_cons.1 hm with h5 | h5
      · omega
      · exact (List.pairwise_cons.1 hso).1 _ h5
    have h6 : s = (l.sec : Int) := by omega
    refine ⟨by rw [h6, ht], ?_⟩
    rcases Nat.lt_or_ge k ks.length with h7 | h7
    · exact h7
    · rw [List.drop_of_length_le h7] at e; cases e
theorem Bks.next {b : Bool} {ks : List Int} {k : Nat} {z : Int} {S1 : K.Dk} {C1 : Ch} (h : Bks b ks k z C1) {l : Ln} (hl : l ∈ C1.L) (hc : Cand b z l) (hd : ks.drop k = (l.sec : Int) :: ks.drop (k + 1)) (he : wbE S1 C1 l.sec = 0) : Bks b ks (k + 1) l.sec (wbC S1 C1 l.sec) := by
  have hdi := h.dirt
  have hso := h.so.drop (i := k)
  rw [hd] at hdi hso
  obtain ⟨n1, n2, n3⟩ := dirt_next h.nd hdi he
  have hnd := List.nodup_cons.1 hdi.nd
  have hgt : ∀ s ∈ ks.drop (k + 1), (l.sec : Int) < s := fun s hs => by
    have h1 := (List.pairwise_cons.1 hso).1 s hs
    have h2 : s ≠ l.sec := fun e => hnd.1 (by rw [← e]; exact hs)
    omega
  refine ⟨n1, fun l' hl' hc' => ?_, hgt, fun s hs => ?_, by rw [secs_wbC]; exact h.nd, h.so⟩
  · obtain ⟨h1, h2⟩ := n3 l' hl' hc'.1
    have h3 := h.all l' h1 ⟨hc'.1, hc'.2.1, by have := hc.2.2; have := hc'.2.2; omega⟩
    rw [hd] at h3
    rcases List.mem_cons.1 h3 with h4 | h4
    · exact absurd h4 h2
    · exact h4
  · obtain ⟨l', hl', h1, h2, h3⟩ := h.pks s (by rw [hd]; simp [hs])
    have h4 := hgt s hs
    refine ⟨l', ?_, h1, h2, h3⟩
    rw [wbC_L (at_line h.nd hl) he]
    exact mem_cleanL hl' (by omega)
/-- the search for the next one, as far as it has come -/
def Srch (b : Bool) (z : Int) (L : List Ln) (i : Nat) (a : Int) : Prop :=
  (a = -1 ∧ ∀ j l, j < i → L[j]? = some l → ¬ Cand b z l) ∨ ∃ (j : Nat) (l : Ln), a = j ∧ j < i ∧ L[j]? = some l ∧ Cand b z l ∧ ∀ j' l', j' < i → L[j']? = some l' → Cand b z l' → l.sec ≤ l'.sec
theorem Srch.start (b : Bool) (z : Int) (L : List Ln) : Srch b z L 0 (-1) := .inl ⟨rfl, fun j l h => by omega⟩
theorem Srch.skip {b : Bool} {z : Int} {L : List Ln} {i : Nat} {a : Int} (h : Srch b z L i a) {l : Ln} (hl : L[i]? = some l) (hc : ¬ Cand b z l) : Srch b z L (i + 1) a := by
  rcases h with ⟨e, h⟩ | ⟨j, m, e, hj, hm, h1, h2⟩
  · refine .inl ⟨e, fun j l' hj hl' => ?_⟩
    by_cases ej : j = i
    · subst ej; rw [hl] at hl'; cases hl'; exact hc
    · exact h j l' (by omega) hl'
  · refine .inr ⟨j, m, e, by omega, hm, h1, fun j' l' hj' hl' hc' => ?_⟩
    by_cases ej : j' = i
    · subst ej; rw [hl] at hl'; cases hl'; exact absurd hc' hc
    · exact h2 j' l' (by omega) hl' hc'
theorem Srch.first {b : Bool} {z : Int} {L : List Ln} {i : Nat} (h : ∀ j l, j < i → L[j]? = some l → ¬ Cand b z l) {l : Ln} (hl : L[i]? = some l) (hc : Cand b z l) : Srch b z L (i + 1) i := by
  refine .inr ⟨i, l, rfl, by omega, hl, hc, fun j' l' hj' hl' hc' => ?_⟩
  by_cases ej : j' = i
  · subst ej; rw [hl] at hl'; cases hl'; omega
  · exact absurd hc' (h j' l' (by omega) hl')
theorem Srch.less {b : Bool} {z : Int} {L : List Ln} {i : Nat} {m : Ln} (h : ∀ j' l', j' < i → L[j']? = some l' → Cand b z l' → m.sec ≤ l'.sec) {l : Ln} (hl : L[i]? = some l) (hc : Cand b z l) (hlt : l.sec < m.sec) : Srch b z L (i + 1) i := by
  refine .inr ⟨i, l, rfl, by omega, hl, hc, fun j' l' hj' hl' hc' => ?_⟩
  by_cases ej : j' = i
  · subst ej; rw [hl] at hl'; cases hl'; omega
  · have := h j' l' (by omega) hl' hc'; omega
theorem Srch.more {b : Bool} {z : Int} {L : List Ln} {i j : Nat} {m : Ln} (hj : j < i) (hm : L[j]? = some m) (h1 : Cand b z m) (h : ∀ j' l', j' < i → L[j']? = some l' → Cand b z l' → m.sec ≤ l'.sec) {l : Ln} (hl : L[i]? = some l) (hlt : ¬ l.sec < m.sec) : Srch b z L (i + 1) j := by
  refine .inr ⟨j, m, rfl, by omega, hm, h1, fun j' l' hj' hl' hc' => ?_⟩
  by_cases ej : j' = i
  · subst ej; rw [hl] at hl'; cases hl'; omega
  · exact h j' l' (by omega) hl' hc'
end Go.Proofs.YtlacligofhinmaaGreat.C

namespace Go.Proofs.YtlacligofhinmaaGreat.C
open Go.RowKit Go.Sort Go.Lib Go.Proofs.YtlacligofhinmaaGreat
attribute [local go_sem] Oper.semAt_some
set_option linter.unusedVariables false
set_option linter.unusedSimpArgs false
set_option maxRecDepth 100000

theorem owns_capS {w : World} {base g n cap size : Nat} {e : TypeId} {xs : List Value} (h : w.ownsRow base e size (.slice (some ⟨g, 0, none⟩) n cap) n xs) : n ≤ cap ∧ cap ≤ maxLen ∧ base ≤ g ∧ g < w.heap.size ∧ True := by
  rcases h.2 with ⟨h', _⟩ | ⟨g', cap', cur, h', hb, hg, hnc, hcm, _⟩
  · simp at h'
  · simp only [Value.slice.injEq, Option.some.injEq, Addr.mk.injEq, and_true, true_and] at h'
    obtain ⟨rfl, rfl⟩ := h'
    exact ⟨hnc, hcm, hb, (Array.getElem?_eq_some_iff.1 hg).1, trivial⟩
set_option maxHeartbeats 1000000 in
theorem cmp1_any (x y : Int × Int) (W : World) : Calls Tryz.prog 106 #[.agg #[.int .i64 x.1, .int .i64 x.2], .agg #[.int .i64 y.1, .int .i64 y.2]] W fun e w' => e = .returned (.int .i64 (Lib.compareInt x.1 y.1)) ∧ ∃ q os', w' = grow (W.drewN q) os' := by
  have hcon := fun W' => Tryz.cmp_Compare_int x.1 y.1 W'
  generalize Lib.compareInt x.1 y.1 = r at hcon ⊢
  go_enter Tryz.func106, Tryz.ntmps106
  go_wp2_with (go_at_call 107; refine (hcon _).mono ?_; rintro e w' ⟨rfl, rfl⟩)
  go_ret
  exact ⟨rfl, 0, _, by rw [alloc_eq_grow, alloc_eq_grow, grow_grow]; rfl⟩
theorem cmpLays (blk off size : Nat) (w : World) : CmpLays Tryz.prog 106 #[] spcell 2 (fun x y => Lib.compareInt x.1 y.1) blk off size w :=
  fun _ _ _ _ x y => cmp1_any x y _
theorem ltLo (x y : Int × Int) : ltOf (fun x y : Int × Int => Lib.compareInt x.1 y.1) x y = decide (x.1 < y.1) := by
  unfold ltOf Lib.compareInt
  by_cases h1 : x.1 < y.1
  · simp [h1]
  · by_cases h2 : y.1 < x.1 <;> simp [h1, h2]
theorem swoLo : SWO (ltOf fun x y : Int × Int => Lib.compareInt x.1 y.1) where
  irrefl x := by rw [ltLo]; simp
  trans x y z h1 h2 := by rw [ltLo] at *; simp at *; omega
  ntrans x y z h1 h2 := by rw [ltLo] at *; simp at *; omega

theorem sort_block {enc : (Int × Int) → List Value} {k blk off n : Nat} {w : World} {d : Array (Int × Int)} {os : Array Obj} (i : Nat) (hi : i < w.heap.size) (hne : i ≠ blk) : (sortWorldK enc k w blk off n d os).heap[i]? = w.heap[i]? := by
  unfold sortWorldK grow putRowK putRow mapBlock
  simp only
  rw [Array.getElem?_append_left (by simpa using hi), Array.getElem?_modify, if_neg (Ne.symm hne)]
  rfl
/-- the pairs of a list lie in cells -/
def PRow (w : World) (blk off : Nat) (l : List (Int × Int)) : Prop := ∀ k p, l[k]? = some p → w.cell? ⟨blk, off + k * 2, none⟩ = some (.int .i64 p.1) ∧ w.cell? ⟨blk, off + k * 2 + 1, none⟩ = some (.int .i64 p.2)

/-- a list rises by its beginnings -/
def SortedLo (l : List (Int × Int)) : Prop := ∀ (i j : Nat) (p q : Int × Int), l[i]? = some p → l[j]? = some q → i < j → p.1 ≤ q.1
theorem sortS_any {w : World} {B g cap : Nat} {l : List (Int × Int)} (h : w.ownsRow B TSp 2 (.slice (some ⟨g, 0, none⟩) l.length cap) l.length (spcells l)) (hl : l.length < 4611686018427387904) :
    Calls Tryz.prog 132 #[.slice (some ⟨g, 0, none⟩) l.length cap, .func (.func 106) #[] #[]] w fun e w' => e = .returned (.tuple #[]) ∧ ∃ l' : List (Int × Int), l'.Perm l ∧ SortedLo l' ∧ PRow w' g 0 l' ∧ w.heap.size ≤ w'.heap.size ∧ w'.os = w.os ∧ w'.tape = w.tape ∧ w'.output = w.output ∧ ∀ i, i < w.heap.size → i ≠ g → w'.heap[i]? = w.heap[i]? := by
  have eg : ∀ args w, (callFunc 106 args).run Tryz.prog w = .ok (.enter 106 args) w := enters_of Tryz.func106 (by kernel_rfl) rfl
  obtain ⟨k1, k2, k3, k4, k5⟩ := owns_capS h
  have hH : HoldsK spcell 2 w g 0 l.toArray := by
    intro j hj
    rw [size_flatK] at hj
    have hj' : j < l.length * 2 := by simpa using hj
    refine ⟨?_, h.frozenAt _⟩
    rw [Nat.zero_add, h.cellAt j (by omega), get_flatK _ _ _ _ hj]
    have hq : j / 2 < l.length := by omega
    have hget : l[j / 2]? = some (l.toArray[j / 2]!) := by simp [hq]
    obtain ⟨a1, a2⟩ := spcells_get l (j / 2) _ hget
    rcases Nat.mod_two_eq_zero_or_one j with e | e
    · rw [show j = j / 2 * 2 by omega] at a1 ⊢
      rw [show j / 2 * 2 / 2 = j / 2 by omega, show j / 2 * 2 % 2 = 0 by omega]
      simpa [spcell] using a1
    · have e' : j = j / 2 * 2 + 1 := by omega
      rw [e'] at a2 ⊢
      rw [show (j / 2 * 2 + 1) / 2 = j / 2 by omega, show (j / 2 * 2 + 1) % 2 = 1 by omega] at *
      simpa [spcell] using a2
  have hcon := AnyQ.slices_SortFunc Tryz.sortS 2 Tryz.isAgg68 Tryz.sizeOf68 spcell (fun _ => rfl) (fun x v hv => by simp [spcell] at hv; rcases hv with rfl | rfl <;> rfl) (fun x y => Lib.compareInt x.1 y.1) swoLo 106 #[] g 0 cap l.toArray w eg (cmpLays g 0 _ w) hH k4 (by simpa using hl)
  change Calls Tryz.prog 132 _ _ _ at hcon
  have hsz : l.toArray.size = l.length := by simp
  rw [hsz] at hcon
  refine hcon.mono ?_
  rintro e w' ⟨rfl, d', n, os, hp, hs, rfl⟩
  refine ⟨rfl, d'.toList, ?_, ?_, ?_, size_sortWorldK_c _ _ _ _ _ _ _ _, rfl, rfl, rfl, fun i hi hne => sort_block i hi hne⟩
  · have h2 := hp.2.2
    have hd : d'.size = l.length := by rw [hp.1]; simp
    have e1 : d'.extract 0 l.length = d' := by rw [← hd]; simp
    have e2 : l.toArray.extract 0 l.length = l.toArray := by rw [← hsz]; simp
    rw [e1, e2] at h2
    simpa using h2
  · intro i j p q hi hj hij
    have hi' : i < d'.size := by have := (List.getElem?_eq_some_iff.1 hi).1; simpa using this
    have hj' : j < d'.size := by have := (List.getElem?_eq_some_iff.1 hj).1; simpa using this
    have h3 := hs i j (by omega) hij (by rw [← hsz, ← hp.1]; exact hj')
    rw [ltLo] at h3
    have e1 : d'[i]! = p := by
      rw [Array.getElem?_toList] at hi
      rw [getElem!_pos d' i hi']
      rw [Array.getElem?_eq_getElem hi'] at hi; exact Option.some.inj hi
    have e2 : d'[j]! = q := by
      rw [Array.getElem?_toList] at hj
      rw [getElem!_pos d' j hj']
      rw [Array.getElem?_eq_getElem hj'] at hj; exact Option.some.inj hj
    rw [e1, e2] at h3
    simp at h3
    exact h3
  · intro k p hk
    have hH' := holdsK_sortWorldK_c _ _ _ _ _ l.toArray d' n os hH k4 hp.1
    have hk' : k < d'.size := by have := (List.getElem?_eq_some_iff.1 hk).1; simpa using this
    have hpk : d'[k]! = p := by
      have := hk
      rw [Array.getElem?_toList] at this
      rw [getElem!_pos d' k hk']
      have h3 := Array.getElem?_eq_getElem hk'
      rw [h3] at this; exact Option.some.inj this
    have c0 := (hH'.cell (c := 0) hk' (by omega)).1
    have c1 := (hH'.cell (c := 1) hk' (by omega)).1
    rw [hpk] at c0 c1
    exact ⟨by simpa [spcell] using c0, by simpa [spcell] using c1⟩
end Go.Proofs.YtlacligofhinmaaGreat.C

namespace Go.Proofs.YtlacligofhinmaaGreat.C
open Go.RowKit Go.Maps Go.Shelf Go.Proofs.YtlacligofhinmaaGreat
attribute [local go_sem] Oper.semAt_some
set_option linter.unusedVariables false
set_option linter.unusedSimpArgs false
set_option maxRecDepth 100000

abbrev TSps : TypeId := 22
/-- spans in cells -/
def SpR (w : World) (ao : Option Addr) (l : List (Int × Int)) : Prop := ∀ k p, l[k]? = some p → ∃ g off, ao = some ⟨g, off, none⟩ ∧ g < w.heap.size ∧ w.cell? ⟨g, off + k * 2, none⟩ = some (.int .i64 p.1) ∧ w.cell? ⟨g, off + k * 2 + 1, none⟩ = some (.int .i64 p.2)
theorem SpR.later {w w' : World} {ao : Option Addr} {l : List (Int × Int)} (h : SpR w ao l) (hb : Below w.heap.size w w') : SpR w' ao l := fun k p hk => by
  obtain ⟨g, off, e, hg, h1, h2⟩ := h k p hk
  exact ⟨g, off, e, Nat.lt_of_lt_of_le hg hb.size, cell_later hb h1, cell_later hb h2⟩
theorem SpR.of_row {w : World} {B n g cap : Nat} {l : List (Int × Int)} (h : w.ownsRow B TSp 2 (.slice (some ⟨g, 0, none⟩) n cap) n (spcells l)) : SpR w (some ⟨g, 0, none⟩) l := fun k p hk => by
  obtain ⟨h1, h2⟩ := sp_cells h hk
  exact ⟨g, 0, rfl, (owns_capS h).2.2.2.1, by rw [Nat.zero_add]; exact h1, by rw [Nat.zero_add]; exact h2⟩
/-- what lay below H is as it was -/
def KpH (H : Nat) (W W' : World) : Prop := ∀ i, i < H → W'.heap[i]? = W.heap[i]?
theorem kpH_t {H : Nat} {A B C : World} (h : KpH H A B) (k : KpH H B C) : KpH H A C := fun i hi => (k i hi).trans (h i hi)
theorem kpH_b {w : World} {H : Nat} (hH : H ≤ w.heap.size) (W : World) (l : Nat) (o o' : Obj) (hl : w.heap.size ≤ l) (h : W.heap[l]? = some o) (hc : o.isCells = false) (_ : o.isWalk = false) : KpH H W (W.putObj l o') := fun i hi => World.putObj_heap_other (by omega)
theorem cell_kpH {H : Nat} {W W' : World} (h : KpH H W W') {a : Addr} {v : Value} (ha : a.block < H) (hv : W.cell? a = some v) : W'.cell? a = some v := by
  unfold World.cell? at hv ⊢
  rw [h _ ha]; exact hv
theorem values_c (w : World) (ao : Option Addr) (n cap : Nat) : Calls Tryz.prog 105 #[.slice ao n cap] w fun r w' => r = .returned (.func (.func 133) #[] #[.pointer (some ⟨w.heap.size, 0, none⟩)]) ∧ w' = w.alloc (.cells #[.slice ao n cap] TSps) := by
  have hmf : ∀ (fn : Fn) (first cap : Array Value) (w : World), (Instr.makeFunc fn first cap).run Tryz.prog w = .ok (.func fn first cap) w := fun _ _ _ _ => rfl
  go_enter Tryz.func105, Tryz.ntmps105
  go_wp2
  go_ret
  exact ⟨rfl, rfl⟩
set_option maxHeartbeats 4000000 in
theorem vals_seq (n : Nat) (hn : 1 ≤ n) {H : Nat} {w : World} {bx cap : Nat} {ao : Option Addr} {l : List (Int × Int)} (hH : w.heap.size ≤ H ∨ True) (hc : w.cell? ⟨bx, 0, none⟩ = some (.slice ao l.length cap)) (hr : SpR w ao l) (hHr : ∀ (k : Nat) (p : Int × Int), l[k]? = some p → ∀ g off, ao = some ⟨g, off, none⟩ → g < H) (hl : l.length ≤ 1048576) :
    SeqStopsK Fence.wide n Tryz.prog 133 #[.pointer (some ⟨bx, 0, none⟩)] (fun p : Int × Int => #[.agg #[.int .i64 p.1, .int .i64 p.2]]) (KpH H) (fun ys => ys = l) (fun pre => ∃ rest, l = pre ++ rest) l.length w := by
  intro lv J Jx W hW hJ hJx hY h0
  have d0 : W.cell? ⟨bx, 0, none⟩ = some (.slice ao l.length cap) := cell_later hW hc
  have HR0 : Hid (∀ k p, l[k]? = some p → ∃ g off, ao = some ⟨g, off, none⟩ ∧ g < H ∧ W.cell? ⟨g, off + k * 2, none⟩ = some (.int .i64 p.1) ∧ W.cell? ⟨g, off + k * 2 + 1, none⟩ = some (.int .i64 p.2)) := fun k p hk => by
    obtain ⟨g, off, e, _, h1, h2⟩ := hr k p hk
    exact ⟨g, off, e, hHr k p hk g off e, cell_later hW h1, cell_later hW h2⟩
  obtain ⟨m, hm⟩ : ∃ m, m = l.length := ⟨_, rfl⟩
  rw [← hm] at d0 hY hl
  have HM : Hid (m = l.length) := hm
  have HJ0 : Hid (J [] W) := h0
  have HAB : Hid (AbidesFrom W.heap.size J) := hJ
  clear hm hr hc hW h0 hHr hH hJ
  have hf : Fence.wide.fn 133 := trivial
  refine callsIn_of_wp Tryz.func133 rfl hf ?_ rfl
  simp only [Tryz.ntmps133, List.size_toArray, List.length_cons, List.length_nil, Nat.reduceAdd, Nat.reduceSub, Array.replicate_succ, Array.replicate_zero, List.push_toArray, List.append_toArray, List.nil_append, List.cons_append]
  gi_wp2
  gi_loopw [7] (fun i wr => ∃ (k : Nat), i = .int .i64 k ∧ k ≤ m ∧ Hid (J (l.take k) wr) ∧ Hid (∀ k p, l[k]? = some p → ∃ g off, ao = some ⟨g, off, none⟩ ∧ g < H ∧ wr.cell? ⟨g, off + k * 2, none⟩ = some (.int .i64 p.1) ∧ wr.cell? ⟨g, off + k * 2 + 1, none⟩ = some (.int .i64 p.2))) (fun i _ => m - (intOf i).toNat)
  case atStart => exact ⟨0, rfl, Nat.zero_le _, HJ0, HR0⟩
  case round =>
    obtain ⟨k, rfl, hk, HJk, HRk⟩ := hrel
    by_cases hlt : k < m
    · have hkz : (k : Int) < (m : Int) := by omega
      obtain ⟨p, hp⟩ : ∃ p, l[k]? = some p := ⟨_, List.getElem?_eq_getElem (by have := HM.out; omega)⟩
      obtain ⟨g, off, rfl, hg, c0, c1⟩ := HRk.out k p hp
      have HT : Hid (l.take k ++ [p] = l.take (k + 1)) := by
        show _ = _
        rw [List.take_add_one, hp]; rfl
      have hlen : (l.take k).length < m := by rw [List.length_take]; have := HM.out; omega
      have hJy : J (l.take k) (wr.alloc (.cells #[.int .i64 p.1, .int .i64 p.2] TSp)) := HAB.out _ _ _ none HJk.out (World.grownBy_alloc wr _ none) (fun r e => by cases e)
      obtain ⟨fn, tmps, assign, body, hy, hR⟩ := hY (l.take k) p _ hJy hlen
      rw [HT.out] at hR
      have HRy : Hid (∀ k p, l[k]? = some p → ∃ g' off', (some ⟨g, off, none⟩ : Option Addr) = some ⟨g', off', none⟩ ∧ g' < H ∧ (wr.alloc (.cells #[.int .i64 p.1, .int .i64 p.2] TSp)).cell? ⟨g', off' + k * 2, none⟩ = some (.int .i64 p.1) ∧ (wr.alloc (.cells #[.int .i64 p.1, .int .i64 p.2] TSp)).cell? ⟨g', off' + k * 2 + 1, none⟩ = some (.int .i64 p.2)) := fun k' p' hk' => by
        obtain ⟨g', off', e, h1, h2, h3⟩ := HRk.out k' p' hk'
        exact ⟨g', off', e, h1, cell_later ((Below.refl _ wr).alloc (Nat.le_refl _) _) h2, cell_later ((Below.refl _ wr).alloc (Nat.le_refl _) _) h3⟩
      have HRz : Hid (∀ W3, KpH H (wr.alloc (.cells #[.int .i64 p.1, .int .i64 p.2] TSp)) W3 → ∀ k p, l[k]? = some p → ∃ g' off', (some ⟨g, off, none⟩ : Option Addr) = some ⟨g', off', none⟩ ∧ g' < H ∧ W3.cell? ⟨g', off' + k * 2, none⟩ = some (.int .i64 p.1) ∧ W3.cell? ⟨g', off' + k * 2 + 1, none⟩ = some (.int .i64 p.2)) := fun W3 hk3 k' p' hk' => by
        obtain ⟨g', off', e, h1, h2, h3⟩ := HRk.out k' p' hk'
        exact ⟨g', off', e, h1, cell_kpH hk3 h1 (cell_later ((Below.refl _ wr).alloc (Nat.le_refl _) _) h2), cell_kpH hk3 h1 (cell_later ((Below.refl _ wr).alloc (Nat.le_refl _) _) h3)⟩
      clear hp hlen hY hJy HRk HRy HR0
      gi_wp2
      refine hR.mono ?_
      rintro e W3 (⟨rfl, hJ3, hk3⟩ | ⟨rfl, hJx3⟩)
      · gi_wp2
        go_roundw
        case rel => exact ⟨k + 1, by go_num, by omega, hJ3, HRz.out W3 hk3⟩
        case measure => simp [intOf]; omega
      · gi_wp2
        refine bodyPost_ret (results_none rfl _ _ _) rfl ?_
        exact ⟨⟨_, rfl⟩, .inr ⟨l.take (k + 1), ⟨l.drop (k + 1), (List.take_append_drop _ _).symm⟩, hJx3⟩⟩
    · have hkz : ¬ (k : Int) < (m : Int) := by omega
      have HE : Hid (l.take k = l) := List.take_of_length_le (by have := HM.out; omega)
      rw [HE.out] at HJk
      gi_wp2
      go_end0
      first | exact ⟨⟨_, rfl⟩, .inl ⟨l, rfl, HJk.out⟩⟩ | exact ⟨⟨_, rfl⟩, .inl HJk.out⟩
end Go.Proofs.YtlacligofhinmaaGreat.C

namespace Go.Proofs.YtlacligofhinmaaGreat.C
open Go.RowKit Go.Maps Go.Shelf Go.Proofs.YtlacligofhinmaaGreat
attribute [local go_sem] Oper.semAt_some
set_option linter.unusedVariables false
set_option linter.unusedSimpArgs false
set_option maxRecDepth 100000

theorem infoSp : (Tryz.prog.info? TSp).map (fun i => (i.zero, i.size, i.bytes)) = some (some (.agg #[.int .i64 0, .int .i64 0]), 2, 16) := by kernel_rfl
theorem spcells_snoc (l : List (Int × Int)) (p : Int × Int) : spcells (l ++ [p]) = spcells l ++ [.int .i64 p.1, .int .i64 p.2] := by simp [spcells, spcell]
theorem below_kpH {H : Nat} {W W' : World} (h : Below H W W') : KpH H W W' := fun i hi => h.block i hi
set_option maxHeartbeats 8000000 in
theorem appendSeq_c {w : World} {bx cap : Nat} {ao : Option Addr} {l : List (Int × Int)} (hc : w.cell? ⟨bx, 0, none⟩ = some (.slice ao l.length cap)) (hr : SpR w ao l) (hl : l.length ≤ 1048576) :
    Calls Tryz.prog 163 #[.slice none 0 0, .func (.func 133) #[] #[.pointer (some ⟨bx, 0, none⟩)]] w fun r w' => ∃ v, r = .returned v ∧ w'.ownsRow w.heap.size TSp 2 v l.length (spcells l) ∧ Below w.heap.size w w' := by
  obtain ⟨i0, hi, hz0, hz1, hz2⟩ := info_parts infoSp
  refine (callsIn_wide (n := 4)).1 ?_
  have f0 : Fence.wide.fn 163 := trivial
  have f2 : Fence.wide.fn 133 := trivial
  refine callsIn_of_wp_marks Tryz.func163 rfl f0 ?_ rfl
  simp only [Tryz.ntmps163, List.size_toArray, List.length_cons, List.length_nil, Nat.reduceAdd, Nat.reduceSub, Array.replicate_succ, Array.replicate_zero, List.push_toArray, List.append_toArray, List.nil_append, List.cons_append]
  gi_wp2
  obtain ⟨W0, hW0⟩ : ∃ W0, W0 = w.alloc (.cells #[.slice none 0 0] TSps) := ⟨_, rfl⟩
  have hB0 : Below w.heap.size w W0 := by rw [hW0]; exact (Below.refl _ w).alloc (Nat.le_refl _) _
  have hs0 : W0.heap.size = w.heap.size + 1 := by rw [hW0]; simp
  have bO : Boxed W0 w.heap.size TSps (.slice none 0 0) := by rw [hW0]; exact Boxed.new w TSps (.slice none 0 0)
  have hseq := vals_seq 3 (by omega) (H := w.heap.size) (.inr trivial) (cell_later hB0 hc) (hr.later hB0) (fun k p hk g off e => by obtain ⟨g', off', e', hg, _⟩ := hr k p hk; rw [e] at e'; cases e'; exact hg) hl
  rw [← hW0]
  refine wpIn_rangeFunc_ownH rfl (by omega) (gf := 133) (lb := #[.pointer (some ⟨bx, 0, none⟩)]) rfl f2 (enters_of Tryz.func133 (by kernel_rfl) rfl)
    hseq kpH_t (kpH_b (w := W0) (by omega)) (Below.refl _ _) (fun _ => rfl)
    (fun pre W => (∃ v, Boxed W w.heap.size TSps v ∧ W.ownsRow w.heap.size TSp 2 v pre.length (spcells pre) ∧ True) ∧ Below w.heap.size w W)
    (fun _ _ _ => False)
    (OwnFrom.and (Own.from (holdsRow_own w.heap.size w.heap.size TSps TSp 2 (fun (pre : List (Int × Int)) => pre.length) (fun pre => spcells pre) (fun _ _ => True)) _) (ownFrom_below (Nat.le_refl _) (by omega)))
    (fun _ _ _ _ _ hs _ _ => hs)
    ⟨⟨_, bO, World.ownsRow_nil _ _ _ _, trivial⟩, hB0⟩
    (fun x a' W => ∃ q, W.heap[q]? = some (.cells #[.int .i64 x.1, .int .i64 x.2] TSp (0, 0)) ∧ a' = { tmps := #[.slice none 0 0, .func (.func 133) #[] #[.pointer (some ⟨bx, 0, none⟩)], .pointer (some ⟨w.heap.size, 0, none⟩), undef, .slice none 0 0, .pointer (some ⟨q, 0, none⟩), .func (.func 133) #[] #[.pointer (some ⟨bx, 0, none⟩)], .agg #[.int .i64 x.1, .int .i64 x.2], undef, undef, undef, undef, undef], defers := [] })
    (fun x a' s X Y row hs hg hrow => by
      obtain ⟨q, h1, h2⟩ := hs
      refine ⟨q, (hg.block q (Array.getElem?_eq_some_iff.1 h1).1 (fun e => ?_)).trans h1, h2⟩
      obtain ⟨_, o, ho, hoc⟩ := hrow q e.symm
      rw [h1] at ho
      cases ho
      cases hoc)
    ?assign ?body ?done ?stop
  case assign =>
    rintro lv pre x W K ⟨⟨v, hv, hrow, _⟩, hB⟩ hK
    gi_wp2
    exact hK _ _ ((KeepsOthers.alloc W _).from _) (below_kpH ((Below.refl _ W).alloc (Nat.le_refl _) _ |>.mono hB.size)) ⟨⟨v, hv.alloc _, hrow.alloc _, trivial⟩, hB.alloc hB.size _⟩ ⟨W.heap.size, heap_alloc_new W _, rfl⟩
  case body =>
    rintro lv pre x a' W hl' ⟨r, hr'⟩ ⟨⟨v, hv, hrow, _⟩, hB⟩ ⟨q, hq, rfl⟩ hlt
    have hcv := hv.cell
    have hfz := hv.frozen
    have q0 : W.cell? ⟨q, 0, none⟩ = some (.int .i64 x.1) := (K.cell_of hq).trans rfl
    have q1 : W.cell? ⟨q, 1, none⟩ = some (.int .i64 x.2) := (K.cell_of hq).trans rfl
    have hle2 : w.heap.size ≤ w.heap.size := Nat.le_refl _
    have HPL : Hid (pre.length < l.length) := hlt
    clear hq hlt hseq
    gi_wp2_with (gi_at_builtin; refine wpListIn_append_own_at _ rfl _ _ TSps rfl w.heap.size TSp i0 _ 2 16 Tryz.underlying22 hi hz0 hz1 hz2 rfl (by decide) _ _ _ rfl (hrow.alloc _) ⟨W.heap.size, 0, none⟩ 1 1 [.int .i64 x.1, .int .i64 x.2] rfl rfl (World.news_of_block (heap_alloc_new W _)) (by simp [Value.oneCell']) (by have := HPL.out; unfold maxLen; omega) (by have := HPL.out; omega) (by have := hB.size; simp; omega) ?_; intro v' w1 hown' hgrow hnl hat; clear hnl hat; obtain ⟨g', cap', rfl⟩ := ownsRow_succ hown'; obtain ⟨hv1, hv2, hr2, hk2, hb2⟩ := hv.appended (by decide) hrow hB.size hle2 hown' hgrow; have hc1 := hv1.cell; have hf1 := hv1.frozen)
    refine ⟨hk2.from _, below_kpH hb2, ⟨⟨_, hv2, ?_, trivial⟩, hB.trans hb2⟩⟩
    rw [List.length_append, spcells_snoc]
    exact hr2
  case done =>
    rintro D ys W hD rfl ⟨⟨v, hv, hrow, _⟩, hB⟩ hK
    have hc := hv.cell
    gi_wp2
    refine ⟨by simp, .inl ⟨_, _, rfl, run_takeDeferred hK, ?_⟩⟩
    exact ⟨_, results_tmp rfl _ _ _, v, rfl, ownsRow_putObj hrow _ hK rfl, hB.trans (belowK_b (w := w) (Nat.le_refl _) W D _ _ (by omega) hK rfl rfl)⟩
  case stop =>
    rintro D c pre W _ _ h _
    exact h.elim
theorem collect_c {w : World} {bx cap : Nat} {ao : Option Addr} {l : List (Int × Int)} (hc : w.cell? ⟨bx, 0, none⟩ = some (.slice ao l.length cap)) (hr : SpR w ao l) (hl : l.length ≤ 1048576) :
    Calls Tryz.prog 131 #[.func (.func 133) #[] #[.pointer (some ⟨bx, 0, none⟩)]] w fun r w' => ∃ v, r = .returned v ∧ w'.ownsRow w.heap.size TSp 2 v l.length (spcells l) ∧ Below w.heap.size w w' := by
  have ha := appendSeq_c hc hr hl
  clear hc hr hl
  go_enter Tryz.func131, Tryz.ntmps131
  go_wp2_with (go_at_call 163; refine ha.mono ?_; rintro r w1 ⟨v, rfl, ho, hb⟩)
  go_ret
  exact ⟨v, rfl, ho, hb⟩
/-- what SortFunc makes of a list -/
theorem sortF_c {w : World} {B : Nat} {v : Value} {l : List (Int × Int)} (h : w.ownsRow B TSp 2 v l.length (spcells l)) (hl : l.length ≤ 1048576) :
    Calls Tryz.prog 132 #[v, .func (.func 106) #[] #[]] w fun r w' => r = .returned (.tuple #[]) ∧ ∃ l' : List (Int × Int), l'.Perm l ∧ SortedLo l' ∧ (∃ ao cap, v = .slice ao l.length cap ∧ SpR w' ao l') ∧ w.heap.size ≤ w'.heap.size ∧ w'.os = w.os ∧ w'.tape = w.tape ∧ w'.output = w.output ∧ ∀ i, i < w.heap.size → v.ownBlock ≠ some i → w'.heap[i]? = w.heap[i]? := by
  rcases h.2 with ⟨rfl, h0⟩ | ⟨g, cap, cur, rfl, hb, hg, _⟩
  · have hz : l = [] := List.length_eq_zero_iff.1 h0
    subst hz
    refine (AnyF.slices_SortFunc_none Tryz.sortS none 0 _ w).mono ?_
    rintro r w' ⟨rfl, rfl⟩
    exact ⟨rfl, [], List.Perm.refl _, fun i j p q hi => by simp at hi, ⟨none, 0, rfl, fun k p hk => by simp at hk⟩, Nat.le_refl _, rfl, rfl, rfl, fun _ _ _ => rfl⟩
  · refine (sortS_any h (by omega)).mono ?_
    rintro r w' ⟨rfl, l', hp, hs, hpr, h1, h2, h3, h4, h5⟩
    refine ⟨rfl, l', hp, hs, ⟨_, _, rfl, fun k p hk => ?_⟩, h1, h2, h3, h4, fun i hi hne => h5 i hi (fun e => hne (by rw [e]; rfl))⟩
    obtain ⟨e1, e2⟩ := hpr k p hk
    exact ⟨g, 0, rfl, Nat.lt_of_lt_of_le (Array.getElem?_eq_some_iff.1 hg).1 h1, e1, e2⟩
theorem sorted_c {w : World} {bx cap : Nat} {ao : Option Addr} {l : List (Int × Int)} (hc : w.cell? ⟨bx, 0, none⟩ = some (.slice ao l.length cap)) (hr : SpR w ao l) (hl : l.length ≤ 1048576) :
    Calls Tryz.prog 104 #[.func (.func 133) #[] #[.pointer (some ⟨bx, 0, none⟩)], .func (.func 106) #[] #[]] w fun r w' => ∃ ao' cap' l', r = .returned (.slice ao' l.length cap') ∧ l'.Perm l ∧ SortedLo l' ∧ SpR w' ao' l' ∧ Below w.heap.size w w' := by
  have ha := collect_c hc hr hl
  have HS : Hid (∀ w1 v, w1.ownsRow w.heap.size TSp 2 v l.length (spcells l) → Below w.heap.size w w1 → ∃ ao' cap', v = .slice ao' l.length cap' ∧ Calls Tryz.prog 132 #[.slice ao' l.length cap', .func (.func 106) #[] #[]] w1 fun r w' => r = .returned (.tuple #[]) ∧ ∃ l' : List (Int × Int), l'.Perm l ∧ SortedLo l' ∧ SpR w' ao' l' ∧ Below w.heap.size w w') := fun w1 v ho hb => by
    obtain ⟨ao', cap', rfl, _⟩ := sp_form ho
    refine ⟨ao', cap', rfl, (sortF_c ho hl).mono ?_⟩
    rintro r w' ⟨rfl, l', hp, hs, ⟨a, c, e, hsp⟩, h1, h2, h3, h4, h5⟩
    cases e
    refine ⟨rfl, l', hp, hs, hsp, ⟨h2.trans hb.os, h3.trans hb.tape, h4.trans hb.output, Nat.le_trans hb.size h1, fun i hi => (h5 i (Nat.lt_of_lt_of_le hi hb.size) (fun e => ?_)).trans (hb.block i hi)⟩⟩
    have := row_base ho e
    omega
  clear hc hr hl
  go_enter Tryz.func104, Tryz.ntmps104
  go_wp2_with (first | (go_at_call 131; refine ha.mono ?_; clear ha; rintro r w1 ⟨v, rfl, ho, hb⟩; obtain ⟨ao', cap', rfl, hsf⟩ := HS.out w1 v ho hb; clear ho hb HS) | (go_at_call 132; refine hsf.mono ?_; rintro r w2 ⟨rfl, l', hp, hs, hsp, hb2⟩))
  go_ret
  exact ⟨ao', cap', l', rfl, hp, hs, hsp, hb2⟩
end Go.Proofs.YtlacligofhinmaaGreat.C

namespace Go.Proofs.YtlacligofhinmaaGreat.C
open Go.RowKit Go.Maps Go.Shelf Go.Proofs.YtlacligofhinmaaGreat
attribute [local go_sem] Oper.semAt_some
set_option linter.unusedVariables false
set_option linter.unusedSimpArgs false
set_option maxRecDepth 100000

/-- two spans share no sector -/
def Off2 (p q : Int × Int) : Prop := p.1 + p.2 ≤ q.1 ∨ q.1 + q.2 ≤ p.1
/-- the spans lie on the disk, and apart -/
def Apart (n : Nat) (l : List (Int × Int)) : Prop := (∀ p ∈ l, 0 ≤ p.1 ∧ 1 ≤ p.2 ∧ p.1 + p.2 ≤ n) ∧ l.Pairwise Off2
theorem Apart.perm {n : Nat} {l l' : List (Int × Int)} (h : l'.Perm l) : Apart n l' ↔ Apart n l := by
  unfold Apart
  rw [h.pairwise_iff (fun {a b} hab => hab.symm)]
  exact and_congr_left' ⟨fun k p hp => k p (h.mem_iff.2 hp), fun k p hp => k p (h.mem_iff.1 hp)⟩
/-- the walk over the rising spans -/
def chk (n : Int) : List (Int × Int) → Int → Bool
  | [], _ => true
  | p :: l, e => if p.1 < e ∨ p.2 < 1 ∨ n - p.1 < p.2 then false else chk n l (p.1 + p.2)
theorem chk_cons (n : Int) (p : Int × Int) (l : List (Int × Int)) (e : Int) : chk n (p :: l) e = if p.1 < e ∨ p.2 < 1 ∨ n - p.1 < p.2 then false else chk n l (p.1 + p.2) := rfl
theorem chk_iff (n : Nat) : ∀ (l : List (Int × Int)) (e : Int), 0 ≤ e → l.Pairwise (fun p q => p.1 ≤ q.1) → (chk n l e = true ↔ (∀ p ∈ l, e ≤ p.1 ∧ 1 ≤ p.2 ∧ p.1 + p.2 ≤ n) ∧ l.Pairwise Off2)
  | [], e, _, _ => by simp [chk]
  | p :: l, e, he, hs => by
    unfold chk
    obtain ⟨h1, h2⟩ := List.pairwise_cons.1 hs
    by_cases hb : p.1 < e ∨ p.2 < 1 ∨ (n : Int) - p.1 < p.2
    · rw [if_pos hb]
      constructor
      · intro h; cases h
      · rintro ⟨h, _⟩
        have := h p (by simp)
        omega
    · rw [if_neg hb]
      have hp : e ≤ p.1 ∧ 1 ≤ p.2 ∧ p.1 + p.2 ≤ n := by omega
      rw [chk_iff n l (p.1 + p.2) (by omega) h2]
      constructor
      · rintro ⟨ha, hw⟩
        refine ⟨fun q hq => ?_, List.pairwise_cons.2 ⟨fun q hq => .inl (ha q hq).1, hw⟩⟩
        rcases List.mem_cons.1 hq with rfl | hq
        · exact hp
        · have := ha q hq; omega
      · rintro ⟨ha, hw⟩
        obtain ⟨w1, w2⟩ := List.pairwise_cons.1 hw
        refine ⟨fun q hq => ?_, w2⟩
        have := ha q (by simp [hq])
        have h3 := h1 q hq
        rcases w1 q hq with h4 | h4 <;> omega
theorem sortedLo_pw {l : List (Int × Int)} (h : SortedLo l) : l.Pairwise (fun p q => p.1 ≤ q.1) := by
  rw [List.pairwise_iff_getElem]
  intro i j hi hj hij
  exact h i j _ _ (List.getElem?_eq_getElem hi) (List.getElem?_eq_getElem hj) hij
/-- do they lie apart? -/
@[reducible] def off2D : DecidableRel Off2 := fun p q => inferInstanceAs (Decidable (p.1 + p.2 ≤ q.1 ∨ q.1 + q.2 ≤ p.1))
@[reducible] def apartD (n : Nat) (l : List (Int × Int)) : Decidable (Apart n l) := by
  unfold Apart
  haveI := off2D
  exact inferInstance
def apartB (n : Nat) (l : List (Int × Int)) : Bool := @decide (Apart n l) (apartD n l)
theorem apartB_iff {n : Nat} {l : List (Int × Int)} : apartB n l = true ↔ Apart n l := by unfold apartB; simp
theorem chk_sorted {n : Nat} {l l' : List (Int × Int)} (hp : l'.Perm l) (hs : SortedLo l') : chk n l' 0 = apartB n l := by
  have h1 := chk_iff n l' 0 (by omega) (sortedLo_pw hs)
  have h2 : chk n l' 0 = true ↔ apartB n l = true := by rw [h1, apartB_iff]; exact Apart.perm hp
  cases ha : chk n l' 0 <;> cases hb : apartB n l <;> simp_all
set_option maxHeartbeats 4000000 in
theorem lieApart_c {w : World} {cap n : Nat} {ao : Option Addr} {l : List (Int × Int)} (hr : SpR w ao l) (hl : l.length ≤ 1048576) (hn : n ≤ 65536) (hw : ∀ p ∈ l, I64 p.1 ∧ I64 p.2) :
    Calls Tryz.prog 57 #[.slice ao l.length cap, .int .i64 n] w fun r w' => r = .returned (.bool (apartB n l)) ∧ Below w.heap.size w w' := by
  have hv := values_c w ao l.length cap
  have HS : Hid (Calls Tryz.prog 104 #[.func (.func 133) #[] #[.pointer (some ⟨w.heap.size, 0, none⟩)], .func (.func 106) #[] #[]] (w.alloc (.cells #[.slice ao l.length cap] TSps)) fun r w' => ∃ ao' cap' l', r = .returned (.slice ao' l.length cap') ∧ l'.Perm l ∧ SortedLo l' ∧ SpR w' ao' l' ∧ Below w.heap.size w w') := by
    have hb : Below w.heap.size w (w.alloc (.cells #[.slice ao l.length cap] TSps)) := (Below.refl _ w).alloc (Nat.le_refl _) _
    refine (sorted_c (bx := w.heap.size) (cap := cap) (ao := ao) (l := l) (by simp) (hr.later hb) hl).mono ?_
    rintro r w' ⟨ao', cap', l', rfl, hp, hs, hsp, hb'⟩
    exact ⟨ao', cap', l', rfl, hp, hs, hsp, hb.trans (hb'.mono hb.size)⟩
  clear hr
  go_enter Tryz.func57, Tryz.ntmps57
  go_wp2_with (first | (go_at_call 105; refine hv.mono ?_; clear hv; rintro r w9 ⟨rfl, hw9⟩; rw [hw9]; clear hw9) | (go_at_call 104; refine HS.out.mono ?_; clear HS; rintro r w1 ⟨ao', cap', l', rfl, hp, hs, hsp, hb1⟩))
  have HC : Hid (chk n l' 0 = apartB n l) := chk_sorted hp hs
  have HSP : Hid (SpR w1 ao' l') := hsp
  have HB1 : Hid (Below w.heap.size w w1) := hb1
  obtain ⟨m, hm⟩ : ∃ m, m = l.length := ⟨_, rfl⟩
  have HM : Hid (m = l'.length) := by show _ = _; rw [hm, hp.length_eq]
  have HW : Hid (∀ p ∈ l', I64 p.1 ∧ I64 p.2) := fun p hp' => hw p (hp.mem_iff.1 hp')
  rw [← hm] at hl ⊢
  clear hp hs hsp hb1 hm hw
  go_loopw [6, 14] (fun e i wr => ∃ (k : Nat) (z : Int), k ≤ m ∧ i = .int .i64 k ∧ e = .int .i64 z ∧ 0 ≤ z ∧ z ≤ 65536 ∧ Hid (chk n l' 0 = chk n (l'.drop k) z) ∧ Hid (Below w1.heap.size w1 wr)) (fun _ i _ => m - (intOf i).toNat)
  case atStart => exact ⟨0, 0, Nat.zero_le _, rfl, rfl, by omega, by omega, rfl, Below.refl _ _⟩
  case round =>
    obtain ⟨k, z, hk, rfl, rfl, hz0, hz1, HK, HB⟩ := hrel
    by_cases hlt : k < m
    · have hkz : (k : Int) < (m : Int) := by omega
      obtain ⟨p, hp⟩ : ∃ p, l'[k]? = some p := ⟨_, List.getElem?_eq_getElem (by have := HM.out; omega)⟩
      obtain ⟨g, off, rfl, _, d0, d1⟩ := HSP.out k p hp
      have e0 := cell_later HB.out d0
      have e1 := cell_later HB.out d1
      have hdr : l'.drop k = p :: l'.drop (k + 1) := by
        have hk' : k < l'.length := by have := HM.out; omega
        rw [List.drop_eq_getElem_cons hk']
        congr 1
        rw [List.getElem?_eq_getElem hk'] at hp
        simpa using hp
      have hki := HK.out
      rw [hdr] at hki
      rw [chk_cons] at hki
      have hpw := HW.out p (List.mem_of_getElem? hp)
      obtain ⟨p1, p2⟩ := p
      simp only at e0 e1 hki hpw
      have HB2 : Hid (Below w1.heap.size w1 (wr.alloc (.cells #[.int .i64 p1, .int .i64 p2] TSp))) := HB.out.alloc HB.out.size _
      clear hp hdr d0 d1 HK
      have HKI : Hid (chk n l' 0 = if p1 < z ∨ p2 < 1 ∨ (n : Int) - p1 < p2 then false else chk n (l'.drop (k + 1)) (p1 + p2)) := hki
      clear hki
      by_cases h1 : p1 < z
      · have b1 : decide (p1 < z) = true := decide_eq_true h1
        have hfin : apartB n l = false := by rw [← HC.out, HKI.out, if_pos (.inl h1)]
        go_wp2
        go_ret
        exact ⟨by first | rfl | (rw [hfin]; rfl), HB1.out.trans (HB2.out.mono HB1.out.size)⟩
      · have b1 : decide (p1 < z) = false := decide_eq_false h1
        by_cases h2 : p2 < 1
        · have b2 : decide (p2 < 1) = true := decide_eq_true h2
          have hfin : apartB n l = false := by rw [← HC.out, HKI.out, if_pos (.inr (.inl h2))]
          go_wp2
          go_ret
          exact ⟨by first | rfl | (rw [hfin]; rfl), HB1.out.trans (HB2.out.mono HB1.out.size)⟩
        · have b2 : decide (p2 < 1) = false := decide_eq_false h2
          have hwr : IntKind.i64.wrap ((n : Int) - p1) = (n : Int) - p1 := by rw [IntKind.wrap_i64]; omega
          by_cases h3 : (n : Int) - p1 < p2
          · have b3 : decide (p2 > (n : Int) - p1) = true := decide_eq_true h3
            have hfin : apartB n l = false := by rw [← HC.out, HKI.out, if_pos (.inr (.inr h3))]
            go_wp2
            go_ret
            exact ⟨by first | rfl | (rw [hfin]; rfl), HB1.out.trans (HB2.out.mono HB1.out.size)⟩
          · have b3 : decide (p2 > (n : Int) - p1) = false := decide_eq_false h3
            have hw2 : IntKind.i64.wrap (p1 + p2) = p1 + p2 := by rw [IntKind.wrap_i64]; omega
            have HK2 : Hid (chk n l' 0 = chk n (l'.drop (k + 1)) (p1 + p2)) := by show _ = _; rw [HKI.out, if_neg (by omega)]
            clear HKI
            go_wp2
            go_roundw
            case rel => exact ⟨k + 1, p1 + p2, by omega, by go_num, by go_num, by omega, by omega, HK2, HB2⟩
            case measure => simp [intOf]; omega
    · have hkz : ¬ (k : Int) < (m : Int) := by omega
      have hfin : apartB n l = true := by
        rw [← HC.out, HK.out, List.drop_of_length_le (by have := HM.out; omega)]; rfl
      go_wp2
      go_ret
      exact ⟨by first | rfl | (rw [hfin]; rfl), HB1.out.trans (HB.out.mono HB1.out.size)⟩
/-- a copy of the spans -/
theorem cloneS_c {w : World} {cap : Nat} {ao : Option Addr} {l : List (Int × Int)} (hr : SpR w ao l) (hl : l.length ≤ 1048576) (hao : ao = none → l = []) (hau : ∀ a, ao = some a → ∃ b off, a = ⟨b, off, none⟩) :
    Calls Tryz.prog 58 #[.slice ao l.length cap] w fun r w' => ∃ v, r = .returned v ∧ w'.ownsRow w.heap.size TSp 2 v l.length (spcells l) ∧ Below w.heap.size w w' := by
  obtain ⟨i0, hi, hz0, hz1, hz2⟩ := info_parts infoSp
  cases ao with
  | none =>
    have hz := hao rfl
    subst hz
    refine (AnyE.slices_Clone_nil Tryz.cloneS _ cap w).mono ?_
    rintro r w' ⟨rfl, rfl⟩
    exact ⟨_, rfl, World.ownsRow_nil _ _ _ _, Below.refl _ _⟩
  | some a =>
    obtain ⟨b, off, rfl⟩ := hau a rfl
    have hlen : (spcells l).length = l.length * 2 := by
      clear hr hl hao hau
      induction l with
      | nil => rfl
      | cons p t ih => simp [spcells, spcell] at ih ⊢; omega
    have := AnyE.slices_Clone Tryz.cloneS i0 _ 2 16 hi hz0 hz1 hz2 rfl (by decide) Tryz.sizeOf68 b off l.length cap (spcells l) w hlen (by unfold maxLen; omega) (by omega) (fun j u hu => by
      have hj := (List.getElem?_eq_some_iff.1 hu).1
      obtain ⟨p, hp⟩ : ∃ p, l[j / 2]? = some p := ⟨_, List.getElem?_eq_getElem (by omega)⟩
      obtain ⟨g, off', e, _, c0, c1⟩ := hr (j / 2) p hp
      cases e
      obtain ⟨s0, s1⟩ := spcells_get l (j / 2) p hp
      rcases Nat.mod_two_eq_zero_or_one j with h0 | h0
      · have ej : j = j / 2 * 2 := by omega
        rw [ej] at hu ⊢
        rw [s0] at hu
        cases hu
        exact c0
      · have ej : j = j / 2 * 2 + 1 := by omega
        rw [ej] at hu ⊢
        rw [s1] at hu
        cases hu
        rw [← Nat.add_assoc]
        exact c1) (fun u hu => by
      simp only [spcells, List.mem_flatMap, spcell] at hu
      obtain ⟨p, _, hp⟩ := hu
      simp at hp
      rcases hp with rfl | rfl <;> rfl)
    change Calls Tryz.prog 58 _ _ _ at this
    refine this.mono ?_
    rintro r w' ⟨v, rfl, ho, _, hb⟩
    exact ⟨v, rfl, ho, hb⟩
end Go.Proofs.YtlacligofhinmaaGreat.C

namespace Go.Proofs.YtlacligofhinmaaGreat.C
open Go.RowKit Go.Maps Go.Shelf Go.Proofs.YtlacligofhinmaaGreat
attribute [local go_sem] Oper.semAt_some
set_option linter.unusedVariables false
set_option linter.unusedSimpArgs false
set_option maxRecDepth 100000

def cs0 : Cs := ⟨0, 0, 0, 0⟩
def newCh (most : Nat) (l : List (Int × Int)) : Ch := ⟨most, l, [], cs0⟩
/-- what a new cache leaves -/
structure Made (w w' : World) (b ms ml : Nat) (qv fv : Value) (S : K.Dk) (most : Nat) (l : List (Int × Int)) (P : Loc) : Prop where
  rc : RC w' P S (newCh most l)
  bd : P.bd = b ∧ P.ms = ms ∧ P.ml = ml ∧ P.qv = qv ∧ P.fv = fv
  kp : K.Kp w w' (K.fp b ms ml qv fv)
  new : ∀ i, i ∈ P.ofp ∨ i ∈ P.cfp [] → w.heap.size ≤ i
set_option maxHeartbeats 4000000 in
theorem new_c {w : World} {b ms ml : Nat} {qv fv : Value} {S : K.Dk} (h : K.RK w 0 b ms ml qv fv S) {most : Nat} (hm0 : 1 ≤ most) (hm1 : most ≤ 1024) {ao : Option Addr} {cap : Nat} {l : List (Int × Int)} (hr : SpR w ao l) (hl : l.length ≤ 64) (hw : ∀ p ∈ l, I64 p.1 ∧ I64 p.2) (ha : Apart S.n l) (hao : ao = none → l = []) (hau : ∀ a, ao = some a → ∃ b off, a = ⟨b, off, none⟩) (hfar : ∀ b' off, ao = some ⟨b', off, none⟩ → b' ∉ K.fp b ms ml qv fv) :
    Calls Tryz.prog 20 #[.pointer (some ⟨b, 0, none⟩), .int .i64 most, .slice ao l.length cap] w fun r w' => ∃ P, r = .returned (.tuple #[.pointer (some ⟨P.bc, 0, none⟩), .int .i64 0]) ∧ Made w w' b ms ml qv fv S most l P := by
  have hs := K.sectors_any h
  have hn0 := h.n0
  have hn1 := h.n1
  have hmk := fun (w : World) => run_makeMap (P := Tryz.prog) TLm w
  have hap : apartB S.n l = true := apartB_iff.2 ha
  -- the spans behind the question for the sectors
  have HSP : Hid (∀ w1, K.DAct w w1 0 b ms ml ms ml qv fv qv fv S → SpR w1 ao l) := fun w1 hd k p hk => by
    obtain ⟨g, off, e, hg, c0, c1⟩ := hr k p hk
    have hb := hd.kp.block g hg (hfar g off e)
    refine ⟨g, off, e, Nat.lt_of_lt_of_le hg hd.kp.size, ?_, ?_⟩
    · unfold World.cell? at c0 ⊢; rw [hb]; exact c0
    · unfold World.cell? at c1 ⊢; rw [hb]; exact c1
  have HL : Hid (∀ w1, K.DAct w w1 0 b ms ml ms ml qv fv qv fv S → Calls Tryz.prog 57 #[.slice ao l.length cap, .int .i64 S.n] w1 fun r w2 => r = .returned (.bool true) ∧ Below w1.heap.size w1 w2 ∧ Calls Tryz.prog 58 #[.slice ao l.length cap] w2 fun r w3 => ∃ ao' cap', r = .returned (.slice ao' l.length cap') ∧ w3.ownsRow w2.heap.size TSp 2 (.slice ao' l.length cap') l.length (spcells l) ∧ Below w2.heap.size w2 w3) := fun w1 hd => by
    have hsp := HSP.out w1 hd
    have h1 := lieApart_c (n := S.n) (cap := cap) hsp (by omega) hn1 hw
    rw [hap] at h1
    refine h1.mono ?_
    rintro r w2 ⟨rfl, hb⟩
    refine ⟨rfl, hb, (cloneS_c (cap := cap) (hsp.later hb) (by omega) hao hau).mono ?_⟩
    rintro r w3 ⟨v, rfl, ho, hb3⟩
    obtain ⟨ao', cap', rfl, _⟩ := sp_form ho
    exact ⟨ao', cap', rfl, ho, hb3⟩
  have HNW := fun w => I.new_any w
  have d1 : ¬ ((most : Int) < 1) := by omega
  have d2 : ¬ ((1024 : Int) < (most : Int)) := by omega
  have d3 : ¬ ((64 : Int) < (l.length : Int)) := by omega
  have d4 : ¬ ((S.n : Int) = 0) := by omega
  have d4' : ¬ (S.n = 0) := by omega
  have b1 : decide ((most : Int) < 1) = false := decide_eq_false d1
  have b2 : decide ((l.length : Int) > 64) = false := decide_eq_false d3
  have HLe : Hid (l.length ≤ 64) := hl
  have HH : Hid (K.RK w 0 b ms ml qv fv S) := h
  have HA : Hid (Apart S.n l) := ha
  clear hr hw ha hao hau hfar hap HSP h
  go_enter Tryz.func20, Tryz.ntmps20
  go_wp2_with (first | (go_at_call 56; refine hs.mono ?_; clear hs; rintro r w1 ⟨rfl, hd1⟩; have hlp := HL.out w1 hd1; clear HL) | (go_at_call 57; refine hlp.mono ?_; clear hlp; rintro r w2 ⟨rfl, hb2, hcl⟩) | (go_at_call 58; refine hcl.mono ?_; clear hcl; rintro r w3 ⟨ao', cap', rfl, ho3, hb3⟩) | (go_at_call 59; refine (HNW _).mono ?_; clear HNW; rintro r w5 ⟨bo, bm, g, rfl, hro, hb5, hfp⟩))
  refine bodyPost_ret (results_tmp2 rfl _ _ _) rfl ?_
  have s1 := hd1.kp.size
  have s2 := hb2.size
  have s3 := hb3.size
  have s4 : (w3.alloc (.map #[] 0)).heap.size = w3.heap.size + 1 := World.size_alloc _ _
  rw [s4] at hfp
  have s5 := hb5.size
  rw [s4] at s5
  have hb34 : Below w3.heap.size w3 (w3.alloc (.map #[] 0)) := (Below.refl _ w3).alloc (Nat.le_refl _) _
  have hb35 : Below w3.heap.size w3 w5 := hb34.trans (hb5.mono (by rw [s4]; omega))
  obtain ⟨w6, hw6⟩ : ∃ w6, w6 = w5.alloc (.cells #[.pointer (some ⟨b, 0, none⟩), .int .i64 most, .slice ao' l.length cap', .map (some w3.heap.size), .pointer (some ⟨bo, 0, none⟩), .int .u64 0, .int .u64 0, .int .u64 0, .int .u64 0] TCa) := ⟨_, rfl⟩
  have hb56 : Below w5.heap.size w5 w6 := by rw [hw6]; exact (Below.refl _ w5).alloc (Nat.le_refl _) _
  have hb36 : Below w3.heap.size w3 w6 := hb35.trans (hb56.mono (by omega))
  have hb46 : Below (w3.heap.size + 1) (w3.alloc (.map #[] 0)) w6 := (by rw [s4] at hb5; exact hb5 : Below (w3.heap.size + 1) (w3.alloc (.map #[] 0)) w5).trans (hb56.mono s5)
  have hb16 : Below w1.heap.size w1 w6 := (hb2.trans (hb3.mono s2)).trans (hb36.mono (by omega))
  have hrk6 := hd1.rk.later hb16
  have hdl := HH.out.lt
  have hol := hro.lt
  have hnb : ∀ i, (Value.slice ao' l.length cap').ownBlock = some i → w2.heap.size ≤ i ∧ i < w3.heap.size := fun i e => ⟨row_base ho3 e, (K.row_lt ho3 i e).1⟩
  have hmap : w6.ownsMap Tryz.prog TIn I.ptrE w3.heap.size 0 (.map []) := K.ownsMap_block (World.ownsMap_made w3 Tryz.prog TIn I.ptrE) (hb46.block _ (by omega))
  refine ⟨⟨w5.heap.size, b, ms, ml, qv, fv, .slice ao' l.length cap', (Value.slice ao' l.length cap').ownBlock, w3.heap.size, bo, bm, g, []⟩, rfl, ?_⟩
  show Made w (w5.alloc _) b ms ml qv fv S most l _
  rw [← hw6]
  have hcf : ∀ i ∈ Loc.cfp ⟨w5.heap.size, b, ms, ml, qv, fv, .slice ao' l.length cap', (Value.slice ao' l.length cap').ownBlock, w3.heap.size, bo, bm, g, []⟩ [], i = w5.heap.size ∨ i = w3.heap.size ∨ (w2.heap.size ≤ i ∧ i < w3.heap.size) := fun i hi => by
    simp only [Loc.cfp, List.map_nil, List.append_nil, List.mem_cons, Option.mem_toList] at hi
    rcases hi with hi | hi | hi
    · exact .inl hi
    · exact .inr (.inl hi)
    · exact .inr (.inr (hnb i hi))
  refine ⟨⟨?_, hrk6, hro.later hb56, rfl, .inr ⟨rfl, K.ownsRow_block (owns_mono ho3 (Nat.zero_le _)) (fun i hi => hb36.block i (hnb i hi).2)⟩, ⟨.map [], hmap, ⟨by simp [newCh], by simp [newCh], fun k _ => rfl, rfl⟩⟩, (fun l hl => by cases hl), List.nodup_nil, (fun l hl => by cases hl), ⟨Nat.zero_le _, hm0, hm1⟩, HLe.out, HA.out.1, ?_, ?_, ?_⟩, ⟨rfl, rfl, rfl, rfl, rfl⟩, ?_, ?_⟩
  · show w6.heap[w5.heap.size]? = _
    rw [hw6]; exact heap_alloc_new w5 _
  · intro i hi ho
    have h1 := hdl i hi
    have h2 := hfp i ho
    omega
  · intro i hi hc
    have h1 := hdl i hi
    rcases hcf i hc with h2 | h2 | h2 <;> omega
  · intro i ho hc
    have h1 := hfp i ho
    have h3 := hol i ho
    rcases hcf i hc with h2 | h2 | h2 <;> omega
  · exact hd1.kp.trans (K.Kp.of_below hb16 _) (fun i hi => .inl hi)
  · rintro i (hi | hi)
    · have h1 := hfp i hi; omega
    · rcases hcf i hi with h2 | h2 | h2 <;> omega
end Go.Proofs.YtlacligofhinmaaGreat.C

namespace Go.Proofs.YtlacligofhinmaaGreat.C
open Go.RowKit Go.Maps Go.Shelf Go.Proofs.YtlacligofhinmaaGreat
set_option linter.unusedVariables false
set_option linter.unusedSimpArgs false
set_option maxRecDepth 100000

/-- a cache of one's own -/
structure Hc (w0 w : World) (P : Loc) (S : K.Dk) (C : Ch) : Prop where
  rc : RC w P S C
  bel : Below w0.heap.size w0 w
  new : ∀ i ∈ P.fp C.L, w0.heap.size ≤ i
section
variable {w0 w w' : World} {P P' : Loc} {S S' : K.Dk} {C C' : Ch}
theorem Hc.step (h : Hc w0 w P S C) (ha : CAct w w' P P' C S' C') : Hc w0 w' P' S' C' :=
  ⟨ha.rc, h.bel.trans (ha.kp.below h.new h.bel.size), fun i hi => (ha.sub i hi).elim (h.new i) (fun hh => Nat.le_trans h.bel.size hh)⟩
theorem Hc.later (h : Hc w0 w P S C) (hb : Below w.heap.size w w') : Hc w0 w' P S C := ⟨h.rc.later hb, h.bel.trans (hb.mono h.bel.size), h.new⟩
end
/-- a disk without faults -/
theorem nf_fail {S : K.Dk} (h : S.fs = []) (k s : Int) : K.failS S k s = S ∧ K.hitF S.fs k s = false := by
  obtain ⟨n, safe, q, fs, st⟩ := S
  simp only at h
  subst h
  exact ⟨rfl, rfl⟩
theorem nf_wr {S : K.Dk} (h : S.fs = []) {s : Nat} (hs : s < S.n) {l : K.Bl} (hl : l.length = 512) : K.wrE S s l = 0 ∧ K.wrS S s l = K.wrote S s l := by
  obtain ⟨h1, h2⟩ := nf_fail h 2 s
  have hi : K.inD S.n s = true := by unfold K.inD; simp; omega
  unfold K.wrE K.wrS
  rw [if_pos hi, if_pos hi, if_pos hl, if_pos hl, h2, h1]
  simp
theorem nf_ba {S : K.Dk} (h : S.fs = []) : K.baE S = 0 ∧ K.baS S = K.barred S := by
  obtain ⟨h1, h2⟩ := nf_fail h 3 (-1)
  unfold K.baE K.baS
  rw [h2, h1]
  simp
theorem nf_rd {S : K.Dk} (h : S.fs = []) {s : Nat} (hs : s < S.n) : K.rdE S s = 0 ∧ K.rdL S s = K.look S s ∧ K.rdS S s = K.readS S := by
  obtain ⟨h1, h2⟩ := nf_fail h 1 s
  have hi : K.inD S.n s = true := by unfold K.inD; simp; omega
  unfold K.rdE K.rdL K.rdS
  rw [if_pos hi, if_pos hi, if_pos hi, h2, h1]
  simp
theorem in_nat {n s : Nat} (h : s < n) : K.inD n s = true := by unfold K.inD; simp; omega
/-- a write of a sector that has no line, where there is room -/
theorem write_room {S : K.Dk} {C : Ch} {s : Nat} {bs : K.Bl} (b : Nat) (hs : s < S.n) (hl : bs.length = 512) (hn : lineAt C.L s = none) (hr : C.L.length < C.most) :
    writeR S C s bs b = (0, S, { missC C with L := C.L ++ [⟨s, b, bs, true, isN C.notes s⟩] }) := by
  unfold writeR roomR
  have e : (missC C).L = C.L := rfl
  have e2 : (missC C).most = C.most := rfl
  rw [if_pos (in_nat hs), if_pos hl, hn]
  simp only [e, e2]
  rw [if_pos hr]
  simp [missC]
/-- a write of a sector that has no line, where a dirty line gives way -/
theorem write_full {S : K.Dk} {C : Ch} {s : Nat} {bs : K.Bl} (b : Nat) (hf : S.fs = []) (hs : s < S.n) (hl : bs.length = 512) (hn : lineAt C.L s = none) (hr : ¬ C.L.length < C.most) {l : Ln} (hfd : C.L.find? mayGo = some l) (hd : l.dirty = true) (hls : l.sec < S.n) (hll : l.dat.length = 512) :
    ∃ st, writeR S C s bs b = (0, K.wrote S l.sec l.dat, { most := C.most, notes := C.notes, L := dropL C.L l.sec ++ [⟨s, b, bs, true, isN C.notes s⟩], st := st }) := by
  obtain ⟨e1, e2⟩ := nf_wr hf hls hll
  have e : (missC C).L = C.L := rfl
  have e' : (missC C).most = C.most := rfl
  have hrm : roomR S (missC C) = (0, K.wrote S l.sec l.dat, { missC C with L := dropL C.L l.sec, st := { (missC C).st with written := K.inc (missC C).st.written, evicted := K.inc (missC C).st.evicted } }) := by
    unfold roomR
    simp only [e, e']
    rw [if_neg hr, hfd]
    simp only
    unfold gwR
    rw [if_pos hd, if_pos e1, e2]
    rfl
  refine ⟨{ (missC C).st with written := K.inc (missC C).st.written, evicted := K.inc (missC C).st.evicted }, ?_⟩
  unfold writeR
  rw [if_pos (in_nat hs), if_pos hl, hn]
  simp only [hrm, if_true]
  simp [missC]
/-- a read of a sector that has no line, where a clean line gives way -/
theorem read_full {S : K.Dk} {C : Ch} {s : Nat} (b : Nat) (hf : S.fs = []) (hs : s < S.n) (hn : lineAt C.L s = none) (hr : ¬ C.L.length < C.most) {l : Ln} (hfd : C.L.find? mayGo = some l) (hd : l.dirty = false) :
    (readR S C s b).1 = 0 ∧ (readR S C s b).2.1 = K.look S s ∧ (readR S C s b).2.2.1 = K.readS S := by
  obtain ⟨e1, e2, e3⟩ := nf_rd hf hs
  have e : (missC C).L = C.L := rfl
  have e' : (missC C).most = C.most := rfl
  have hrm : roomR S (missC C) = (0, S, { missC C with L := dropL C.L l.sec, st := { (missC C).st with evicted := K.inc (missC C).st.evicted } }) := by
    unfold roomR
    simp only [e, e']
    rw [if_neg hr, hfd]
    simp only
    unfold gwR
    rw [if_neg (by simp [hd])]
    rfl
  unfold readR
  rw [if_pos (in_nat hs), hn]
  simp only [hrm, if_true, e1, e2, e3]
  exact ⟨trivial, trivial, trivial⟩
/-- one line is written back and made safe -/
theorem settle_one {S : K.Dk} {C : Ch} {l : Ln} (hf : S.fs = []) (hl : lineAt C.L l.sec = some l) (hls : l.sec < S.n) (hll : l.dat.length = 512) :
    settleR [(l.sec : Int)] S C = (0, K.barred (K.wrote S l.sec l.dat), { C with L := cleanL C.L l.sec, st := { C.st with written := K.inc C.st.written } }) := by
  obtain ⟨e1, e2⟩ := nf_wr hf hls hll
  have hb : backs [(l.sec : Int)] S C = (0, K.wrote S l.sec l.dat, { C with L := cleanL C.L l.sec, st := { C.st with written := K.inc C.st.written } }) := by
    rw [backs_cons]
    unfold wbE wbS wbC
    rw [hl]
    simp only [e1, e2, if_true]
    rfl
  obtain ⟨e3, e4⟩ := nf_ba (S := K.wrote S l.sec l.dat) hf
  unfold settleR
  rw [hb]
  simp only [if_true, e3, e4]
theorem sortI_one (x : Int) : sortI [x] = [x] := by simp [sortI]
theorem barred_one {S : K.Dk} {p : Nat × K.Bl} (h : S.q = [p]) : (K.barred S).safe = K.upd S.safe p.1 p.2 ∧ (K.barred S).q = [] ∧ (K.barred S).n = S.n ∧ (K.barred S).fs = S.fs := by
  refine ⟨?_, rfl, rfl, rfl⟩
  simp [K.barred, K.settled, h, K.layTo]
theorem barred_two {S : K.Dk} {p p' : Nat × K.Bl} (h : S.q = [p, p']) : (K.barred S).safe = K.upd (K.upd S.safe p.1 p.2) p'.1 p'.2 ∧ (K.barred S).q = [] ∧ (K.barred S).n = S.n ∧ (K.barred S).fs = S.fs := by
  refine ⟨?_, rfl, rfl, rfl⟩
  simp [K.barred, K.settled, h, K.layTo]
/-- the chapter's heads: two lines, a note and data -/
def hL (b1 b3 : Nat) (B1 B3 : K.Bl) (d : Bool) : List Ln := [⟨0, b1, B1, d, true⟩, ⟨4, b3, B3, d, false⟩]
theorem heads_flush {S : K.Dk} {C : Ch} {b1 b3 : Nat} {B1 B2 B3 : K.Bl} (hf : S.fs = []) (hn : S.n = 8) (hq : S.q = [(3, B2)]) (hsf : S.safe = fun _ => K.z512) (hC : C.L = hL b1 b3 B1 B3 true) (l1 : B1.length = 512) (l3 : B3.length = 512) :
    ∃ S' C', flushR S C = (0, S', C') ∧ S'.fs = [] ∧ S'.n = 8 ∧ S'.q = [] ∧ S'.safe 0 = B1 ∧ S'.safe 3 = B2 ∧ S'.safe 4 = B3 ∧ C'.L = hL b1 b3 B1 B3 false ∧ C'.most = C.most ∧ C'.notes = C.notes := by
  have d1 : dlL isData C.L = [((4 : Nat) : Int)] := by
    unfold dlL
    rw [hC]
    simp [hL, isData, sortI_one]
  have s1 := settle_one (S := S) (C := C) (l := ⟨4, b3, B3, true, false⟩) hf (by rw [hC]; simp [hL, lineAt]) (by rw [hn]; show 4 < 8; omega) l3
  have eC : cleanL C.L ((4 : Nat) : Int) = [⟨0, b1, B1, true, true⟩, ⟨4, b3, B3, false, false⟩] := by rw [hC]; simp [cleanL, hL, cleaned]
  have hq2 : (K.wrote S 4 B3).q = [(3, B2), (4, B3)] := by simp [K.wrote, hq]
  obtain ⟨t1, t2, t3, t4⟩ := barred_two hq2
  obtain ⟨S2, hS2⟩ : ∃ S2, S2 = K.barred (K.wrote S 4 B3) := ⟨_, rfl⟩
  obtain ⟨C2, hC2⟩ : ∃ C2 : Ch, C2 = { C with L := cleanL C.L ((4 : Nat) : Int), st := { C.st with written := K.inc C.st.written } } := ⟨_, rfl⟩
  have eC2 : C2.L = [⟨0, b1, B1, true, true⟩, ⟨4, b3, B3, false, false⟩] := by rw [hC2]; exact eC
  have d2 : dlL isNoted C2.L = [((0 : Nat) : Int)] := by
    unfold dlL
    rw [eC2]
    simp [isNoted, sortI_one]
  have fs2 : S2.fs = [] := by rw [hS2, t4]; exact hf
  have n2 : S2.n = 8 := by rw [hS2, t3]; exact hn
  have s2 := settle_one (S := S2) (C := C2) (l := ⟨0, b1, B1, true, true⟩) fs2 (by rw [eC2]; simp [lineAt]) (by rw [n2]; show 0 < 8; omega) l1
  have eC3 : cleanL C2.L ((0 : Nat) : Int) = hL b1 b3 B1 B3 false := by rw [eC2]; simp [cleanL, hL, cleaned]
  have hq3 : (K.wrote S2 0 B1).q = [(0, B1)] := by
    have : S2.q = [] := by rw [hS2]; exact t2
    simp [K.wrote, this]
  obtain ⟨u1, u2, u3, u4⟩ := barred_one hq3
  refine ⟨K.barred (K.wrote S2 0 B1), { C2 with L := cleanL C2.L ((0 : Nat) : Int), st := { C2.st with written := K.inc C2.st.written } }, ?_, ?_, ?_, u2, ?_, ?_, ?_, eC3, by rw [hC2], by rw [hC2]⟩
  · unfold flushR
    simp only at s1 s2
    rw [d1, s1]
    simp only [if_true]
    rw [← hC2, ← hS2, show cleanL C.L ((4 : Nat) : Int) = C2.L by rw [hC2], d2, s2]
    simp
  · rw [u4]; exact fs2
  · rw [u3]; exact n2
  all_goals
    rw [u1]
    have e2 : (K.wrote S2 0 B1).safe = S2.safe := rfl
    have e3 : (K.wrote S 4 B3).safe = S.safe := rfl
    rw [e2, hS2, t1, e3, hsf]
    simp [K.upd]
end Go.Proofs.YtlacligofhinmaaGreat.C

namespace Go.Proofs.YtlacligofhinmaaGreat.C
open Go.RowKit Go.Maps Go.Shelf Go.Proofs.YtlacligofhinmaaGreat
attribute [local go_sem] Oper.semAt_some
set_option linter.unusedVariables false
set_option linter.unusedSimpArgs false
set_option maxRecDepth 100000

theorem fs_nil : K.FsOk [] := ⟨(fun f hf => by cases hf), (by decide)⟩
abbrev BL (fill : Nat) : K.Bl := K.bytesL fill 512
theorem bytes_c {w : World} {P : Loc} {S : K.Dk} {C : Ch} (h : RC w P S C) (fill : Nat) (hf : fill < 256) :
    Calls Tryz.prog 22 #[.int .u8 fill, .int .i64 0] w fun r w1 => ∃ g cap, r = .returned (.slice (some ⟨g, 0, none⟩) 512 cap) ∧ Below w.heap.size w w1 ∧ Src w1 (P.fp C.L) (some ⟨g, 0, none⟩) (BL fill) ∧ BRow w1 (some ⟨g, 0, none⟩) cap (BL fill) := by
  have hby := K.bytes_any w fill 0 hf
  rw [show K.blen 0 = 512 from rfl] at hby
  refine hby.mono ?_
  rintro r w1 ⟨v, rfl, ho, hb⟩
  obtain ⟨a, c, rfl, hbr⟩ := K.own_brow ho (K.bytesL_len _ _) (K.bytesL_lt _ _) (by decide)
  obtain ⟨g, c', cur, e, hg, hk, hcc⟩ := K.own_form ho (by decide)
  cases e
  refine ⟨g, c, rfl, hb, ⟨g, 0, rfl, (h.later hb).farB ho g rfl, (Array.getElem?_eq_some_iff.1 hk).1, fun j v hv => ?_⟩, hbr⟩
  have c1 := ho.cells (g := g) rfl j v hv
  rw [add_plain] at c1
  exact c1
theorem eq_cp (w : World) (a : Addr) : (binOp .eql 33 (.pointer (some a)) (.pointer none)).run Tryz.prog w = .ok (.bool false) w := by rfl
set_option maxHeartbeats 16000000 in
theorem heads_c (w : World) : Calls Tryz.prog 10 #[] w fun r w' => r = .returned (.bool true) ∧ Below w.heap.size w w' := by
  have hnew := K.new_any w 8 (by decide) (by decide)
  have e1 := eq_cp
  go_enter Tryz.func10, Tryz.ntmps10
  go_wp2_with fail
  refine hnew.mono ?_
  clear hnew
  rintro e w1 ⟨b, rfl, ms, ml, hrk, hb1, hf1⟩
  have HN : Hid (Calls Tryz.prog 20 #[.pointer (some ⟨b, 0, none⟩), .int .i64 2, .slice (some ⟨w1.heap.size, 0, none⟩) 1 1] (w1.alloc (.cells #[.int .i64 0, .int .i64 1] TSp)) fun r w3 => ∃ P, r = .returned (.tuple #[.pointer (some ⟨P.bc, 0, none⟩), .int .i64 0]) ∧ P.bd = b ∧ Hc w w3 P (K.newDk 8) (newCh 2 [(0, 1)])) := by
    have hb2 : Below w1.heap.size w1 (w1.alloc (.cells #[.int .i64 0, .int .i64 1] TSp)) := (Below.refl _ w1).alloc (Nat.le_refl _) _
    have hblk : (w1.alloc (.cells #[.int .i64 0, .int .i64 1] TSp)).heap[w1.heap.size]? = some (.cells #[.int .i64 0, .int .i64 1] TSp (0, 0)) := heap_alloc_new w1 _
    have hlt := hrk.lt
    refine (new_c (hrk.later hb2) (most := 2) (by decide) (by decide) (ao := some ⟨w1.heap.size, 0, none⟩) (cap := 1) (l := [(0, 1)]) ?_ (by decide) (by decide) ?_ (by simp) (fun a e => by cases e; exact ⟨_, _, rfl⟩) (fun b' off e hm => by cases e; have := hlt _ hm; omega)).mono ?_
    · intro k p hk
      have hk0 : k = 0 := by have := (List.getElem?_eq_some_iff.1 hk).1; simp at this; exact this
      subst hk0
      simp at hk
      subst hk
      exact ⟨w1.heap.size, 0, rfl, by simp, (K.cell_of hblk).trans rfl, (K.cell_of hblk).trans rfl⟩
    · exact ⟨fun p hp => by simp at hp; subst hp; exact ⟨by decide, by decide, by show (0 : Int) + 1 ≤ ((8 : Nat) : Int); decide⟩, List.pairwise_singleton _ _⟩
    · rintro r w3 ⟨P, rfl, hM⟩
      obtain ⟨d1, d2, d3, d4, d5⟩ := hM.bd
      have s2 := hb2.size
      have hb02 : Below w.heap.size w (w1.alloc (.cells #[.int .i64 0, .int .i64 1] TSp)) := hb1.trans (hb2.mono hb1.size)
      refine ⟨P, rfl, d1, hM.rc, hb02.trans (hM.kp.below hf1 hb02.size), fun i hi => ?_⟩
      simp only [Loc.fp, List.mem_append] at hi
      rcases hi with hi | hi | hi
      · rw [Loc.dfp, d1, d2, d3, d4, d5] at hi
        exact hf1 i hi
      · exact Nat.le_trans hb02.size (hM.new i (.inl hi))
      · exact Nat.le_trans hb02.size (hM.new i (.inr hi))
  clear hrk hb1 hf1
  go_wp2_with fail
  refine HN.out.mono ?_
  clear HN
  rintro e w2 ⟨P, rfl, hbd, hc⟩
  subst hbd
  have H2 : Hid (Hc w w2 P (K.newDk 8) (newCh 2 [(0, 1)])) := hc
  clear hc
  have hby := bytes_c H2.out.rc 1 (by decide)
  go_wp2_with fail
  refine Calls.mono hby ?_
  clear hby
  rintro e w3 ⟨g3, c3, rfl, hb3, hs3, _⟩
  have HW3 : Hid (Calls Tryz.prog 21 #[.pointer (some ⟨P.bc, 0, none⟩), .int .i64 0, .slice (some ⟨g3, 0, none⟩) 512 c3] w3 fun r w' => r = .returned (.int .i64 0) ∧ ∃ P' b1 C1, P'.bc = P.bc ∧ P'.bd = P.bd ∧ Hc w w' P' (K.newDk 8) C1 ∧ C1.most = 2 ∧ C1.notes = [(0, 1)] ∧ C1.L = [⟨0, b1, BL 1, true, true⟩]) := by
    have h3 := H2.out.later hb3
    refine (write_c h3.rc fs_nil (by decide) 0 (K.bytesL_lt 1 512) (K.bytesL_len 1 512).symm (by decide) (fun _ => hs3)).mono ?_
    rintro r w' ⟨b1, rfl, P', ha⟩
    have hw := write_room (S := K.newDk 8) (C := newCh 2 [(0, 1)]) (s := 0) (bs := BL 1) b1 (by decide) (K.bytesL_len 1 512) rfl (by decide)
    have hw' : writeR (K.newDk 8) (newCh 2 [(0, 1)]) 0 (BL 1) b1 = _ := hw
    rw [hw'] at ha ⊢
    exact ⟨rfl, P', b1, _, ha.bc, ha.bd, h3.step ha, rfl, rfl, rfl⟩
  clear hb3 hs3 H2
  go_wp2_with fail
  refine Calls.mono HW3.out ?_
  clear HW3
  rintro e w4 ⟨rfl, P4, b1, C4, hbc, hbd, hc, m4, n4, L4⟩
  have H4 : Hid (Hc w w4 P4 (K.newDk 8) C4) := hc
  rw [← hbc, ← hbd]
  clear hc hbc hbd
  have hby := bytes_c H4.out.rc 2 (by decide)
  go_wp2_with fail
  refine Calls.mono hby ?_
  clear hby
  rintro e w5 ⟨g5, c5, rfl, hb5, hs5, _⟩
  have HW5 : Hid (Calls Tryz.prog 21 #[.pointer (some ⟨P4.bc, 0, none⟩), .int .i64 3, .slice (some ⟨g5, 0, none⟩) 512 c5] w5 fun r w' => r = .returned (.int .i64 0) ∧ ∃ P' b2 C1, P'.bc = P4.bc ∧ P'.bd = P4.bd ∧ Hc w w' P' (K.newDk 8) C1 ∧ C1.most = 2 ∧ C1.notes = [(0, 1)] ∧ C1.L = [⟨0, b1, BL 1, true, true⟩, ⟨3, b2, BL 2, true, false⟩]) := by
    have h5 := H4.out.later hb5
    refine (write_c h5.rc fs_nil (by rw [L4]; simp [K.newDk, dirtyN]) 3 (K.bytesL_lt 2 512) (K.bytesL_len 2 512).symm (by decide) (fun _ => hs5)).mono ?_
    rintro r w' ⟨b2, rfl, P', ha⟩
    have hw' : writeR (K.newDk 8) C4 3 (BL 2) b2 = _ := write_room (S := K.newDk 8) (C := C4) (s := 3) (bs := BL 2) b2 (by decide) (K.bytesL_len 2 512) (by rw [L4]; simp [lineAt]) (by rw [L4, m4]; simp)
    rw [hw'] at ha ⊢
    refine ⟨rfl, P', b2, _, ha.bc, ha.bd, h5.step ha, m4, n4, ?_⟩
    simp only [missC, L4, n4]
    rfl
  clear hb5 hs5 H4 m4 n4 L4
  go_wp2_with fail
  refine Calls.mono HW5.out ?_
  clear HW5
  rintro e w6 ⟨rfl, P6, b2, C6, hbc, hbd, hc, m6, n6, L6⟩
  have H6 : Hid (Hc w w6 P6 (K.newDk 8) C6) := hc
  rw [← hbc, ← hbd]
  clear hc hbc hbd
  have hby := bytes_c H6.out.rc 3 (by decide)
  go_wp2_with fail
  refine Calls.mono hby ?_
  clear hby
  rintro e w7 ⟨g7, c7, rfl, hb7, hs7, _⟩
  have HW7 : Hid (Calls Tryz.prog 21 #[.pointer (some ⟨P6.bc, 0, none⟩), .int .i64 4, .slice (some ⟨g7, 0, none⟩) 512 c7] w7 fun r w' => r = .returned (.int .i64 0) ∧ ∃ P' b3 C1, P'.bc = P6.bc ∧ P'.bd = P6.bd ∧ Hc w w' P' (K.wrote (K.newDk 8) 3 (BL 2)) C1 ∧ C1.most = 2 ∧ C1.notes = [(0, 1)] ∧ C1.L = hL b1 b3 (BL 1) (BL 3) true) := by
    have h7 := H6.out.later hb7
    refine (write_c h7.rc fs_nil (by rw [L6]; simp [K.newDk, dirtyN]) 4 (K.bytesL_lt 3 512) (K.bytesL_len 3 512).symm (by decide) (fun _ => hs7)).mono ?_
    rintro r w' ⟨b3, rfl, P', ha⟩
    obtain ⟨st, hw⟩ := write_full (S := K.newDk 8) (C := C6) (s := 4) (bs := BL 3) b3 rfl (by decide) (K.bytesL_len 3 512) (by rw [L6]; simp [lineAt]) (by rw [L6, m6]; simp) (l := ⟨3, b2, BL 2, true, false⟩) (by rw [L6]; simp [mayGo]) rfl (by show 3 < 8; omega) (K.bytesL_len 2 512)
    have hw' : writeR (K.newDk 8) C6 4 (BL 3) b3 = _ := hw
    rw [hw'] at ha ⊢
    refine ⟨rfl, P', b3, _, ha.bc, ha.bd, h7.step ha, m6, n6, ?_⟩
    simp only [L6, n6]
    rfl
  clear hb7 hs7 H6 m6 n6 L6
  go_wp2_with fail
  refine Calls.mono HW7.out ?_
  clear HW7
  rintro e w8 ⟨rfl, P8, b3, C8, hbc, hbd, hc, m8, n8, L8⟩
  have H8 : Hid (Hc w w8 P8 (K.wrote (K.newDk 8) 3 (BL 2)) C8) := hc
  rw [← hbc, ← hbd]
  clear hc hbc hbd
  have HQ : Hid (Calls Tryz.prog 23 #[.pointer (some ⟨P8.bd, 0, none⟩)] w8 fun r w' => ∃ g c, r = .returned (.slice (some ⟨g, 0, none⟩) 1 c) ∧ w'.cell? ⟨g, 0, none⟩ = some (.int .i64 3) ∧ Hc w w' P8 (K.wrote (K.newDk 8) 3 (BL 2)) C8) := by
    refine (K.queue_any H8.out.rc.rk (by decide)).mono ?_
    rintro r w' ⟨v, ps, rfl, ht, hps, hda⟩
    have hq : (K.wrote (K.newDk 8) 3 (BL 2)).q = [(3, BL 2)] := rfl
    rw [hq] at hps
    obtain ⟨p, rfl⟩ : ∃ p, ps = [p] := List.length_eq_one_iff.1 (by have := congrArg List.length hps; simpa using this)
    have hp : p.1 = 3 := by simp [K.bare] at hps; exact hps.1
    have hrow := ht.row
    obtain ⟨g, c, rfl, _, _⟩ := hrow.form (by simp)
    refine ⟨g, c, rfl, ?_, H8.out.step (H8.out.rc.dsame hda)⟩
    have c1 := hrow.cells (g := g) rfl 0 (.int .i64 p.1) (by simp [K.qcells, K.qcell])
    rw [add_plain, hp] at c1
    exact c1
  go_wp2_with fail
  refine Calls.mono HQ.out ?_
  clear HQ H8
  rintro e w9 ⟨gq, cq, rfl, kq, hc⟩
  have H9 : Hid (Hc w w9 P8 (K.wrote (K.newDk 8) 3 (BL 2)) C8) := hc
  clear hc
  obtain ⟨S9, C9, hfl, sf, sn, sq, s0, s3, s4, L9, m9, n9⟩ := heads_flush (S := K.wrote (K.newDk 8) 3 (BL 2)) (C := C8) (b1 := b1) (b3 := b3) (B1 := BL 1) (B2 := BL 2) (B3 := BL 3) rfl rfl rfl rfl L8 (K.bytesL_len 1 512) (K.bytesL_len 3 512)
  have HF : Hid (Calls Tryz.prog 24 #[.pointer (some ⟨P8.bc, 0, none⟩)] w9 fun r w' => r = .returned (.int .i64 0) ∧ ∃ P', P'.bc = P8.bc ∧ P'.bd = P8.bd ∧ Hc w w' P' S9 C9) := by
    have hfc := flush_c H9.out.rc fs_nil (by rw [L8]; simp [K.wrote, K.newDk, dirtyN, hL])
    rw [hfl] at hfc
    refine hfc.mono ?_
    rintro r w' ⟨rfl, P', ha⟩
    exact ⟨rfl, P', ha.bc, ha.bd, H9.out.step ha⟩
  clear hfl
  go_wp2_with fail
  refine Calls.mono HF.out ?_
  clear HF H9 kq
  rintro e w10 ⟨rfl, P10, hbc, hbd, hc⟩
  have H10 : Hid (Hc w w10 P10 S9 C9) := hc
  rw [← hbc, ← hbd]
  clear hc hbc hbd
  have HR : Hid (Calls Tryz.prog 14 #[.pointer (some ⟨P10.bc, 0, none⟩), .int .i64 3] w10 fun r w' => ∃ ao c, r = .returned (.tuple #[.slice ao 512 c, .int .i64 0]) ∧ w'.ownsRow 0 TB8 1 (.slice ao 512 c) 512 ((BL 2).map bv) ∧ ∃ P' C1, P'.bc = P10.bc ∧ P'.bd = P10.bd ∧ Hc w w' P' (K.readS S9) C1) := by
    refine (read_c H10.out.rc (by rw [sf]; exact fs_nil) (by rw [sq, L9]; simp [hL, dirtyN]) 3).mono ?_
    rintro r w' ⟨b, v, rfl, ho, P', ha⟩
    obtain ⟨r1, r2, r3⟩ := read_full (S := S9) (C := C9) (s := 3) b sf (by rw [sn]; decide) (by rw [L9]; simp [hL, lineAt]) (by rw [L9, m9, m8]; simp [hL]) (l := ⟨0, b1, BL 1, false, true⟩) (by rw [L9]; simp [hL, mayGo]) rfl
    have r1' : (readR S9 C9 3 b).1 = 0 := r1
    have r2' : (readR S9 C9 3 b).2.1 = K.look S9 3 := r2
    have r3' : (readR S9 C9 3 b).2.2.1 = K.readS S9 := r3
    have hlk : K.look S9 3 = BL 2 := by unfold K.look; rw [sq, s3]; rfl
    rw [r2', hlk] at ho
    rw [r3'] at ha
    obtain ⟨a, c, rfl, hbr⟩ := K.own_brow ho rfl (K.bytesL_lt _ _) (by rw [K.bytesL_len]; decide)
    rw [r1', K.bytesL_len]
    rw [K.bytesL_len] at ho
    exact ⟨a, c, rfl, owns_mono ho (Nat.zero_le _), P', _, ha.bc, ha.bd, H10.out.step ha⟩
  go_wp2_with fail
  refine Calls.mono HR.out ?_
  clear HR H10
  rintro e w11 ⟨a11, c11, rfl, hbr, P11, C11, hbc, hbd, hc⟩
  have H11 : Hid (Hc w w11 P11 (K.readS S9) C11) := hc
  have HB11 : Hid (w11.ownsRow 0 TB8 1 (.slice a11 512 c11) 512 ((BL 2).map bv)) := hbr
  rw [← hbd]
  clear hc hbc hbd hbr
  have HIm : Hid (Calls Tryz.prog 25 #[.pointer (some ⟨P11.bd, 0, none⟩)] w11 fun r w' => ∃ g c, r = .returned (.slice (some ⟨g, 0, none⟩) 4096 c) ∧ (w'.cell? ⟨g, 0, none⟩ = some (.int .u8 1) ∧ w'.cell? ⟨g, 1536, none⟩ = some (.int .u8 2) ∧ w'.cell? ⟨g, 2048, none⟩ = some (.int .u8 3)) ∧ w'.ownsRow 0 TB8 1 (.slice a11 512 c11) 512 ((BL 2).map bv) ∧ ∃ P', Hc w w' P' (K.readS S9) C11) := by
    refine (K.image_any H11.out.rc.rk).mono ?_
    rintro r w' ⟨v, rfl, ho, hda⟩
    have hn : (K.readS S9).n = 8 := sn
    rw [hn] at ho
    obtain ⟨g, c, cur, rfl, _, hk, hcc⟩ := K.own_form ho (by decide)
    have hsl : ∀ s, s < 8 → ((K.readS S9).safe s).length = 512 := fun s hs => by
      obtain ⟨D, _, hso⟩ := H11.out.rc.rk.sm
      exact (hso.ok s (by rw [hn]; exact hs)).len
    have h0 : (K.imgL 8 (K.readS S9).safe)[0]? = some 1 := by
      have := K.imgL_get (s := 0) (j := 0) hsl (by decide) (by decide)
      rw [show (0 : Nat) * 512 + 0 = 0 from rfl] at this
      rw [this]
      show (S9.safe 0)[0]? = some 1
      rw [s0]; rfl
    have h3 : (K.imgL 8 (K.readS S9).safe)[1536]? = some 2 := by
      have := K.imgL_get (s := 3) (j := 0) hsl (by decide) (by decide)
      rw [show (3 : Nat) * 512 + 0 = 1536 from rfl] at this
      rw [this]
      show (S9.safe 3)[0]? = some 2
      rw [s3]; rfl
    have h4 : (K.imgL 8 (K.readS S9).safe)[2048]? = some 3 := by
      have := K.imgL_get (s := 4) (j := 0) hsl (by decide) (by decide)
      rw [show (4 : Nat) * 512 + 0 = 2048 from rfl] at this
      rw [this]
      show (S9.safe 4)[0]? = some 3
      rw [s4]; rfl
    refine ⟨g, c, rfl, ⟨(K.cell_of hk).trans (hcc 0 1 h0), (K.cell_of hk).trans (hcc 1536 2 h3), (K.cell_of hk).trans (hcc 2048 3 h4)⟩, (H11.out.rc.dsame hda).row H11.out.rc HB11.out, P11, H11.out.step (H11.out.rc.dsame hda)⟩
  go_wp2_with fail
  refine Calls.mono HIm.out ?_
  clear HIm H11 HB11
  rintro e w12 ⟨gi, ci, rfl, ⟨k0, k3, k4⟩, hbr, P12, hc⟩
  have H12 : Hid (Hc w w12 P12 (K.readS S9) C11) := hc
  have HB12 : Hid (BRow w12 a11 c11 (BL 2)) := by
    obtain ⟨a, c, e, h1⟩ := K.own_brow hbr (K.bytesL_len _ _) (K.bytesL_lt _ _) (by decide)
    cases e
    exact h1
  clear hc hbr sf sn sq s0 s3 s4 L9 m9 n9 L8 m8 n8
  have hby := bytes_c H12.out.rc 2 (by decide)
  go_wp2_with fail
  refine Calls.mono hby ?_
  clear hby
  rintro e w13 ⟨g13, c13, rfl, hb13, _, hbr13⟩
  have HSm : Hid (Calls Tryz.prog 26 #[.slice a11 512 c11, .slice (some ⟨g13, 0, none⟩) 512 c13] w13 fun e w' => e = .returned (.bool true) ∧ ∃ q, w' = w13.drewN q) := by
    have h1 := same_any a11 (some ⟨g13, 0, none⟩) c11 c13 (BL 2) (BL 2) w13 (HB12.out.later hb13) hbr13
    rw [K.bytesL_len, decide_eq_true rfl] at h1
    exact h1
  have HBF : Hid (Below w.heap.size w w13) := (H12.out.later hb13).bel
  have k0' := cell_later hb13 k0
  have k3' := cell_later hb13 k3
  have k4' := cell_later hb13 k4
  clear hb13 hbr13 HB12 H12 k0 k3 k4
  go_wp2_with fail
  refine Calls.mono HSm.out ?_
  clear HSm
  rintro e w14 ⟨rfl, q14, rfl⟩
  go_wp2
  go_ret
  exact ⟨rfl, ⟨HBF.out.os, HBF.out.tape, HBF.out.output, HBF.out.size, HBF.out.block⟩⟩
end Go.Proofs.YtlacligofhinmaaGreat.C

namespace Go.Proofs.YtlacligofhinmaaGreat.C
open Go.RowKit Go.Maps Go.Shelf Go.Proofs.YtlacligofhinmaaGreat
attribute [local go_sem] Oper.semAt_some
set_option linter.unusedVariables false
set_option linter.unusedSimpArgs false
set_option maxRecDepth 100000

/-- a disk that no call made has no sectors -/
theorem sectors_nil (w : World) : Calls Tryz.prog 56 #[.pointer none] w fun r w' => r = .returned (.int .i64 0) ∧ w' = w := by
  have hus := K.usable_nil w
  go_enter_defers Tryz.func56, Tryz.ntmps56
  go_wp2_with (go_at_call 60; refine hus.mono ?_; rintro e w9 ⟨rfl, hw9⟩; rw [hw9]; clear hw9 hus)
  exact ⟨_, results_tmp rfl _ _ _, rfl, rfl⟩
theorem sectors_zero {w : World} {b : Nat} (h : w.cell? ⟨b, 2, none⟩ = some (.int .i64 0)) : Calls Tryz.prog 56 #[.pointer (some ⟨b, 0, none⟩)] w fun r w' => r = .returned (.int .i64 0) ∧ w' = w := by
  have hus := K.usable_zero h
  clear h
  go_enter_defers Tryz.func56, Tryz.ntmps56
  go_wp2_with (go_at_call 60; refine hus.mono ?_; rintro e w9 ⟨rfl, hw9⟩; rw [hw9]; clear hw9 hus)
  exact ⟨_, results_tmp rfl _ _ _, rfl, rfl⟩
theorem new_dead {w : World} {v : Value} (hs : Calls Tryz.prog 56 #[v] w fun r w' => r = .returned (.int .i64 0) ∧ w' = w) (k : Int) (x : Value) :
    Calls Tryz.prog 20 #[v, .int .i64 k, x] w fun r w' => r = .returned (.tuple #[.pointer none, .int .i64 2]) ∧ w' = w := by
  go_enter Tryz.func20, Tryz.ntmps20
  go_wp2_with (go_at_call 56; refine hs.mono ?_; clear hs; rintro r w1 ⟨rfl, hw1⟩; rw [hw1]; clear hw1)
  refine bodyPost_ret (results_tmp2 rfl _ _ _) rfl ?_
  exact ⟨rfl, rfl⟩
section
variable {w : World} {b ms ml : Nat} {qv fv : Value} {S : K.Dk}
theorem new_lines (h : K.RK w 0 b ms ml qv fv S) {k : Int} (hk : k < 1 ∨ 1024 < k) (x : Value) :
    Calls Tryz.prog 20 #[.pointer (some ⟨b, 0, none⟩), .int .i64 k, x] w fun r w' => r = .returned (.tuple #[.pointer none, .int .i64 50]) ∧ K.RK w' 0 b ms ml qv fv S ∧ K.Kp w w' (K.fp b ms ml qv fv) := by
  have hs := K.sectors_any h
  have hn0 := h.n0
  have d4 : ¬ ((S.n : Int) = 0) := by omega
  have d4' : ¬ (S.n = 0) := by omega
  clear h
  by_cases hk1 : k < 1
  · have b1 : decide (k < 1) = true := decide_eq_true hk1
    go_enter Tryz.func20, Tryz.ntmps20
    go_wp2_with (go_at_call 56; refine hs.mono ?_; clear hs; rintro r w1 ⟨rfl, hd1⟩)
    refine bodyPost_ret (results_tmp2 rfl _ _ _) rfl ?_
    exact ⟨rfl, hd1.rk, hd1.kp⟩
  · have b1 : decide (k < 1) = false := decide_eq_false hk1
    have hk2 : 1024 < k := by omega
    have b2 : decide (1024 < k) = true := decide_eq_true hk2
    clear hk
    go_enter Tryz.func20, Tryz.ntmps20
    go_wp2_with (go_at_call 56; refine hs.mono ?_; clear hs; rintro r w1 ⟨rfl, hd1⟩)
    refine bodyPost_ret (results_tmp2 rfl _ _ _) rfl ?_
    exact ⟨rfl, hd1.rk, hd1.kp⟩
theorem new_spans (h : K.RK w 0 b ms ml qv fv S) {most : Nat} (hm0 : 1 ≤ most) (hm1 : most ≤ 1024) {ao : Option Addr} {cap : Nat} {l : List (Int × Int)} (hr : SpR w ao l) (hl : l.length ≤ 1048576) (hw : ∀ p ∈ l, I64 p.1 ∧ I64 p.2) (hfar : ∀ b' off, ao = some ⟨b', off, none⟩ → b' ∉ K.fp b ms ml qv fv) (hbad : 64 < l.length ∨ ¬ Apart S.n l) :
    Calls Tryz.prog 20 #[.pointer (some ⟨b, 0, none⟩), .int .i64 most, .slice ao l.length cap] w fun r w' => r = .returned (.tuple #[.pointer none, .int .i64 51]) ∧ K.RK w' 0 b ms ml qv fv S ∧ K.Kp w w' (K.fp b ms ml qv fv) := by
  have hs := K.sectors_any h
  have hn0 := h.n0
  have hn1 := h.n1
  have d1 : ¬ ((most : Int) < 1) := by omega
  have d2 : ¬ ((1024 : Int) < (most : Int)) := by omega
  have d4 : ¬ ((S.n : Int) = 0) := by omega
  have d4' : ¬ (S.n = 0) := by omega
  have b1 : decide ((most : Int) < 1) = false := decide_eq_false d1
  have HSP : Hid (∀ w1, K.DAct w w1 0 b ms ml ms ml qv fv qv fv S → SpR w1 ao l) := fun w1 hd k p hk => by
    obtain ⟨g, off, e, hg, c0, c1⟩ := hr k p hk
    have hb := hd.kp.block g hg (hfar g off e)
    refine ⟨g, off, e, Nat.lt_of_lt_of_le hg hd.kp.size, ?_, ?_⟩
    · unfold World.cell? at c0 ⊢; rw [hb]; exact c0
    · unfold World.cell? at c1 ⊢; rw [hb]; exact c1
  by_cases hk1 : 64 < l.length
  · have d3 : (64 : Int) < (l.length : Int) := by omega
    have b2 : decide ((l.length : Int) > 64) = true := decide_eq_true d3
    clear hr hw hfar hbad HSP h
    go_enter Tryz.func20, Tryz.ntmps20
    go_wp2_with (go_at_call 56; refine hs.mono ?_; clear hs; rintro r w1 ⟨rfl, hd1⟩)
    refine bodyPost_ret (results_tmp2 rfl _ _ _) rfl ?_
    exact ⟨rfl, hd1.rk, hd1.kp⟩
  · have d3 : ¬ ((64 : Int) < (l.length : Int)) := by omega
    have b2 : decide ((l.length : Int) > 64) = false := decide_eq_false d3
    have hap : apartB S.n l = false := by
      have hna : ¬ Apart S.n l := hbad.resolve_left hk1
      cases e : apartB S.n l
      · rfl
      · exact absurd (apartB_iff.1 e) hna
    have HL : Hid (∀ w1, K.DAct w w1 0 b ms ml ms ml qv fv qv fv S → Calls Tryz.prog 57 #[.slice ao l.length cap, .int .i64 S.n] w1 fun r w2 => r = .returned (.bool false) ∧ Below w1.heap.size w1 w2) := fun w1 hd => by
      have h1 := lieApart_c (n := S.n) (cap := cap) (HSP.out w1 hd) hl hn1 hw
      rw [hap] at h1
      exact h1
    clear hr hw hfar hbad HSP h hap
    go_enter Tryz.func20, Tryz.ntmps20
    go_wp2_with (first | (go_at_call 56; refine hs.mono ?_; clear hs; rintro r w1 ⟨rfl, hd1⟩; have hlp := HL.out w1 hd1; clear HL) | (go_at_call 57; refine hlp.mono ?_; clear hlp; rintro r w2 ⟨rfl, hb2⟩))
    refine bodyPost_ret (results_tmp2 rfl _ _ _) rfl ?_
    exact ⟨rfl, hd1.rk.later hb2, hd1.kp.trans (K.Kp.of_below hb2 _) (fun i hi => .inl hi)⟩
end
end Go.Proofs.YtlacligofhinmaaGreat.C

namespace Go.Proofs.YtlacligofhinmaaGreat.C
open Go.RowKit Go.Maps Go.Shelf Go.Proofs.YtlacligofhinmaaGreat
attribute [local go_sem] Oper.semAt_some
set_option linter.unusedVariables false
set_option linter.unusedSimpArgs false
set_option maxRecDepth 100000

theorem spcells_length (l : List (Int × Int)) : (spcells l).length = l.length * 2 := by
  induction l with
  | nil => rfl
  | cons p t ih => simp [spcells, spcell] at ih ⊢; omega
theorem spcells_append (l k : List (Int × Int)) : spcells (l ++ k) = spcells l ++ spcells k := by simp [spcells]
theorem spcells_one (l : List (Int × Int)) : ∀ u ∈ spcells l, u.oneCell' = true := by
  intro u hu
  simp only [spcells, spcell, List.mem_flatMap] at hu
  obtain ⟨p, _, h⟩ := hu
  simp at h
  rcases h with rfl | rfl <;> rfl
theorem sp_src {w : World} {ad : Addr} {l : List (Int × Int)} (h : SpR w (some ad) l) : ∀ j u, (spcells l)[j]? = some u → w.cell? (ad.add j) = some u := by
  intro j u hu
  have hj : j < l.length * 2 := by
    have := (List.getElem?_eq_some_iff.1 hu).1
    rwa [spcells_length] at this
  obtain ⟨p, hp⟩ : ∃ p, l[j / 2]? = some p := ⟨_, List.getElem?_eq_getElem (by omega)⟩
  obtain ⟨h1, h2⟩ := spcells_get l _ p hp
  obtain ⟨b', off', e, _, c1, c2⟩ := h _ p hp
  simp only [Option.some.injEq] at e
  subst e
  rw [WideShapes.add_plain]
  rcases Nat.mod_two_eq_zero_or_one j with hm | hm
  · have ej : j = j / 2 * 2 := by omega
    rw [ej] at hu ⊢
    rw [h1] at hu
    cases hu
    exact c1
  · have ej : j = j / 2 * 2 + 1 := by omega
    rw [ej] at hu ⊢
    rw [h2] at hu
    cases hu
    exact c2
/-- a list of spans that was handed in -/
def ArgS (w : World) (v : Value) (l : List (Int × Int)) : Prop := (v = .slice none 0 0 ∧ l = []) ∨ ∃ ad c, v = .slice (some ad) l.length c ∧ SpR w (some ad) l
theorem ArgS.later {w w' : World} {v : Value} {l : List (Int × Int)} (h : ArgS w v l) (hb : Below w.heap.size w w') : ArgS w' v l := by
  rcases h with h | ⟨ad, c, e, h⟩
  · exact .inl h
  · exact .inr ⟨ad, c, e, h.later hb⟩
theorem ArgS.form {w : World} {v : Value} {l : List (Int × Int)} (h : ArgS w v l) : ∃ ao c, v = .slice ao l.length c ∧ SpR w ao l ∧ (ao = none → l = []) := by
  rcases h with ⟨rfl, rfl⟩ | ⟨ad, c, rfl, h⟩
  · exact ⟨none, 0, rfl, fun k p hk => by simp at hk, fun _ => rfl⟩
  · exact ⟨_, c, rfl, h, fun e => by (cases e)⟩
theorem ArgS.lt {w : World} {v : Value} {l : List (Int × Int)} (h : ArgS w v l) (hl : l ≠ []) {b off n c : Nat} (e : v = .slice (some ⟨b, off, none⟩) n c) : b < w.heap.size := by
  rcases h with ⟨_, rfl⟩ | ⟨ad, c, rfl, h⟩
  · exact absurd rfl hl
  · cases e
    cases l with
    | nil => exact absurd rfl hl
    | cons p l =>
      obtain ⟨g, o, e, hg, _⟩ := h 0 p rfl
      cases e
      exact hg
theorem wpList_append_sp {w : World} {ops : Array Oper} {rest : List Oper} {o : Oper} {a : Act} {Q : Exit → Act → World → Prop} (hgd : o.guard = none) (s x : Operand)
    (ho : o.op = .call { callee := .builtin .append, args := #[s, x], argTypes := #[TSps, TSps] }) (base : Nat) (v : Value) (n : Nat) (xs : List Value) (hs : a.eval s = v) (hown : w.ownsRow base TSp 2 v n xs)
    (vx : Value) (l : List (Int × Int)) (hx : a.eval x = vx) (hsl : ArgS w vx l) (hlen : n + l.length ≤ 8796093022207) (hbase : base ≤ w.heap.size)
    (h : ∀ v' w', w'.ownsRow base TSp 2 v' (n + l.length) (xs ++ spcells l) → w.grownBy w' v.ownBlock → wpList Tryz.prog ops Q rest (a.put o.dst v') w') : wpList Tryz.prog ops Q (o :: rest) a w := by
  obtain ⟨i0, hi, hz0, hz1, hz2⟩ := info_parts infoSp
  rcases hsl with ⟨rfl, rfl⟩ | ⟨ad, c, rfl, hR⟩
  · refine wpList_append_own_none hgd s x TSps ho base TSp i0 2 Tryz.underlying22 hi v n xs hs hown hx (h v w ?_ ⟨rfl, rfl, rfl, Nat.le_refl _, fun _ _ _ => rfl⟩)
    simpa [spcells] using hown
  · exact wpList_append_own _ hgd s x TSps ho base TSp i0 _ 2 16 Tryz.underlying22 hi hz0 hz1 hz2 rfl (by decide) v n xs hs hown _ l.length c (spcells l) hx (spcells_length l) (sp_src hR) (spcells_one l) (by unfold maxLen; omega) (by omega) hbase (fun v' w' h1 h2 _ => h v' w' h1 h2)
/-- a copy with marks behind it -/
theorem spans_c {w : World} {v : Value} {l : List (Int × Int)} (hv : ArgS w v l) (hl : l.length ≤ 1048576) :
    Calls Tryz.prog 53 #[v] w fun r w' => ∃ g c, r = .returned (.slice (some ⟨g, 0, none⟩) l.length c) ∧ w'.ownsRow w.heap.size TSp 2 (.slice (some ⟨g, 0, none⟩) (l.length + 2) c) (l.length + 2) (spcells (l ++ [(71, 0), (72, 0)])) ∧ Below w.heap.size w w' := by
  obtain ⟨i0, hi, hz0, hz1, hz2⟩ := info_parts infoSp
  obtain ⟨ao, c0, rfl, _⟩ := hv.form
  have HV : Hid (ArgS w (.slice ao l.length c0) l) := hv
  clear hv
  go_enter Tryz.func53, Tryz.ntmps53
  have HW0 : Hid (Below w.heap.size w w) := Below.refl _ _
  go_wp2_with (first
    | (at_builtin; go_loud (refine wpList_append_sp rfl _ _ rfl w.heap.size (.slice none 0 0) 0 [] rfl (World.ownsRow_nil _ _ _ _) _ l rfl HV.out (by omega) (Nat.le_refl _) ?_; intro v1 w1 h1 hg1; clear HV; have HB1 : Hid (Below w.heap.size w w1) := (HW0.out.grown hg1 (Nat.le_refl _) (fun q e => by cases e)); have HR1 : Hid (w1.ownsRow w.heap.size TSp 2 v1 l.length (spcells l)) := (by show World.ownsRow _ _ _ _ _ _ _; simpa using h1); clear h1 hg1 HW0))
    | (at_builtin; go_loud (refine wpList_append_own_at _ rfl _ _ TSps rfl w.heap.size TSp i0 _ 2 16 Tryz.underlying22 hi hz0 hz1 hz2 rfl (by decide) _ l.length _ rfl (HR1.out.alloc _) ⟨w1.heap.size, 0, none⟩ 2 2 [.int .i64 71, .int .i64 0, .int .i64 72, .int .i64 0] rfl rfl (World.news_of_block (heap_alloc_new w1 _)) (by simp [Value.oneCell']) (by unfold maxLen; omega) (by omega) (by have := HB1.out.size; rw [World.size_alloc]; omega) ?_; intro v2 w2 h2 hg2 _ _; obtain ⟨g, c, rfl⟩ := ownsRow_succ h2; have hcp := (owns_capS h2).1; have HB2 : Hid (Below w.heap.size w w2) := ((HB1.out.alloc HB1.out.size _).grown hg2 (by have := HB1.out.size; rw [World.size_alloc]; omega) (fun q e => (HR1.out.lt q e).1)); have HR2 : Hid (w2.ownsRow w.heap.size TSp 2 (.slice (some ⟨g, 0, none⟩) (l.length + 2) c) (l.length + 2) (spcells l ++ [.int .i64 71, .int .i64 0, .int .i64 72, .int .i64 0])) := h2; clear h2 hg2)))
  go_ret
  refine ⟨g, c, rfl, ?_, HB2.out⟩
  rw [spcells_append]
  exact HR2.out
end Go.Proofs.YtlacligofhinmaaGreat.C

namespace Go.Proofs.YtlacligofhinmaaGreat.C
open Go.RowKit Go.Maps Go.Shelf Go.Proofs.YtlacligofhinmaaGreat
attribute [local go_sem] Oper.semAt_some
set_option linter.unusedVariables false
set_option linter.unusedSimpArgs false
set_option maxRecDepth 100000

theorem neSp (w : World) (x y : Int) : (binOp .neq TSp (.agg #[.int .i64 x, .int .i64 y]) (.agg #[.int .i64 x, .int .i64 y])).run Tryz.prog w = .ok (.bool false) w := by
  have hu := Tryz.underlying68
  have hi := Tryz.underlying3
  simp [go_sem, hu, hi]
set_option maxHeartbeats 2000000 in
theorem kept_c {w : World} {g off cap : Nat} {v : Value} {l : List (Int × Int)} (hr : SpR w (some ⟨g, off, none⟩) (l ++ [(71, 0), (72, 0)])) (hcap : l.length + 2 ≤ cap) (hv : ArgS w v l) (hl : l.length ≤ 1048576) :
    Calls Tryz.prog 55 #[.slice (some ⟨g, off, none⟩) l.length cap, v] w fun r w' => r = .returned (.bool true) ∧ Below w.heap.size w w' := by
  obtain ⟨ao, c0, rfl, hsp, _⟩ := hv.form
  have hne := neSp
  obtain ⟨m, hm⟩ : ∃ m, m = l.length := ⟨_, rfl⟩
  have e1 : w.cell? ⟨g, off + m * 2, none⟩ = some (.int .i64 71) := by
    obtain ⟨g', off', e, _, c, _⟩ := hr m (71, 0) (by rw [hm]; simp)
    cases e; exact c
  have e2 : w.cell? ⟨g, off + (m + 1) * 2, none⟩ = some (.int .i64 72) := by
    obtain ⟨g', off', e, _, c, _⟩ := hr (m + 1) (72, 0) (by rw [hm]; simp)
    cases e; exact c
  have HG : Hid (∀ k p, l[k]? = some p → (w.cell? ⟨g, off + k * 2, none⟩ = some (.int .i64 p.1) ∧ w.cell? ⟨g, off + k * 2 + 1, none⟩ = some (.int .i64 p.2)) ∧ ∃ b o, ao = some ⟨b, o, none⟩ ∧ w.cell? ⟨b, o + k * 2, none⟩ = some (.int .i64 p.1) ∧ w.cell? ⟨b, o + k * 2 + 1, none⟩ = some (.int .i64 p.2)) := fun k p hk => by
    have hk' : k < l.length := (List.getElem?_eq_some_iff.1 hk).1
    obtain ⟨g', off', e, _, c, d⟩ := hr k p (by rw [List.getElem?_append_left hk']; exact hk)
    cases e
    obtain ⟨b, o, e, _, c', d'⟩ := hsp k p hk
    exact ⟨⟨c, d⟩, b, o, e, c', d'⟩
  have HM : Hid (m = l.length) := hm
  rw [← hm] at hl hcap ⊢
  clear hr hsp hv hm
  go_enter Tryz.func55, Tryz.ntmps55
  go_wp2
  go_loopw [6] (fun i wr => ∃ (k : Nat), k ≤ m ∧ i = .int .i64 k ∧ Hid (Below w.heap.size w wr)) (fun i _ => m - (intOf i).toNat)
  case atStart => exact ⟨0, Nat.zero_le _, rfl, Below.refl _ _⟩
  case round =>
    obtain ⟨k, hk, rfl, HB⟩ := hrel
    by_cases hlt : k < m
    · have hkz : (k : Int) < (m : Int) := by omega
      obtain ⟨p, hp⟩ : ∃ p, l[k]? = some p := ⟨_, List.getElem?_eq_getElem (by have := HM.out; omega)⟩
      obtain ⟨⟨c0, c1⟩, b, o, rfl, d0, d1⟩ := HG.out k p hp
      have c0' := cell_later HB.out c0
      have c1' := cell_later HB.out c1
      have d0' := cell_later HB.out d0
      have d1' := cell_later HB.out d1
      clear c0 c1 d0 d1 hp e1 e2
      go_wp2
      go_quiet (fail)
      go_wp2
      go_roundw
      case rel => exact ⟨k + 1, by omega, by go_num, ⟨HB.out.os, HB.out.tape, HB.out.output, HB.out.size, HB.out.block⟩⟩
      case measure => simp [intOf]; omega
    · have hkz : ¬ (k : Int) < (m : Int) := by omega
      have ek : k = m := by omega
      subst ek
      have e1' := cell_later HB.out e1
      have e2' := cell_later HB.out e2
      clear e1 e2
      go_wp2
      go_ret
      exact ⟨rfl, HB.out⟩
end Go.Proofs.YtlacligofhinmaaGreat.C

namespace Go.Proofs.YtlacligofhinmaaGreat.C
open Go.RowKit Go.Maps Go.Shelf Go.Proofs.YtlacligofhinmaaGreat
attribute [local go_sem] Oper.semAt_some
set_option linter.unusedVariables false
set_option linter.unusedSimpArgs false
set_option maxRecDepth 100000

abbrev TRd : TypeId := 129
abbrev TRc : TypeId := 95
def rdcells (n : Int) : Array Value := #[.int .i64 n, .slice none 0 0, .slice none 0 0, .slice none 0 0, .slice none 0 0, .int .u64 0, .int .u64 0, .int .u64 0, .int .u64 0, .int .u64 0]
theorem rnew_bad (w : World) (n : Int) (h : n < 1 ∨ 65536 < n) : Calls Tryz.prog 18 #[.int .i64 n] w fun r w' => r = .returned (.tuple #[.pointer none, .int .i64 30]) ∧ w' = w := by
  by_cases h1 : n < 1
  · go_enter Tryz.func18, Tryz.ntmps18
    go_wp2
    refine bodyPost_ret (results_tmp2 rfl _ _ _) rfl ?_
    exact ⟨rfl, rfl⟩
  · have h2 : 65536 < n := by omega
    go_enter Tryz.func18, Tryz.ntmps18
    go_wp2
    refine bodyPost_ret (results_tmp2 rfl _ _ _) rfl ?_
    exact ⟨rfl, rfl⟩
theorem rnew_any (w : World) (n : Nat) (h0 : 1 ≤ n) (h1 : n ≤ 65536) : Calls Tryz.prog 18 #[.int .i64 n] w fun r w' => r = .returned (.tuple #[.pointer (some ⟨w.heap.size, 0, none⟩), .int .i64 0]) ∧ w' = w.alloc (.cells (rdcells n) TRd) := by
  have a1 : ¬ ((n : Int) < 1) := by omega
  have a2 : ¬ (65536 < (n : Int)) := by omega
  go_enter Tryz.func18, Tryz.ntmps18
  go_wp2
  refine bodyPost_ret (results_tmp2 rfl _ _ _) rfl ?_
  exact ⟨rfl, rfl⟩
/-- the document's cache, refused for its lines -/
theorem rcnew_lines {w : World} {p : Nat} {n : Int} (hc : w.cell? ⟨p, 0, none⟩ = some (.int .i64 n)) (hn : 1 ≤ n) {k : Int} (hk : k < 1 ∨ 1024 < k) (x : Value) :
    Calls Tryz.prog 54 #[.pointer (some ⟨p, 0, none⟩), .int .i64 k, x] w fun r w' => r = .returned (.tuple #[.pointer none, .int .i64 50]) ∧ w' = w := by
  have d4 : ¬ (n = 0) := by omega
  have e1 : ∀ (w : World) (a : Addr), (binOp .eql 34 (.pointer (some a)) (.pointer none)).run Tryz.prog w = .ok (.bool false) w := fun _ _ => rfl
  by_cases hk1 : k < 1
  · have b1 : decide (k < 1) = true := decide_eq_true hk1
    go_enter Tryz.func54, Tryz.ntmps54
    go_wp2
    refine bodyPost_ret (results_tmp2 rfl _ _ _) rfl ?_
    exact ⟨rfl, rfl⟩
  · have b1 : decide (k < 1) = false := decide_eq_false hk1
    have hk2 : 1024 < k := by omega
    have b2 : decide (1024 < k) = true := decide_eq_true hk2
    clear hk
    go_enter Tryz.func54, Tryz.ntmps54
    go_wp2
    refine bodyPost_ret (results_tmp2 rfl _ _ _) rfl ?_
    exact ⟨rfl, rfl⟩
theorem rcnew_many {w : World} {p : Nat} {n : Int} (hc : w.cell? ⟨p, 0, none⟩ = some (.int .i64 n)) (hn : 1 ≤ n) {most : Nat} (hm0 : 1 ≤ most) (hm1 : most ≤ 1024) {ao : Option Addr} {m cap : Nat} (hm : 64 < m) :
    Calls Tryz.prog 54 #[.pointer (some ⟨p, 0, none⟩), .int .i64 most, .slice ao m cap] w fun r w' => r = .returned (.tuple #[.pointer none, .int .i64 51]) ∧ w' = w := by
  have d4 : ¬ (n = 0) := by omega
  have e1 : ∀ (w : World) (a : Addr), (binOp .eql 34 (.pointer (some a)) (.pointer none)).run Tryz.prog w = .ok (.bool false) w := fun _ _ => rfl
  have d1 : ¬ ((most : Int) < 1) := by omega
  have d2 : ¬ ((1024 : Int) < (most : Int)) := by omega
  have d3 : (64 : Int) < (m : Int) := by omega
  have b2 : decide ((m : Int) > 64) = true := decide_eq_true d3
  go_enter Tryz.func54, Tryz.ntmps54
  go_wp2
  refine bodyPost_ret (results_tmp2 rfl _ _ _) rfl ?_
  exact ⟨rfl, rfl⟩
end Go.Proofs.YtlacligofhinmaaGreat.C

namespace Go.Proofs.YtlacligofhinmaaGreat.C
open Go.RowKit Go.Maps Go.Shelf Go.Proofs.YtlacligofhinmaaGreat
attribute [local go_sem] Oper.semAt_some
set_option linter.unusedVariables false
set_option linter.unusedSimpArgs false
set_option maxRecDepth 100000

theorem not_apart_bad {n i : Nat} {l : List (Int × Int)} {p : Int × Int} (hp : l[i]? = some p) (hb : p.1 < 0 ∨ p.2 < 1 ∨ (n : Int) < p.1 ∨ (n : Int) - p.1 < p.2) : ¬ Apart n l := fun h => by
  have := h.1 p (List.mem_of_getElem? hp)
  omega
theorem not_apart_meet {n i k : Nat} {l : List (Int × Int)} {p t : Int × Int} (hp : l[i]? = some p) (ht : l[k]? = some t) (hki : k < i) (hb : ¬ Off2 t p) : ¬ Apart n l := fun h => by
  obtain ⟨h1, e1⟩ := List.getElem?_eq_some_iff.1 hp
  obtain ⟨h2, e2⟩ := List.getElem?_eq_some_iff.1 ht
  have := List.pairwise_iff_getElem.1 h.2 k i h2 h1 hki
  rw [e1, e2] at this
  exact hb this
theorem apart_succ {n i : Nat} {l : List (Int × Int)} {p : Int × Int} (hp : l[i]? = some p) (h : Apart n (l.take i)) (ho : 0 ≤ p.1 ∧ 1 ≤ p.2 ∧ p.1 + p.2 ≤ n) (hm : ∀ k t, k < i → l[k]? = some t → Off2 t p) : Apart n (l.take (i + 1)) := by
  have e : l.take (i + 1) = l.take i ++ [p] := by rw [List.take_add_one, hp]; rfl
  rw [e]
  refine ⟨fun q hq => ?_, List.pairwise_append.2 ⟨h.2, List.pairwise_singleton _ _, fun a ha b hb => ?_⟩⟩
  · rcases List.mem_append.1 hq with hq | hq
    · exact h.1 q hq
    · simp at hq; subst hq; exact ho
  · simp at hb
    subst hb
    obtain ⟨k, hk⟩ := List.getElem?_of_mem ha
    have hlt : k < i := by
      have := (List.getElem?_eq_some_iff.1 hk).1
      rw [List.length_take] at this; omega
    rw [List.getElem?_take] at hk
    rw [if_pos hlt] at hk
    exact hm k a hlt hk
theorem apart_mem {n k : Nat} {l : List (Int × Int)} {i : Nat} {t : Int × Int} (h : Apart n (l.take i)) (hk : k < i) (ht : l[k]? = some t) : 0 ≤ t.1 ∧ 1 ≤ t.2 ∧ t.1 + t.2 ≤ n :=
  h.1 t (List.mem_of_getElem? (i := k) (by rw [List.getElem?_take, if_pos hk]; exact ht))
def rccells (p : Nat) (most : Nat) (v : Value) : Array Value := #[.pointer (some ⟨p, 0, none⟩), .int .i64 most, v, .slice none 0 0, .int .u64 0, .int .u64 0, .int .u64 0, .int .u64 0]
def RcPost (w : World) (p n most : Nat) (l : List (Int × Int)) (r : Ending) (w' : World) : Prop :=
  Below w.heap.size w w' ∧ ((¬ Apart n l ∧ r = .returned (.tuple #[.pointer none, .int .i64 51])) ∨ (Apart n l ∧ ∃ q v, r = .returned (.tuple #[.pointer (some ⟨q, 0, none⟩), .int .i64 0]) ∧ w.heap.size ≤ q ∧ w'.heap[q]? = some (.cells (rccells p most v) TRc) ∧ w'.ownsRow w.heap.size TSp 2 v l.length (spcells l) ∧ v.ownBlock ≠ some q))
set_option maxHeartbeats 8000000 in
theorem rcnew_any {w : World} {p n : Nat} (hc : w.cell? ⟨p, 0, none⟩ = some (.int .i64 n)) (hn : 1 ≤ n) (hn1 : n ≤ 65536) {most : Nat} (hm0 : 1 ≤ most) (hm1 : most ≤ 1024) {v : Value} {l : List (Int × Int)} (hv : ArgS w v l) (hl : l.length ≤ 64) (hw : ∀ p ∈ l, I64 p.1 ∧ I64 p.2) :
    Calls Tryz.prog 54 #[.pointer (some ⟨p, 0, none⟩), .int .i64 most, v] w (RcPost w p n most l) := by
  obtain ⟨i0, hi, hz0, hz1, hz2⟩ := info_parts infoSp
  obtain ⟨ao, cap, rfl, hsp, _⟩ := hv.form
  have HV : Hid (ArgS w (.slice ao l.length cap) l) := hv
  have HSP : Hid (SpR w ao l) := hsp
  have HW : Hid (∀ p ∈ l, I64 p.1 ∧ I64 p.2) := hw
  have d4 : ¬ ((n : Int) = 0) := by omega
  have d4' : ¬ (n = 0) := by omega
  have e1 : ∀ (w : World) (a : Addr), (binOp .eql 34 (.pointer (some a)) (.pointer none)).run Tryz.prog w = .ok (.bool false) w := fun _ _ => rfl
  have d1 : ¬ ((most : Int) < 1) := by omega
  have d2 : ¬ ((1024 : Int) < (most : Int)) := by omega
  have d3 : ¬ ((64 : Int) < (l.length : Int)) := by omega
  obtain ⟨m, hm⟩ : ∃ m, m = l.length := ⟨_, rfl⟩
  have HM : Hid (m = l.length) := hm
  have HB0 : Hid (Below w.heap.size w w) := Below.refl _ _
  rw [← hm] at hl d3 HV ⊢
  clear hv hsp hw hm
  have b2 : decide ((m : Int) > 64) = false := decide_eq_false d3
  go_enter Tryz.func54, Tryz.ntmps54
  go_wp2
  go_loopw [8] (fun i wr => ∃ (k : Nat), k ≤ m ∧ i = .int .i64 k ∧ Hid (Apart n (l.take k)) ∧ Hid (Below w.heap.size w wr)) (fun i _ => m - (intOf i).toNat)
  case atStart => exact ⟨0, Nat.zero_le _, rfl, ⟨fun p hp => by simp at hp, by simp⟩, HB0⟩
  case round =>
    obtain ⟨i, hi', rfl, HA, HB⟩ := hrel
    by_cases hlt : i < m
    · have hkz : (i : Int) < (m : Int) := by omega
      obtain ⟨⟨p1, p2⟩, hp⟩ : ∃ p, l[i]? = some p := ⟨_, List.getElem?_eq_getElem (by have := HM.out; omega)⟩
      obtain ⟨g, off, rfl, hg, c0, c1⟩ := HSP.out i _ hp
      simp only at c0 c1
      have q0 := cell_later HB.out c0
      have q1 := cell_later HB.out c1
      have hpw := HW.out _ (List.mem_of_getElem? hp)
      simp only at hpw
      have HP : Hid (l[i]? = some (p1, p2)) := hp
      have HB2 : Hid (Below w.heap.size w (wr.alloc (.cells #[.int .i64 p1, .int .i64 p2] TSp))) := HB.out.alloc HB.out.size _
      have hpd : (wr.alloc (.cells #[.int .i64 p1, .int .i64 p2] TSp)).cell? ⟨p, 0, none⟩ = some (.int .i64 n) := cell_later HB2.out hc
      clear c0 c1 hp
      by_cases h1 : p1 < 0
      · have b1 : decide (p1 < 0) = true := decide_eq_true h1
        go_wp2
        go_quiet (fail)
        go_wp2
        refine bodyPost_ret (results_tmp2 rfl _ _ _) rfl ?_
        exact ⟨⟨HB2.out.os, HB2.out.tape, HB2.out.output, HB2.out.size, HB2.out.block⟩, .inl ⟨not_apart_bad HP.out (.inl h1), rfl⟩⟩
      have b1 : decide (p1 < 0) = false := decide_eq_false h1
      by_cases h2 : p2 < 1
      · have b2 : decide (p2 < 1) = true := decide_eq_true h2
        go_wp2
        go_quiet (fail)
        go_wp2
        refine bodyPost_ret (results_tmp2 rfl _ _ _) rfl ?_
        exact ⟨⟨HB2.out.os, HB2.out.tape, HB2.out.output, HB2.out.size, HB2.out.block⟩, .inl ⟨not_apart_bad HP.out (.inr (.inl h2)), rfl⟩⟩
      have b2 : decide (p2 < 1) = false := decide_eq_false h2
      by_cases h3 : (n : Int) < p1
      · have b3 : decide (p1 > (n : Int)) = true := decide_eq_true h3
        go_wp2
        go_quiet (fail)
        go_wp2
        refine bodyPost_ret (results_tmp2 rfl _ _ _) rfl ?_
        exact ⟨⟨HB2.out.os, HB2.out.tape, HB2.out.output, HB2.out.size, HB2.out.block⟩, .inl ⟨not_apart_bad HP.out (.inr (.inr (.inl h3))), rfl⟩⟩
      have b3 : decide (p1 > (n : Int)) = false := decide_eq_false h3
      have hwr : IntKind.i64.wrap ((n : Int) - p1) = (n : Int) - p1 := by rw [IntKind.wrap_i64]; omega
      by_cases h4 : (n : Int) - p1 < p2
      · have b4 : decide (p2 > (n : Int) - p1) = true := decide_eq_true h4
        go_wp2
        go_quiet (fail)
        go_wp2
        refine bodyPost_ret (results_tmp2 rfl _ _ _) rfl ?_
        exact ⟨⟨HB2.out.os, HB2.out.tape, HB2.out.output, HB2.out.size, HB2.out.block⟩, .inl ⟨not_apart_bad HP.out (.inr (.inr (.inr h4))), rfl⟩⟩
      have b4 : decide (p2 > (n : Int) - p1) = false := decide_eq_false h4
      have hok : 0 ≤ p1 ∧ 1 ≤ p2 ∧ p1 + p2 ≤ (n : Int) := by omega
      have hw2 : IntKind.i64.wrap (p1 + p2) = p1 + p2 := by rw [IntKind.wrap_i64]; omega
      go_wp2
      go_quiet (fail)
      obtain ⟨W1, hW1⟩ : ∃ W1, W1 = (wr.alloc (.cells #[.int .i64 p1, .int .i64 p2] TSp)).drewN nq := ⟨_, rfl⟩
      have HBW : Hid (Below w.heap.size w W1) := by show Below _ _ _; rw [hW1]; exact ⟨HB2.out.os, HB2.out.tape, HB2.out.output, HB2.out.size, HB2.out.block⟩
      have hbs : W1.heap[wr.heap.size]? = some (.cells #[.int .i64 p1, .int .i64 p2] TSp) := by rw [hW1]; exact heap_alloc_new wr _
      have s0 : W1.cell? ⟨wr.heap.size, 0, none⟩ = some (.int .i64 p1) := (K.cell_of hbs).trans rfl
      have s1 : W1.cell? ⟨wr.heap.size, 1, none⟩ = some (.int .i64 p2) := (K.cell_of hbs).trans rfl
      rw [← hW1]
      clear hW1 hbs q0 q1 hpd b1 b2 b3 b4 hwr h1 h2 h3 h4 HB2 hpw hkz HB
      generalize wr.heap.size = sb at s0 s1 ⊢
      go_wp2
      go_loopw [10] (fun j wk => ∃ (k : Nat), k ≤ i ∧ j = .int .i64 k ∧ Hid (∀ k' t, k' < k → l[k']? = some t → Off2 t (p1, p2)) ∧ Hid (Below W1.heap.size W1 wk)) (fun j _ => i - (intOf j).toNat)
      case atStart => exact ⟨0, Nat.zero_le _, rfl, fun k' t h => by omega, Below.refl _ _⟩
      case round =>
        obtain ⟨k, hk, rfl, HO, HBk⟩ := hrel
        by_cases hlk : k < i
        · have hkz : (k : Int) < (i : Int) := by omega
          obtain ⟨⟨t1, t2⟩, ht⟩ : ∃ p, l[k]? = some p := ⟨_, List.getElem?_eq_getElem (by have := HM.out; omega)⟩
          obtain ⟨g', off', e, _, c0, c1⟩ := HSP.out k _ ht
          cases e
          simp only at c0 c1
          have q0 := cell_later HBk.out (cell_later HBW.out c0)
          have q1 := cell_later HBk.out (cell_later HBW.out c1)
          have r0 := cell_later HBk.out s0
          have r1 := cell_later HBk.out s1
          have hto := apart_mem HA.out hlk ht
          simp only at hto
          have hw3 : IntKind.i64.wrap (t1 + t2) = t1 + t2 := by rw [IntKind.wrap_i64]; omega
          have HT : Hid (l[k]? = some (t1, t2)) := ht
          have HBk2 : Hid (Below W1.heap.size W1 (wr.alloc (.cells #[.int .i64 t1, .int .i64 t2] TSp))) := HBk.out.alloc HBk.out.size _
          have r0' := cell_later HBk2.out s0
          have r1' := cell_later HBk2.out s1
          clear c0 c1 ht
          by_cases g1 : p1 < t1 + t2
          · have f1 : decide (p1 < t1 + t2) = true := decide_eq_true g1
            by_cases g2 : t1 < p1 + p2
            · have f2 : decide (t1 < p1 + p2) = true := decide_eq_true g2
              go_wp2
              refine bodyPost_ret (results_tmp2 rfl _ _ _) rfl ?_
              exact ⟨HBW.out.trans (HBk2.out.mono HBW.out.size), .inl ⟨not_apart_meet HP.out HT.out hlk (by unfold Off2; simp only; omega), rfl⟩⟩
            · have f2 : decide (t1 < p1 + p2) = false := decide_eq_false g2
              go_wp2
              go_roundw
              case rel => exact ⟨k + 1, by omega, by go_num, fun k' t hk' ht' => by
                rcases Nat.lt_or_ge k' k with h | h
                · exact HO.out k' t h ht'
                · have e : k' = k := by omega
                  subst e
                  rw [HT.out] at ht'
                  cases ht'
                  unfold Off2; simp only; omega, HBk2⟩
              case measure => simp [intOf]; omega
          · have f1 : decide (p1 < t1 + t2) = false := decide_eq_false g1
            go_wp2
            go_roundw
            case rel => exact ⟨k + 1, by omega, by go_num, fun k' t hk' ht' => by
              rcases Nat.lt_or_ge k' k with h | h
              · exact HO.out k' t h ht'
              · have e : k' = k := by omega
                subst e
                rw [HT.out] at ht'
                cases ht'
                unfold Off2; simp only; omega, HBk2⟩
            case measure => simp [intOf]; omega
        · have hkz : ¬ (k : Int) < (i : Int) := by omega
          have ek : k = i := by omega
          subst ek
          have HA2 : Hid (Apart n (l.take (k + 1))) := apart_succ HP.out HA.out hok HO.out
          have HBn : Hid (Below w.heap.size w wr) := HBW.out.trans (HBk.out.mono HBW.out.size)
          go_wp2
          go_roundw
          case rel => exact ⟨k + 1, by omega, by go_num, HA2, HBn⟩
          case measure => simp [intOf]; omega
    · have hkz : ¬ (i : Int) < (m : Int) := by omega
      have ei : i = m := by omega
      subst ei
      have HAf : Hid (Apart n l) := by
        have h := HA.out
        rw [HM.out, List.take_length] at h
        exact h
      have HVr : Hid (ArgS (wr.alloc (.cells #[.pointer (some ⟨p, 0, none⟩), .int .i64 most, .slice none 0 0, .slice none 0 0, .int .u64 0, .int .u64 0, .int .u64 0, .int .u64 0] TRc)) (.slice ao l.length cap) l) := by
        have h := HV.out
        rw [HM.out] at h
        exact (h.later HB.out).later ((Below.refl _ wr).alloc (Nat.le_refl _) _)
      have HBa : Hid (Below w.heap.size w (wr.alloc (.cells #[.pointer (some ⟨p, 0, none⟩), .int .i64 most, .slice none 0 0, .slice none 0 0, .int .u64 0, .int .u64 0, .int .u64 0, .int .u64 0] TRc))) := HB.out.alloc HB.out.size _
      have hsz := HB.out.size
      have hrp : (wr.alloc (.cells #[.pointer (some ⟨p, 0, none⟩), .int .i64 most, .slice none 0 0, .slice none 0 0, .int .u64 0, .int .u64 0, .int .u64 0, .int .u64 0] TRc)).heap[wr.heap.size]? = some (.cells #[.pointer (some ⟨p, 0, none⟩), .int .i64 most, .slice none 0 0, .slice none 0 0, .int .u64 0, .int .u64 0, .int .u64 0, .int .u64 0] TRc) := heap_alloc_new wr _
      have c2 : (wr.alloc (.cells #[.pointer (some ⟨p, 0, none⟩), .int .i64 most, .slice none 0 0, .slice none 0 0, .int .u64 0, .int .u64 0, .int .u64 0, .int .u64 0] TRc)).cell? ⟨wr.heap.size, 2, none⟩ = some (.slice none 0 0) := (K.cell_of hrp).trans rfl
      rw [show (.slice ao i cap : Value) = .slice ao l.length cap by rw [HM.out]]
      have hkz : ¬ (i : Int) < (l.length : Int) := by have := HM.out; omega
      clear HV HA
      go_wp2_with (at_builtin; go_loud (refine wpList_append_sp rfl _ _ rfl w.heap.size (.slice none 0 0) 0 [] rfl (World.ownsRow_nil _ _ _ _) _ l rfl HVr.out (by omega) (by rw [World.size_alloc]; omega) ?_; intro v1 w1 h1 hg1; have HB1 : Hid (Below w.heap.size w w1) := (HBa.out.grown hg1 (by rw [World.size_alloc]; omega) (fun q e => by cases e)); have HR1 : Hid (w1.ownsRow w.heap.size TSp 2 v1 l.length (spcells l)) := (by show World.ownsRow _ _ _ _ _ _ _; simpa using h1); have hb1 : w1.heap[wr.heap.size]? = some (.cells #[.pointer (some ⟨p, 0, none⟩), .int .i64 most, .slice none 0 0, .slice none 0 0, .int .u64 0, .int .u64 0, .int .u64 0, .int .u64 0] TRc) := ((hg1.block wr.heap.size (by rw [World.size_alloc]; omega) (fun e => by cases e)).trans hrp); have z2 : w1.frozen? ⟨wr.heap.size, 2, none⟩ = false := K.frozen_of hb1; have y2 : w1.cell? ⟨wr.heap.size, 2, none⟩ = some (.slice none 0 0) := (K.cell_of hb1).trans rfl; clear h1 hg1; obtain ⟨ao1, c1, rfl, _⟩ := sp_form HR1.out))
      refine bodyPost_ret (results_tmp2 rfl _ _ _) rfl ?_
      have hlt1 : wr.heap.size < w1.heap.size := (Array.getElem?_eq_some_iff.1 hb1).1
      have hob : ∀ q, (Value.slice ao1 l.length c1).ownBlock = some q → q ≠ wr.heap.size := fun q e eq => by
        rcases HR1.out.2 with ⟨h0, _⟩ | ⟨g, cp, cur, h0, _, hg, _⟩
        · rw [h0] at e; cases e
        · rw [h0] at e
          have e' : g = q := by simpa [Value.ownBlock] using e
          rw [e', eq, hb1] at hg
          simp at hg
          first | exact absurd hg.2 (by decide) | exact absurd hg.2.1 (by decide)
      refine ⟨HB1.out.setCell hsz _, .inr ⟨HAf.out, _, _, rfl, hsz, ?_, K.ownsRow_block HR1.out (fun q e => Below.heap_setCell _ _ _ _ (hob q e)), fun e => hob _ e rfl⟩⟩
      exact K.blk_set hb1 2 _
end Go.Proofs.YtlacligofhinmaaGreat.C

namespace Go.Proofs.YtlacligofhinmaaGreat.C
open Go.RowKit Go.Maps Go.Shelf Go.Proofs.YtlacligofhinmaaGreat
attribute [local go_sem] Oper.semAt_some
set_option linter.unusedVariables false
set_option linter.unusedSimpArgs false
set_option maxRecDepth 100000

abbrev TLs : TypeId := 45
set_option maxHeartbeats 2000000 in
/-- the counts -/
theorem stats_c {w : World} {P : Loc} {S : K.Dk} {C : Ch} (h : RC w P S C) : Calls Tryz.prog 88 #[.pointer (some ⟨P.bc, 0, none⟩)] w fun r w' => r = .returned (.agg #[.int .u64 C.st.hits, .int .u64 C.st.misses, .int .u64 C.st.evicted, .int .u64 C.st.written]) ∧ Below w.heap.size w w' := by
  obtain ⟨W0, hW0⟩ : ∃ W0, W0 = w.alloc (.cells #[.int .u64 0, .int .u64 0, .int .u64 0, .int .u64 0] 93) := ⟨_, rfl⟩
  have hB0 : Below w.heap.size w W0 := by rw [hW0]; exact (Below.refl _ w).alloc (Nat.le_refl _) _
  have h0 := h.later hB0
  have hbx : W0.heap[w.heap.size]? = some (.cells #[.int .u64 0, .int .u64 0, .int .u64 0, .int .u64 0] 93) := by rw [hW0]; exact heap_alloc_new w _
  have hus := usable_c h0
  have k5 : W0.cell? ⟨P.bc, 5, none⟩ = some (.int .u64 C.st.hits) := h0.c 5
  have k6 : W0.cell? ⟨P.bc, 6, none⟩ = some (.int .u64 C.st.misses) := h0.c 6
  have k7 : W0.cell? ⟨P.bc, 7, none⟩ = some (.int .u64 C.st.evicted) := h0.c 7
  have k8 : W0.cell? ⟨P.bc, 8, none⟩ = some (.int .u64 C.st.written) := h0.c 8
  have hi5 : (Tryz.prog.info? 93).map (·.size) = some 4 := by kernel_rfl
  clear h h0 hB0 hbx
  subst hW0
  go_enter Tryz.func88, Tryz.ntmps88
  go_wp2_with (go_at_call 63; refine hus.mono ?_; rintro e w9 ⟨rfl, hw9⟩; rw [hw9]; clear hw9 hus)
  exact bodyPost_ret (results_cell_row rfl _ _ w.heap.size 93 _ (0, 0) _ rfl (heap_alloc_new w _) Tryz.underlying93 rfl hi5) rfl ⟨rfl, (Below.refl _ w).alloc (Nat.le_refl _) _⟩
end Go.Proofs.YtlacligofhinmaaGreat.C

namespace Go.Proofs.YtlacligofhinmaaGreat.C
open Go.RowKit Go.Maps Go.Shelf Go.Proofs.YtlacligofhinmaaGreat
attribute [local go_sem] Oper.semAt_some
set_option linter.unusedVariables false
set_option linter.unusedSimpArgs false
set_option maxRecDepth 100000

/-- what New answers -/
def newE (n : Nat) (k : Int) (l : List (Int × Int)) : Int := if k < 1 ∨ 1024 < k then 50 else if 64 < l.length ∨ apartB n l = false then 51 else 0
theorem apartB_no {n : Nat} {l : List (Int × Int)} : apartB n l = false ↔ ¬ Apart n l := by
  rw [← apartB_iff]; simp
section
variable {w : World} {b ms ml : Nat} {qv fv : Value} {S : K.Dk}
def NewPost (w : World) (b ms ml : Nat) (qv fv : Value) (S : K.Dk) (k : Int) (l : List (Int × Int)) (r : Ending) (w' : World) : Prop :=
  ∃ cp, r = .returned (.tuple #[.pointer cp, .int .i64 (newE S.n k l)]) ∧ K.Kp w w' (K.fp b ms ml qv fv) ∧ ((cp = none ∧ newE S.n k l ≠ 0 ∧ K.RK w' 0 b ms ml qv fv S) ∨ (newE S.n k l = 0 ∧ ∃ P : Loc, cp = some ⟨P.bc, 0, none⟩ ∧ Made w w' b ms ml qv fv S k.toNat l P))
theorem new_all (h : K.RK w 0 b ms ml qv fv S) (k : Int) {ao : Option Addr} {cap : Nat} {l : List (Int × Int)} (hr : SpR w ao l) (hl : l.length ≤ 1048576) (hw : ∀ p ∈ l, I64 p.1 ∧ I64 p.2) (hao : ao = none → l = []) (hau : ∀ a, ao = some a → ∃ b off, a = ⟨b, off, none⟩) (hfar : ∀ b' off, ao = some ⟨b', off, none⟩ → b' ∉ K.fp b ms ml qv fv) :
    Calls Tryz.prog 20 #[.pointer (some ⟨b, 0, none⟩), .int .i64 k, .slice ao l.length cap] w (NewPost w b ms ml qv fv S k l) := by
  by_cases hk : k < 1 ∨ 1024 < k
  · have e : newE S.n k l = 50 := by unfold newE; rw [if_pos hk]
    refine (new_lines h hk _).mono ?_
    rintro r w' ⟨rfl, hrk, hkp⟩
    exact ⟨none, by rw [e], hkp, .inl ⟨rfl, by rw [e]; decide, hrk⟩⟩
  · obtain ⟨m, hm⟩ : ∃ m : Nat, (m : Int) = k := ⟨k.toNat, by omega⟩
    subst hm
    by_cases hs : 64 < l.length ∨ apartB S.n l = false
    · have e : newE S.n m l = 51 := by unfold newE; rw [if_neg hk, if_pos hs]
      refine (new_spans h (by omega) (by omega) hr hl hw hfar (by rw [apartB_no] at hs; exact hs)).mono ?_
      rintro r w' ⟨rfl, hrk, hkp⟩
      exact ⟨none, by rw [e], hkp, .inl ⟨rfl, by rw [e]; decide, hrk⟩⟩
    · have e : newE S.n m l = 0 := by unfold newE; rw [if_neg hk, if_neg hs]
      have ha : Apart S.n l := Classical.byContradiction fun hn => hs (.inr (apartB_no.2 hn))
      refine (new_c h (by omega) (by omega) hr (by omega) hw ha hao hau hfar).mono ?_
      rintro r w' ⟨P, rfl, hM⟩
      exact ⟨_, by rw [e], hM.kp, .inr ⟨e, P, rfl, by rw [Int.toNat_natCast]; exact hM⟩⟩
end
def RnewPost (w : World) (p n : Nat) (k : Int) (l : List (Int × Int)) (r : Ending) (w' : World) : Prop :=
  ∃ cp, r = .returned (.tuple #[.pointer cp, .int .i64 (newE n k l)]) ∧ Below w.heap.size w w' ∧ ((cp = none ∧ newE n k l ≠ 0) ∨ (newE n k l = 0 ∧ ∃ q v, cp = some ⟨q, 0, none⟩ ∧ w.heap.size ≤ q ∧ w'.heap[q]? = some (.cells (rccells p k.toNat v) TRc) ∧ w'.ownsRow w.heap.size TSp 2 v l.length (spcells l) ∧ v.ownBlock ≠ some q))
theorem rcnew_all {w : World} {p n : Nat} (hc : w.cell? ⟨p, 0, none⟩ = some (.int .i64 n)) (hn : 1 ≤ n) (hn1 : n ≤ 65536) (k : Int) {v : Value} {l : List (Int × Int)} (hv : ArgS w v l) (hw : ∀ p ∈ l, I64 p.1 ∧ I64 p.2) :
    Calls Tryz.prog 54 #[.pointer (some ⟨p, 0, none⟩), .int .i64 k, v] w (RnewPost w p n k l) := by
  by_cases hk : k < 1 ∨ 1024 < k
  · have e : newE n k l = 50 := by unfold newE; rw [if_pos hk]
    refine (rcnew_lines hc (by omega) hk _).mono ?_
    rintro r w' ⟨rfl, rfl⟩
    exact ⟨none, by rw [e], Below.refl _ _, .inl ⟨rfl, by rw [e]; decide⟩⟩
  · obtain ⟨m, hm⟩ : ∃ m : Nat, (m : Int) = k := ⟨k.toNat, by omega⟩
    subst hm
    by_cases hs : 64 < l.length
    · have e : newE n m l = 51 := by unfold newE; rw [if_neg hk, if_pos (.inl hs)]
      obtain ⟨ao, c0, rfl, _⟩ := hv.form
      refine (rcnew_many hc (by omega) (by omega) (by omega) hs).mono ?_
      rintro r w' ⟨rfl, rfl⟩
      exact ⟨none, by rw [e], Below.refl _ _, .inl ⟨rfl, by rw [e]; decide⟩⟩
    · refine (rcnew_any hc hn hn1 (by omega) (by omega) hv (by omega) hw).mono ?_
      rintro r w' ⟨hb, ⟨hna, rfl⟩ | ⟨ha, q, u, rfl, h1, h2, h3, h4⟩⟩
      · have e : newE n m l = 51 := by unfold newE; rw [if_neg hk, if_pos (.inr (apartB_no.2 hna))]
        exact ⟨none, by rw [e], hb, .inl ⟨rfl, by rw [e]; decide⟩⟩
      · have e : newE n m l = 0 := by
          unfold newE; rw [if_neg hk, if_neg]
          rintro (h | h)
          · exact hs h
          · exact apartB_no.1 h ha
        exact ⟨_, by rw [e], hb, .inr ⟨e, q, u, rfl, h1, by rw [Int.toNat_natCast]; exact h2, h3, h4⟩⟩
theorem ArgS.kp {w w' : World} {F : List Nat} {v : Value} {l : List (Int × Int)} (h : ArgS w v l) (hk : K.Kp w w' F) (hf : l ≠ [] → ∀ b off n c, v = .slice (some ⟨b, off, none⟩) n c → b ∉ F) : ArgS w' v l := by
  rcases h with h | ⟨ad, c, rfl, h⟩
  · exact .inl h
  · refine .inr ⟨ad, c, rfl, fun j p hj => ?_⟩
    obtain ⟨g, o, e, hg, c0, c1⟩ := h j p hj
    cases e
    have hb := hk.block g hg (hf (by rintro rfl; simp at hj) g o _ c rfl)
    refine ⟨g, o, rfl, Nat.lt_of_lt_of_le hg hk.size, ?_, ?_⟩
    · unfold World.cell? at c0 ⊢; rw [hb]; exact c0
    · unfold World.cell? at c1 ⊢; rw [hb]; exact c1
theorem SpR.kp {w w' : World} {F : List Nat} {g off : Nat} {l : List (Int × Int)} (h : SpR w (some ⟨g, off, none⟩) l) (hk : K.Kp w w' F) (hf : g ∉ F) : SpR w' (some ⟨g, off, none⟩) l := fun j p hj => by
  obtain ⟨g', o, e, hg, c0, c1⟩ := h j p hj
  cases e
  have hb := hk.block g hg hf
  refine ⟨g, off, rfl, Nat.lt_of_lt_of_le hg hk.size, ?_, ?_⟩
  · unfold World.cell? at c0 ⊢; rw [hb]; exact c0
  · unfold World.cell? at c1 ⊢; rw [hb]; exact c1
theorem SpR.left {w : World} {ao : Option Addr} {l k : List (Int × Int)} (h : SpR w ao (l ++ k)) : SpR w ao l := fun j p hj => h j p (by rw [List.getElem?_append_left (List.getElem?_eq_some_iff.1 hj).1]; exact hj)
end Go.Proofs.YtlacligofhinmaaGreat.C

namespace Go.Proofs.YtlacligofhinmaaGreat.C
open Go.RowKit Go.Maps Go.Shelf Go.Proofs.YtlacligofhinmaaGreat
attribute [local go_sem] Oper.semAt_some
set_option linter.unusedVariables false
set_option linter.unusedSimpArgs false
set_option maxRecDepth 100000

abbrev TSe : TypeId := 24
abbrev TPa : TypeId := 37
/-- what open leaves -/
def OpenPost (w : World) (x b ms ml p : Nat) (qv fv : Value) (S : K.Dk) (k : Int) (l : List (Int × Int)) (w' : World) : Prop :=
  K.Kp w w' (x :: K.fp b ms ml qv fv) ∧ ((newE S.n k l ≠ 0 ∧ K.RK w' 0 b ms ml qv fv S ∧ w'.heap[x]? = some (.cells #[.pointer (some ⟨b, 0, none⟩), .pointer none, .pointer (some ⟨p, 0, none⟩), .pointer none] TPa)) ∨
   (newE S.n k l = 0 ∧ ∃ (P : Loc) (q : Nat), RC w' P S (newCh k.toNat l) ∧ P.bd = b ∧ (∀ i ∈ P.fp [], i ∈ K.fp b ms ml qv fv ∨ w.heap.size ≤ i) ∧ w.heap.size ≤ q ∧ w'.heap[x]? = some (.cells #[.pointer (some ⟨b, 0, none⟩), .pointer (some ⟨P.bc, 0, none⟩), .pointer (some ⟨p, 0, none⟩), .pointer (some ⟨q, 0, none⟩)] TPa)))
/-- what stands while open runs -/
structure OSt (w : World) (x b p n : Nat) (F : List Nat) (cv0 qv0 : Value) (m k : Int) (v : Value) (l : List (Int × Int)) (g c : Nat) (W : World) : Prop where
  kp : K.Kp w W F
  px : W.heap[x]? = some (.cells #[.pointer (some ⟨b, 0, none⟩), cv0, .pointer (some ⟨p, 0, none⟩), qv0] TPa)
  bs : W.heap[w.heap.size]? = some (.cells #[.int .i64 m, .int .i64 k, v] TSe)
  p0 : W.cell? ⟨p, 0, none⟩ = some (.int .i64 n)
  ar : ArgS W v l
  rw : W.ownsRow (w.heap.size + 1) TSp 2 (.slice (some ⟨g, 0, none⟩) (l.length + 2) c) (l.length + 2) (spcells (l ++ [(71, 0), (72, 0)]))
  gn : w.heap.size < g
  ff : x ∉ F ∧ p ∉ F ∧ (∀ i ∈ F, i < w.heap.size) ∧ (l ≠ [] → ∀ b' off n c, v = .slice (some ⟨b', off, none⟩) n c → b' ∉ F) ∧ p < w.heap.size ∧ x < w.heap.size
theorem OSt.step {w W W' : World} {x b p n : Nat} {F : List Nat} {cv0 qv0 : Value} {m k : Int} {v : Value} {l : List (Int × Int)} {g c : Nat} (h : OSt w x b p n F cv0 qv0 m k v l g c W) (hk : K.Kp W W' F) : OSt w x b p n F cv0 qv0 m k v l g c W' := by
  obtain ⟨f1, f2, f3, f4, f5, f6⟩ := h.ff
  have hsz := h.kp.size
  have hbl : w.heap.size < W.heap.size := (Array.getElem?_eq_some_iff.1 h.bs).1
  refine ⟨h.kp.trans hk (fun i hi => .inl hi), (hk.block x (by omega) f1).trans h.px, (hk.block _ hbl (fun hm => by have := f3 _ hm; omega)).trans h.bs, ?_, h.ar.kp hk f4, K.ownsRow_block h.rw (fun i e => ?_), h.gn, h.ff⟩
  · have hb := hk.block p (by omega) f2
    have h0 := h.p0
    unfold World.cell? at h0 ⊢; rw [hb]; exact h0
  · cases e
    refine hk.block g (K.row_lt h.rw g rfl).1 (fun hm => ?_)
    have h1 := f3 _ hm
    have h2 := h.gn
    omega
theorem OSt.drew {w W : World} {x b p n : Nat} {F : List Nat} {cv0 qv0 : Value} {m k : Int} {v : Value} {l : List (Int × Int)} {g c : Nat} (h : OSt w x b p n F cv0 qv0 m k v l g c W) : OSt w x b p n F cv0 qv0 m k v l g c W.drew := h.step ⟨rfl, rfl, rfl, Nat.le_refl _, fun _ _ _ => rfl⟩
set_option maxHeartbeats 8000000 in
theorem open_c {w : World} {x b ms ml p : Nat} {qv fv : Value} {S : K.Dk} {cv0 qv0 : Value} (h : K.RK w 0 b ms ml qv fv S)
    (hx : w.heap[x]? = some (.cells #[.pointer (some ⟨b, 0, none⟩), cv0, .pointer (some ⟨p, 0, none⟩), qv0] TPa)) (hp : w.cell? ⟨p, 0, none⟩ = some (.int .i64 S.n))
    (hxf : x ∉ K.fp b ms ml qv fv) (hpf : p ∉ K.fp b ms ml qv fv) (hpx : p ≠ x) {v : Value} {l : List (Int × Int)} (hv : ArgS w v l) (hvf : l ≠ [] → ∀ b' off n c, v = .slice (some ⟨b', off, none⟩) n c → b' ∉ K.fp b ms ml qv fv ∧ b' ≠ x)
    (hl : l.length ≤ 1048576) (hw : ∀ p ∈ l, I64 p.1 ∧ I64 p.2) (m k : Int) :
    Calls Tryz.prog 19 #[.pointer (some ⟨x, 0, none⟩), .agg #[.int .i64 m, .int .i64 k, v]] w fun r w' => r = .returned (.bool true) ∧ OpenPost w x b ms ml p qv fv S k l w' := by
  obtain ⟨ao, c0, rfl, _, hao⟩ := hv.form
  have hlt := h.lt
  have hxl : x < w.heap.size := (Array.getElem?_eq_some_iff.1 hx).1
  obtain ⟨W0, hW0⟩ : ∃ W0, W0 = w.alloc (.cells #[.int .i64 m, .int .i64 k, .slice ao l.length c0] TSe) := ⟨_, rfl⟩
  have hB0 : Below w.heap.size w W0 := by rw [hW0]; exact (Below.refl _ w).alloc (Nat.le_refl _) _
  have hbx : W0.heap[w.heap.size]? = some (.cells #[.int .i64 m, .int .i64 k, .slice ao l.length c0] TSe) := by rw [hW0]; exact heap_alloc_new w _
  have hs0 : W0.heap.size = w.heap.size + 1 := by rw [hW0]; simp
  have k2 : W0.cell? ⟨w.heap.size, 2, none⟩ = some (.slice ao l.length c0) := (K.cell_of hbx).trans rfl
  have hsp := spans_c (hv.later hB0) hl
  have HN : Hid (∀ W1 g c, Below W0.heap.size W0 W1 → W1.ownsRow W0.heap.size TSp 2 (.slice (some ⟨g, 0, none⟩) (l.length + 2) c) (l.length + 2) (spcells (l ++ [(71, 0), (72, 0)])) → OSt w x b p S.n (K.fp b ms ml qv fv) cv0 qv0 m k (.slice ao l.length c0) l g c W1 ∧ Calls Tryz.prog 20 #[.pointer (some ⟨b, 0, none⟩), .int .i64 k, .slice (some ⟨g, 0, none⟩) l.length c] W1.drew (NewPost W1.drew b ms ml qv fv S k l)) := fun W1 g c hb1 ho => by
    have hbw : Below w.heap.size w W1 := hB0.trans (hb1.mono hB0.size)
    have hg := K.row_lt ho g rfl
    have hpl : p < w.heap.size := by
      unfold World.cell? at hp
      rcases Nat.lt_or_ge p w.heap.size with hh | hh
      · exact hh
      · simp only at hp
        rw [Array.getElem?_eq_none hh] at hp
        simp at hp
    have hst : OSt w x b p S.n (K.fp b ms ml qv fv) cv0 qv0 m k (.slice ao l.length c0) l g c W1 := ⟨K.Kp.of_below hbw _, (hbw.block x hxl).trans hx, (hb1.block _ (by omega)).trans hbx, cell_later hbw hp, hv.later hbw, by rw [← hs0]; exact ho, by have := row_base ho (show (Value.slice (some ⟨g, 0, none⟩) (l.length + 2) c).ownBlock = some g from rfl); omega, hxf, hpf, hlt, fun hne b' off n c e => (hvf hne b' off n c e).1, hpl, hxl⟩
    refine ⟨hst, new_all (h.later hbw.drew) k (SpR.left (SpR.of_row hst.drew.rw)) hl hw (fun e => by cases e) (fun a e => by cases e; exact ⟨_, _, rfl⟩) (fun b' off e hm => ?_)⟩
    cases e
    have := hlt _ hm
    have h2 := hst.gn
    omega
  have HR : Hid (∀ W g c, OSt w x b p S.n (K.fp b ms ml qv fv) cv0 qv0 m k (.slice ao l.length c0) l g c W → Calls Tryz.prog 54 #[.pointer (some ⟨p, 0, none⟩), .int .i64 k, .slice ao l.length c0] W.drew (RnewPost W.drew p S.n k l) ∧ True) := fun W g c hst => ⟨rcnew_all hst.drew.p0 h.n0 h.n1 k hst.drew.ar hw, trivial⟩
  clear hv hvf hx hp hxf hpf hpx hbx hw hao hB0 h
  go_enter Tryz.func19, Tryz.ntmps19
  go_wp2_with fail
  rw [← hW0]
  refine Calls.mono hsp ?_
  clear hsp k2 hW0
  rintro e W1 ⟨g, c, rfl, hown, hb⟩
  obtain ⟨hst, hnew⟩ := HN.out W1 g c hb hown
  have HS1 : Hid (OSt w x b p S.n (K.fp b ms ml qv fv) cv0 qv0 m k (.slice ao l.length c0) l g c W1) := hst
  have q1 : W1.cell? ⟨x, 0, none⟩ = some (.pointer (some ⟨b, 0, none⟩)) := (K.cell_of hst.px).trans rfl
  have q2 : W1.cell? ⟨w.heap.size, 1, none⟩ = some (.int .i64 k) := (K.cell_of hst.bs).trans rfl
  clear hst hown hb HN
  go_wp2_with fail
  go_region_held3 (fun w' => w'.cell? ⟨x, 0, none⟩ = some (.pointer (some ⟨b, 0, none⟩)) ∧ w'.cell? ⟨w.heap.size, 1, none⟩ = some (.int .i64 k)) (first | exact ⟨(K.cell_of HS2.out.px).trans rfl, (K.cell_of HS2.out.bs).trans rfl⟩ | go_keep) (first | (go_at_call 20; refine Calls.mono hnew ?_; rintro e W2 ⟨cp, rfl, hkp, hcase⟩; have HS2 : Hid (OSt w x b p S.n (K.fp b ms ml qv fv) cv0 qv0 m k (.slice ao l.length c0) l g c W2) := (HS1.out.drew.step hkp); have HC2 : Hid ((cp = none ∧ newE S.n k l ≠ 0 ∧ K.RK W2 0 b ms ml qv fv S) ∨ (newE S.n k l = 0 ∧ ∃ P : Loc, cp = some ⟨P.bc, 0, none⟩ ∧ Made W1.drew W2 b ms ml qv fv S k.toNat l P)) := hcase; clear hcase hkp))
  clear q1 q2 hnew hs0
  have hrn := (HR.out W2 g c HS2.out).1
  have q1 : W2.cell? ⟨x, 2, none⟩ = some (.pointer (some ⟨p, 0, none⟩)) := (K.cell_of HS2.out.px).trans rfl
  have q2 : W2.cell? ⟨w.heap.size, 1, none⟩ = some (.int .i64 k) := (K.cell_of HS2.out.bs).trans rfl
  have q3 : W2.cell? ⟨w.heap.size, 2, none⟩ = some (.slice ao l.length c0) := (K.cell_of HS2.out.bs).trans rfl
  clear HR
  go_wp2_with fail
  go_region_held3 (fun w' => w'.cell? ⟨x, 2, none⟩ = some (.pointer (some ⟨p, 0, none⟩)) ∧ w'.cell? ⟨w.heap.size, 1, none⟩ = some (.int .i64 k) ∧ w'.cell? ⟨w.heap.size, 2, none⟩ = some (.slice ao l.length c0)) (first | exact ⟨(K.cell_of HS3.out.px).trans rfl, (K.cell_of HS3.out.bs).trans rfl, (K.cell_of HS3.out.bs).trans rfl⟩ | go_keep) (first | (go_at_call 54; refine Calls.mono hrn ?_; rintro e W3 ⟨qp, rfl, hb3, hcase⟩; have HS3 : Hid (OSt w x b p S.n (K.fp b ms ml qv fv) cv0 qv0 m k (.slice ao l.length c0) l g c W3) := (HS2.out.drew.step (K.Kp.of_below hb3 _)); have HC3 : Hid (Below W2.heap.size W2 W3 ∧ ((qp = none ∧ newE S.n k l ≠ 0) ∨ (newE S.n k l = 0 ∧ ∃ q, qp = some ⟨q, 0, none⟩ ∧ W2.heap.size ≤ q))) := (by refine ⟨⟨hb3.os, hb3.tape, hb3.output, hb3.size, hb3.block⟩, ?_⟩; rcases hcase with hh | ⟨e0, q, nv, e1, e2, _⟩; exact .inl hh; exact .inr ⟨e0, q, e1, e2⟩); clear hcase hb3))
  clear q1 q2 q3 hrn
  have hcap := (owns_capS HS3.out.rw).1
  have hkc := kept_c (SpR.of_row HS3.out.rw) hcap HS3.out.ar hl
  have q3 : W3.cell? ⟨w.heap.size, 2, none⟩ = some (.slice ao l.length c0) := (K.cell_of HS3.out.bs).trans rfl
  go_wp2_with fail
  refine Calls.mono hkc ?_
  clear hkc q3
  rintro e W4 ⟨rfl, hb4⟩
  have HS4 : Hid (OSt w x b p S.n (K.fp b ms ml qv fv) cv0 qv0 m k (.slice ao l.length c0) l g c W4) := HS3.out.step (K.Kp.of_below hb4 _)
  have HB4 : Hid (Below W2.heap.size W2 W4) := HC3.out.1.trans (hb4.mono HC3.out.1.size)
  have HG4 : Hid (∃ cur, W4.heap[g]? = some (.cells cur TSp) ∧ (l.length + 2) * 2 ≤ cur.size) := by
    rcases HS4.out.rw.2 with ⟨h0, _⟩ | ⟨g', cp', cur, h0, _, hg, h5, _, h7, _⟩
    · cases h0
    · cases h0
      exact ⟨cur, hg, by omega⟩
  obtain ⟨M, hM⟩ : ∃ M, M = l.length := ⟨_, rfl⟩
  rw [← hM] at hl hcap HG4
  have HM : Hid (M = l.length) := hM
  clear hb4
  rw [← hM]
  go_wp2
  go_loopw [11] (fun i wr => ∃ (j : Nat), j ≤ M ∧ i = .int .i64 j ∧ Hid (∃ cur, wr.heap[g]? = some (.cells cur TSp) ∧ (M + 2) * 2 ≤ cur.size) ∧ Hid (K.Kp W4 wr [g])) (fun i _ => M - (intOf i).toNat)
  case atStart => exact ⟨0, Nat.zero_le _, rfl, HG4, K.Kp.refl _ _⟩
  case round =>
    obtain ⟨j, hj, rfl, HGj, HKj⟩ := hrel
    by_cases hlj : j < M
    · have hjz : (j : Int) < (M : Int) := by omega
      obtain ⟨cur, hg, hcs⟩ := HGj.out
      obtain ⟨u0, hu0⟩ : ∃ u, cur[j * 2]? = some u := ⟨_, Array.getElem?_eq_getElem (by omega)⟩
      obtain ⟨u1, hu1⟩ : ∃ u, cur[j * 2 + 1]? = some u := ⟨_, Array.getElem?_eq_getElem (by omega)⟩
      have y0 : wr.cell? ⟨g, j * 2, none⟩ = some u0 := (K.cell_of hg).trans hu0
      have y1 : wr.cell? ⟨g, j * 2 + 1, none⟩ = some u1 := (K.cell_of hg).trans hu1
      have z0 : wr.frozen? ⟨g, j * 2, none⟩ = false := K.frozen_of hg
      have z1 : wr.frozen? ⟨g, j * 2 + 1, none⟩ = false := K.frozen_of hg
      have HG2 : Hid (∀ a b, ∃ cur', ((wr.setCell ⟨g, j * 2, none⟩ a).setCell ⟨g, j * 2 + 1, none⟩ b).heap[g]? = some (.cells cur' TSp) ∧ (M + 2) * 2 ≤ cur'.size) := fun a b => ⟨_, K.blk_set (K.blk_set hg _ a) _ b, by simpa using hcs⟩
      have HK2 : Hid (∀ a b, K.Kp W4 ((wr.setCell ⟨g, j * 2, none⟩ a).setCell ⟨g, j * 2 + 1, none⟩ b) [g]) := fun a b => (HKj.out.set (.inl (by simp)) _ _).set (.inl (by simp)) _ _
      have hjl : j < l.length := by have := HM.out; omega
      clear hg hu0 hu1
      go_wp2
      go_roundw
      case rel => exact ⟨j + 1, by omega, by go_num, HG2.out _ _, HK2.out _ _⟩
      case measure => simp [intOf]; omega
    · have hjz : ¬ (j : Int) < (M : Int) := by omega
      have hgx : x ≠ g := by have := HS4.out.gn; omega
      have hxw4 : x < W4.heap.size := Nat.lt_of_lt_of_le hxl HS4.out.kp.size
      have hpx : wr.heap[x]? = some (.cells #[.pointer (some ⟨b, 0, none⟩), cv0, .pointer (some ⟨p, 0, none⟩), qv0] TPa) := (HKj.out.block x hxw4 (by simpa using hgx)).trans HS4.out.px
      have HX : Hid (∀ u v, ((wr.setCell ⟨x, 1, none⟩ u).setCell ⟨x, 3, none⟩ v).heap[x]? = some (.cells #[.pointer (some ⟨b, 0, none⟩), u, .pointer (some ⟨p, 0, none⟩), v] TPa) ∧ K.Kp w ((wr.setCell ⟨x, 1, none⟩ u).setCell ⟨x, 3, none⟩ v) (x :: K.fp b ms ml qv fv) ∧ ∀ i, i < W4.heap.size → i ≠ g → i ≠ x → ((wr.setCell ⟨x, 1, none⟩ u).setCell ⟨x, 3, none⟩ v).heap[i]? = W4.heap[i]?) := fun u v => by
        refine ⟨K.blk_set (K.blk_set hpx 1 u) 3 v, ?_, fun i hi hig hix => (Below.heap_setCell _ _ _ _ hix).trans ((Below.heap_setCell _ _ _ _ hix).trans (HKj.out.block i hi (by simpa using hig)))⟩
        have h1 : K.Kp w W4 (x :: K.fp b ms ml qv fv) := HS4.out.kp.sub (fun i hi => .inl (List.mem_cons_of_mem _ hi))
        have h2 : K.Kp w wr (x :: K.fp b ms ml qv fv) := h1.trans HKj.out (fun i hi => by simp at hi; subst hi; exact .inr (Nat.le_of_lt HS4.out.gn))
        exact (h2.set (.inl (by simp)) _ _).set (.inl (by simp)) _ _
      have x1 : wr.cell? ⟨x, 1, none⟩ = some cv0 := (K.cell_of hpx).trans rfl
      have z1 : wr.frozen? ⟨x, 1, none⟩ = false := K.frozen_of hpx
      have x3 : ∀ u, (wr.setCell ⟨x, 1, none⟩ u).cell? ⟨x, 3, none⟩ = some qv0 := fun u => (K.cell_of (K.blk_set hpx 1 u)).trans rfl
      have z3 : ∀ u, (wr.setCell ⟨x, 1, none⟩ u).frozen? ⟨x, 3, none⟩ = false := fun u => K.frozen_of (K.blk_set hpx 1 u)
      have e1 := eq_cp
      have e2 : ∀ (w : World) (a : Addr), (binOp .eql 35 (.pointer (some a)) (.pointer none)).run Tryz.prog w = .ok (.bool false) w := fun _ _ => rfl
      have HLT : Hid (∀ i ∈ K.fp b ms ml qv fv, i < W4.heap.size ∧ i ≠ g ∧ i ≠ x) := fun i hi => by
        have h1 := hlt i hi
        have h2 := HS4.out.gn
        have h3 := HS4.out.kp.size
        refine ⟨by omega, by omega, fun e => ?_⟩
        subst e
        exact HS4.out.ff.1 hi
      have HGL : Hid (g < W1.heap.size) := (K.row_lt HS1.out.rw g rfl).1
      clear hpx hgx hxw4 HG4 HGj
      generalize hE : newE S.n k l = E at *
      have HE : Hid (newE S.n k l = E) := hE
      clear hE
      rcases HC2.out with ⟨rfl, hne, hrk⟩ | ⟨he, P, rfl, hMd⟩
      · rcases HC3.out.2 with ⟨rfl, _⟩ | ⟨he, _⟩
        · have HRK : Hid (K.RK W2 0 b ms ml qv fv S ∧ E ≠ 0) := ⟨hrk, hne⟩
          clear HC2 HC3 hrk hne
          go_wp2
          go_ret
          obtain ⟨g1, g2, g3⟩ := HX.out (.pointer none) (.pointer none)
          exact ⟨rfl, g2, .inl ⟨by rw [HE.out]; exact HRK.out.2, (HRK.out.1.later HB4.out).same (fun i hi => g3 i (HLT.out i hi).1 (HLT.out i hi).2.1 (HLT.out i hi).2.2), g1⟩⟩
        · exact absurd he hne
      · rcases HC3.out.2 with ⟨_, hne⟩ | ⟨_, q, rfl, hq⟩
        · exact absurd he hne
        · have HMd : Hid (Made W1.drew W2 b ms ml qv fv S k.toNat l P) := hMd
          have HQ : Hid (E = 0 ∧ W2.heap.size ≤ q) := ⟨he, hq⟩
          clear HC2 HC3 hMd he hq
          go_wp2
          go_ret
          obtain ⟨g1, g2, g3⟩ := HX.out (.pointer (some ⟨P.bc, 0, none⟩)) (.pointer (some ⟨q, 0, none⟩))
          obtain ⟨b1, b2, b3, b4, b5⟩ := HMd.out.bd
          have hw1 : w.heap.size ≤ W1.heap.size := HS1.out.kp.size
          have hfp : ∀ i ∈ P.fp [], i ∈ K.fp b ms ml qv fv ∨ W1.heap.size ≤ i := fun i hi => by
            simp only [Loc.fp, List.mem_append] at hi
            rcases hi with hi | hi
            · left
              rw [← b1, ← b2, ← b3, ← b4, ← b5]
              exact hi
            · right
              exact HMd.out.new i hi
          have hlt2 := HMd.out.rc.lt
          refine ⟨rfl, g2, .inr ⟨by rw [HE.out]; exact HQ.out.1, P, q, (HMd.out.rc.later HB4.out).same (fun i hi => ?_), b1, fun i hi => (hfp i hi).imp id (fun h => Nat.le_trans hw1 h), Nat.le_trans (HS2.out.kp.size) HQ.out.2, g1⟩⟩
          have h1 := hlt2 i hi
          have h2 := HB4.out.size
          rcases hfp i hi with h3 | h3
          · exact g3 i (HLT.out i h3).1 (HLT.out i h3).2.1 (HLT.out i h3).2.2
          · have h4 := HGL.out
            exact g3 i (by omega) (by omega) (by omega)
end Go.Proofs.YtlacligofhinmaaGreat.C

namespace Go.Proofs.YtlacligofhinmaaGreat.C
open Go.RowKit Go.Maps Go.Shelf Go.Proofs.YtlacligofhinmaaGreat
attribute [local go_sem] Oper.semAt_some
set_option linter.unusedVariables false
set_option linter.unusedSimpArgs false
set_option maxRecDepth 100000

/-- what made leaves -/
def MdPost (w : World) (r : Ending) (w' : World) : Prop :=
  ∃ x cv, r = .returned (.tuple #[.pointer (some ⟨x, 0, none⟩), .bool true]) ∧ Below w.heap.size w w' ∧ w'.cell? ⟨x, 1, none⟩ = some cv ∧ x < w'.heap.size ∧ (cv = .pointer none ∨ ∃ (P : Loc) (S : K.Dk) (k : Nat) (l : List (Int × Int)), cv = .pointer (some ⟨P.bc, 0, none⟩) ∧ RC w' P S (newCh k l))
set_option maxHeartbeats 4000000 in
theorem made_bad (w : World) (n k : Int) (v : Value) (h : n < 1 ∨ 65536 < n) : Calls Tryz.prog 9 #[.agg #[.int .i64 n, .int .i64 k, v]] w (MdPost w) := by
  obtain ⟨W0, hW0⟩ : ∃ W0, W0 = w.alloc (.cells #[.int .i64 n, .int .i64 k, v] TSe) := ⟨_, rfl⟩
  have hB0 : Below w.heap.size w W0 := by rw [hW0]; exact (Below.refl _ w).alloc (Nat.le_refl _) _
  have hbx : W0.heap[w.heap.size]? = some (.cells #[.int .i64 n, .int .i64 k, v] TSe) := by rw [hW0]; exact heap_alloc_new w _
  have k0 : W0.cell? ⟨w.heap.size, 0, none⟩ = some (.int .i64 n) := (K.cell_of hbx).trans rfl
  have h1 := K.new_bad W0 n h
  have h2 := rnew_bad W0 n h
  have HB0 : Hid (Below w.heap.size w W0) := hB0
  clear hB0 hbx h
  go_enter Tryz.func9, Tryz.ntmps9
  go_wp2_with fail
  rw [← hW0]
  refine Calls.mono h1 ?_
  clear h1 hW0
  rintro e W1 ⟨rfl, hw1⟩
  rw [hw1]
  clear hw1
  go_wp2_with fail
  refine Calls.mono h2 ?_
  clear h2
  rintro e W2 ⟨rfl, hw2⟩
  rw [hw2]
  clear hw2
  go_wp2
  refine bodyPost_ret (results_tmp2 rfl _ _ _) rfl ?_
  refine ⟨_, _, rfl, HB0.out.alloc HB0.out.size _, (K.cell_of (heap_alloc_new W0 _)).trans rfl, by rw [World.size_alloc]; omega, .inl rfl⟩
set_option maxHeartbeats 1000000 in
theorem made_open {w W0 W1 : World} {n b ms ml : Nat} (h0 : 1 ≤ n) (h1 : n ≤ 65536) (k : Int) {ao : Option Addr} {c0 : Nat} {l : List (Int × Int)} (hv : ArgS w (.slice ao l.length c0) l) (hl : l.length ≤ 1048576) (hw : ∀ p ∈ l, I64 p.1 ∧ I64 p.2)
    (hB0 : Below w.heap.size w W0) (hbx : W0.heap[w.heap.size]? = some (.cells #[.int .i64 n, .int .i64 k, .slice ao l.length c0] TSe)) (hs0 : W0.heap.size = w.heap.size + 1)
    (hrk : K.RK W1 0 b ms ml (.slice none 0 0) (.slice none 0 0) (K.newDk n)) (hb1 : Below W0.heap.size W0 W1) (hfp : ∀ i ∈ K.fp b ms ml (.slice none 0 0) (.slice none 0 0), W0.heap.size ≤ i) :
    W1.cell? ⟨w.heap.size, 0, none⟩ = some (.int .i64 n) ∧ Hid (Calls Tryz.prog 18 #[.int .i64 n] W1 fun r w' => r = .returned (.tuple #[.pointer (some ⟨W1.heap.size, 0, none⟩), .int .i64 0]) ∧ w' = W1.alloc (.cells (rdcells n) TRd)) ∧
      Hid (∀ W3, W3 = ((W1.alloc (.cells (rdcells n) TRd)).alloc (.cells #[.pointer (some ⟨b, 0, none⟩), .pointer none, .pointer (some ⟨W1.heap.size, 0, none⟩), .pointer none] TPa)) → (W3.cell? ⟨w.heap.size, 0, none⟩ = some (.int .i64 n) ∧ W3.cell? ⟨w.heap.size, 1, none⟩ = some (.int .i64 k) ∧ W3.cell? ⟨w.heap.size, 2, none⟩ = some (.slice ao l.length c0)) ∧
      Calls Tryz.prog 19 #[.pointer (some ⟨W1.heap.size + 1, 0, none⟩), .agg #[.int .i64 n, .int .i64 k, .slice ao l.length c0]] W3 fun r w' => r = .returned (.bool true) ∧ MdPost w (.returned (.tuple #[.pointer (some ⟨W1.heap.size + 1, 0, none⟩), .bool true])) w') := by
  have k0 : W0.cell? ⟨w.heap.size, 0, none⟩ = some (.int .i64 n) := (K.cell_of hbx).trans rfl
  have hlt := hrk.lt
  have hbw : Below w.heap.size w W1 := hB0.trans (hb1.mono hB0.size)
  have hsz := hbw.size
  have hsz1 := hb1.size
  obtain ⟨W2, hW2⟩ : ∃ W2, W2 = W1.alloc (.cells (rdcells n) TRd) := ⟨_, rfl⟩
  have hs2 : W2.heap.size = W1.heap.size + 1 := by rw [hW2]; simp
  have hb2 : Below W1.heap.size W1 W2 := by rw [hW2]; exact (Below.refl _ W1).alloc (Nat.le_refl _) _
  refine ⟨cell_later hb1 k0, rnew_any W1 n h0 h1, fun W3 hW3 => ?_⟩
  rw [← hW2] at hW3
  have hb3 : Below W2.heap.size W2 W3 := by rw [hW3]; exact (Below.refl _ W2).alloc (Nat.le_refl _) _
  have hs3 : W3.heap.size = W2.heap.size + 1 := by rw [hW3]; simp
  have hx3 : W3.heap[W1.heap.size + 1]? = some (.cells #[.pointer (some ⟨b, 0, none⟩), .pointer none, .pointer (some ⟨W1.heap.size, 0, none⟩), .pointer none] TPa) := by rw [hW3, ← hs2]; exact heap_alloc_new W2 _
  have hb13 : Below W1.heap.size W1 W3 := hb2.trans (hb3.mono hb2.size)
  have hbw3 : Below w.heap.size w W3 := hbw.trans (hb13.mono hbw.size)
  have hp3 : W3.cell? ⟨W1.heap.size, 0, none⟩ = some (.int .i64 n) := by
    have : W2.heap[W1.heap.size]? = some (.cells (rdcells n) TRd) := by rw [hW2]; exact heap_alloc_new W1 _
    exact cell_later hb3 ((K.cell_of this).trans rfl)
  have hb03 : Below W0.heap.size W0 W3 := hb1.trans (hb13.mono hb1.size)
  have hbx3 := (hb03.block _ (by omega)).trans hbx
  clear hW3 hW2
  have hopen := open_c (hrk.later hb13) hx3 hp3 (fun hm => by have := hlt _ hm; omega) (fun hm => by have := hlt _ hm; omega) (by omega) (hv.later hbw3) (fun hne b' off n' c e => ⟨fun hm => by have h5 := hfp _ hm; have h6 := hv.lt hne e; omega, fun e2 => by have h6 := hv.lt hne e; omega⟩) hl hw n k
  refine ⟨⟨(K.cell_of hbx3).trans rfl, (K.cell_of hbx3).trans rfl, (K.cell_of hbx3).trans rfl⟩, hopen.mono ?_⟩
  rintro r w' ⟨rfl, hkp, hcase⟩
  refine ⟨rfl, ?_⟩
  have hbel : Below w.heap.size w w' := hbw3.trans (hkp.below (fun i hi => by
    rcases List.mem_cons.1 hi with rfl | hi
    · omega
    · have := hfp i hi; omega) (by omega))
  rcases hcase with ⟨_, _, hx⟩ | ⟨_, P, q, hrc, _, _, _, hx⟩
  · exact ⟨_, _, rfl, hbel, (K.cell_of hx).trans rfl, (Array.getElem?_eq_some_iff.1 hx).1, .inl rfl⟩
  · exact ⟨_, _, rfl, hbel, (K.cell_of hx).trans rfl, (Array.getElem?_eq_some_iff.1 hx).1, .inr ⟨P, _, _, _, rfl, hrc⟩⟩
end Go.Proofs.YtlacligofhinmaaGreat.C

namespace Go.Proofs.YtlacligofhinmaaGreat.C
open Go.RowKit Go.Maps Go.Shelf Go.Proofs.YtlacligofhinmaaGreat
attribute [local go_sem] Oper.semAt_some
set_option linter.unusedVariables false
set_option linter.unusedSimpArgs false
set_option maxRecDepth 100000

set_option maxHeartbeats 2000000 in
theorem made_c (w : World) (n : Nat) (h0 : 1 ≤ n) (h1 : n ≤ 65536) (k : Int) {v : Value} {l : List (Int × Int)} (hv : ArgS w v l) (hl : l.length ≤ 1048576) (hw : ∀ p ∈ l, I64 p.1 ∧ I64 p.2) :
    Calls Tryz.prog 9 #[.agg #[.int .i64 n, .int .i64 k, v]] w (MdPost w) := by
  obtain ⟨ao, c0, rfl, _⟩ := hv.form
  obtain ⟨W0, hW0⟩ : ∃ W0, W0 = w.alloc (.cells #[.int .i64 n, .int .i64 k, .slice ao l.length c0] TSe) := ⟨_, rfl⟩
  have hB0 : Below w.heap.size w W0 := by rw [hW0]; exact (Below.refl _ w).alloc (Nat.le_refl _) _
  have hbx : W0.heap[w.heap.size]? = some (.cells #[.int .i64 n, .int .i64 k, .slice ao l.length c0] TSe) := by rw [hW0]; exact heap_alloc_new w _
  have hs0 : W0.heap.size = w.heap.size + 1 := by rw [hW0]; simp
  have k0 : W0.cell? ⟨w.heap.size, 0, none⟩ = some (.int .i64 n) := (K.cell_of hbx).trans rfl
  have HN : Hid (Calls Tryz.prog 17 #[.int .i64 n] W0 fun r w' => ∃ b, r = .returned (.tuple #[.pointer (some ⟨b, 0, none⟩), .int .i64 0]) ∧ ∃ ms ml, K.RK w' 0 b ms ml (.slice none 0 0) (.slice none 0 0) (K.newDk n) ∧ Below W0.heap.size W0 w' ∧ ∀ i ∈ K.fp b ms ml (.slice none 0 0) (.slice none 0 0), W0.heap.size ≤ i) := K.new_any W0 n h0 h1
  have HM := fun (W1 : World) (b ms ml : Nat) hrk hb1 hfp => made_open (W1 := W1) (b := b) (ms := ms) (ml := ml) h0 h1 k hv hl hw hB0 hbx hs0 hrk hb1 hfp
  have HMh : Hid (∀ (W1 : World) (b ms ml : Nat), K.RK W1 0 b ms ml (.slice none 0 0) (.slice none 0 0) (K.newDk n) → Below W0.heap.size W0 W1 → (∀ i ∈ K.fp b ms ml (.slice none 0 0) (.slice none 0 0), W0.heap.size ≤ i) → _) := HM
  clear hv hw hB0 hbx hl HM hs0
  have e1 : ∀ (w : World) (a : Addr), (binOp .eql 32 (.pointer (some a)) (.pointer none)).run Tryz.prog w = .ok (.bool false) w := fun _ _ => rfl
  have e2 : ∀ (w : World) (a : Addr), (binOp .eql 34 (.pointer (some a)) (.pointer none)).run Tryz.prog w = .ok (.bool false) w := fun _ _ => rfl
  go_enter Tryz.func9, Tryz.ntmps9
  go_wp2_with fail
  rw [← hW0]
  refine Calls.mono HN.out ?_
  clear HN hW0 k0
  rintro e W1 ⟨b, rfl, ms, ml, hrk, hb1, hfp⟩
  obtain ⟨k0, HR2, HOP⟩ := HMh.out W1 b ms ml hrk hb1 hfp
  clear HMh hrk hb1 hfp
  go_wp2_with fail
  refine Calls.mono HR2.out ?_
  clear HR2 k0
  rintro e W2 ⟨rfl, hw2⟩
  obtain ⟨⟨q0, q1, q2⟩, hop⟩ := HOP.out _ rfl
  have HP2 := HOP
  clear HOP
  rw [hw2]
  clear hw2
  have HO2 : Hid (Calls Tryz.prog 19 #[.pointer (some ⟨W1.heap.size + 1, 0, none⟩), .agg #[.int .i64 n, .int .i64 k, .slice ao l.length c0]] ((W1.alloc (.cells (rdcells n) TRd)).alloc (.cells #[.pointer (some ⟨b, 0, none⟩), .pointer none, .pointer (some ⟨W1.heap.size, 0, none⟩), .pointer none] TPa)) fun r w' => r = .returned (.bool true) ∧ MdPost w (.returned (.tuple #[.pointer (some ⟨W1.heap.size + 1, 0, none⟩), .bool true])) w') := hop
  clear hop HP2
  go_wp2_with fail
  refine Calls.mono HO2.out ?_
  clear HO2 q0 q1 q2
  rintro e W4 ⟨rfl, hmp⟩
  have HMP : Hid (MdPost w (.returned (.tuple #[.pointer (some ⟨W1.heap.size + 1, 0, none⟩), .bool true])) W4) := hmp
  clear hmp
  go_wp2
  refine bodyPost_ret (results_tmp2 rfl _ _ _) rfl ?_
  exact HMP.out
end Go.Proofs.YtlacligofhinmaaGreat.C

namespace Go.Proofs.YtlacligofhinmaaGreat.C
open Go.ChangeShapes Go.WideShapes Go.ChangeAt Go.RowKit Go.Deep
set_option linter.unusedVariables false
set_option maxRecDepth 100000

theorem laidOut : laidOutB Tryz.prog = true := by kernel_rfl
theorem cellsInt : Tryz.prog.cellsOf 3 = 1 := by kernel_rfl
theorem cellsU8 : Tryz.prog.cellsOf 5 = 1 := by kernel_rfl
theorem cellsOp : Tryz.prog.cellsOf 44 = 11 := by kernel_rfl
theorem elevenV {cs : List Value} (h : cs.length = 11) : ∃ a b c d e f g i j k l, cs = [a, b, c, d, e, f, g, i, j, k, l] := by
  match cs, h with
  | [a, b, c, d, e, f, g, i, j, k, l], _ => exact ⟨a, b, c, d, e, f, g, i, j, k, l, rfl⟩
theorem own : ownKnob Tryz.prog.godebug = none := by kernel_rfl
theorem cellsSpan : Tryz.prog.cellsOf 68 = 2 := by kernel_rfl
theorem cellsSpans : Tryz.prog.cellsOf 22 = 1 := by kernel_rfl
theorem cellsSetup : Tryz.prog.cellsOf 24 = 3 := by kernel_rfl
theorem twoV {cs : List Value} (h : cs.length = 2) : ∃ a b, cs = [a, b] := by
  match cs, h with
  | [a, b], _ => exact ⟨a, b, rfl⟩
theorem threeV {cs : List Value} (h : cs.length = 3) : ∃ a b c, cs = [a, b, c] := by
  match cs, h with
  | [a, b, c], _ => exact ⟨a, b, c, rfl⟩
theorem threeD {H : Type} {cs : List (DataW H × List MemPlace)} (h : cs.length = 3) : ∃ a b c, cs = [a, b, c] := by
  match cs, h with
  | [a, b, c], _ => exact ⟨a, b, c, rfl⟩
theorem twoD {H : Type} {cs : List (DataW H × List MemPlace)} (h : cs.length = 2) : ∃ a b, cs = [a, b] := by
  match cs, h with
  | [a, b], _ => exact ⟨a, b, rfl⟩
theorem open_span {H : Type} {enc : TypeId × Value → H} {W : World} {base fuel : Nat} {cs : List Value} {d : DataW H} {p : List MemPlace} (hf : DataW.trod enc Tryz.prog W base (fun _ => true) true fuel 68 cs = some (d, p)) :
    ∃ q : Int × Int, cs = [.int .i64 q.1, .int .i64 q.2] ∧ I64 q.1 ∧ I64 q.2 := by
  obtain ⟨xs, m, _, hx, hl, hxl, hall⟩ := DataW.trod_struct Tryz.underlying68 hf
  obtain ⟨a, b, rfl⟩ := twoV (hl.trans cellsSpan)
  obtain ⟨y0, y1, rfl⟩ := twoD (show xs.length = 2 from hxl)
  have h0 : DataW.trod enc Tryz.prog W base (fun _ => true) true m 3 (([a, b].drop 0).take (Tryz.prog.cellsOf 3)) = some y0 := hall 0 _ rfl
  have h1 : DataW.trod enc Tryz.prog W base (fun _ => true) true m 3 (([a, b].drop 1).take (Tryz.prog.cellsOf 3)) = some y1 := hall 1 _ rfl
  rw [cellsInt] at h0 h1
  obtain ⟨z0, e0, _, w0⟩ := DataW.trod_int Tryz.underlying3 h0
  obtain ⟨z1, e1, _, w1⟩ := DataW.trod_int Tryz.underlying3 h1
  simp at e0 e1
  subst e0; subst e1
  exact ⟨(z0, z1), rfl, bounds_i64 w0, bounds_i64 w1⟩
/-- a list of spans that was read -/
theorem open_spans {H : Type} {enc : TypeId × Value → H} {W : World} {base fuel : Nat} {v : Value} {d : DataW H} {p : List MemPlace} (hf : DataW.trod enc Tryz.prog W base (fun _ => true) true fuel 22 [v] = some (d, p)) :
    ∃ l : List (Int × Int), ArgS W v l ∧ (∀ p ∈ l, I64 p.1 ∧ I64 p.2) ∧ l.length + 1 ≤ Rows.uptoBulk d := by
  rcases open_slice Tryz.underlying22 hf with ⟨hcs, hx⟩ | ⟨x, len, cap, m, n, D, Pl, hcs, _, hl, hm, hmm, hx, hel⟩
  · simp at hcs
    subst hcs
    have hd : d = .nil := (Prod.mk.inj hx).1
    exact ⟨[], .inl ⟨rfl, rfl⟩, fun p hp => by simp at hp, by rw [hd]; simp [Rows.uptoBulk]⟩
  · simp at hcs
    subst hcs
    have hd : d = .slice ((List.range len).map D) ((List.range (m - len)).map fun j => D (len + j)) := (Prod.mk.inj hx).1
    have hsl := bulk_slice (H := H) ((List.range len).map D) ((List.range (m - len)).map fun j => D (len + j))
    have hs1 := length_le_bulk (H := H) ((List.range len).map D)
    rw [← hd] at hsl
    simp only [List.length_map, List.length_range] at hs1
    have hmc : m = cap := by simpa using hmm
    have hel' : ∀ i, ∃ q : Int × Int, i < len → (I64 q.1 ∧ I64 q.2) ∧ ∀ j, j < 2 → W.cell? ((x.add (i * 2)).add j) = [Value.int .i64 q.1, .int .i64 q.2][j]? := by
      intro i
      by_cases hi : i < len
      · obtain ⟨cs', hc1, hc2⟩ := hel i (by omega)
        rw [cellsSpan] at hc1
        obtain ⟨q, rfl, hq⟩ := open_span hc2
        exact ⟨q, fun _ => ⟨hq, (World.cells?_some hc1).2.2⟩⟩
      · exact ⟨(0, 0), fun h => absurd h hi⟩
    obtain ⟨T, hT⟩ := Classical.axiomOfChoice hel'
    by_cases hz : len = 0
    · subst hz
      exact ⟨[], .inr ⟨x, cap, rfl, fun k p hk => by simp at hk⟩, fun p hp => by simp at hp, by simp; omega⟩
    · obtain ⟨pb, po, rfl⟩ : ∃ pb po, x = ⟨pb, po, none⟩ := by
        have h0 := (hT 0 (by omega)).2 0 (by decide)
        have h1 := World.cell?_spot (show W.cell? ((x.add (0 * 2)).add 0) = some (.int .i64 (T 0).1) from h0)
        obtain ⟨b, off, spot⟩ := x
        have : spot = none := by simpa [Addr.add] using h1
        exact ⟨b, off, by rw [this]⟩
      refine ⟨(List.range len).map T, .inr ⟨⟨pb, po, none⟩, cap, by simp, fun k q hk => ?_⟩, fun q hq => ?_, by simp; omega⟩
      · have hk2 : k < len := by
          have := (List.getElem?_eq_some_iff.1 hk).1
          simpa using this
        have hq : T k = q := by simpa [hk2] using hk
        have g0 := (hT k hk2).2 0 (by decide)
        have g1 := (hT k hk2).2 1 (by decide)
        rw [add_plain, add_plain] at g0 g1
        rw [hq] at g0 g1
        have hlt : pb < W.heap.size := by
          have g0' : W.cell? ⟨pb, po + k * 2 + 0, none⟩ = some (.int .i64 q.1) := g0
          unfold World.cell? at g0'
          rcases Nat.lt_or_ge pb W.heap.size with hh | hh
          · exact hh
          · simp only at g0'
            rw [Array.getElem?_eq_none hh] at g0'
            simp at g0'
        exact ⟨pb, po, rfl, hlt, g0, g1⟩
      · simp only [List.mem_map, List.mem_range] at hq
        obtain ⟨k, hk, rfl⟩ := hq
        exact (hT k hk).1
/-- a setup that was read -/
theorem open_setup {H : Type} {enc : TypeId × Value → H} {W : World} {base fuel : Nat} {cs : List Value} {d : DataW H} {p : List MemPlace} (hf : DataW.trod enc Tryz.prog W base (fun _ => true) true fuel 24 cs = some (d, p)) :
    ∃ (n k : Int) (v : Value) (l : List (Int × Int)), cs = [.int .i64 n, .int .i64 k, v] ∧ ArgS W v l ∧ (∀ p ∈ l, I64 p.1 ∧ I64 p.2) ∧ l.length ≤ Rows.uptoBulk d := by
  obtain ⟨xs, m, _, hx, hl, hxl, hall⟩ := DataW.trod_struct Tryz.underlying24 hf
  obtain ⟨a, b, c, rfl⟩ := threeV (hl.trans cellsSetup)
  obtain ⟨y0, y1, y2, rfl⟩ := threeD (show xs.length = 3 from hxl)
  have h0 : DataW.trod enc Tryz.prog W base (fun _ => true) true m 3 (([a, b, c].drop 0).take (Tryz.prog.cellsOf 3)) = some y0 := hall 0 _ rfl
  have h1 : DataW.trod enc Tryz.prog W base (fun _ => true) true m 3 (([a, b, c].drop 1).take (Tryz.prog.cellsOf 3)) = some y1 := hall 1 _ rfl
  have h2 : DataW.trod enc Tryz.prog W base (fun _ => true) true m 22 (([a, b, c].drop 2).take (Tryz.prog.cellsOf 22)) = some y2 := hall 2 _ rfl
  rw [cellsInt] at h0 h1
  rw [cellsSpans] at h2
  obtain ⟨z0, e0, _, w0⟩ := DataW.trod_int Tryz.underlying3 h0
  obtain ⟨z1, e1, _, w1⟩ := DataW.trod_int Tryz.underlying3 h1
  simp at e0 e1
  subst e0; subst e1
  obtain ⟨d2, p2⟩ := y2
  obtain ⟨l, g1, g2, g3⟩ := open_spans (v := c) (by simpa using h2)
  refine ⟨z0, z1, c, l, rfl, g1, g2, ?_⟩
  have hd := (Prod.mk.inj hx).1
  simp at hd
  rw [hd]
  simp [Rows.uptoBulk, Rows.uptoBulkAll]
  omega
end Go.Proofs.YtlacligofhinmaaGreat.C

namespace Go.Proofs.YtlacligofhinmaaGreat.C
open Go.RowKit Go.Maps Go.Shelf Go.Proofs.YtlacligofhinmaaGreat
attribute [local go_sem] Oper.semAt_some
set_option linter.unusedVariables false
set_option linter.unusedSimpArgs false
set_option maxRecDepth 100000

abbrev TPts : TypeId := 71
abbrev TPt : TypeId := 74
abbrev TBy : TypeId := 52
/-- a list from its end on, with the places -/
def backL (ps : List K.Pv) : List (Nat × K.Pv) := (ps.zipIdx.map fun x => (x.2, x.1)).reverse
theorem backL_snoc (ps : List K.Pv) (p : K.Pv) : backL (ps ++ [p]) = (ps.length, p) :: backL ps := by
  simp [backL, List.zipIdx_append]
theorem backL_len (ps : List K.Pv) : (backL ps).length = ps.length := by simp [backL]
theorem back_ind {M : List K.Pv → Prop} (h0 : M []) (hs : ∀ ps p, M ps → M (ps ++ [p])) (ps : List K.Pv) : M ps := by
  obtain ⟨qs, rfl⟩ : ∃ qs : List K.Pv, ps = qs.reverse := ⟨ps.reverse, by simp⟩
  induction qs with
  | nil => exact h0
  | cons q qs ih => rw [List.reverse_cons]; exact hs _ _ ih
theorem backL_get {ps : List K.Pv} : ∀ {i : Nat} {p : K.Pv}, ps[i]? = some p → (backL ps)[ps.length - 1 - i]? = some (i, p) := by
  refine back_ind (M := fun ps => ∀ {i : Nat} {p : K.Pv}, ps[i]? = some p → (backL ps)[ps.length - 1 - i]? = some (i, p)) (fun {i p} h => by simp at h) (fun ps q ih {i p} h => ?_) ps
  rw [backL_snoc, List.length_append, List.length_singleton]
  have hi : i < ps.length + 1 := by have := (List.getElem?_eq_some_iff.1 h).1; simpa using this
  by_cases e : i = ps.length
  · subst e
    simp at h
    subst h
    simp
  · rw [List.getElem?_append_left (by omega)] at h
    have := ih h
    rw [show ps.length + 1 - 1 - i = ps.length - 1 - i + 1 by omega, List.getElem?_cons_succ]
    exact this
theorem mem_backL {ps : List K.Pv} : ∀ {x : Nat × K.Pv}, x ∈ backL ps → x.2 ∈ ps := by
  refine back_ind (M := fun ps => ∀ {x : Nat × K.Pv}, x ∈ backL ps → x.2 ∈ ps) (fun {x} h => by simp [backL] at h) (fun ps q ih {x} h => ?_) ps
  rw [backL_snoc] at h
  rcases List.mem_cons.1 h with rfl | h
  · simp
  · exact List.mem_append_left _ (ih h)
/-- what the last write of a sector is, read from the end on -/
theorem back_last (s : Nat) : ∀ (ps : List K.Pv), K.lastQ s (ps.map K.bare) = ((backL ps).find? fun x => decide (x.2.1 = s)).map fun x => x.2.2.2 := by
  refine back_ind rfl (fun ps p ih => ?_)
  rw [List.map_append, List.map_singleton, K.lastQ_snoc, backL_snoc, List.find?_cons]
  by_cases e : p.1 = s
  · simp [K.bare, e]
  · simp only [K.bare, e, decide_false, if_false]
    exact ih
/-- writes that were told, in cells -/
def PtR (w : World) (ao : Option Addr) (ps : List K.Pv) : Prop := ∀ k p, ps[k]? = some p → ∃ g, ao = some ⟨g, 0, none⟩ ∧ g < w.heap.size ∧ w.cell? ⟨g, k * 2, none⟩ = some (.int .i64 p.1) ∧ w.cell? ⟨g, k * 2 + 1, none⟩ = some p.2.1
theorem qcells_get (l : List K.Pv) (k : Nat) (p : K.Pv) (h : l[k]? = some p) : (K.qcells l)[k * 2]? = some (.int .i64 p.1) ∧ (K.qcells l)[k * 2 + 1]? = some p.2.1 := by
  induction l generalizing k with
  | nil => simp at h
  | cons a t ih =>
    cases k with
    | zero => simp at h; subst h; simp [K.qcells, K.qcell]
    | succ k =>
      have := ih k (by simpa using h)
      simp only [K.qcells, K.qcell, List.flatMap_cons] at this ⊢
      constructor
      · rw [show (k + 1) * 2 = k * 2 + 2 by omega]; simpa using this.1
      · rw [show (k + 1) * 2 + 1 = k * 2 + 1 + 2 by omega]; simpa using this.2
theorem told_form {w : World} {B : Nat} {v : Value} {ps : List K.Pv} (h : K.Told w B v ps) : ∃ ao cap, v = .slice ao ps.length cap ∧ PtR w ao ps := by
  rcases h.row.2 with ⟨rfl, h0⟩ | ⟨g, cap, cur, rfl, _, hg, _⟩
  · exact ⟨none, 0, by rw [h0], fun k p hk => by have := (List.getElem?_eq_some_iff.1 hk).1; omega⟩
  · refine ⟨_, cap, rfl, fun k p hk => ?_⟩
    obtain ⟨h1, h2⟩ := qcells_get ps k p hk
    have c1 := h.row.cells (g := g) rfl _ _ h1
    have c2 := h.row.cells (g := g) rfl _ _ h2
    rw [WideShapes.add_plain, Nat.zero_add] at c1 c2
    exact ⟨g, rfl, (Array.getElem?_eq_some_iff.1 hg).1, c1, c2⟩
theorem backward_c (w : World) (ao : Option Addr) (n cap : Nat) : Calls Tryz.prog 156 #[.slice ao n cap] w fun r w' => r = .returned (.func (.func 177) #[] #[.pointer (some ⟨w.heap.size, 0, none⟩)]) ∧ w' = w.alloc (.cells #[.slice ao n cap] TPts) := by
  have hmf : ∀ (fn : Fn) (first cap : Array Value) (w : World), (Instr.makeFunc fn first cap).run Tryz.prog w = .ok (.func fn first cap) w := fun _ _ _ _ => rfl
  go_enter Tryz.func156, Tryz.ntmps156
  go_wp2
  go_ret
  exact ⟨rfl, rfl⟩
set_option maxHeartbeats 4000000 in
theorem back_seq {β : Type} (f : β → Nat × K.Pv) (L : List β) (n : Nat) (hn : 1 ≤ n) {H : Nat} {w : World} {bx cap : Nat} {ao : Option Addr} {ps : List K.Pv} (hLf : L.map f = backL ps) (hc : w.cell? ⟨bx, 0, none⟩ = some (.slice ao ps.length cap)) (hbx : bx < H) (hr : PtR w ao ps) (hHr : ∀ (k : Nat) (p : K.Pv), ps[k]? = some p → ∀ g, ao = some ⟨g, 0, none⟩ → g < H) (hl : ps.length ≤ 1048576) :
    SeqStopsK Fence.wide n Tryz.prog 177 #[.pointer (some ⟨bx, 0, none⟩)] (fun x : β => #[.int .i64 (f x).1, .agg #[.int .i64 (f x).2.1, (f x).2.2.1]]) (KpH H) (fun ys => ys = L) (fun pre => ∃ rest, L = pre ++ rest) ps.length w := by
  intro lv J Jx W hW hJ hJx hY h0
  obtain ⟨m, hm⟩ : ∃ m, m = ps.length := ⟨_, rfl⟩
  rw [← hm] at hc hY hl
  have HR0 : Hid ((∀ k p, ps[k]? = some p → ∃ g, ao = some ⟨g, 0, none⟩ ∧ g < H ∧ W.cell? ⟨g, k * 2, none⟩ = some (.int .i64 p.1) ∧ W.cell? ⟨g, k * 2 + 1, none⟩ = some p.2.1) ∧ W.cell? ⟨bx, 0, none⟩ = some (.slice ao m cap)) := ⟨fun k p hk => by
    obtain ⟨g, e, _, h1, h2⟩ := hr k p hk
    exact ⟨g, e, hHr k p hk g e, cell_later hW h1, cell_later hW h2⟩, cell_later hW hc⟩
  have d0 : W.cell? ⟨bx, 0, none⟩ = some (.slice ao m cap) := cell_later hW hc
  obtain ⟨xs, hxs⟩ : ∃ xs, xs = L := ⟨_, rfl⟩
  have HX : Hid (∀ i p, ps[i]? = some p → ∃ x, xs[m - 1 - i]? = some x ∧ f x = (i, p)) := fun i p hp => by
    have h1 := backL_get hp
    rw [← hLf, ← hxs, ← hm, List.getElem?_map] at h1
    cases hx : xs[m - 1 - i]? with
    | none => rw [hx] at h1; cases h1
    | some x => rw [hx] at h1; exact ⟨x, rfl, by simpa using h1⟩
  have HL : Hid (xs.length = m) := by
    show _ = _
    have h1 := congrArg List.length hLf
    rw [List.length_map, backL_len] at h1
    rw [hxs, h1, hm]
  rw [← hxs]
  have HM : Hid (m = ps.length) := hm
  have HJ0 : Hid (J [] W) := h0
  clear hm hr hc hW h0 hHr hJ hxs hLf
  have hf : Fence.wide.fn 177 := trivial
  refine callsIn_of_wp Tryz.func177 rfl hf ?_ rfl
  simp only [Tryz.ntmps177, List.size_toArray, List.length_cons, List.length_nil, Nat.reduceAdd, Nat.reduceSub, Array.replicate_succ, Array.replicate_zero, List.push_toArray, List.append_toArray, List.nil_append, List.cons_append]
  gi_wp2
  gi_loopw [3] (fun i wr => ∃ (k : Nat), i = .int .i64 ((m : Int) - 1 - k) ∧ k ≤ m ∧ Hid (J (xs.take k) wr) ∧ Hid ((∀ k p, ps[k]? = some p → ∃ g, ao = some ⟨g, 0, none⟩ ∧ g < H ∧ wr.cell? ⟨g, k * 2, none⟩ = some (.int .i64 p.1) ∧ wr.cell? ⟨g, k * 2 + 1, none⟩ = some p.2.1) ∧ wr.cell? ⟨bx, 0, none⟩ = some (.slice ao m cap))) (fun i _ => (intOf i + 1).toNat)
  case atStart => exact ⟨0, by go_num, Nat.zero_le _, HJ0, HR0⟩
  case round =>
    obtain ⟨k, rfl, hk, HJk, HRk⟩ := hrel
    by_cases hlt : k < m
    · obtain ⟨i, hi⟩ : ∃ i : Nat, (i : Int) = (m : Int) - 1 - k := ⟨m - 1 - k, by omega⟩
      rw [← hi]
      have hik : m - 1 - i = k := by omega
      have hi0 : (0 : Int) ≤ (i : Int) := by omega
      have him : (i : Int) < (m : Int) := by omega
      obtain ⟨p, hp⟩ : ∃ p, ps[i]? = some p := ⟨_, List.getElem?_eq_getElem (by have := HM.out; omega)⟩
      obtain ⟨g, rfl, hg, c0, c1⟩ := HRk.out.1 i p hp
      have e0 := HRk.out.2
      obtain ⟨x, hxk, hfx⟩ : ∃ x, xs[k]? = some x ∧ f x = (i, p) := by have := HX.out i p hp; rwa [hik] at this
      have HT : Hid (xs.take k ++ [x] = xs.take (k + 1)) := by
        show _ = _
        rw [List.take_add_one, hxk]; rfl
      have hlen : (xs.take k).length < m := by rw [List.length_take]; have := HL.out; omega
      have hyy := hY (xs.take k) x _ HJk.out hlen
      rw [hfx] at hyy
      obtain ⟨fn, tmps, assign, body, hy, hR⟩ := hyy
      rw [HT.out] at hR
      have HRz : Hid (∀ W3, KpH H wr W3 → (∀ k p, ps[k]? = some p → ∃ g', (some ⟨g, 0, none⟩ : Option Addr) = some ⟨g', 0, none⟩ ∧ g' < H ∧ W3.cell? ⟨g', k * 2, none⟩ = some (.int .i64 p.1) ∧ W3.cell? ⟨g', k * 2 + 1, none⟩ = some p.2.1) ∧ W3.cell? ⟨bx, 0, none⟩ = some (.slice (some ⟨g, 0, none⟩) m cap)) := fun W3 hk3 => ⟨fun k' p' hk' => by
        obtain ⟨g', e, h1, h2, h3⟩ := HRk.out.1 k' p' hk'
        exact ⟨g', e, h1, cell_kpH hk3 h1 h2, cell_kpH hk3 h1 h3⟩, cell_kpH hk3 hbx HRk.out.2⟩
      have HI : Hid ((i : Int) = (m : Int) - 1 - k) := hi
      clear hp hlen hY HRk HR0 hxk hi hik d0 hfx
      gi_wp2
      refine hR.mono ?_
      rintro e W3 (⟨rfl, hJ3, hk3⟩ | ⟨rfl, hJx3⟩)
      · gi_wp2
        go_roundw
        case rel => exact ⟨k + 1, by have := HI.out; go_num, by omega, hJ3, HRz.out W3 hk3⟩
        case measure => simp [intOf]
      · gi_wp2
        refine bodyPost_ret (results_none rfl _ _ _) rfl ?_
        exact ⟨⟨_, rfl⟩, .inr ⟨xs.take (k + 1), ⟨xs.drop (k + 1), (List.take_append_drop _ _).symm⟩, hJx3⟩⟩
    · have e : k = m := by omega
      subst e
      have HE : Hid (xs.take k = xs) := List.take_of_length_le (by have := HL.out; omega)
      rw [HE.out] at HJk
      have hneg : ¬ (0 : Int) ≤ (k : Int) - 1 - k := by omega
      gi_wp2
      go_end0
      first | exact ⟨⟨_, rfl⟩, .inl ⟨xs, rfl, HJk.out⟩⟩ | exact ⟨⟨_, rfl⟩, .inl HJk.out⟩
end Go.Proofs.YtlacligofhinmaaGreat.C

namespace Go.Proofs.YtlacligofhinmaaGreat.C
open Go.RowKit Go.Maps Go.Shelf Go.Proofs.YtlacligofhinmaaGreat
attribute [local go_sem] Oper.semAt_some
set_option linter.unusedVariables false
set_option linter.unusedSimpArgs false
set_option maxRecDepth 100000

theorem kp_other {w w' : World} {b : Nat} (h : K.Kp w w' [b]) {F : List Nat} (hb : ∀ i ∈ F, i ≠ b) (hl : ∀ i ∈ F, i < w.heap.size) : ∀ i ∈ F, w'.heap[i]? = w.heap[i]? := fun i hi => h.block i (hl i hi) (by simpa using hb i hi)
/-- the queue, told -/
theorem queue_c {w : World} {P : Loc} {S : K.Dk} {C : Ch} (h : RC w P S C) (hq : S.q.length ≤ 1048576) :
    Calls Tryz.prog 23 #[.pointer (some ⟨P.bd, 0, none⟩)] w fun r w' => ∃ ao cap ps, r = .returned (.slice ao ps.length cap) ∧ PtR w' ao ps ∧ (∀ p ∈ ps, w'.ownsRow w.heap.size 5 1 p.2.1 512 (p.2.2.map bv)) ∧ ps.map K.bare = S.q ∧ CAct w w' P P C S C := by
  refine (K.queue_any h.rk hq).mono ?_
  rintro r w' ⟨v, ps, rfl, ht, hb, hda⟩
  obtain ⟨ao, cap, rfl, hp⟩ := told_form ht
  exact ⟨ao, cap, ps, rfl, hp, ht.dat, hb, h.dsame hda⟩
theorem image_c {w : World} {P : Loc} {S : K.Dk} {C : Ch} (h : RC w P S C) :
    Calls Tryz.prog 25 #[.pointer (some ⟨P.bd, 0, none⟩)] w fun r w' => ∃ g cap, r = .returned (.slice (some ⟨g, 0, none⟩) (S.n * 512) cap) ∧ S.n * 512 ≤ cap ∧ w.heap.size ≤ g ∧ w'.ownsRow w.heap.size 5 1 (.slice (some ⟨g, 0, none⟩) (S.n * 512) cap) (S.n * 512) ((K.imgL S.n S.safe).map bv) ∧ CAct w w' P P C S C := by
  refine (K.image_any h.rk).mono ?_
  rintro r w' ⟨v, rfl, ho, hda⟩
  have h0 := h.rk.n0
  rcases ho.2 with ⟨_, hz⟩ | ⟨g, cap, cur, rfl, hb, hg, hc, _⟩
  · omega
  · exact ⟨g, cap, rfl, hc, hb, ho, h.dsame hda⟩
theorem results_cell1 {fn : Func} {p : Tmp} {tp : TypeId} (h : fn.results = #[.cell p tp]) (tmps : Array Value) (P : Program) (w : World) :
    (results fn tmps).run P w = ((asAddr (tmps.getD p undef)).run P w).andThen fun a w₁ => (loadVar tp a).run P w₁ := by
  simp only [results, h]
  simp [Sem.run_bind, Result.andThen]
theorem load_by {w : World} {a : Addr} {x : Option Addr} {n c : Nat} (h : w.cell? a = some (.slice x n c)) : ((asAddr (.pointer (some a))).run Tryz.prog w).andThen (fun a w₁ => (loadVar TBy a).run Tryz.prog w₁) = .ok (.slice x n c) w := by
  simp [loadVar, go_sem, h]
theorem find_first {α : Type} {L L1 L2 : List α} {l : α} {p : α → Bool} (h : L = L1 ++ l :: L2) (h1 : ∀ x ∈ L1, p x = false) (h2 : p l = true) : L.find? p = some l := by
  rw [h, List.find?_append, List.find?_eq_none.2 (fun x hx => by simp [h1 x hx])]
  simp [h2]
theorem put_grown {W : World} {D : Nat} {o o' : Obj} (h : W.heap[D]? = some o) : W.grownBy (W.putObj D o') (some D) := ⟨rfl, rfl, rfl, by simp [World.putObj], fun k _ hne => World.putObj_heap_other (fun e => hne (by rw [e]))⟩
set_option maxHeartbeats 8000000 in
theorem onDisk_c {w : World} {P : Loc} {S : K.Dk} {C : Ch} (h : RC w P S C) (hq : S.q.length ≤ 1048576) {s : Nat} (hs : s < S.n) :
    Calls Tryz.prog 116 #[.pointer (some ⟨P.bc, 0, none⟩), .int .i64 s] w fun r w' => ∃ v, r = .returned v ∧ w'.ownsRow w.heap.size 5 1 v 512 ((K.look S s).map bv) ∧ CAct w w' P P C S C := by
  have hn1 := h.rk.n1
  refine (callsIn_wide (n := 4)).1 ?_
  have f0 : Fence.wide.fn 116 := trivial
  have f1 : Fence.wide.fn 23 := trivial
  have f2 : Fence.wide.fn 156 := trivial
  have f3 : Fence.wide.fn 177 := trivial
  obtain ⟨w1, hw1⟩ : ∃ w1, w1 = (w.alloc (.cells #[.int .i64 s] TIn)).alloc (.cells #[.slice none 0 0] TBy) := ⟨_, rfl⟩
  have hB1 : Below w.heap.size w w1 := by rw [hw1]; exact ((Below.refl _ w).alloc (Nat.le_refl _) _).alloc (by simp) _
  have hs1 : w1.heap.size = w.heap.size + 2 := by rw [hw1]; simp
  have h1 := h.later hB1
  have c0 : w1.cell? ⟨P.bc, 0, none⟩ = some (.pointer (some ⟨P.bd, 0, none⟩)) := h1.c 0
  have x0 : Boxed w1 w.heap.size TIn (.int .i64 s) := by rw [hw1]; exact (Boxed.new w TIn _).alloc _
  have x1 : Boxed w1 (w.heap.size + 1) TBy (.slice none 0 0) := by
    have := Boxed.new (w.alloc (.cells #[.int .i64 s] TIn)) TBy (.slice none 0 0)
    rw [World.size_alloc] at this
    rw [hw1]; exact this
  have HQ : Hid (Calls Tryz.prog 23 #[.pointer (some ⟨P.bd, 0, none⟩)] w1 fun r w2 => ∃ ao cap ps, r = .returned (.slice ao ps.length cap) ∧ PtR w2 ao ps ∧ (∀ p ∈ ps, w2.ownsRow w.heap.size 5 1 p.2.1 512 (p.2.2.map bv)) ∧ ps.map K.bare = S.q ∧ CAct w w2 P P C S C ∧ Boxed w2 w.heap.size TIn (.int .i64 s) ∧ Boxed w2 (w.heap.size + 1) TBy (.slice none 0 0) ∧ w.heap.size + 2 ≤ w2.heap.size) := by
    refine (queue_c h1 hq).mono ?_
    rintro r w2 ⟨ao, cap, ps, rfl, e1, e2, e3, e4⟩
    have hlt := h.lt
    have hne : ∀ i, w.heap.size ≤ i → i ∉ P.fp C.L := fun i hi hm => by have := hlt i hm; omega
    exact ⟨ao, cap, ps, rfl, e1, fun p hp => owns_mono (e2 p hp) (by omega), e3, e4.from_later hB1 hlt, (e4.kp.block _ (by omega) (hne _ (Nat.le_refl _))).trans x0, (e4.kp.block _ (by omega) (hne _ (by omega))).trans x1, by have := e4.kp.size; omega⟩
  have HH : Hid (RC w P S C) := h
  have HSL : Hid (s < S.n) := hs
  refine callsIn_of_wp_marks Tryz.func116 rfl f0 ?_ rfl
  simp only [Tryz.ntmps116, List.size_toArray, List.length_cons, List.length_nil, Nat.reduceAdd, Nat.reduceSub, Array.replicate_succ, Array.replicate_zero, List.push_toArray, List.append_toArray, List.nil_append, List.cons_append]
  have c0' := c0
  rw [hw1] at c0'
  have HQ' := HQ
  rw [hw1] at HQ'
  clear h h1 x0 x1 hs HQ
  gi_wp2_with (first | (gi_at_call 23; refine (callsIn_wide.2 HQ'.out).mono ?_; clear HQ'; rintro r w2 ⟨ao, cap, ps, rfl, hpt, hdat, hbare, ha2, y0, y1, hs2⟩) | (gi_at_call 156; refine (callsIn_wide.2 (backward_c _ _ _ _)).mono ?_; rintro e w' ⟨rfl, rfl⟩))
  obtain ⟨W0, hW0⟩ : ∃ W0, W0 = w2.alloc (.cells #[.slice ao ps.length cap] TPts) := ⟨_, rfl⟩
  rw [← hW0]
  have hB20 : Below w2.heap.size w2 W0 := by rw [hW0]; exact (Below.refl _ w2).alloc (Nat.le_refl _) _
  have hs0 : W0.heap.size = w2.heap.size + 1 := by rw [hW0]; simp
  have bx : W0.cell? ⟨w2.heap.size, 0, none⟩ = some (.slice ao ps.length cap) := by rw [hW0]; exact (Boxed.new w2 TPts _).cell
  have hpl : ps.length ≤ 1048576 := by have := congrArg List.length hbare; rw [List.length_map] at this; omega
  have hseq := back_seq (fun x : { x // x ∈ backL ps } => x.1) (backL ps).attach 3 (by omega) (H := W0.heap.size) (by rw [List.attach_map_subtype_val]) bx (by omega) (fun k p hk => by
    obtain ⟨g, e, h1, h2, h3⟩ := hpt k p hk
    exact ⟨g, e, Nat.lt_of_lt_of_le h1 hB20.size, cell_later hB20 h2, cell_later hB20 h3⟩) (fun k p hk g e => by
    obtain ⟨g', e', h1, _⟩ := hpt k p hk
    rw [e] at e'
    cases e'
    omega) hpl
  have HX : Hid (∀ W, K.Kp W0 W [w.heap.size + 1] → Boxed W w.heap.size TIn (.int .i64 s) ∧ (∀ p ∈ ps, W.ownsRow w.heap.size 5 1 p.2.1 512 (p.2.2.map bv)) ∧ CAct w W P P C S C) := fun W hk => by
    have hk2 : K.Kp w2 W [w.heap.size + 1] := (K.Kp.of_below hB20 _).trans hk (fun i hi => .inl hi)
    refine ⟨(hk2.block _ (by omega) (by simp)).trans y0, fun p hp => K.ownsRow_block (hdat p hp) (fun g hg => ?_), ?_⟩
    · obtain ⟨hgl, cs, hgt⟩ := K.row_lt (hdat p hp) g hg
      refine hk2.block g hgl ?_
      simp only [List.mem_singleton]
      rintro rfl
      rw [show w2.heap[w.heap.size + 1]? = _ from y1] at hgt
      simp at hgt
      exact absurd hgt.2 (by decide)
    · have hlt := HH.out.lt
      refine ⟨ha2.rc.same fun i hi => hk2.block i (ha2.rc.lt i hi) (fun hm => ?_), ha2.kp.trans hk2 (fun i hi => .inr (by simp at hi; omega)), ha2.sub, ha2.bc, ha2.bd⟩
      simp at hm
      have := hlt i hi
      omega
  have HY1 : Hid (∀ W, Below W0.heap.size W0 W → Boxed W (w.heap.size + 1) TBy (.slice none 0 0)) := fun W hb => (hb.block _ (by omega)).trans ((hB20.block _ (by omega)).trans y1)
  have HPS : Hid (∀ x : { x // x ∈ backL ps }, ∃ g c, x.1.2.2.1 = .slice (some ⟨g, 0, none⟩) 512 c) := fun x => by
    obtain ⟨g, c, cur, e, _⟩ := K.own_form (hdat x.1.2 (mem_backL x.2)) (by omega)
    exact ⟨g, c, e⟩
  have HBR : Hid (ps.map K.bare = S.q) := hbare
  have hwl : w.heap.size + 2 ≤ W0.heap.size := by omega
  clear hpt hdat hbare ha2 y0 y1 hW0 c0 c0' hw1 hB1 bx
  refine wpIn_rangeFunc_ownH rfl (by omega) (gf := 177) (lb := #[.pointer (some ⟨w2.heap.size, 0, none⟩)]) rfl f3 (enters_of Tryz.func177 (by kernel_rfl) rfl)
    hseq kpH_t (kpH_b (Nat.le_refl _)) (Below.refl _ _) (fun _ => rfl)
    (fun pre W => Below W0.heap.size W0 W ∧ ∀ x ∈ pre, x.1.2.1 ≠ s)
    (fun c pre' W => c = .ret ∧ ∃ pre x, pre' = pre ++ [x] ∧ (∀ y ∈ pre, y.1.2.1 ≠ s) ∧ x.1.2.1 = s ∧ Boxed W (w.heap.size + 1) TBy x.1.2.2.1 ∧ K.Kp W0 W [w.heap.size + 1])
    (OwnFrom.and (ownFrom_below (Nat.le_refl _) (Nat.le_refl _)) (fun _ _ _ _ h _ _ => h))
    (fun c s' X Y row hs hg hr => by
      obtain ⟨e1, pre, x, e2, e3, e4, e5, e6⟩ := hs
      exact ⟨e1, pre, x, e2, e3, e4, boxed_own _ TBy (fun _ : Unit => x.1.2.2.1) () X Y row e5 hg (fun r e => (hr r e).2), e6.grown hg (fun k e => .inr (hr k e).1)⟩)
    ⟨Below.refl _ _, fun x hx => by cases hx⟩
    (fun x a' W => ∃ b, W0.heap.size ≤ b ∧ W.heap[b]? = some (.cells #[.int .i64 x.1.2.1, x.1.2.2.1] TPt (0, 0)) ∧ a' = { tmps := #[.pointer (some ⟨P.bc, 0, none⟩), .int .i64 s, undef, .pointer (some ⟨w.heap.size, 0, none⟩), .pointer (some ⟨w.heap.size + 1, 0, none⟩), undef, .pointer (some ⟨b, 0, none⟩), .pointer (some ⟨P.bc, 0, none⟩), .pointer (some ⟨P.bc, 0, none⟩), .pointer (some ⟨P.bc, 0, none⟩), .pointer (some ⟨P.bd, 0, none⟩), .slice ao ps.length cap, .func (.func 177) #[] #[.pointer (some ⟨w2.heap.size, 0, none⟩)], .int .i64 x.1.1, .agg #[.int .i64 x.1.2.1, x.1.2.2.1], undef, undef, undef, undef, undef, undef, undef, undef, undef, undef, undef, undef, undef, undef, undef, undef], defers := [] })
    (fun x a' s' X Y row hs hg hrow => by
      obtain ⟨b, hb, hc, e⟩ := hs
      exact ⟨b, hb, (hg.block b (Array.getElem?_eq_some_iff.1 hc).1 (fun e' => by obtain ⟨_, o, ho, hcc⟩ := hrow b e'.symm; rw [hc] at ho; cases ho; cases hcc)).trans hc, e⟩)
    ?assign ?body ?done ?stop
  case assign =>
    rintro l pre x W K hI hK
    obtain ⟨gx, cx, hx⟩ := HPS.out x
    simp only [hx] at hK ⊢
    gi_wp2
    exact hK _ _ ⟨by simp, fun k o _ hk _ => (Below.heap_alloc _ _ _ (Array.getElem?_eq_some_iff.1 hk).1).trans hk⟩ (fun i hi => Below.heap_alloc _ _ _ (Nat.lt_of_lt_of_le hi hI.1.size)) ⟨hI.1.alloc hI.1.size _, hI.2⟩ ⟨W.heap.size, hI.1.size, heap_alloc_new W _, rfl⟩
  case body =>
    rintro l pre x a' W hl ⟨r, hr⟩ ⟨hB, hpre⟩ ⟨b, hb0, hbc, rfl⟩ hlt
    obtain ⟨gx, cx, hx⟩ := HPS.out x
    have hkp : K.Kp W0 W [w.heap.size + 1] := K.Kp.of_below hB _
    obtain ⟨y0, _, _⟩ := HX.out W hkp
    have d0 := y0.cell
    have y1 := HY1.out W hB
    have d1 := y1.cell
    have z1 := y1.frozen
    have k0 : W.cell? ⟨b, 0, none⟩ = some (.int .i64 x.1.2.1) := (K.cell_of hbc).trans rfl
    have k1 : W.cell? ⟨b, 1, none⟩ = some (.slice (some ⟨gx, 0, none⟩) 512 cx) := (K.cell_of hbc).trans (by rw [hx]; rfl)
    simp only [hx]
    have HKP : Hid (K.Kp W0 W [w.heap.size + 1]) := hkp
    have HY : Hid (Boxed W (w.heap.size + 1) TBy (.slice none 0 0)) := y1
    have HB : Hid (Below W0.heap.size W0 W ∧ ∀ x ∈ pre, x.1.2.1 ≠ s) := ⟨hB, hpre⟩
    have HXE : Hid (x.1.2.2.1 = .slice (some ⟨gx, 0, none⟩) 512 cx) := hx
    clear y0 y1 hkp hB hpre hbc hseq
    by_cases he : x.1.2.1 = s
    · have he' : decide ((x.1.2.1 : Int) = (s : Int)) = true := decide_eq_true (by omega)
      have he2 : (x.1.2.1 : Int) = (s : Int) := by omega
      gi_wp2
      refine ⟨(KeepsOthers.setCell _ _ _).from _, rfl, pre, x, rfl, HB.out.2, he, ?_, HKP.out.set (.inl (by simp)) 0 _⟩
      rw [HXE.out]
      exact HY.out.set _
    · have he' : decide ((x.1.2.1 : Int) = (s : Int)) = false := decide_eq_false (by omega)
      have he2 : ¬ (x.1.2.1 : Int) = (s : Int) := by omega
      gi_wp2
      exact ⟨KeepsFrom.refl _ _, fun i _ => rfl, HB.out.1, fun y hy => by
        rcases List.mem_append.1 hy with hy | hy
        · exact HB.out.2 y hy
        · simp at hy; subst hy; exact he⟩
  case done =>
    rintro D ys W hD rfl ⟨hB, hall⟩ hK
    have hkp : K.Kp W0 W [w.heap.size + 1] := K.Kp.of_below hB _
    obtain ⟨y0, _, hca⟩ := HX.out W hkp
    have y1 := HY1.out W hB
    have hnone : K.lastQ s S.q = none := by
      rw [← HBR.out, back_last, List.find?_eq_none.2 (fun x hx => by simpa using hall ⟨x, hx⟩ (List.mem_attach _ _))]
      rfl
    have HLK : Hid (K.look S s = S.safe s) := by show _ = _; unfold K.look; rw [hnone]; rfl
    have hDb : W.heap[D]? = some (.deferred (some [])) := hK
    have hDl : D < W.heap.size := (Array.getElem?_eq_some_iff.1 hK).1
    have HS : Hid (∀ W', CAct w W' P P C S C → Boxed W' w.heap.size TIn (.int .i64 s) → W'.cell? ⟨P.bc, 0, none⟩ = some (.pointer (some ⟨P.bd, 0, none⟩)) ∧ W'.cell? ⟨w.heap.size, 0, none⟩ = some (.int .i64 s)) := fun W' ha hy => ⟨ha.rc.c 0, hy.cell⟩
    have hfar : ∀ i ∈ P.fp C.L, i < w.heap.size := HH.out.lt
    have HIM : Hid (Calls Tryz.prog 25 #[.pointer (some ⟨P.bd, 0, none⟩)] W.drew fun r W3 => ∃ g ic, r = .returned (.slice (some ⟨g, 0, none⟩) (S.n * 512) ic) ∧ S.n * 512 ≤ ic ∧ (W3.cell? ⟨P.bc, 0, none⟩ = some (.pointer (some ⟨P.bd, 0, none⟩)) ∧ W3.cell? ⟨w.heap.size, 0, none⟩ = some (.int .i64 s)) ∧ Hid (Calls Tryz.prog 43 #[.slice (some ⟨g, s * 512, none⟩) 512 (ic - s * 512)] W3 fun r W4 => ∃ vo vc, r = .returned (.slice vo 512 vc) ∧ (W4.cell? ⟨P.bc, 0, none⟩ = some (.pointer (some ⟨P.bd, 0, none⟩)) ∧ W4.cell? ⟨w.heap.size, 0, none⟩ = some (.int .i64 s)) ∧ W4.cell? ⟨w.heap.size + 1, 0, none⟩ = some (.slice none 0 0) ∧ W4.frozen? ⟨w.heap.size + 1, 0, none⟩ = false ∧ Hid (Boxed W4 (w.heap.size + 1) TBy (.slice none 0 0) ∧ W4.heap[D]? = some (.deferred (some [])) ∧ W4.ownsRow W0.heap.size TB8 1 (.slice vo 512 vc) 512 ((S.safe s).map bv) ∧ CAct w W4 P P C S C))) := by
      have hcd : CAct w W.drew P P C S C := ⟨hca.rc.drew, ⟨hca.kp.os, hca.kp.tape, hca.kp.output, hca.kp.size, hca.kp.block⟩, hca.sub, hca.bc, hca.bd⟩
      have hW0W := hB.size
      refine (image_c hcd.rc).mono ?_
      rintro r W3 ⟨g, ic, rfl, hic, hg, ho, ha3⟩
      have hc3 := hcd.trans ha3
      have hne : ∀ i, w.heap.size ≤ i → i ∉ P.fp C.L := fun i hi hm => by have := hfar i hm; omega
      have hsd : W.drew.heap.size = W.heap.size := rfl
      have y03 : Boxed W3 w.heap.size TIn (.int .i64 s) := (ha3.kp.block _ (by rw [hsd]; omega) (hne _ (Nat.le_refl _))).trans y0
      have y13 : Boxed W3 (w.heap.size + 1) TBy (.slice none 0 0) := (ha3.kp.block _ (by rw [hsd]; omega) (hne _ (by omega))).trans y1
      have hD3 : W3.heap[D]? = some (.deferred (some [])) := (ha3.kp.block _ (by rw [hsd]; exact hDl) (hne _ (by omega))).trans hDb
      refine ⟨g, ic, rfl, hic, HS.out W3 hc3 y03, ?_⟩
      have hsn := HSL.out
      obtain ⟨Dm, hDm, hso⟩ := hc3.rc.rk.sm
      have hok := hso.ok s hsn
      have hbr : BRow W3 (some ⟨g, s * 512, none⟩) (ic - s * 512) (S.safe s) := ⟨hok.lt, by rw [hok.len]; decide, (fun e => by cases e), fun _ => ⟨g, s * 512, rfl, fun k hk => by
        have hk' : k < 512 := by rw [← hok.len]; exact hk
        have h1 := K.imgL_get (F := S.safe) (n := S.n) (s := s) (j := k) (fun t ht => (hso.ok t ht).len) hsn hk'
        rw [List.getElem?_eq_getElem hk] at h1
        have c1 := ho.cells (g := g) rfl (s * 512 + k) _ (by rw [List.getElem?_map, h1]; rfl)
        rw [WideShapes.add_plain, Nat.zero_add] at c1
        exact c1⟩⟩
      refine (clone_some ⟨g, s * 512, none⟩ (ic - s * 512) 512 (S.safe s) W3 hbr hok.len (by decide)).mono ?_
      rintro r W4 ⟨v, rfl, ho4, hb4⟩
      obtain ⟨vo, vc, cur, rfl, _⟩ := K.own_form ho4 (by omega)
      have hc4 := hc3.later hb4
      have y04 : Boxed W4 w.heap.size TIn (.int .i64 s) := (hb4.block _ y03.lt).trans y03
      have y14 : Boxed W4 (w.heap.size + 1) TBy (.slice none 0 0) := (hb4.block _ y13.lt).trans y13
      have hD4 : W4.heap[D]? = some (.deferred (some [])) := (hb4.block _ (Array.getElem?_eq_some_iff.1 hD3).1).trans hD3
      exact ⟨_, _, rfl, HS.out W4 hc4 y04, y14.cell, y14.frozen, y14, hD4, owns_mono ho4 (by have := ha3.kp.size; rw [hsd] at this; omega), hc4⟩
    have HS0 : Hid (W.cell? ⟨P.bc, 0, none⟩ = some (.pointer (some ⟨P.bd, 0, none⟩)) ∧ W.cell? ⟨w.heap.size, 0, none⟩ = some (.int .i64 s)) := HS.out W hca y0
    obtain ⟨a, ha⟩ : ∃ a, a = s * 512 := ⟨_, rfl⟩
    obtain ⟨L, hL⟩ : ∃ L, L = S.n * 512 := ⟨_, rfl⟩
    have hwr : IntKind.i64.wrap ((s : Int) * 512) = (a : Int) := by have := HSL.out; rw [IntKind.wrap_i64]; omega
    have i1 : (0 : Int) ≤ (a : Int) := by omega
    have i2 : (a : Int) ≤ (L : Int) := by have := HSL.out; omega
    have HAL : Hid (a + 512 ≤ L) := by have := HSL.out; show _ ≤ _; omega
    rw [← ha, ← hL] at HIM
    clear ha hL
    have HST : Hid (∀ (X : World) (v : Value), (X.cell? ⟨P.bc, 0, none⟩ = some (.pointer (some ⟨P.bd, 0, none⟩)) ∧ X.cell? ⟨w.heap.size, 0, none⟩ = some (.int .i64 s)) → ((X.setCell ⟨w.heap.size + 1, 0, none⟩ v).cell? ⟨P.bc, 0, none⟩ = some (.pointer (some ⟨P.bd, 0, none⟩)) ∧ (X.setCell ⟨w.heap.size + 1, 0, none⟩ v).cell? ⟨w.heap.size, 0, none⟩ = some (.int .i64 s))) := fun X v h => by
      have hbc := hfar P.bc (by simp [Loc.fp, Loc.cfp])
      refine ⟨?_, ?_⟩
      · have := h.1
        unfold World.cell? at this ⊢
        rw [Below.heap_setCell _ _ _ _ (by show P.bc ≠ w.heap.size + 1; omega)]
        exact this
      · have := h.2
        unfold World.cell? at this ⊢
        rw [Below.heap_setCell _ _ _ _ (by show w.heap.size ≠ w.heap.size + 1; omega)]
        exact this
    clear hall hkp hca y0 y1 hnone hDb hfar HX HY1 HPS HBR HS hseq hB
    gi_wp2
    refine wpIn_wide.2 ?_
    go_region_held3 (fun w' => w'.cell? ⟨P.bc, 0, none⟩ = some (.pointer (some ⟨P.bd, 0, none⟩)) ∧ w'.cell? ⟨w.heap.size, 0, none⟩ = some (.int .i64 s)) (first | exact HS0.out | exact hS3 | exact hS4 | exact hS5 | go_keep) (first | (go_at_call 25; refine Calls.mono HIM.out ?_; rintro r W3 ⟨g, ic, rfl, hic, hS3, HCL⟩; have e1 : (L : Int) ≤ (ic : Int) := (by omega); have e2 : (512 : Int) ≤ ((ic - a : Nat) : Int) := (by have := HAL.out; omega); have e3 : (512 : Int) ≤ (ic : Int) - (a : Int) := (by have := HAL.out; omega); have e4 : (a : Int) ≤ (ic : Int) := (by omega); have e5 : ¬ ic = a := (by have := HAL.out; omega)) | (go_at_call 43; refine Calls.mono HCL.out ?_; rintro r W4 ⟨vo, vc, rfl, hS4, k4, z4, HF4⟩; have hS5 := HST.out W4 (.slice vo 512 vc) hS4))
    obtain ⟨y4, hD4, ho4, hc4⟩ := HF4.out
    have hD2 : D ≠ w.heap.size + 1 := by omega
    have hfar : ∀ i ∈ P.fp C.L, i < w.heap.size := HH.out.lt
    have hK4 : (W4.setCell ⟨w.heap.size + 1, 0, none⟩ (.slice vo 512 vc)).heap[D]? = some (.deferred (some [])) := (Below.heap_setCell _ _ _ _ hD2).trans hD4
    have y5 : Boxed (W4.setCell ⟨w.heap.size + 1, 0, none⟩ (.slice vo 512 vc)) (w.heap.size + 1) TBy (.slice vo 512 vc) := y4.set _
    gi_wp2
    refine ⟨by simp, .inl ⟨_, _, rfl, run_takeDeferred hK4, ?_⟩⟩
    have r2 : ((W4.setCell ⟨w.heap.size + 1, 0, none⟩ (.slice vo 512 vc)).putObj D (.deferred none)).cell? ⟨w.heap.size + 1, 0, none⟩ = some (.slice vo 512 vc) := K.cell_of ((World.putObj_heap_other (Ne.symm hD2)).trans y5)
    refine ⟨_, by rw [results_cell1 (p := 4) (tp := TBy) rfl]; exact load_by r2, _, rfl, ?_, (hc4.grown (K.grown_set W4 (w.heap.size + 1) 0 (.slice vo 512 vc)) (fun k e => by cases e; omega) (fun i hi e => by have := hfar i hi; simp at e; omega)).grown (put_grown hK4) (fun k e => by cases e; omega) (fun i hi e => by have := hfar i hi; simp at e; omega)⟩
    rw [HLK.out]
    have ho5 := owns_mono ho4 (show w.heap.size ≤ W0.heap.size by omega)
    refine K.ownsRow_block ho5 fun g' hg' => ?_
    have hge := row_base ho4 hg'
    obtain ⟨_, cs, h3⟩ := K.row_lt ho4 g' hg'
    have hgD : g' ≠ D := fun e => by rw [e, hD4] at h3; cases h3
    exact (World.putObj_heap_other hgD).trans (Below.heap_setCell _ _ _ _ (by show g' ≠ w.heap.size + 1; omega))
  case stop =>
    rintro D c pre' W hD ⟨rest, hrest⟩ ⟨rfl, pre, x, rfl, h1, h2, b2, hkp⟩ hK
    gi_wp2
    refine ⟨by simp, .inl ⟨_, _, rfl, run_takeDeferred hK, ?_⟩⟩
    obtain ⟨gx, cx, hx⟩ := HPS.out x
    obtain ⟨y0, hrows, hca⟩ := HX.out W hkp
    have hD2 : D ≠ w.heap.size + 1 := by omega
    have hfar : ∀ i ∈ P.fp C.L, i < w.heap.size := HH.out.lt
    rw [hx] at b2
    have r2 : (W.putObj D (.deferred none)).cell? ⟨w.heap.size + 1, 0, none⟩ = some (.slice (some ⟨gx, 0, none⟩) 512 cx) := K.cell_of ((World.putObj_heap_other (Ne.symm hD2)).trans b2)
    have hL : backL ps = pre.map Subtype.val ++ x.1 :: rest.map Subtype.val := by
      have := congrArg (List.map Subtype.val) hrest
      rw [List.attach_map_subtype_val] at this
      simpa using this
    have hlook : K.look S s = x.1.2.2.2 := by
      unfold K.look
      rw [← HBR.out, back_last, find_first hL (fun y hy => by obtain ⟨z, hz, rfl⟩ := List.mem_map.1 hy; simpa using h1 z hz) (by simpa using h2)]
      rfl
    refine ⟨_, by rw [results_cell1 (p := 4) (tp := TBy) rfl]; exact load_by r2, _, rfl, ?_, hca.grown (put_grown hK) (fun k e => by cases e; omega) (fun i hi e => by have := hfar i hi; simp at e; omega)⟩
    have hr := hrows x.1.2 (mem_backL x.2)
    rw [hx] at hr
    rw [hlook]
    refine K.ownsRow_block hr fun g hg => World.putObj_heap_other (fun e => ?_)
    obtain ⟨_, cs, h3⟩ := K.row_lt hr g hg
    rw [e, hK] at h3
    cases h3
end Go.Proofs.YtlacligofhinmaaGreat.C

namespace Go.Proofs.YtlacligofhinmaaGreat.C
open Go.RowKit Go.Maps Go.Shelf Go.Proofs.YtlacligofhinmaaGreat
set_option linter.unusedVariables false
set_option linter.unusedSimpArgs false
set_option maxRecDepth 100000

/-- what a sector reads, through the cache -/
def seen (S : K.Dk) (C : Ch) (s : Nat) : K.Bl := match lineAt C.L s with
  | some l => l.dat
  | none => K.look S s
/-- a clean line has what the disk reads -/
structure Good (S : K.Dk) (C : Ch) : Prop where
  nd : (secs C.L).Nodup
  cl : ∀ l ∈ C.L, l.dirty = false → l.dat = K.look S l.sec
structure Sees (S : K.Dk) (C : Ch) (S' : K.Dk) (C' : Ch) : Prop where
  good : Good S' C'
  eq : ∀ s : Nat, seen S' C' s = seen S C s
theorem Sees.refl {S : K.Dk} {C : Ch} (h : Good S C) : Sees S C S C := ⟨h, fun _ => rfl⟩
theorem Sees.trans {S S1 S2 : K.Dk} {C C1 C2 : Ch} (h : Sees S C S1 C1) (k : Sees S1 C1 S2 C2) : Sees S C S2 C2 := ⟨k.good, fun s => (k.eq s).trans (h.eq s)⟩
theorem look_push (S : K.Dk) (s : Nat) (l : K.Bl) (S' : K.Dk) (hq : S'.q = S.q ++ [(s, l)]) (hs : S'.safe = S.safe) (t : Nat) : K.look S' t = if t = s then l else K.look S t := by
  unfold K.look
  rw [hq, hs, K.lastQ_snoc]
  by_cases e : t = s
  · rw [if_pos e, if_pos e.symm]; rfl
  · rw [if_neg e, if_neg (fun h => e h.symm)]
theorem look_same (S S' : K.Dk) (hq : S'.q = S.q) (hs : S'.safe = S.safe) (t : Nat) : K.look S' t = K.look S t := by
  unfold K.look
  rw [hq, hs]
theorem failS_safe (S : K.Dk) (k s : Int) : (K.failS S k s).safe = S.safe := by unfold K.failS; split <;> rfl
theorem failS_q (S : K.Dk) (k s : Int) : (K.failS S k s).q = S.q := by unfold K.failS; split <;> rfl
/-- a write changes what one sector reads, or nothing at all -/
theorem look_wr (S : K.Dk) (s : Nat) (l : K.Bl) : ((∀ t, K.look (K.wrS S s l) t = K.look S t) ∧ K.wrE S s l ≠ 0) ∨ (∀ t, K.look (K.wrS S s l) t = if t = s then l else K.look S t) := by
  unfold K.wrS K.wrE
  by_cases h1 : K.inD S.n s = true
  · rw [if_pos h1, if_pos h1]
    by_cases h2 : l.length = 512
    · rw [if_pos h2, if_pos h2]
      by_cases h3 : K.hitF S.fs 2 s = true
      · rw [if_pos h3, if_pos h3]
        by_cases h4 : K.landF S.fs 2 s = true
        · rw [if_pos h4]
          exact .inr (look_push S s l _ (by simp [K.pushS, failS_q]) (by simp [K.pushS, failS_safe]))
        · rw [if_neg h4]
          exact .inl ⟨look_same S _ (failS_q _ _ _) (failS_safe _ _ _), by decide⟩
      · rw [if_neg h3, if_neg h3]
        exact .inr (look_push S s l _ (by simp [K.wrote, failS_q]) (by simp [K.wrote, failS_safe]))
    · rw [if_neg h2, if_neg h2]
      exact .inl ⟨fun _ => rfl, by decide⟩
  · rw [if_neg h1, if_neg h1]
    exact .inl ⟨fun _ => rfl, by decide⟩
theorem lay_all (q : List K.Pu) (f : Nat → K.Bl) (s : Nat) : ∀ n, K.layTo (fun _ => true) q f n s = (K.lastQ s (q.take n)).getD (f s)
  | 0 => by simp [K.layTo, K.lastQ]
  | n + 1 => by
    have ih := lay_all q f s n
    unfold K.layTo
    rw [List.take_add_one]
    cases hq : q[n]? with
    | none => simp; exact ih
    | some x =>
      simp only [if_true, Option.toList_some]
      rw [K.lastQ_snoc]
      simp only [K.upd]
      by_cases e : s = x.1
      · rw [if_pos e, if_pos e.symm]; rfl
      · rw [if_neg e, if_neg (fun h => e h.symm)]; exact ih
theorem look_ba (S : K.Dk) (t : Nat) : K.look (K.baS S) t = K.look S t := by
  unfold K.baS
  split
  · exact look_same _ _ (failS_q _ _ _) (failS_safe _ _ _) t
  · rw [← look_same S (K.failS S 3 (-1)) (failS_q _ _ _) (failS_safe _ _ _) t]
    generalize K.failS S 3 (-1) = T
    unfold K.look
    simp only [K.barred, K.settled]
    rw [lay_all, List.take_length]
    simp [K.lastQ]
theorem look_rd (S : K.Dk) (s : Int) (t : Nat) : K.look (K.rdS S s) t = K.look S t := by
  unfold K.rdS
  split
  · split
    · exact look_same _ _ (failS_q _ _ _) (failS_safe _ _ _) t
    · exact look_same _ _ (by simp [K.readS, failS_q]) (by simp [K.readS, failS_safe]) t
  · rfl
theorem look_fa (S : K.Dk) (f : K.Flt) (t : Nat) : K.look (K.faS S f) t = K.look S t := by
  unfold K.faS
  split
  · exact look_same _ _ rfl rfl t
  · rfl
/-- another disk that reads the same -/
theorem Good.disk {S S' : K.Dk} {C C' : Ch} (h : Good S C) (hl : ∀ t, K.look S' t = K.look S t) (hL : C'.L = C.L) : Sees S C S' C' := by
  refine ⟨⟨by rw [hL]; exact h.nd, fun l hm hd => ?_⟩, fun s => ?_⟩
  · rw [hL] at hm
    rw [hl]; exact h.cl l hm hd
  · unfold seen
    rw [hL]
    split
    · rfl
    · exact hl s
theorem lineAt_clean (L : List Ln) (s t : Int) : lineAt (cleanL L s) t = (lineAt L t).map fun x => if (x.sec : Int) = s then cleaned x else x := by
  induction L with
  | nil => rfl
  | cons x L ih =>
    unfold cleanL at ih ⊢
    rw [List.map_cons]
    unfold lineAt
    have e : (((if (x.sec : Int) = s then cleaned x else x) : Ln).sec : Int) = x.sec := by split <;> rfl
    rw [e]
    by_cases h : (x.sec : Int) = t
    · rw [if_pos h, if_pos h]; rfl
    · rw [if_neg h, if_neg h]; exact ih
theorem lineAt_append (A B : List Ln) (t : Int) : lineAt (A ++ B) t = (lineAt A t).or (lineAt B t) := by
  induction A with
  | nil => simp [lineAt]
  | cons x A ih =>
    show (if (x.sec : Int) = t then some x else lineAt (A ++ B) t) = (if (x.sec : Int) = t then some x else lineAt A t).or (lineAt B t)
    by_cases h : (x.sec : Int) = t
    · rw [if_pos h, if_pos h]; rfl
    · rw [if_neg h, if_neg h]; exact ih
theorem lineAt_drop (L : List Ln) (s t : Int) : lineAt (dropL L s) t = if t = s then none else lineAt L t := by
  induction L with
  | nil => simp [dropL, lineAt]
  | cons x L ih =>
    unfold dropL at ih ⊢
    rw [List.filter_cons]
    by_cases h : (x.sec : Int) = s
    · rw [if_neg (by simp [h])]
      rw [ih]
      by_cases ht : t = s
      · rw [if_pos ht, if_pos ht]
      · rw [if_neg ht, if_neg ht]
        conv => rhs; unfold lineAt
        rw [if_neg (fun e => ht (by omega))]
    · rw [if_pos (by simp [h])]
      by_cases ht : t = s
      · rw [if_pos ht] at ih ⊢
        unfold lineAt
        rw [if_neg (by omega)]
        exact ih
      · rw [if_neg ht] at ih ⊢
        unfold lineAt
        rw [ih]
theorem same_line {L : List Ln} (hd : (secs L).Nodup) {x l : Ln} (hx : x ∈ L) (hl : l ∈ L) (e : x.sec = l.sec) : x = l := by
  have h1 := at_line hd hx
  have h2 := at_line hd hl
  rw [e, h2] at h1
  cases h1
  rfl
/-- a line is written back -/
theorem wb_sees {S : K.Dk} {C : Ch} (g : Good S C) {l : Ln} (hl : l ∈ C.L) (hd : l.dirty = true) : Sees S C (wbS S C l.sec) (wbC S C l.sec) := by
  have ha := at_line g.nd hl
  unfold wbS wbC
  rw [ha]
  simp only
  rcases look_wr S l.sec l.dat with ⟨h1, h2⟩ | h1
  · rw [if_neg h2]
    exact g.disk h1 rfl
  · by_cases h2 : K.wrE S l.sec l.dat = 0
    · rw [if_pos h2]
      refine ⟨⟨by show (secs (cleanL C.L l.sec)).Nodup; rw [secs_cleanL]; exact g.nd, fun x hx hxd => ?_⟩, fun t => ?_⟩
      · obtain ⟨y, hy, e⟩ := List.mem_map.1 hx
        by_cases hys : (y.sec : Int) = l.sec
        · rw [if_pos hys] at e
          have := same_line g.nd hy hl (by omega)
          subst this
          subst e
          rw [h1]
          exact (if_pos rfl).symm
        · rw [if_neg hys] at e
          subst e
          rw [h1, if_neg (by omega)]
          exact g.cl y hy hxd
      · unfold seen
        simp only
        rw [lineAt_clean]
        cases hat : lineAt C.L t with
        | none =>
          simp only [Option.map_none]
          rw [h1, if_neg]
          rintro rfl
          rw [ha] at hat
          cases hat
        | some x =>
          simp only [Option.map_some]
          split <;> rfl
    · rw [if_neg h2]
      refine ⟨⟨g.nd, fun x hx hxd => ?_⟩, fun t => ?_⟩
      · rw [h1, if_neg]
        · exact g.cl x hx hxd
        · intro e
          have := same_line g.nd hx hl e
          subst this
          rw [hd] at hxd
          cases hxd
      · unfold seen
        cases hat : lineAt C.L t with
        | none =>
          simp only
          rw [h1, if_neg]
          rintro rfl
          rw [ha] at hat
          cases hat
        | some x => rfl
theorem backs_sees : ∀ (ks : List Int) (S : K.Dk) (C : Ch), Good S C → Dirt ks C → Sees S C (backs ks S C).2.1 (backs ks S C).2.2
  | [], S, C, g, _ => Sees.refl g
  | s :: ks, S, C, g, hd => by
    rw [backs_cons]
    obtain ⟨l, hl, rfl, hdy⟩ := hd.has s (by simp)
    have hw := wb_sees g hl hdy
    split
    · rename_i he
      exact hw.trans (backs_sees ks _ _ hw.good (dirt_next g.nd hd he).1)
    · exact hw
theorem settle_sees {ks : List Int} {S : K.Dk} {C : Ch} (g : Good S C) (hd : Dirt ks C) : Sees S C (settleR ks S C).2.1 (settleR ks S C).2.2 := by
  have h := backs_sees ks S C g hd
  unfold settleR
  split
  · exact h.trans (h.good.disk (look_ba _) rfl)
  · exact h
theorem flush_sees {S : K.Dk} {C : Ch} (g : Good S C) : Sees S C (flushR S C).2.1 (flushR S C).2.2 := by
  have h := settle_sees g (dirt_dl (p := isData) g.nd)
  unfold flushR
  split
  · split
    · exact h
    · exact h.trans (settle_sees h.good (dirt_dl (p := isNoted) h.good.nd))
  · exact h
theorem secs_drop (L : List Ln) (s : Int) (h : (secs L).Nodup) : (secs (dropL L s)).Nodup := (List.filter_sublist.map _).nodup h
/-- a line gives way, the disk has its bytes -/
theorem drop_sees {S S' : K.Dk} {C C' : Ch} (g : Good S C) {l : Ln} (hl : l ∈ C.L) (h1 : ∀ t, K.look S' t = if t = l.sec then l.dat else K.look S t) (hL : C'.L = dropL C.L l.sec) : Sees S C S' C' := by
  refine ⟨⟨by rw [hL]; exact secs_drop _ _ g.nd, fun x hx hxd => ?_⟩, fun t => ?_⟩
  · rw [hL] at hx
    obtain ⟨hx1, hx2⟩ := List.mem_filter.1 hx
    have hx3 : (x.sec : Int) ≠ l.sec := by simpa using hx2
    rw [h1, if_neg (by omega)]
    exact g.cl x hx1 hxd
  · unfold seen
    rw [hL, lineAt_drop]
    by_cases e : t = l.sec
    · subst e
      rw [if_pos rfl, at_line g.nd hl]
      simp only
      rw [h1, if_pos rfl]
    · rw [if_neg (by omega)]
      cases lineAt C.L t with
      | some x => rfl
      | none => simp only; rw [h1, if_neg e]
theorem gw_sees {S : K.Dk} {C : Ch} (g : Good S C) {l : Ln} (hl : l ∈ C.L) : Sees S C (gwR S C l).2.1 (gwR S C l).2.2 := by
  unfold gwR
  by_cases hd : l.dirty = true
  · rw [if_pos hd]
    have hw := wb_sees g hl hd
    unfold wbS wbC at hw
    rw [at_line g.nd hl] at hw
    simp only at hw
    by_cases h0 : K.wrE S l.sec l.dat = 0
    · rw [if_pos h0]
      rcases look_wr S l.sec l.dat with ⟨_, h2⟩ | h1
      · exact absurd h0 h2
      · exact drop_sees g hl h1 rfl
    · rw [if_neg h0] at hw ⊢
      exact hw
  · rw [if_neg hd]
    have hd' : l.dirty = false := by simpa using hd
    refine drop_sees g hl (fun t => ?_) rfl
    by_cases e : t = l.sec
    · rw [if_pos e, e, g.cl l hl hd']
    · rw [if_neg e]
theorem room_sees {S : K.Dk} {C : Ch} (g : Good S C) : Sees S C (roomR S C).2.1 (roomR S C).2.2 := by
  unfold roomR
  split
  · exact Sees.refl g
  · split
    · rename_i l hf
      exact gw_sees g (find_mem hf).1
    · have hw := flush_sees g
      split
      · split
        · rename_i l hf
          exact hw.trans (gw_sees hw.good (find_mem hf).1)
        · exact hw
      · exact hw
/-- a line goes to the end, perhaps with other bytes -/
theorem end_at (L : List Ln) (s : Nat) (l : Ln) (hl : l.sec = s) (t : Nat) : lineAt (dropL L s ++ [l]) t = if t = s then some l else lineAt L t := by
  rw [lineAt_append, lineAt_drop]
  by_cases e : t = s
  · subst e
    rw [if_pos rfl, if_pos rfl]
    simp [lineAt, hl]
  · rw [if_neg e, if_neg (by omega)]
    have : lineAt [l] (t : Int) = none := by
      unfold lineAt
      rw [if_neg (by omega)]
      rfl
    rw [this]
    simp
theorem secs_end (L : List Ln) (s : Nat) (l : Ln) (hl : l.sec = s) (h : (secs L).Nodup) : (secs (dropL L s ++ [l])).Nodup := by
  unfold secs
  rw [List.map_append, List.nodup_append]
  refine ⟨secs_drop _ _ h, by simp, fun a ha b hb => ?_⟩
  simp at hb
  subst hb
  obtain ⟨x, hx, rfl⟩ := List.mem_map.1 ha
  have := (List.mem_filter.1 hx).2
  intro e
  simp at this
  omega
theorem drop_none {L : List Ln} {s : Int} (h : lineAt L s = none) : dropL L s = L := List.filter_eq_self.2 fun x hx => by simpa using lineAt_none h x hx
theorem use_sees {S : K.Dk} {C : Ch} (g : Good S C) (s : Nat) : Sees S C S (useC C s) := by
  unfold useC
  cases hl : lineAt C.L s with
  | none => exact g.disk (fun _ => rfl) rfl
  | some l =>
    obtain ⟨h1, h2⟩ := lineAt_mem hl
    have hs : l.sec = s := by omega
    refine ⟨⟨secs_end C.L s l hs g.nd, fun x hx hxd => ?_⟩, fun t => ?_⟩
    · refine g.cl x ?_ hxd
      rcases List.mem_append.1 hx with hx | hx
      · exact (List.mem_filter.1 hx).1
      · simp at hx; rw [hx]; exact h1
    · unfold seen
      simp only
      rw [end_at _ _ _ hs]
      by_cases e : t = s
      · subst e; rw [if_pos rfl, hl]
      · rw [if_neg e]
theorem read_sees {S : K.Dk} {C : Ch} (g : Good S C) (s : Int) (b : Nat) (hlen : C.L.length ≤ C.most) (hm1 : 1 ≤ C.most) : Sees S C (readR S C s b).2.2.1 (readR S C s b).2.2.2 ∧ ((readR S C s b).1 = 0 → (readR S C s b).2.1 = seen S C s.toNat ∧ K.inD S.n s = true) := by
  unfold readR
  by_cases hi : K.inD S.n s = true
  · rw [if_pos hi]
    obtain ⟨t, rfl, ht⟩ := inD_nat hi
    rw [Int.toNat_natCast]
    cases hl : lineAt C.L t with
    | some l =>
      simp only
      exact ⟨use_sees g t, fun _ => ⟨by unfold seen; rw [hl], hi⟩⟩
    | none =>
      simp only
      have g1 : Sees S C S (missC C) := g.disk (fun _ => rfl) rfl
      have hr := g1.trans (room_sees g1.good)
      have hh := (room_ok (S := S) (C := missC C) g1.good.nd hlen hm1).1
      have hno := hh.sub t hl
      have hn := hh.n
      generalize roomR S (missC C) = R at *
      obtain ⟨e, S1, C1⟩ := R
      simp only at *
      by_cases he : e = 0
      · rw [if_pos he]
        by_cases hre : K.rdE S1 t = 0
        · rw [if_pos hre]
          have hrl : K.rdL S1 t = K.look S1 t := by
            unfold K.rdE at hre
            unfold K.rdL
            rw [hn, hi] at *
            simp only [if_true] at hre ⊢
            by_cases hh1 : K.hitF S1.fs 1 t = true
            · rw [if_pos hh1] at hre; omega
            · rw [if_neg hh1]; simp
          simp only
          rw [hrl]
          have hd := drop_none hno
          refine ⟨⟨⟨?_, fun x hx hxd => ?_⟩, fun u => ?_⟩, fun _ => ⟨?_, hi⟩⟩
          · have := secs_end C1.L t ⟨t, b, K.look S1 t, false, isN C.notes t⟩ rfl hr.good.nd
            rw [hd] at this
            exact this
          · rw [look_rd]
            rcases List.mem_append.1 hx with hx | hx
            · exact hr.good.cl x hx hxd
            · simp at hx; rw [hx]
          · rw [← hr.eq u]
            have := end_at C1.L t ⟨t, b, K.look S1 t, false, isN C.notes t⟩ rfl u
            rw [hd] at this
            unfold seen
            simp only
            rw [this]
            by_cases e : u = t
            · subst e; rw [if_pos rfl, hno]
            · rw [if_neg e]
              split
              · rfl
              · exact look_rd _ _ _
          · rw [← hr.eq t]
            unfold seen
            rw [hno]
        · rw [if_neg hre]
          exact ⟨hr.trans (hr.good.disk (look_rd _ _) rfl), fun h => by simp at h⟩
      · rw [if_neg he]
        exact ⟨hr, fun h => absurd h he⟩
  · rw [if_neg hi]
    exact ⟨Sees.refl g, fun h => by simp at h⟩
theorem write_sees {S : K.Dk} {C : Ch} (g : Good S C) (s : Int) (bs : K.Bl) (b : Nat) (hlen : C.L.length ≤ C.most) (hm1 : 1 ≤ C.most) : Good (writeR S C s bs b).2.1 (writeR S C s bs b).2.2 ∧ ((writeR S C s bs b).1 ≠ 0 → ∀ t, seen (writeR S C s bs b).2.1 (writeR S C s bs b).2.2 t = seen S C t) ∧ ((writeR S C s bs b).1 = 0 → K.inD S.n s = true ∧ bs.length = 512 ∧ ∀ t, seen (writeR S C s bs b).2.1 (writeR S C s bs b).2.2 t = if t = s.toNat then bs else seen S C t) := by
  have hz : ∀ {A B : K.Dk} {C D : Ch}, Sees A C B D → ∀ {e : Int}, e ≠ 0 → Good B D ∧ (e ≠ 0 → ∀ t, seen B D t = seen A C t) ∧ (e = 0 → K.inD S.n s = true ∧ bs.length = 512 ∧ ∀ t, seen B D t = if t = s.toNat then bs else seen A C t) := fun h _ he => ⟨h.good, fun _ => h.eq, fun h0 => absurd h0 he⟩
  unfold writeR
  by_cases hi : K.inD S.n s = true
  · rw [if_pos hi]
    obtain ⟨t, rfl, ht⟩ := inD_nat hi
    rw [Int.toNat_natCast] at hz ⊢
    by_cases h512 : bs.length = 512
    · rw [if_pos h512]
      have key : ∀ {S1 : K.Dk} {C1 C2 : Ch} {l : Ln}, Sees S C S1 C1 → l.sec = t → l.dat = bs → l.dirty = true → C2.L = dropL C1.L t ++ [l] → Good S1 C2 ∧ K.inD S.n (t : Int) = true ∧ bs.length = 512 ∧ ∀ u, seen S1 C2 u = if u = t then bs else seen S C u := fun {S1 C1 C2 l} hr h1 h2 h3 hL => by
        refine ⟨⟨by rw [hL]; exact secs_end _ _ _ h1 hr.good.nd, fun x hx hxd => ?_⟩, hi, h512, fun u => ?_⟩
        · rw [hL] at hx
          rcases List.mem_append.1 hx with hx | hx
          · exact hr.good.cl x (List.mem_filter.1 hx).1 hxd
          · simp at hx; rw [hx, h3] at hxd; cases hxd
        · rw [← hr.eq u]
          unfold seen
          rw [hL, end_at _ _ _ h1]
          by_cases e : u = t
          · rw [if_pos e, if_pos e]; exact h2
          · rw [if_neg e, if_neg e]
      cases hl : lineAt C.L t with
      | some l =>
        simp only
        have hk := key (C1 := C) (C2 := { hitC C with L := dropL C.L t ++ [{ l with dat := bs, dirty := true }] }) (l := { l with dat := bs, dirty := true }) (Sees.refl g) (by have := (lineAt_mem hl).2; show l.sec = t; omega) rfl rfl rfl
        exact ⟨hk.1, fun h => absurd rfl h, fun _ => hk.2⟩
      | none =>
        simp only
        have g1 : Sees S C S (missC C) := g.disk (fun _ => rfl) rfl
        have hr := g1.trans (room_sees g1.good)
        have hh := (room_ok (S := S) (C := missC C) g1.good.nd hlen hm1).1
        have hno := hh.sub t hl
        generalize roomR S (missC C) = R at *
        obtain ⟨e, S1, C1⟩ := R
        simp only at *
        by_cases he : e = 0
        · rw [if_pos he]
          have hk := key (C1 := C1) (C2 := { C1 with L := C1.L ++ [⟨t, b, bs, true, isN C.notes t⟩] }) (l := ⟨t, b, bs, true, isN C.notes t⟩) hr rfl rfl rfl (by rw [drop_none hno])
          exact ⟨hk.1, fun h => absurd rfl h, fun _ => hk.2⟩
        · rw [if_neg he]
          exact hz hr he
    · rw [if_neg h512]
      exact hz (Sees.refl g) (by simp)
  · rw [if_neg hi]
    exact hz (Sees.refl g) (by simp)
theorem fault_sees {S : K.Dk} {C : Ch} (g : Good S C) (f : K.Flt) : Sees S C (K.faS S f) C := g.disk (look_fa S f) rfl
end Go.Proofs.YtlacligofhinmaaGreat.C

namespace Go.Proofs.YtlacligofhinmaaGreat.C
open Go.RowKit Go.Maps Go.Shelf Go.Proofs.YtlacligofhinmaaGreat
attribute [local go_sem] Oper.semAt_some
set_option linter.unusedVariables false
set_option linter.unusedSimpArgs false
set_option maxRecDepth 100000

def peekL (S : K.Dk) (C : Ch) (s : Int) : K.Bl := if K.inD S.n s = true then seen S C s.toNat else []
section
variable {w w' : World} {P : Loc} {S S' : K.Dk} {C C' : Ch}
set_option maxHeartbeats 2000000 in
theorem peek_c (h : RC w P S C) (hq : S.q.length ≤ 1048576) (s : Int) :
    Calls Tryz.prog 81 #[.pointer (some ⟨P.bc, 0, none⟩), .int .i64 s] w fun r w' => ∃ v, r = .returned (.tuple #[v, .int .i64 (if K.inD S.n s = true then 0 else 31)]) ∧ w'.ownsRow w.heap.size TB8 1 v (peekL S C s).length ((peekL S C s).map bv) ∧ CAct w w' P P C S C := by
  have hrf := refusal_c h s
  unfold peekL
  by_cases hi : K.inD S.n s = true
  · simp only [hi, if_true] at hrf ⊢
    obtain ⟨t, rfl, ht⟩ := inD_nat hi
    rw [Int.toNat_natCast]
    have hn1 := h.rk.n1
    have hwf : I.wfK (t : Int) := K.wfI t (by omega)
    have HC3 : Hid (∀ w1, CAct w w1 P P C S C → w1.cell? ⟨P.bc, 3, none⟩ = some (.map (some P.bl)) ∧ (Instr.lookup TLm (.map (some P.bl)) (.int .i64 t) false).run Tryz.prog w1 = .ok (linePtr (lineAt C.L t)) w1) := fun w1 ha => ⟨ha.rc.c 3, ha.rc.look hwf⟩
    unfold seen
    cases hl : lineAt C.L t with
    | some l =>
      simp only [hl, linePtr] at HC3 ⊢
      have HC : Hid (∀ w1, CAct w w1 P P C S C → Calls Tryz.prog 43 #[.slice (some ⟨l.blk, 0, none⟩) 512 512] w1 fun r w2 => ∃ v, r = .returned v ∧ w2.ownsRow w.heap.size TB8 1 v l.dat.length (l.dat.map bv) ∧ CAct w w2 P P C S C) := fun w1 ha => by
        have hm : l ∈ C.L := (lineAt_mem hl).1
        have hok := (ha.rc.ok l hm).2
        have hbr : BRow w1 (some ⟨l.blk, 0, none⟩) 512 l.dat := ⟨hok.lt, by rw [hok.len]; decide, (fun e => by cases e), fun _ => ⟨l.blk, 0, rfl, fun k hk => by
          rw [Nat.zero_add]
          exact (ha.rc.lcell hm k).trans (lcells_dat hok (by rw [List.getElem?_map, List.getElem?_eq_getElem hk]; rfl))⟩⟩
        refine (clone_some ⟨l.blk, 0, none⟩ 512 512 l.dat w1 hbr hok.len (by decide)).mono ?_
        rintro r w2 ⟨v, rfl, ho, hb⟩
        exact ⟨v, rfl, by rw [hok.len]; exact owns_mono ho ha.kp.size, ha.later hb⟩
      have e1 := neq_lp_some
      clear h hl hq
      go_enter Tryz.func81, Tryz.ntmps81
      go_wp2_with (first | (go_at_call 41; refine hrf.mono ?_; clear hrf; rintro r w1 ⟨rfl, ha1⟩; obtain ⟨c3, hlk⟩ := HC3.out w1 ha1) | (go_at_call 43; refine (HC.out w1 ha1).mono ?_; clear HC; rintro r w3 ⟨v, rfl, ho, ha3⟩))
      refine bodyPost_ret (results_tmp2 rfl _ _ _) rfl ?_
      exact ⟨v, rfl, ho, ha3⟩
    | none =>
      simp only [hl, linePtr] at HC3 ⊢
      have HO : Hid (∀ w1, CAct w w1 P P C S C → Calls Tryz.prog 116 #[.pointer (some ⟨P.bc, 0, none⟩), .int .i64 t] w1 fun r w2 => ∃ v, r = .returned v ∧ w2.ownsRow w.heap.size TB8 1 v (K.look S t).length ((K.look S t).map bv) ∧ CAct w w2 P P C S C) := fun w1 ha => by
        refine (onDisk_c ha.rc hq ht).mono ?_
        rintro r w2 ⟨v, rfl, ho, ha2⟩
        have hlk := (K.look_ok ha.rc.rk ht).len
        exact ⟨v, rfl, by rw [hlk]; exact owns_mono ho ha.kp.size, ha.trans ha2⟩
      have e1 := neq_lp_none
      clear h hl hq
      go_enter Tryz.func81, Tryz.ntmps81
      go_wp2_with (first | (go_at_call 41; refine hrf.mono ?_; clear hrf; rintro r w1 ⟨rfl, ha1⟩; obtain ⟨c3, hlk⟩ := HC3.out w1 ha1) | (go_at_call 116; refine (HO.out w1 ha1).mono ?_; clear HO; rintro r w3 ⟨v, rfl, ho, ha3⟩))
      refine bodyPost_ret (results_tmp2 rfl _ _ _) rfl ?_
      exact ⟨v, rfl, ho, ha3⟩
  · simp only [hi, if_false] at hrf ⊢
    clear h hq
    go_enter Tryz.func81, Tryz.ntmps81
    go_wp2_with (go_at_call 41; refine hrf.mono ?_; clear hrf; rintro r w1 ⟨rfl, ha1⟩)
    refine bodyPost_ret (results_tmp2 rfl _ _ _) rfl ?_
    exact ⟨_, rfl, World.ownsRow_nil _ _ _ _, ha1⟩
end
end Go.Proofs.YtlacligofhinmaaGreat.C

namespace Go.Proofs.YtlacligofhinmaaGreat.C
open Go.ChangeShapes Go.WideShapes Go.ChangeAt Go.RowKit Go.Deep Go.Proofs.YtlacligofhinmaaGreat
set_option linter.unusedVariables false
set_option maxRecDepth 100000

theorem cellsKeep : Tryz.prog.cellsOf 42 = 1 := by kernel_rfl
theorem cellsInts : Tryz.prog.cellsOf 39 = 1 := by kernel_rfl
theorem cellsBool : Tryz.prog.cellsOf 4 = 1 := by kernel_rfl
theorem cellsFa5 : Tryz.prog.cellsOf 41 = 5 := by kernel_rfl
theorem fiveV {cs : List Value} (h : cs.length = 5) : ∃ a b c d e, cs = [a, b, c, d, e] := by
  match cs, h with
  | [a, b, c, d, e], _ => exact ⟨a, b, c, d, e, rfl⟩
/-- a call that was handed in -/
structure Opc where
  kind : Int
  sector : Int
  fill : Nat
  more : Int
  lo : Option Addr
  lc : Nat
  list : List Int
  f : K.Flt
  ko : Option Addr
  kn : Nat
  kc : Nat
def Opc.cells (o : Opc) : List Value := [.int .i64 o.kind, .int .i64 o.sector, .int .u8 o.fill, .int .i64 o.more, .slice o.lo o.list.length o.lc, .int .i64 o.f.kind, .int .i64 o.f.sector, .int .i64 o.f.after, .int .i64 o.f.times, .bool o.f.land, .slice o.ko o.kn o.kc]
/-- numbers in cells -/
def IRd (W : World) (ao : Option Addr) (ks : List Int) : Prop := ∀ (k : Nat) (x : Int), ks[k]? = some x → ∃ g off, ao = some ⟨g, off, none⟩ ∧ g < W.heap.size ∧ W.cell? ⟨g, off + k, none⟩ = some (.int .i64 x)
structure OpcOk (W : World) (o : Opc) : Prop where
  fill : o.fill < 256
  sw : (Lit.int .i64 o.sector).wf = true
  fa : K.I64 o.f.after
  ft : K.I64 o.f.times
  ll : o.list.length ≤ 1048576
  row : IRd W o.lo o.list
theorem i64_of_wf {z : Int} (h : (Lit.int .i64 z).wf = true) : K.I64 z := by
  have e1 : IntKind.i64.min = -9223372036854775808 := rfl
  have e2 : IntKind.i64.max = 9223372036854775807 := rfl
  simp [Lit.wf] at h
  unfold K.I64
  omega
theorem open_fault {H : Type} {enc : TypeId × Value → H} {W : World} {base fuel : Nat} {cs : List Value} {x : DataW H × List MemPlace} (hf : DataW.trod enc Tryz.prog W base (fun _ => true) true fuel 41 cs = some x) :
    ∃ f : K.Flt, cs = K.fcell f ∧ K.I64 f.after ∧ K.I64 f.times := by
  obtain ⟨xs, m, _, _, hl, hxl, hall⟩ := DataW.trod_struct Tryz.underlying41 hf
  obtain ⟨a, b, c, d, e, rfl⟩ := fiveV (hl.trans cellsFa5)
  have hx5 : xs.length = 5 := hxl
  have h0 : DataW.trod enc Tryz.prog W base (fun _ => true) true m 3 (([a, b, c, d, e].drop 0).take (Tryz.prog.cellsOf 3)) = xs[0]? := hall 0 _ rfl
  have h1 : DataW.trod enc Tryz.prog W base (fun _ => true) true m 3 (([a, b, c, d, e].drop 1).take (Tryz.prog.cellsOf 3)) = xs[1]? := hall 1 _ rfl
  have h2 : DataW.trod enc Tryz.prog W base (fun _ => true) true m 3 (([a, b, c, d, e].drop 2).take (Tryz.prog.cellsOf 3)) = xs[2]? := hall 2 _ rfl
  have h3 : DataW.trod enc Tryz.prog W base (fun _ => true) true m 3 (([a, b, c, d, e].drop 3).take (Tryz.prog.cellsOf 3)) = xs[3]? := hall 3 _ rfl
  have h4 : DataW.trod enc Tryz.prog W base (fun _ => true) true m 4 (([a, b, c, d, e].drop 4).take (Tryz.prog.cellsOf 4)) = xs[4]? := hall 4 _ rfl
  rw [List.getElem?_eq_getElem (by omega)] at h0 h1 h2 h3 h4
  rw [cellsInt] at h0 h1 h2 h3
  rw [cellsBool] at h4
  obtain ⟨z0, e0, _, _⟩ := DataW.trod_int Tryz.underlying3 h0
  obtain ⟨z1, e1, _, _⟩ := DataW.trod_int Tryz.underlying3 h1
  obtain ⟨z2, e2, _, w2⟩ := DataW.trod_int Tryz.underlying3 h2
  obtain ⟨z3, e3, _, w3⟩ := DataW.trod_int Tryz.underlying3 h3
  obtain ⟨z4, e4, _⟩ := DataW.trod_bool Tryz.underlying4 h4
  simp at e0 e1 e2 e3 e4
  subst e0; subst e1; subst e2; subst e3; subst e4
  exact ⟨⟨z0, z1, z2, z3, z4⟩, rfl, i64_of_wf w2, i64_of_wf w3⟩
theorem cell_lt {W : World} {g o : Nat} {v : Value} (h : W.cell? ⟨g, o, none⟩ = some v) : g < W.heap.size := by
  unfold World.cell? at h
  rcases Nat.lt_or_ge g W.heap.size with hh | hh
  · exact hh
  · simp only at h
    rw [Array.getElem?_eq_none hh] at h
    simp at h
theorem open_ints {H : Type} {enc : TypeId × Value → H} {W : World} {base fuel : Nat} {cs : List Value} {d : DataW H} {p : List MemPlace} (hf : DataW.trod enc Tryz.prog W base (fun _ => true) true fuel 39 cs = some (d, p)) (hb : Rows.uptoBulk d ≤ 1048576) :
    ∃ (ao : Option Addr) (cap : Nat) (l : List Int), cs = [.slice ao l.length cap] ∧ IRd W ao l ∧ l.length ≤ 1048576 := by
  rcases open_slice Tryz.underlying39 hf with ⟨hcs, _⟩ | ⟨x, len, cap, m, n, D, Pl, hcs, _, hl, hm, hmm, hx, hel⟩
  · exact ⟨none, 0, [], hcs, fun k x hk => by simp at hk, by simp⟩
  · have hmc : m = cap := by simpa using hmm
    have hd : d = .slice ((List.range len).map D) ((List.range (m - len)).map fun j => D (len + j)) := (Prod.mk.inj hx).1
    have hlen : len ≤ 1048576 := by
      have b1 := bulk_slice ((List.range len).map D) ((List.range (m - len)).map fun j => D (len + j))
      have b2 := length_le_bulk ((List.range len).map D)
      rw [← hd] at b1
      simp at b2
      omega
    have hel' : ∀ i, ∃ q : Int, i < len → W.cell? (x.add i) = some (.int .i64 q) := by
      intro i
      by_cases hi : i < len
      · obtain ⟨cs', hc1, hc2⟩ := hel i (by omega)
        rw [cellsInt] at hc1
        obtain ⟨q, rfl, _⟩ := DataW.trod_int Tryz.underlying3 hc2
        refine ⟨q, fun _ => ?_⟩
        have h1 := (World.cells?_some hc1).2.2 0 (by decide)
        rw [Nat.mul_one] at h1
        have e : (x.add i).add 0 = x.add i := by simp [Addr.add]
        rw [e] at h1
        exact h1
      · exact ⟨0, fun h => absurd h hi⟩
    obtain ⟨T, hT⟩ := Classical.axiomOfChoice hel'
    refine ⟨some x, cap, (List.range len).map T, by rw [hcs]; simp, fun k y hk => ?_, by simpa using hlen⟩
    have hk2 : k < len := by
      have := (List.getElem?_eq_some_iff.1 hk).1
      simpa using this
    obtain ⟨pb, po, rfl⟩ : ∃ pb po, x = ⟨pb, po, none⟩ := by
      have h1 := World.cell?_spot (hT 0 (by omega))
      obtain ⟨b, off, spot⟩ := x
      have : spot = none := by simpa [Addr.add] using h1
      exact ⟨b, off, by rw [this]⟩
    have hq : T k = y := by simpa [hk2] using hk
    have h1 := hT k hk2
    rw [add_plain, hq] at h1
    exact ⟨pb, po, rfl, cell_lt h1, h1⟩
theorem open_bools {H : Type} {enc : TypeId × Value → H} {W : World} {base fuel : Nat} {cs : List Value} {d : DataW H} {p : List MemPlace} (hf : DataW.trod enc Tryz.prog W base (fun _ => true) true fuel 42 cs = some (d, p)) : ∃ (ao : Option Addr) (n cap : Nat), cs = [.slice ao n cap] := by
  rcases open_slice Tryz.underlying42 hf with ⟨hcs, _⟩ | ⟨x, len, cap, m, n, D, Pl, hcs, _⟩
  · exact ⟨none, 0, 0, hcs⟩
  · exact ⟨some x, len, cap, hcs⟩
theorem open_opc {H : Type} {enc : TypeId × Value → H} {W : World} {base fuel : Nat} {cs : List Value} {d : DataW H} {p : List MemPlace} (hf : DataW.trod enc Tryz.prog W base (fun _ => true) true fuel 44 cs = some (d, p)) (hb : Rows.uptoBulk d ≤ 1048576) :
    ∃ o : Opc, cs = o.cells ∧ OpcOk W o ∧ 8 ≤ Rows.uptoBulk d := by
  obtain ⟨xs, m, _, hx, hl, hxl, hall⟩ := DataW.trod_struct Tryz.underlying44 hf
  obtain ⟨a, b, c, d', ls, f0, f1, f2, f3, f4, g, rfl⟩ := elevenV (hl.trans cellsOp)
  have hx7 : xs.length = 7 := hxl
  have h0 : DataW.trod enc Tryz.prog W base (fun _ => true) true m 3 (([a, b, c, d', ls, f0, f1, f2, f3, f4, g].drop 0).take (Tryz.prog.cellsOf 3)) = xs[0]? := hall 0 _ rfl
  have h1 : DataW.trod enc Tryz.prog W base (fun _ => true) true m 3 (([a, b, c, d', ls, f0, f1, f2, f3, f4, g].drop 1).take (Tryz.prog.cellsOf 3)) = xs[1]? := hall 1 _ rfl
  have h2 : DataW.trod enc Tryz.prog W base (fun _ => true) true m 5 (([a, b, c, d', ls, f0, f1, f2, f3, f4, g].drop 2).take (Tryz.prog.cellsOf 5)) = xs[2]? := hall 2 _ rfl
  have h3 : DataW.trod enc Tryz.prog W base (fun _ => true) true m 3 (([a, b, c, d', ls, f0, f1, f2, f3, f4, g].drop 3).take (Tryz.prog.cellsOf 3)) = xs[3]? := hall 3 _ rfl
  have h4 : DataW.trod enc Tryz.prog W base (fun _ => true) true m 39 (([a, b, c, d', ls, f0, f1, f2, f3, f4, g].drop 4).take (Tryz.prog.cellsOf 39)) = xs[4]? := hall 4 _ rfl
  have h5 : DataW.trod enc Tryz.prog W base (fun _ => true) true m 41 (([a, b, c, d', ls, f0, f1, f2, f3, f4, g].drop 5).take (Tryz.prog.cellsOf 41)) = xs[5]? := hall 5 _ rfl
  have h6 : DataW.trod enc Tryz.prog W base (fun _ => true) true m 42 (([a, b, c, d', ls, f0, f1, f2, f3, f4, g].drop 10).take (Tryz.prog.cellsOf 42)) = xs[6]? := hall 6 _ rfl
  rw [List.getElem?_eq_getElem (by omega)] at h0 h1 h2 h3 h4 h5 h6
  rw [cellsInt] at h0 h1 h3
  rw [cellsU8] at h2
  rw [cellsInts] at h4
  rw [cellsFa5] at h5
  rw [cellsKeep] at h6
  obtain ⟨z0, e0, _, _⟩ := DataW.trod_int Tryz.underlying3 h0
  obtain ⟨z1, e1, _, w1⟩ := DataW.trod_int Tryz.underlying3 h1
  obtain ⟨z2, e2, _, w2⟩ := DataW.trod_int Tryz.underlying5 h2
  obtain ⟨z3, e3, _, _⟩ := DataW.trod_int Tryz.underlying3 h3
  obtain ⟨f, e5, fa, ft⟩ := open_fault h5
  have hb8 : 8 ≤ Rows.uptoBulk d := by
    have hd : d = .agg (xs.map Prod.fst) := (Prod.mk.inj hx).1
    have h7 := length_le_bulk (xs.map Prod.fst)
    rw [List.length_map, hx7] at h7
    rw [hd]
    simp only [Rows.uptoBulk]
    omega
  have hb4 : Rows.uptoBulk xs[4].1 ≤ 1048576 := by
    have hd : d = .agg (xs.map Prod.fst) := (Prod.mk.inj hx).1
    have h6 : xs[4].1 ∈ xs.map Prod.fst := List.mem_map_of_mem (List.getElem_mem _)
    have h7 := bulk_le_all h6
    rw [hd] at hb
    simp only [Rows.uptoBulk] at hb
    omega
  obtain ⟨lo, lc, l, e4, hr, hll⟩ := open_ints (d := xs[4].1) (p := xs[4].2) h4 hb4
  obtain ⟨ko, kn, kc, e6⟩ := open_bools (d := xs[6].1) (p := xs[6].2) h6
  simp [K.fcell] at e0 e1 e2 e3 e4 e5 e6
  obtain ⟨q0, q1, q2, q3, q4⟩ := e5
  subst e0; subst e1; subst e2; subst e3; subst e4; subst e6; subst q0; subst q1; subst q2; subst q3; subst q4
  have hbb := bounds_u8 w2
  obtain ⟨fill, rfl⟩ := Int.eq_ofNat_of_zero_le hbb.1
  exact ⟨⟨z0, z1, fill, z3, lo, lc, l, f, ko, kn, kc⟩, rfl, ⟨by show fill < 256; omega, w1, fa, ft, hll, hr⟩, hb8⟩
theorem bulk_times {H : Type} : ∀ (l : List (DataW H)), (∀ d ∈ l, 8 ≤ Rows.uptoBulk d) → 8 * l.length ≤ Rows.uptoBulkAll l
  | [], _ => by simp
  | d :: l, h => by
    have h1 := bulk_times l (fun x hx => h x (List.mem_cons_of_mem _ hx))
    have h2 := h d (by simp)
    simp only [Rows.uptoBulkAll, List.length_cons]
    omega
/-- the script's row -/
structure OcRow (W : World) (ao : Option Addr) (l : List Opc) : Prop where
  at_ : ∀ (k : Nat) o, l[k]? = some o → ∃ b off, ao = some ⟨b, off, none⟩ ∧ ∀ j, j < 11 → W.cell? ⟨b, off + k * 11 + j, none⟩ = o.cells[j]?
theorem open_opcs {H : Type} {enc : TypeId × Value → H} {W : World} {base fuel : Nat} {a0 : Option Addr} {len0 cap0 : Nat} {d : DataW H} {p : List MemPlace} (hf : DataW.trod enc Tryz.prog W base (fun _ => true) true fuel 25 [.slice a0 len0 cap0] = some (d, p)) (hb : Rows.uptoBulk d ≤ 1048576) :
    ∃ l : List Opc, len0 = l.length ∧ OcRow W a0 l ∧ (∀ o ∈ l, OpcOk W o) ∧ 8 * len0 ≤ 1048576 := by
  rcases open_slice Tryz.underlying25 hf with ⟨hcs, _⟩ | ⟨x, len, cap, m, n, D, Pl, hcs, _, hl, hm, hmm, hx, hel⟩
  · simp at hcs
    obtain ⟨rfl, rfl, rfl⟩ := hcs
    exact ⟨[], rfl, ⟨fun k q hk => by simp at hk⟩, by simp, by decide⟩
  · simp at hcs
    obtain ⟨rfl, rfl, rfl⟩ := hcs
    have hmc : m = cap0 := by simpa using hmm
    have hd : d = .slice ((List.range len0).map D) ((List.range (m - len0)).map fun j => D (len0 + j)) := (Prod.mk.inj hx).1
    have b1 := bulk_slice ((List.range len0).map D) ((List.range (m - len0)).map fun j => D (len0 + j))
    rw [← hd] at b1
    have hlen : len0 ≤ 1048575 := by
      have b2 := length_le_bulk ((List.range len0).map D)
      simp at b2
      omega
    have hel' : ∀ i, ∃ q : Opc, i < len0 → (∀ j, j < 11 → W.cell? ((x.add (i * 11)).add j) = q.cells[j]?) ∧ OpcOk W q ∧ 8 ≤ Rows.uptoBulk (D i) := by
      intro i
      by_cases hi : i < len0
      · obtain ⟨cs', hc1, hc2⟩ := hel i (by omega)
        rw [cellsOp] at hc1
        have hbi : Rows.uptoBulk (D i) ≤ 1048576 := by
          have h6 : D i ∈ (List.range len0).map D := List.mem_map_of_mem (List.mem_range.2 hi)
          have h7 := bulk_le_all h6
          omega
        obtain ⟨q, rfl, hq⟩ := open_opc hc2 hbi
        exact ⟨q, fun _ => ⟨(World.cells?_some hc1).2.2, hq⟩⟩
      · exact ⟨⟨0, 0, 0, 0, none, 0, [], ⟨0, 0, 0, 0, false⟩, none, 0, 0⟩, fun h => absurd h hi⟩
    obtain ⟨T, hT⟩ := Classical.axiomOfChoice hel'
    have hlen8 : 8 * len0 ≤ 1048576 := by
      have h1 := bulk_times ((List.range len0).map D) (fun d hd => by
        obtain ⟨i, hi, rfl⟩ := List.mem_map.1 hd
        exact (hT i (List.mem_range.1 hi)).2.2)
      simp only [List.length_map, List.length_range] at h1
      omega
    refine ⟨(List.range len0).map T, by simp, ⟨fun k q hk => ?_⟩, fun y hy => ?_, hlen8⟩
    · have hk2 : k < len0 := by
        have := (List.getElem?_eq_some_iff.1 hk).1
        simpa using this
      have hq : T k = q := by simpa [hk2] using hk
      obtain ⟨pb, po, rfl⟩ : ∃ pb po, x = ⟨pb, po, none⟩ := by
        have h0 := (hT 0 (by omega)).1 0 (by decide)
        have h1 := World.cell?_spot (show W.cell? ((x.add (0 * 11)).add 0) = some (.int .i64 (T 0).kind) from h0)
        obtain ⟨b, off, spot⟩ := x
        have : spot = none := by simpa [Addr.add] using h1
        exact ⟨b, off, by rw [this]⟩
      refine ⟨pb, po, rfl, fun j hj => ?_⟩
      have g0 := (hT k hk2).1 j hj
      rw [add_plain, add_plain, hq] at g0
      exact g0
    · obtain ⟨i, hi, rfl⟩ := List.mem_map.1 hy
      exact (hT i (List.mem_range.1 hi)).2.1
end Go.Proofs.YtlacligofhinmaaGreat.C
