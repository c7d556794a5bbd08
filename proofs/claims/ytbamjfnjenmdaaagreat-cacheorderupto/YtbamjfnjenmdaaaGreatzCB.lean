import Derived.Test.YtbamjfnjenmdaaaGreatG18
import Derived.Test.YtbamjfnjenmdaaaGreatG21
namespace Go.Proofs.YtbamjfnjenmdaaaGreat.C
open Go.RowKit Go.Maps Go.Proofs.YtbamjfnjenmdaaaGreat
set_option linter.unusedVariables false
set_option linter.unusedSimpArgs false
set_option maxRecDepth 100000

abbrev TCa : TypeId := 92
abbrev TLn : TypeId := 84
abbrev TLp : TypeId := 80
abbrev TLm : TypeId := 86
abbrev TSp : TypeId := 66
abbrev TIn : TypeId := 3
/-- a line: its sector, its block in memory, its bytes, is it dirty, is it a note's -/
structure Ln where
  sec : Nat
  blk : Nat
  dat : K.Bl
  dirty : Bool
  note : Bool
def Ln.ent (l : Ln) : I.Ent := ⟨(l.sec : Int), 0, l.blk⟩
def lcells (l : Ln) : Array Value := (l.dat.map bv ++ [Value.bool l.dirty, Value.bool l.note]).toArray
structure Cs where
  hits : Int
  misses : Int
  evicted : Int
  written : Int
/-- what a cache is; the line used least lately first -/
structure Ch where
  most : Nat
  notes : List (Int × Int)
  L : List Ln
  st : Cs
/-- where it lies -/
structure Loc where
  bc : Nat
  bd : Nat
  ms : Nat
  ml : Nat
  qv : Value
  fv : Value
  nv : Value
  nb : Option Nat
  bl : Nat
  bo : Nat
  bm : Nat
  g : Nat
  E : List I.Ent
def spcell (p : Int × Int) : List Value := [.int .i64 p.1, .int .i64 p.2]
def spcells (l : List (Int × Int)) : List Value := l.flatMap spcell
def Loc.dfp (P : Loc) : List Nat := K.fp P.bd P.ms P.ml P.qv P.fv
def Loc.ofp (P : Loc) : List Nat := I.fp P.bo P.bm P.g P.E
def Loc.cfp (P : Loc) (L : List Ln) : List Nat := P.bc :: P.bl :: (P.nb.toList ++ L.map (·.blk))
def Loc.fp (P : Loc) (L : List Ln) : List Nat := P.dfp ++ (P.ofp ++ P.cfp L)
def ccells (P : Loc) (C : Ch) : Array Value := #[.pointer (some ⟨P.bd, 0, none⟩), .int .i64 C.most, P.nv, .map (some P.bl), .pointer (some ⟨P.bo, 0, none⟩), .int .u64 C.st.hits, .int .u64 C.st.misses, .int .u64 C.st.evicted, .int .u64 C.st.written]
/-- the spans of notes in memory: of none at all nothing is held -/
def NR (w : World) (nv : Value) (nb : Option Nat) (notes : List (Int × Int)) : Prop := (notes = [] ∧ nb = none ∧ ∃ ao cap, nv = .slice ao 0 cap) ∨ (nb = nv.ownBlock ∧ w.ownsRow 0 TSp 2 nv notes.length (spcells notes))
theorem NR.block {w w' : World} {nv : Value} {nb : Option Nat} {notes : List (Int × Int)} (h : NR w nv nb notes) (hb : ∀ g, nb = some g → w'.heap[g]? = w.heap[g]?) : NR w' nv nb notes := by
  rcases h with h | ⟨rfl, h⟩
  · exact .inl h
  · exact .inr ⟨rfl, K.ownsRow_block h hb⟩
theorem NR.lt {w : World} {nv : Value} {nb : Option Nat} {notes : List (Int × Int)} (h : NR w nv nb notes) : ∀ g, nb = some g → g < w.heap.size ∧ ∃ cs, w.heap[g]? = some (.cells cs TSp (0, 0)) := by
  intro g hg
  rcases h with ⟨_, rfl, _⟩ | ⟨rfl, h⟩
  · cases hg
  · exact K.row_lt h g hg
/-- a cache in memory -/
structure RC (w : World) (P : Loc) (S : K.Dk) (C : Ch) : Prop where
  blk : w.heap[P.bc]? = some (.cells (ccells P C) TCa (0, 0))
  rk : K.RK w 0 P.bd P.ms P.ml P.qv P.fv S
  ro : I.RO w P.bo P.bm P.g P.E
  eq : P.E.map (·.key) = C.L.map (fun l => (l.sec : Int))
  nr : NR w P.nv P.nb C.notes
  lm : ∃ D, w.ownsMap Tryz.prog TIn I.ptrE P.bl (Maps.size D) D ∧ I.MapOk (C.L.map Ln.ent) D
  ln : ∀ l ∈ C.L, w.heap[l.blk]? = some (.cells (lcells l) TLn (0, 0))
  nd : (C.L.map (·.blk)).Nodup
  ok : ∀ l ∈ C.L, l.sec < S.n ∧ K.OkB l.dat
  lim : C.L.length ≤ C.most ∧ 1 ≤ C.most ∧ C.most ≤ 1024
  nl : C.notes.length ≤ 64
  nok : ∀ p ∈ C.notes, 0 ≤ p.1 ∧ 1 ≤ p.2 ∧ p.1 + p.2 ≤ S.n
  d1 : ∀ i ∈ P.dfp, i ∉ P.ofp
  d2 : ∀ i ∈ P.dfp, i ∉ P.cfp C.L
  d3 : ∀ i ∈ P.ofp, i ∉ P.cfp C.L
section
variable {w w' : World} {P : Loc} {S S' : K.Dk} {C C' : Ch}
theorem RC.cl (h : RC w P S C) : ∀ i ∈ P.cfp C.L, i < w.heap.size := by
  intro i hi
  simp only [Loc.cfp, List.mem_cons, List.mem_append, List.mem_map, Option.mem_toList] at hi
  obtain ⟨D, hm, _⟩ := h.lm
  rcases hi with rfl | rfl | hi | ⟨l, hl, rfl⟩
  · exact (Array.getElem?_eq_some_iff.1 h.blk).1
  · exact hm.lt
  · exact (h.nr.lt i hi).1
  · exact (Array.getElem?_eq_some_iff.1 (h.ln l hl)).1
theorem RC.lt (h : RC w P S C) : ∀ i ∈ P.fp C.L, i < w.heap.size := by
  intro i hi
  simp only [Loc.fp, List.mem_append] at hi
  rcases hi with hi | hi | hi
  · exact h.rk.lt i hi
  · exact h.ro.lt i hi
  · exact h.cl i hi
theorem RC.same (h : RC w P S C) (hs : ∀ i ∈ P.fp C.L, w'.heap[i]? = w.heap[i]?) : RC w' P S C := by
  have hc : ∀ i ∈ P.cfp C.L, w'.heap[i]? = w.heap[i]? := fun i hi => hs i (by simp [Loc.fp, hi])
  obtain ⟨D, hm, ho⟩ := h.lm
  exact ⟨(hc P.bc (by simp [Loc.cfp])).trans h.blk, h.rk.same (fun i hi => hs i (by simp only [Loc.fp, List.mem_append]; exact .inl hi)), h.ro.same (fun i hi => hs i (by simp only [Loc.fp, List.mem_append]; exact .inr (.inl hi))), h.eq, h.nr.block (fun g hg => hc g (by simp [Loc.cfp, hg])), ⟨D, K.ownsMap_block hm (hc P.bl (by simp [Loc.cfp])), ho⟩, fun l hl => (hc l.blk (by simp only [Loc.cfp, List.mem_cons, List.mem_append, List.mem_map]; exact .inr (.inr (.inr ⟨l, hl, rfl⟩)))).trans (h.ln l hl), h.nd, h.ok, h.lim, h.nl, h.nok, h.d1, h.d2, h.d3⟩
theorem RC.later (h : RC w P S C) (hb : Below w.heap.size w w') : RC w' P S C := h.same fun i hi => hb.block i (h.lt i hi)
theorem RC.kept {F : List Nat} (h : RC w P S C) (hk : K.Kp w w' F) (hd : ∀ i ∈ P.fp C.L, i ∉ F) : RC w' P S C := h.same fun i hi => hk.block i (h.lt i hi) (hd i hi)
/-- the cache's own blocks are apart -/
theorem RC.apart (h : RC w P S C) : P.bc ≠ P.bl ∧ P.nb ≠ some P.bc ∧ P.nb ≠ some P.bl ∧ ∀ l ∈ C.L, l.blk ≠ P.bc ∧ l.blk ≠ P.bl ∧ P.nb ≠ some l.blk := by
  obtain ⟨D, ⟨es, ck, hm, _⟩, _⟩ := h.lm
  have hb := h.blk
  have hn := h.nr.lt
  refine ⟨?_, ?_, ?_, fun l hl => ⟨?_, ?_, ?_⟩⟩
  · intro e; rw [e, hm] at hb; cases hb
  · intro e; obtain ⟨_, cs, h1⟩ := hn _ e; rw [hb] at h1; simp at h1; exact absurd h1.2 (by decide)
  · intro e; obtain ⟨_, cs, h1⟩ := hn _ e; rw [hm] at h1; cases h1
  · intro e; have h1 := h.ln l hl; rw [e, hb] at h1; simp at h1; exact absurd h1.2 (by decide)
  · intro e; have h1 := h.ln l hl; rw [e, hm] at h1; cases h1
  · intro e; obtain ⟨_, cs, h1⟩ := hn _ e; rw [h.ln l hl] at h1; simp at h1; exact absurd h1.2 (by decide)
/-- what a call leaves -/
structure CAct (w w' : World) (P P' : Loc) (C : Ch) (S' : K.Dk) (C' : Ch) : Prop where
  rc : RC w' P' S' C'
  kp : K.Kp w w' (P.fp C.L)
  sub : ∀ i ∈ P'.fp C'.L, i ∈ P.fp C.L ∨ w.heap.size ≤ i
  bc : P'.bc = P.bc
  bd : P'.bd = P.bd
theorem CAct.refl (h : RC w P S C) : CAct w w P P C S C := ⟨h, K.Kp.refl _ _, fun _ h => .inl h, rfl, rfl⟩
theorem CAct.trans {w2 : World} {P1 P2 : Loc} {S1 S2 : K.Dk} {C1 C2 : Ch} (h : CAct w w' P P1 C S1 C1) (k : CAct w' w2 P1 P2 C1 S2 C2) : CAct w w2 P P2 C S2 C2 :=
  ⟨k.rc, h.kp.trans k.kp h.sub, fun i hi => (k.sub i hi).elim (h.sub i) (fun hh => .inr (Nat.le_trans h.kp.size hh)), k.bc.trans h.bc, k.bd.trans h.bd⟩
theorem CAct.later {P' : Loc} {w2 : World} (h : CAct w w' P P' C S' C') (hb : Below w'.heap.size w' w2) : CAct w w2 P P' C S' C' :=
  ⟨h.rc.later hb, h.kp.trans (K.Kp.of_below hb (P.fp C.L)) (fun i hi => .inl hi), h.sub, h.bc, h.bd⟩
theorem CAct.from_later {P' : Loc} {w0 : World} (hb : Below w0.heap.size w0 w) (hP : ∀ i ∈ P.fp C.L, i < w0.heap.size) (h : CAct w w' P P' C S' C') : CAct w0 w' P P' C S' C' :=
  ⟨h.rc, (K.Kp.of_below hb (P.fp C.L)).trans h.kp (fun i hi => .inl hi), fun i hi => (h.sub i hi).imp id (fun hh => Nat.le_trans hb.size hh), h.bc, h.bd⟩
/-- a call on the disk -/
theorem RC.disk (h : RC w P S C) {ms' ml' : Nat} {qv' fv' : Value} (hn : S'.n = S.n) (ha : K.DAct w w' 0 P.bd P.ms P.ml ms' ml' P.qv P.fv qv' fv' S') :
    CAct w w' P { P with ms := ms', ml := ml', qv := qv', fv := fv' } C S' C := by
  have hk : ∀ i ∈ P.ofp ++ P.cfp C.L, w'.heap[i]? = w.heap[i]? := fun i hi => ha.kp.block i (h.lt i (by simp only [Loc.fp, List.mem_append] at hi ⊢; exact .inr hi)) (fun hd => by
    rcases List.mem_append.1 hi with hi | hi
    · exact h.d1 i hd hi
    · exact h.d2 i hd hi)
  have hc : ∀ i ∈ P.cfp C.L, w'.heap[i]? = w.heap[i]? := fun i hi => hk i (List.mem_append_right _ hi)
  obtain ⟨D, hm, ho⟩ := h.lm
  have hsub : ∀ i ∈ K.fp P.bd ms' ml' qv' fv', i ∈ P.dfp ∨ w.heap.size ≤ i := ha.sub
  refine ⟨⟨(hc P.bc (by simp [Loc.cfp])).trans h.blk, ha.rk, h.ro.same (fun i hi => hk i (List.mem_append_left _ hi)), h.eq, h.nr.block (fun g hg => hc g (by simp [Loc.cfp, hg])), ⟨D, K.ownsMap_block hm (hc P.bl (by simp [Loc.cfp])), ho⟩, fun l hl => (hc l.blk (by simp only [Loc.cfp, List.mem_cons, List.mem_append, List.mem_map]; exact .inr (.inr (.inr ⟨l, hl, rfl⟩)))).trans (h.ln l hl), h.nd, fun l hl => ⟨by rw [hn]; exact (h.ok l hl).1, (h.ok l hl).2⟩, h.lim, h.nl, fun p hp => by rw [hn]; exact h.nok p hp, ?_, ?_, h.d3⟩, ?_, ?_, rfl, rfl⟩
  · intro i hi ho'
    rcases hsub i hi with hi | hi
    · exact h.d1 i hi ho'
    · have := h.ro.lt i ho'; omega
  · intro i hi hc'
    rcases hsub i hi with hi | hi
    · exact h.d2 i hi hc'
    · have := h.cl i hc'; omega
  · exact ha.kp.sub fun i hi => .inl (by simp only [Loc.fp, List.mem_append]; exact .inl hi)
  · intro i hi
    simp only [Loc.fp, List.mem_append] at hi
    rcases hi with hi | hi
    · exact (hsub i hi).imp (fun hh => by simp only [Loc.fp, List.mem_append]; exact .inl hh) id
    · exact .inl (by simp only [Loc.fp, List.mem_append]; exact .inr hi)
theorem kpI {w w' : World} {F : List Nat} (h : I.Kp w w' F) : K.Kp w w' F := ⟨h.os, h.tape, h.output, h.size, h.block⟩
/-- a call on the order, the lines as they are but for their order -/
theorem RC.order (h : RC w P S C) {E' : List I.Ent} (ha : I.Act w w' P.bo P.bm P.g P.E E') {L' : List Ln} (hp : L'.Perm C.L) (he : E'.map (·.key) = L'.map (fun l => (l.sec : Int))) :
    CAct w w' P { P with E := E' } C S { C with L := L' } := by
  have hk : ∀ i, i ∈ P.dfp ∨ i ∈ P.cfp C.L → w'.heap[i]? = w.heap[i]? := fun i hi => ha.kp.block i (h.lt i (by simp only [Loc.fp, List.mem_append]; rcases hi with hi | hi; exact .inl hi; exact .inr (.inr hi))) (fun ho => by
    rcases hi with hi | hi
    · exact h.d1 i hi ho
    · exact h.d3 i ho hi)
  have hc : ∀ i ∈ P.cfp C.L, w'.heap[i]? = w.heap[i]? := fun i hi => hk i (.inr hi)
  have hcf : ∀ i, i ∈ P.cfp L' ↔ i ∈ P.cfp C.L := fun i => by
    simp only [Loc.cfp, List.mem_cons, List.mem_append, (hp.map (·.blk)).mem_iff]
  obtain ⟨D, hm, ho⟩ := h.lm
  have hsub : ∀ i ∈ I.fp P.bo P.bm P.g E', i ∈ P.ofp ∨ w.heap.size ≤ i := ha.sub
  refine ⟨⟨(hc P.bc (by simp [Loc.cfp])).trans h.blk, h.rk.same (fun i hi => hk i (.inl hi)), ha.ro, he, h.nr.block (fun g hg => hc g (by simp [Loc.cfp, hg])), ⟨D, K.ownsMap_block hm (hc P.bl (by simp [Loc.cfp])), ?_⟩, fun l hl => ?_, (hp.map (·.blk)).nodup_iff.2 h.nd, fun l hl => h.ok l (hp.mem_iff.1 hl), by rw [show ({ C with L := L' } : Ch).L.length = C.L.length from hp.length_eq]; exact h.lim, h.nl, h.nok, ?_, ?_, ?_⟩, ?_, ?_, rfl, rfl⟩
  · refine ho.same ?_ ?_ ?_
    · intro e hm'
      obtain ⟨l, hl, rfl⟩ := List.mem_map.1 hm'
      exact ⟨_, List.mem_map.2 ⟨l, hp.mem_iff.1 hl, rfl⟩, rfl, rfl⟩
    · intro e hm'
      obtain ⟨l, hl, rfl⟩ := List.mem_map.1 hm'
      exact ⟨_, List.mem_map.2 ⟨l, hp.mem_iff.2 hl, rfl⟩, rfl⟩
    · rw [List.length_map, List.length_map]; exact hp.length_eq
  · have hl' := hp.mem_iff.1 hl
    exact (hc l.blk (by simp only [Loc.cfp, List.mem_cons, List.mem_append, List.mem_map]; exact .inr (.inr (.inr ⟨l, hl', rfl⟩)))).trans (h.ln l hl')
  · intro i hi ho'
    rcases hsub i ho' with ho' | ho'
    · exact h.d1 i hi ho'
    · have := h.rk.lt i hi; omega
  · exact fun i hi hc' => h.d2 i hi ((hcf i).1 hc')
  · intro i hi hc'
    rcases hsub i hi with hi | hi
    · exact h.d3 i hi ((hcf i).1 hc')
    · have := h.cl i ((hcf i).1 hc'); omega
  · exact (kpI ha.kp).sub fun i hi => .inl (by simp only [Loc.fp, List.mem_append]; exact .inr (.inl hi))
  · intro i hi
    simp only [Loc.fp, List.mem_append] at hi
    rcases hi with hi | hi | hi
    · exact .inl (by simp only [Loc.fp, List.mem_append]; exact .inl hi)
    · exact (hsub i hi).imp (fun hh => by simp only [Loc.fp, List.mem_append]; exact .inr (.inl hh)) id
    · exact .inl (by simp only [Loc.fp, List.mem_append]; exact .inr (.inr ((hcf i).1 hi)))
/-- a cell of the cache's own block -/
theorem RC.c (h : RC w P S C) (j : Nat) : w.cell? ⟨P.bc, j, none⟩ = (ccells P C)[j]? := K.cell_of h.blk
theorem RC.fz (h : RC w P S C) (j : Nat) : w.frozen? ⟨P.bc, j, none⟩ = false := K.frozen_of h.blk
/-- the counts are changed -/
theorem RC.stat (h : RC w P S C) (j : Nat) (v : Value) (st : Cs) (hv : (ccells P C).setIfInBounds j v = ccells P { C with st := st }) :
    CAct w (w.setCell ⟨P.bc, j, none⟩ v) P P C S { C with st := st } := by
  have ho : ∀ i, i ≠ P.bc → (w.setCell ⟨P.bc, j, none⟩ v).heap[i]? = w.heap[i]? := fun i hi => Below.heap_setCell _ _ _ _ hi
  obtain ⟨D, hm, hmo⟩ := h.lm
  have ha := h.apart
  have hd : ∀ i ∈ P.dfp, i ≠ P.bc := fun i hi e => h.d2 i hi (by rw [e]; simp [Loc.cfp])
  have hoo : ∀ i ∈ P.ofp, i ≠ P.bc := fun i hi e => h.d3 i hi (by rw [e]; simp [Loc.cfp])
  refine ⟨⟨?_, h.rk.same (fun i hi => ho i (hd i hi)), h.ro.same (fun i hi => ho i (hoo i hi)), h.eq, h.nr.block (fun g hg => ho g (fun e => ha.2.1 (by rw [← e]; exact hg))), ⟨D, K.ownsMap_block hm (ho _ (Ne.symm ha.1)), hmo⟩, fun l hl => (ho _ (ha.2.2.2 l hl).1).trans (h.ln l hl), h.nd, h.ok, h.lim, h.nl, h.nok, h.d1, h.d2, h.d3⟩, ?_, fun i hi => .inl hi, rfl, rfl⟩
  · rw [← hv]; exact K.blk_set h.blk j v
  · exact (K.Kp.refl w _).set (.inl (by simp [Loc.fp, Loc.cfp])) j v
/-- a line in the midst -/
theorem RC.line (h : RC w P S C) {L1 L2 : List Ln} {l l' : Ln} (hL : C.L = L1 ++ l :: L2) (hw : w'.heap[l.blk]? = some (.cells (lcells l') TLn (0, 0))) (hb : l'.blk = l.blk) (hs : l'.sec = l.sec) (hok : K.OkB l'.dat) (hk : K.Kp w w' [l.blk]) :
    CAct w w' P P C S { C with L := L1 ++ l' :: L2 } := by
  have hm0 : l ∈ C.L := by rw [hL]; simp
  have hbl : l.blk ∈ P.cfp C.L := by simp only [Loc.cfp, List.mem_cons, List.mem_append, List.mem_map]; exact .inr (.inr (.inr ⟨l, hm0, rfl⟩))
  have ho : ∀ i, i < w.heap.size → i ≠ l.blk → w'.heap[i]? = w.heap[i]? := fun i hl hi => hk.block i hl (by simpa using hi)
  obtain ⟨D, hm, hmo⟩ := h.lm
  have ha := h.apart
  have eb : (L1 ++ l' :: L2).map (·.blk) = C.L.map (·.blk) := by rw [hL]; simp [hb]
  have es : (L1 ++ l' :: L2).map (fun l => (l.sec : Int)) = C.L.map (fun l => (l.sec : Int)) := by rw [hL]; simp [hs]
  have ee : (L1 ++ l' :: L2).map Ln.ent = C.L.map Ln.ent := by rw [hL]; simp [Ln.ent, hb, hs]
  have ecf : P.cfp (L1 ++ l' :: L2) = P.cfp C.L := by unfold Loc.cfp; rw [eb]
  have efp : P.fp (L1 ++ l' :: L2) = P.fp C.L := by unfold Loc.fp; rw [ecf]
  have hnd := h.nd
  rw [hL] at hnd
  refine ⟨⟨(ho _ (h.cl _ (by simp [Loc.cfp])) (Ne.symm (ha.2.2.2 l hm0).1)).trans h.blk, h.rk.same (fun i hi => ho i (h.rk.lt i hi) (fun e => h.d2 i hi (by rw [e]; exact hbl))), h.ro.same (fun i hi => ho i (h.ro.lt i hi) (fun e => h.d3 i hi (by rw [e]; exact hbl))), h.eq.trans es.symm, h.nr.block (fun g hg => ho g (h.nr.lt g hg).1 (fun e => (ha.2.2.2 l hm0).2.2 (by rw [← e]; exact hg))), ⟨D, K.ownsMap_block hm (ho _ hm.lt (Ne.symm (ha.2.2.2 l hm0).2.1)), by rw [show ({ C with L := L1 ++ l' :: L2 } : Ch).L.map Ln.ent = C.L.map Ln.ent from ee]; exact hmo⟩, ?_, by rw [show ({ C with L := L1 ++ l' :: L2 } : Ch).L.map (·.blk) = C.L.map (·.blk) from eb]; exact h.nd, ?_, ?_, h.nl, h.nok, h.d1, ?_, ?_⟩, hk.sub (fun i hi => .inl (by simp at hi; rw [hi]; simp only [Loc.fp, List.mem_append]; exact .inr (.inr hbl))), fun i hi => .inl (by rw [← efp]; exact hi), rfl, rfl⟩
  · intro x hx
    have hx' : x = l' ∨ x ∈ L1 ++ L2 := by
      simp only [List.mem_append, List.mem_cons] at hx ⊢
      rcases hx with hx | hx | hx
      · exact .inr (.inl hx)
      · exact .inl hx
      · exact .inr (.inr hx)
    rcases hx' with rfl | hx'
    · rw [hb]; exact hw
    · have hxm : x ∈ C.L := by rw [hL]; simp only [List.mem_append, List.mem_cons] at hx' ⊢; rcases hx' with h | h; exact .inl h; exact .inr (.inr h)
      refine (ho _ (h.cl _ (by simp only [Loc.cfp, List.mem_cons, List.mem_append, List.mem_map]; exact .inr (.inr (.inr ⟨x, hxm, rfl⟩)))) ?_).trans (h.ln x hxm)
      intro e
      simp only [List.map_append, List.map_cons, List.nodup_append, List.nodup_cons, List.mem_map, List.mem_cons] at hnd
      rcases List.mem_append.1 hx' with hx1 | hx2
      · exact hnd.2.2 x.blk ⟨x, hx1, rfl⟩ l.blk (.inl rfl) e
      · exact hnd.2.1.1 ⟨x, hx2, e⟩
  · intro x hx
    simp only [List.mem_append, List.mem_cons] at hx
    rcases hx with hx | rfl | hx
    · exact h.ok x (by rw [hL]; simp [hx])
    · exact ⟨by rw [hs]; exact (h.ok l hm0).1, hok⟩
    · exact h.ok x (by rw [hL]; simp [hx])
  · have : (L1 ++ l' :: L2).length = C.L.length := by rw [hL]; simp
    simp only [this]; exact h.lim
  · intro i hi hc; rw [show P.cfp (L1 ++ l' :: L2) = P.cfp C.L from ecf] at hc; exact h.d2 i hi hc
  · intro i hi hc; rw [show P.cfp (L1 ++ l' :: L2) = P.cfp C.L from ecf] at hc; exact h.d3 i hi hc
end
end Go.Proofs.YtbamjfnjenmdaaaGreat.C
