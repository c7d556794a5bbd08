import Derived.Test.YtlacligofhinmaaGreatV44
import Derived.Test.YtlacligofhinmaaGreatV27
import Derived.Test.YtlacligofhinmaaGreatV39
namespace Go.Proofs.YtlacligofhinmaaGreat.C
open Go.RowKit Go.Maps Go.Shelf Go.Proofs.YtlacligofhinmaaGreat
attribute [local go_sem] Oper.semAt_some
set_option linter.unusedVariables false
set_option linter.unusedSimpArgs false
set_option maxRecDepth 100000

/-- the law's pair: the program's cache over its disk, told by S and C, the document's, told by T and E; they share nothing, and nothing of them lies below n0 -/
structure Pq (n0 : Nat) (W : World) (x : Nat) (P : Loc) (A : Qa) (S : K.Dk) (C : Ch) (T : K.Dk) (E : Ch) : Prop where
  blk : W.heap[x]? = some (.cells #[.pointer (some ⟨P.bd, 0, none⟩), .pointer (some ⟨P.bc, 0, none⟩), .pointer (some ⟨A.p, 0, none⟩), .pointer (some ⟨A.q, 0, none⟩)] TPa)
  rc : RC W P S C
  rq : RQ W A T E
  dj : ∀ i ∈ P.fp C.L, i ∉ A.fp
  xp : x ∉ P.fp C.L
  xq : x ∉ A.fp
  lx : n0 ≤ x
  lp : ∀ i ∈ P.fp C.L, n0 ≤ i
  lq : ∀ i ∈ A.fp, n0 ≤ i
section
variable {n0 x N : Nat} {W W' : World} {P P' : Loc} {A A' : Qa} {S T S' T' : K.Dk} {C E C' E' : Ch}
theorem Pq.xlt (h : Pq n0 W x P A S C T E) : x < W.heap.size := (Array.getElem?_eq_some_iff.1 h.blk).1
theorem Pq.nlt (h : Pq n0 W x P A S C T E) : n0 ≤ W.heap.size := by have := h.xlt; have := h.lx; omega
theorem Pq.later (h : Pq n0 W x P A S C T E) (hb : Below W.heap.size W W') : Pq n0 W' x P A S C T E :=
  ⟨(hb.block x h.xlt).trans h.blk, h.rc.later hb, h.rq.later hb, h.dj, h.xp, h.xq, h.lx, h.lp, h.lq⟩
theorem Pq.actC (h : Pq n0 W x P A S C T E) (ha : CAct W W' P P' C S' C') : Pq n0 W' x P' A S' C' T E ∧ Below n0 W W' := by
  have hx := h.xlt
  have hn := h.nlt
  have hal := h.rq.lt
  refine ⟨⟨?_, ha.rc, h.rq.kept ha.kp (fun i hi hm => h.dj i hm hi), fun i hi hm => ?_, fun hm => ?_, h.xq, h.lx, fun i hi => ?_, h.lq⟩, ha.kp.below h.lp hn⟩
  · rw [ha.bc, ha.bd]; exact (ha.kp.block x hx h.xp).trans h.blk
  · rcases ha.sub i hi with h1 | h1
    · exact h.dj i h1 hm
    · have := hal i hm; omega
  · rcases ha.sub x hm with h1 | h1
    · exact h.xp h1
    · omega
  · rcases ha.sub i hi with h1 | h1
    · exact h.lp i h1
    · omega
theorem Pq.actQ (h : Pq n0 W x P A S C T E) (ha : QAct W W' A A' E T' E' N) : Pq n0 W' x P A' S C T' E' ∧ Below n0 W W' := by
  have hx := h.xlt
  have hn := h.nlt
  have hal := h.rc.lt
  refine ⟨⟨?_, h.rc.kept ha.kp (fun i hi hm => h.dj i hi hm), ha.rq, fun i hi hm => ?_, h.xp, fun hm => ?_, h.lx, h.lp, fun i hi => ?_⟩, ha.kp.below h.lq hn⟩
  · rw [ha.p, ha.q]; exact (ha.kp.block x hx h.xq).trans h.blk
  · rcases ha.sub i hm with h1 | h1
    · exact h.dj i hi h1
    · have := hal i hi; omega
  · rcases ha.sub x hm with h1 | h1
    · exact h.xq h1
    · omega
  · rcases ha.sub i hi with h1 | h1
    · exact h.lq i h1
    · omega
theorem Pq.c0 (h : Pq n0 W x P A S C T E) : W.cell? ⟨x, 0, none⟩ = some (.pointer (some ⟨P.bd, 0, none⟩)) := (K.cell_of h.blk).trans rfl
theorem Pq.c1 (h : Pq n0 W x P A S C T E) : W.cell? ⟨x, 1, none⟩ = some (.pointer (some ⟨P.bc, 0, none⟩)) := (K.cell_of h.blk).trans rfl
theorem Pq.c2 (h : Pq n0 W x P A S C T E) : W.cell? ⟨x, 2, none⟩ = some (.pointer (some ⟨A.p, 0, none⟩)) := (K.cell_of h.blk).trans rfl
theorem Pq.c3 (h : Pq n0 W x P A S C T E) : W.cell? ⟨x, 3, none⟩ = some (.pointer (some ⟨A.q, 0, none⟩)) := (K.cell_of h.blk).trans rfl
/-- the sum that bounds both -/
theorem RQ.qlen (h : RQ W A T E) : T.q.length + dirtyN E.L ≤ A.pot E := by
  have h1 := h.rr.q
  have h2 : T.q.length = A.Q.length := by rw [← h1, List.length_map]
  simp only [Qa.pot]; omega
end
/-- a new cache of the document's -/
theorem RQ.fresh {w w' : World} {p q : Nat} {u dv rq av : Value} {D Q : List K.Pv} {S : K.Dk} {k : Int} {l : List (Int × Int)} {P : Loc} (hr : K.RR w' p dv rq av D Q S) (hn : RnL w w' p q u k l) (hc : RC w' P S (newCh k.toNat l)) (hf : K.FsOk S.fs) : RQ w' ⟨q, p, dv, rq, av, D, Q, u, .slice none 0 0, []⟩ S (newCh k.toNat l) :=
  ⟨hn.2.1, hr, owns_mono hn.2.2.1 (Nat.zero_le _), World.ownsRow_nil _ _ _ _, (fun x hx => by cases hx), (fun x hx => by cases hx), rfl, (fun l hl => by cases hl), List.nodup_nil, hc.lim, hc.nl, hc.nok, hf, (fun l hl => by cases hl)⟩
theorem open_raw {n0 : Nat} {w : World} {x b ms ml p : Nat} {qv fv dv rq av : Value} {D Q : List K.Pv} {S : K.Dk} {cv0 qv0 : Value} (h : K.RK w 0 b ms ml qv fv S) (hr : K.RR w p dv rq av D Q S) (hf : K.FsOk S.fs)
    (hx : w.heap[x]? = some (.cells #[.pointer (some ⟨b, 0, none⟩), cv0, .pointer (some ⟨p, 0, none⟩), qv0] TPa))
    (hd : ∀ i ∈ K.fp b ms ml qv fv, i ∉ K.fr p dv rq av (D ++ Q)) (hx1 : x ∉ K.fp b ms ml qv fv) (hx2 : x ∉ K.fr p dv rq av (D ++ Q)) (l1 : n0 ≤ x) (l2 : ∀ i ∈ K.fp b ms ml qv fv, n0 ≤ i) (l3 : ∀ i ∈ K.fr p dv rq av (D ++ Q), n0 ≤ i)
    {v : Value} {l : List (Int × Int)} (hv : ArgS w v l) (hvl : l ≠ [] → ∀ b' off n c, v = .slice (some ⟨b', off, none⟩) n c → b' < n0) (hl : l.length ≤ 1048576) (hw : ∀ p ∈ l, I64 p.1 ∧ I64 p.2) (m k : Int) :
    Calls Tryz.prog 19 #[.pointer (some ⟨x, 0, none⟩), .agg #[.int .i64 m, .int .i64 k, v]] w fun r w' => r = .returned (.bool true) ∧ Below n0 w w' ∧ ((newE S.n k l ≠ 0 ∧ w'.heap[x]? = some (.cells #[.pointer (some ⟨b, 0, none⟩), .pointer none, .pointer (some ⟨p, 0, none⟩), .pointer none] TPa)) ∨ (newE S.n k l = 0 ∧ ∃ P A, Pq n0 w' x P A S (newCh k.toNat l) S (newCh k.toNat l) ∧ A.D = D ∧ A.Q = Q)) := by
  have hpm : p ∈ K.fr p dv rq av (D ++ Q) := K.mem_fr.2 (.inl rfl)
  have hxl : x < w.heap.size := (Array.getElem?_eq_some_iff.1 hx).1
  have hp1 : p ∉ K.fp b ms ml qv fv := fun hm => hd p hm hpm
  have hpx : p ≠ x := fun e => hx2 (e ▸ hpm)
  have hp : w.cell? ⟨p, 0, none⟩ = some (.int .i64 S.n) := (hr.c 0).trans rfl
  refine (open_q h hx hp hx1 hp1 hpx hv (fun hne b' off n c e => ?_) hl hw m k).mono ?_
  · have h1 := hvl hne b' off n c e
    exact ⟨fun hm => by have := l2 _ hm; omega, by omega⟩
  · rintro r w' ⟨rfl, hkp, hcase⟩
    have hlo : ∀ i ∈ x :: K.fp b ms ml qv fv, n0 ≤ i := fun i hi => by
      rcases List.mem_cons.1 hi with rfl | hi
      · exact l1
      · exact l2 i hi
    refine ⟨rfl, hkp.below hlo (by omega), ?_⟩
    rcases hcase with ⟨h1, _, h3⟩ | ⟨h1, P, q, u, hrc, hbd, hsub, hne, hn, hb⟩
    · exact .inl ⟨h1, h3⟩
    · have hrl := hr.lt
      have hr' : K.RR w' p dv rq av D Q S := hr.kept hkp (fun i hi hm => by
        rcases List.mem_cons.1 hm with rfl | hm
        · exact hx2 hi
        · exact hd i hm hi)
      have hcf : ∀ i, i ∈ Qa.cfp ⟨q, p, dv, rq, av, D, Q, u, .slice none 0 0, []⟩ ↔ i = q ∨ u.ownBlock = some i := fun i => by rw [mem_qcfp]; simp [Value.ownBlock]
      have hul : ∀ i, u.ownBlock = some i → w.heap.size ≤ i := fun i e => row_base hn.2.2.1 e
      have hql := hn.1
      refine .inr ⟨h1, P, ⟨q, p, dv, rq, av, D, Q, u, .slice none 0 0, []⟩, ⟨by rw [hbd]; exact hb, hrc, RQ.fresh hr' hn hrc hf, fun i hi hm => ?_, fun hm => ?_, fun hm => ?_, l1, fun i hi => ?_, fun i hi => ?_⟩, rfl, rfl⟩
      · rcases List.mem_append.1 hm with hm | hm
        · rcases hsub i hi with h2 | h2
          · exact hd i h2 hm
          · have := hrl i hm; omega
        · rcases (hcf i).1 hm with h2 | h2
          · exact (hne i hi).1 h2
          · exact (hne i hi).2 h2
      · rcases hsub x hm with h2 | h2
        · exact hx1 h2
        · omega
      · rcases List.mem_append.1 hm with hm | hm
        · exact hx2 hm
        · rcases (hcf x).1 hm with h2 | h2
          · omega
          · have := hul x h2; omega
      · rcases hsub i hi with h2 | h2
        · exact l2 i h2
        · omega
      · rcases List.mem_append.1 hi with hm | hm
        · exact l3 i hm
        · rcases (hcf i).1 hm with h2 | h2
          · omega
          · have := hul i h2; omega
/-- open over the pair's disks -/
theorem open_pair {n0 x : Nat} {W : World} {P : Loc} {A : Qa} {S : K.Dk} {C E : Ch} (h : Pq n0 W x P A S C S E) {v : Value} {l : List (Int × Int)} (hv : ArgS W v l) (hvl : l ≠ [] → ∀ b' off n c, v = .slice (some ⟨b', off, none⟩) n c → b' < n0) (hl : l.length ≤ 1048576) (hw : ∀ p ∈ l, I64 p.1 ∧ I64 p.2) (m k : Int) (hE : newE S.n k l = 0) :
    Calls Tryz.prog 19 #[.pointer (some ⟨x, 0, none⟩), .agg #[.int .i64 m, .int .i64 k, v]] W fun r w' => r = .returned (.bool true) ∧ ∃ P' A', Pq n0 w' x P' A' S (newCh k.toNat l) S (newCh k.toNat l) ∧ Below n0 W w' ∧ A'.pot (newCh k.toNat l) ≤ A.pot E := by
  have hp : ∀ i ∈ K.fp P.bd P.ms P.ml P.qv P.fv, i ∈ P.fp C.L := fun i hi => List.mem_append_left _ hi
  have hq : ∀ i ∈ K.fr A.p A.dv A.rq A.av (A.D ++ A.Q), i ∈ A.fp := fun i hi => List.mem_append_left _ hi
  refine (open_raw (n0 := n0) h.rc.rk h.rq.rr h.rq.fs h.blk (fun i hi hm => h.dj i (hp i hi) (hq i hm)) (fun hm => h.xp (hp x hm)) (fun hm => h.xq (hq x hm)) h.lx (fun i hi => h.lp i (hp i hi)) (fun i hi => h.lq i (hq i hi)) hv hvl hl hw m k).mono ?_
  rintro r w' ⟨rfl, hb, ⟨h1, _⟩ | ⟨_, P', A', h2, h3, h4⟩⟩
  · exact absurd hE h1
  · refine ⟨rfl, P', A', h2, hb, ?_⟩
    simp only [Qa.pot, h3, h4, newCh]
    have : dirtyN [] = 0 := rfl
    omega
end Go.Proofs.YtlacligofhinmaaGreat.C
