import Derived.Test.YtbamjfnjenmdaaaGreatG41
import Derived.Test.YtbamjfnjenmdaaaGreatzCZoo
import Derived.Test.YtbamjfnjenmdaaaGreatG45
namespace Go.Proofs.YtbamjfnjenmdaaaGreat.C
open Go.RowKit Go.Maps Go.Shelf Go.Proofs.YtbamjfnjenmdaaaGreat
set_option linter.unusedVariables false
set_option linter.unusedSimpArgs false
set_option maxRecDepth 100000

/-- what the law has behind some of its calls: the cache of its own, and the book; G: what each sector should have -/
structure Kpr (w0 W : World) (bc bd kb n i : Nat) (P : Loc) (S : K.Dk) (C : Ch) (av bw : Value) (A : List Be) (G : Nat → K.Bl) : Prop where
  hc : Hc w0 W P S C
  bk : Bk W kb av bw A
  bn : ∀ x ∈ bfp kb av bw A, w0.heap.size ≤ x ∧ x ∉ P.fp C.L
  fs : K.FsOk S.fs
  ql : S.q.length + dirtyN C.L ≤ 2 * i
  al : A.length ≤ i
  gd : Good S C
  eq : ∀ s : Nat, s < n → G s = seen S C s
  nn : S.n = n
  ec : P.bc = bc
  ed : P.bd = bd
/-- the call of this round, in a block that is none of the others' -/
structure Xo (W : World) (xb : Nat) (oc : Array Value) (T : TypeId) (P : Loc) (C : Ch) (kb : Nat) (av bw : Value) (A : List Be) : Prop where
  xo : W.heap[xb]? = some (.cells oc T (0, 0))
  xf : xb ∉ P.fp C.L
  xg : xb ∉ bfp kb av bw A
section
variable {w0 W W' : World} {bc bd kb n i xb : Nat} {oc : Array Value} {T : TypeId} {P P' : Loc} {S S' : K.Dk} {C C' : Ch} {av bw : Value} {A : List Be} {G G' : Nat → K.Bl}
theorem Xo.lt (h : Xo W xb oc T P C kb av bw A) : xb < W.heap.size := (Array.getElem?_eq_some_iff.1 h.xo).1
theorem Xo.later (h : Xo W xb oc T P C kb av bw A) (hb : Below W.heap.size W W') : Xo W' xb oc T P C kb av bw A := ⟨(hb.block _ h.lt).trans h.xo, h.xf, h.xg⟩
theorem Xo.act (h : Xo W xb oc T P C kb av bw A) (ha : CAct W W' P P' C S' C') : Xo W' xb oc T P' C' kb av bw A :=
  ⟨(ha.kp.block _ h.lt h.xf).trans h.xo, fun hm => (ha.sub _ hm).elim h.xf (fun h1 => by have := h.lt; omega), h.xg⟩
theorem Xo.cell (h : Xo W xb oc T P C kb av bw A) (j : Nat) : W.cell? ⟨xb, j, none⟩ = oc[j]? := K.cell_of h.xo
theorem Kpr.later (h : Kpr w0 W bc bd kb n i P S C av bw A G) (hb : Below W.heap.size W W') : Kpr w0 W' bc bd kb n i P S C av bw A G :=
  ⟨h.hc.later hb, h.bk.later hb, h.bn, h.fs, h.ql, h.al, h.gd, h.eq, h.nn, h.ec, h.ed⟩
theorem Kpr.more (h : Kpr w0 W bc bd kb n i P S C av bw A G) : Kpr w0 W bc bd kb n (i + 1) P S C av bw A G :=
  ⟨h.hc, h.bk, h.bn, h.fs, by have := h.ql; omega, by have := h.al; omega, h.gd, h.eq, h.nn, h.ec, h.ed⟩
theorem Kpr.far (h : Kpr w0 W bc bd kb n i P S C av bw A G) (ha : CAct W W' P P' C S' C') : Bk W' kb av bw A ∧ ∀ x ∈ bfp kb av bw A, w0.heap.size ≤ x ∧ x ∉ P'.fp C'.L := by
  refine ⟨h.bk.kept ha.kp (fun x hx => (h.bn x hx).2), fun x hx => ⟨(h.bn x hx).1, fun hm => ?_⟩⟩
  rcases ha.sub x hm with h1 | h1
  · exact (h.bn x hx).2 h1
  · have := h.bk.lt x hx; omega
theorem Kpr.acts (h : Kpr w0 W bc bd kb n i P S C av bw A G) (ha : CAct W W' P P' C S' C') (hs : Good S' C') (he : ∀ s : Nat, s < n → G' s = seen S' C' s) (hf : K.FsOk S'.fs) (hq : S'.q.length + dirtyN C'.L ≤ S.q.length + dirtyN C.L + 2) (hn : S'.n = S.n) : Kpr w0 W' bc bd kb n (i + 1) P' S' C' av bw A G' :=
  ⟨h.hc.step ha, (h.far ha).1, (h.far ha).2, hf, by have := h.ql; omega, by have := h.al; omega, hs, he, hn.trans h.nn, ha.bc.trans h.ec, ha.bd.trans h.ed⟩
theorem Kpr.act (h : Kpr w0 W bc bd kb n i P S C av bw A G) (ha : CAct W W' P P' C S' C') (hs : Sees S C S' C') (hf : K.FsOk S'.fs) (hq : S'.q.length + dirtyN C'.L ≤ S.q.length + dirtyN C.L + 2) (hn : S'.n = S.n) : Kpr w0 W' bc bd kb n (i + 1) P' S' C' av bw A G :=
  h.acts ha hs.good (fun s hs' => by rw [h.eq s hs', hs.eq]) hf hq hn
/-- a call that changes nothing at all -/
theorem Kpr.stay (h : Kpr w0 W bc bd kb n i P S C av bw A G) (ha : CAct W W' P P C S C) : Kpr w0 W' bc bd kb n i P S C av bw A G :=
  ⟨h.hc.step ha, (h.far ha).1, (h.far ha).2, h.fs, h.ql, h.al, h.gd, h.eq, h.nn, h.ec, h.ed⟩
/-- bytes are put into the book -/
theorem Kpr.putB (h : Kpr w0 W bc bd kb n i P S C av bw A G) {av' bw' : Value} {A' : List Be} {v : Value} (hb : Bk W' kb av' bw' A') (hl : A'.length ≤ i) (hk : K.Kp W W' (bfp kb av bw A)) (hsub : ∀ x ∈ bfp kb av' bw' A', x ∈ bfp kb av bw A ∨ W.heap.size ≤ x ∨ v.ownBlock = some x) (hv : ∀ x, v.ownBlock = some x → w0.heap.size ≤ x ∧ x ∉ P.fp C.L) (hG : ∀ t : Nat, t < n → G' t = G t) : Kpr w0 W' bc bd kb n i P S C av' bw' A' G' := by
  have hfar : ∀ x ∈ P.fp C.L, x ∉ bfp kb av bw A := fun x hx hm => (h.bn x hm).2 hx
  refine ⟨⟨h.hc.rc.kept hk hfar, h.hc.bel.trans (hk.below (fun x hx => (h.bn x hx).1) h.hc.bel.size), h.hc.new⟩, hb, fun x hx => ?_, h.fs, h.ql, hl, h.gd, fun t ht => (hG t ht).trans (h.eq t ht), h.nn, h.ec, h.ed⟩
  rcases hsub x hx with h1 | h1 | h1
  · exact h.bn x h1
  · have hlt := h.hc.rc.lt
    refine ⟨Nat.le_trans h.hc.bel.size h1, fun hm => ?_⟩
    have := hlt x hm
    omega
  · exact hv x h1
end
section
theorem back_sees {S : K.Dk} {C : Ch} (g : Good S C) : Sees S C (backR S C).2.2.1 (backR S C).2.2.2 := by
  unfold backR
  cases hf : C.L.find? dirtyData with
  | none => exact Sees.refl g
  | some l =>
    simp only
    obtain ⟨h1, h2⟩ := find_mem hf
    have hd : l.dirty = true := by unfold dirtyData at h2; simp at h2; exact h2.1
    have := wb_sees g h1 hd
    split <;> exact this
theorem dirtyN_cons (y : Ln) (M : List Ln) : dirtyN (y :: M) = (if y.dirty = true then 1 else 0) + dirtyN M := by
  unfold dirtyN
  rw [List.filter_cons]
  cases y.dirty <;> simp <;> omega
theorem dirtyN_cleanL (L : List Ln) (s : Int) : dirtyN (cleanL L s) ≤ dirtyN L := by
  induction L with
  | nil => exact Nat.le_refl _
  | cons x L ih =>
    have e : cleanL (x :: L) s = (if (x.sec : Int) = s then cleaned x else x) :: cleanL L s := rfl
    rw [e, dirtyN_cons, dirtyN_cons]
    have : (if ((if (x.sec : Int) = s then cleaned x else x) : Ln).dirty = true then 1 else 0) ≤ (if x.dirty = true then 1 else 0) := by
      split
      · simp [cleaned]
      · exact Nat.le_refl _
    omega
theorem wb_held {S : K.Dk} {C : Ch} (s : Int) : (K.FsOk S.fs → K.FsOk (wbS S C s).fs) ∧ (wbS S C s).q.length + dirtyN (wbC S C s).L ≤ S.q.length + dirtyN C.L + 1 := by
  refine ⟨fun h => wbS_ok h, ?_⟩
  have h1 := wbS_q S C s
  have h2 : dirtyN (wbC S C s).L ≤ dirtyN C.L := by
    unfold wbC
    split
    · split
      · exact dirtyN_cleanL C.L s
      · exact Nat.le_refl _
    · exact Nat.le_refl _
  omega
theorem back_held {S : K.Dk} {C : Ch} : (K.FsOk S.fs → K.FsOk (backR S C).2.2.1.fs) ∧ (backR S C).2.2.1.q.length + dirtyN (backR S C).2.2.2.L ≤ S.q.length + dirtyN C.L + 2 ∧ (backR S C).2.2.1.n = S.n := by
  unfold backR
  cases hf : C.L.find? dirtyData with
  | none => exact ⟨id, by simp only; omega, rfl⟩
  | some l =>
    simp only
    obtain ⟨h1, h2⟩ := wb_held (S := S) (C := C) l.sec
    split <;> exact ⟨h1, by simp only; omega, wbS_n _ _ _⟩
theorem through_sees {S : K.Dk} {C : Ch} (g : Good S C) (ks : List Int) : Sees S C (throughR S C ks).2.1 (throughR S C ks).2.2 ∧ (K.FsOk S.fs → K.FsOk (throughR S C ks).2.1.fs) ∧ (throughR S C ks).2.1.q.length + dirtyN (throughR S C ks).2.2.L ≤ S.q.length + dirtyN C.L + 2 ∧ (throughR S C ks).2.1.n = S.n := by
  unfold throughR
  split
  · split
    · have k := (flush_ok (S := S) g.nd).1
      have hp := k.phi
      exact ⟨flush_sees g, k.fs, by split at hp <;> omega, k.n⟩
    · have k := (settle_ok (S := S) g.nd (dirt_thr (C := C) ks)).1
      have hp := k.phi
      exact ⟨settle_sees g (dirt_thr ks), k.fs, by split at hp <;> omega, k.n⟩
  · exact ⟨Sees.refl g, id, by simp only; omega, rfl⟩
theorem flush_all {S : K.Dk} {C : Ch} (g : Good S C) : Sees S C (flushR S C).2.1 (flushR S C).2.2 ∧ (K.FsOk S.fs → K.FsOk (flushR S C).2.1.fs) ∧ (flushR S C).2.1.q.length + dirtyN (flushR S C).2.2.L ≤ S.q.length + dirtyN C.L + 2 ∧ (flushR S C).2.1.n = S.n := by
  have k := (flush_ok (S := S) g.nd).1
  have hp := k.phi
  exact ⟨flush_sees g, k.fs, by split at hp <;> omega, k.n⟩
theorem dirtyN_append (A B : List Ln) : dirtyN (A ++ B) = dirtyN A + dirtyN B := by simp [dirtyN]
theorem read_held {S : K.Dk} {C : Ch} (g : Good S C) (s : Int) (b : Nat) (hlen : C.L.length ≤ C.most) (hm1 : 1 ≤ C.most) : (K.FsOk S.fs → K.FsOk (readR S C s b).2.2.1.fs) ∧ (readR S C s b).2.2.1.q.length + dirtyN (readR S C s b).2.2.2.L ≤ S.q.length + dirtyN C.L + 2 ∧ (readR S C s b).2.2.1.n = S.n ∧ ((readR S C s b).1 ≠ 0 → (readR S C s b).2.1 = []) ∧ (K.inD S.n s = false → (readR S C s b).1 = 31) := by
  unfold readR
  by_cases hi : K.inD S.n s = true
  · rw [if_pos hi]
    cases hl : lineAt C.L s with
    | some l =>
      simp only
      refine ⟨id, ?_, by first | rfl | trivial, fun h => absurd rfl h, fun h => by rw [hi] at h; cases h⟩
      unfold useC
      rw [hl]
      show S.q.length + dirtyN (dropL C.L s ++ [l]) ≤ _
      rw [dirtyN_append]
      have h1 := dirtyN_drop C.L s
      have h2 : dirtyN [l] ≤ 1 := by unfold dirtyN; exact List.length_filter_le _ _
      omega
    | none =>
      simp only
      obtain ⟨hh, _, _⟩ := room_ok (S := S) (C := missC C) g.nd hlen hm1
      have hp : (roomR S (missC C)).2.1.q.length + dirtyN (roomR S (missC C)).2.2.L ≤ S.q.length + dirtyN C.L + 1 := hh.phi
      have hfs := hh.fs
      have hn := hh.n
      generalize roomR S (missC C) = R at *
      obtain ⟨e, S1, C1⟩ := R
      simp only at *
      by_cases he : e = 0
      · rw [if_pos he]
        by_cases hre : K.rdE S1 s = 0
        · rw [if_pos hre]
          refine ⟨fun hf => K.rdS_ok (hfs hf) s, ?_, (rdS_n S1 s).trans hn, fun h => absurd rfl h, fun h => by rw [hi] at h; cases h⟩
          simp only
          rw [K.rdS_q, dirtyN_append]
          have h2 : ∀ x : Ln, dirtyN [x] ≤ 1 := fun x => by unfold dirtyN; exact List.length_filter_le _ _
          have := h2 ⟨s.toNat, b, K.rdL S1 s, false, isN C.notes s⟩
          omega
        · rw [if_neg hre]
          refine ⟨fun hf => K.rdS_ok (hfs hf) s, ?_, (rdS_n S1 s).trans hn, fun _ => rfl, fun h => by rw [hi] at h; cases h⟩
          simp only
          rw [K.rdS_q]
          omega
      · rw [if_neg he]
        exact ⟨hfs, by simp only; omega, hn, fun _ => rfl, fun h => by rw [hi] at h; cases h⟩
  · rw [if_neg hi]
    exact ⟨id, by simp only; omega, rfl, fun _ => rfl, fun _ => rfl⟩
theorem write_held {S : K.Dk} {C : Ch} (g : Good S C) (s : Int) (bs : K.Bl) (b : Nat) (hlen : C.L.length ≤ C.most) (hm1 : 1 ≤ C.most) : (K.FsOk S.fs → K.FsOk (writeR S C s bs b).2.1.fs) ∧ (writeR S C s bs b).2.1.q.length + dirtyN (writeR S C s bs b).2.2.L ≤ S.q.length + dirtyN C.L + 2 ∧ (writeR S C s bs b).2.1.n = S.n := by
  have h2 : ∀ x : Ln, dirtyN [x] ≤ 1 := fun x => by unfold dirtyN; exact List.length_filter_le _ _
  unfold writeR
  by_cases hi : K.inD S.n s = true
  · rw [if_pos hi]
    by_cases h512 : bs.length = 512
    · rw [if_pos h512]
      cases hl : lineAt C.L s with
      | some l =>
        simp only
        refine ⟨id, ?_, trivial⟩
        rw [dirtyN_append]
        have h1 := dirtyN_drop C.L s
        have := h2 { l with dat := bs, dirty := true }
        omega
      | none =>
        simp only
        obtain ⟨hh, _, _⟩ := room_ok (S := S) (C := missC C) g.nd hlen hm1
        have hp : (roomR S (missC C)).2.1.q.length + dirtyN (roomR S (missC C)).2.2.L ≤ S.q.length + dirtyN C.L + 1 := hh.phi
        have hfs := hh.fs
        have hn := hh.n
        generalize roomR S (missC C) = R at *
        obtain ⟨e, S1, C1⟩ := R
        simp only at *
        by_cases he : e = 0
        · rw [if_pos he]
          refine ⟨hfs, ?_, hn⟩
          simp only
          rw [dirtyN_append]
          have := h2 ⟨s.toNat, b, bs, true, isN C.notes s⟩
          omega
        · rw [if_neg he]
          exact ⟨hfs, by simp only; omega, hn⟩
    · rw [if_neg h512]
      exact ⟨id, by simp only; omega, rfl⟩
  · rw [if_neg hi]
    exact ⟨id, by simp only; omega, rfl⟩
end
end Go.Proofs.YtbamjfnjenmdaaaGreat.C
