import Derived.Test.YtijafckdbhklmabYP
import Derived.Test.YtijafckdbhklmabYN
namespace Go.Proofs.Ytijafckdbhklmab.B
open Go.RowKit Go.Sort Go.Lib Go.Shelf
attribute [local go_sem] Oper.semAt_some
set_option linter.unusedVariables false
set_option linter.unusedSimpArgs false
set_option maxRecDepth 100000

theorem MO.own_run {w : World} {B bm : Nat} {v : Value} {size : Int} {rs : List (Rn Bool)} (h : MO w B bm v size rs) {g : Nat} (hg : v.ownBlock = some g) : ∃ cur fr, w.heap[g]? = some (.cells cur TRun fr) := by
  rcases h.row.2 with ⟨hv, _⟩ | ⟨g', cap, cur, hv, _, hc, _⟩
  · rw [hv] at hg; cases hg
  · rw [hv] at hg
    simp only [Value.ownBlock, Option.some.injEq] at hg
    subst hg
    exact ⟨cur, _, hc⟩
theorem MO.not_own {w : World} {B bm B' bm' : Nat} {v v' : Value} {size size' : Int} {rs rs' : List (Rn Bool)} (h : MO w B bm v size rs) (h' : MO w B' bm' v' size' rs') : v.ownBlock ≠ some bm' := fun e => by
  obtain ⟨cur, fr, hc⟩ := h.own_run e
  have := h'.blk.symm.trans hc
  simp [TMap, TRun] at this
theorem MO.abides {W W' : World} {row : Option Nat} {B bm : Nat} {v : Value} {size : Int} {rs : List (Rn Bool)} (h : MO W B bm v size rs) (hg : W.grownBy W' row) (hr : ∀ r, row = some r → ∃ o : Obj, W.heap[r]? = some o ∧ o.isCells = false) : MO W' B bm v size rs :=
  h.same (hg.block bm h.ltm (fun e => by obtain ⟨o, ho, hc⟩ := hr bm e.symm; rw [h.blk] at ho; cases ho; simp [Obj.isCells] at hc)) (fun g hg' => by
    obtain ⟨cur, fr, hcell⟩ := h.own_run hg'
    exact hg.block g (h.row.lt g hg').2 (fun e => by obtain ⟨o, ho, hc⟩ := hr g e.symm; rw [hcell] at ho; cases ho; simp [Obj.isCells] at hc))
/-- a block that is not the map's own row -/
def FineM (bm g : Nat) (W : World) : Prop := ∃ v, W.heap[bm]? = some (.cells #[.bool true, .int .i64 1099511627776, v] TMap (0, 0)) ∧ v.ownBlock ≠ some g ∧ g < W.heap.size
def KpM (bm : Nat) (W W' : World) : Prop := ∀ g, FineM bm g W → (∀ cur fr, W.heap[g]? = some (.cells cur TRun fr) → W'.heap[g]? = some (.cells cur TRun fr)) ∧ FineM bm g W'
theorem fineM_same {bm g : Nat} {W W' : World} (h : FineM bm g W) (h1 : W'.heap[bm]? = W.heap[bm]?) (h2 : W.heap.size ≤ W'.heap.size) : FineM bm g W' := by
  obtain ⟨v, a, b, c⟩ := h
  exact ⟨v, h1.trans a, b, by omega⟩
theorem fineM_lt {bm g : Nat} {W : World} (h : FineM bm g W) : bm < W.heap.size := by
  obtain ⟨v, a, _⟩ := h
  exact (Array.getElem?_eq_some_iff.1 a).1
theorem keepsRowM (bm : Nat) : KeepsRow (KpM bm) (FineM bm) :=
  ⟨fun hk hf hc => ⟨(hk _ hf).1 _ _ hc, (hk _ hf).2⟩, fun o hf => fineM_same hf (Below.heap_alloc _ _ _ (fineM_lt hf)) (by simp)⟩
theorem kpM_put (bm : Nat) (W : World) (l : Nat) (o o' : Obj) (h : W.heap[l]? = some o) (hc : o.isCells = false) : KpM bm W (W.putObj l o') := fun g hf => by
  have key : ∀ (i : Nat) (cur : Array Value) (t : Nat) (fr : Nat × Nat), W.heap[i]? = some (.cells cur t fr) → (W.putObj l o').heap[i]? = W.heap[i]? := fun i cur t fr hi => by
    refine World.putObj_heap_other (fun e => ?_)
    subst e
    rw [h] at hi; cases hi; simp [Obj.isCells] at hc
  refine ⟨fun cur fr hi => (key g cur _ fr hi).trans hi, ?_⟩
  obtain ⟨v, a, b, c⟩ := hf
  exact ⟨v, (key bm _ _ _ a).trans a, b, by simpa [World.putObj] using c⟩
theorem kpM_alloc (bm : Nat) (W : World) (o : Obj) : KpM bm W (W.alloc o) := fun g hf => ⟨fun cur fr hi => (Below.heap_alloc _ _ _ (Array.getElem?_eq_some_iff.1 hi).1).trans hi, fineM_same hf (Below.heap_alloc _ _ _ (fineM_lt hf)) (by simp)⟩
theorem fineM_own (bm g B : Nat) : OwnFrom B (fun (_ : Unit) W => FineM bm g W) := fun s X Y row hs hg hrow => by
  refine fineM_same hs ?_ hg.size
  obtain ⟨v, a, _⟩ := hs
  refine hg.block bm (Array.getElem?_eq_some_iff.1 a).1 (fun e => ?_)
  obtain ⟨_, o, ho, hc⟩ := hrow bm e.symm
  rw [a] at ho; cases ho; simp [Obj.isCells] at hc
theorem kpM_own (bm : Nat) (W0 : World) (B : Nat) : OwnFrom B (fun (_ : Unit) W => KpM bm W0 W) := fun s X Y row hs hg hrow g hf => by
  obtain ⟨h1, h2⟩ := hs g hf
  refine ⟨fun cur fr hi => ?_, fineM_own bm g B () X Y row h2 hg hrow⟩
  have h3 := h1 cur fr hi
  refine (hg.block g (Array.getElem?_eq_some_iff.1 h3).1 (fun e => ?_)).trans h3
  obtain ⟨_, o, ho, hc⟩ := hrow g e.symm
  rw [h3] at ho; cases ho; simp [Obj.isCells] at hc
/-- behind some stretches -/
structure PJ (w0 : World) (n1 Bm bm mb pb fp : Nat) (p : Bool → Bool → Bool) (Bb bb : Nat) (vb : Value) (rb : List (Rn Bool)) (l : List St) (W : World) : Prop where
  m : ∃ vm, MO W Bm bm vm 1099511627776 (pickR p l) ∧ ∀ g, vm.ownBlock = some g → vb.ownBlock ≠ some g
  bM : Boxed W mb TMapP (.pointer (some ⟨bm, 0, none⟩))
  bP : Boxed W pb TPick (.func (.func fp) #[] #[])
  b : MO W Bb bb vb 1099511627776 rb
  bel : Below w0.heap.size w0 W
  ne : bm ≠ bb
  lt : bm < n1
  le : n1 ≤ W.heap.size
  base : w0.heap.size ≤ Bm
theorem pj_own {w0 : World} {n1 Bm bm mb pb fp : Nat} {p : Bool → Bool → Bool} {Bb bb : Nat} {vb : Value} {rb : List (Rn Bool)} {B : Nat} (hB : w0.heap.size ≤ B) : OwnFrom B (PJ w0 n1 Bm bm mb pb fp p Bb bb vb rb) := fun l X Y row hs hg hrow => by
  obtain ⟨⟨vm, hm, hsep⟩, bM, bP, b, bel, ne, lt, le, base⟩ := hs
  have hr : ∀ r, row = some r → ∃ o : Obj, X.heap[r]? = some o ∧ o.isCells = false := fun r e => (hrow r e).2
  exact ⟨⟨vm, hm.abides hg hr, hsep⟩, (Own.from (boxed_own (β := Unit) mb _ (fun _ => _)) B) () X Y row bM hg hrow, (Own.from (boxed_own (β := Unit) pb _ (fun _ => _)) B) () X Y row bP hg hrow, b.abides hg hr, (ownFrom_below (β := Unit) (Nat.le_refl _) hB) () X Y row bel hg hrow, ne, lt, Nat.le_trans le hg.size, base⟩
theorem pj_set {w0 W W' : World} {n1 Bm bm mb pb fp : Nat} {p : Bool → Bool → Bool} {Bb bb : Nat} {vb vm vm' : Value} {rb : List (Rn Bool)} {l : List St} {lo hi : Int} {x y : Bool} (h : PJ w0 n1 Bm bm mb pb fp p Bb bb vb rb l W) (hm : MO W Bm bm vm 1099511627776 (pickR p l)) (hsep : ∀ g, vm.ownBlock = some g → vb.ownBlock ≠ some g)
    (hm' : MO W' Bm bm vm' 1099511627776 (setR 1099511627776 (pickR p l) lo hi (p x y))) (hk : KeptM W W' bm vm vm') :
    PJ w0 n1 Bm bm mb pb fp p Bb bb vb rb (l ++ [(lo, hi, x, y)]) W' ∧ KpM bm W W' ∧ KeepsOthers W W' ∧ KeepsLate n1 W W' := by
  have kb : ∀ (k : Nat) (o : Obj), W.heap[k]? = some o → (∀ cur fr, o ≠ .cells cur TRun fr) → k ≠ bm → W'.heap[k]? = some o := fun k o ho hr hne => by
    refine (hk.block k (Array.getElem?_eq_some_iff.1 ho).1 hne (fun e => ?_)).trans ho
    obtain ⟨cur, fr, hc⟩ := hm.own_run e
    rw [ho] at hc
    exact hr cur fr (by simpa using hc)
  have mb1 : mb ≠ bm := fun e => by
    have h1 : W.heap[mb]? = some (.cells #[.pointer (some ⟨bm, 0, none⟩)] TMapP (0, 0)) := h.bM
    rw [e, hm.blk] at h1
    simp at h1
  have pb1 : pb ≠ bm := fun e => by
    have h1 : W.heap[pb]? = some (.cells #[.func (.func fp) #[] #[]] TPick (0, 0)) := h.bP
    rw [e, hm.blk] at h1
    simp at h1
  refine ⟨⟨⟨vm', by rw [pickR_snoc]; exact hm', fun g hg hb => ?_⟩, kb _ _ h.bM (fun cur fr e => by injection e with _ h2 _; exact absurd h2 (by decide)) mb1, kb _ _ h.bP (fun cur fr e => by injection e with _ h2 _; exact absurd h2 (by decide)) pb1, ?_, ?_, h.ne, h.lt, Nat.le_trans h.le hk.size, h.base⟩, ?_, ⟨hk.size, fun k o ho hc => ?_⟩, fun k hk1 cur t fr hc ht => ?_⟩
  · rcases hk.fresh with e | e
    · exact hsep g (e.symm.trans hg) hb
    · have h1 := e g hg
      have h2 := (h.b.row.lt g hb).2
      omega
  · exact h.b.same (hk.block bb h.b.ltm (fun e => h.ne e.symm) (hm.not_own h.b)) (fun g hg => hk.block g (h.b.row.lt g hg).2 (fun e => h.b.not_own hm (by rw [hg, e])) (fun e => hsep g e hg))
  · exact below_kept h.bel hk h.bel.size (Nat.le_trans h.base hm.base) (fun g hg => Nat.le_trans h.base (hm.row.lt g hg).1)
  · intro g hf
    obtain ⟨v, a, b, c⟩ := hf
    have ev : v = vm := by
      have := a.symm.trans hm.blk
      simpa using this
    subst ev
    refine ⟨fun cur fr hi => (hk.block g c (fun e => ?_) b).trans hi, vm', hm'.blk, fun e => ?_, Nat.lt_of_lt_of_le c hk.size⟩
    · subst e
      have := hi.symm.trans hm.blk
      simp [TRun, TMap] at this
    · rcases hk.fresh with e2 | e2
      · exact b (e2.symm.trans e)
      · have := e2 g e
        omega
  · refine kb k o ho (fun cur fr e => by subst e; simp [Obj.isCells] at hc) (fun e => ?_)
    subst e
    rw [hm.blk] at ho; cases ho; simp [Obj.isCells] at hc
  · refine kb k _ hc (fun cur' fr' e => ?_) (fun e => ?_)
    · simp at e; exact ht e.2.1
    · have := h.lt; omega
end Go.Proofs.Ytijafckdbhklmab.B
