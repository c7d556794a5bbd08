import Derived.Test.YtoabigjajnikcaaTUe
import Derived.RangeFuncNested
import Derived.RangeFuncKeeps
import Derived.OwnWalkIn
import Derived.Maps.OwnIn
namespace Go.Proofs.Ytoabigjajnikcaa
open Go.RowKit Go.Maps Go.Shelf
attribute [local go_sem] Oper.semAt_some
set_option linter.unusedVariables false
set_option linter.unusedSimpArgs false
set_option maxRecDepth 100000

/-- an iterator that does nothing but draw, lay new blocks and yield: what it asks of the ranging's invariant is no more than this; of what it yields it says Val -/
def SeqV {α : Type} (F : Fence) (n : Nat) (P : Program) (g : Nat) (lb : Array Value) (encs : α → Array Value) (Kp : World → World → Prop) (Val : List α → α → World → Prop) (S Sp : List α → Prop) (N : Nat) (w : World) : Prop :=
  ∀ (l : Nat) (J Jx : List α → World → Prop) (W : World), Below w.heap.size w W → w.heap.size + 2 ≤ W.heap.size → (∀ s X Y, J s X → Below X.heap.size X Y → J s Y) →
    (∀ pre x W1, J pre W1 → Val pre x W1 → pre.length < N → YieldAt F (n - 1) P l (encs x) W1 fun e W' => (e = .returned (.bool true) ∧ J (pre ++ [x]) W' ∧ Kp W1 W') ∨ (e = .returned (.bool false) ∧ Jx (pre ++ [x]) W')) →
    J [] W → CallsIn F n P g (#[.func (.yield l) #[] #[]] ++ lb) W fun e W' => (∃ v, e = .returned v) ∧ ((∃ xs, S xs ∧ J xs W') ∨ (∃ pre, Sp pre ∧ Jx pre W'))
/-- the two blocks that a ranging lays for itself, at B and B + 1, are as they were -/
def Two2 (B : Nat) (W W' : World) : Prop := W'.heap[B]? = W.heap[B]? ∧ W'.heap[B + 1]? = W.heap[B + 1]?
/-- how a round's body may be left, where it may change what it likes but these two blocks -/
def postQ {α : Type} (B : Nat) (Kp : World → World → Prop) (I : List α → World → Prop) (Ix : Code → List α → World → Prop) (xs : List α) (W : World) : Exit → Act → World → Prop
  | .normal, _, W' => Two2 B W W' ∧ Kp W W' ∧ I xs W'
  | .ret, _, W' => Two2 B W W' ∧ Ix .ret xs W'
  | .exit id, _, W' => Two2 B W W' ∧ Ix (.exit id) xs W'
  | .goto t, _, W' => Two2 B W W' ∧ Ix (.goto t) xs W'
  | .panic _, _, _ => False
  | .outgrown, _, _ => False
/-- what holds whatever is drawn or laid anew, and whatever the ranging writes into its own record -/
structure AbQ {β : Type} (B : Nat) (I : β → World → Prop) : Prop where
  b : ∀ s X Y, I s X → Below X.heap.size X Y → I s Y
  l : ∀ s X r r', I s X → X.heap[B + 1]? = some (.loop r) → I s (X.putObj (B + 1) (.loop r'))
theorem wpIn_rangeV {F : Fence} {n : Nat} {P : Program} {α : Type} {g : Operand} {ps : Array Tmp} {assign body : Code} {Q : Exit → Act → World → Prop} {a : Act} {w : World}
    (hro : F.round = none) (h1 : 1 ≤ n) {gf : Nat} {lb : Array Value} (hg : a.eval g = .func (.func gf) #[] lb) (hFg : F.fn gf) (eg : ∀ args w, (callFunc gf args).run P w = .ok (.enter gf args) w)
    {encs : α → Array Value} {Kp : World → World → Prop} {Val : List α → α → World → Prop} {S Sp : List α → Prop} {N : Nat} {w0 : World} (hseq : SeqV F (n - 1) P gf lb encs Kp Val S Sp N w0)
    (hKt : ∀ {A B C : World}, Kp A B → Kp B C → Kp A C) (hKb : ∀ (W : World) r r', W.heap[w.heap.size + 1]? = some (.loop r) → Kp W (W.putObj (w.heap.size + 1) (.loop r'))) (hb0 : Below w0.heap.size w0 w) (hps : ∀ x, (encs x).size = ps.size)
    (I : List α → World → Prop) (Ix : Code → List α → World → Prop) (hI : AbQ w.heap.size I) (hIx : ∀ c, AbQ w.heap.size (Ix c)) (h0 : I [] w) (Ax : List α → α → Act → World → Prop) (hAx : ∀ pre x a', AbQ w.heap.size (fun (_ : Unit) W => Ax pre x a' W))
    (hassign : ∀ (pre : List α) (x : α) (W : World) (K : Act → World → Prop), I pre W → Val pre x W → pre.length < N → w.heap.size + 1 < W.heap.size → (∀ a' W', Two2 w.heap.size W W' → Kp W W' → I pre W' → Ax pre x a' W' → K a' W') →
      assign.wpIn (F.inRound (w.heap.size + 1)) (n - 1 - 1) P (Exit.then K (fun _ _ _ => False)) { tmps := (ps.zip (encs x)).foldl (fun t (p, v) => t.setIfInBounds p v) a.tmps, defers := [] } W)
    (hbody : ∀ (pre : List α) (x : α) (a' : Act) (W : World), (∃ r, W.heap[w.heap.size + 1]? = some (.loop r)) → W.heap[w.heap.size]? = some (.deferred (some [])) → I pre W → Ax pre x a' W → pre.length < N → body.wpIn (F.inRound (w.heap.size + 1)) (n - 1 - 1) P (postQ w.heap.size Kp I Ix (pre ++ [x]) W) a' W)
    (hdone : ∀ (xs : List α) (W : World), S xs → I xs W → W.heap[w.heap.size]? = some (.deferred (some [])) → Q .normal { a with defers := { target := .collected w.heap.size, args := #[] } :: a.defers } W)
    (hstop : ∀ (c : Code) (pre : List α) (W : World), Sp pre → Ix c pre W → W.heap[w.heap.size]? = some (.deferred (some [])) → c.wpIn F n P Q { a with defers := { target := .collected w.heap.size, args := #[] } :: a.defers } W) :
    (Code.rangeFunc g ps assign body).wpIn F n P Q a w := by
  refine wpIn_rangeFunc ?_
  intro fn hfn
  rw [hro]
  obtain ⟨R, hR⟩ : ∃ R : LoopState → Option Code → Loop, R = fun st pe => { state := st, pending := pe, fn, tmps := a.tmps, params := ps, assign, body, defers := w.heap.size } := ⟨_, rfl⟩
  obtain ⟨V, hV⟩ : ∃ V, V = (w.alloc (.deferred (some []))).alloc (.loop (R .ready none)) := ⟨_, rfl⟩
  have hBV : Below w.heap.size w V := by rw [hV]; exact ((Below.refl _ w).alloc (Nat.le_refl _) _).alloc (by simp) _
  have vd : V.heap[w.heap.size]? = some (.deferred (some [])) := by
    rw [hV]; exact (Below.heap_alloc _ _ _ (by simp)).trans (World.alloc_heap_new w _)
  have vl : V.heap[w.heap.size + 1]? = some (.loop (R .ready none)) := by
    have := World.alloc_heap_new (w.alloc (.deferred (some []))) (.loop (R .ready none))
    rw [World.size_alloc] at this
    rw [hV]; exact this
  have hI1 : I [] V := hI.b [] w V h0 hBV
  refine ⟨w.heap.size + 1, [{ target := .collected w.heap.size, args := #[] }], V, { target := .fn (.func gf) lb, args := #[.func (.yield (w.heap.size + 1)) #[] #[]] }, V, gf,
    #[.func (.yield (w.heap.size + 1)) #[] #[]] ++ lb, V, ?_, ?_, ?_, ?_, fun _ => h1, ?_⟩
  · rw [hV, hR]; exact run_enterLoop_outer _ _ _ _ _
  · simp only [resolve, hg]
    simp [go_sem]
  · intro f' hf'
    simp [Target.leads] at hf'
    subst hf'
    exact hFg
  · simp [invoke, go_sem, eg]
  refine (hseq (w.heap.size + 1)
    (fun pre X => I pre X ∧ X.heap[w.heap.size + 1]? = some (.loop (R .ready none)) ∧ X.heap[w.heap.size]? = some (.deferred (some [])))
    (fun pre X => ∃ c, Ix c pre X ∧ X.heap[w.heap.size + 1]? = some (.loop (R .done (some c))) ∧ X.heap[w.heap.size]? = some (.deferred (some [])))
    V (hb0.trans (hBV.mono hb0.size)) (by have h9 := (Array.getElem?_eq_some_iff.1 vl).1; have h8 := hb0.size; omega) (fun s X Y hX hb => ?_) (fun pre x X hX hval hlen => ?_) ⟨hI1, vl, vd⟩).mono ?_
  · exact ⟨hI.b s X Y hX.1 hb, (hb.block _ (Array.getElem?_eq_some_iff.1 hX.2.1).1).trans hX.2.1, (hb.block _ (Array.getElem?_eq_some_iff.1 hX.2.2).1).trans hX.2.2⟩
  · -- one round
    obtain ⟨x1, x2, x3⟩ := hX
    have hy := run_yield (P := P) (args := encs x) x2 (by rw [hR]; exact hps x)
    rw [hR] at hy
    refine ⟨fn, _, assign, body, hy, roundIn_of_wpIn hfn (hassign pre x X _ x1 hval hlen (Array.getElem?_eq_some_iff.1 x2).1 ?_)⟩
    clear hy
    intro a' Y hT hkY hiY hax
    have y2 : Y.heap[w.heap.size + 1]? = some (.loop (R .ready none)) := hT.2.trans x2
    have y3 : Y.heap[w.heap.size]? = some (.deferred (some [])) := hT.1.trans x3
    have hlt := (Array.getElem?_eq_some_iff.1 y2).1
    refine ⟨_, run_beginRound y2 (by rw [hR]), ?_⟩
    obtain ⟨Z, hZ⟩ : ∃ Z, Z = Y.putObj (w.heap.size + 1) (.loop { R .ready none with state := .busy }) := ⟨_, rfl⟩
    have z2 : Z.heap[w.heap.size + 1]? = some (.loop { R .ready none with state := .busy }) := by rw [hZ]; exact World.putObj_heap_same hlt
    have z3 : Z.heap[w.heap.size]? = some (.deferred (some [])) := by rw [hZ]; exact (World.putObj_heap_other (by omega)).trans y3
    have kZ : Kp Y Z := by rw [hZ]; exact hKb _ _ _ y2
    have iZ : I pre Z := by rw [hZ]; exact hI.l _ _ _ _ hiY y2
    have aZ : Ax pre x a' Z := by rw [hZ]; exact (hAx pre x a').l () _ _ _ hax y2
    rw [← hZ]
    refine wpIn_mono (hbody pre x a' Z ⟨_, z2⟩ z3 iZ aZ hlen) ?_
    have fin : ∀ (jump : Option Code) (U : World), Two2 w.heap.size Z U →
        U.heap[w.heap.size + 1]? = some (.loop { R .ready none with state := .busy }) ∧
        (Instr.endRound (w.heap.size + 1) jump).run P U = .ok (.bool jump.isNone) (U.putObj (w.heap.size + 1) (.loop (R (if jump.isNone then .ready else .done) jump))) ∧
        (U.putObj (w.heap.size + 1) (.loop (R (if jump.isNone then .ready else .done) jump))).heap[w.heap.size + 1]? = some (.loop (R (if jump.isNone then .ready else .done) jump)) ∧
        (U.putObj (w.heap.size + 1) (.loop (R (if jump.isNone then .ready else .done) jump))).heap[w.heap.size]? = some (.deferred (some [])) := fun jump U hU => by
      have u2 := hU.2.trans z2
      have he := run_endRound (P := P) jump u2
      rw [hR] at he ⊢
      exact ⟨by rw [hR] at u2; exact u2, he, World.putObj_heap_same (Array.getElem?_eq_some_iff.1 u2).1, (World.putObj_heap_other (by omega)).trans (hU.1.trans z3)⟩
    have out : ∀ (c : Code) (U : World), Two2 w.heap.size Z U → Ix c (pre ++ [x]) U → ∃ v Y', (Instr.endRound (w.heap.size + 1) (some c)).run P U = .ok v Y' ∧ v = .bool false ∧ ∃ c, Ix c (pre ++ [x]) Y' ∧ Y'.heap[w.heap.size + 1]? = some (.loop (R .done (some c))) ∧ Y'.heap[w.heap.size]? = some (.deferred (some [])) := fun c U hU hx => by
      obtain ⟨f1, f2, f3, f4⟩ := fin (some c) U hU
      exact ⟨_, _, f2, rfl, c, (hIx c).l _ _ _ _ hx f1, f3, f4⟩
    rintro e a3 U hp
    cases e with
    | normal =>
      obtain ⟨hU, hk, hi⟩ := hp
      obtain ⟨f1, f2, f3, f4⟩ := fin none U hU
      exact ⟨_, _, f2, .inl ⟨rfl, ⟨hI.l _ _ _ _ hi f1, f3, f4⟩, hKt hkY (hKt kZ (hKt hk (hKb _ _ _ f1)))⟩⟩
    | ret =>
      obtain ⟨v, Y', r1, rfl, r3⟩ := out .ret U hp.1 hp.2
      exact ⟨_, _, r1, .inr ⟨rfl, r3⟩⟩
    | exit id =>
      obtain ⟨v, Y', r1, rfl, r3⟩ := out (.exit id) U hp.1 hp.2
      exact ⟨_, _, r1, .inr ⟨rfl, r3⟩⟩
    | goto t =>
      obtain ⟨v, Y', r1, rfl, r3⟩ := out (.goto t) U hp.1 hp.2
      exact ⟨_, _, r1, .inr ⟨rfl, r3⟩⟩
    | panic ch => exact hp.elim
    | outgrown => exact hp.elim
  · -- behind the iterator
    rintro e U ⟨⟨v, rfl⟩, (⟨xs, hS, hi, hl, hk⟩ | ⟨pre, hSp, c, hi, hl, hk⟩)⟩
    · have he := run_endLoop (P := P) hl (by rw [hR]; simp)
      rw [hR] at he
      exact ⟨none, _, he, hdone xs _ hS (hI.l _ _ _ _ hi hl) ((World.putObj_heap_other (by omega)).trans hk)⟩
    · have he := run_endLoop (P := P) hl (by rw [hR]; simp)
      rw [hR] at he
      exact ⟨some c, _, he, hstop c pre _ hSp ((hIx c).l _ _ _ _ hi hl) ((World.putObj_heap_other (by omega)).trans hk)⟩
end Go.Proofs.Ytoabigjajnikcaa
