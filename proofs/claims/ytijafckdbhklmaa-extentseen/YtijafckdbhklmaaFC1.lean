import Derived.Test.YtijafckdbhklmaaYQI
import Derived.Test.YtijafckdbhklmaaWAo
import Derived.Deep.AppendLies
namespace Go.Proofs.Ytijafckdbhklmaa.I
open Go.RowKit Go.Sort Go.Shelf Go.Proofs.Ytijafckdbhklmaa
attribute [local go_sem] Oper.semAt_some
set_option linter.unusedVariables false
set_option linter.unusedSimpArgs false
set_option maxRecDepth 100000

abbrev TMapQ : TypeId := 26
/-- a block that is not the row of the map that is being made -/
def FineC (bm g : Nat) (W : World) : Prop := ∃ (sz : Int) (v : Value), W.heap[bm]? = some (.cells #[.bool true, .int .i64 sz, v] TMap (0, 0)) ∧ v.ownBlock ≠ some g ∧ g < W.heap.size
def KpC (bm : Nat) (W W' : World) : Prop := ∀ g, FineC bm g W → (∀ cur fr, W.heap[g]? = some (.cells cur TRun fr) → W'.heap[g]? = some (.cells cur TRun fr)) ∧ FineC bm g W'
theorem fineC_same {bm g : Nat} {W W' : World} (h : FineC bm g W) (h1 : W'.heap[bm]? = W.heap[bm]?) (h2 : W.heap.size ≤ W'.heap.size) : FineC bm g W' := by
  obtain ⟨sz, v, a, b, c⟩ := h
  exact ⟨sz, v, h1.trans a, b, by omega⟩
theorem fineC_lt {bm g : Nat} {W : World} (h : FineC bm g W) : bm < W.heap.size := by
  obtain ⟨sz, v, a, _⟩ := h
  exact (Array.getElem?_eq_some_iff.1 a).1
theorem keepsRowC (bm : Nat) : KeepsRow (KpC bm) (FineC bm) :=
  ⟨fun hk hf hc => ⟨(hk _ hf).1 _ _ hc, (hk _ hf).2⟩, fun o hf => fineC_same hf (Below.heap_alloc _ _ _ (fineC_lt hf)) (by simp)⟩
theorem kpC_t {bm : Nat} {A B C : World} (h : KpC bm A B) (k : KpC bm B C) : KpC bm A C := fun g hf => by
  obtain ⟨h1, h2⟩ := h g hf
  obtain ⟨k1, k2⟩ := k g h2
  exact ⟨fun cur fr hi => k1 cur fr (h1 cur fr hi), k2⟩
theorem kpC_b {bm : Nat} {w : World} (W : World) (l : Nat) (o o' : Obj) (_ : w.heap.size ≤ l) (h : W.heap[l]? = some o) (hc : o.isCells = false) (_ : o.isWalk = false) : KpC bm W (W.putObj l o') := fun g hf => by
  have key : ∀ (i : Nat) (cur : Array Value) (t : Nat) (fr : Nat × Nat), W.heap[i]? = some (.cells cur t fr) → (W.putObj l o').heap[i]? = W.heap[i]? := fun i cur t fr hi => by
    refine World.putObj_heap_other (fun e => ?_)
    subst e
    rw [h] at hi; cases hi; simp [Obj.isCells] at hc
  refine ⟨fun cur fr hi => (key g cur _ fr hi).trans hi, ?_⟩
  obtain ⟨sz, v, a, b, c⟩ := hf
  exact ⟨sz, v, (key bm _ _ _ a).trans a, b, by simpa [World.putObj] using c⟩
theorem kpC_below (bm : Nat) {W W' : World} (h : Below W.heap.size W W') : KpC bm W W' := fun g hf => ⟨fun cur fr hi => (h.block g (Array.getElem?_eq_some_iff.1 hi).1).trans hi, fineC_same hf (h.block _ (fineC_lt hf)) h.size⟩
theorem cells_ownC (Bx : Nat) (cs : Array Value) (t : TypeId) (B : Nat) : OwnFrom B (fun (_ : Unit) (W : World) => W.heap[Bx]? = some (.cells cs t (0, 0))) := fun s X Y row hs hg hrow => by
  refine (hg.block Bx (Array.getElem?_eq_some_iff.1 hs).1 (fun e => ?_)).trans hs
  obtain ⟨_, o, ho, hc⟩ := hrow Bx e.symm
  rw [hs] at ho; cases ho; simp [Obj.isCells] at hc
theorem kpC_refl (bm : Nat) (W : World) : KpC bm W W := fun g hf => ⟨fun _ _ h => h, hf⟩
theorem semAt_any (ro : Option Nat) (ρ : Operand → Value) (o : Oper) (h : ∀ c, o.op ≠ .defer c) : Oper.semAt ro ρ o = execOp ρ o := by
  cases ro with
  | none => exact Oper.semAt_none _ _
  | some l => exact Oper.semAt_some l ρ o h
theorem getD_tt {l : Array Bool} {j : Nat} (h : l.getD j false = true) : l.getD j true = true := by
  rw [Array.getD_eq_getD_getElem?] at h ⊢
  cases hj : l[j]? with
  | none => rfl
  | some b => rw [hj] at h; exact h
theorem wpOpIn_want {F : Fence} {n : Nat} {P : Program} {ops : Array Oper} {Q : Exit → Act → World → Prop} {i : Nat} {o : Oper} {K : Act → World → Prop} {a : Act} {w : World} (ho : ops[i]? = some o) (hg : o.guard = none) (h : ∀ K' : Act → World → Prop, (∀ a w, K a w → K' a w) → o.wpIn F n P a w K' Q) : wpOpIn F n P ops Q i K a w := by
  unfold wpOpIn
  simp only [ho]
  rw [if_pos (by simp [Region.wanted, hg])]
  exact h K (fun _ _ h => h)
/-- append, by what it gives -/
theorem wpIn_append {F : Fence} {n : Nat} {P : Program} {Q : Exit → Act → World → Prop} {o : Oper} {K : Act → World → Prop} {a : Act} {w w' : World} (hfn : ∀ f, F.fn f) (s x : Operand) (t : TypeId) (ho : o.op = .call { callee := .builtin .append, args := #[s, x], argTypes := #[t, t] }) {v u r : Value} (hs : a.eval s = v) (hx : a.eval x = u) (hr : (Builtin.append_ #[t, t] o.type #[v, u]).run P w = .ok r w') (h : K (a.put o.dst r) w') : o.wpIn F n P a w K Q := by
  unfold Oper.wpIn
  refine ⟨fun f _ => hfn f, ?_⟩
  rw [semAt_any F.round a.eval o (fun c hc => by rw [ho] at hc; cases hc)]
  unfold execOp
  simp only [ho, resolve, invoke, builtin, Sem.run_bind, Sem.run_pure, Result.andThen_ok, List.map_toArray, List.map_cons, List.map_nil, hs, hx, hr]
  exact h
/-- each operation comes behind those that it leans on -/
def topo (ops : Array Oper) : Bool := (List.range ops.size).all fun j => match ops[j]? with
  | some o => o.after.all fun e => decide (e.on < j)
  | none => true
theorem ready_all {md : Region.Mode} {ops : Array Oper} {l : Array Bool} (ht : topo ops = true) (hs : l.size = ops.size) (h : Region.ready md ops l = []) : ∀ j, l.getD j true = true := by
  intro j
  induction j using Nat.strongRecOn with
  | _ j ih =>
    cases hb : l.getD j true with
    | true => rfl
    | false =>
      have hj : j < ops.size := by
        rcases Nat.lt_or_ge j ops.size with h1 | h1
        · exact h1
        · rw [Array.getD_eq_getD_getElem?, Array.getElem?_eq_none (by omega)] at hb; cases hb
      have ho : ops[j]? = some ops[j] := Array.getElem?_eq_getElem hj
      have ht1 := List.all_eq_true.1 ht j (List.mem_range.2 hj)
      rw [ho] at ht1
      simp only [Array.all_eq_true'] at ht1
      have hm : j ∈ Region.ready md ops l := mem_ready.2 ⟨hb, _, ho, fun e he _ => by
        have hlt : e.on < j := by simpa using ht1 e he
        have h1 := ih e.on hlt
        rw [Array.getD_eq_getD_getElem?, Array.getElem?_eq_getElem (by omega)] at h1 ⊢
        exact h1⟩
      rw [h] at hm
      cases hm

theorem getD_ne {l : Array Bool} {i j : Nat} (h : i ≠ j) : (l.setIfInBounds i true).getD j true = l.getD j true := by rw [getD_set]; simp [h]
theorem getD_eq {l : Array Bool} {i : Nat} : (l.setIfInBounds i true).getD i true = true := by rw [getD_set]; simp
/-- what is listed is listed behind what it leans on -/
def Cl (E : List (Nat × Nat)) (l : Array Bool) : Prop := ∀ e ∈ E, l.getD e.1 true = true → l.getD e.2 true = true
theorem Cl.step {E : List (Nat × Nat)} {l : Array Bool} {i : Nat} (h : Cl E l) (hi : ∀ e ∈ E, e.1 = i → l.getD e.2 true = true) : Cl E (l.setIfInBounds i true) := by
  intro e he h1
  rw [getD_set] at h1 ⊢
  by_cases c : e.1 = i
  · simp [hi e he c]
  · have c' : ¬ i = e.1 := fun x => c x.symm
    simp only [c', decide_false, Bool.false_or] at h1
    simp [h e he h1]
theorem Cl.no {E : List (Nat × Nat)} {l : Array Bool} (h : Cl E l) {a b : Nat} (he : (a, b) ∈ E) (hb : l.getD b true = false) : l.getD a true = false := by
  cases hc : l.getD a true with
  | false => rfl
  | true => have := h _ he hc; rw [hb] at this; cases this
end Go.Proofs.Ytijafckdbhklmaa.I
