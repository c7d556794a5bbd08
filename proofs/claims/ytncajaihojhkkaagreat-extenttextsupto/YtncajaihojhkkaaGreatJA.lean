import Derived.OrdersIn
import Derived.RangeFuncCalls
import Derived.Test.YtncajaihojhkkaaGreatYQS
import Derived.Deep.AppendLies
namespace Go.Proofs.YtncajaihojhkkaaGreat
open Go
set_option linter.unusedVariables false

section
variable {F : Fence} {n : Nat} {P : Program} {md : Region.Mode} {ops : Array Oper} {Q : Exit → Act → World → Prop}
theorem wpOpIn_mono {i : Nat} {K K' : Act → World → Prop} {a : Act} {w : World} (h : ∀ a w, K a w → K' a w) (hh : wpOpIn F n P ops Q i K a w) : wpOpIn F n P ops Q i K' a w := by
  unfold wpOpIn at hh ⊢
  split at hh
  · exact h _ _ hh
  · split at hh
    · rename_i e1; rw [if_pos e1]; exact Oper.wpIn_mono h hh
    · rename_i e1; rw [if_neg e1]; exact ⟨hh.1, h _ _ hh.2⟩
/-- A region that draws its order, in a fence with rounds or without: an invariant over what has been listed. 'left': how many are still to come, at most. -/
theorem wpAnyIn_inv (I : Array Bool → Act → World → Prop) (left : Array Bool → Nat) (hl0 : ∀ l a w, I l a w → left l = 0 → Region.ready md ops l = [])
    (hls : ∀ l a w i, I l a w → i ∈ Region.ready md ops l → left (l.setIfInBounds i true) < left l)
    (hdone : ∀ l a w, I l a w → Region.ready md ops l = [] → Q .normal a w)
    (hstep : ∀ l a w i, I l a w → i ∈ Region.ready md ops l → wpOpIn F n P ops Q i (fun a' w' => I (l.setIfInBounds i true) a' w') a w) :
    ∀ (fuel : Nat) (l : Array Bool) (a : Act) (w : World), left l ≤ fuel → I l a w → wpAnyIn F n P md ops Q fuel l a w := by
  intro fuel
  induction fuel with
  | zero => intro l a w hf hi; exact ⟨hl0 l a w hi (by omega), hdone l a w hi (hl0 l a w hi (by omega))⟩
  | succ fuel ih =>
    intro l a w hf hi
    refine ⟨fun h => hdone l a w hi h, fun i hr => ?_⟩
    have h1 := hls l a w i hi hr
    exact wpOpIn_mono (fun a' w' h => ih _ a' w' (by omega) h) (hstep l a w i hi hr)
end
end Go.Proofs.YtncajaihojhkkaaGreat

namespace Go.Proofs.YtncajaihojhkkaaGreat
open Go
set_option linter.unusedVariables false
set_option linter.unusedSimpArgs false

theorem getD_set (l : Array Bool) (i j : Nat) : (l.setIfInBounds i true).getD j true = (decide (i = j) || l.getD j true) := by
  by_cases e : i = j
  · subst e
    simp only [decide_true, Bool.true_or]
    rw [Array.getD_eq_getD_getElem?, Array.getElem?_setIfInBounds_self]
    split <;> rfl
  · simp only [e, decide_false, Bool.false_or]
    rw [Array.getD_eq_getD_getElem?, Array.getElem?_setIfInBounds_ne e, ← Array.getD_eq_getD_getElem?]
theorem count_zero {l : Array Bool} (h : l.toList.count false = 0) (i : Nat) : l.getD i true = true := by
  rw [Array.getD_eq_getD_getElem?]
  cases hi : l[i]? with
  | none => rfl
  | some b =>
    cases b
    · have hm : false ∈ l.toList := List.mem_of_getElem? (i := i) (by simpa using hi)
      have := List.count_pos_iff.2 hm
      omega
    · rfl
theorem count_less {l : Array Bool} {i : Nat} (h : l.getD i true = false) : (l.setIfInBounds i true).toList.count false < l.toList.count false := by
  rw [Array.getD_eq_getD_getElem?] at h
  cases hi : l[i]? with
  | none => rw [hi] at h; cases h
  | some b =>
    rw [hi] at h
    simp at h
    subst h
    have hlt := (Array.getElem?_eq_some_iff.1 hi).1
    have hm : false ∈ l.toList := List.mem_of_getElem? (i := i) (by simpa using hi)
    have hp := List.count_pos_iff.2 hm
    have e1 : l.toList[i]? = some false := by simpa using hi
    rw [Array.toList_setIfInBounds, List.count_set (by simpa using hlt)]
    have e2 : l.toList[i]'(by simpa using hlt) = false := by
      rw [List.getElem?_eq_some_iff] at e1
      exact e1.2
    rw [e2]
    have e3 : ((true : Bool) == false) = false := rfl
    have e4 : ((false : Bool) == false) = true := rfl
    rw [e3, e4]
    simp only [if_true, Bool.false_eq_true, if_false]
    omega
section
variable {F : Fence} {n : Nat} {P : Program} {md : Region.Mode} {ops : Array Oper} {Q : Exit → Act → World → Prop}
/-- a region that draws its order, by an invariant over what has been listed -/
theorem wpAnyIn_by (I : Array Bool → Act → World → Prop)
    (hdone : ∀ l a w, I l a w → Region.ready md ops l = [] → Q .normal a w)
    (hstep : ∀ l a w i, I l a w → i ∈ Region.ready md ops l → wpOpIn F n P ops Q i (fun a' w' => I (l.setIfInBounds i true) a' w') a w) :
    ∀ (fuel : Nat) (l : Array Bool) (a : Act) (w : World), l.toList.count false ≤ fuel → I l a w → wpAnyIn F n P md ops Q fuel l a w :=
  wpAnyIn_inv I (fun l => l.toList.count false) (fun l a w hi h0 => by
    cases hr : Region.ready md ops l with
    | nil => rfl
    | cons i t =>
      have hm : i ∈ Region.ready md ops l := by rw [hr]; simp
      have h1 := (mem_ready.1 hm).1
      rw [count_zero h0] at h1
      cases h1)
    (fun l a w i hi hm => count_less (mem_ready.1 hm).1) hdone hstep
end
end Go.Proofs.YtncajaihojhkkaaGreat

namespace Go.Proofs.YtncajaihojhkkaaGreat.S
open Go.RowKit Go.Sort Go.Shelf Go.Proofs.YtncajaihojhkkaaGreat
attribute [local go_sem] Oper.semAt_some
set_option linter.unusedVariables false
set_option linter.unusedSimpArgs false
set_option maxRecDepth 100000

abbrev TMapQ : TypeId := 24
/-- a block that is not the row of the map that is being made -/
def FineC (bm g : Nat) (W : World) : Prop := ∃ (sz : Int) (v : Value), W.heap[bm]? = some (.cells #[.bool true, .int .i64 sz, v] TMap (0, 0)) ∧ v.ownBlock ≠ some g ∧ g < W.heap.size
def KpC (bm : Nat) (W W' : World) : Prop := ∀ g, FineC bm g W → (∀ cur fr, W.heap[g]? = some (.cells cur TRun fr) → W'.heap[g]? = some (.cells cur TRun fr)) ∧ FineC bm g W'
theorem fineC_same {bm g : Nat} {W W' : World} (h : FineC bm g W) (h1 : W'.heap[bm]? = W.heap[bm]?) (h2 : W.heap.size ≤ W'.heap.size) : FineC bm g W' := by
  obtain ⟨sz, v, a, b, c⟩ := h
  exact ⟨sz, v, h1.trans a, b, by omega⟩
theorem fineC_lt {bm g : Nat} {W : World} (h : FineC bm g W) : bm < W.heap.size := by
  obtain ⟨sz, v, a, _⟩ := h
  exact (Array.getElem?_eq_some_iff.1 a).1
theorem keepsRowC (bm : Nat) : KeepsRow (KpC bm) (FineC bm) :=
  ⟨fun hk hf hc => ⟨(hk _ hf).1 _ _ hc, (hk _ hf).2⟩, fun o hf => fineC_same hf (Below.heap_alloc _ _ _ (fineC_lt hf)) (by simp)⟩
theorem kpC_t {bm : Nat} {A B C : World} (h : KpC bm A B) (k : KpC bm B C) : KpC bm A C := fun g hf => by
  obtain ⟨h1, h2⟩ := h g hf
  obtain ⟨k1, k2⟩ := k g h2
  exact ⟨fun cur fr hi => k1 cur fr (h1 cur fr hi), k2⟩
theorem kpC_b {bm : Nat} {w : World} (W : World) (l : Nat) (o o' : Obj) (_ : w.heap.size ≤ l) (h : W.heap[l]? = some o) (hc : o.isCells = false) (_ : o.isWalk = false) : KpC bm W (W.putObj l o') := fun g hf => by
  have key : ∀ (i : Nat) (cur : Array Value) (t : Nat) (fr : Nat × Nat), W.heap[i]? = some (.cells cur t fr) → (W.putObj l o').heap[i]? = W.heap[i]? := fun i cur t fr hi => by
    refine World.putObj_heap_other (fun e => ?_)
    subst e
    rw [h] at hi; cases hi; simp [Obj.isCells] at hc
  refine ⟨fun cur fr hi => (key g cur _ fr hi).trans hi, ?_⟩
  obtain ⟨sz, v, a, b, c⟩ := hf
  exact ⟨sz, v, (key bm _ _ _ a).trans a, b, by simpa [World.putObj] using c⟩
theorem kpC_below (bm : Nat) {W W' : World} (h : Below W.heap.size W W') : KpC bm W W' := fun g hf => ⟨fun cur fr hi => (h.block g (Array.getElem?_eq_some_iff.1 hi).1).trans hi, fineC_same hf (h.block _ (fineC_lt hf)) h.size⟩
theorem cells_ownC (Bx : Nat) (cs : Array Value) (t : TypeId) (B : Nat) : OwnFrom B (fun (_ : Unit) (W : World) => W.heap[Bx]? = some (.cells cs t (0, 0))) := fun s X Y row hs hg hrow => by
  refine (hg.block Bx (Array.getElem?_eq_some_iff.1 hs).1 (fun e => ?_)).trans hs
  obtain ⟨_, o, ho, hc⟩ := hrow Bx e.symm
  rw [hs] at ho; cases ho; simp [Obj.isCells] at hc
theorem kpC_refl (bm : Nat) (W : World) : KpC bm W W := fun g hf => ⟨fun _ _ h => h, hf⟩
theorem semAt_any (ro : Option Nat) (ρ : Operand → Value) (o : Oper) (h : ∀ c, o.op ≠ .defer c) : Oper.semAt ro ρ o = execOp ρ o := by
  cases ro with
  | none => exact Oper.semAt_none _ _
  | some l => exact Oper.semAt_some l ρ o h
theorem getD_tt {l : Array Bool} {j : Nat} (h : l.getD j false = true) : l.getD j true = true := by
  rw [Array.getD_eq_getD_getElem?] at h ⊢
  cases hj : l[j]? with
  | none => rfl
  | some b => rw [hj] at h; exact h
theorem wpOpIn_want {F : Fence} {n : Nat} {P : Program} {ops : Array Oper} {Q : Exit → Act → World → Prop} {i : Nat} {o : Oper} {K : Act → World → Prop} {a : Act} {w : World} (ho : ops[i]? = some o) (hg : o.guard = none) (h : ∀ K' : Act → World → Prop, (∀ a w, K a w → K' a w) → o.wpIn F n P a w K' Q) : wpOpIn F n P ops Q i K a w := by
  unfold wpOpIn
  simp only [ho]
  rw [if_pos (by simp [Region.wanted, hg])]
  exact h K (fun _ _ h => h)
/-- append, by what it gives -/
theorem wpIn_append {F : Fence} {n : Nat} {P : Program} {Q : Exit → Act → World → Prop} {o : Oper} {K : Act → World → Prop} {a : Act} {w w' : World} (hfn : ∀ f, F.fn f) (s x : Operand) (t : TypeId) (ho : o.op = .call { callee := .builtin .append, args := #[s, x], argTypes := #[t, t] }) {v u r : Value} (hs : a.eval s = v) (hx : a.eval x = u) (hr : (Builtin.append_ #[t, t] o.type #[v, u]).run P w = .ok r w') (h : K (a.put o.dst r) w') : o.wpIn F n P a w K Q := by
  unfold Oper.wpIn
  refine ⟨fun f _ => hfn f, ?_⟩
  rw [semAt_any F.round a.eval o (fun c hc => by rw [ho] at hc; cases hc)]
  unfold execOp
  simp only [ho, resolve, invoke, builtin, Sem.run_bind, Sem.run_pure, Result.andThen_ok, List.map_toArray, List.map_cons, List.map_nil, hs, hx, hr]
  exact h
/-- each operation comes behind those that it leans on -/
def topo (ops : Array Oper) : Bool := (List.range ops.size).all fun j => match ops[j]? with
  | some o => o.after.all fun e => decide (e.on < j)
  | none => true
theorem ready_all {md : Region.Mode} {ops : Array Oper} {l : Array Bool} (ht : topo ops = true) (hs : l.size = ops.size) (h : Region.ready md ops l = []) : ∀ j, l.getD j true = true := by
  intro j
  induction j using Nat.strongRecOn with
  | _ j ih =>
    cases hb : l.getD j true with
    | true => rfl
    | false =>
      have hj : j < ops.size := by
        rcases Nat.lt_or_ge j ops.size with h1 | h1
        · exact h1
        · rw [Array.getD_eq_getD_getElem?, Array.getElem?_eq_none (by omega)] at hb; cases hb
      have ho : ops[j]? = some ops[j] := Array.getElem?_eq_getElem hj
      have ht1 := List.all_eq_true.1 ht j (List.mem_range.2 hj)
      rw [ho] at ht1
      simp only [Array.all_eq_true'] at ht1
      have hm : j ∈ Region.ready md ops l := mem_ready.2 ⟨hb, _, ho, fun e he _ => by
        have hlt : e.on < j := by simpa using ht1 e he
        have h1 := ih e.on hlt
        rw [Array.getD_eq_getD_getElem?, Array.getElem?_eq_getElem (by omega)] at h1 ⊢
        exact h1⟩
      rw [h] at hm
      cases hm

theorem getD_ne {l : Array Bool} {i j : Nat} (h : i ≠ j) : (l.setIfInBounds i true).getD j true = l.getD j true := by rw [getD_set]; simp [h]
theorem getD_eq {l : Array Bool} {i : Nat} : (l.setIfInBounds i true).getD i true = true := by rw [getD_set]; simp
/-- what is listed is listed behind what it leans on -/
def Cl (E : List (Nat × Nat)) (l : Array Bool) : Prop := ∀ e ∈ E, l.getD e.1 true = true → l.getD e.2 true = true
theorem Cl.step {E : List (Nat × Nat)} {l : Array Bool} {i : Nat} (h : Cl E l) (hi : ∀ e ∈ E, e.1 = i → l.getD e.2 true = true) : Cl E (l.setIfInBounds i true) := by
  intro e he h1
  rw [getD_set] at h1 ⊢
  by_cases c : e.1 = i
  · simp [hi e he c]
  · have c' : ¬ i = e.1 := fun x => c x.symm
    simp only [c', decide_false, Bool.false_or] at h1
    simp [h e he h1]
theorem Cl.no {E : List (Nat × Nat)} {l : Array Bool} (h : Cl E l) {a b : Nat} (he : (a, b) ∈ E) (hb : l.getD b true = false) : l.getD a true = false := by
  cases hc : l.getD a true with
  | false => rfl
  | true => have := h _ he hc; rw [hb] at this; cases this
end Go.Proofs.YtncajaihojhkkaaGreat.S

namespace Go.Proofs.YtncajaihojhkkaaGreat.S
open Go.RowKit Go.Sort Go.Shelf Go.Proofs.YtncajaihojhkkaaGreat
attribute [local go_sem] Oper.semAt_some
set_option linter.unusedVariables false
set_option linter.unusedSimpArgs false
set_option maxRecDepth 100000

theorem blk_set {w : World} {b : Nat} {cs : Array Value} {T : TypeId} (h : w.heap[b]? = some (.cells cs T (0, 0))) (j : Nat) (v : Value) : (w.setCell ⟨b, j, none⟩ v).heap[b]? = some (.cells (cs.setIfInBounds j v) T (0, 0)) := by
  rw [setCell_eq_setRow w b j cs T (0, 0) v h]
  exact setRow_heap _ _ _ _ _ _ h
theorem row_lt {w : World} {B T size n : Nat} {v : Value} {xs : List Value} (h : w.ownsRow B T size v n xs) : ∀ g, v.ownBlock = some g → g < w.heap.size ∧ B ≤ g ∧ ∃ cs, w.heap[g]? = some (.cells cs T (0, 0)) := by
  intro g hg
  rcases h.2 with ⟨rfl, _⟩ | ⟨g', cap, cur, rfl, hb, hh, _⟩
  · simp [Value.ownBlock] at hg
  · simp [Value.ownBlock] at hg; subst hg
    exact ⟨(Array.getElem?_eq_some_iff.1 hh).1, hb, cur, hh⟩
theorem own_slice {w : World} {B T size n : Nat} {v : Value} {xs : List Value} (h : w.ownsRow B T size v n xs) : ∃ ao cap, v = .slice ao n cap := by
  rcases h.2 with ⟨rfl, h0⟩ | ⟨g, cap, cur, rfl, _⟩
  · exact ⟨_, _, by rw [h0]⟩
  · exact ⟨_, _, rfl⟩
def EC : List (Nat × Nat) := [(2, 1), (3, 2), (4, 3), (6, 5), (7, 4), (7, 6), (8, 0), (9, 8), (10, 7), (10, 9)]
/-- the frame of Copy's body -/
abbrev pact (bm bc cb Bx H : Nat) (size : Int) (x : Rn ByteArray) (tv av : Value) (l : Array Bool) : Act := { tmps := #[.pointer (some ⟨bm, 0, none⟩), undef, .pointer none, .pointer (some ⟨cb, 0, none⟩), .pointer (some ⟨Bx, 0, none⟩), .pointer (some ⟨bm, 0, none⟩), .bool true, .bool false, .pointer (some ⟨bm, 0, none⟩), .pointer (some ⟨bm, 0, none⟩), .pointer (some ⟨bm, 1, none⟩), .int .i64 size, .agg #[.bool true, .int .i64 size, .slice none 0 0], .pointer (some ⟨bc, 0, none⟩), .pointer (some ⟨bm, 0, none⟩), .pointer (some ⟨bm, 0, none⟩), .pointer (some ⟨bm, 0, none⟩), .pointer (some ⟨bm, 1, none⟩), .int .i64 size, .func (.func 26) #[] #[.pointer (some ⟨cb + 1, 0, none⟩), .pointer (some ⟨cb + 2, 0, none⟩), .pointer (some ⟨cb + 3, 0, none⟩)], .agg #[.int .i64 x.lo, .int .i64 x.hi, .string x.v], (if l.getD 0 true = true then .pointer (some ⟨bc, 0, none⟩) else undef), (if l.getD 1 true = true then .pointer (some ⟨bc, 0, none⟩) else undef), (if l.getD 2 true = true then .pointer (some ⟨bc, 0, none⟩) else undef), (if l.getD 3 true = true then .pointer (some ⟨bc, 2, none⟩) else undef), (if l.getD 4 true = true then tv else undef), (if l.getD 5 true = true then .agg #[.int .i64 x.lo, .int .i64 x.hi, .string x.v] else undef), (if l.getD 6 true = true then .slice (some ⟨H, 0, none⟩) 1 1 else undef), (if l.getD 7 true = true then av else undef), (if l.getD 8 true = true then .pointer (some ⟨bc, 0, none⟩) else undef), (if l.getD 9 true = true then .pointer (some ⟨bc, 2, none⟩) else undef), undef], defers := [] }
abbrev pworld (W D1 D2 D3 : World) (l : Array Bool) : World := if l.getD 10 true = true then D3 else if l.getD 7 true = true then D2 else if l.getD 6 true = true then D1 else W.drew

set_option maxHeartbeats 8000000 in
theorem copy_any {w : World} {B bm : Nat} {v0 : Value} {size : Int} {rs : List (Rn ByteArray)} (h : MO w B bm v0 size rs) :
    Calls Tryz.prog 13 #[.pointer (some ⟨bm, 0, none⟩)] w fun e w' => ∃ bc vc, e = .returned (.pointer (some ⟨bc, 0, none⟩)) ∧ MO w' w.heap.size bc vc size rs ∧ Below w.heap.size w w' := by
  obtain ⟨i0, hi0, hz0, hz1, hz2⟩ := info_parts infoRun
  have hlen : rs.length ≤ 1099511627776 := h.len
  have c0 : w.cell? ⟨bm, 0, none⟩ = some (.bool true) := h.c 0
  have c1 : w.cell? ⟨bm, 1, none⟩ = some (.int .i64 size) := h.c 1
  have hle : size ≤ 1099511627776 := h.le
  refine (callsIn_wide (n := 4)).1 ?_
  have f0 : Fence.wide.fn 13 := trivial
  have f1 : Fence.wide.fn 14 := trivial
  have f2 : Fence.wide.fn 26 := trivial
  have f3 : Fence.wide.fn 22 := trivial
  obtain ⟨w1, hw1⟩ : ∃ w1, w1 = (w.alloc (.cells #[.bool true, .int .i64 size, .slice none 0 0] TMap)).alloc (.cells #[.pointer (some ⟨w.heap.size, 0, none⟩)] TMapQ) := ⟨_, rfl⟩
  have hB1 : Below w.heap.size w w1 := by rw [hw1]; exact ((Below.refl _ w).alloc (Nat.le_refl _) _).alloc (by simp) _
  have hs1 : w1.heap.size = w.heap.size + 2 := by rw [hw1]; simp
  have c1' : w1.cell? ⟨bm, 1, none⟩ = some (.int .i64 size) := cell_later hB1 c1
  have m1 : w1.heap[w.heap.size]? = some (.cells #[.bool true, .int .i64 size, .slice none 0 0] TMap (0, 0)) := by
    rw [hw1]; exact (Below.heap_alloc _ _ _ (by simp)).trans (heap_alloc_new w _)
  have x1 : Boxed w1 (w.heap.size + 1) TMapQ (.pointer (some ⟨w.heap.size, 0, none⟩)) := by
    have := Boxed.new (w.alloc (.cells #[.bool true, .int .i64 size, .slice none 0 0] TMap)) TMapQ (.pointer (some ⟨w.heap.size, 0, none⟩))
    rw [World.size_alloc] at this
    rw [hw1]; exact this
  refine callsIn_of_wp_marks Tryz.func13 rfl f0 ?_ rfl
  simp only [Tryz.ntmps13, List.size_toArray, List.length_cons, List.length_nil, Nat.reduceAdd, Nat.reduceSub, Array.replicate_succ, Array.replicate_zero, List.push_toArray, List.append_toArray, List.nil_append, List.cons_append]
  have c1'' := c1'
  rw [hw1] at c1''
  gi_wp2_with (first | (gi_at_call 22; refine (callsIn_wide.2 (usable_at bm true _ c0)).mono ?_; rintro e w9 ⟨rfl, hw9⟩; rw [hw9]; clear hw9) | (gi_at_call 14; refine (callsIn_wide.2 (runs_any _ _ _ _)).mono ?_; rintro e w' ⟨rfl, rfl⟩))
  rw [← hw1]
  obtain ⟨W0, hW0⟩ : ∃ W0, W0 = ((w1.alloc (.cells #[.pointer (some ⟨bm, 0, none⟩)] TMapQ)).alloc (.cells #[.int .i64 0] 2)).alloc (.cells #[.int .i64 size] 2) := ⟨_, rfl⟩
  rw [← hW0]
  have hB10 : Below w1.heap.size w1 W0 := by rw [hW0]; exact (((Below.refl _ w1).alloc (Nat.le_refl _) _).alloc (by simp) _).alloc (by simp; omega) _
  have hB0 : Below w.heap.size w W0 := hB1.trans (hB10.mono hB1.size)
  have hs0 : W0.heap.size = w.heap.size + 5 := by rw [hW0]; simp [hs1]
  have bx1 : W0.cell? ⟨w.heap.size + 1 + 1, 0, none⟩ = some (.pointer (some ⟨bm, 0, none⟩)) := by
    have := Boxed.new w1 TMapQ (.pointer (some ⟨bm, 0, none⟩))
    rw [hs1] at this
    rw [hW0]; exact ((this.alloc _).alloc _).cell
  have bx2 : W0.cell? ⟨w.heap.size + 1 + 2, 0, none⟩ = some (.int .i64 0) := by
    have := Boxed.new (w1.alloc (.cells #[.pointer (some ⟨bm, 0, none⟩)] TMapQ)) 2 (.int .i64 0)
    rw [World.size_alloc, hs1] at this
    rw [hW0]; exact (this.alloc _).cell
  have bx3 : W0.cell? ⟨w.heap.size + 1 + 3, 0, none⟩ = some (.int .i64 size) := by
    have := Boxed.new ((w1.alloc (.cells #[.pointer (some ⟨bm, 0, none⟩)] TMapQ)).alloc (.cells #[.int .i64 0] 2)) 2 (.int .i64 size)
    rw [World.size_alloc, World.size_alloc, hs1] at this
    rw [hW0]; exact this.cell
  have m0 : W0.heap[w.heap.size]? = some (.cells #[.bool true, .int .i64 size, .slice none 0 0] TMap (0, 0)) := (hB10.block _ (by omega)).trans m1
  have y0 : Boxed W0 (w.heap.size + 1) TMapQ (.pointer (some ⟨w.heap.size, 0, none⟩)) := (hB10.block _ (by omega)).trans x1
  have hcut : List.map (fun r : Rn ByteArray => r) rs = cutA rs size 0 size := by
    rw [List.map_id']
    unfold cutA
    have ht := h.tiles
    have hp := h.pos
    by_cases hz : 0 < size
    · rw [if_pos (by omega), show max (0 : Int) 0 = 0 by omega, show min size size = size by omega, cut_full ht hz]
    · have e0 : size = 0 := by omega
      rw [if_neg (by omega)]
      subst e0
      exact ht.empty
  have hseq := runs1_gen 3 (by omega) (fun r : Rn ByteArray => r) (keepsRowC w.heap.size) (h.later hB0) 0 size bx1 bx2 bx3 rs hcut (fun W w1' k hb1 hb2 hk1 hk2 => ⟨size, .slice none 0 0, (hb2.block _ (by have := hb1.size; omega)).trans ((hb1.block _ (by omega)).trans m0), by simp [Value.ownBlock], hk2⟩)
  have HT : Hid (Tiles 0 size rs ∧ Alt rs ∧ size ≤ 1099511627776) := ⟨h.tiles, h.alt, h.le⟩
  clear bx1 bx2 bx3 c0 c1 c1' c1'' x1 m1 hw1 hW0 h hcut hle
  refine wpIn_rangeFunc_ownH rfl (by omega) (gf := 26) (lb := #[.pointer (some ⟨w.heap.size + 1 + 1, 0, none⟩), .pointer (some ⟨w.heap.size + 1 + 2, 0, none⟩), .pointer (some ⟨w.heap.size + 1 + 3, 0, none⟩)]) rfl f2 (enters_of Tryz.func26 (by kernel_rfl) rfl)
    hseq kpC_t (kpC_b (w := W0)) (Below.refl _ _) (fun _ => rfl)
    (fun pre W => Boxed W (w.heap.size + 1) TMapQ (.pointer (some ⟨w.heap.size, 0, none⟩)) ∧ (∃ v, W.heap[w.heap.size]? = some (.cells #[.bool true, .int .i64 size, v] TMap (0, 0)) ∧ W.ownsRow W0.heap.size TRun 3 v pre.length (rcells E pre)) ∧ Below w.heap.size w W)
    (fun _ _ _ => False)
    (fun pre X Y row hI hg hr => by
      obtain ⟨e1, ⟨v, e2, e3⟩, e4⟩ := hI
      refine ⟨boxed_own _ _ (fun _ : Unit => _) () X Y row e1 hg (fun r e => (hr r e).2), ⟨v, ?_, owns_same e3 (fun g e => ?_)⟩, ownFrom_below (β := Unit) (Nat.le_refl _) (by omega) () X Y row e4 hg hr⟩
      · refine (hg.block _ (Array.getElem?_eq_some_iff.1 e2).1 (fun e' => ?_)).trans e2
        obtain ⟨_, o, ho, hc⟩ := hr _ e'.symm
        rw [e2] at ho
        cases ho
        simp [Obj.isCells] at hc
      · obtain ⟨hgl, _, cs, hgc⟩ := row_lt e3 g e
        refine hg.block g hgl (fun e' => ?_)
        obtain ⟨_, o, ho, hc⟩ := hr g e'.symm
        rw [hgc] at ho
        cases ho
        simp [Obj.isCells] at hc)
    (fun _ _ _ _ _ hs _ _ => hs)
    ⟨y0, ⟨_, m0, World.ownsRow_nil _ _ _ _⟩, hB0⟩
    (fun x a' W => ∃ Bx, W.heap[Bx]? = some (.cells #[.int .i64 x.lo, .int .i64 x.hi, .string x.v] TRun (0, 0)) ∧ a' = { tmps := #[.pointer (some ⟨bm, 0, none⟩), undef, .pointer none, .pointer (some ⟨w.heap.size + 1, 0, none⟩), .pointer (some ⟨Bx, 0, none⟩), .pointer (some ⟨bm, 0, none⟩), .bool true, .bool false, .pointer (some ⟨bm, 0, none⟩), .pointer (some ⟨bm, 0, none⟩), .pointer (some ⟨bm, 1, none⟩), .int .i64 size, .agg #[.bool true, .int .i64 size, .slice none 0 0], .pointer (some ⟨w.heap.size, 0, none⟩), .pointer (some ⟨bm, 0, none⟩), .pointer (some ⟨bm, 0, none⟩), .pointer (some ⟨bm, 0, none⟩), .pointer (some ⟨bm, 1, none⟩), .int .i64 size, .func (.func 26) #[] #[.pointer (some ⟨w.heap.size + 1 + 1, 0, none⟩), .pointer (some ⟨w.heap.size + 1 + 2, 0, none⟩), .pointer (some ⟨w.heap.size + 1 + 3, 0, none⟩)], .agg #[.int .i64 x.lo, .int .i64 x.hi, .string x.v], undef, undef, undef, undef, undef, undef, undef, undef, undef, undef, undef], defers := [] })
    (fun x a' s X Y row hs hg hrow => by
      obtain ⟨Bx, hx, e⟩ := hs
      exact ⟨Bx, cells_ownC Bx _ _ _ () X Y row hx hg hrow, e⟩)
    ?assign ?body ?done ?stop
  case assign =>
    rintro l pre x W K ⟨y0, ⟨v, mm, yr⟩, hB⟩ hK
    gi_wp2
    have hba : Below W.heap.size W (W.alloc (.cells #[.int .i64 x.lo, .int .i64 x.hi, .string x.v] TRun)) := (Below.refl _ W).alloc (Nat.le_refl _) _
    exact hK _ _ ((KeepsOthers.alloc _ _).from _) (kpC_below _ hba) ⟨y0.alloc _, ⟨v, (hba.block _ (Array.getElem?_eq_some_iff.1 mm).1).trans mm, yr.alloc _⟩, hB.alloc hB.size _⟩ ⟨W.heap.size, heap_alloc_new W _, rfl⟩
  case body =>
    rintro l pre x a' W hl ⟨r, hr⟩ ⟨y0, ⟨v, mm, yr⟩, hbw⟩ ⟨Bx, hx, rfl⟩ hlt
    have d0 := y0.cell
    obtain ⟨to, tc, rfl⟩ := own_slice yr
    have x0 : W.cell? ⟨Bx, 0, none⟩ = some (.int .i64 x.lo) := by unfold World.cell?; simp only [hx]; rfl
    have x1 : W.cell? ⟨Bx, 1, none⟩ = some (.int .i64 x.hi) := by unfold World.cell?; simp only [hx]; rfl
    have x2 : W.cell? ⟨Bx, 2, none⟩ = some (.string x.v) := by unfold World.cell?; simp only [hx]; rfl
    have d1 : W.cell? ⟨w.heap.size, 2, none⟩ = some (.slice to pre.length tc) := by unfold World.cell?; simp only [mm]; rfl
    have hnz : W.frozen? ⟨w.heap.size, 2, none⟩ = false := by unfold World.frozen?; simp only [mm]; rfl
    gi_wp2
    obtain ⟨D1, hD1⟩ : ∃ D1, D1 = W.drew.alloc (.cells #[.int .i64 x.lo, .int .i64 x.hi, .string x.v] TRun) := ⟨_, rfl⟩
    have hbD1 : Below W.heap.size W D1 := by rw [hD1]; exact (below_drewN (Below.refl _ W) 1).alloc (Nat.le_refl _) _
    have hyr : D1.ownsRow W0.heap.size TRun 3 (.slice to pre.length tc) pre.length (rcells E pre) := owns_same yr (fun g e => hbD1.block g (row_lt yr g e).1)
    have hsD1 : D1.heap.size = W.heap.size + 1 := by rw [hD1, World.size_alloc]; rfl
    have hnw : ∀ j u, (rcell E x)[j]? = some u → D1.cell? ((⟨W.heap.size, 0, none⟩ : Addr).add j) = some u := by rw [hD1]; exact news3 W.drew W.heap.size rfl x
    have hszW : W0.heap.size ≤ W.heap.size := by
      have h2 : l < W.heap.size := (Array.getElem?_eq_some_iff.1 hr).1
      omega
    obtain ⟨g', cap', D2, hrun, hown', hgrow, hat, hlt'⟩ := run_append_lies (P := Tryz.prog) D1 50 50 W0.heap.size TRun i0 _ 3 32 Tryz.underlying50 hi0 hz0 hz1 hz2 rfl (by decide) (.slice to pre.length tc) pre.length _ hyr ⟨W.heap.size, 0, none⟩ 1 1 (rcell E x) rfl hnw (rcell_one x) (by decide) (by unfold maxLen; omega) (by omega) (by omega) _ rfl
    obtain ⟨D3, hD3⟩ : ∃ D3, D3 = D2.setCell ⟨w.heap.size, 2, none⟩ (.slice (some ⟨g', 0, none⟩) (pre.length + 1) cap') := ⟨_, rfl⟩
    have hBl : w.heap.size < W.heap.size := (Array.getElem?_eq_some_iff.1 mm).1
    have hBg : ∀ g, (Value.slice to pre.length tc).ownBlock = some g → W0.heap.size ≤ g := fun g e => (row_lt yr g e).2.1
    have hB2 : ∀ k, k < W0.heap.size → D2.heap[k]? = W.heap[k]? := fun k hk => (hgrow.block _ (by omega) (fun e => by have := hBg _ e.symm; omega)).trans (hbD1.block _ (by omega))
    have HBox : Hid (D2.cell? ⟨w.heap.size, 2, none⟩ = some (.slice to pre.length tc) ∧ D2.frozen? ⟨w.heap.size, 2, none⟩ = false) := ⟨(World.cell?_of_block (a := ⟨w.heap.size, 2, none⟩) (hB2 _ (by show w.heap.size < _; omega))).trans d1, (World.frozen?_of_block (a := ⟨w.heap.size, 2, none⟩) (hB2 _ (by show w.heap.size < _; omega))).trans hnz⟩
    have HRun : Hid ((Builtin.append_ #[50, 50] 50 #[.slice to pre.length tc, .slice (some ⟨W.heap.size, 0, none⟩) 1 1]).run Tryz.prog D1 = .ok (.slice (some ⟨g', 0, none⟩) (pre.length + 1) cap') D2) := hrun
    have HC0 : Hid (∀ l' : Array Bool, l'.getD 10 true = false → (pworld W D1 D2 D3 l').cell? ⟨w.heap.size + 1, 0, none⟩ = some (.pointer (some ⟨w.heap.size, 0, none⟩))) := fun l' h10 => by
      simp only [pworld, h10, Bool.false_eq_true, if_false]
      split
      · exact (World.cell?_of_block (a := ⟨w.heap.size + 1, 0, none⟩) (hB2 _ (by show w.heap.size + 1 < _; omega))).trans d0
      · split
        · exact cell_later hbD1 d0
        · exact d0
    have HC1 : Hid (∀ l' : Array Bool, l'.getD 7 true = false → l'.getD 10 true = false → (pworld W D1 D2 D3 l').cell? ⟨w.heap.size + 1, 0, none⟩ = some (.pointer (some ⟨w.heap.size, 0, none⟩)) ∧ (pworld W D1 D2 D3 l').cell? ⟨w.heap.size, 2, none⟩ = some (.slice to pre.length tc)) := fun l' h7 h10 => by
      simp only [pworld, h7, h10, Bool.false_eq_true, if_false]
      split
      · exact ⟨cell_later hbD1 d0, cell_later hbD1 d1⟩
      · exact ⟨d0, d1⟩
    have HD1 : Hid (D1 = (W.alloc (.cells #[.int .i64 x.lo, .int .i64 x.hi, .string x.v] TRun)).drew) := hD1
    have HD2 : Hid (D1 = W.drew.alloc (.cells #[.int .i64 x.lo, .int .i64 x.hi, .string x.v] TRun)) := hD1
    have HD3 : Hid (D3 = D2.setCell ⟨w.heap.size, 2, none⟩ (.slice (some ⟨g', 0, none⟩) (pre.length + 1) cap')) := hD3
    have HFin : Hid (KeepsFrom W0.heap.size W D3 ∧ KpC w.heap.size W D3 ∧ Boxed D3 (w.heap.size + 1) TMapQ (.pointer (some ⟨w.heap.size, 0, none⟩)) ∧ (∃ v, D3.heap[w.heap.size]? = some (.cells #[.bool true, .int .i64 size, v] TMap (0, 0)) ∧ D3.ownsRow W0.heap.size TRun 3 v (pre ++ [x]).length (rcells E (pre ++ [x]))) ∧ Below w.heap.size w D3) := by
      have hb3 : ∀ j, j < W.heap.size → j ≠ w.heap.size → (Value.slice to pre.length tc).ownBlock ≠ some j → D3.heap[j]? = W.heap[j]? := fun j h1 h2 h3 => by
        rw [hD3]
        exact (Below.heap_setCell _ _ _ _ h2).trans ((hgrow.block j (by omega) (fun e => h3 e.symm)).trans (hbD1.block j h1))
      have hs3 : W.heap.size ≤ D3.heap.size := by
        rw [hD3]
        have := hgrow.size
        simp
        omega
      have hm3 : D3.heap[w.heap.size]? = some (.cells #[.bool true, .int .i64 size, .slice (some ⟨g', 0, none⟩) (pre.length + 1) cap'] TMap (0, 0)) := by
        rw [hD3]
        exact blk_set ((hB2 _ (by omega)).trans mm) 2 _
      refine ⟨⟨hs3, fun k o hk ho hc => ?_⟩, fun k hf => ?_, ?_, ⟨.slice (some ⟨g', 0, none⟩) (pre.length + 1) cap', hm3, ?_⟩, ?_⟩
      · have hkl := (Array.getElem?_eq_some_iff.1 ho).1
        refine (hb3 k hkl (fun e => ?_) (fun e => ?_)).trans ho
        · rw [e, mm] at ho; cases ho; cases hc
        · obtain ⟨_, _, cs, h1⟩ := row_lt yr k e
          rw [h1] at ho; cases ho; cases hc
      · obtain ⟨sz, v, a, b, c⟩ := hf
        have ev : v = .slice to pre.length tc ∧ sz = size := by
          have := a.symm.trans mm
          simp at this
          exact ⟨this.2, this.1⟩
        obtain ⟨rfl, rfl⟩ := ev
        refine ⟨fun cur fr hk => (hb3 k c (fun e => ?_) b).trans hk, sz, _, hm3, ?_, by omega⟩
        · rw [e, mm] at hk; simp at hk; exact absurd hk.2.1 (by decide)
        · intro e
          simp only [Value.ownBlock, Option.some.injEq] at e
          rcases hat with h2 | h2
          · exact b (by rw [h2, e])
          · omega
      · exact (hb3 (w.heap.size + 1) (by omega) (by omega) (fun e => by have := hBg _ e; omega)).trans y0
      · have h1 : D3.ownsRow W0.heap.size TRun 3 (.slice (some ⟨g', 0, none⟩) (pre.length + 1) cap') (pre.length + 1) (rcells E pre ++ rcell E x) := owns_same hown' (fun g e => by
          rw [hD3]
          refine Below.heap_setCell _ _ _ _ (fun e2 => ?_)
          have e3 : g' = w.heap.size := by simp [Value.ownBlock] at e; rw [e]; exact e2
          rcases hat with h2 | h2
          · have := hBg _ h2; omega
          · omega)
        have e4 : rcells E (pre ++ [x]) = rcells E pre ++ rcell E x := by rw [rcells_append]; simp [rcells]
        rw [e4]
        simpa using h1
      · rw [hD3]
        refine ((hbw.trans (hbD1.mono hbw.size)).grown hgrow (by have := hbw.size; omega) (fun k e => by have := hBg k e; omega)).setCell (p := ⟨w.heap.size, 2, none⟩) (by show w.heap.size ≤ w.heap.size; omega) _
    have HX : Hid (W.cell? ⟨Bx, 0, none⟩ = some (.int .i64 x.lo) ∧ W.cell? ⟨Bx, 1, none⟩ = some (.int .i64 x.hi) ∧ W.cell? ⟨Bx, 2, none⟩ = some (.string x.v)) := ⟨x0, x1, x2⟩
    clear hbD1 hyr hsD1 hnw hrun hown' hgrow hat hlt' hBl hBg hB2 hszW y0 yr d0 d1 mm hnz hlt hbw hx hD1 hD3
    refine wpIn_region_any (by kernel_rfl) ?_
    refine wpAnyIn_by (fun l' a' w' => l'.size = 11 ∧ Cl EC l' ∧ a' = pact bm w.heap.size (w.heap.size + 1) Bx W.heap.size size x (.slice to pre.length tc) (.slice (some ⟨g', 0, none⟩) (pre.length + 1) cap') l' ∧ w' = pworld W D1 D2 D3 l') ?_ ?_ _ _ _ _ ?_ ?_
    · rintro l' a' wv ⟨hsz, hcl, rfl, rfl⟩ hre
      have hall := ready_all (by kernel_rfl) hsz hre
      rw [show pworld W D1 D2 D3 l' = D3 by simp [pworld, hall 10]]
      exact HFin.out
    · rintro l' a' wv i ⟨hsz, hcl, rfl, rfl⟩ hm
      obtain ⟨hun, o, ho0, hall⟩ := mem_ready.1 hm
      have ho := ho0
      have hi11 : i < 11 := (Array.getElem?_eq_some_iff.1 ho).1
      have hcase : i = 0 ∨ i = 1 ∨ i = 2 ∨ i = 3 ∨ i = 4 ∨ i = 5 ∨ i = 6 ∨ i = 7 ∨ i = 8 ∨ i = 9 ∨ i = 10 := by omega
      clear hi11 hm
      rcases hcase with rfl | rfl | rfl | rfl | rfl | rfl | rfl | rfl | rfl | rfl | rfl
      · simp only [List.getElem?_toArray, List.getElem?_cons_succ, List.getElem?_cons_zero, Option.some.injEq] at ho
        subst ho
        have n8 := hcl.no (a := 8) (b := 0) (by simp [EC]) hun
        have n9 := hcl.no (a := 9) (b := 8) (by simp [EC]) n8
        have n10 := hcl.no (a := 10) (b := 9) (by simp [EC]) n9
        have hc2 : Cl EC (l'.setIfInBounds 0 true) := hcl.step (by intro e he h1; simp only [EC, List.mem_cons, List.not_mem_nil, or_false] at he; rcases he with rfl | rfl | rfl | rfl | rfl | rfl | rfl | rfl | rfl | rfl <;> first | (simp at h1; done) | assumption)
        have s0 : (l'.setIfInBounds 0 true).getD 0 true = true := getD_eq
        have s1 : (l'.setIfInBounds 0 true).getD 1 true = l'.getD 1 true := getD_ne (by decide)
        have s2 : (l'.setIfInBounds 0 true).getD 2 true = l'.getD 2 true := getD_ne (by decide)
        have s3 : (l'.setIfInBounds 0 true).getD 3 true = l'.getD 3 true := getD_ne (by decide)
        have s4 : (l'.setIfInBounds 0 true).getD 4 true = l'.getD 4 true := getD_ne (by decide)
        have s5 : (l'.setIfInBounds 0 true).getD 5 true = l'.getD 5 true := getD_ne (by decide)
        have s6 : (l'.setIfInBounds 0 true).getD 6 true = l'.getD 6 true := getD_ne (by decide)
        have s7 : (l'.setIfInBounds 0 true).getD 7 true = l'.getD 7 true := getD_ne (by decide)
        have s8 : (l'.setIfInBounds 0 true).getD 8 true = l'.getD 8 true := getD_ne (by decide)
        have s9 : (l'.setIfInBounds 0 true).getD 9 true = l'.getD 9 true := getD_ne (by decide)
        have s10 : (l'.setIfInBounds 0 true).getD 10 true = l'.getD 10 true := getD_ne (by decide)
        have hww : pworld W D1 D2 D3 (l'.setIfInBounds 0 true) = pworld W D1 D2 D3 l' := by simp only [pworld, s6, s7, s10]
        have q0 := HC0.out l' n10
        obtain ⟨wv, hwv⟩ : ∃ wv, wv = pworld W D1 D2 D3 l' := ⟨_, rfl⟩
        rw [← hwv]
        rw [← hwv] at q0
        have HWV : Hid (wv = pworld W D1 D2 D3 l') := hwv
        clear hwv
        refine wpOpIn_want ho0 rfl (fun K hK => ?_)
        simp only [pact, hun, n8, n9, n10, if_true, if_false, Bool.false_eq_true]
        first | gi_big_move | gi_big_op
        refine hK _ _ ?_
        refine ⟨by rw [Array.size_setIfInBounds]; exact hsz, hc2, ?_, ?_⟩
        · simp only [pact, s0, s1, s2, s3, s4, s5, s6, s7, s8, s9, s10, hun, n8, n9, n10, if_true, if_false, Bool.false_eq_true] <;> rfl
        · exact HWV.out.trans hww.symm
      · simp only [List.getElem?_toArray, List.getElem?_cons_succ, List.getElem?_cons_zero, Option.some.injEq] at ho
        subst ho
        have n2 := hcl.no (a := 2) (b := 1) (by simp [EC]) hun
        have n3 := hcl.no (a := 3) (b := 2) (by simp [EC]) n2
        have n4 := hcl.no (a := 4) (b := 3) (by simp [EC]) n3
        have n7 := hcl.no (a := 7) (b := 4) (by simp [EC]) n4
        have n10 := hcl.no (a := 10) (b := 7) (by simp [EC]) n7
        have hc2 : Cl EC (l'.setIfInBounds 1 true) := hcl.step (by intro e he h1; simp only [EC, List.mem_cons, List.not_mem_nil, or_false] at he; rcases he with rfl | rfl | rfl | rfl | rfl | rfl | rfl | rfl | rfl | rfl <;> first | (simp at h1; done) | assumption)
        have s0 : (l'.setIfInBounds 1 true).getD 0 true = l'.getD 0 true := getD_ne (by decide)
        have s1 : (l'.setIfInBounds 1 true).getD 1 true = true := getD_eq
        have s2 : (l'.setIfInBounds 1 true).getD 2 true = l'.getD 2 true := getD_ne (by decide)
        have s3 : (l'.setIfInBounds 1 true).getD 3 true = l'.getD 3 true := getD_ne (by decide)
        have s4 : (l'.setIfInBounds 1 true).getD 4 true = l'.getD 4 true := getD_ne (by decide)
        have s5 : (l'.setIfInBounds 1 true).getD 5 true = l'.getD 5 true := getD_ne (by decide)
        have s6 : (l'.setIfInBounds 1 true).getD 6 true = l'.getD 6 true := getD_ne (by decide)
        have s7 : (l'.setIfInBounds 1 true).getD 7 true = l'.getD 7 true := getD_ne (by decide)
        have s8 : (l'.setIfInBounds 1 true).getD 8 true = l'.getD 8 true := getD_ne (by decide)
        have s9 : (l'.setIfInBounds 1 true).getD 9 true = l'.getD 9 true := getD_ne (by decide)
        have s10 : (l'.setIfInBounds 1 true).getD 10 true = l'.getD 10 true := getD_ne (by decide)
        have hww : pworld W D1 D2 D3 (l'.setIfInBounds 1 true) = pworld W D1 D2 D3 l' := by simp only [pworld, s6, s7, s10]
        obtain ⟨q0, q1⟩ := HC1.out l' n7 n10
        obtain ⟨wv, hwv⟩ : ∃ wv, wv = pworld W D1 D2 D3 l' := ⟨_, rfl⟩
        rw [← hwv]
        rw [← hwv] at q0 q1
        have HWV : Hid (wv = pworld W D1 D2 D3 l') := hwv
        clear hwv
        refine wpOpIn_want ho0 rfl (fun K hK => ?_)
        simp only [pact, hun, n2, n3, n4, n7, n10, if_true, if_false, Bool.false_eq_true]
        first | gi_big_move | gi_big_op
        refine hK _ _ ?_
        refine ⟨by rw [Array.size_setIfInBounds]; exact hsz, hc2, ?_, ?_⟩
        · simp only [pact, s0, s1, s2, s3, s4, s5, s6, s7, s8, s9, s10, hun, n2, n3, n4, n7, n10, if_true, if_false, Bool.false_eq_true] <;> rfl
        · exact HWV.out.trans hww.symm
      · simp only [List.getElem?_toArray, List.getElem?_cons_succ, List.getElem?_cons_zero, Option.some.injEq] at ho
        subst ho
        have e1 := getD_tt (hall ⟨1, .data⟩ (by simp) (by rfl))
        have hc2 : Cl EC (l'.setIfInBounds 2 true) := hcl.step (by intro e he h1; simp only [EC, List.mem_cons, List.not_mem_nil, or_false] at he; rcases he with rfl | rfl | rfl | rfl | rfl | rfl | rfl | rfl | rfl | rfl <;> first | (simp at h1; done) | assumption)
        have s0 : (l'.setIfInBounds 2 true).getD 0 true = l'.getD 0 true := getD_ne (by decide)
        have s1 : (l'.setIfInBounds 2 true).getD 1 true = l'.getD 1 true := getD_ne (by decide)
        have s2 : (l'.setIfInBounds 2 true).getD 2 true = true := getD_eq
        have s3 : (l'.setIfInBounds 2 true).getD 3 true = l'.getD 3 true := getD_ne (by decide)
        have s4 : (l'.setIfInBounds 2 true).getD 4 true = l'.getD 4 true := getD_ne (by decide)
        have s5 : (l'.setIfInBounds 2 true).getD 5 true = l'.getD 5 true := getD_ne (by decide)
        have s6 : (l'.setIfInBounds 2 true).getD 6 true = l'.getD 6 true := getD_ne (by decide)
        have s7 : (l'.setIfInBounds 2 true).getD 7 true = l'.getD 7 true := getD_ne (by decide)
        have s8 : (l'.setIfInBounds 2 true).getD 8 true = l'.getD 8 true := getD_ne (by decide)
        have s9 : (l'.setIfInBounds 2 true).getD 9 true = l'.getD 9 true := getD_ne (by decide)
        have s10 : (l'.setIfInBounds 2 true).getD 10 true = l'.getD 10 true := getD_ne (by decide)
        have hww : pworld W D1 D2 D3 (l'.setIfInBounds 2 true) = pworld W D1 D2 D3 l' := by simp only [pworld, s6, s7, s10]
        obtain ⟨wv, hwv⟩ : ∃ wv, wv = pworld W D1 D2 D3 l' := ⟨_, rfl⟩
        rw [← hwv]
        have HWV : Hid (wv = pworld W D1 D2 D3 l') := hwv
        clear hwv
        refine wpOpIn_want ho0 rfl (fun K hK => ?_)
        simp only [pact, hun, e1, if_true, if_false, Bool.false_eq_true]
        first | gi_big_move | gi_big_op
        refine hK _ _ ?_
        refine ⟨by rw [Array.size_setIfInBounds]; exact hsz, hc2, ?_, ?_⟩
        · simp only [pact, s0, s1, s2, s3, s4, s5, s6, s7, s8, s9, s10, hun, e1, if_true, if_false, Bool.false_eq_true] <;> rfl
        · exact HWV.out.trans hww.symm
      · simp only [List.getElem?_toArray, List.getElem?_cons_succ, List.getElem?_cons_zero, Option.some.injEq] at ho
        subst ho
        have e2 := getD_tt (hall ⟨2, .data⟩ (by simp) (by rfl))
        have hc2 : Cl EC (l'.setIfInBounds 3 true) := hcl.step (by intro e he h1; simp only [EC, List.mem_cons, List.not_mem_nil, or_false] at he; rcases he with rfl | rfl | rfl | rfl | rfl | rfl | rfl | rfl | rfl | rfl <;> first | (simp at h1; done) | assumption)
        have s0 : (l'.setIfInBounds 3 true).getD 0 true = l'.getD 0 true := getD_ne (by decide)
        have s1 : (l'.setIfInBounds 3 true).getD 1 true = l'.getD 1 true := getD_ne (by decide)
        have s2 : (l'.setIfInBounds 3 true).getD 2 true = l'.getD 2 true := getD_ne (by decide)
        have s3 : (l'.setIfInBounds 3 true).getD 3 true = true := getD_eq
        have s4 : (l'.setIfInBounds 3 true).getD 4 true = l'.getD 4 true := getD_ne (by decide)
        have s5 : (l'.setIfInBounds 3 true).getD 5 true = l'.getD 5 true := getD_ne (by decide)
        have s6 : (l'.setIfInBounds 3 true).getD 6 true = l'.getD 6 true := getD_ne (by decide)
        have s7 : (l'.setIfInBounds 3 true).getD 7 true = l'.getD 7 true := getD_ne (by decide)
        have s8 : (l'.setIfInBounds 3 true).getD 8 true = l'.getD 8 true := getD_ne (by decide)
        have s9 : (l'.setIfInBounds 3 true).getD 9 true = l'.getD 9 true := getD_ne (by decide)
        have s10 : (l'.setIfInBounds 3 true).getD 10 true = l'.getD 10 true := getD_ne (by decide)
        have hww : pworld W D1 D2 D3 (l'.setIfInBounds 3 true) = pworld W D1 D2 D3 l' := by simp only [pworld, s6, s7, s10]
        obtain ⟨wv, hwv⟩ : ∃ wv, wv = pworld W D1 D2 D3 l' := ⟨_, rfl⟩
        rw [← hwv]
        have HWV : Hid (wv = pworld W D1 D2 D3 l') := hwv
        clear hwv
        refine wpOpIn_want ho0 rfl (fun K hK => ?_)
        simp only [pact, hun, e2, if_true, if_false, Bool.false_eq_true]
        first | gi_big_move | gi_big_op
        refine hK _ _ ?_
        refine ⟨by rw [Array.size_setIfInBounds]; exact hsz, hc2, ?_, ?_⟩
        · simp only [pact, s0, s1, s2, s3, s4, s5, s6, s7, s8, s9, s10, hun, e2, if_true, if_false, Bool.false_eq_true] <;> rfl
        · exact HWV.out.trans hww.symm
      · simp only [List.getElem?_toArray, List.getElem?_cons_succ, List.getElem?_cons_zero, Option.some.injEq] at ho
        subst ho
        have e3 := getD_tt (hall ⟨3, .data⟩ (by simp) (by rfl))
        have n7 := hcl.no (a := 7) (b := 4) (by simp [EC]) hun
        have n10 := hcl.no (a := 10) (b := 7) (by simp [EC]) n7
        have hc2 : Cl EC (l'.setIfInBounds 4 true) := hcl.step (by intro e he h1; simp only [EC, List.mem_cons, List.not_mem_nil, or_false] at he; rcases he with rfl | rfl | rfl | rfl | rfl | rfl | rfl | rfl | rfl | rfl <;> first | (simp at h1; done) | assumption)
        have s0 : (l'.setIfInBounds 4 true).getD 0 true = l'.getD 0 true := getD_ne (by decide)
        have s1 : (l'.setIfInBounds 4 true).getD 1 true = l'.getD 1 true := getD_ne (by decide)
        have s2 : (l'.setIfInBounds 4 true).getD 2 true = l'.getD 2 true := getD_ne (by decide)
        have s3 : (l'.setIfInBounds 4 true).getD 3 true = l'.getD 3 true := getD_ne (by decide)
        have s4 : (l'.setIfInBounds 4 true).getD 4 true = true := getD_eq
        have s5 : (l'.setIfInBounds 4 true).getD 5 true = l'.getD 5 true := getD_ne (by decide)
        have s6 : (l'.setIfInBounds 4 true).getD 6 true = l'.getD 6 true := getD_ne (by decide)
        have s7 : (l'.setIfInBounds 4 true).getD 7 true = l'.getD 7 true := getD_ne (by decide)
        have s8 : (l'.setIfInBounds 4 true).getD 8 true = l'.getD 8 true := getD_ne (by decide)
        have s9 : (l'.setIfInBounds 4 true).getD 9 true = l'.getD 9 true := getD_ne (by decide)
        have s10 : (l'.setIfInBounds 4 true).getD 10 true = l'.getD 10 true := getD_ne (by decide)
        have hww : pworld W D1 D2 D3 (l'.setIfInBounds 4 true) = pworld W D1 D2 D3 l' := by simp only [pworld, s6, s7, s10]
        obtain ⟨q0, q1⟩ := HC1.out l' n7 n10
        obtain ⟨wv, hwv⟩ : ∃ wv, wv = pworld W D1 D2 D3 l' := ⟨_, rfl⟩
        rw [← hwv]
        rw [← hwv] at q0 q1
        have HWV : Hid (wv = pworld W D1 D2 D3 l') := hwv
        clear hwv
        refine wpOpIn_want ho0 rfl (fun K hK => ?_)
        simp only [pact, hun, e3, n7, n10, if_true, if_false, Bool.false_eq_true]
        first | gi_big_move | gi_big_op
        refine hK _ _ ?_
        refine ⟨by rw [Array.size_setIfInBounds]; exact hsz, hc2, ?_, ?_⟩
        · simp only [pact, s0, s1, s2, s3, s4, s5, s6, s7, s8, s9, s10, hun, e3, n7, n10, if_true, if_false, Bool.false_eq_true] <;> rfl
        · exact HWV.out.trans hww.symm
      · simp only [List.getElem?_toArray, List.getElem?_cons_succ, List.getElem?_cons_zero, Option.some.injEq] at ho
        subst ho
        have n6 := hcl.no (a := 6) (b := 5) (by simp [EC]) hun
        have n7 := hcl.no (a := 7) (b := 6) (by simp [EC]) n6
        have n10 := hcl.no (a := 10) (b := 7) (by simp [EC]) n7
        have hc2 : Cl EC (l'.setIfInBounds 5 true) := hcl.step (by intro e he h1; simp only [EC, List.mem_cons, List.not_mem_nil, or_false] at he; rcases he with rfl | rfl | rfl | rfl | rfl | rfl | rfl | rfl | rfl | rfl <;> first | (simp at h1; done) | assumption)
        have s0 : (l'.setIfInBounds 5 true).getD 0 true = l'.getD 0 true := getD_ne (by decide)
        have s1 : (l'.setIfInBounds 5 true).getD 1 true = l'.getD 1 true := getD_ne (by decide)
        have s2 : (l'.setIfInBounds 5 true).getD 2 true = l'.getD 2 true := getD_ne (by decide)
        have s3 : (l'.setIfInBounds 5 true).getD 3 true = l'.getD 3 true := getD_ne (by decide)
        have s4 : (l'.setIfInBounds 5 true).getD 4 true = l'.getD 4 true := getD_ne (by decide)
        have s5 : (l'.setIfInBounds 5 true).getD 5 true = true := getD_eq
        have s6 : (l'.setIfInBounds 5 true).getD 6 true = l'.getD 6 true := getD_ne (by decide)
        have s7 : (l'.setIfInBounds 5 true).getD 7 true = l'.getD 7 true := getD_ne (by decide)
        have s8 : (l'.setIfInBounds 5 true).getD 8 true = l'.getD 8 true := getD_ne (by decide)
        have s9 : (l'.setIfInBounds 5 true).getD 9 true = l'.getD 9 true := getD_ne (by decide)
        have s10 : (l'.setIfInBounds 5 true).getD 10 true = l'.getD 10 true := getD_ne (by decide)
        have hwv : pworld W D1 D2 D3 l' = W.drew := by simp only [pworld, hun, n6, n7, n10, if_true, if_false, Bool.false_eq_true]
        rw [hwv]
        obtain ⟨x0, x1, x2⟩ := HX.out
        refine wpOpIn_want ho0 rfl (fun K hK => ?_)
        simp only [pact, hun, n6, n7, n10, if_true, if_false, Bool.false_eq_true]
        first | gi_big_move | gi_big_op
        refine hK _ _ ?_
        refine ⟨by rw [Array.size_setIfInBounds]; exact hsz, hc2, ?_, ?_⟩
        · simp only [pact, s0, s1, s2, s3, s4, s5, s6, s7, s8, s9, s10, hun, n6, n7, n10, if_true, if_false, Bool.false_eq_true] <;> rfl
        · simp only [pworld, s0, s1, s2, s3, s4, s5, s6, s7, s8, s9, s10, hun, n6, n7, n10, if_true, if_false, Bool.false_eq_true]
      · simp only [List.getElem?_toArray, List.getElem?_cons_succ, List.getElem?_cons_zero, Option.some.injEq] at ho
        subst ho
        have e5 := getD_tt (hall ⟨5, .data⟩ (by simp) (by rfl))
        have n7 := hcl.no (a := 7) (b := 6) (by simp [EC]) hun
        have n10 := hcl.no (a := 10) (b := 7) (by simp [EC]) n7
        have hc2 : Cl EC (l'.setIfInBounds 6 true) := hcl.step (by intro e he h1; simp only [EC, List.mem_cons, List.not_mem_nil, or_false] at he; rcases he with rfl | rfl | rfl | rfl | rfl | rfl | rfl | rfl | rfl | rfl <;> first | (simp at h1; done) | assumption)
        have s0 : (l'.setIfInBounds 6 true).getD 0 true = l'.getD 0 true := getD_ne (by decide)
        have s1 : (l'.setIfInBounds 6 true).getD 1 true = l'.getD 1 true := getD_ne (by decide)
        have s2 : (l'.setIfInBounds 6 true).getD 2 true = l'.getD 2 true := getD_ne (by decide)
        have s3 : (l'.setIfInBounds 6 true).getD 3 true = l'.getD 3 true := getD_ne (by decide)
        have s4 : (l'.setIfInBounds 6 true).getD 4 true = l'.getD 4 true := getD_ne (by decide)
        have s5 : (l'.setIfInBounds 6 true).getD 5 true = l'.getD 5 true := getD_ne (by decide)
        have s6 : (l'.setIfInBounds 6 true).getD 6 true = true := getD_eq
        have s7 : (l'.setIfInBounds 6 true).getD 7 true = l'.getD 7 true := getD_ne (by decide)
        have s8 : (l'.setIfInBounds 6 true).getD 8 true = l'.getD 8 true := getD_ne (by decide)
        have s9 : (l'.setIfInBounds 6 true).getD 9 true = l'.getD 9 true := getD_ne (by decide)
        have s10 : (l'.setIfInBounds 6 true).getD 10 true = l'.getD 10 true := getD_ne (by decide)
        have hwv : pworld W D1 D2 D3 l' = W.drew := by simp only [pworld, hun, e5, n7, n10, if_true, if_false, Bool.false_eq_true]
        rw [hwv]
        refine wpOpIn_want ho0 rfl (fun K hK => ?_)
        simp only [pact, hun, e5, n7, n10, if_true, if_false, Bool.false_eq_true]
        first | gi_big_move | gi_big_op
        refine hK _ _ ?_
        refine ⟨by rw [Array.size_setIfInBounds]; exact hsz, hc2, ?_, ?_⟩
        · simp only [pact, s0, s1, s2, s3, s4, s5, s6, s7, s8, s9, s10, hun, e5, n7, n10, if_true, if_false, Bool.false_eq_true] <;> rfl
        · simp only [pworld, s0, s1, s2, s3, s4, s5, s6, s7, s8, s9, s10, hun, e5, n7, n10, if_true, if_false, Bool.false_eq_true]; first | exact HD1.out.symm | exact HD2.out.symm
      · simp only [List.getElem?_toArray, List.getElem?_cons_succ, List.getElem?_cons_zero, Option.some.injEq] at ho
        subst ho
        have e4 := getD_tt (hall ⟨4, .data⟩ (by simp) (by rfl))
        have e6 := getD_tt (hall ⟨6, .data⟩ (by simp) (by rfl))
        have n10 := hcl.no (a := 10) (b := 7) (by simp [EC]) hun
        have hc2 : Cl EC (l'.setIfInBounds 7 true) := hcl.step (by intro e he h1; simp only [EC, List.mem_cons, List.not_mem_nil, or_false] at he; rcases he with rfl | rfl | rfl | rfl | rfl | rfl | rfl | rfl | rfl | rfl <;> first | (simp at h1; done) | assumption)
        have s0 : (l'.setIfInBounds 7 true).getD 0 true = l'.getD 0 true := getD_ne (by decide)
        have s1 : (l'.setIfInBounds 7 true).getD 1 true = l'.getD 1 true := getD_ne (by decide)
        have s2 : (l'.setIfInBounds 7 true).getD 2 true = l'.getD 2 true := getD_ne (by decide)
        have s3 : (l'.setIfInBounds 7 true).getD 3 true = l'.getD 3 true := getD_ne (by decide)
        have s4 : (l'.setIfInBounds 7 true).getD 4 true = l'.getD 4 true := getD_ne (by decide)
        have s5 : (l'.setIfInBounds 7 true).getD 5 true = l'.getD 5 true := getD_ne (by decide)
        have s6 : (l'.setIfInBounds 7 true).getD 6 true = l'.getD 6 true := getD_ne (by decide)
        have s7 : (l'.setIfInBounds 7 true).getD 7 true = true := getD_eq
        have s8 : (l'.setIfInBounds 7 true).getD 8 true = l'.getD 8 true := getD_ne (by decide)
        have s9 : (l'.setIfInBounds 7 true).getD 9 true = l'.getD 9 true := getD_ne (by decide)
        have s10 : (l'.setIfInBounds 7 true).getD 10 true = l'.getD 10 true := getD_ne (by decide)
        have hwv : pworld W D1 D2 D3 l' = D1 := by simp only [pworld, hun, e4, e6, n10, if_true, if_false, Bool.false_eq_true]
        rw [hwv]
        refine wpOpIn_want ho0 rfl (fun K hK => ?_)
        simp only [pact, hun, e4, e6, n10, if_true, if_false, Bool.false_eq_true]
        refine wpIn_append (fun _ => trivial) (.tmp 25) (.tmp 27) 50 rfl rfl rfl HRun.out ?_
        refine hK _ _ ?_
        refine ⟨by rw [Array.size_setIfInBounds]; exact hsz, hc2, ?_, ?_⟩
        · simp only [pact, s0, s1, s2, s3, s4, s5, s6, s7, s8, s9, s10, hun, e4, e6, n10, if_true, if_false, Bool.false_eq_true] <;> rfl
        · simp only [pworld, s0, s1, s2, s3, s4, s5, s6, s7, s8, s9, s10, hun, e4, e6, n10, if_true, if_false, Bool.false_eq_true]
      · simp only [List.getElem?_toArray, List.getElem?_cons_succ, List.getElem?_cons_zero, Option.some.injEq] at ho
        subst ho
        have e0 := getD_tt (hall ⟨0, .data⟩ (by simp) (by rfl))
        have hc2 : Cl EC (l'.setIfInBounds 8 true) := hcl.step (by intro e he h1; simp only [EC, List.mem_cons, List.not_mem_nil, or_false] at he; rcases he with rfl | rfl | rfl | rfl | rfl | rfl | rfl | rfl | rfl | rfl <;> first | (simp at h1; done) | assumption)
        have s0 : (l'.setIfInBounds 8 true).getD 0 true = l'.getD 0 true := getD_ne (by decide)
        have s1 : (l'.setIfInBounds 8 true).getD 1 true = l'.getD 1 true := getD_ne (by decide)
        have s2 : (l'.setIfInBounds 8 true).getD 2 true = l'.getD 2 true := getD_ne (by decide)
        have s3 : (l'.setIfInBounds 8 true).getD 3 true = l'.getD 3 true := getD_ne (by decide)
        have s4 : (l'.setIfInBounds 8 true).getD 4 true = l'.getD 4 true := getD_ne (by decide)
        have s5 : (l'.setIfInBounds 8 true).getD 5 true = l'.getD 5 true := getD_ne (by decide)
        have s6 : (l'.setIfInBounds 8 true).getD 6 true = l'.getD 6 true := getD_ne (by decide)
        have s7 : (l'.setIfInBounds 8 true).getD 7 true = l'.getD 7 true := getD_ne (by decide)
        have s8 : (l'.setIfInBounds 8 true).getD 8 true = true := getD_eq
        have s9 : (l'.setIfInBounds 8 true).getD 9 true = l'.getD 9 true := getD_ne (by decide)
        have s10 : (l'.setIfInBounds 8 true).getD 10 true = l'.getD 10 true := getD_ne (by decide)
        have hww : pworld W D1 D2 D3 (l'.setIfInBounds 8 true) = pworld W D1 D2 D3 l' := by simp only [pworld, s6, s7, s10]
        obtain ⟨wv, hwv⟩ : ∃ wv, wv = pworld W D1 D2 D3 l' := ⟨_, rfl⟩
        rw [← hwv]
        have HWV : Hid (wv = pworld W D1 D2 D3 l') := hwv
        clear hwv
        refine wpOpIn_want ho0 rfl (fun K hK => ?_)
        simp only [pact, hun, e0, if_true, if_false, Bool.false_eq_true]
        first | gi_big_move | gi_big_op
        refine hK _ _ ?_
        refine ⟨by rw [Array.size_setIfInBounds]; exact hsz, hc2, ?_, ?_⟩
        · simp only [pact, s0, s1, s2, s3, s4, s5, s6, s7, s8, s9, s10, hun, e0, if_true, if_false, Bool.false_eq_true] <;> rfl
        · exact HWV.out.trans hww.symm
      · simp only [List.getElem?_toArray, List.getElem?_cons_succ, List.getElem?_cons_zero, Option.some.injEq] at ho
        subst ho
        have e8 := getD_tt (hall ⟨8, .data⟩ (by simp) (by rfl))
        have hc2 : Cl EC (l'.setIfInBounds 9 true) := hcl.step (by intro e he h1; simp only [EC, List.mem_cons, List.not_mem_nil, or_false] at he; rcases he with rfl | rfl | rfl | rfl | rfl | rfl | rfl | rfl | rfl | rfl <;> first | (simp at h1; done) | assumption)
        have s0 : (l'.setIfInBounds 9 true).getD 0 true = l'.getD 0 true := getD_ne (by decide)
        have s1 : (l'.setIfInBounds 9 true).getD 1 true = l'.getD 1 true := getD_ne (by decide)
        have s2 : (l'.setIfInBounds 9 true).getD 2 true = l'.getD 2 true := getD_ne (by decide)
        have s3 : (l'.setIfInBounds 9 true).getD 3 true = l'.getD 3 true := getD_ne (by decide)
        have s4 : (l'.setIfInBounds 9 true).getD 4 true = l'.getD 4 true := getD_ne (by decide)
        have s5 : (l'.setIfInBounds 9 true).getD 5 true = l'.getD 5 true := getD_ne (by decide)
        have s6 : (l'.setIfInBounds 9 true).getD 6 true = l'.getD 6 true := getD_ne (by decide)
        have s7 : (l'.setIfInBounds 9 true).getD 7 true = l'.getD 7 true := getD_ne (by decide)
        have s8 : (l'.setIfInBounds 9 true).getD 8 true = l'.getD 8 true := getD_ne (by decide)
        have s9 : (l'.setIfInBounds 9 true).getD 9 true = true := getD_eq
        have s10 : (l'.setIfInBounds 9 true).getD 10 true = l'.getD 10 true := getD_ne (by decide)
        have hww : pworld W D1 D2 D3 (l'.setIfInBounds 9 true) = pworld W D1 D2 D3 l' := by simp only [pworld, s6, s7, s10]
        obtain ⟨wv, hwv⟩ : ∃ wv, wv = pworld W D1 D2 D3 l' := ⟨_, rfl⟩
        rw [← hwv]
        have HWV : Hid (wv = pworld W D1 D2 D3 l') := hwv
        clear hwv
        refine wpOpIn_want ho0 rfl (fun K hK => ?_)
        simp only [pact, hun, e8, if_true, if_false, Bool.false_eq_true]
        first | gi_big_move | gi_big_op
        refine hK _ _ ?_
        refine ⟨by rw [Array.size_setIfInBounds]; exact hsz, hc2, ?_, ?_⟩
        · simp only [pact, s0, s1, s2, s3, s4, s5, s6, s7, s8, s9, s10, hun, e8, if_true, if_false, Bool.false_eq_true] <;> rfl
        · exact HWV.out.trans hww.symm
      · simp only [List.getElem?_toArray, List.getElem?_cons_succ, List.getElem?_cons_zero, Option.some.injEq] at ho
        subst ho
        have e7 := getD_tt (hall ⟨7, .data⟩ (by simp) (by rfl))
        have e9 := getD_tt (hall ⟨9, .data⟩ (by simp) (by rfl))
        have hc2 : Cl EC (l'.setIfInBounds 10 true) := hcl.step (by intro e he h1; simp only [EC, List.mem_cons, List.not_mem_nil, or_false] at he; rcases he with rfl | rfl | rfl | rfl | rfl | rfl | rfl | rfl | rfl | rfl <;> first | (simp at h1; done) | assumption)
        have s0 : (l'.setIfInBounds 10 true).getD 0 true = l'.getD 0 true := getD_ne (by decide)
        have s1 : (l'.setIfInBounds 10 true).getD 1 true = l'.getD 1 true := getD_ne (by decide)
        have s2 : (l'.setIfInBounds 10 true).getD 2 true = l'.getD 2 true := getD_ne (by decide)
        have s3 : (l'.setIfInBounds 10 true).getD 3 true = l'.getD 3 true := getD_ne (by decide)
        have s4 : (l'.setIfInBounds 10 true).getD 4 true = l'.getD 4 true := getD_ne (by decide)
        have s5 : (l'.setIfInBounds 10 true).getD 5 true = l'.getD 5 true := getD_ne (by decide)
        have s6 : (l'.setIfInBounds 10 true).getD 6 true = l'.getD 6 true := getD_ne (by decide)
        have s7 : (l'.setIfInBounds 10 true).getD 7 true = l'.getD 7 true := getD_ne (by decide)
        have s8 : (l'.setIfInBounds 10 true).getD 8 true = l'.getD 8 true := getD_ne (by decide)
        have s9 : (l'.setIfInBounds 10 true).getD 9 true = l'.getD 9 true := getD_ne (by decide)
        have s10 : (l'.setIfInBounds 10 true).getD 10 true = true := getD_eq
        have hwv : pworld W D1 D2 D3 l' = D2 := by simp only [pworld, hun, e7, e9, if_true, if_false, Bool.false_eq_true]
        rw [hwv]
        refine wpOpIn_want ho0 rfl (fun K hK => ?_)
        simp only [pact, hun, e7, e9, if_true, if_false, Bool.false_eq_true]
        obtain ⟨b2, f2⟩ := HBox.out
        first | gi_big_op | gi_big_move
        refine hK _ _ ?_
        refine ⟨by rw [Array.size_setIfInBounds]; exact hsz, hc2, ?_, ?_⟩
        · simp only [pact, s0, s1, s2, s3, s4, s5, s6, s7, s8, s9, s10, hun, e7, e9, if_true, if_false, Bool.false_eq_true] <;> rfl
        · simp only [pworld, s0, s1, s2, s3, s4, s5, s6, s7, s8, s9, s10, hun, e7, e9, if_true, if_false, Bool.false_eq_true]; exact HD3.out.symm
    · simp
    · refine ⟨rfl, ?_, ?_, ?_⟩
      · intro e he h1
        simp only [EC, List.mem_cons, List.not_mem_nil, or_false] at he
        rcases he with rfl | rfl | rfl | rfl | rfl | rfl | rfl | rfl | rfl | rfl <;> cases h1
      · rfl
      · rfl
  case done =>
    rintro D ys W hD rfl ⟨y0, ⟨v, mm, yr⟩, hB⟩ hK
    have hc := y0.cell
    gi_wp2
    refine ⟨by simp, .inl ⟨_, _, rfl, run_takeDeferred hK, ?_⟩⟩
    exact ⟨_, results_tmp rfl _ _ _, w.heap.size, v, rfl, ⟨(World.putObj_heap_other (by omega)).trans mm, ownsRow_putObj (owns_mono yr (by omega)) _ hK rfl, Nat.le_refl _, HT.out.1, HT.out.2.1, HT.out.2.2⟩, hB.trans (belowK_b (w := w) (Nat.le_refl _) W D _ _ (by omega) hK rfl rfl)⟩
  case stop =>
    rintro D c pre W _ _ h _
    exact h.elim
end Go.Proofs.YtncajaihojhkkaaGreat.S
