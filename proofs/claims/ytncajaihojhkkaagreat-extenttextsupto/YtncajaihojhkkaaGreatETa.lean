import Derived.Test.YtncajaihojhkkaaGreatXNI
import Derived.Test.YtncajaihojhkkaaGreatXG
import Derived.RangeFuncBox
import Derived.Laws.StructEq
import Derived.Laws.AppendOwnNone
import Derived.Deep.RegionHeld3
import Derived.Deep.RegionWith
import Derived.Deep.RegionLaw
import Derived.Deep.AppendLies
import Derived.Deep.DrawnRows
import Derived.Deep.MidRow
import Derived.BigFrame
import Derived.BigGuard
namespace Go.Proofs.YtncajaihojhkkaaGreat.I
open Go.RowKit Go.Sort Go.Lib Go.Shelf Go.Proofs.YtncajaihojhkkaaGreat
attribute [local go_sem] Oper.semAt_some
set_option linter.unusedVariables false
set_option linter.unusedSimpArgs false
set_option maxRecDepth 100000

abbrev Put := Int × Int × Int
abbrev may (size lo hi : Int) : Prop := 0 ≤ lo ∧ lo ≤ hi ∧ hi ≤ size
/-- a list of Sets, as it lies -/
def Puts (w : World) (ao : Option Addr) (l : List Put) : Prop := ∀ k q, l[k]? = some q → ∃ b off, ao = some ⟨b, off, none⟩ ∧ w.cell? ⟨b, off + k * 3, none⟩ = some (.int .i64 q.1) ∧ w.cell? ⟨b, off + k * 3 + 1, none⟩ = some (.int .i64 q.2.1) ∧ w.cell? ⟨b, off + k * 3 + 2, none⟩ = some (.int .i64 q.2.2)
/-- the value of a place, by the Sets themselves -/
def lastV (size first : Int) (l : List Put) (p : Int) : Int := l.foldl (fun v q => if may size q.1 q.2.1 ∧ q.1 ≤ p ∧ p < q.2.1 then q.2.2 else v) first
theorem lastV_snoc (size first : Int) (l : List Put) (q : Put) (p : Int) : lastV size first (l ++ [q]) p = if may size q.1 q.2.1 ∧ q.1 ≤ p ∧ p < q.2.1 then q.2.2 else lastV size first l p := by
  simp [lastV]
theorem Puts.later {w w' : World} {ao : Option Addr} {l : List Put} (h : Puts w ao l) (hb : Below w.heap.size w w') : Puts w' ao l := fun k q hk => by
  obtain ⟨b, off, e, h0, h1, h2⟩ := h k q hk
  exact ⟨b, off, e, cell_later hb h0, cell_later hb h1, cell_later hb h2⟩
theorem sized_yes (size : Int) (w : World) (h0 : 0 ≤ size) (h1 : size ≤ 1099511627776) : Calls Tryz.prog 6 #[.int .i64 size] w fun e w' => e = .returned (.bool true) ∧ w' = w := by
  go_enter Tryz.func6, Tryz.ntmps6
  go_wp2
  go_ret
  exact ⟨rfl, rfl⟩
theorem sized_no (size : Int) (w : World) (h : size < 0 ∨ 1099511627776 < size) : Calls Tryz.prog 6 #[.int .i64 size] w fun e w' => e = .returned (.bool false) ∧ w' = w := by
  go_enter Tryz.func6, Tryz.ntmps6
  by_cases h0 : 0 ≤ size
  · have h1 : ¬ size ≤ 1099511627776 := by omega
    clear h
    go_wp2
    go_ret
    exact ⟨rfl, rfl⟩
  · clear h
    go_wp2
    go_ret
    exact ⟨rfl, rfl⟩
abbrev TPut : TypeId := 36
abbrev TPuts : TypeId := 22
def qcell (q : Put) : List Value := [.int .i64 q.1, .int .i64 q.2.1, .int .i64 q.2.2]
def qcells (l : List Put) : List Value := l.flatMap qcell
theorem qcells_length (l : List Put) : (qcells l).length = l.length * 3 := by
  induction l with
  | nil => rfl
  | cons a t ih => simp [qcells, qcell] at ih ⊢; omega
theorem qcells_append (a b : List Put) : qcells (a ++ b) = qcells a ++ qcells b := by simp [qcells]
theorem qcells_one (l : List Put) : ∀ u ∈ qcells l, u.oneCell' = true := by
  intro u hu
  obtain ⟨r, _, hr⟩ := List.mem_flatMap.1 hu
  simp only [qcell, List.mem_cons, List.not_mem_nil, or_false] at hr
  rcases hr with rfl | rfl | rfl <;> rfl
theorem qcells_get (l : List Put) (k : Nat) (q : Put) (h : l[k]? = some q) (j : Nat) (hj : j < 3) : (qcells l)[k * 3 + j]? = (qcell q)[j]? := by
  induction l generalizing k with
  | nil => simp at h
  | cons a t ih =>
    have e : qcells (a :: t) = qcell a ++ qcells t := by simp [qcells]
    cases k with
    | zero =>
      simp at h; subst h
      rw [e, List.getElem?_append_left (by simp [qcell]; omega), Nat.zero_mul, Nat.zero_add]
    | succ k =>
      simp at h
      rw [e, List.getElem?_append_right (by simp [qcell]; omega)]
      simp only [qcell, List.length_cons, List.length_nil]
      rw [show (k + 1) * 3 + j - (0 + 1 + 1 + 1) = k * 3 + j by omega]
      exact ih k h
theorem blk_set {w : World} {b : Nat} {cs : Array Value} {T : TypeId} (h : w.heap[b]? = some (.cells cs T (0, 0))) (j : Nat) (v : Value) : (w.setCell ⟨b, j, none⟩ v).heap[b]? = some (.cells (cs.setIfInBounds j v) T (0, 0)) := by
  rw [setCell_eq_setRow w b j cs T (0, 0) v h]
  exact setRow_heap _ _ _ _ _ _ h
theorem row_lt {w : World} {B T size n : Nat} {v : Value} {xs : List Value} (h : w.ownsRow B T size v n xs) : ∀ g, v.ownBlock = some g → g < w.heap.size ∧ B ≤ g ∧ ∃ cs, w.heap[g]? = some (.cells cs T (0, 0)) := by
  intro g hg
  rcases h.2 with ⟨rfl, _⟩ | ⟨g', cap, cur, rfl, hb, hh, _⟩
  · simp [Value.ownBlock] at hg
  · simp [Value.ownBlock] at hg; subst hg
    exact ⟨(Array.getElem?_eq_some_iff.1 hh).1, hb, cur, hh⟩
theorem own_slice {w : World} {B T size n : Nat} {v : Value} {xs : List Value} (h : w.ownsRow B T size v n xs) : ∃ ao cap, v = .slice ao n cap := by
  rcases h.2 with ⟨rfl, h0⟩ | ⟨g, cap, cur, rfl, _⟩
  · exact ⟨_, _, by rw [h0]⟩
  · exact ⟨_, _, rfl⟩
abbrev TEnt : TypeId := 47
abbrev TEnts : TypeId := 39
theorem infoEnt : (Tryz.prog.info? TEnt).map (fun i => (i.zero, i.size, i.bytes)) = some (some (.agg #[.int .i64 0, .int .i64 0, .int .i64 0]), 3, 24) := by kernel_rfl
theorem newsE (W : World) (a b c : Value) : ∀ j u, [a, b, c][j]? = some u → (W.alloc (.cells #[a, b, c] TEnt)).cell? ((⟨W.heap.size, 0, none⟩ : Addr).add j) = some u := by
  intro j u hu
  rw [WideShapes.add_plain, Nat.zero_add]
  exact (World.cell?_alloc_mark W #[a, b, c] TEnt (0, 0) j).trans (by simpa using hu)
theorem rcells_snoc (pre : List (Rn Int)) (x : Rn Int) : rcells E (pre ++ [x]) = rcells E pre ++ [.int .i64 x.lo, .int .i64 x.hi, .int .i64 x.v] := by rw [rcells_append]; simp [rcells, rcell]
theorem ent_cells {w : World} {B : Nat} {ao : Option Addr} {cap : Nat} {rs : List (Rn Int)} (h : w.ownsRow B TEnt 3 (.slice ao rs.length cap) rs.length (rcells E rs)) {k : Nat} {r : Rn Int} (hk : rs[k]? = some r) :
    ∃ g, ao = some ⟨g, 0, none⟩ ∧ w.cell? ⟨g, k * 3, none⟩ = some (.int .i64 r.lo) ∧ w.cell? ⟨g, k * 3 + 1, none⟩ = some (.int .i64 r.hi) ∧ w.cell? ⟨g, k * 3 + 2, none⟩ = some (.int .i64 r.v) := by
  have hlt := (List.getElem?_eq_some_iff.1 hk).1
  rcases h.2 with ⟨_, h0⟩ | ⟨g, cp, cur, hv, _⟩
  · omega
  · simp only [Value.slice.injEq] at hv
    obtain ⟨rfl, _, _⟩ := hv
    have c0 := h.cells (g := g) rfl _ _ ((rcells_get E rs k r hk 0 (by omega)).trans rfl)
    have c1 := h.cells (g := g) rfl _ _ ((rcells_get E rs k r hk 1 (by omega)).trans rfl)
    have c2 := h.cells (g := g) rfl _ _ ((rcells_get E rs k r hk 2 (by omega)).trans rfl)
    rw [WideShapes.add_plain, Nat.zero_add] at c0 c1 c2
    exact ⟨g, rfl, c0, c1, c2⟩
/-- all but these blocks stay -/
structure KX (S : Nat → Prop) (W W' : World) : Prop where
  os : W'.os = W.os
  tape : W'.tape = W.tape
  output : W'.output = W.output
  size : W.heap.size ≤ W'.heap.size
  block : ∀ k, k < W.heap.size → ¬ S k → W'.heap[k]? = W.heap[k]?
theorem KX.refl (S : Nat → Prop) (W : World) : KX S W W := ⟨rfl, rfl, rfl, Nat.le_refl _, fun _ _ _ => rfl⟩
theorem KX.trans {S : Nat → Prop} {A B C : World} (h : KX S A B) (k : KX S B C) : KX S A C :=
  ⟨k.os.trans h.os, k.tape.trans h.tape, k.output.trans h.output, Nat.le_trans h.size k.size, fun i hi hS => (k.block i (Nat.lt_of_lt_of_le hi h.size) hS).trans (h.block i hi hS)⟩
theorem KX.of_below {S : Nat → Prop} {A B : World} (h : Below A.heap.size A B) : KX S A B := ⟨h.os, h.tape, h.output, h.size, fun k hk _ => h.block k hk⟩
theorem KX.below {S : Nat → Prop} {n : Nat} {A B C : World} (h : Below n A B) (k : KX S B C) (hn : n ≤ B.heap.size) (hS : ∀ i, S i → n ≤ i) : Below n A C :=
  ⟨k.os.trans h.os, k.tape.trans h.tape, k.output.trans h.output, Nat.le_trans h.size k.size, fun i hi => (k.block i (by omega) (fun hs => by have := hS i hs; omega)).trans (h.block i hi)⟩
theorem KX.box {S : Nat → Prop} {A B : World} (h : KX S A B) {k t : Nat} {v : Value} (hb : Boxed A k t v) (hS : ¬ S k) : Boxed B k t v := (h.block k hb.lt hS).trans hb
theorem KX.row {S : Nat → Prop} {A B : World} (h : KX S A B) {base T n s : Nat} {v : Value} {xs : List Value} (hr : A.ownsRow base T s v n xs) (hS : ∀ g, v.ownBlock = some g → ¬ S g) : B.ownsRow base T s v n xs :=
  owns_same hr (fun g e => h.block g (row_lt hr g e).1 (hS g e))
theorem kx_set (W : World) (b j : Nat) (u : Value) : KX (· = b) W (W.setCell ⟨b, j, none⟩ u) := by
  have h := grownBy_setCell' W b u
  have e : (W.setCell ⟨b, j, none⟩ u).heap.size = W.heap.size := by simp
  refine ⟨?_, ?_, ?_, by omega, fun k hk hne => Below.heap_setCell _ _ _ _ hne⟩
  all_goals first | rfl | (unfold World.setCell; split <;> rfl) | simp [World.setCell]
theorem below_drewW (w : World) (n : Nat) : Below w.heap.size w (w.drewN n) := by
  have := below_of_grow w.heap.size w n #[] (Nat.le_refl _)
  exact ⟨this.os, this.tape, this.output, Nat.le_refl _, fun _ _ => rfl⟩
end Go.Proofs.YtncajaihojhkkaaGreat.I
