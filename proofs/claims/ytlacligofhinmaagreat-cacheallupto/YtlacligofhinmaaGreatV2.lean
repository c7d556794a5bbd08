import Derived.Test.YtlacligofhinmaaGreatV1
import Derived.Maps.OwnSet
import Derived.Maps.Range
import Derived.OwnWalk
import Derived.Deep.MidRow
import Derived.Deep.WholeRow
import Derived.Laws.Pointers
import Derived.Laws.Rows
import Derived.Conc.MuLone
import Derived.Defers
import Derived.RangeFuncBox
namespace Go.Proofs.YtlacligofhinmaaGreat.K
open Go.RowKit Go.Maps Go.Proofs.YtlacligofhinmaaGreat
set_option linter.unusedVariables false
set_option linter.unusedSimpArgs false
set_option maxRecDepth 100000

abbrev TDk : TypeId := 127
abbrev TPu : TypeId := 138
abbrev TPus : TypeId := 122
abbrev TBl : TypeId := 136
abbrev TMs : TypeId := 113
abbrev TMl : TypeId := 114
abbrev TFa : TypeId := 41
abbrev TFas : TypeId := 123
abbrev TIn : TypeId := 3
/-- the bytes of a sector -/
abbrev Bl := List Nat
def z512 : Bl := List.replicate 512 0
structure OkB (l : Bl) : Prop where
  len : l.length = 512
  lt : ∀ x ∈ l, x < 256
theorem okZ : OkB z512 := ⟨by simp [z512], fun x hx => by simp [z512] at hx; omega⟩
/-- a sector's bytes as a value -/
def bval (l : Bl) : Value := .agg (l.map bv).toArray
/-- a fault: kind, sector, after, times, land -/
structure Flt where
  kind : Int
  sector : Int
  after : Int
  times : Int
  land : Bool
def fcell (f : Flt) : List Value := [.int .i64 f.kind, .int .i64 f.sector, .int .i64 f.after, .int .i64 f.times, .bool f.land]
def fcells (l : List Flt) : List Value := l.flatMap fcell
abbrev Pu := Nat × Bl
def pcell (p : Pu) : List Value := .int .i64 p.1 :: p.2.map bv
def pcells (l : List Pu) : List Value := l.flatMap pcell
structure Sts where
  reads : Int
  writes : Int
  bars : Int
  failed : Int
  crashes : Int
/-- what a disk is -/
structure Dk where
  n : Nat
  safe : Nat → Bl
  q : List Pu
  fs : List Flt
  st : Sts

/-- how an element of the safe bytes' map reads -/
def cellD : Value → DataW Unit
  | .int k a => .lit (.int k a)
  | _ => .nil
def blkE : Value → Option (DataW Unit × List MemPlace)
  | .agg cs => some (.agg (cs.toList.map cellD), [])
  | _ => none
def bD (l : Bl) : DataW Unit := .agg (l.map fun (x : Nat) => .lit (.int .u8 (x : Int)))
theorem blkE_val (l : Bl) : blkE (bval l) = some (bD l, []) := by
  simp [blkE, bval, bD, List.map_map, Function.comp_def, cellD, bv]
theorem cells_inj : ∀ {cs : List Value} {l : Bl}, cs.map cellD = l.map (fun (x : Nat) => (DataW.lit (.int .u8 (x : Int)) : DataW Unit)) → cs = l.map bv
  | [], [], _ => rfl
  | [], _ :: _, h => by simp at h
  | _ :: _, [], h => by simp at h
  | c :: cs, x :: l, h => by
    simp only [List.map_cons, List.cons.injEq] at h
    have h1 : c = bv x := by
      have h2 := h.1
      unfold cellD at h2
      split at h2
      · simp at h2
        obtain ⟨rfl, rfl⟩ := h2
        rfl
      · cases h2
    rw [h1, cells_inj h.2]; rfl
theorem blkE_some {v : Value} {l : Bl} {ps : List MemPlace} (h : blkE v = some (bD l, ps)) : v = bval l := by
  unfold blkE at h
  split at h
  · rename_i cs
    simp only [Option.some.injEq, Prod.mk.injEq, bD, DataW.agg.injEq] at h
    have := cells_inj h.1
    unfold bval
    rw [← this]
  · cases h
theorem bD_inj {l l' : Bl} (h : bD l = bD l') : l = l' := by
  have h1 := blkE_val l
  rw [h] at h1
  have h2 := blkE_some h1
  have h3 : l.map bv = l'.map bv := by simpa [bval] using h2
  exact (List.map_inj_right (f := bv) (fun a b e => by simp [bv] at e; omega)).1 h3

theorem keyed : Keyed Tryz.prog TIn := int_keyed Tryz.underlying3
abbrev kl (k : Int) : Lit := .int .i64 k
/-- the safe bytes in a map: only sectors that are not all zeros are kept -/
structure SafeOk (n : Nat) (S : Nat → Bl) (D : DataW Unit) : Prop where
  at_ : ∀ s, s < n → D.atKey (kl s) (bD z512) = bD (S s)
  has_ : ∀ x, Maps.has D x = true → ∃ s : Nat, s < n ∧ x = kl s
  ok : ∀ s, s < n → OkB (S s)
/-- where the last write of a sector stands -/
def lastAt (s : Nat) (q : List Pu) (i : Nat) : Prop := (∃ l, q[i]? = some (s, l)) ∧ ∀ j p, i < j → q[j]? = some p → p.1 ≠ s
structure LastOk (n : Nat) (q : List Pu) (D : DataW Unit) : Prop where
  rng : ∀ x, Maps.has D x = true → ∃ s : Nat, s < n ∧ x = kl s
  yes : ∀ (s i : Nat), lastAt s q i → D.atKey (kl s) (.lit (.int .i64 0)) = .lit (.int .i64 i) ∧ Maps.has D (kl s) = true
  no : ∀ s : Nat, (∀ p ∈ q, p.1 ≠ s) → Maps.has D (kl s) = false

theorem ownsMap_tight {R : Value → Option (DataW Unit × List MemPlace)} {w : World} {b n : Nat} {D : DataW Unit} (h : w.ownsMap Tryz.prog TIn R b n D) : w.ownsMap Tryz.prog TIn R b (Maps.size D) D := by
  obtain ⟨es, clock, h1, h2, h3, h4⟩ := h
  refine ⟨es, clock, h1, h2, ?_, h4⟩
  rw [h4, Maps.size_eq, length_read]
  exact Nat.le_refl _
theorem nodup_lt : ∀ {n : Nat} {l : List Nat}, l.Nodup → (∀ x ∈ l, x < n) → l.length ≤ n
  | 0, l, _, h => by
    cases l with
    | nil => simp
    | cons x l => exact absurd (h x (by simp)) (by omega)
  | n + 1, l, hd, h => by
    have ih := nodup_lt (n := n) (l := l.erase n) (hd.erase n) (fun x hx => by
      have h1 := h x (List.mem_of_mem_erase hx)
      have h2 : x ≠ n := fun e => by subst e; exact absurd hx (hd.not_mem_erase)
      omega)
    have h3 : l.length ≤ (l.erase n).length + 1 := by
      rw [List.length_erase]; split <;> omega
    omega
/-- how many keys there can be -/
theorem size_le {R : Value → Option (DataW Unit × List MemPlace)} {w : World} {b c n : Nat} {D : DataW Unit} (h : w.ownsMap Tryz.prog TIn R b c D) (hr : ∀ x, Maps.has D x = true → ∃ s : Nat, s < n ∧ x = kl s) : Maps.size D ≤ n := by
  obtain ⟨es, rfl, hp, hkl⟩ := h.entries keyed
  have hk : ∀ p ∈ es, ∃ s : Nat, s < n ∧ p.1 = kl s := fun p hp' => hr p.1 (by rw [Maps.has_eq, List.any_eq_true]; exact ⟨p, hp', WideAt.sameKey_self (hkl p hp')⟩)
  have hz : ∀ p ∈ es, p.1 = kl (Int.toNat (match p.1 with | .int _ a => a | _ => 0)) ∧ Int.toNat (match p.1 with | .int _ a => a | _ => 0) < n := fun p hp' => by
    obtain ⟨s, hs, e⟩ := hk p hp'
    rw [e]; exact ⟨by simp, by simpa using hs⟩
  have h1 := nodup_lt (n := n) (l := es.map fun p => Int.toNat (match p.1 with | .int _ a => a | _ => 0)) (by
    rw [List.nodup_iff_pairwise_ne, List.pairwise_map]
    refine hp.imp_of_mem ?_
    intro a b ha hb hne e
    exact hne (by rw [(hz a ha).1, (hz b hb).1, e])) (fun x hx => by obtain ⟨p, hp', rfl⟩ := List.mem_map.1 hx; exact (hz p hp').2)
  simpa [Maps.size] using h1

/-- a disk in memory -/
structure RK (w : World) (lk : Int) (b ms ml : Nat) (qv fv : Value) (S : Dk) : Prop where
  blk : w.heap[b]? = some (.cells #[.int .i32 lk, .int .u32 0, .int .i64 S.n, .map (some ms), qv, .map (some ml), fv, .int .u64 S.st.reads, .int .u64 S.st.writes, .int .u64 S.st.bars, .int .u64 S.st.failed, .int .u64 S.st.crashes] TDk (0, 0))
  n0 : 1 ≤ S.n
  n1 : S.n ≤ 65536
  sm : ∃ D, w.ownsMap Tryz.prog TIn blkE ms (Maps.size D) D ∧ SafeOk S.n S.safe D
  lm : ∃ D, w.ownsMap Tryz.prog TIn (plainElem Tryz.prog TIn) ml (Maps.size D) D ∧ LastOk S.n S.q D
  qr : w.ownsRow 0 TPu 513 qv S.q.length (pcells S.q)
  fr : w.ownsRow 0 TFa 5 fv S.fs.length (fcells S.fs)
  ne : ms ≠ ml
  qok : ∀ p ∈ S.q, p.1 < S.n ∧ OkB p.2

def fp (b ms ml : Nat) (qv fv : Value) : List Nat := b :: ms :: ml :: (qv.ownBlock.toList ++ fv.ownBlock.toList)
/-- all is as it was but for some blocks -/
structure Kp (w w' : World) (F : List Nat) : Prop where
  os : w'.os = w.os
  tape : w'.tape = w.tape
  output : w'.output = w.output
  size : w.heap.size ≤ w'.heap.size
  block : ∀ i, i < w.heap.size → i ∉ F → w'.heap[i]? = w.heap[i]?
theorem Kp.refl (w : World) (F : List Nat) : Kp w w F := ⟨rfl, rfl, rfl, Nat.le_refl _, fun _ _ _ => rfl⟩
theorem Kp.trans {w w1 w2 : World} {F F' : List Nat} (h : Kp w w1 F) (h' : Kp w1 w2 F') (hF : ∀ i ∈ F', i ∈ F ∨ w.heap.size ≤ i) : Kp w w2 F :=
  ⟨h'.os.trans h.os, h'.tape.trans h.tape, h'.output.trans h.output, Nat.le_trans h.size h'.size, fun i hi hn => (h'.block i (Nat.lt_of_lt_of_le hi h.size) (fun hm => (hF i hm).elim hn (fun h => by omega))).trans (h.block i hi hn)⟩
theorem Kp.below {w w' : World} {F : List Nat} {B : Nat} (h : Kp w w' F) (hB : ∀ i ∈ F, B ≤ i) (hw : B ≤ w.heap.size) : Below B w w' :=
  ⟨h.os, h.tape, h.output, h.size, fun i hi => h.block i (by omega) (fun hm => by have := hB i hm; omega)⟩
theorem Kp.of_below {w w' : World} (h : Below w.heap.size w w') (F : List Nat) : Kp w w' F := ⟨h.os, h.tape, h.output, h.size, fun i hi _ => h.block i hi⟩
theorem Kp.sub {w w' : World} {F F' : List Nat} (h : Kp w w' F) (hs : ∀ i ∈ F, i ∈ F' ∨ w.heap.size ≤ i) : Kp w w' F' :=
  ⟨h.os, h.tape, h.output, h.size, fun i hi hn => h.block i hi fun hm => (hs i hm).elim hn fun h => by omega⟩
theorem Kp.grown {w w' w'' : World} {F : List Nat} {row : Option Nat} (h : Kp w w' F) (hg : w'.grownBy w'' row) (hb : ∀ k, row = some k → k ∈ F ∨ w.heap.size ≤ k) : Kp w w'' F :=
  ⟨hg.os.trans h.os, hg.tape.trans h.tape, hg.output.trans h.output, Nat.le_trans h.size hg.size, fun i hi hn => (hg.block i (Nat.lt_of_lt_of_le hi h.size) (fun e => by rcases hb i e.symm with h1 | h1; exact hn h1; omega)).trans (h.block i hi hn)⟩
theorem grown_set (w : World) (b i : Nat) (v : Value) : w.grownBy (w.setCell ⟨b, i, none⟩ v) (some b) :=
  ⟨rfl, rfl, rfl, by simp, fun k _ hn => Below.heap_setCell _ _ _ _ (fun e => hn (by rw [e]))⟩
theorem Kp.set {w w' : World} {F : List Nat} {i : Nat} (h : Kp w w' F) (hi : i ∈ F ∨ w.heap.size ≤ i) (j : Nat) (v : Value) : Kp w (w'.setCell ⟨i, j, none⟩ v) F :=
  h.grown (grown_set w' i j v) (fun k e => by cases e; exact hi)

theorem cell_of {w : World} {b j : Nat} {cs : Array Value} {T : TypeId} (h : w.heap[b]? = some (.cells cs T (0, 0))) : w.cell? ⟨b, j, none⟩ = cs[j]? := by
  unfold World.cell?; rw [h]; simp
theorem frozen_of {w : World} {b j : Nat} {cs : Array Value} {T : TypeId} (h : w.heap[b]? = some (.cells cs T (0, 0))) : w.frozen? ⟨b, j, none⟩ = false := by
  unfold World.frozen?; rw [h]; simp
theorem ownsMap_block {R : Value → Option (DataW Unit × List MemPlace)} {w w' : World} {b n : Nat} {D : DataW Unit} (h : w.ownsMap Tryz.prog TIn R b n D) (hb : w'.heap[b]? = w.heap[b]?) : w'.ownsMap Tryz.prog TIn R b n D := by
  obtain ⟨es, clock, h1, h2, h3, h4⟩ := h
  exact ⟨es, clock, hb.trans h1, h2, h3, h4⟩
theorem ownsRow_block {w w' : World} {B T size n : Nat} {v : Value} {xs : List Value} (h : w.ownsRow B T size v n xs) (hb : ∀ g, v.ownBlock = some g → w'.heap[g]? = w.heap[g]?) : w'.ownsRow B T size v n xs := by
  refine ⟨h.1, ?_⟩
  rcases h.2 with h | ⟨g, cap, cur, rfl, h1, h2, h3⟩
  · exact .inl h
  · exact .inr ⟨g, cap, cur, rfl, h1, (hb g rfl).trans h2, h3⟩
section
variable {w w' : World} {lk : Int} {b ms ml : Nat} {qv fv : Value} {S : Dk}
theorem RK.same (h : RK w lk b ms ml qv fv S) (hs : ∀ i ∈ fp b ms ml qv fv, w'.heap[i]? = w.heap[i]?) : RK w' lk b ms ml qv fv S := by
  obtain ⟨D, h1, h2⟩ := h.sm
  obtain ⟨D', h4, h5⟩ := h.lm
  exact ⟨(hs b (by simp [fp])).trans h.blk, h.n0, h.n1, ⟨D, ownsMap_block h1 (hs ms (by simp [fp])), h2⟩, ⟨D', ownsMap_block h4 (hs ml (by simp [fp])), h5⟩, ownsRow_block h.qr (fun g hg => hs g (by simp [fp, hg])), ownsRow_block h.fr (fun g hg => hs g (by simp [fp, hg])), h.ne, h.qok⟩
theorem row_lt {B T size n : Nat} {v : Value} {xs : List Value} (h : w.ownsRow B T size v n xs) : ∀ g, v.ownBlock = some g → g < w.heap.size ∧ ∃ cs, w.heap[g]? = some (.cells cs T (0, 0)) := by
  intro g hg
  rcases h.2 with ⟨rfl, _⟩ | ⟨g', cap, cur, rfl, _, h2, _⟩
  · simp [Value.ownBlock] at hg
  · simp [Value.ownBlock] at hg
    subst hg
    exact ⟨(Array.getElem?_eq_some_iff.1 h2).1, _, h2⟩
theorem RK.lt (h : RK w lk b ms ml qv fv S) : ∀ i ∈ fp b ms ml qv fv, i < w.heap.size := by
  intro i hi
  obtain ⟨D, h1, _⟩ := h.sm
  obtain ⟨D', h4, _⟩ := h.lm
  simp only [fp, List.mem_cons, List.mem_append, Option.mem_toList] at hi
  rcases hi with rfl | rfl | rfl | hi | hi
  · exact (Array.getElem?_eq_some_iff.1 h.blk).1
  · exact h1.lt
  · exact h4.lt
  · exact (row_lt h.qr i hi).1
  · exact (row_lt h.fr i hi).1
theorem RK.later (h : RK w lk b ms ml qv fv S) (hb : Below w.heap.size w w') : RK w' lk b ms ml qv fv S := h.same fun i hi => hb.block i (h.lt i hi)
theorem RK.kept {F : List Nat} (h : RK w lk b ms ml qv fv S) (hk : Kp w w' F) (hd : ∀ i ∈ fp b ms ml qv fv, i ∉ F) : RK w' lk b ms ml qv fv S := h.same fun i hi => hk.block i (h.lt i hi) (hd i hi)
/-- the disk's own block is none of the others -/
theorem RK.apart (h : RK w lk b ms ml qv fv S) : b ≠ ms ∧ b ≠ ml ∧ qv.ownBlock ≠ some b ∧ fv.ownBlock ≠ some b ∧ qv.ownBlock ≠ some ms ∧ qv.ownBlock ≠ some ml ∧ fv.ownBlock ≠ some ms ∧ fv.ownBlock ≠ some ml ∧ ∀ g, qv.ownBlock = some g → fv.ownBlock ≠ some g := by
  obtain ⟨D, ⟨es, ck, hm, _⟩, _⟩ := h.sm
  obtain ⟨D', ⟨es', ck', hm', _⟩, _⟩ := h.lm
  have hb := h.blk
  have hq := row_lt h.qr
  have hf := row_lt h.fr
  refine ⟨?_, ?_, ?_, ?_, ?_, ?_, ?_, ?_, ?_⟩
  · rintro rfl; rw [hb] at hm; cases hm
  · rintro rfl; rw [hb] at hm'; cases hm'
  · intro e; obtain ⟨_, cs, h1⟩ := hq _ e; rw [hb] at h1; simp at h1; exact absurd h1.2 (by decide)
  · intro e; obtain ⟨_, cs, h1⟩ := hf _ e; rw [hb] at h1; simp at h1; exact absurd h1.2 (by decide)
  · intro e; obtain ⟨_, cs, h1⟩ := hq _ e; rw [hm] at h1; cases h1
  · intro e; obtain ⟨_, cs, h1⟩ := hq _ e; rw [hm'] at h1; cases h1
  · intro e; obtain ⟨_, cs, h1⟩ := hf _ e; rw [hm] at h1; cases h1
  · intro e; obtain ⟨_, cs, h1⟩ := hf _ e; rw [hm'] at h1; cases h1
  · intro g e e'
    obtain ⟨_, cs, h1⟩ := hq _ e
    obtain ⟨_, cs', h2⟩ := hf _ e'
    rw [h1] at h2
    simp at h2
    exact absurd h2.2 (by decide)
end
/-- what a call on the disk leaves -/
structure DAct (w w' : World) (lk : Int) (b ms ml ms' ml' : Nat) (qv fv qv' fv' : Value) (S' : Dk) : Prop where
  rk : RK w' lk b ms' ml' qv' fv' S'
  kp : Kp w w' (fp b ms ml qv fv)
  sub : ∀ i ∈ fp b ms' ml' qv' fv', i ∈ fp b ms ml qv fv ∨ w.heap.size ≤ i
end Go.Proofs.YtlacligofhinmaaGreat.K
