import Derived.Test.YtfifaaopdhcaaaaGreatDoorY23
namespace Go.Proofs.YtfifaaopdhcaaaaGreatDoor
open Go.RowKit
set_option linter.unusedVariables false
set_option linter.unusedSimpArgs false
set_option maxRecDepth 100000
def strL (l : List ByteArray) : List Nat := l.flatMap (fun q => bigTo q.size 4 4 ++ sbytes q)
theorem strL_snoc (l : List ByteArray) (x : ByteArray) : strL (l ++ [x]) = strL l ++ (bigTo x.size 4 4 ++ sbytes x) := by simp [strL]
theorem strL_len (l : List ByteArray) (h : txs l = true) : (strL l).length ≤ 4100 * l.length := by
  induction l with
  | nil => simp [strL]
  | cons x l ih =>
    simp only [txs, List.all_cons, Bool.and_eq_true] at h
    have h1 := (tx_true h.1).1
    have h2 := ih h.2
    simp only [strL, List.flatMap_cons, List.length_append, bigTo_length, sbytes_length, List.length_cons] at h2 ⊢
    omega
theorem txs_mem {l : List ByteArray} (h : txs l = true) (j : Nat) (hj : j < l.length) : tx l[j] = true := List.all_eq_true.1 h _ (List.getElem_mem hj)
theorem txs_some {l : List ByteArray} (h : txs l = true) (j : Nat) : txs (l.take j) = true := by
  rw [txs, List.all_eq_true] at h ⊢
  exact fun x hx => h x (List.mem_of_mem_take hx)
def mqL (s : ByteArray) (qs : List ByteArray) : List Nat := [] ++ (bigTo s.size 4 4 ++ sbytes s) ++ bigTo qs.length 4 4 ++ strL qs
end Go.Proofs.YtfifaaopdhcaaaaGreatDoor

namespace Go.Proofs.YtfifaaopdhcaaaaGreatDoor
open Go.RowKit
set_option linter.unusedVariables false
set_option linter.unusedSimpArgs false
set_option maxRecDepth 100000
/-- runs in memory -/
structure Runs (w : World) (ao : Option Addr) (l : List (Nat × Nat)) : Prop where
  lt : ∀ x ∈ l, x.1 < 18446744073709551616 ∧ x.2 < 18446744073709551616
  at_ : l ≠ [] → ∃ b off, ao = some ⟨b, off, none⟩ ∧ ∀ k (hk : k < l.length), w.cell? ⟨b, off + k * 2, none⟩ = some (.int .u64 ((l[k].1 : Nat) : Int)) ∧ w.cell? ⟨b, off + k * 2 + 1, none⟩ = some (.int .u64 ((l[k].2 : Nat) : Int))
theorem Runs.later {w w' : World} {ao : Option Addr} {l : List (Nat × Nat)} (h : Runs w ao l) (hb : Below w.heap.size w w') : Runs w' ao l :=
  ⟨h.lt, fun hl => by obtain ⟨b, off, e, hc⟩ := h.at_ hl; exact ⟨b, off, e, fun k hk => ⟨cell_later hb (hc k hk).1, cell_later hb (hc k hk).2⟩⟩⟩
def fit1 (wide : Bool) (x : Nat × Nat) : Bool := wide || (decide (x.1 ≤ 4294967295) && decide (x.2 ≤ 4294967295))
def fitA (wide : Bool) (l : List (Nat × Nat)) : Bool := l.all (fit1 wide)
theorem fitA_take {wide : Bool} {l : List (Nat × Nat)} {j : Nat} (h : fitA wide (l.take j) = true) (hj : j < l.length) (ht : fit1 wide l[j] = true) : fitA wide (l.take (j + 1)) = true := by
  rw [List.take_add_one, List.getElem?_eq_getElem hj]
  simp only [fitA, List.all_append, Option.toList, List.all_cons, List.all_nil, Bool.and_true, Bool.and_eq_true] at h ⊢
  exact ⟨h, ht⟩
theorem fitA_bad {wide : Bool} {l : List (Nat × Nat)} {j : Nat} (hj : j < l.length) (ht : fit1 wide l[j] = false) : fitA wide l = false := by
  rw [fitA, List.all_eq_false]
  exact ⟨l[j], List.getElem_mem hj, by rw [ht]; simp⟩
theorem fitA_mem {wide : Bool} {l : List (Nat × Nat)} (h : fitA wide l = true) (j : Nat) (hj : j < l.length) : fit1 wide l[j] = true := List.all_eq_true.1 h _ (List.getElem_mem hj)
end Go.Proofs.YtfifaaopdhcaaaaGreatDoor

namespace Go.Proofs.YtfifaaopdhcaaaaGreatDoor
open Go.RowKit
set_option linter.unusedVariables false
set_option linter.unusedSimpArgs false
set_option maxRecDepth 100000
theorem Enc.later {w W W' : World} {b0 p : Nat} {v : Value} {l : List Nat} {ob : Obj} (h : Enc w W b0 p v l ob) (k : Below W.heap.size W W') : Enc w W' b0 p v l ob :=
  ⟨h.ok.later (S := fun _ => False) (KeptIn.ofBelow k) (fun h => h) (fun _ _ h => h), h.bel.trans (k.mono h.bel.size), (k.block _ (block_lt h.box)).trans h.box, h.ne, h.nv⟩
theorem WOk.keep {w w' : World} {B p : Nat} {v : Value} {l : List Nat} (h : WOk w B p v l) (k : KeptIn (wset p v) w w') {g : Nat} {cs : Array Value} {t : TypeId} (hg : w.heap[g]? = some (.cells cs t (0, 0))) (h1 : t ≠ 176) (h2 : t ≠ 5) : w'.heap[g]? = some (.cells cs t (0, 0)) := by
  rw [k.block g (block_lt hg) ?_]
  · exact hg
  · rintro (e | e)
    · subst e; have := h.blk; rw [hg] at this; simp at this; exact h1 this.2
    · obtain ⟨cur, e1⟩ := owns_type h.own g e
      rw [hg] at e1; simp at e1; exact h2 e1.2
def runL (wide : Bool) (l : List (Nat × Nat)) : List Nat := l.flatMap (fun x => nL x.1 wide ++ nL x.2 wide)
theorem runL_snoc (wide : Bool) (l : List (Nat × Nat)) (x : Nat × Nat) : runL wide (l ++ [x]) = runL wide l ++ nL x.1 wide ++ nL x.2 wide := by simp [runL]
theorem runL_len (wide : Bool) (l : List (Nat × Nat)) : (runL wide l).length ≤ 16 * l.length := by
  induction l with
  | nil => simp [runL]
  | cons x l ih =>
    have h1 := nL_le x.1 wide
    have h2 := nL_le x.2 wide
    simp only [runL, List.flatMap_cons, List.length_append, List.length_cons] at ih ⊢
    omega
def stL (wide : Bool) (cx : Nat) (rs : List (Nat × Nat)) : List Nat := [] ++ bigTo cx 4 4 ++ (if wide = true then bigTo rs.length 4 4 else []) ++ runL wide rs
end Go.Proofs.YtfifaaopdhcaaaaGreatDoor
