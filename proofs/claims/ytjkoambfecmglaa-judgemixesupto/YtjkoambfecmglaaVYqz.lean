import Derived.Test.YtjkoambfecmglaaJB
namespace Go.Proofs.Ytjkoambfecmglaa
open Go.RowKit
set_option linter.unusedVariables false
set_option linter.unusedSimpArgs false
set_option maxRecDepth 100000
theorem Try.info4 : (Try.prog.info? 4).map (fun i => (i.zero, i.size, i.bytes)) = some (some (.bool false), 1, 1) := by kernel_rfl
theorem run_bools (w : World) {n : Nat} (hn : n ≤ 1099511627776) : (Instr.makeSlice 53 (.int .i64 (n : Int)) (.int .i64 (n : Int))).run Try.prog w = .ok (.slice (some ⟨w.heap.size, 0, none⟩) n n) (w.alloc (.cells (Array.replicate n (Value.bool false)) 4)) := by
  obtain ⟨i0, hi, hz0, hz1, hz2⟩ := info_parts Try.info4
  have h1 := run_make (P := Try.prog) w 53 4 i0 (.bool false) Try.underlying53 hi hz0 .i64 .i64 (n : Int) (n : Int) (by omega) (Int.le_refl _) (by rw [hz2]; omega) (by omega)
  rw [Int.toNat_natCast, hz1] at h1
  rw [h1]
  congr 3
  apply Array.ext_getElem?
  intro k
  rcases Nat.lt_or_ge k n with hk | hk
  · simp [madeCells, Value.cells, hk, Nat.mod_one]
  · rw [Array.getElem?_eq_none (by simp [madeCells]; omega), Array.getElem?_eq_none (by simp; omega)]
/-- what is owed changes, and nothing else of a walk -/
theorem Wm.re {W V : World} {B P m oc n nc pc dc dc' : Nat} {oa na pa wa wa' : Option Addr} {bs : List Nat} {pl : List Bool} {ow ow' : List Nat} (h : Wm W B P oa m oc na n nc bs pa pc pl wa dc ow) (hblk : V.heap[P]? = some (.cells #[.slice oa m oc, .slice na n nc, .slice pa m pc, .slice wa' ow'.length dc'] 61 (0, 0)))
    (hs : ∀ g, g < W.heap.size → g ≠ P → (∀ a, wa = some a → a.block ≠ g) → V.heap[g]? = W.heap[g]?) (hsz : W.heap.size ≤ V.heap.size) (ho : V.ownsRow B 3 1 (.slice wa' ow'.length dc') ow'.length (ow'.map iv)) (hf : ∀ a, wa' = some a → (∃ a0, wa = some a0 ∧ a0.block = a.block) ∨ W.heap.size ≤ a.block) : Wm V B P oa m oc na n nc bs pa pc pl wa' dc' ow' where
  blk := hblk
  hP := h.hP
  now := owns_same h.now fun g e => hs g (owns_in h.now e).2 (fun e2 => h.apN (by rw [e, e2])) (fun a ha e2 => (h.apW a ha).2.1 (by rw [e, e2]))
  bsn := h.bsn
  blt := h.blt
  pld := owns_same h.pld fun g e => hs g (owns_in h.pld e).2 (fun e2 => h.apP (by rw [e, e2])) (fun a ha e2 => (h.apW a ha).2.2.1 (by rw [e, e2]))
  owd := ⟨fun hl => by
    have hl' : 0 < ow'.length := by rcases ow' with _ | ⟨x, t⟩; exact absurd rfl hl; simp
    obtain ⟨g, e, _, hc, _⟩ := own_some ho hl'
    subst e
    refine ⟨g, 0, rfl, fun k hk => ?_⟩
    have hk' : k < ow'.length := by simpa using hk
    rw [Nat.zero_add, hc k hk', List.getElem?_map, List.getElem?_eq_getElem hk']
    simp [iv]⟩
  odc := by
    rcases ho.2 with ⟨h0, h1⟩ | ⟨_, _, _, hv, _, _, h1, _⟩
    · omega
    · simp at hv; omega
  apN := h.apN
  apP := h.apP
  apNP := h.apNP
  apW a e := by
    have hb : a.block < V.heap.size := by
      rcases ho.2 with ⟨h0, h1⟩ | ⟨g, _, _, hv, _, hc, _⟩
      · rw [e] at h0; simp at h0
      · rw [e] at hv
        simp at hv
        obtain ⟨rfl, _⟩ := hv
        exact (Array.getElem?_eq_some_iff.1 hc).1
    rcases hf a e with ⟨a0, h1, h2⟩ | h1
    · obtain ⟨h3, h4, h5, _⟩ := h.apW a0 h1
      rw [h2] at h3 h4 h5
      exact ⟨h3, h4, h5, hb⟩
    · refine ⟨?_, ?_, ?_, hb⟩
      · have := block_lt h.blk; omega
      · intro e2; have := (owns_in h.now e2).2; omega
      · intro e2; have := (owns_in h.pld e2).2; omega
  apO := h.apO
/-- the answered ones below i -/
def owOf (l : List Opv) (i : Nat) : List Nat := (List.range i).filter fun k => match l[k]? with
  | some p => p.ans
  | none => false
theorem owOf_succ {l : List Opv} {i : Nat} {p : Opv} (hp : l[i]? = some p) : owOf l (i + 1) = if p.ans then owOf l i ++ [i] else owOf l i := by
  unfold owOf
  rw [List.range_succ, List.filter_append]
  simp only [List.filter_cons, List.filter_nil, hp]
  split <;> simp
theorem owOf_mem {l : List Opv} {i k : Nat} : k ∈ owOf l i ↔ k < i ∧ ∃ p, l[k]? = some p ∧ p.ans = true := by
  unfold owOf
  rw [List.mem_filter, List.mem_range]
  constructor
  · rintro ⟨h1, h2⟩
    refine ⟨h1, ?_⟩
    cases h : l[k]? with
    | none => rw [h] at h2; cases h2
    | some p => rw [h] at h2; exact ⟨p, rfl, h2⟩
  · rintro ⟨h1, p, h2, h3⟩
    exact ⟨h1, by rw [h2]; exact h3⟩
theorem owOf_len (l : List Opv) (i : Nat) : (owOf l i).length ≤ i := by
  unfold owOf
  have := List.length_filter_le (fun k => match l[k]? with
    | some p => p.ans
    | none => false) (List.range i)
  simpa using this
/-- a walk that begins -/
theorem WkS.start {l : List Opv} {ow : List Nat} (hp : ow.Perm (owOf l l.length)) (hs : ow.Pairwise (fun a b : Nat => ∀ p q : Opv, l[a]? = some p → l[b]? = some q → p.to_ ≤ q.to_)) : WkS l [] (List.replicate l.length false) ow where
  len := by simp
  plk k hk := by simp [List.getElem?_replicate, hk]
  val k hk := (owOf_mem.1 (hp.mem_iff.1 hk)).2
  sorted := hs
  all k p h1 h2 _ := hp.mem_iff.2 (owOf_mem.2 ⟨(List.getElem?_eq_some_iff.1 h1).1, p, h1, h2⟩)
end Go.Proofs.Ytjkoambfecmglaa
