import Derived.Test.YtpchllepboolhaaPPP
namespace Go.Proofs.Ytpchllepboolhaa.P
open Go.RowKit Go.Maps
attribute [local go_sem] Oper.semAt_some
set_option linter.unusedVariables false
set_option linter.unusedSimpArgs false
set_option maxRecDepth 100000

/-- the block of the k-th place; behind the last the gap -/
def nthP (L : List Ent) (g k : Nat) : Nat := (L.map (·.blk) ++ [g]).getD k g
theorem nthP_lt {L : List Ent} {g k : Nat} {e : Ent} (h : L[k]? = some e) : nthP L g k = e.blk := by
  unfold nthP
  have hk := (List.getElem?_eq_some_iff.1 h).1
  rw [List.getD_eq_getElem?_getD, List.getElem?_append_left (by simpa using hk), List.getElem?_map, h]; rfl
theorem nthP_end (L : List Ent) (g : Nat) : nthP L g L.length = g := by
  unfold nthP
  rw [List.getD_eq_getElem?_getD, List.getElem?_append_right (by simp)]; simp
theorem RO.first {w : World} {bo bm g : Nat} {L : List Ent} (h : RO w bo bm g L) : w.cell? ⟨g, 4, none⟩ = some (.pointer (some ⟨nthP L g 0, 0, none⟩)) := by
  obtain ⟨nx, pv, rl, hg, hL⟩ := h.rg
  rw [cell_of hg]
  have := rl.first
  show some (Value.pointer (some ⟨nx g, 0, none⟩)) = _
  rw [this]
  unfold nthP
  cases L <;> rfl
theorem RO.next {w : World} {bo bm g : Nat} {L : List Ent} (h : RO w bo bm g L) {k : Nat} {e : Ent} (he : L[k]? = some e) : w.cell? ⟨e.blk, 4, none⟩ = some (.pointer (some ⟨nthP L g (k + 1), 0, none⟩)) := by
  obtain ⟨nx, pv, rl, hg, hL⟩ := h.rg
  have hk := (List.getElem?_eq_some_iff.1 he).1
  rw [cell_of (hL e (List.mem_of_getElem? he))]
  show some (Value.pointer (some ⟨nx e.blk, 0, none⟩)) = _
  have hc : (L.map (·.blk) ++ [g])[k + 1]? = some (nthP L g (k + 1)) := by
    unfold nthP
    rw [List.getD_eq_getElem?_getD, List.getElem?_eq_getElem (by simp; omega)]; rfl
  rw [rl.next (i := k) (b := e.blk) (by rw [List.getElem?_map, he]; rfl) hc]
theorem RO.notGap {w : World} {bo bm g : Nat} {L : List Ent} (h : RO w bo bm g L) {e : Ent} (he : e ∈ L) : e.blk ≠ g := by
  obtain ⟨nx, pv, rl, hg, hL⟩ := h.rg
  intro e'
  exact (List.nodup_cons.1 rl.nd).1 (by rw [← e']; exact List.mem_map.2 ⟨e, he, rfl⟩)
/-- how many places are left -/
def leftP (L : List Ent) : Value → Nat
  | .pointer (some a) => L.length - (L.map (·.blk)).idxOf a.block
  | _ => 0
theorem leftP_lt {L : List Ent} {g k : Nat} (hn : (g :: L.map (·.blk)).Nodup) (hk : k ≤ L.length) : leftP L (.pointer (some ⟨nthP L g k, 0, none⟩)) = L.length - k := by
  unfold leftP
  simp only
  have : (L.map (·.blk)).idxOf (nthP L g k) = k := by
    by_cases h : k < L.length
    · rw [nthP_lt (List.getElem?_eq_getElem h)]
      have h2 : k < (L.map (·.blk)).length := by simpa using h
      have := List.Nodup.idxOf_getElem (List.nodup_cons.1 hn).2 k h2
      simpa using this
    · have e : k = L.length := by omega
      subst e
      rw [nthP_end, List.idxOf_eq_length (List.nodup_cons.1 hn).1]; simp
  rw [this]
theorem RO.nd {w : World} {bo bm g : Nat} {L : List Ent} (h : RO w bo bm g L) : (g :: L.map (·.blk)).Nodup := by
  obtain ⟨nx, pv, rl, hg, hL⟩ := h.rg
  exact rl.nd

theorem RO.gapBlk {w : World} {bo bm g : Nat} {L : List Ent} (h : RO w bo bm g L) : ∃ o x, w.heap[g]? = some (plc pk0 0 o x) := by
  obtain ⟨nx, pv, rl, hg, hL⟩ := h.rg
  exact ⟨_, _, hg⟩
theorem RO.plcBlk {w : World} {bo bm g : Nat} {L : List Ent} (h : RO w bo bm g L) {e : Ent} (he : e ∈ L) : ∃ o x, w.heap[e.blk]? = some (plc e.key e.pins o x) := by
  obtain ⟨nx, pv, rl, hg, hL⟩ := h.rg
  exact ⟨_, _, hL e he⟩
end Go.Proofs.Ytpchllepboolhaa.P
