import Derived.Test.YtpchllepboolhaaV38
namespace Go.Proofs.Ytpchllepboolhaa.S
open Go.RowKit Go.Maps
attribute [local go_sem] Oper.semAt_some
set_option linter.unusedVariables false
set_option linter.unusedSimpArgs false
set_option maxRecDepth 100000

/-- the block of the k-th place; behind the last the gap -/
def nthP (L : List Ent) (g k : Nat) : Nat := (L.map (·.blk) ++ [g]).getD k g
theorem nthP_lt {L : List Ent} {g k : Nat} {e : Ent} (h : L[k]? = some e) : nthP L g k = e.blk := by
  unfold nthP
  have hk := (List.getElem?_eq_some_iff.1 h).1
  rw [List.getD_eq_getElem?_getD, List.getElem?_append_left (by simpa using hk), List.getElem?_map, h]; rfl
theorem nthP_end (L : List Ent) (g : Nat) : nthP L g L.length = g := by
  unfold nthP
  rw [List.getD_eq_getElem?_getD, List.getElem?_append_right (by simp)]; simp
theorem RO.first {w : World} {bo bm g : Nat} {L : List Ent} (h : RO w bo bm g L) : w.cell? ⟨g, 3, none⟩ = some (.pointer (some ⟨nthP L g 0, 0, none⟩)) := by
  obtain ⟨nx, pv, rl, hg, hL⟩ := h.rg
  rw [cell_of hg]
  have := rl.first
  show some (Value.pointer (some ⟨nx g, 0, none⟩)) = _
  rw [this]
  unfold nthP
  cases L <;> rfl
theorem RO.next {w : World} {bo bm g : Nat} {L : List Ent} (h : RO w bo bm g L) {k : Nat} {e : Ent} (he : L[k]? = some e) : w.cell? ⟨e.blk, 3, none⟩ = some (.pointer (some ⟨nthP L g (k + 1), 0, none⟩)) := by
  obtain ⟨nx, pv, rl, hg, hL⟩ := h.rg
  have hk := (List.getElem?_eq_some_iff.1 he).1
  rw [cell_of (hL e (List.mem_of_getElem? he))]
  show some (Value.pointer (some ⟨nx e.blk, 0, none⟩)) = _
  have hc : (L.map (·.blk) ++ [g])[k + 1]? = some (nthP L g (k + 1)) := by
    unfold nthP
    rw [List.getD_eq_getElem?_getD, List.getElem?_eq_getElem (by simp; omega)]; rfl
  rw [rl.next (i := k) (b := e.blk) (by rw [List.getElem?_map, he]; rfl) hc]
theorem RO.notGap {w : World} {bo bm g : Nat} {L : List Ent} (h : RO w bo bm g L) {e : Ent} (he : e ∈ L) : e.blk ≠ g := by
  obtain ⟨nx, pv, rl, hg, hL⟩ := h.rg
  intro e'
  exact (List.nodup_cons.1 rl.nd).1 (by rw [← e']; exact List.mem_map.2 ⟨e, he, rfl⟩)
/-- how many places are left -/
def leftP (L : List Ent) : Value → Nat
  | .pointer (some a) => L.length - (L.map (·.blk)).idxOf a.block
  | _ => 0
theorem leftP_lt {L : List Ent} {g k : Nat} (hn : (g :: L.map (·.blk)).Nodup) (hk : k ≤ L.length) : leftP L (.pointer (some ⟨nthP L g k, 0, none⟩)) = L.length - k := by
  unfold leftP
  simp only
  have : (L.map (·.blk)).idxOf (nthP L g k) = k := by
    by_cases h : k < L.length
    · rw [nthP_lt (List.getElem?_eq_getElem h)]
      have h2 : k < (L.map (·.blk)).length := by simpa using h
      have := List.Nodup.idxOf_getElem (List.nodup_cons.1 hn).2 k h2
      simpa using this
    · have e : k = L.length := by omega
      subst e
      rw [nthP_end, List.idxOf_eq_length (List.nodup_cons.1 hn).1]; simp
  rw [this]
theorem RO.nd {w : World} {bo bm g : Nat} {L : List Ent} (h : RO w bo bm g L) : (g :: L.map (·.blk)).Nodup := by
  obtain ⟨nx, pv, rl, hg, hL⟩ := h.rg
  exact rl.nd

theorem RO.gapBlk {w : World} {bo bm g : Nat} {L : List Ent} (h : RO w bo bm g L) : ∃ o x, w.heap[g]? = some (plc ByteArray.empty 0 o x) := by
  obtain ⟨nx, pv, rl, hg, hL⟩ := h.rg
  exact ⟨_, _, hg⟩
theorem RO.plcBlk {w : World} {bo bm g : Nat} {L : List Ent} (h : RO w bo bm g L) {e : Ent} (he : e ∈ L) : ∃ o x, w.heap[e.blk]? = some (plc e.key e.pins o x) := by
  obtain ⟨nx, pv, rl, hg, hL⟩ := h.rg
  exact ⟨_, _, hL e he⟩

set_option maxHeartbeats 2000000 in
/-- the walk through the places, by what its callback keeps -/
theorem walk_old {w : World} {bo bm g : Nat} {L : List Ent} (h : RO w bo bm g L) (c1 c2 : Value) (J Jx : List Ent → World → Prop) (h0 : J [] w)
    (hJ : ∀ pre W, J pre W → RO W bo bm g L)
    (hs : ∀ k e W, L[k]? = some e → J (L.take k) W → Calls Try.prog 79 #[.pointer (some ⟨e.blk, 0, none⟩), c1, c2] W fun r W' => (r = .returned (.bool true) ∧ J (L.take (k + 1)) W') ∨ (r = .returned (.bool false) ∧ Jx (L.take (k + 1)) W')) :
    Calls Try.prog 78 #[.pointer (some ⟨bo, 0, none⟩), .func (.func 79) #[] #[c1, c2]] w fun r w' => r = .returned (.tuple #[]) ∧ (J L w' ∨ ∃ k, k < L.length ∧ Jx (L.take (k + 1)) w') := by
  have hu := usable_any h
  have hgap := h.gap
  have hfst := h.first
  have hnd := h.nd
  have HJ : Hid (∀ pre W, J pre W → RO W bo bm g L) := hJ
  have HS : Hid (∀ k e W, L[k]? = some e → J (L.take k) W → Calls Try.prog 79 #[.pointer (some ⟨e.blk, 0, none⟩), c1, c2] W fun r W' => (r = .returned (.bool true) ∧ J (L.take (k + 1)) W') ∨ (r = .returned (.bool false) ∧ Jx (L.take (k + 1)) W')) := hs
  have H0 : Hid (J [] w) := h0
  have HN : Hid ((g :: L.map (·.blk)).Nodup) := hnd
  clear h hJ hs h0 hnd
  go_enter Try.func78, Try.ntmps78
  go_wp2_with (go_at_call 81; refine hu.mono ?_; rintro e w9 ⟨rfl, hw9⟩; rw [hw9]; clear hw9)
  go_loopw [4] (fun p wr => ∃ k, k ≤ L.length ∧ p = .pointer (some ⟨nthP L g k, 0, none⟩) ∧ Hid (J (L.take k) wr)) (fun p _ => leftP L p)
  case atStart => exact ⟨0, Nat.zero_le _, rfl, H0⟩
  case round =>
    obtain ⟨k, hk, rfl, HK⟩ := hrel
    have hro := HJ.out _ _ HK.out
    have hgr := hro.gap
    have hgb := hro.gapBlk
    by_cases hlt : k < L.length
    · have he : L[k]? = some L[k] := List.getElem?_eq_getElem hlt
      have hb := nthP_lt (g := g) he
      have hng := hro.notGap (List.mem_of_getElem? he)
      have hst := (HS.out k _ wr he HK.out).mono (R' := fun r W' => (r = .returned (.bool true) ∧ J (L.take (k + 1)) W' ∧ W'.cell? ⟨L[k].blk, 3, none⟩ = some (.pointer (some ⟨nthP L g (k + 1), 0, none⟩))) ∨ (r = .returned (.bool false) ∧ Jx (L.take (k + 1)) W')) (fun r W' h => h.imp (fun h => ⟨h.1, h.2, (HJ.out _ _ h.2).next he⟩) id)
      obtain ⟨pa, pb, hpl⟩ := hro.plcBlk (List.mem_of_getElem? he)
      obtain ⟨ga, gb, hgb⟩ := hgb
      have hnq := neq_ptr wr hpl hgb hng
      rw [hb]
      generalize L[k] = e at *
      have HE : Hid (L[k]? = some e) := he
      have HM : Hid (leftP L (.pointer (some ⟨e.blk, 0, none⟩)) = L.length - k) := by rw [← hb]; exact leftP_lt HN.out hk
      clear he hro hb hpl hgb hng
      go_wp2_with (go_at_call 79; refine hst.mono ?_; rintro r w1 (⟨rfl, hj1, hnx⟩ | ⟨rfl, hjx⟩))
      · go_roundw
        case rel => exact ⟨k + 1, by omega, rfl, hj1⟩
        case measure => rw [leftP_lt HN.out (by omega : k + 1 ≤ L.length), HM.out]; omega
      · go_end0
        exact ⟨rfl, .inr ⟨k, hlt, hjx⟩⟩
    · have e : k = L.length := by omega
      subst e
      rw [nthP_end]
      have hnq := neq_ptr_same wr g
      have HE : Hid (J L wr) := by have := HK.out; rw [List.take_length] at this; exact this
      clear hro hgb
      go_wp2
      go_end0
      exact ⟨rfl, .inl HE.out⟩
end Go.Proofs.Ytpchllepboolhaa.S
