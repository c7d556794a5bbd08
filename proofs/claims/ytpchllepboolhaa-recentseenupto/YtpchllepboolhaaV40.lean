import Derived.Test.YtpchllepboolhaazRWS
import Derived.Deep.QuietTactic
import Derived.BigQuiet
namespace Go.Proofs.Ytpchllepboolhaa.S
open Go.RowKit Go.Maps
attribute [local go_sem] Oper.semAt_some
set_option linter.unusedVariables false
set_option linter.unusedSimpArgs false
set_option maxRecDepth 100000

/-- the oldest key without a pin -/
def oldest : List Ent → Option ByteArray
  | [] => none
  | e :: L => if e.pins = 0 then some e.key else oldest L
theorem oldest_none {L : List Ent} (h : ∀ e ∈ L, e.pins ≠ 0) : oldest L = none := by
  induction L with
  | nil => rfl
  | cons x L ih => unfold oldest; rw [if_neg (h x (by simp))]; exact ih fun e he => h e (by simp [he])
theorem oldest_at {L : List Ent} {k : Nat} {e : Ent} (h : ∀ x ∈ L.take k, x.pins ≠ 0) (he : L[k]? = some e) (hp : e.pins = 0) : oldest L = some e.key := by
  induction L generalizing k with
  | nil => simp at he
  | cons x L ih =>
    unfold oldest
    cases k with
    | zero => simp at he; subst he; rw [if_pos hp]
    | succ k =>
      rw [if_neg (h x (by simp))]
      exact ih (k := k) (fun y hy => h y (by simp [hy])) (by simpa using he)

theorem old1_free {W : World} {bo bm g : Nat} {L : List Ent} (h : RO W bo bm g L) {e : Ent} (he : e ∈ L) (hp : e.pins = 0) {b1 b2 : Nat} {k0 : Value} {f0 : Value} (hb1 : W.heap[b1]? = some (.cells #[k0] TKey (0, 0))) (hb2 : W.heap[b2]? = some (.cells #[f0] 4 (0, 0))) :
    Calls Try.prog 79 #[.pointer (some ⟨e.blk, 0, none⟩), .pointer (some ⟨b1, 0, none⟩), .pointer (some ⟨b2, 0, none⟩)] W fun r W' => r = .returned (.bool false) ∧ W' = (W.setCell ⟨b1, 0, none⟩ (kv e.key)).setCell ⟨b2, 0, none⟩ (.bool true) := by
  have hfr := h.free he
  rw [show decide (e.pins = 0) = true from decide_eq_true hp] at hfr
  obtain ⟨o, x, hpl⟩ := h.plcBlk he
  have h0 : W.cell? ⟨e.blk, 0, none⟩ = some (kv e.key) := (cell_of hpl).trans rfl
  have c1 : W.cell? ⟨b1, 0, none⟩ = some k0 := (cell_of hb1).trans rfl
  have f1 : W.frozen? ⟨b1, 0, none⟩ = false := frozen_of hb1
  have c2 : W.cell? ⟨b2, 0, none⟩ = some f0 := (cell_of hb2).trans rfl
  have f2 : W.frozen? ⟨b2, 0, none⟩ = false := frozen_of hb2
  have hne : b1 ≠ b2 := by
    intro e'; subst e'
    rw [hb1] at hb2; simp at hb2; exact absurd hb2.2 (by decide)
  have hne' : b2 ≠ b1 := fun e => hne e.symm
  clear hp h he hpl hb1 hb2
  go_enter Try.func79, Try.ntmps79
  go_wp2_with (go_at_call 80; refine hfr.mono ?_; rintro e w9 ⟨rfl, hw9⟩; rw [hw9]; clear hw9)
  go_ret
  exact ⟨rfl, rfl⟩
theorem old1_held {W : World} {bo bm g : Nat} {L : List Ent} (h : RO W bo bm g L) {e : Ent} (he : e ∈ L) (hp : e.pins ≠ 0) {b1 b2 : Nat} (hb2 : W.heap[b2]? = some (.cells #[.bool false] 4 (0, 0))) :
    Calls Try.prog 79 #[.pointer (some ⟨e.blk, 0, none⟩), .pointer (some ⟨b1, 0, none⟩), .pointer (some ⟨b2, 0, none⟩)] W fun r W' => r = .returned (.bool true) ∧ W' = W := by
  have hfr := h.free he
  rw [show decide (e.pins = 0) = false from decide_eq_false hp] at hfr
  have c2 : W.cell? ⟨b2, 0, none⟩ = some (.bool false) := (cell_of hb2).trans rfl
  have f2 : W.frozen? ⟨b2, 0, none⟩ = false := frozen_of hb2
  clear hp h he hb2
  go_enter Try.func79, Try.ntmps79
  go_wp2_with (go_at_call 80; refine hfr.mono ?_; rintro e w9 ⟨rfl, hw9⟩; rw [hw9]; clear hw9)
  go_ret
  exact ⟨rfl, rfl⟩
theorem RO.notNew {w : World} {bo bm g : Nat} {L : List Ent} (h : RO w bo bm g L) : ∀ i ∈ fp bo bm g L, i ≠ w.heap.size ∧ i ≠ w.heap.size + 1 := fun i hi => by have := h.lt i hi; omega

set_option maxHeartbeats 2000000 in
theorem oldest_any {w : World} {bo bm g : Nat} {L : List Ent} (h : RO w bo bm g L) :
    Calls Try.prog 53 #[.pointer (some ⟨bo, 0, none⟩)] w fun r w' => r = .returned (.tuple #[kv ((oldest L).getD ByteArray.empty), .bool (oldest L).isSome]) ∧ Below w.heap.size w w' := by
  have hmf : ∀ (fn : Fn) (first cap : Array Value) (w : World), (Instr.makeFunc fn first cap).run Try.prog w = .ok (.func fn first cap) w := fun _ _ _ _ => rfl
  have HW : Hid (∀ W0, W0 = (w.alloc (.cells #[kv ByteArray.empty] TKey)).alloc (.cells #[.bool false] 4) → Calls Try.prog 78 #[.pointer (some ⟨bo, 0, none⟩), .func (.func 79) #[] #[.pointer (some ⟨w.heap.size, 0, none⟩), .pointer (some ⟨w.heap.size + 1, 0, none⟩)]] W0 fun r w' => r = .returned (.tuple #[]) ∧ w'.cell? ⟨w.heap.size, 0, none⟩ = some (kv ((oldest L).getD ByteArray.empty)) ∧ w'.cell? ⟨w.heap.size + 1, 0, none⟩ = some (.bool (oldest L).isSome) ∧ Below w.heap.size w w') := by
    rintro W0 hW0
    have hB : Below w.heap.size w W0 := by rw [hW0]; exact ((Below.refl _ w).alloc (Nat.le_refl _) _).alloc (by rw [World.size_alloc]; omega) _
    have s1 : (w.alloc (.cells #[kv ByteArray.empty] TKey)).heap.size = w.heap.size + 1 := World.size_alloc _ _
    have b1 : W0.heap[w.heap.size]? = some (.cells #[kv ByteArray.empty] TKey (0, 0)) := by rw [hW0, Below.heap_alloc _ _ _ (by omega), heap_alloc_new]
    have b2 : W0.heap[w.heap.size + 1]? = some (.cells #[.bool false] 4 (0, 0)) := by rw [hW0, ← s1, heap_alloc_new]
    clear hW0
    refine (walk_old (h.later hB) _ _ (fun pre W => W = W0 ∧ ∀ e ∈ pre, e.pins ≠ 0) (fun pre W => ∃ e k, W = (W0.setCell ⟨w.heap.size, 0, none⟩ (kv e.key)).setCell ⟨w.heap.size + 1, 0, none⟩ (.bool true) ∧ pre = L.take (k + 1) ∧ L[k]? = some e ∧ e.pins = 0 ∧ ∀ x ∈ L.take k, x.pins ≠ 0) ⟨rfl, by simp⟩ (fun pre W hJ => by rw [hJ.1]; exact h.later hB) ?_).mono ?_
    · rintro k e W he ⟨rfl, hpre⟩
      have hm := List.mem_of_getElem? he
      by_cases hp : e.pins = 0
      · refine (old1_free (h.later hB) hm hp b1 b2).mono ?_
        rintro r W' ⟨rfl, rfl⟩
        exact .inr ⟨rfl, e, k, rfl, rfl, he, hp, hpre⟩
      · refine (old1_held (h.later hB) hm hp b2).mono ?_
        rintro r W' ⟨rfl, rfl⟩
        refine .inl ⟨rfl, rfl, fun x hx => ?_⟩
        rw [List.take_add_one, he] at hx
        rcases List.mem_append.1 hx with hx | hx
        · exact hpre x hx
        · simp at hx; subst hx; exact hp
    · rintro r w' ⟨rfl, (⟨rfl, hn⟩ | ⟨k', hk', e, k, rfl, hpre, he, hp, hn⟩)⟩
      · rw [oldest_none hn]
        exact ⟨rfl, (cell_of b1).trans rfl, (cell_of b2).trans rfl, hB⟩
      · rw [oldest_at hn he hp]
        refine ⟨rfl, ?_, ?_, ?_⟩
        · have : ((W0.setCell ⟨w.heap.size, 0, none⟩ (kv e.key)).setCell ⟨w.heap.size + 1, 0, none⟩ (.bool true)).heap[w.heap.size]? = some (.cells #[kv e.key] TKey (0, 0)) := by
            rw [heap_setCell_other _ _ _ _ (by simp), heap_setCell_same _ _ _ _ _ _ b1]; rfl
          exact (cell_of this).trans rfl
        · have h2 : (W0.setCell ⟨w.heap.size, 0, none⟩ (kv e.key)).heap[w.heap.size + 1]? = some (.cells #[.bool false] 4 (0, 0)) := by
            rw [heap_setCell_other _ _ _ _ (by simp)]; exact b2
          have : ((W0.setCell ⟨w.heap.size, 0, none⟩ (kv e.key)).setCell ⟨w.heap.size + 1, 0, none⟩ (.bool true)).heap[w.heap.size + 1]? = some (.cells #[.bool true] 4 (0, 0)) := by
            rw [heap_setCell_same _ _ _ _ _ _ h2]; rfl
          exact (cell_of this).trans rfl
        · exact (hB.setCell (Nat.le_refl _) _).setCell (by simp) _
  clear h
  go_enter Try.func53, Try.ntmps53
  go_wp2_with (go_at_call 78; refine (HW.out _ rfl).mono ?_; rintro r w1 ⟨rfl, hc1, hc2, hb⟩)
  go_region
  all_goals go_wp2
  all_goals go_ret2
  all_goals exact ⟨rfl, hb.trans ⟨rfl, rfl, rfl, Nat.le_refl _, fun _ _ => rfl⟩⟩
end Go.Proofs.Ytpchllepboolhaa.S

namespace Go.Proofs.Ytpchllepboolhaa.S
open Go.RowKit Go.Maps
attribute [local go_sem] Oper.semAt_some
set_option linter.unusedVariables false
set_option linter.unusedSimpArgs false
set_option maxRecDepth 100000

abbrev kA : ByteArray := ⟨#[97]⟩
abbrev kB : ByteArray := ⟨#[98]⟩
theorem wfA : wfK kA := by decide
theorem wfB : wfK kB := by decide
theorem kAB : kA ≠ kB := by decide
theorem Act.below {w w' : World} {bo bm g : Nat} {L L' : List Ent} (h : Act w w' bo bm g L L') {B : Nat} (hB : ∀ i ∈ fp bo bm g L, B ≤ i) (hw : B ≤ w.heap.size) : Below B w w' ∧ ∀ i ∈ fp bo bm g L', B ≤ i :=
  ⟨h.kp.below hB hw, fun i hi => (h.sub i hi).elim (hB i) (fun h => by omega)⟩

set_option maxHeartbeats 4000000 in
theorem alive_any (w : World) : Calls Try.prog 12 #[] w fun e w' => e = .returned (.bool true) ∧ Below w.heap.size w w' := by
  go_enter Try.func12, Try.ntmps12
  go_wp2_with (first | (go_at_call 49; refine (new_any _).mono ?_; rintro e w0 ⟨bo, bm, g, rfl, h0, hb0, hf0⟩) | (go_at_call 50; fail))
  refine (add_new h0 wfA (by simp) (by decide)).mono ?_
  rintro e w1 ⟨rfl, p, ha1⟩
  obtain ⟨hb1, hf1⟩ := ha1.below hf0 hb0.size
  have h1 := ha1.ro
  clear ha1 h0 hf0
  go_wp2_with (go_at_call 50; fail)
  refine (add_new h1 wfB (by simp [kA, kB]) (by simp [maxLen])).mono ?_
  rintro e w2 ⟨rfl, q, ha2⟩
  obtain ⟨hb2, hf2⟩ := ha2.below hf1 (by have := hb0.size; have := hb1.size; omega)
  have h2 := ha2.ro
  simp only [List.nil_append, List.cons_append] at h2 hf2
  clear ha2 h1 hf1
  go_wp2_with (go_at_call 51; fail)
  refine (touch_any (L1 := []) (e := ⟨kA, 0, p⟩) (L2 := [⟨kB, 0, q⟩]) h2).mono ?_
  rintro e w3 ⟨rfl, ha3⟩
  obtain ⟨hb3, hf3⟩ := ha3.below hf2 (by have := hb0.size; have := hb1.size; have := hb2.size; omega)
  have h3 := ha3.ro
  simp only [List.nil_append, List.cons_append] at h3 hf3
  clear ha3 h2 hf2
  go_wp2_with (go_at_call 52; fail)
  refine (pin_any (L1 := []) (e := ⟨kB, 0, q⟩) (L2 := [⟨kA, 0, p⟩]) h3 (by simp)).mono ?_
  rintro e w4 ⟨rfl, ha4⟩
  obtain ⟨hb4, hf4⟩ := ha4.below hf3 (by have := hb0.size; have := hb1.size; have := hb2.size; have := hb3.size; omega)
  have h4 := ha4.ro
  simp only [List.nil_append] at h4 hf4
  clear ha4 h3 hf3
  have HB4 : Hid (Below w.heap.size w w4) := ((((hb0.trans (hb1.mono (Nat.le_refl _))).trans (hb2.mono (Nat.le_refl _)))).trans (hb3.mono (Nat.le_refl _))).trans (hb4.mono (Nat.le_refl _))
  clear hb0 hb1 hb2 hb3 hb4 hf4
  go_wp2_with (go_at_call 53; fail)
  refine (oldest_any h4).mono ?_
  rintro e w5 ⟨rfl, hb5⟩
  have h5 := h4.later hb5
  have HB5 : Hid (Below w.heap.size w w5) := HB4.out.trans (hb5.mono HB4.out.size)
  have HLn := len_any h5
  have HPn := pins_any h5 (e := ⟨kB, 1, q⟩) (by simp)
  have HAd := add_old h5 (e := ⟨kA, 0, p⟩) (by simp)
  simp only [oldest, List.length_cons, List.length_nil, Nat.zero_add, Nat.reduceAdd] at *
  clear h4 hb5 HB4 h5
  go_wp2_with (first | (go_at_call 54; refine HLn.mono ?_; rintro e w9 ⟨rfl, hw9⟩; rw [hw9]; clear hw9) | (go_at_call 55; refine HPn.mono ?_; rintro e w9 ⟨rfl, hw9⟩; rw [hw9]; clear hw9) | (go_at_call 50; refine HAd.mono ?_; rintro e w9 ⟨rfl, hw9⟩; rw [hw9]; clear hw9))
  go_ret
  exact ⟨rfl, HB5.out⟩
end Go.Proofs.Ytpchllepboolhaa.S
