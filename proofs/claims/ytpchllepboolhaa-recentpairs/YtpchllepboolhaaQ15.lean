import Derived.Test.YtpchllepboolhaaQ13
namespace Go.Proofs.Ytpchllepboolhaa.I
open Go.RowKit Go.Maps
attribute [local go_sem] Oper.semAt_some
set_option linter.unusedVariables false
set_option linter.unusedSimpArgs false
set_option maxRecDepth 100000

set_option maxHeartbeats 1000000 in
theorem new_any (w : World) : Calls Try.prog 9 #[] w fun r w' => ∃ bo bm g, r = .returned (.pointer (some ⟨bo, 0, none⟩)) ∧ RO w' bo bm g [] ∧ Below w.heap.size w w' ∧ ∀ i ∈ fp bo bm g [], w.heap.size ≤ i := by
  have hmk := fun (w : World) => run_makeMap (P := Try.prog) TMp w
  go_enter Try.func9, Try.ntmps9
  go_wp2
  go_ret
  have H : Hid (∀ (c : Obj) (d : Obj), (((w.alloc c).alloc (.map #[] 0)).alloc d).heap[w.heap.size]? = some c ∧ (((w.alloc c).alloc (.map #[] 0)).alloc d).heap[w.heap.size + 1]? = some (.map #[] 0) ∧ (((w.alloc c).alloc (.map #[] 0)).alloc d).heap[w.heap.size + 1 + 1]? = some d ∧ Below w.heap.size w (((w.alloc c).alloc (.map #[] 0)).alloc d)) := by
    intro c d
    have s1 : (w.alloc c).heap.size = w.heap.size + 1 := World.size_alloc _ _
    have s2 : ((w.alloc c).alloc (.map #[] 0)).heap.size = w.heap.size + 1 + 1 := by rw [World.size_alloc, s1]
    refine ⟨?_, ?_, ?_, ?_⟩
    · rw [Below.heap_alloc _ _ _ (by omega), Below.heap_alloc _ _ _ (by omega), heap_alloc_new]
    · rw [Below.heap_alloc _ _ _ (by omega), ← s1, heap_alloc_new]
    · rw [← s2, heap_alloc_new]
    · exact (((Below.refl _ w).alloc (Nat.le_refl _) _).alloc (by omega) _).alloc (by omega) _
  refine ⟨w.heap.size + 1 + 1, w.heap.size + 1, w.heap.size, rfl, ⟨?_, ⟨fun _ => w.heap.size, fun _ => w.heap.size, RingL.nil _ _ _ rfl rfl, ?_, by simp⟩, ⟨0, .map [], ?_, ?_⟩, by simp, by simp, by simp⟩, (H.out _ _).2.2.2, ?_⟩
  · exact (H.out _ _).2.2.1
  · exact (H.out _ _).1
  · exact ⟨#[], 0, (H.out _ _).2.1, ⟨by simp, ⟨by simp, by simp, by simp⟩, by simp⟩, Nat.le_refl _, rfl⟩
  · exact ⟨by simp, by simp, fun k _ => rfl, rfl⟩
  · intro i hi
    simp only [fp, List.map_nil, List.mem_cons, List.not_mem_nil, or_false] at hi
    omega
end Go.Proofs.Ytpchllepboolhaa.I

namespace Go.Proofs.Ytpchllepboolhaa.I
open Go.RowKit Go.Maps
set_option linter.unusedSimpArgs false
set_option maxRecDepth 100000
theorem sizePl (w : World) : (sizeOf TPl).run Try.prog w = .ok 4 w := by kernel_rfl
theorem undPt : Try.prog.underlying TPt = some (.pointer TPl) := Try.underlying64
theorem shape_of {w : World} {a : Nat} {cs : Array Value} {T : TypeId} (h : w.heap[a]? = some (.cells cs T (0, 0))) : w.shape? a = some (T, cs.size) := by
  unfold World.shape?; rw [h]
theorem noView_cells (w : World) {a : Nat} {cs : Array Value} {T : TypeId} (h : w.heap[a]? = some (.cells cs T (0, 0))) : (noView ⟨a, 0, none⟩).run Try.prog w = .ok () w := by
  simp [noView, viewAt, shape_of h, go_sem]
theorem mayBeOne_cells (w : World) {a b : Nat} {cs cs' : Array Value} {T T' : TypeId} (h : w.heap[a]? = some (.cells cs T (0, 0))) (h' : w.heap[b]? = some (.cells cs' T' (0, 0))) : (mayBeOne ⟨a, 0, none⟩ ⟨b, 0, none⟩).run Try.prog w = .ok false w := by
  have f1 : ∀ n, w.frozen? ⟨a, n, none⟩ = false := fun n => frozen_of h
  have f2 : ∀ n, w.frozen? ⟨b, n, none⟩ = false := fun n => frozen_of h'
  simp [mayBeOne, stringish, shape_of h, shape_of h', f1, f2, go_sem]
theorem sameAddr_cells (w : World) {a b : Nat} {cs cs' : Array Value} {T T' : TypeId} (h : w.heap[a]? = some (.cells cs T (0, 0))) (h' : w.heap[b]? = some (.cells cs' T' (0, 0))) (hab : a ≠ b) : (sameAddr ⟨a, 0, none⟩ ⟨b, 0, none⟩).run Try.prog w = .ok false w := by
  have f1 : ∀ n, w.frozen? ⟨a, n, none⟩ = false := fun n => frozen_of h
  simp [sameAddr, hab, f1, noView_cells w h, noView_cells w h', mayBeOne_cells w h h', go_sem]
theorem eqIn_ptr (w : World) (d : Nat) {a b : Nat} {cs cs' : Array Value} {T T' : TypeId} (h : w.heap[a]? = some (.cells cs T (0, 0))) (h' : w.heap[b]? = some (.cells cs' T' (0, 0))) (hab : a ≠ b) : (Op.equalIn (d + 1) TPt (.pointer (some ⟨a, 0, none⟩)) (.pointer (some ⟨b, 0, none⟩))).run Try.prog w = .ok false w := by
  simp [Op.equalIn, run_underlying undPt, sizePl, sameAddr_cells w h h' hab]
theorem eqIn_ptr_same (w : World) (d : Nat) (a : Nat) : (Op.equalIn (d + 1) TPt (.pointer (some ⟨a, 0, none⟩)) (.pointer (some ⟨a, 0, none⟩))).run Try.prog w = .ok true w := by
  simp [Op.equalIn, run_underlying undPt, sizePl, sameAddr]
theorem eq_ptr (w : World) {a b : Nat} {cs cs' : Array Value} {T T' : TypeId} (h : w.heap[a]? = some (.cells cs T (0, 0))) (h' : w.heap[b]? = some (.cells cs' T' (0, 0))) (hab : a ≠ b) : (Op.equal TPt (.pointer (some ⟨a, 0, none⟩)) (.pointer (some ⟨b, 0, none⟩))).run Try.prog w = .ok false w := eqIn_ptr w 9999 h h' hab
theorem eq_ptr_same (w : World) (a : Nat) : (Op.equal TPt (.pointer (some ⟨a, 0, none⟩)) (.pointer (some ⟨a, 0, none⟩))).run Try.prog w = .ok true w := eqIn_ptr_same w 9999 a
theorem neq_ptr (w : World) {a b : Nat} {cs cs' : Array Value} {T T' : TypeId} (h : w.heap[a]? = some (.cells cs T (0, 0))) (h' : w.heap[b]? = some (.cells cs' T' (0, 0))) (hab : a ≠ b) : (binOp .neq TPt (.pointer (some ⟨a, 0, none⟩)) (.pointer (some ⟨b, 0, none⟩))).run Try.prog w = .ok (.bool true) w := by
  simp only [binOp]
  simp [eq_ptr w h h' hab]
theorem neq_ptr_same (w : World) (a : Nat) : (binOp .neq TPt (.pointer (some ⟨a, 0, none⟩)) (.pointer (some ⟨a, 0, none⟩))).run Try.prog w = .ok (.bool false) w := by
  simp only [binOp]
  simp [eq_ptr_same w a]
end Go.Proofs.Ytpchllepboolhaa.I

namespace Go.Proofs.Ytpchllepboolhaa.I
open Go.RowKit Go.Maps
attribute [local go_sem] Oper.semAt_some
set_option linter.unusedVariables false
set_option linter.unusedSimpArgs false
set_option maxRecDepth 100000

/-- the block of the k-th place; behind the last the gap -/
def nthP (L : List Ent) (g k : Nat) : Nat := (L.map (·.blk) ++ [g]).getD k g
theorem nthP_lt {L : List Ent} {g k : Nat} {e : Ent} (h : L[k]? = some e) : nthP L g k = e.blk := by
  unfold nthP
  have hk := (List.getElem?_eq_some_iff.1 h).1
  rw [List.getD_eq_getElem?_getD, List.getElem?_append_left (by simpa using hk), List.getElem?_map, h]; rfl
theorem nthP_end (L : List Ent) (g : Nat) : nthP L g L.length = g := by
  unfold nthP
  rw [List.getD_eq_getElem?_getD, List.getElem?_append_right (by simp)]; simp
theorem RO.first {w : World} {bo bm g : Nat} {L : List Ent} (h : RO w bo bm g L) : w.cell? ⟨g, 3, none⟩ = some (.pointer (some ⟨nthP L g 0, 0, none⟩)) := by
  obtain ⟨nx, pv, rl, hg, hL⟩ := h.rg
  rw [cell_of hg]
  have := rl.first
  show some (Value.pointer (some ⟨nx g, 0, none⟩)) = _
  rw [this]
  unfold nthP
  cases L <;> rfl
theorem RO.next {w : World} {bo bm g : Nat} {L : List Ent} (h : RO w bo bm g L) {k : Nat} {e : Ent} (he : L[k]? = some e) : w.cell? ⟨e.blk, 3, none⟩ = some (.pointer (some ⟨nthP L g (k + 1), 0, none⟩)) := by
  obtain ⟨nx, pv, rl, hg, hL⟩ := h.rg
  have hk := (List.getElem?_eq_some_iff.1 he).1
  rw [cell_of (hL e (List.mem_of_getElem? he))]
  show some (Value.pointer (some ⟨nx e.blk, 0, none⟩)) = _
  have hc : (L.map (·.blk) ++ [g])[k + 1]? = some (nthP L g (k + 1)) := by
    unfold nthP
    rw [List.getD_eq_getElem?_getD, List.getElem?_eq_getElem (by simp; omega)]; rfl
  rw [rl.next (i := k) (b := e.blk) (by rw [List.getElem?_map, he]; rfl) hc]
theorem RO.notGap {w : World} {bo bm g : Nat} {L : List Ent} (h : RO w bo bm g L) {e : Ent} (he : e ∈ L) : e.blk ≠ g := by
  obtain ⟨nx, pv, rl, hg, hL⟩ := h.rg
  intro e'
  exact (List.nodup_cons.1 rl.nd).1 (by rw [← e']; exact List.mem_map.2 ⟨e, he, rfl⟩)
/-- how many places are left -/
def leftP (L : List Ent) : Value → Nat
  | .pointer (some a) => L.length - (L.map (·.blk)).idxOf a.block
  | _ => 0
theorem leftP_lt {L : List Ent} {g k : Nat} (hn : (g :: L.map (·.blk)).Nodup) (hk : k ≤ L.length) : leftP L (.pointer (some ⟨nthP L g k, 0, none⟩)) = L.length - k := by
  unfold leftP
  simp only
  have : (L.map (·.blk)).idxOf (nthP L g k) = k := by
    by_cases h : k < L.length
    · rw [nthP_lt (List.getElem?_eq_getElem h)]
      have h2 : k < (L.map (·.blk)).length := by simpa using h
      have := List.Nodup.idxOf_getElem (List.nodup_cons.1 hn).2 k h2
      simpa using this
    · have e : k = L.length := by omega
      subst e
      rw [nthP_end, List.idxOf_eq_length (List.nodup_cons.1 hn).1]; simp
  rw [this]
theorem RO.nd {w : World} {bo bm g : Nat} {L : List Ent} (h : RO w bo bm g L) : (g :: L.map (·.blk)).Nodup := by
  obtain ⟨nx, pv, rl, hg, hL⟩ := h.rg
  exact rl.nd

theorem RO.gapBlk {w : World} {bo bm g : Nat} {L : List Ent} (h : RO w bo bm g L) : ∃ o x, w.heap[g]? = some (plc 0 0 o x) := by
  obtain ⟨nx, pv, rl, hg, hL⟩ := h.rg
  exact ⟨_, _, hg⟩
theorem RO.plcBlk {w : World} {bo bm g : Nat} {L : List Ent} (h : RO w bo bm g L) {e : Ent} (he : e ∈ L) : ∃ o x, w.heap[e.blk]? = some (plc e.key e.pins o x) := by
  obtain ⟨nx, pv, rl, hg, hL⟩ := h.rg
  exact ⟨_, _, hL e he⟩

set_option maxHeartbeats 2000000 in
/-- the walk through the places, by what its callback keeps -/
theorem walk_old {w : World} {bo bm g : Nat} {L : List Ent} (h : RO w bo bm g L) (c1 c2 : Value) (J Jx : List Ent → World → Prop) (h0 : J [] w)
    (hJ : ∀ pre W, J pre W → RO W bo bm g L)
    (hs : ∀ k e W, L[k]? = some e → J (L.take k) W → Calls Try.prog 70 #[.pointer (some ⟨e.blk, 0, none⟩), c1, c2] W fun r W' => (r = .returned (.bool true) ∧ J (L.take (k + 1)) W') ∨ (r = .returned (.bool false) ∧ Jx (L.take (k + 1)) W')) :
    Calls Try.prog 69 #[.pointer (some ⟨bo, 0, none⟩), .func (.func 70) #[] #[c1, c2]] w fun r w' => r = .returned (.tuple #[]) ∧ (J L w' ∨ ∃ k, k < L.length ∧ Jx (L.take (k + 1)) w') := by
  have hu := usable_any h
  have hgap := h.gap
  have hfst := h.first
  have hnd := h.nd
  have HJ : Hid (∀ pre W, J pre W → RO W bo bm g L) := hJ
  have HS : Hid (∀ k e W, L[k]? = some e → J (L.take k) W → Calls Try.prog 70 #[.pointer (some ⟨e.blk, 0, none⟩), c1, c2] W fun r W' => (r = .returned (.bool true) ∧ J (L.take (k + 1)) W') ∨ (r = .returned (.bool false) ∧ Jx (L.take (k + 1)) W')) := hs
  have H0 : Hid (J [] w) := h0
  have HN : Hid ((g :: L.map (·.blk)).Nodup) := hnd
  clear h hJ hs h0 hnd
  go_enter Try.func69, Try.ntmps69
  go_wp2_with (go_at_call 68; refine hu.mono ?_; rintro e w9 ⟨rfl, hw9⟩; rw [hw9]; clear hw9)
  go_loopw [4] (fun p wr => ∃ k, k ≤ L.length ∧ p = .pointer (some ⟨nthP L g k, 0, none⟩) ∧ Hid (J (L.take k) wr)) (fun p _ => leftP L p)
  case atStart => exact ⟨0, Nat.zero_le _, rfl, H0⟩
  case round =>
    obtain ⟨k, hk, rfl, HK⟩ := hrel
    have hro := HJ.out _ _ HK.out
    have hgr := hro.gap
    have hgb := hro.gapBlk
    by_cases hlt : k < L.length
    · have he : L[k]? = some L[k] := List.getElem?_eq_getElem hlt
      have hb := nthP_lt (g := g) he
      have hng := hro.notGap (List.mem_of_getElem? he)
      have hst := (HS.out k _ wr he HK.out).mono (R' := fun r W' => (r = .returned (.bool true) ∧ J (L.take (k + 1)) W' ∧ W'.cell? ⟨L[k].blk, 3, none⟩ = some (.pointer (some ⟨nthP L g (k + 1), 0, none⟩))) ∨ (r = .returned (.bool false) ∧ Jx (L.take (k + 1)) W')) (fun r W' h => h.imp (fun h => ⟨h.1, h.2, (HJ.out _ _ h.2).next he⟩) id)
      obtain ⟨pa, pb, hpl⟩ := hro.plcBlk (List.mem_of_getElem? he)
      obtain ⟨ga, gb, hgb⟩ := hgb
      have hnq := neq_ptr wr hpl hgb hng
      rw [hb]
      generalize L[k] = e at *
      have HE : Hid (L[k]? = some e) := he
      have HM : Hid (leftP L (.pointer (some ⟨e.blk, 0, none⟩)) = L.length - k) := by rw [← hb]; exact leftP_lt HN.out hk
      clear he hro hb hpl hgb hng
      go_wp2_with (go_at_call 70; refine hst.mono ?_; rintro r w1 (⟨rfl, hj1, hnx⟩ | ⟨rfl, hjx⟩))
      · go_roundw
        case rel => exact ⟨k + 1, by omega, rfl, hj1⟩
        case measure => rw [leftP_lt HN.out (by omega : k + 1 ≤ L.length), HM.out]; omega
      · go_end0
        exact ⟨rfl, .inr ⟨k, hlt, hjx⟩⟩
    · have e : k = L.length := by omega
      subst e
      rw [nthP_end]
      have hnq := neq_ptr_same wr g
      have HE : Hid (J L wr) := by have := HK.out; rw [List.take_length] at this; exact this
      clear hro hgb
      go_wp2
      go_end0
      exact ⟨rfl, .inl HE.out⟩
end Go.Proofs.Ytpchllepboolhaa.I
