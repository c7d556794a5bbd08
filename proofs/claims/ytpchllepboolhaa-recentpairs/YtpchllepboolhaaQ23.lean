import Derived.Test.YtpchllepboolhaazPDP
import Derived.Test.YtpchllepboolhaazPAP
namespace Go.Proofs.Ytpchllepboolhaa.P
open Go.RowKit Go.Maps
attribute [local go_sem] Oper.semAt_some
set_option linter.unusedVariables false
set_option linter.unusedSimpArgs false
set_option maxRecDepth 100000

theorem RO.setPins {w : World} {bo bm g : Nat} {L1 L2 : List Ent} {e : Ent} (h : RO w bo bm g (L1 ++ e :: L2)) (m : Nat) (hm : m ≤ 2147483647) :
    Act w (w.setCell ⟨e.blk, 2, none⟩ (.int .i64 m)) bo bm g (L1 ++ e :: L2) (L1 ++ ⟨e.key, m, e.blk⟩ :: L2) := by
  have hap := h.apart
  have hin : e.blk ∈ g :: (L1 ++ e :: L2).map (·.blk) := by simp
  have hmapb : (L1 ++ (⟨e.key, m, e.blk⟩ : Ent) :: L2).map (·.blk) = (L1 ++ e :: L2).map (·.blk) := by simp
  have hmapk : (L1 ++ (⟨e.key, m, e.blk⟩ : Ent) :: L2).map (·.key) = (L1 ++ e :: L2).map (·.key) := by simp
  have hfp : fp bo bm g (L1 ++ (⟨e.key, m, e.blk⟩ : Ent) :: L2) = fp bo bm g (L1 ++ e :: L2) := by simp only [fp, hmapb]
  obtain ⟨nx, pv, rl, hg, hL⟩ := h.rg
  obtain ⟨n, D, hmp, ho⟩ := h.mp
  have nd := rl.nd
  have hne : ∀ x ∈ L1 ++ L2, x.blk ≠ e.blk := by
    intro x hx
    simp only [List.map_append, List.map_cons, List.nodup_cons, List.mem_append, List.mem_cons, not_or, List.nodup_append, List.mem_map] at nd
    obtain ⟨⟨g1, g2, g3⟩, n1, ⟨n2, n3⟩, n4⟩ := nd
    rcases List.mem_append.1 hx with hx | hx
    · exact n4 _ ⟨x, hx, rfl⟩ _ (.inl rfl)
    · exact fun h => n2 ⟨x, hx, h⟩
  have hge : g ≠ e.blk := by
    intro h
    exact (List.nodup_cons.1 nd).1 (by rw [h]; simp)
  refine ⟨⟨?_, ⟨nx, pv, by rw [hmapb]; exact rl, ?_, ?_⟩, ⟨n, D, ownsMap_block hmp (heap_setCell_other _ _ _ _ (fun h => (hap.2 _ hin).2 h.symm)), ?_⟩, by rw [hmapk]; exact h.kd, ?_, ?_⟩, ?_, fun i hi => .inl (by rw [← hfp]; exact hi)⟩
  · rw [heap_setCell_other _ _ _ _ (fun h => (hap.2 _ hin).1 h.symm)]; exact h.ord
  · rw [heap_setCell_other _ _ _ _ hge]; exact hg
  · intro x hx
    rcases List.mem_append.1 hx with hx | hx
    · rw [heap_setCell_other _ _ _ _ (hne x (by simp [hx]))]; exact hL x (by simp [hx])
    · rcases List.mem_cons.1 hx with rfl | hx
      · rw [heap_setCell_same _ _ _ _ _ _ (hL e (by simp))]; rfl
      · rw [heap_setCell_other _ _ _ _ (hne x (by simp [hx]))]; exact hL x (by simp [hx])
  · refine ho.same (fun x hx => ?_) (fun x hx => ?_) (by simp)
    · rcases List.mem_append.1 hx with hx | hx
      · exact ⟨x, by simp [hx], rfl, rfl⟩
      · rcases List.mem_cons.1 hx with rfl | hx
        · exact ⟨e, by simp, rfl, rfl⟩
        · exact ⟨x, by simp [hx], rfl, rfl⟩
    · rcases List.mem_append.1 hx with hx | hx
      · exact ⟨x, by simp [hx], rfl⟩
      · rcases List.mem_cons.1 hx with rfl | hx
        · exact ⟨⟨x.key, m, x.blk⟩, by simp, rfl⟩
        · exact ⟨x, by simp [hx], rfl⟩
  · intro x hx
    rcases List.mem_append.1 hx with hx | hx
    · exact h.wf x (by simp [hx])
    · rcases List.mem_cons.1 hx with rfl | hx
      · exact h.wf e (by simp)
      · exact h.wf x (by simp [hx])
  · intro x hx
    rcases List.mem_append.1 hx with hx | hx
    · exact h.pm x (by simp [hx])
    · rcases List.mem_cons.1 hx with rfl | hx
      · exact hm
      · exact h.pm x (by simp [hx])
  · exact (Kp.refl w _).set (.inl (by simp only [fp]; exact List.mem_cons_of_mem _ (List.mem_cons_of_mem _ hin))) _
theorem RO.pinCell {w : World} {bo bm g : Nat} {L : List Ent} (h : RO w bo bm g L) {e : Ent} (he : e ∈ L) : w.cell? ⟨e.blk, 2, none⟩ = some (.int .i64 e.pins) ∧ w.frozen? ⟨e.blk, 2, none⟩ = false := by
  obtain ⟨nx, pv, rl, hg, hL⟩ := h.rg
  exact ⟨(cell_of (hL e he)).trans rfl, frozen_of (hL e he)⟩

theorem pin_no {w : World} {bo bm g : Nat} {L : List Ent} (h : RO w bo bm g L) {k : PK} (hn : ∀ e ∈ L, e.key ≠ k) :
    Calls Try.prog 21 #[.pointer (some ⟨bo, 0, none⟩), kv k] w fun r w' => r = .returned (.bool false) ∧ Below w.heap.size w w' := by
  have hf := no_find h hn
  obtain ⟨x0, x1⟩ := box_key w k
  clear h hn
  go_enter Try.func21, Try.ntmps21
  go_wp2_with (go_at_call 56; refine hf.mono ?_; rintro r9 w9 ⟨rfl, hb9⟩; have HB9 : Hid (Below w.heap.size w w9) := hb9; clear hb9)
  go_ret
  exact ⟨rfl, HB9.out⟩
theorem pin_full {w : World} {bo bm g : Nat} {L : List Ent} (h : RO w bo bm g L) {e : Ent} (he : e ∈ L) (hp : 2147483647 ≤ e.pins) :
    Calls Try.prog 21 #[.pointer (some ⟨bo, 0, none⟩), kv e.key] w fun r w' => r = .returned (.bool false) ∧ Below w.heap.size w w' := by
  have hf := the_find h he
  obtain ⟨x0, x1⟩ := box_key w e.key
  have HC : Hid (∀ X, Below w.heap.size w X → X.cell? ⟨e.blk, 2, none⟩ = some (.int .i64 e.pins) ∧ X.frozen? ⟨e.blk, 2, none⟩ = false) := fun X hX => (h.later hX).pinCell he
  have hp2 : ¬ ((e.pins : Int) < 2147483647) := by omega
  have hd : decide ((e.pins : Int) < 2147483647) = false := decide_eq_false hp2
  have hd2 : decide ((2147483647 : Int) ≤ (e.pins : Int)) = true := decide_eq_true (by omega)
  clear hp hp2 h he
  go_enter Try.func21, Try.ntmps21
  go_wp2_with (go_at_call 56; refine hf.mono ?_; rintro r9 w9 ⟨rfl, hb9⟩; have HB9 : Hid (Below w.heap.size w w9) := hb9; have hc := (HC.out w9 hb9).1; clear hb9)
  go_ret
  exact ⟨rfl, HB9.out⟩
theorem pin_any {w : World} {bo bm g : Nat} {L1 L2 : List Ent} {e : Ent} (h : RO w bo bm g (L1 ++ e :: L2)) (hp : e.pins < 2147483647) :
    Calls Try.prog 21 #[.pointer (some ⟨bo, 0, none⟩), kv e.key] w fun r w' => r = .returned (.bool true) ∧ Act w w' bo bm g (L1 ++ e :: L2) (L1 ++ ⟨e.key, e.pins + 1, e.blk⟩ :: L2) := by
  have hf := the_find h (e := e) (by simp)
  obtain ⟨x0, x1⟩ := box_key w e.key
  have HC : Hid (∀ X, Below w.heap.size w X → X.cell? ⟨e.blk, 2, none⟩ = some (.int .i64 e.pins) ∧ X.frozen? ⟨e.blk, 2, none⟩ = false) := fun X hX => (h.later hX).pinCell (e := e) (by simp)
  have hp' : (e.pins : Int) < 2147483647 := by omega
  have HS : Hid (∀ X, Below w.heap.size w X → Act w (X.setCell ⟨e.blk, 2, none⟩ (.int .i64 ((e.pins : Int) + 1))) bo bm g (L1 ++ e :: L2) (L1 ++ ⟨e.key, e.pins + 1, e.blk⟩ :: L2)) := fun X hX => ((h.later hX).setPins (e.pins + 1) (by omega)).from_later hX
  have hp0 : (0 : Int) ≤ (e.pins : Int) := by omega
  clear h hp
  generalize (e.pins : Int) = x at HC hp' HS hp0
  go_enter Try.func21, Try.ntmps21
  go_wp2_with (go_at_call 56; refine hf.mono ?_; rintro r9 w9 ⟨rfl, hb9⟩; have HB9 : Hid (Below w.heap.size w w9) := hb9; have hc := (HC.out w9 hb9).1; have hz := (HC.out w9 hb9).2; clear hb9)
  go_ret
  exact ⟨rfl, HS.out w9 HB9.out⟩
theorem RO.free {w : World} {bo bm g : Nat} {L : List Ent} (h : RO w bo bm g L) {e : Ent} (he : e ∈ L) : Calls Try.prog 61 #[.pointer (some ⟨e.blk, 0, none⟩)] w fun r w' => r = .returned (.bool (decide (e.pins = 0))) ∧ w' = w := by
  obtain ⟨nx, pv, rl, hg, hL⟩ := h.rg
  exact free_any (hL e he)
theorem RO.mapLen {w : World} {bo bm g : Nat} {L : List Ent} (h : RO w bo bm g L) (ty : TypeId) : (Builtin.len_ #[TMp] ty #[.map (some bm)]).run Try.prog w = .ok (.int .i64 L.length) w := by
  obtain ⟨n, D, hmp, ho⟩ := h.mp
  rw [hmp.len Try.underlying79 ty, ho.size]
theorem len_any {w : World} {bo bm g : Nat} {L : List Ent} (h : RO w bo bm g L) :
    Calls Try.prog 29 #[.pointer (some ⟨bo, 0, none⟩)] w fun r w' => r = .returned (.int .i64 L.length) ∧ w' = w := by
  have hu := usable_any h
  have h0 := h.map0
  obtain ⟨n, D, hmp, ho⟩ := h.mp
  have hsz := ho.size
  have HM : Hid (w.ownsMap Try.prog TKey ptrE bm n D) := hmp
  have HZ : Hid (Maps.size D = L.length) := hsz
  clear h ho hsz hmp
  go_enter Try.func29, Try.ntmps29
  go_wp2_with (first | (go_at_call 64; refine hu.mono ?_; rintro e w9 ⟨rfl, hw9⟩; rw [hw9]; clear hw9) | (at_len; refine wpList_len_own _ rfl _ TMp rfl TKey TPt Try.underlying79 _ bm n D rfl HM.out ?_))
  go_ret
  exact ⟨by rw [HZ.out]; rfl, rfl⟩
end Go.Proofs.Ytpchllepboolhaa.P

namespace Go.Proofs.Ytpchllepboolhaa.P
open Go.RowKit Go.Maps
attribute [local go_sem] Oper.semAt_some
set_option linter.unusedVariables false
set_option linter.unusedSimpArgs false
set_option maxRecDepth 100000

theorem unpin_no {w : World} {bo bm g : Nat} {L : List Ent} (h : RO w bo bm g L) {k : PK} (hn : ∀ e ∈ L, e.key ≠ k) :
    Calls Try.prog 23 #[.pointer (some ⟨bo, 0, none⟩), kv k] w fun r w' => r = .returned (.bool false) ∧ Below w.heap.size w w' := by
  have hf := no_find h hn
  obtain ⟨x0, x1⟩ := box_key w k
  clear h hn
  go_enter Try.func23, Try.ntmps23
  go_wp2_with (go_at_call 56; refine hf.mono ?_; rintro r9 w9 ⟨rfl, hb9⟩; have HB9 : Hid (Below w.heap.size w w9) := hb9; clear hb9)
  go_ret
  exact ⟨rfl, HB9.out⟩
theorem unpin_zero {w : World} {bo bm g : Nat} {L : List Ent} (h : RO w bo bm g L) {e : Ent} (he : e ∈ L) (hp : e.pins = 0) :
    Calls Try.prog 23 #[.pointer (some ⟨bo, 0, none⟩), kv e.key] w fun r w' => r = .returned (.bool false) ∧ Below w.heap.size w w' := by
  have hf := the_find h he
  obtain ⟨x0, x1⟩ := box_key w e.key
  have HFr : Hid (∀ X, Below w.heap.size w X → Calls Try.prog 61 #[.pointer (some ⟨e.blk, 0, none⟩)] X fun r w' => r = .returned (.bool true) ∧ w' = X) := fun X hX => by
    have := (h.later hX).free he
    rw [show decide (e.pins = 0) = true from decide_eq_true hp] at this
    exact this
  clear hp h he
  go_enter Try.func23, Try.ntmps23
  go_wp2_with (first | (go_at_call 56; refine hf.mono ?_; rintro r9 w9 ⟨rfl, hb9⟩; have HB9 : Hid (Below w.heap.size w w9) := hb9; clear hb9) | (go_at_call 61; refine (HFr.out w9 HB9.out).mono ?_; rintro r8 w8 ⟨rfl, hw8⟩; rw [hw8]; clear hw8))
  go_ret
  exact ⟨rfl, HB9.out⟩
theorem unpin_any {w : World} {bo bm g : Nat} {L1 L2 : List Ent} {e : Ent} (h : RO w bo bm g (L1 ++ e :: L2)) (hp : e.pins ≠ 0) :
    Calls Try.prog 23 #[.pointer (some ⟨bo, 0, none⟩), kv e.key] w fun r w' => r = .returned (.bool true) ∧ Act w w' bo bm g (L1 ++ e :: L2) (L1 ++ ⟨e.key, e.pins - 1, e.blk⟩ :: L2) := by
  have hf := the_find h (e := e) (by simp)
  obtain ⟨x0, x1⟩ := box_key w e.key
  have HFr : Hid (∀ X, Below w.heap.size w X → Calls Try.prog 61 #[.pointer (some ⟨e.blk, 0, none⟩)] X fun r w' => r = .returned (.bool false) ∧ w' = X) := fun X hX => by
    have := (h.later hX).free (e := e) (by simp)
    rw [show decide (e.pins = 0) = false from decide_eq_false hp] at this
    exact this
  have HC : Hid (∀ X, Below w.heap.size w X → X.cell? ⟨e.blk, 2, none⟩ = some (.int .i64 e.pins) ∧ X.frozen? ⟨e.blk, 2, none⟩ = false) := fun X hX => (h.later hX).pinCell (e := e) (by simp)
  have hpm := h.pm e (by simp)
  have HS : Hid (∀ X, Below w.heap.size w X → Act w (X.setCell ⟨e.blk, 2, none⟩ (.int .i64 ((e.pins : Int) - 1))) bo bm g (L1 ++ e :: L2) (L1 ++ ⟨e.key, e.pins - 1, e.blk⟩ :: L2)) := fun X hX => by
    have := (h.later hX).setPins (e.pins - 1) (by omega)
    rw [show ((e.pins - 1 : Nat) : Int) = (e.pins : Int) - 1 by omega] at this
    exact this.from_later hX
  have hp1 : 0 < (e.pins : Int) := by omega
  have hp2 : (e.pins : Int) ≤ 2147483647 := by omega
  clear h hp hpm
  generalize (e.pins : Int) = x at HC hp1 hp2 HS
  go_enter Try.func23, Try.ntmps23
  go_wp2_with (first | (go_at_call 56; refine hf.mono ?_; rintro r9 w9 ⟨rfl, hb9⟩; have HB9 : Hid (Below w.heap.size w w9) := hb9; have hc := (HC.out w9 hb9).1; have hz := (HC.out w9 hb9).2; clear hb9) | (go_at_call 61; refine (HFr.out w9 HB9.out).mono ?_; rintro r8 w8 ⟨rfl, hw8⟩; rw [hw8]; clear hw8))
  go_ret
  exact ⟨rfl, HS.out w9 HB9.out⟩
theorem has_no {w : World} {bo bm g : Nat} {L : List Ent} (h : RO w bo bm g L) {k : PK} (hn : ∀ e ∈ L, e.key ≠ k) :
    Calls Try.prog 25 #[.pointer (some ⟨bo, 0, none⟩), kv k] w fun r w' => r = .returned (.bool false) ∧ Below w.heap.size w w' := by
  have hf := no_find h hn
  obtain ⟨x0, x1⟩ := box_key w k
  clear h hn
  go_enter Try.func25, Try.ntmps25
  go_wp2_with (go_at_call 56; refine hf.mono ?_; rintro r9 w9 ⟨rfl, hb9⟩; have HB9 : Hid (Below w.heap.size w w9) := hb9; clear hb9)
  go_ret
  exact ⟨rfl, HB9.out⟩
theorem has_any {w : World} {bo bm g : Nat} {L : List Ent} (h : RO w bo bm g L) {e : Ent} (he : e ∈ L) :
    Calls Try.prog 25 #[.pointer (some ⟨bo, 0, none⟩), kv e.key] w fun r w' => r = .returned (.bool true) ∧ Below w.heap.size w w' := by
  have hf := the_find h he
  obtain ⟨x0, x1⟩ := box_key w e.key
  clear h he
  go_enter Try.func25, Try.ntmps25
  go_wp2_with (go_at_call 56; refine hf.mono ?_; rintro r9 w9 ⟨rfl, hb9⟩; have HB9 : Hid (Below w.heap.size w w9) := hb9; clear hb9)
  go_ret
  exact ⟨rfl, HB9.out⟩
end Go.Proofs.Ytpchllepboolhaa.P

namespace Go.Proofs.Ytpchllepboolhaa.P
open Go.RowKit Go.Maps
attribute [local go_sem] Oper.semAt_some
set_option linter.unusedVariables false
set_option linter.unusedSimpArgs false
set_option maxRecDepth 100000

set_option maxHeartbeats 1000000 in
theorem new_any (w : World) : Calls Try.prog 13 #[] w fun r w' => ∃ bo bm g, r = .returned (.pointer (some ⟨bo, 0, none⟩)) ∧ RO w' bo bm g [] ∧ Below w.heap.size w w' ∧ ∀ i ∈ fp bo bm g [], w.heap.size ≤ i := by
  have hmk := fun (w : World) => run_makeMap (P := Try.prog) TMp w
  go_enter Try.func13, Try.ntmps13
  go_wp2
  go_ret
  have H : Hid (∀ (c : Obj) (d : Obj), (((w.alloc c).alloc (.map #[] 0)).alloc d).heap[w.heap.size]? = some c ∧ (((w.alloc c).alloc (.map #[] 0)).alloc d).heap[w.heap.size + 1]? = some (.map #[] 0) ∧ (((w.alloc c).alloc (.map #[] 0)).alloc d).heap[w.heap.size + 1 + 1]? = some d ∧ Below w.heap.size w (((w.alloc c).alloc (.map #[] 0)).alloc d)) := by
    intro c d
    have s1 : (w.alloc c).heap.size = w.heap.size + 1 := World.size_alloc _ _
    have s2 : ((w.alloc c).alloc (.map #[] 0)).heap.size = w.heap.size + 1 + 1 := by rw [World.size_alloc, s1]
    refine ⟨?_, ?_, ?_, ?_⟩
    · rw [Below.heap_alloc _ _ _ (by omega), Below.heap_alloc _ _ _ (by omega), heap_alloc_new]
    · rw [Below.heap_alloc _ _ _ (by omega), ← s1, heap_alloc_new]
    · rw [← s2, heap_alloc_new]
    · exact (((Below.refl _ w).alloc (Nat.le_refl _) _).alloc (by omega) _).alloc (by omega) _
  refine ⟨w.heap.size + 1 + 1, w.heap.size + 1, w.heap.size, rfl, ⟨?_, ⟨fun _ => w.heap.size, fun _ => w.heap.size, RingL.nil _ _ _ rfl rfl, ?_, by simp⟩, ⟨0, .map [], ?_, ?_⟩, by simp, by simp, by simp⟩, (H.out _ _).2.2.2, ?_⟩
  · exact (H.out _ _).2.2.1
  · exact (H.out _ _).1
  · exact ⟨#[], 0, (H.out _ _).2.1, ⟨by simp, ⟨by simp, by simp, by simp⟩, by simp⟩, Nat.le_refl _, rfl⟩
  · exact ⟨by simp, by simp, fun k _ => rfl, rfl⟩
  · intro i hi
    simp only [fp, List.map_nil, List.mem_cons, List.not_mem_nil, or_false] at hi
    omega
end Go.Proofs.Ytpchllepboolhaa.P
