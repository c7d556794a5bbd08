import Derived.Test.YtpchllepboolhaazRAI
namespace Go.Proofs.Ytpchllepboolhaa.I
open Go.RowKit Go.Maps
attribute [local go_sem] Oper.semAt_some
set_option linter.unusedVariables false
set_option linter.unusedSimpArgs false
set_option maxRecDepth 100000

theorem no_find {w : World} {bo bm g : Nat} {L : List Ent} (h : RO w bo bm g L) {k : Int} (hk : wfK k) (hn : ∀ e ∈ L, e.key ≠ k) : Calls Try.prog 65 #[.pointer (some ⟨bo, 0, none⟩), kv k] w fun e w' => e = .returned (.tuple #[.pointer none, .bool true]) ∧ w' = w := by
  have := find_any h hk
  rw [look_no hn] at this
  exact this
theorem the_find {w : World} {bo bm g : Nat} {L : List Ent} (h : RO w bo bm g L) {e : Ent} (he : e ∈ L) : Calls Try.prog 65 #[.pointer (some ⟨bo, 0, none⟩), kv e.key] w fun r w' => r = .returned (.tuple #[.pointer (some ⟨e.blk, 0, none⟩), .bool true]) ∧ w' = w := by
  have := find_any h (h.wf e he)
  rw [look_mem he h.kd] at this
  exact this

theorem touch_no {w : World} {bo bm g : Nat} {L : List Ent} (h : RO w bo bm g L) {k : Int} (hk : wfK k) (hn : ∀ e ∈ L, e.key ≠ k) :
    Calls Try.prog 30 #[.pointer (some ⟨bo, 0, none⟩), kv k] w fun r w' => r = .returned (.bool false) ∧ w' = w := by
  have hf := no_find h hk hn
  go_enter Try.func30, Try.ntmps30
  go_wp2_with (go_at_call 65; refine hf.mono ?_; rintro e w9 ⟨rfl, hw9⟩; rw [hw9]; clear hw9)
  go_ret
  exact ⟨rfl, rfl⟩
theorem perm_mem {L1 L2 : List Ent} {e x : Ent} : x ∈ L1 ++ L2 ++ [e] ↔ x ∈ L1 ++ e :: L2 := by
  simp only [List.mem_append, List.mem_cons, List.not_mem_nil, or_false]
  constructor
  · rintro ((h | h) | h)
    · exact .inl h
    · exact .inr (.inr h)
    · exact .inr (.inl h)
  · rintro (h | h | h)
    · exact .inl (.inl h)
    · exact .inr h
    · exact .inl (.inr h)
set_option maxHeartbeats 2000000 in
theorem touch_any {w : World} {bo bm g : Nat} {L1 L2 : List Ent} {e : Ent} (h : RO w bo bm g (L1 ++ e :: L2)) :
    Calls Try.prog 30 #[.pointer (some ⟨bo, 0, none⟩), kv e.key] w fun r w' => r = .returned (.bool true) ∧ Act w w' bo bm g (L1 ++ e :: L2) (L1 ++ L2 ++ [e]) := by
  have hf := the_find h (e := e) (by simp)
  have H : Hid (RO w bo bm g (L1 ++ e :: L2)) := h
  have hlt := h.lt
  have hap := h.apart
  have hbo : bo ∉ g :: (L1 ++ L2).map (·.blk) := fun hm => (hap.2 bo (by simp only [List.map_append, List.map_cons, List.mem_cons, List.mem_append] at hm ⊢; rcases hm with h | h | h <;> simp [h])).1 rfl
  have HG : Hid (∀ w', Kp w w' (g :: (L1 ++ L2).map (·.blk)) → w'.cell? ⟨bo, 1, none⟩ = some (.pointer (some ⟨g, 0, none⟩))) := fun w' hk' => by
    have hb := hk'.block bo (hlt bo (by simp [fp])) hbo
    exact (cell_of (hb.trans h.ord)).trans rfl
  have HL : Hid (Calls Try.prog 66 #[.pointer (some ⟨e.blk, 0, none⟩)] w fun r w' => r = .returned (.tuple #[]) ∧ Rg w' g (L1 ++ L2) ∧ (∃ a b, w'.heap[e.blk]? = some (.cells #[kv e.key, .int .i64 e.pins, a, b] TPl (0, 0))) ∧ Kp w w' (g :: (L1 ++ L2).map (·.blk))) := leave_any h.ring
  have hnew : e.blk ∉ g :: (L1 ++ L2).map (·.blk) := by
    obtain ⟨nx, pv, rl, _, _⟩ := h.rg
    have nd := rl.nd
    simp only [List.map_append, List.map_cons, List.nodup_cons, List.mem_append, List.mem_cons, not_or, List.nodup_append] at nd
    obtain ⟨⟨g1, g2, g3⟩, n1, ⟨n2, n3⟩, n4⟩ := nd
    simp only [List.map_append, List.mem_cons, List.mem_append, not_or]
    exact ⟨fun h => g2 h.symm, fun h => n4 _ h _ (.inl rfl) rfl, n2⟩
  have HN : Hid (e.blk ∉ g :: (L1 ++ L2).map (·.blk)) := hnew
  clear h hlt hap hbo hnew
  go_enter Try.func30, Try.ntmps30
  go_wp2_with (first | (go_at_call 65; refine hf.mono ?_; rintro e w9 ⟨rfl, hw9⟩; rw [hw9]; clear hw9) | (go_at_call 66; refine HL.out.mono ?_; rintro r w1 ⟨rfl, hrg, ⟨va, vb, hpl⟩, hkp⟩; have hgp := HG.out w1 hkp; have HE : Hid (Calls Try.prog 67 #[.pointer (some ⟨e.blk, 0, none⟩), .pointer (some ⟨g, 0, none⟩)] w1 fun r w' => r = .returned (.tuple #[]) ∧ Rg w' g (L1 ++ L2 ++ [⟨e.key, e.pins, e.blk⟩]) ∧ Kp w1 w' (e.blk :: g :: (L1 ++ L2).map (·.blk))) := enter_any hrg hpl HN.out; clear hpl) | (go_at_call 67; refine HE.out.mono ?_; rintro r w2 ⟨rfl, hrg2, hkp2⟩))
  go_ret
  have hap := H.out.apart
  have hlt := H.out.lt
  have hsub : ∀ i ∈ e.blk :: g :: (L1 ++ L2).map (·.blk), i ∈ g :: (L1 ++ e :: L2).map (·.blk) := by
    intro i hi
    simp only [List.map_append, List.map_cons, List.mem_cons, List.mem_append] at hi ⊢
    rcases hi with h | h | h | h <;> simp [h]
  have hk : Kp w w2 (g :: (L1 ++ e :: L2).map (·.blk)) := (hkp.sub (F' := g :: (L1 ++ e :: L2).map (·.blk)) fun i hi => .inl (hsub i (List.mem_cons_of_mem _ hi))).trans (hkp2.sub (F' := g :: (L1 ++ e :: L2).map (·.blk)) fun i hi => .inl (hsub i hi)) (fun i hi => .inl hi)
  have hbo : bo ∉ g :: (L1 ++ e :: L2).map (·.blk) := fun hm => (hap.2 bo hm).1 rfl
  have hbm : bm ∉ g :: (L1 ++ e :: L2).map (·.blk) := fun hm => (hap.2 bm hm).2 rfl
  obtain ⟨n, D, hm, ho⟩ := H.out.mp
  refine ⟨rfl, ⟨⟨?_, hrg2, ⟨n, D, ownsMap_block hm (hk.block bm (hlt bm (by simp [fp])) hbm), ?_⟩, ?_, ?_, ?_⟩, hk.sub (fun i hi => .inl (by simp only [fp]; exact List.mem_cons_of_mem _ (List.mem_cons_of_mem _ hi))), ?_⟩⟩
  · rw [hk.block bo (hlt bo (by simp [fp])) hbo]; exact H.out.ord
  · exact ho.same (fun x hx => ⟨x, perm_mem.1 hx, rfl, rfl⟩) (fun x hx => ⟨x, perm_mem.2 hx, rfl⟩) (by simp)
  · have := H.out.kd
    simp only [List.map_append, List.map_cons, List.nodup_append, List.nodup_cons, List.mem_map, List.mem_cons, List.map_nil, List.mem_append, List.mem_singleton, List.not_mem_nil, List.nodup_nil] at this ⊢
    obtain ⟨h1, ⟨h2, h3⟩, h4⟩ := this
    refine ⟨⟨h1, h3, fun a ha b hb => h4 a ha b (.inr hb)⟩, ⟨by simp, trivial⟩, ?_⟩
    rintro a (ha | ha) b (rfl | hb)
    · exact h4 a ha _ (.inl rfl)
    · exact hb.elim
    · rintro rfl; exact h2 ha
    · exact hb.elim
  · intro x hx; exact H.out.wf x (perm_mem.1 hx)
  · intro x hx; exact H.out.pm x (perm_mem.1 hx)
  · intro i hi
    refine .inl ?_
    simp only [fp, List.mem_cons, List.mem_map] at hi ⊢
    rcases hi with h | h | h | ⟨x, hx, h⟩
    · exact .inl h
    · exact .inr (.inl h)
    · exact .inr (.inr (.inl h))
    · exact .inr (.inr (.inr ⟨x, perm_mem.1 hx, h⟩))

end Go.Proofs.Ytpchllepboolhaa.I

namespace Go.Proofs.Ytpchllepboolhaa.I
open Go.RowKit Go.Maps
attribute [local go_sem] Oper.semAt_some
set_option linter.unusedVariables false
set_option linter.unusedSimpArgs false
set_option maxRecDepth 100000

theorem RO.setPins {w : World} {bo bm g : Nat} {L1 L2 : List Ent} {e : Ent} (h : RO w bo bm g (L1 ++ e :: L2)) (m : Nat) (hm : m ≤ 2147483647) :
    Act w (w.setCell ⟨e.blk, 1, none⟩ (.int .i64 m)) bo bm g (L1 ++ e :: L2) (L1 ++ ⟨e.key, m, e.blk⟩ :: L2) := by
  have hap := h.apart
  have hin : e.blk ∈ g :: (L1 ++ e :: L2).map (·.blk) := by simp
  have hmapb : (L1 ++ (⟨e.key, m, e.blk⟩ : Ent) :: L2).map (·.blk) = (L1 ++ e :: L2).map (·.blk) := by simp
  have hmapk : (L1 ++ (⟨e.key, m, e.blk⟩ : Ent) :: L2).map (·.key) = (L1 ++ e :: L2).map (·.key) := by simp
  have hfp : fp bo bm g (L1 ++ (⟨e.key, m, e.blk⟩ : Ent) :: L2) = fp bo bm g (L1 ++ e :: L2) := by simp only [fp, hmapb]
  obtain ⟨nx, pv, rl, hg, hL⟩ := h.rg
  obtain ⟨n, D, hmp, ho⟩ := h.mp
  have nd := rl.nd
  have hne : ∀ x ∈ L1 ++ L2, x.blk ≠ e.blk := by
    intro x hx
    simp only [List.map_append, List.map_cons, List.nodup_cons, List.mem_append, List.mem_cons, not_or, List.nodup_append, List.mem_map] at nd
    obtain ⟨⟨g1, g2, g3⟩, n1, ⟨n2, n3⟩, n4⟩ := nd
    rcases List.mem_append.1 hx with hx | hx
    · exact n4 _ ⟨x, hx, rfl⟩ _ (.inl rfl)
    · exact fun h => n2 ⟨x, hx, h⟩
  have hge : g ≠ e.blk := by
    intro h
    exact (List.nodup_cons.1 nd).1 (by rw [h]; simp)
  refine ⟨⟨?_, ⟨nx, pv, by rw [hmapb]; exact rl, ?_, ?_⟩, ⟨n, D, ownsMap_block hmp (heap_setCell_other _ _ _ _ (fun h => (hap.2 _ hin).2 h.symm)), ?_⟩, by rw [hmapk]; exact h.kd, ?_, ?_⟩, ?_, fun i hi => .inl (by rw [← hfp]; exact hi)⟩
  · rw [heap_setCell_other _ _ _ _ (fun h => (hap.2 _ hin).1 h.symm)]; exact h.ord
  · rw [heap_setCell_other _ _ _ _ hge]; exact hg
  · intro x hx
    rcases List.mem_append.1 hx with hx | hx
    · rw [heap_setCell_other _ _ _ _ (hne x (by simp [hx]))]; exact hL x (by simp [hx])
    · rcases List.mem_cons.1 hx with rfl | hx
      · rw [heap_setCell_same _ _ _ _ _ _ (hL e (by simp))]; rfl
      · rw [heap_setCell_other _ _ _ _ (hne x (by simp [hx]))]; exact hL x (by simp [hx])
  · refine ho.same (fun x hx => ?_) (fun x hx => ?_) (by simp)
    · rcases List.mem_append.1 hx with hx | hx
      · exact ⟨x, by simp [hx], rfl, rfl⟩
      · rcases List.mem_cons.1 hx with rfl | hx
        · exact ⟨e, by simp, rfl, rfl⟩
        · exact ⟨x, by simp [hx], rfl, rfl⟩
    · rcases List.mem_append.1 hx with hx | hx
      · exact ⟨x, by simp [hx], rfl⟩
      · rcases List.mem_cons.1 hx with rfl | hx
        · exact ⟨⟨x.key, m, x.blk⟩, by simp, rfl⟩
        · exact ⟨x, by simp [hx], rfl⟩
  · intro x hx
    rcases List.mem_append.1 hx with hx | hx
    · exact h.wf x (by simp [hx])
    · rcases List.mem_cons.1 hx with rfl | hx
      · exact h.wf e (by simp)
      · exact h.wf x (by simp [hx])
  · intro x hx
    rcases List.mem_append.1 hx with hx | hx
    · exact h.pm x (by simp [hx])
    · rcases List.mem_cons.1 hx with rfl | hx
      · exact hm
      · exact h.pm x (by simp [hx])
  · exact (Kp.refl w _).set (.inl (by simp only [fp]; exact List.mem_cons_of_mem _ (List.mem_cons_of_mem _ hin))) _
theorem RO.pinCell {w : World} {bo bm g : Nat} {L : List Ent} (h : RO w bo bm g L) {e : Ent} (he : e ∈ L) : w.cell? ⟨e.blk, 1, none⟩ = some (.int .i64 e.pins) ∧ w.frozen? ⟨e.blk, 1, none⟩ = false := by
  obtain ⟨nx, pv, rl, hg, hL⟩ := h.rg
  exact ⟨(cell_of (hL e he)).trans rfl, frozen_of (hL e he)⟩

theorem pin_no {w : World} {bo bm g : Nat} {L : List Ent} (h : RO w bo bm g L) {k : Int} (hk : wfK k) (hn : ∀ e ∈ L, e.key ≠ k) :
    Calls Try.prog 41 #[.pointer (some ⟨bo, 0, none⟩), kv k] w fun r w' => r = .returned (.bool false) ∧ w' = w := by
  have hf := no_find h hk hn
  go_enter Try.func41, Try.ntmps41
  go_wp2_with (go_at_call 65; refine hf.mono ?_; rintro e w9 ⟨rfl, hw9⟩; rw [hw9]; clear hw9)
  go_ret
  exact ⟨rfl, rfl⟩
theorem pin_full {w : World} {bo bm g : Nat} {L : List Ent} (h : RO w bo bm g L) {e : Ent} (he : e ∈ L) (hp : 2147483647 ≤ e.pins) :
    Calls Try.prog 41 #[.pointer (some ⟨bo, 0, none⟩), kv e.key] w fun r w' => r = .returned (.bool false) ∧ w' = w := by
  have hf := the_find h he
  obtain ⟨hc, hz⟩ := h.pinCell he
  have hp2 : ¬ ((e.pins : Int) < 2147483647) := by omega
  have hd : decide ((e.pins : Int) < 2147483647) = false := decide_eq_false hp2
  have hd2 : decide ((2147483647 : Int) ≤ (e.pins : Int)) = true := decide_eq_true (by omega)
  clear hp hp2
  go_enter Try.func41, Try.ntmps41
  go_wp2_with (go_at_call 65; refine hf.mono ?_; rintro e w9 ⟨rfl, hw9⟩; rw [hw9]; clear hw9)
  go_ret
  exact ⟨rfl, rfl⟩
theorem pin_any {w : World} {bo bm g : Nat} {L1 L2 : List Ent} {e : Ent} (h : RO w bo bm g (L1 ++ e :: L2)) (hp : e.pins < 2147483647) :
    Calls Try.prog 41 #[.pointer (some ⟨bo, 0, none⟩), kv e.key] w fun r w' => r = .returned (.bool true) ∧ Act w w' bo bm g (L1 ++ e :: L2) (L1 ++ ⟨e.key, e.pins + 1, e.blk⟩ :: L2) := by
  have hf := the_find h (e := e) (by simp)
  obtain ⟨hc, hz⟩ := h.pinCell (e := e) (by simp)
  have hp' : (e.pins : Int) < 2147483647 := by omega
  have HS : Hid (Act w (w.setCell ⟨e.blk, 1, none⟩ (.int .i64 ((e.pins : Int) + 1))) bo bm g (L1 ++ e :: L2) (L1 ++ ⟨e.key, e.pins + 1, e.blk⟩ :: L2)) := h.setPins (e.pins + 1) (by omega)
  have hp0 : (0 : Int) ≤ (e.pins : Int) := by omega
  clear h hp
  generalize (e.pins : Int) = x at hc hp' HS hp0
  go_enter Try.func41, Try.ntmps41
  go_wp2_with (go_at_call 65; refine hf.mono ?_; rintro e w9 ⟨rfl, hw9⟩; rw [hw9]; clear hw9)
  go_ret
  exact ⟨rfl, HS.out⟩
theorem RO.free {w : World} {bo bm g : Nat} {L : List Ent} (h : RO w bo bm g L) {e : Ent} (he : e ∈ L) : Calls Try.prog 71 #[.pointer (some ⟨e.blk, 0, none⟩)] w fun r w' => r = .returned (.bool (decide (e.pins = 0))) ∧ w' = w := by
  obtain ⟨nx, pv, rl, hg, hL⟩ := h.rg
  exact free_any (hL e he)
theorem pins_no {w : World} {bo bm g : Nat} {L : List Ent} (h : RO w bo bm g L) {k : Int} (hk : wfK k) (hn : ∀ e ∈ L, e.key ≠ k) :
    Calls Try.prog 39 #[.pointer (some ⟨bo, 0, none⟩), kv k] w fun r w' => r = .returned (.int .i64 0) ∧ w' = w := by
  have hf := no_find h hk hn
  go_enter Try.func39, Try.ntmps39
  go_wp2_with (go_at_call 65; refine hf.mono ?_; rintro e w9 ⟨rfl, hw9⟩; rw [hw9]; clear hw9)
  go_ret
  exact ⟨rfl, rfl⟩
theorem pins_any {w : World} {bo bm g : Nat} {L : List Ent} (h : RO w bo bm g L) {e : Ent} (he : e ∈ L) :
    Calls Try.prog 39 #[.pointer (some ⟨bo, 0, none⟩), kv e.key] w fun r w' => r = .returned (.int .i64 e.pins) ∧ w' = w := by
  have hf := the_find h he
  obtain ⟨hc, hz⟩ := h.pinCell he
  go_enter Try.func39, Try.ntmps39
  go_wp2_with (go_at_call 65; refine hf.mono ?_; rintro e w9 ⟨rfl, hw9⟩; rw [hw9]; clear hw9)
  go_ret
  exact ⟨rfl, rfl⟩
theorem RO.mapLen {w : World} {bo bm g : Nat} {L : List Ent} (h : RO w bo bm g L) (ty : TypeId) : (Builtin.len_ #[TMp] ty #[.map (some bm)]).run Try.prog w = .ok (.int .i64 L.length) w := by
  obtain ⟨n, D, hmp, ho⟩ := h.mp
  rw [hmp.len Try.underlying67 ty, ho.size]
theorem len_any {w : World} {bo bm g : Nat} {L : List Ent} (h : RO w bo bm g L) :
    Calls Try.prog 31 #[.pointer (some ⟨bo, 0, none⟩)] w fun r w' => r = .returned (.int .i64 L.length) ∧ w' = w := by
  have hu := usable_any h
  have h0 := h.map0
  obtain ⟨n, D, hmp, ho⟩ := h.mp
  have hsz := ho.size
  have HM : Hid (w.ownsMap Try.prog TKey ptrE bm n D) := hmp
  have HZ : Hid (Maps.size D = L.length) := hsz
  clear h ho hsz hmp
  go_enter Try.func31, Try.ntmps31
  go_wp2_with (first | (go_at_call 68; refine hu.mono ?_; rintro e w9 ⟨rfl, hw9⟩; rw [hw9]; clear hw9) | (at_len; refine wpList_len_own _ rfl _ TMp rfl TKey TPt Try.underlying67 _ bm n D rfl HM.out ?_))
  go_ret
  exact ⟨by rw [HZ.out]; rfl, rfl⟩
end Go.Proofs.Ytpchllepboolhaa.I
