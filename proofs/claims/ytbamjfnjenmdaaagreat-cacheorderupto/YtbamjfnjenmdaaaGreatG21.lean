import Derived.Test.YtbamjfnjenmdaaaGreatzRAcI
namespace Go.Proofs.YtbamjfnjenmdaaaGreat.I
open Go.RowKit Go.Maps
attribute [local go_sem] Oper.semAt_some
set_option linter.unusedVariables false
set_option linter.unusedSimpArgs false
set_option maxRecDepth 100000

theorem no_find {w : World} {bo bm g : Nat} {L : List Ent} (h : RO w bo bm g L) {k : Int} (hk : wfK k) (hn : ∀ e ∈ L, e.key ≠ k) : Calls Tryz.prog 71 #[.pointer (some ⟨bo, 0, none⟩), kv k] w fun e w' => e = .returned (.tuple #[.pointer none, .bool true]) ∧ w' = w := by
  have := find_any h hk
  rw [look_no hn] at this
  exact this
theorem the_find {w : World} {bo bm g : Nat} {L : List Ent} (h : RO w bo bm g L) {e : Ent} (he : e ∈ L) : Calls Tryz.prog 71 #[.pointer (some ⟨bo, 0, none⟩), kv e.key] w fun r w' => r = .returned (.tuple #[.pointer (some ⟨e.blk, 0, none⟩), .bool true]) ∧ w' = w := by
  have := find_any h (h.wf e he)
  rw [look_mem he h.kd] at this
  exact this

theorem touch_no {w : World} {bo bm g : Nat} {L : List Ent} (h : RO w bo bm g L) {k : Int} (hk : wfK k) (hn : ∀ e ∈ L, e.key ≠ k) :
    Calls Tryz.prog 52 #[.pointer (some ⟨bo, 0, none⟩), kv k] w fun r w' => r = .returned (.bool false) ∧ w' = w := by
  have hf := no_find h hk hn
  go_enter Tryz.func52, Tryz.ntmps52
  go_wp2_with (go_at_call 71; refine hf.mono ?_; rintro e w9 ⟨rfl, hw9⟩; rw [hw9]; clear hw9)
  go_ret
  exact ⟨rfl, rfl⟩
theorem perm_mem {L1 L2 : List Ent} {e x : Ent} : x ∈ L1 ++ L2 ++ [e] ↔ x ∈ L1 ++ e :: L2 := by
  simp only [List.mem_append, List.mem_cons, List.not_mem_nil, or_false]
  constructor
  · rintro ((h | h) | h)
    · exact .inl h
    · exact .inr (.inr h)
    · exact .inr (.inl h)
  · rintro (h | h | h)
    · exact .inl (.inl h)
    · exact .inr h
    · exact .inl (.inr h)
set_option maxHeartbeats 2000000 in
theorem touch_any {w : World} {bo bm g : Nat} {L1 L2 : List Ent} {e : Ent} (h : RO w bo bm g (L1 ++ e :: L2)) :
    Calls Tryz.prog 52 #[.pointer (some ⟨bo, 0, none⟩), kv e.key] w fun r w' => r = .returned (.bool true) ∧ Act w w' bo bm g (L1 ++ e :: L2) (L1 ++ L2 ++ [e]) := by
  have hf := the_find h (e := e) (by simp)
  have H : Hid (RO w bo bm g (L1 ++ e :: L2)) := h
  have hlt := h.lt
  have hap := h.apart
  have hbo : bo ∉ g :: (L1 ++ L2).map (·.blk) := fun hm => (hap.2 bo (by simp only [List.map_append, List.map_cons, List.mem_cons, List.mem_append] at hm ⊢; rcases hm with h | h | h <;> simp [h])).1 rfl
  have HG : Hid (∀ w', Kp w w' (g :: (L1 ++ L2).map (·.blk)) → w'.cell? ⟨bo, 1, none⟩ = some (.pointer (some ⟨g, 0, none⟩))) := fun w' hk' => by
    have hb := hk'.block bo (hlt bo (by simp [fp])) hbo
    exact (cell_of (hb.trans h.ord)).trans rfl
  have HL : Hid (Calls Tryz.prog 72 #[.pointer (some ⟨e.blk, 0, none⟩)] w fun r w' => r = .returned (.tuple #[]) ∧ Rg w' g (L1 ++ L2) ∧ (∃ a b, w'.heap[e.blk]? = some (.cells #[kv e.key, .int .i64 e.pins, a, b] TPl (0, 0))) ∧ Kp w w' (g :: (L1 ++ L2).map (·.blk))) := leave_any h.ring
  have hnew : e.blk ∉ g :: (L1 ++ L2).map (·.blk) := by
    obtain ⟨nx, pv, rl, _, _⟩ := h.rg
    have nd := rl.nd
    simp only [List.map_append, List.map_cons, List.nodup_cons, List.mem_append, List.mem_cons, not_or, List.nodup_append] at nd
    obtain ⟨⟨g1, g2, g3⟩, n1, ⟨n2, n3⟩, n4⟩ := nd
    simp only [List.map_append, List.mem_cons, List.mem_append, not_or]
    exact ⟨fun h => g2 h.symm, fun h => n4 _ h _ (.inl rfl) rfl, n2⟩
  have HN : Hid (e.blk ∉ g :: (L1 ++ L2).map (·.blk)) := hnew
  clear h hlt hap hbo hnew
  go_enter Tryz.func52, Tryz.ntmps52
  go_wp2_with (first | (go_at_call 71; refine hf.mono ?_; rintro e w9 ⟨rfl, hw9⟩; rw [hw9]; clear hw9) | (go_at_call 72; refine HL.out.mono ?_; rintro r w1 ⟨rfl, hrg, ⟨va, vb, hpl⟩, hkp⟩; have hgp := HG.out w1 hkp; have HE : Hid (Calls Tryz.prog 73 #[.pointer (some ⟨e.blk, 0, none⟩), .pointer (some ⟨g, 0, none⟩)] w1 fun r w' => r = .returned (.tuple #[]) ∧ Rg w' g (L1 ++ L2 ++ [⟨e.key, e.pins, e.blk⟩]) ∧ Kp w1 w' (e.blk :: g :: (L1 ++ L2).map (·.blk))) := enter_any hrg hpl HN.out; clear hpl) | (go_at_call 73; refine HE.out.mono ?_; rintro r w2 ⟨rfl, hrg2, hkp2⟩))
  go_ret
  have hap := H.out.apart
  have hlt := H.out.lt
  have hsub : ∀ i ∈ e.blk :: g :: (L1 ++ L2).map (·.blk), i ∈ g :: (L1 ++ e :: L2).map (·.blk) := by
    intro i hi
    simp only [List.map_append, List.map_cons, List.mem_cons, List.mem_append] at hi ⊢
    rcases hi with h | h | h | h <;> simp [h]
  have hk : Kp w w2 (g :: (L1 ++ e :: L2).map (·.blk)) := (hkp.sub (F' := g :: (L1 ++ e :: L2).map (·.blk)) fun i hi => .inl (hsub i (List.mem_cons_of_mem _ hi))).trans (hkp2.sub (F' := g :: (L1 ++ e :: L2).map (·.blk)) fun i hi => .inl (hsub i hi)) (fun i hi => .inl hi)
  have hbo : bo ∉ g :: (L1 ++ e :: L2).map (·.blk) := fun hm => (hap.2 bo hm).1 rfl
  have hbm : bm ∉ g :: (L1 ++ e :: L2).map (·.blk) := fun hm => (hap.2 bm hm).2 rfl
  obtain ⟨n, D, hm, ho⟩ := H.out.mp
  refine ⟨rfl, ⟨⟨?_, hrg2, ⟨n, D, ownsMap_block hm (hk.block bm (hlt bm (by simp [fp])) hbm), ?_⟩, ?_, ?_, ?_⟩, hk.sub (fun i hi => .inl (by simp only [fp]; exact List.mem_cons_of_mem _ (List.mem_cons_of_mem _ hi))), ?_⟩⟩
  · rw [hk.block bo (hlt bo (by simp [fp])) hbo]; exact H.out.ord
  · exact ho.same (fun x hx => ⟨x, perm_mem.1 hx, rfl, rfl⟩) (fun x hx => ⟨x, perm_mem.2 hx, rfl⟩) (by simp)
  · have := H.out.kd
    simp only [List.map_append, List.map_cons, List.nodup_append, List.nodup_cons, List.mem_map, List.mem_cons, List.map_nil, List.mem_append, List.mem_singleton, List.not_mem_nil, List.nodup_nil] at this ⊢
    obtain ⟨h1, ⟨h2, h3⟩, h4⟩ := this
    refine ⟨⟨h1, h3, fun a ha b hb => h4 a ha b (.inr hb)⟩, ⟨by simp, trivial⟩, ?_⟩
    rintro a (ha | ha) b (rfl | hb)
    · exact h4 a ha _ (.inl rfl)
    · exact hb.elim
    · rintro rfl; exact h2 ha
    · exact hb.elim
  · intro x hx; exact H.out.wf x (perm_mem.1 hx)
  · intro x hx; exact H.out.pm x (perm_mem.1 hx)
  · intro i hi
    refine .inl ?_
    simp only [fp, List.mem_cons, List.mem_map] at hi ⊢
    rcases hi with h | h | h | ⟨x, hx, h⟩
    · exact .inl h
    · exact .inr (.inl h)
    · exact .inr (.inr (.inl h))
    · exact .inr (.inr (.inr ⟨x, perm_mem.1 hx, h⟩))

end Go.Proofs.YtbamjfnjenmdaaaGreat.I

namespace Go.Proofs.YtbamjfnjenmdaaaGreat.I
open Go.RowKit Go.Maps
attribute [local go_sem] Oper.semAt_some
set_option linter.unusedVariables false
set_option linter.unusedSimpArgs false
set_option maxRecDepth 100000

theorem drop_no {w : World} {bo bm g : Nat} {L : List Ent} (h : RO w bo bm g L) {k : Int} (hk : wfK k) (hn : ∀ e ∈ L, e.key ≠ k) :
    Calls Tryz.prog 74 #[.pointer (some ⟨bo, 0, none⟩), kv k] w fun r w' => r = .returned (.bool false) ∧ w' = w := by
  have hf := no_find h hk hn
  go_enter Tryz.func74, Tryz.ntmps74
  go_wp2_with (go_at_call 71; refine hf.mono ?_; rintro e w9 ⟨rfl, hw9⟩; rw [hw9]; clear hw9)
  go_ret
  exact ⟨rfl, rfl⟩
theorem less_mem {L1 L2 : List Ent} {e x : Ent} (h : x ∈ L1 ++ L2) : x ∈ L1 ++ e :: L2 := by rcases List.mem_append.1 h with h | h <;> simp [h]
set_option maxHeartbeats 2000000 in
theorem drop_any {w : World} {bo bm g : Nat} {L1 L2 : List Ent} {e : Ent} (h : RO w bo bm g (L1 ++ e :: L2)) :
    Calls Tryz.prog 74 #[.pointer (some ⟨bo, 0, none⟩), kv e.key] w fun r w' => r = .returned (.bool true) ∧ Act w w' bo bm g (L1 ++ e :: L2) (L1 ++ L2) := by
  have hf := the_find h (e := e) (by simp)
  have H : Hid (RO w bo bm g (L1 ++ e :: L2)) := h
  have hlt := h.lt
  have hap := h.apart
  obtain ⟨n, D, hm, ho⟩ := h.mp
  have hk := h.wf e (by simp)
  have hcut : ∀ c, c ∈ g :: (L1 ++ L2).map (·.blk) → c ∈ g :: (L1 ++ e :: L2).map (·.blk) := by
    intro c hm
    simp only [List.map_append, List.map_cons, List.mem_cons, List.mem_append] at hm ⊢
    rcases hm with h | h | h <;> simp [h]
  have HF : Hid (∀ w', Kp w w' (g :: (L1 ++ L2).map (·.blk)) → w'.cell? ⟨bo, 0, none⟩ = some (.map (some bm)) ∧ w'.ownsMap Tryz.prog TKey ptrE bm n D) := fun w' hk' => by
    have hb := hk'.block bo (hlt bo (by simp [fp])) (fun hm => (hap.2 bo (hcut _ hm)).1 rfl)
    have hb2 := hk'.block bm (hlt bm (by simp [fp])) (fun hm => (hap.2 bm (hcut _ hm)).2 rfl)
    exact ⟨(cell_of (hb.trans h.ord)).trans rfl, ownsMap_block hm hb2⟩
  have HL : Hid (Calls Tryz.prog 72 #[.pointer (some ⟨e.blk, 0, none⟩)] w fun r w' => r = .returned (.tuple #[]) ∧ Rg w' g (L1 ++ L2) ∧ (∃ a b, w'.heap[e.blk]? = some (.cells #[kv e.key, .int .i64 e.pins, a, b] TPl (0, 0))) ∧ Kp w w' (g :: (L1 ++ L2).map (·.blk))) := leave_any h.ring
  have HO : Hid (MapOk (L1 ++ e :: L2) D) := ho
  have HD : Hid (IsMap D ∧ Tidy D) := ⟨hm.isMap, hm.tidy keyed⟩
  have HC : Hid (∀ c, c ∈ g :: (L1 ++ L2).map (·.blk) → c ∈ g :: (L1 ++ e :: L2).map (·.blk)) := hcut
  clear h hlt hap hcut hm ho
  go_enter Tryz.func74, Tryz.ntmps74
  go_wp2_with (first | (go_at_call 71; refine hf.mono ?_; rintro e w9 ⟨rfl, hw9⟩; rw [hw9]; clear hw9) | (go_at_call 72; refine HL.out.mono ?_; rintro r w1 ⟨rfl, hrg, hpl, hkp⟩; have hF := HF.out w1 hkp; have hc0 := hF.1; have HF2 : Hid (w1.ownsMap Tryz.prog TKey ptrE bm n D) := hF.2; clear hF hpl) | (at_delete; refine wpList_delete_own _ rfl _ _ TMp TKey rfl TPt keyed Tryz.underlying147 _ bm n D rfl HF2.out _ _ rfl (keyAt hk) ?_; intro w2 hown2 hturn2))
  go_ret
  have hap := H.out.apart
  have hlt := H.out.lt
  have hgrow2 := hturn2.grown
  have hbm : bm ∉ g :: (L1 ++ L2).map (·.blk) := fun hm => (hap.2 bm (HC.out _ hm)).2 rfl
  have hbo : bo ∉ g :: (L1 ++ L2).map (·.blk) := fun hm => (hap.2 bo (HC.out _ hm)).1 rfl
  have hr2 : ∀ c, c ≠ bm → c < w1.heap.size → w2.heap[c]? = w1.heap[c]? := fun c hc hl => hgrow2.block c hl (fun e => by cases e; exact hc rfl)
  refine ⟨rfl, ⟨⟨?_, ?_, ⟨_, _, hown2, HO.out.del HD.out.2 H.out.kd⟩, ?_, fun x hx => H.out.wf x (less_mem hx), fun x hx => H.out.pm x (less_mem hx)⟩, ?_, ?_⟩⟩
  · have hlo := hlt bo (by simp [fp])
    rw [hr2 bo hap.1 (Nat.lt_of_lt_of_le hlo hkp.size), hkp.block bo hlo hbo]; exact H.out.ord
  · obtain ⟨nx, pv, rl, hg, hL⟩ := hrg
    have hin : ∀ c ∈ g :: (L1 ++ L2).map (·.blk), c ≠ bm := fun c hc e => hbm (e ▸ hc)
    exact ⟨nx, pv, rl, (hr2 g (hin g (by simp)) (Array.getElem?_eq_some_iff.1 hg).1).trans hg, fun e he => (hr2 e.blk (hin e.blk (by simp only [List.mem_cons, List.mem_map]; exact .inr ⟨e, he, rfl⟩)) (Array.getElem?_eq_some_iff.1 (hL e he)).1).trans (hL e he)⟩
  · have := H.out.kd
    simp only [List.map_append, List.map_cons, List.nodup_append, List.nodup_cons, List.mem_cons] at this ⊢
    exact ⟨this.1, this.2.1.2, fun a ha b hb => this.2.2 a ha b (.inr hb)⟩
  · exact (hkp.sub (F' := fp bo bm g (L1 ++ e :: L2)) fun i hi => .inl (by simp only [fp]; exact List.mem_cons_of_mem _ (List.mem_cons_of_mem _ (HC.out _ hi)))).grown hgrow2 (by simp [fp])
  · intro i hi
    refine .inl ?_
    simp only [fp, List.mem_cons] at hi ⊢
    rcases hi with h | h | h
    · exact .inl h
    · exact .inr (.inl h)
    · exact .inr (.inr (by simpa using HC.out i (by simpa using h)))
end Go.Proofs.YtbamjfnjenmdaaaGreat.I

namespace Go.Proofs.YtbamjfnjenmdaaaGreat.I
open Go.RowKit Go.Maps
attribute [local go_sem] Oper.semAt_some
set_option linter.unusedVariables false
set_option linter.unusedSimpArgs false
set_option maxRecDepth 100000

theorem RO.setPins {w : World} {bo bm g : Nat} {L1 L2 : List Ent} {e : Ent} (h : RO w bo bm g (L1 ++ e :: L2)) (m : Nat) (hm : m ≤ 2147483647) :
    Act w (w.setCell ⟨e.blk, 1, none⟩ (.int .i64 m)) bo bm g (L1 ++ e :: L2) (L1 ++ ⟨e.key, m, e.blk⟩ :: L2) := by
  have hap := h.apart
  have hin : e.blk ∈ g :: (L1 ++ e :: L2).map (·.blk) := by simp
  have hmapb : (L1 ++ (⟨e.key, m, e.blk⟩ : Ent) :: L2).map (·.blk) = (L1 ++ e :: L2).map (·.blk) := by simp
  have hmapk : (L1 ++ (⟨e.key, m, e.blk⟩ : Ent) :: L2).map (·.key) = (L1 ++ e :: L2).map (·.key) := by simp
  have hfp : fp bo bm g (L1 ++ (⟨e.key, m, e.blk⟩ : Ent) :: L2) = fp bo bm g (L1 ++ e :: L2) := by simp only [fp, hmapb]
  obtain ⟨nx, pv, rl, hg, hL⟩ := h.rg
  obtain ⟨n, D, hmp, ho⟩ := h.mp
  have nd := rl.nd
  have hne : ∀ x ∈ L1 ++ L2, x.blk ≠ e.blk := by
    intro x hx
    simp only [List.map_append, List.map_cons, List.nodup_cons, List.mem_append, List.mem_cons, not_or, List.nodup_append, List.mem_map] at nd
    obtain ⟨⟨g1, g2, g3⟩, n1, ⟨n2, n3⟩, n4⟩ := nd
    rcases List.mem_append.1 hx with hx | hx
    · exact n4 _ ⟨x, hx, rfl⟩ _ (.inl rfl)
    · exact fun h => n2 ⟨x, hx, h⟩
  have hge : g ≠ e.blk := by
    intro h
    exact (List.nodup_cons.1 nd).1 (by rw [h]; simp)
  refine ⟨⟨?_, ⟨nx, pv, by rw [hmapb]; exact rl, ?_, ?_⟩, ⟨n, D, ownsMap_block hmp (heap_setCell_other _ _ _ _ (fun h => (hap.2 _ hin).2 h.symm)), ?_⟩, by rw [hmapk]; exact h.kd, ?_, ?_⟩, ?_, fun i hi => .inl (by rw [← hfp]; exact hi)⟩
  · rw [heap_setCell_other _ _ _ _ (fun h => (hap.2 _ hin).1 h.symm)]; exact h.ord
  · rw [heap_setCell_other _ _ _ _ hge]; exact hg
  · intro x hx
    rcases List.mem_append.1 hx with hx | hx
    · rw [heap_setCell_other _ _ _ _ (hne x (by simp [hx]))]; exact hL x (by simp [hx])
    · rcases List.mem_cons.1 hx with rfl | hx
      · rw [heap_setCell_same _ _ _ _ _ _ (hL e (by simp))]; rfl
      · rw [heap_setCell_other _ _ _ _ (hne x (by simp [hx]))]; exact hL x (by simp [hx])
  · refine ho.same (fun x hx => ?_) (fun x hx => ?_) (by simp)
    · rcases List.mem_append.1 hx with hx | hx
      · exact ⟨x, by simp [hx], rfl, rfl⟩
      · rcases List.mem_cons.1 hx with rfl | hx
        · exact ⟨e, by simp, rfl, rfl⟩
        · exact ⟨x, by simp [hx], rfl, rfl⟩
    · rcases List.mem_append.1 hx with hx | hx
      · exact ⟨x, by simp [hx], rfl⟩
      · rcases List.mem_cons.1 hx with rfl | hx
        · exact ⟨⟨x.key, m, x.blk⟩, by simp, rfl⟩
        · exact ⟨x, by simp [hx], rfl⟩
  · intro x hx
    rcases List.mem_append.1 hx with hx | hx
    · exact h.wf x (by simp [hx])
    · rcases List.mem_cons.1 hx with rfl | hx
      · exact h.wf e (by simp)
      · exact h.wf x (by simp [hx])
  · intro x hx
    rcases List.mem_append.1 hx with hx | hx
    · exact h.pm x (by simp [hx])
    · rcases List.mem_cons.1 hx with rfl | hx
      · exact hm
      · exact h.pm x (by simp [hx])
  · exact (Kp.refl w _).set (.inl (by simp only [fp]; exact List.mem_cons_of_mem _ (List.mem_cons_of_mem _ hin))) _
theorem RO.pinCell {w : World} {bo bm g : Nat} {L : List Ent} (h : RO w bo bm g L) {e : Ent} (he : e ∈ L) : w.cell? ⟨e.blk, 1, none⟩ = some (.int .i64 e.pins) ∧ w.frozen? ⟨e.blk, 1, none⟩ = false := by
  obtain ⟨nx, pv, rl, hg, hL⟩ := h.rg
  exact ⟨(cell_of (hL e he)).trans rfl, frozen_of (hL e he)⟩

theorem RO.mapLen {w : World} {bo bm g : Nat} {L : List Ent} (h : RO w bo bm g L) (ty : TypeId) : (Builtin.len_ #[TMp] ty #[.map (some bm)]).run Tryz.prog w = .ok (.int .i64 L.length) w := by
  obtain ⟨n, D, hmp, ho⟩ := h.mp
  rw [hmp.len Tryz.underlying147 ty, ho.size]
end Go.Proofs.YtbamjfnjenmdaaaGreat.I

namespace Go.Proofs.YtbamjfnjenmdaaaGreat.I
open Go.RowKit Go.Maps
attribute [local go_sem] Oper.semAt_some
set_option linter.unusedVariables false
set_option linter.unusedSimpArgs false
set_option maxRecDepth 100000

set_option maxHeartbeats 1000000 in
theorem new_any (w : World) : Calls Tryz.prog 51 #[] w fun r w' => ∃ bo bm g, r = .returned (.pointer (some ⟨bo, 0, none⟩)) ∧ RO w' bo bm g [] ∧ Below w.heap.size w w' ∧ ∀ i ∈ fp bo bm g [], w.heap.size ≤ i := by
  have hmk := fun (w : World) => run_makeMap (P := Tryz.prog) TMp w
  go_enter Tryz.func51, Tryz.ntmps51
  go_wp2
  go_ret
  have H : Hid (∀ (c : Obj) (d : Obj), (((w.alloc c).alloc (.map #[] 0)).alloc d).heap[w.heap.size]? = some c ∧ (((w.alloc c).alloc (.map #[] 0)).alloc d).heap[w.heap.size + 1]? = some (.map #[] 0) ∧ (((w.alloc c).alloc (.map #[] 0)).alloc d).heap[w.heap.size + 1 + 1]? = some d ∧ Below w.heap.size w (((w.alloc c).alloc (.map #[] 0)).alloc d)) := by
    intro c d
    have s1 : (w.alloc c).heap.size = w.heap.size + 1 := World.size_alloc _ _
    have s2 : ((w.alloc c).alloc (.map #[] 0)).heap.size = w.heap.size + 1 + 1 := by rw [World.size_alloc, s1]
    refine ⟨?_, ?_, ?_, ?_⟩
    · rw [Below.heap_alloc _ _ _ (by omega), Below.heap_alloc _ _ _ (by omega), heap_alloc_new]
    · rw [Below.heap_alloc _ _ _ (by omega), ← s1, heap_alloc_new]
    · rw [← s2, heap_alloc_new]
    · exact (((Below.refl _ w).alloc (Nat.le_refl _) _).alloc (by omega) _).alloc (by omega) _
  refine ⟨w.heap.size + 1 + 1, w.heap.size + 1, w.heap.size, rfl, ⟨?_, ⟨fun _ => w.heap.size, fun _ => w.heap.size, RingL.nil _ _ _ rfl rfl, ?_, by simp⟩, ⟨0, .map [], ?_, ?_⟩, by simp, by simp, by simp⟩, (H.out _ _).2.2.2, ?_⟩
  · exact (H.out _ _).2.2.1
  · exact (H.out _ _).1
  · exact ⟨#[], 0, (H.out _ _).2.1, ⟨by simp, ⟨by simp, by simp, by simp⟩, by simp⟩, Nat.le_refl _, rfl⟩
  · exact ⟨by simp, by simp, fun k _ => rfl, rfl⟩
  · intro i hi
    simp only [fp, List.map_nil, List.mem_cons, List.not_mem_nil, or_false] at hi
    omega
end Go.Proofs.YtbamjfnjenmdaaaGreat.I
