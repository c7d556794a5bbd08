import Derived.Test.YtpchllepboolhaazPBP
import Derived.Deep.RegionHeld3
namespace Go.Proofs.Ytpchllepboolhaa.P
open Go.RowKit Go.Maps
attribute [local go_sem] Oper.semAt_some
set_option linter.unusedVariables false
set_option linter.unusedSimpArgs false
set_option maxRecDepth 100000

theorem drop_no {w : World} {bo bm g : Nat} {L : List Ent} (h : RO w bo bm g L) {k : PK} (hn : ∀ e ∈ L, e.key ≠ k) :
    Calls Try.prog 19 #[.pointer (some ⟨bo, 0, none⟩), kv k] w fun r w' => r = .returned (.bool false) ∧ Below w.heap.size w w' := by
  have hf := no_find h hn
  obtain ⟨x0, x1⟩ := box_key w k
  clear h hn
  go_enter Try.func19, Try.ntmps19
  go_wp2_with (go_at_call 56; refine hf.mono ?_; rintro e w9 ⟨rfl, hb9⟩)
  go_ret
  exact ⟨rfl, hb9⟩
theorem less_mem {L1 L2 : List Ent} {e x : Ent} (h : x ∈ L1 ++ L2) : x ∈ L1 ++ e :: L2 := by rcases List.mem_append.1 h with h | h <;> simp [h]
set_option maxHeartbeats 2000000 in
theorem drop_core {w : World} {bo bm g : Nat} {L1 L2 : List Ent} {e : Ent} (h : RO w bo bm g (L1 ++ e :: L2)) (ty : TypeId) :
    Calls Try.prog 59 #[.pointer (some ⟨e.blk, 0, none⟩)] w fun r w1 => r = .returned (.tuple #[]) ∧ Kp w w1 (g :: (L1 ++ L2).map (·.blk)) ∧ w1.cell? ⟨bo, 0, none⟩ = some (.map (some bm)) ∧
      ∃ w2, (Builtin.delete_ #[TMp, TKey] ty #[.map (some bm), .agg #[.int .i64 e.key.1.1, .string e.key.1.2]]).run Try.prog w1.drew = .ok (.tuple #[]) w2 ∧ w1.grownBy w2 (some bm) ∧ Act w w2 bo bm g (L1 ++ e :: L2) (L1 ++ L2) := by
  have H : Hid (RO w bo bm g (L1 ++ e :: L2)) := h
  have hlt := h.lt
  have hap := h.apart
  obtain ⟨n, D, hm, ho⟩ := h.mp
  have hk : wfK e.key := trivial
  have hcut : ∀ c, c ∈ g :: (L1 ++ L2).map (·.blk) → c ∈ g :: (L1 ++ e :: L2).map (·.blk) := by
    intro c hm
    simp only [List.map_append, List.map_cons, List.mem_cons, List.mem_append] at hm ⊢
    rcases hm with h | h | h <;> simp [h]
  have HF : Hid (∀ w', Kp w w' (g :: (L1 ++ L2).map (·.blk)) → w'.cell? ⟨bo, 0, none⟩ = some (.map (some bm)) ∧ w'.ownsMap Try.prog TKey ptrE bm n D) := fun w' hk' => by
    have hb := hk'.block bo (hlt bo (by simp [fp])) (fun hm => (hap.2 bo (hcut _ hm)).1 rfl)
    have hb2 := hk'.block bm (hlt bm (by simp [fp])) (fun hm => (hap.2 bm (hcut _ hm)).2 rfl)
    exact ⟨(cell_of (hb.trans h.ord)).trans rfl, ownsMap_block hm hb2⟩
  have HL : Hid (Calls Try.prog 59 #[.pointer (some ⟨e.blk, 0, none⟩)] w fun r w' => r = .returned (.tuple #[]) ∧ Rg w' g (L1 ++ L2) ∧ (∃ a b, w'.heap[e.blk]? = some (.cells #[.int .i64 e.key.1.1, .string e.key.1.2, .int .i64 e.pins, a, b] TPl (0, 0))) ∧ Kp w w' (g :: (L1 ++ L2).map (·.blk))) := leave_any h.ring
  have HO : Hid (MapOk (L1 ++ e :: L2) D) := ho
  have HD : Hid (IsMap D ∧ Tidy D) := ⟨hm.isMap, hm.tidy keyed⟩
  have HC : Hid (∀ c, c ∈ g :: (L1 ++ L2).map (·.blk) → c ∈ g :: (L1 ++ e :: L2).map (·.blk)) := hcut
  clear hlt hap hcut hm ho
  refine HL.out.mono ?_
  rintro r w1 ⟨rfl, hrg, hpl, hkp⟩
  have hF := HF.out w1 hkp
  have hmd : w1.drew.ownsMap Try.prog TKey ptrE bm n D := ownsMap_block hF.2 rfl
  obtain ⟨w2, hrun, hown2, hturn2⟩ := hmd.drop keyed Try.underlying79 (keyAt hk) ty
  have hg0 := hturn2.grown
  have hgrow2 : w1.grownBy w2 (some bm) := ⟨hg0.os, hg0.tape, hg0.output, hg0.size, hg0.block⟩
  refine ⟨rfl, hkp, hF.1, w2, hrun, hgrow2, ?_⟩
  have hap := H.out.apart
  have hlt := H.out.lt
  have hbm : bm ∉ g :: (L1 ++ L2).map (·.blk) := fun hm => (hap.2 bm (HC.out _ hm)).2 rfl
  have hbo : bo ∉ g :: (L1 ++ L2).map (·.blk) := fun hm => (hap.2 bo (HC.out _ hm)).1 rfl
  have hr2 : ∀ c, c ≠ bm → c < w1.heap.size → w2.heap[c]? = w1.heap[c]? := fun c hc hl => hgrow2.block c hl (fun e => by cases e; exact hc rfl)
  refine ⟨⟨?_, ?_, ⟨_, _, hown2, HO.out.del HD.out.2 H.out.kd⟩, ?_, fun x hx => H.out.wf x (less_mem hx), fun x hx => H.out.pm x (less_mem hx)⟩, ?_, ?_⟩
  · have hlo := hlt bo (by simp [fp])
    rw [hr2 bo hap.1 (Nat.lt_of_lt_of_le hlo hkp.size), hkp.block bo hlo hbo]; exact H.out.ord
  · obtain ⟨nx, pv, rl, hg, hL⟩ := hrg
    have hin : ∀ c ∈ g :: (L1 ++ L2).map (·.blk), c ≠ bm := fun c hc e => hbm (e ▸ hc)
    exact ⟨nx, pv, rl, (hr2 g (hin g (by simp)) (Array.getElem?_eq_some_iff.1 hg).1).trans hg, fun e he => (hr2 e.blk (hin e.blk (by simp only [List.mem_cons, List.mem_map]; exact .inr ⟨e, he, rfl⟩)) (Array.getElem?_eq_some_iff.1 (hL e he)).1).trans (hL e he)⟩
  · have := H.out.kd
    simp only [List.map_append, List.map_cons, List.nodup_append, List.nodup_cons, List.mem_cons] at this ⊢
    exact ⟨this.1, this.2.1.2, fun a ha b hb => this.2.2 a ha b (.inr hb)⟩
  · exact (hkp.sub (F' := fp bo bm g (L1 ++ e :: L2)) fun i hi => .inl (by simp only [fp]; exact List.mem_cons_of_mem _ (List.mem_cons_of_mem _ (HC.out _ hi)))).grown hgrow2 (by simp [fp])
  · intro i hi
    refine .inl ?_
    simp only [fp, List.mem_cons] at hi ⊢
    rcases hi with h | h | h
    · exact .inl h
    · exact .inr (.inl h)
    · exact .inr (.inr (by simpa using HC.out i (by simpa using h)))
set_option maxHeartbeats 2000000 in
theorem drop_any {w : World} {bo bm g : Nat} {L1 L2 : List Ent} {e : Ent} (h : RO w bo bm g (L1 ++ e :: L2)) :
    Calls Try.prog 19 #[.pointer (some ⟨bo, 0, none⟩), kv e.key] w fun r w' => r = .returned (.bool true) ∧ Act w w' bo bm g (L1 ++ e :: L2) (L1 ++ L2) := by
  have hB : Below w.heap.size w (w.alloc (.cells #[.int .i64 e.key.1.1, .string e.key.1.2] TKey)) := (Below.refl _ w).alloc (Nat.le_refl _) _
  have hf := find_later (h.later hB) e.key
  rw [look_mem (by simp) h.kd] at hf
  obtain ⟨x0, x1⟩ := box_key w e.key
  have HB : Hid (Below w.heap.size w (w.alloc (.cells #[.int .i64 e.key.1.1, .string e.key.1.2] TKey))) := hB
  have H : Hid (RO w bo bm g (L1 ++ e :: L2)) := h
  have hnw : Hid (∀ c ∈ g :: (L1 ++ L2).map (·.blk), c < w.heap.size) := fun c hc => h.lt c (by
    simp only [List.map_append, List.mem_cons, List.mem_append] at hc
    simp only [fp, List.map_append, List.map_cons, List.mem_cons, List.mem_append]
    rcases hc with h | h | h <;> simp [h])
  have hbmw : Hid (bm < w.heap.size) := h.lt bm (by simp [fp])
  clear hB h
  go_enter Try.func19, Try.ntmps19
  go_wp2_with (first
    | (go_at_call 56; refine hf.mono ?_; rintro r9 w9 ⟨rfl, hb9⟩; have HB9 : Hid (Below w.heap.size w w9) := HB.out.trans (hb9.mono HB.out.size); have HK9 : Hid (w.heap.size < w9.heap.size) := (by have := hb9.size; rw [World.size_alloc] at this; exact this); have hbk := hb9.block w.heap.size (by rw [World.size_alloc]; omega); have z0 : w9.cell? ⟨w.heap.size, 0, none⟩ = some (.int .i64 e.key.1.1) := (World.cell?_of_block hbk).trans x0; have z1 : w9.cell? ⟨w.heap.size, 1, none⟩ = some (.string e.key.1.2) := (World.cell?_of_block hbk).trans x1; have hcore := drop_core (H.out.later HB9.out) 0; clear hb9 hbk)
    | (go_at_call 59; refine hcore.mono ?_; clear hcore; rintro r w1 ⟨rfl, hkp, hc0, w2, hmu, hgr, hact⟩; have hne1 : w.heap.size ∉ g :: (L1 ++ L2).map (·.blk) := (fun hm => by have := hnw.out _ hm; omega); have hb1 := hkp.block w.heap.size HK9.out hne1; have y0 : w1.cell? ⟨w.heap.size, 0, none⟩ = some (.int .i64 e.key.1.1) := (World.cell?_of_block hb1).trans z0; have y1 : w1.cell? ⟨w.heap.size, 1, none⟩ = some (.string e.key.1.2) := (World.cell?_of_block hb1).trans z1; have HA2 : Hid (Act w9 w2 bo bm g (L1 ++ e :: L2) (L1 ++ L2)) := hact; have hb2 := hgr.block w.heap.size (Nat.lt_of_lt_of_le HK9.out hkp.size) (fun e => by have := hbmw.out; cases e; omega); have HS2 : Hid (w2.cell? ⟨bo, 0, none⟩ = some (.map (some bm)) ∧ w2.cell? ⟨w.heap.size, 0, none⟩ = some (.int .i64 e.key.1.1) ∧ w2.cell? ⟨w.heap.size, 1, none⟩ = some (.string e.key.1.2)) := ⟨hact.ro.map0, (World.cell?_of_block hb2).trans y0, (World.cell?_of_block hb2).trans y1⟩; clear hkp hact hgr hb1 hb2 hne1))
  go_region_held3 (fun w' => w'.cell? ⟨bo, 0, none⟩ = some (.map (some bm)) ∧ w'.cell? ⟨w.heap.size, 0, none⟩ = some (.int .i64 e.key.1.1) ∧ w'.cell? ⟨w.heap.size, 1, none⟩ = some (.string e.key.1.2)) (first | exact HS2.out | go_keep) (fail)
  go_wp2
  go_ret
  exact ⟨rfl, HA2.out.from_later HB9.out⟩
end Go.Proofs.Ytpchllepboolhaa.P
