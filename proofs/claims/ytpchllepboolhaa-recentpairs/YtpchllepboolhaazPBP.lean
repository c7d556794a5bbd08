import Derived.Test.YtpchllepboolhaazPAP
namespace Go.Proofs.Ytpchllepboolhaa.P
open Go.RowKit Go.Maps
attribute [local go_sem] Oper.semAt_some
set_option linter.unusedVariables false
set_option linter.unusedSimpArgs false
set_option maxRecDepth 100000

theorem no_find {w : World} {bo bm g : Nat} {L : List Ent} (h : RO w bo bm g L) {k : PK} (hn : ∀ e ∈ L, e.key ≠ k) : Calls Try.prog 56 #[.pointer (some ⟨bo, 0, none⟩), kv k] (w.alloc (.cells #[.int .i64 k.1.1, .string k.1.2] TKey)) fun e w' => e = .returned (.tuple #[.pointer none, .bool true]) ∧ Below w.heap.size w w' := by
  have hB : Below w.heap.size w (w.alloc (.cells #[.int .i64 k.1.1, .string k.1.2] TKey)) := (Below.refl _ w).alloc (Nat.le_refl _) _
  have := find_later (h.later hB) k
  rw [look_no hn] at this
  exact this.mono fun r w' ⟨h1, h2⟩ => ⟨h1, hB.trans (h2.mono hB.size)⟩
theorem the_find {w : World} {bo bm g : Nat} {L : List Ent} (h : RO w bo bm g L) {e : Ent} (he : e ∈ L) : Calls Try.prog 56 #[.pointer (some ⟨bo, 0, none⟩), kv e.key] (w.alloc (.cells #[.int .i64 e.key.1.1, .string e.key.1.2] TKey)) fun r w' => r = .returned (.tuple #[.pointer (some ⟨e.blk, 0, none⟩), .bool true]) ∧ Below w.heap.size w w' := by
  have hB : Below w.heap.size w (w.alloc (.cells #[.int .i64 e.key.1.1, .string e.key.1.2] TKey)) := (Below.refl _ w).alloc (Nat.le_refl _) _
  have := find_later (h.later hB) e.key
  rw [look_mem he h.kd] at this
  exact this.mono fun r w' ⟨h1, h2⟩ => ⟨h1, hB.trans (h2.mono hB.size)⟩
theorem touch_no {w : World} {bo bm g : Nat} {L : List Ent} (h : RO w bo bm g L) {k : PK} (hn : ∀ e ∈ L, e.key ≠ k) :
    Calls Try.prog 17 #[.pointer (some ⟨bo, 0, none⟩), kv k] w fun r w' => r = .returned (.bool false) ∧ Below w.heap.size w w' := by
  have hf := no_find h hn
  obtain ⟨x0, x1⟩ := box_key w k
  clear h hn
  go_enter Try.func17, Try.ntmps17
  go_wp2_with (go_at_call 56; refine hf.mono ?_; rintro e w9 ⟨rfl, hb9⟩)
  go_ret
  exact ⟨rfl, hb9⟩
theorem perm_mem {L1 L2 : List Ent} {e x : Ent} : x ∈ L1 ++ L2 ++ [e] ↔ x ∈ L1 ++ e :: L2 := by
  simp only [List.mem_append, List.mem_cons, List.not_mem_nil, or_false]
  constructor
  · rintro ((h | h) | h)
    · exact .inl h
    · exact .inr (.inr h)
    · exact .inr (.inl h)
  · rintro (h | h | h)
    · exact .inl (.inl h)
    · exact .inr h
    · exact .inl (.inr h)
set_option maxHeartbeats 2000000 in
theorem touch_core {w : World} {bo bm g : Nat} {L1 L2 : List Ent} {e : Ent} (h : RO w bo bm g (L1 ++ e :: L2)) :
    Calls Try.prog 59 #[.pointer (some ⟨e.blk, 0, none⟩)] w fun r w1 => r = .returned (.tuple #[]) ∧ w1.cell? ⟨bo, 1, none⟩ = some (.pointer (some ⟨g, 0, none⟩)) ∧
      Calls Try.prog 57 #[.pointer (some ⟨e.blk, 0, none⟩), .pointer (some ⟨g, 0, none⟩)] w1 fun r w2 => r = .returned (.tuple #[]) ∧ Act w w2 bo bm g (L1 ++ e :: L2) (L1 ++ L2 ++ [e]) := by
  have H : Hid (RO w bo bm g (L1 ++ e :: L2)) := h
  have hlt := h.lt
  have hap := h.apart
  have hbo : bo ∉ g :: (L1 ++ L2).map (·.blk) := fun hm => (hap.2 bo (by simp only [List.map_append, List.map_cons, List.mem_cons, List.mem_append] at hm ⊢; rcases hm with h | h | h <;> simp [h])).1 rfl
  have HG : Hid (∀ w', Kp w w' (g :: (L1 ++ L2).map (·.blk)) → w'.cell? ⟨bo, 1, none⟩ = some (.pointer (some ⟨g, 0, none⟩))) := fun w' hk' => by
    have hb := hk'.block bo (hlt bo (by simp [fp])) hbo
    exact (cell_of (hb.trans h.ord)).trans rfl
  have HL : Hid (Calls Try.prog 59 #[.pointer (some ⟨e.blk, 0, none⟩)] w fun r w' => r = .returned (.tuple #[]) ∧ Rg w' g (L1 ++ L2) ∧ (∃ a b, w'.heap[e.blk]? = some (.cells #[.int .i64 e.key.1.1, .string e.key.1.2, .int .i64 e.pins, a, b] TPl (0, 0))) ∧ Kp w w' (g :: (L1 ++ L2).map (·.blk))) := leave_any h.ring
  have hnew : e.blk ∉ g :: (L1 ++ L2).map (·.blk) := by
    obtain ⟨nx, pv, rl, _, _⟩ := h.rg
    have nd := rl.nd
    simp only [List.map_append, List.map_cons, List.nodup_cons, List.mem_append, List.mem_cons, not_or, List.nodup_append] at nd
    obtain ⟨⟨g1, g2, g3⟩, n1, ⟨n2, n3⟩, n4⟩ := nd
    simp only [List.map_append, List.mem_cons, List.mem_append, not_or]
    exact ⟨fun h => g2 h.symm, fun h => n4 _ h _ (.inl rfl) rfl, n2⟩
  have HN : Hid (e.blk ∉ g :: (L1 ++ L2).map (·.blk)) := hnew
  clear hlt hap hbo hnew
  refine HL.out.mono ?_
  rintro r w1 ⟨rfl, hrg, ⟨va, vb, hpl⟩, hkp⟩
  refine ⟨rfl, HG.out w1 hkp, ?_⟩
  refine (enter_any hrg hpl HN.out).mono ?_
  rintro r w2 ⟨rfl, hrg2, hkp2⟩
  have hap := H.out.apart
  have hlt := H.out.lt
  have hsub : ∀ i ∈ e.blk :: g :: (L1 ++ L2).map (·.blk), i ∈ g :: (L1 ++ e :: L2).map (·.blk) := by
    intro i hi
    simp only [List.map_append, List.map_cons, List.mem_cons, List.mem_append] at hi ⊢
    rcases hi with h | h | h | h <;> simp [h]
  have hk : Kp w w2 (g :: (L1 ++ e :: L2).map (·.blk)) := (hkp.sub (F' := g :: (L1 ++ e :: L2).map (·.blk)) fun i hi => .inl (hsub i (List.mem_cons_of_mem _ hi))).trans (hkp2.sub (F' := g :: (L1 ++ e :: L2).map (·.blk)) fun i hi => .inl (hsub i hi)) (fun i hi => .inl hi)
  have hbo : bo ∉ g :: (L1 ++ e :: L2).map (·.blk) := fun hm => (hap.2 bo hm).1 rfl
  have hbm : bm ∉ g :: (L1 ++ e :: L2).map (·.blk) := fun hm => (hap.2 bm hm).2 rfl
  obtain ⟨n, D, hm, ho⟩ := H.out.mp
  refine ⟨rfl, ⟨⟨?_, hrg2, ⟨n, D, ownsMap_block hm (hk.block bm (hlt bm (by simp [fp])) hbm), ?_⟩, ?_, ?_, ?_⟩, hk.sub (fun i hi => .inl (by simp only [fp]; exact List.mem_cons_of_mem _ (List.mem_cons_of_mem _ hi))), ?_⟩⟩
  · rw [hk.block bo (hlt bo (by simp [fp])) hbo]; exact H.out.ord
  · exact ho.same (fun x hx => ⟨x, perm_mem.1 hx, rfl, rfl⟩) (fun x hx => ⟨x, perm_mem.2 hx, rfl⟩) (by simp)
  · have := H.out.kd
    simp only [List.map_append, List.map_cons, List.nodup_append, List.nodup_cons, List.mem_map, List.mem_cons, List.map_nil, List.mem_append, List.mem_singleton, List.not_mem_nil, List.nodup_nil] at this ⊢
    obtain ⟨h1, ⟨h2, h3⟩, h4⟩ := this
    refine ⟨⟨h1, h3, fun a ha b hb => h4 a ha b (.inr hb)⟩, ⟨by simp, trivial⟩, ?_⟩
    rintro a (ha | ha) b (rfl | hb)
    · exact h4 a ha _ (.inl rfl)
    · exact hb.elim
    · rintro rfl; exact h2 ha
    · exact hb.elim
  · intro x hx; exact H.out.wf x (perm_mem.1 hx)
  · intro x hx; exact H.out.pm x (perm_mem.1 hx)
  · intro i hi
    refine .inl ?_
    simp only [fp, List.mem_cons, List.mem_map] at hi ⊢
    rcases hi with h | h | h | ⟨x, hx, h⟩
    · exact .inl h
    · exact .inr (.inl h)
    · exact .inr (.inr (.inl h))
    · exact .inr (.inr (.inr ⟨x, perm_mem.1 hx, h⟩))

set_option maxHeartbeats 2000000 in
theorem touch_any {w : World} {bo bm g : Nat} {L1 L2 : List Ent} {e : Ent} (h : RO w bo bm g (L1 ++ e :: L2)) :
    Calls Try.prog 17 #[.pointer (some ⟨bo, 0, none⟩), kv e.key] w fun r w' => r = .returned (.bool true) ∧ Act w w' bo bm g (L1 ++ e :: L2) (L1 ++ L2 ++ [e]) := by
  have hf := the_find h (e := e) (by simp)
  obtain ⟨x0, x1⟩ := box_key w e.key
  have H : Hid (RO w bo bm g (L1 ++ e :: L2)) := h
  clear h
  go_enter Try.func17, Try.ntmps17
  go_wp2_with (first | (go_at_call 56; refine hf.mono ?_; rintro e w9 ⟨rfl, hb9⟩; have HB9 : Hid (Below w.heap.size w w9) := hb9; have hcore := touch_core (H.out.later hb9); clear hb9) | (go_at_call 59; refine hcore.mono ?_; clear hcore; rintro r w1 ⟨rfl, hgp, hent⟩) | (go_at_call 57; refine hent.mono ?_; clear hent; rintro r w2 ⟨rfl, hact⟩; have HA : Hid (Act w9 w2 bo bm g (L1 ++ e :: L2) (L1 ++ L2 ++ [e])) := hact; clear hact))
  go_ret
  exact ⟨rfl, HA.out.from_later HB9.out⟩
end Go.Proofs.Ytpchllepboolhaa.P
