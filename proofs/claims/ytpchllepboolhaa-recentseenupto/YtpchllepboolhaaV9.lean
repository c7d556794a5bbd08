import Derived.Test.YtpchllepboolhaaRCI
import Derived.Test.YtpchllepboolhaaRBI
namespace Go.Proofs.Ytpchllepboolhaa.I
open Go.RowKit Go.Maps
attribute [local go_sem] Oper.semAt_some
set_option linter.unusedVariables false
set_option linter.unusedSimpArgs false
set_option maxRecDepth 100000

theorem unpin_no {w : World} {bo bm g : Nat} {L : List Ent} (h : RO w bo bm g L) {k : Int} (hk : wfK k) (hn : ∀ e ∈ L, e.key ≠ k) :
    Calls Try.prog 43 #[.pointer (some ⟨bo, 0, none⟩), kv k] w fun r w' => r = .returned (.bool false) ∧ w' = w := by
  have hf := no_find h hk hn
  go_enter Try.func43, Try.ntmps43
  go_wp2_with (go_at_call 65; refine hf.mono ?_; rintro e w9 ⟨rfl, hw9⟩; rw [hw9]; clear hw9)
  go_ret
  exact ⟨rfl, rfl⟩
theorem unpin_zero {w : World} {bo bm g : Nat} {L : List Ent} (h : RO w bo bm g L) {e : Ent} (he : e ∈ L) (hp : e.pins = 0) :
    Calls Try.prog 43 #[.pointer (some ⟨bo, 0, none⟩), kv e.key] w fun r w' => r = .returned (.bool false) ∧ w' = w := by
  have hf := the_find h he
  have hfr := h.free he
  rw [show decide (e.pins = 0) = true from decide_eq_true hp] at hfr
  clear hp
  go_enter Try.func43, Try.ntmps43
  go_wp2_with (first | (go_at_call 65; refine hf.mono ?_; rintro e w9 ⟨rfl, hw9⟩; rw [hw9]; clear hw9) | (go_at_call 71; refine hfr.mono ?_; rintro e w9 ⟨rfl, hw9⟩; rw [hw9]; clear hw9))
  go_ret
  exact ⟨rfl, rfl⟩
theorem unpin_any {w : World} {bo bm g : Nat} {L1 L2 : List Ent} {e : Ent} (h : RO w bo bm g (L1 ++ e :: L2)) (hp : e.pins ≠ 0) :
    Calls Try.prog 43 #[.pointer (some ⟨bo, 0, none⟩), kv e.key] w fun r w' => r = .returned (.bool true) ∧ Act w w' bo bm g (L1 ++ e :: L2) (L1 ++ ⟨e.key, e.pins - 1, e.blk⟩ :: L2) := by
  have hf := the_find h (e := e) (by simp)
  have hfr := h.free (e := e) (by simp)
  rw [show decide (e.pins = 0) = false from decide_eq_false hp] at hfr
  obtain ⟨hc, hz⟩ := h.pinCell (e := e) (by simp)
  have hpm := h.pm e (by simp)
  have HS : Hid (Act w (w.setCell ⟨e.blk, 1, none⟩ (.int .i64 ((e.pins : Int) - 1))) bo bm g (L1 ++ e :: L2) (L1 ++ ⟨e.key, e.pins - 1, e.blk⟩ :: L2)) := by
    have := h.setPins (e.pins - 1) (by omega)
    rw [show ((e.pins - 1 : Nat) : Int) = (e.pins : Int) - 1 by omega] at this
    exact this
  have hp1 : 0 < (e.pins : Int) := by omega
  have hp2 : (e.pins : Int) ≤ 2147483647 := by omega
  clear h hp hpm
  generalize (e.pins : Int) = x at hc hp1 hp2 HS
  go_enter Try.func43, Try.ntmps43
  go_wp2_with (first | (go_at_call 65; refine hf.mono ?_; rintro e w9 ⟨rfl, hw9⟩; rw [hw9]; clear hw9) | (go_at_call 71; refine hfr.mono ?_; rintro e w9 ⟨rfl, hw9⟩; rw [hw9]; clear hw9))
  go_ret
  exact ⟨rfl, HS.out⟩
theorem has_no {w : World} {bo bm g : Nat} {L : List Ent} (h : RO w bo bm g L) {k : Int} (hk : wfK k) (hn : ∀ e ∈ L, e.key ≠ k) :
    Calls Try.prog 40 #[.pointer (some ⟨bo, 0, none⟩), kv k] w fun r w' => r = .returned (.bool false) ∧ w' = w := by
  have hf := no_find h hk hn
  go_enter Try.func40, Try.ntmps40
  go_wp2_with (go_at_call 65; refine hf.mono ?_; rintro e w9 ⟨rfl, hw9⟩; rw [hw9]; clear hw9)
  go_ret
  exact ⟨rfl, rfl⟩
theorem has_any {w : World} {bo bm g : Nat} {L : List Ent} (h : RO w bo bm g L) {e : Ent} (he : e ∈ L) :
    Calls Try.prog 40 #[.pointer (some ⟨bo, 0, none⟩), kv e.key] w fun r w' => r = .returned (.bool true) ∧ w' = w := by
  have hf := the_find h he
  go_enter Try.func40, Try.ntmps40
  go_wp2_with (go_at_call 65; refine hf.mono ?_; rintro e w9 ⟨rfl, hw9⟩; rw [hw9]; clear hw9)
  go_ret
  exact ⟨rfl, rfl⟩
end Go.Proofs.Ytpchllepboolhaa.I

namespace Go.Proofs.Ytpchllepboolhaa.I
open Go.RowKit Go.Maps
attribute [local go_sem] Oper.semAt_some
set_option linter.unusedVariables false
set_option linter.unusedSimpArgs false
set_option maxRecDepth 100000

theorem drop_no {w : World} {bo bm g : Nat} {L : List Ent} (h : RO w bo bm g L) {k : Int} (hk : wfK k) (hn : ∀ e ∈ L, e.key ≠ k) :
    Calls Try.prog 33 #[.pointer (some ⟨bo, 0, none⟩), kv k] w fun r w' => r = .returned (.bool false) ∧ w' = w := by
  have hf := no_find h hk hn
  go_enter Try.func33, Try.ntmps33
  go_wp2_with (go_at_call 65; refine hf.mono ?_; rintro e w9 ⟨rfl, hw9⟩; rw [hw9]; clear hw9)
  go_ret
  exact ⟨rfl, rfl⟩
theorem less_mem {L1 L2 : List Ent} {e x : Ent} (h : x ∈ L1 ++ L2) : x ∈ L1 ++ e :: L2 := by rcases List.mem_append.1 h with h | h <;> simp [h]
set_option maxHeartbeats 2000000 in
theorem drop_any {w : World} {bo bm g : Nat} {L1 L2 : List Ent} {e : Ent} (h : RO w bo bm g (L1 ++ e :: L2)) :
    Calls Try.prog 33 #[.pointer (some ⟨bo, 0, none⟩), kv e.key] w fun r w' => r = .returned (.bool true) ∧ Act w w' bo bm g (L1 ++ e :: L2) (L1 ++ L2) := by
  have hf := the_find h (e := e) (by simp)
  have H : Hid (RO w bo bm g (L1 ++ e :: L2)) := h
  have hlt := h.lt
  have hap := h.apart
  obtain ⟨n, D, hm, ho⟩ := h.mp
  have hk := h.wf e (by simp)
  have hcut : ∀ c, c ∈ g :: (L1 ++ L2).map (·.blk) → c ∈ g :: (L1 ++ e :: L2).map (·.blk) := by
    intro c hm
    simp only [List.map_append, List.map_cons, List.mem_cons, List.mem_append] at hm ⊢
    rcases hm with h | h | h <;> simp [h]
  have HF : Hid (∀ w', Kp w w' (g :: (L1 ++ L2).map (·.blk)) → w'.cell? ⟨bo, 0, none⟩ = some (.map (some bm)) ∧ w'.ownsMap Try.prog TKey ptrE bm n D) := fun w' hk' => by
    have hb := hk'.block bo (hlt bo (by simp [fp])) (fun hm => (hap.2 bo (hcut _ hm)).1 rfl)
    have hb2 := hk'.block bm (hlt bm (by simp [fp])) (fun hm => (hap.2 bm (hcut _ hm)).2 rfl)
    exact ⟨(cell_of (hb.trans h.ord)).trans rfl, ownsMap_block hm hb2⟩
  have HL : Hid (Calls Try.prog 66 #[.pointer (some ⟨e.blk, 0, none⟩)] w fun r w' => r = .returned (.tuple #[]) ∧ Rg w' g (L1 ++ L2) ∧ (∃ a b, w'.heap[e.blk]? = some (.cells #[kv e.key, .int .i64 e.pins, a, b] TPl (0, 0))) ∧ Kp w w' (g :: (L1 ++ L2).map (·.blk))) := leave_any h.ring
  have HO : Hid (MapOk (L1 ++ e :: L2) D) := ho
  have HD : Hid (IsMap D ∧ Tidy D) := ⟨hm.isMap, hm.tidy keyed⟩
  have HC : Hid (∀ c, c ∈ g :: (L1 ++ L2).map (·.blk) → c ∈ g :: (L1 ++ e :: L2).map (·.blk)) := hcut
  clear h hlt hap hcut hm ho
  go_enter Try.func33, Try.ntmps33
  go_wp2_with (first | (go_at_call 65; refine hf.mono ?_; rintro e w9 ⟨rfl, hw9⟩; rw [hw9]; clear hw9) | (go_at_call 66; refine HL.out.mono ?_; rintro r w1 ⟨rfl, hrg, hpl, hkp⟩; have hF := HF.out w1 hkp; have hc0 := hF.1; have HF2 : Hid (w1.ownsMap Try.prog TKey ptrE bm n D) := hF.2; clear hF hpl) | (at_delete; refine wpList_delete_own _ rfl _ _ TMp TKey rfl TPt keyed Try.underlying67 _ bm n D rfl HF2.out _ _ rfl (keyAt hk) ?_; intro w2 hown2 hturn2))
  go_ret
  have hap := H.out.apart
  have hlt := H.out.lt
  have hgrow2 := hturn2.grown
  have hbm : bm ∉ g :: (L1 ++ L2).map (·.blk) := fun hm => (hap.2 bm (HC.out _ hm)).2 rfl
  have hbo : bo ∉ g :: (L1 ++ L2).map (·.blk) := fun hm => (hap.2 bo (HC.out _ hm)).1 rfl
  have hr2 : ∀ c, c ≠ bm → c < w1.heap.size → w2.heap[c]? = w1.heap[c]? := fun c hc hl => hgrow2.block c hl (fun e => by cases e; exact hc rfl)
  refine ⟨rfl, ⟨⟨?_, ?_, ⟨_, _, hown2, HO.out.del HD.out.2 H.out.kd⟩, ?_, fun x hx => H.out.wf x (less_mem hx), fun x hx => H.out.pm x (less_mem hx)⟩, ?_, ?_⟩⟩
  · have hlo := hlt bo (by simp [fp])
    rw [hr2 bo hap.1 (Nat.lt_of_lt_of_le hlo hkp.size), hkp.block bo hlo hbo]; exact H.out.ord
  · obtain ⟨nx, pv, rl, hg, hL⟩ := hrg
    have hin : ∀ c ∈ g :: (L1 ++ L2).map (·.blk), c ≠ bm := fun c hc e => hbm (e ▸ hc)
    exact ⟨nx, pv, rl, (hr2 g (hin g (by simp)) (Array.getElem?_eq_some_iff.1 hg).1).trans hg, fun e he => (hr2 e.blk (hin e.blk (by simp only [List.mem_cons, List.mem_map]; exact .inr ⟨e, he, rfl⟩)) (Array.getElem?_eq_some_iff.1 (hL e he)).1).trans (hL e he)⟩
  · have := H.out.kd
    simp only [List.map_append, List.map_cons, List.nodup_append, List.nodup_cons, List.mem_cons] at this ⊢
    exact ⟨this.1, this.2.1.2, fun a ha b hb => this.2.2 a ha b (.inr hb)⟩
  · exact (hkp.sub (F' := fp bo bm g (L1 ++ e :: L2)) fun i hi => .inl (by simp only [fp]; exact List.mem_cons_of_mem _ (List.mem_cons_of_mem _ (HC.out _ hi)))).grown hgrow2 (by simp [fp])
  · intro i hi
    refine .inl ?_
    simp only [fp, List.mem_cons] at hi ⊢
    rcases hi with h | h | h
    · exact .inl h
    · exact .inr (.inl h)
    · exact .inr (.inr (by simpa using HC.out i (by simpa using h)))
end Go.Proofs.Ytpchllepboolhaa.I
