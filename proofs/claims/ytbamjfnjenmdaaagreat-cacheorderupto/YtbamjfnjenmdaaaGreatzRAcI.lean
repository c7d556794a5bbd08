import Derived.Test.YtbamjfnjenmdaaaGreatG19
import Derived.Carry
namespace Go.Proofs.YtbamjfnjenmdaaaGreat.I
open Go.RowKit Go.Maps
attribute [local go_sem] Oper.semAt_some
set_option linter.unusedVariables false
set_option linter.unusedSimpArgs false
set_option maxRecDepth 100000

theorem MapOk.same {L L' : List Ent} {D : DataW Unit} (h : MapOk L D) (h1 : ∀ e ∈ L', ∃ e' ∈ L, e'.key = e.key ∧ e'.blk = e.blk) (h2 : ∀ e ∈ L, ∃ e' ∈ L', e'.key = e.key) (hl : L'.length = L.length) : MapOk L' D :=
  ⟨fun e he => by obtain ⟨e', he', hk, hb⟩ := h1 e he; rw [← hk, ← hb]; exact h.at_ e' he',
   fun e he => by obtain ⟨e', he', hk, hb⟩ := h1 e he; rw [← hk]; exact h.has_ e' he',
   fun k hk => h.no k fun e he => by obtain ⟨e', he', hk'⟩ := h2 e he; rw [← hk']; exact hk e' he',
   h.size.trans hl.symm⟩
theorem MapOk.put {L : List Ent} {D : DataW Unit} (h : MapOk L D) (hm : IsMap D) (ht : Tidy D) {k : Int} (hk : wfK k) (hn : ∀ e ∈ L, e.key ≠ k) (n p : Nat) : MapOk (L ++ [⟨k, n, p⟩]) (D.put (kl k) (.lit (.int .i64 p))) := by
  have hl := keyed.key (keyAt hk)
  refine ⟨fun e he => ?_, fun e he => ?_, fun k' hk' => ?_, ?_⟩
  · rcases List.mem_append.1 he with he | he
    · rw [atKey_put_other (fun e' => hn e he (kl_inj e'))]; exact h.at_ e he
    · simp only [List.mem_singleton] at he; subst he; exact atKey_put_same hm hl _ _
  · rcases List.mem_append.1 he with he | he
    · rw [has_put_other (fun e' => hn e he (kl_inj e'))]; exact h.has_ e he
    · simp only [List.mem_singleton] at he; subst he; exact has_put_same hm hl _
  · have h0 : k ≠ k' := hk' ⟨k, n, p⟩ (by simp)
    rw [has_put_other (fun e' => h0 (kl_inj e').symm)]
    exact h.no k' fun e he => hk' e (by simp [he])
  · rw [size_put ht, h.no k hn, h.size]; simp
theorem MapOk.del {L1 L2 : List Ent} {e : Ent} {D : DataW Unit} (h : MapOk (L1 ++ e :: L2) D) (ht : Tidy D) (hd : ((L1 ++ e :: L2).map (·.key)).Nodup) : MapOk (L1 ++ L2) (D.del (kl e.key)) := by
  have hne : ∀ x ∈ L1 ++ L2, x.key ≠ e.key := by
    intro x hx he
    simp only [List.map_append, List.map_cons, List.nodup_append, List.nodup_cons, List.mem_map, List.mem_cons] at hd
    obtain ⟨_, ⟨h2, _⟩, h3⟩ := hd
    rcases List.mem_append.1 hx with hx | hx
    · exact h3 _ ⟨x, hx, rfl⟩ _ (.inl rfl) he
    · exact h2 ⟨x, hx, he⟩
  have hin : ∀ x ∈ L1 ++ L2, x ∈ L1 ++ e :: L2 := fun x hx => by rcases List.mem_append.1 hx with h | h <;> simp [h]
  refine ⟨fun x hx => ?_, fun x hx => ?_, fun k hk => ?_, ?_⟩
  · rw [atKey_del_other (fun e' => hne x hx (kl_inj e'))]; exact h.at_ x (hin x hx)
  · rw [has_del_other (fun e' => hne x hx (kl_inj e'))]; exact h.has_ x (hin x hx)
  · by_cases hke : kl k = kl e.key
    · rw [hke]; exact has_del_same
    · rw [has_del_other hke]
      exact h.no k fun x hx => by
        rcases List.mem_append.1 hx with hx | hx
        · exact hk x (by simp [hx])
        · rcases List.mem_cons.1 hx with rfl | hx
          · exact fun e' => hke (by rw [e'])
          · exact hk x (by simp [hx])
  · have := size_del (k := kl e.key) ht
    rw [h.has_ e (by simp), h.size] at this
    simp at this ⊢
    omega

theorem RO.ring {w : World} {bo bm g : Nat} {L : List Ent} (h : RO w bo bm g L) : Rg w g L := h.rg
theorem RO.gap {w : World} {bo bm g : Nat} {L : List Ent} (h : RO w bo bm g L) : w.cell? ⟨bo, 1, none⟩ = some (.pointer (some ⟨g, 0, none⟩)) := (cell_of h.ord).trans rfl
theorem RO.map0 {w : World} {bo bm g : Nat} {L : List Ent} (h : RO w bo bm g L) : w.cell? ⟨bo, 0, none⟩ = some (.map (some bm)) := (cell_of h.ord).trans rfl
/-- the order's own block, the map's and the places' are apart -/
theorem RO.apart {w : World} {bo bm g : Nat} {L : List Ent} (h : RO w bo bm g L) : bo ≠ bm ∧ (∀ c ∈ g :: L.map (·.blk), c ≠ bo ∧ c ≠ bm) := by
  obtain ⟨nx, pv, rl, hg, hL⟩ := h.rg
  obtain ⟨n, D, ⟨es, clock, hm, _⟩, _⟩ := h.mp
  have hall : ∀ c ∈ g :: L.map (·.blk), ∃ k' n' o' x', w.heap[c]? = some (plc k' n' o' x') := by
    intro c hc
    rcases List.mem_cons.1 hc with rfl | hc
    · exact ⟨_, _, _, _, hg⟩
    · obtain ⟨e, he, rfl⟩ := List.mem_map.1 hc
      exact ⟨_, _, _, _, hL e he⟩
  refine ⟨fun e => ?_, fun c hc => ⟨fun e => ?_, fun e => ?_⟩⟩
  · have := h.ord; rw [e, hm] at this; cases this
  · obtain ⟨_, _, _, _, h1⟩ := hall c hc
    rw [e, h.ord] at h1; simp [plc, TOrd, TPl] at h1
  · obtain ⟨_, _, _, _, h1⟩ := hall c hc
    rw [e, hm] at h1; simp [plc] at h1
theorem Kp.sub {w w' : World} {F F' : List Nat} (h : Kp w w' F) (hs : ∀ i ∈ F, i ∈ F' ∨ w.heap.size ≤ i) : Kp w w' F' :=
  ⟨h.os, h.tape, h.output, h.size, fun i hi hn => h.block i hi fun hm => (hs i hm).elim hn fun h => by omega⟩
theorem Kp.alloc (w : World) (o : Obj) (F : List Nat) : Kp w (w.alloc o) F := Kp.of_below ((Below.refl _ w).alloc (Nat.le_refl _) o) F
theorem Kp.grown {w w' w'' : World} {F : List Nat} {b : Nat} (h : Kp w w' F) (hg : w'.grownBy w'' (some b)) (hb : b ∈ F) : Kp w w'' F :=
  ⟨hg.os.trans h.os, hg.tape.trans h.tape, hg.output.trans h.output, Nat.le_trans h.size hg.size, fun i hi hn => (hg.block i (Nat.lt_of_lt_of_le hi h.size) (fun e => by cases e; exact hn hb)).trans (h.block i hi hn)⟩

theorem add_old {w : World} {bo bm g : Nat} {L : List Ent} (h : RO w bo bm g L) {e : Ent} (he : e ∈ L) :
    Calls Tryz.prog 56 #[.pointer (some ⟨bo, 0, none⟩), kv e.key] w fun r w' => r = .returned (.bool false) ∧ w' = w := by
  have hf := find_any h (h.wf e he)
  rw [look_mem he h.kd] at hf
  go_enter Tryz.func56, Tryz.ntmps56
  go_wp2_with (go_at_call 71; refine hf.mono ?_; rintro e w9 ⟨rfl, hw9⟩; rw [hw9]; clear hw9)
  go_ret
  exact ⟨rfl, rfl⟩
/-- what an action leaves of an order: the blocks are its own or new -/
structure Act (w w' : World) (bo bm g : Nat) (L L' : List Ent) : Prop where
  ro : RO w' bo bm g L'
  kp : Kp w w' (fp bo bm g L)
  sub : ∀ i ∈ fp bo bm g L', i ∈ fp bo bm g L ∨ w.heap.size ≤ i
theorem Act.refl {w : World} {bo bm g : Nat} {L : List Ent} (h : RO w bo bm g L) : Act w w bo bm g L L := ⟨h, Kp.refl _ _, fun _ h => .inl h⟩
theorem nd_snoc {L : List Ent} {k : Int} {n p : Nat} (h : (L.map (·.key)).Nodup) (hn : ∀ e ∈ L, e.key ≠ k) : ((L ++ [(⟨k, n, p⟩ : Ent)]).map (·.key)).Nodup := by
  rw [List.map_append, List.nodup_append]
  refine ⟨h, by simp, ?_⟩
  intro a ha b hb
  simp at hb; subst hb
  obtain ⟨e, he, rfl⟩ := List.mem_map.1 ha
  exact hn e he

set_option maxHeartbeats 2000000 in
theorem add_new {w : World} {bo bm g : Nat} {L : List Ent} (h : RO w bo bm g L) {k : Int} (hk : wfK k) (hn : ∀ e ∈ L, e.key ≠ k) (hl : L.length < maxLen) :
    Calls Tryz.prog 56 #[.pointer (some ⟨bo, 0, none⟩), kv k] w fun r w' => r = .returned (.bool true) ∧ ∃ p, Act w w' bo bm g L (L ++ [⟨k, 0, p⟩]) := by
  have hf := find_any h hk
  rw [look_no hn] at hf
  have H : Hid (RO w bo bm g L) := h
  have hb1 : Below w.heap.size w (w.alloc (.cells #[kv k, .int .i64 0, .pointer none, .pointer none] TPl)) := (Below.refl _ w).alloc (Nat.le_refl _) _
  have H1 : Hid (RO (w.alloc (.cells #[kv k, .int .i64 0, .pointer none, .pointer none] TPl)) bo bm g L) := h.later hb1
  have hgap := H1.out.gap
  have hlt := h.lt
  have hap := h.apart
  have HE : Hid (Calls Tryz.prog 73 #[.pointer (some ⟨w.heap.size, 0, none⟩), .pointer (some ⟨g, 0, none⟩)] (w.alloc (.cells #[kv k, .int .i64 0, .pointer none, .pointer none] TPl)) fun e w' => e = .returned (.tuple #[]) ∧ Rg w' g (L ++ [⟨k, 0, w.heap.size⟩]) ∧ Kp w w' (g :: L.map (·.blk))) := by
    have hnew : w.heap.size ∉ g :: L.map (·.blk) := fun hm => by
      have := hlt w.heap.size (by simp only [fp]; exact List.mem_cons_of_mem _ (List.mem_cons_of_mem _ hm)); omega
    refine (enter_any (k := k) (n := 0) H1.out.ring (by rw [heap_alloc_new]; rfl) hnew).mono ?_
    rintro e w' ⟨he, hr, hk⟩
    exact ⟨he, hr, (Kp.alloc w _ (g :: L.map (·.blk))).trans (hk.sub (F' := w.heap.size :: g :: L.map (·.blk)) fun i hi => .inl hi) (fun i hi => by
      rcases List.mem_cons.1 hi with rfl | hi
      · exact .inr (Nat.le_refl _)
      · exact .inl hi)⟩
  obtain ⟨n, D, hm, ho⟩ := h.mp
  have ht := ownsMap_tight hm
  rw [ho.size] at ht
  have HF : Hid (∀ w', Kp w w' (g :: L.map (·.blk)) → w'.cell? ⟨bo, 0, none⟩ = some (.map (some bm)) ∧ w'.ownsMap Tryz.prog TKey ptrE bm L.length D) := fun w' hk' => by
    have hb := hk'.block bo (hlt bo (by simp [fp])) (fun hm => (hap.2 bo hm).1 rfl)
    have hb2 := hk'.block bm (hlt bm (by simp [fp])) (fun hm => (hap.2 bm hm).2 rfl)
    exact ⟨(cell_of (hb.trans h.ord)).trans rfl, ownsMap_block ht hb2⟩
  have HO : Hid (MapOk L D) := ho
  have HD : Hid (IsMap D ∧ Tidy D) := ⟨hm.isMap, hm.tidy keyed⟩
  clear h hb1 hlt hap hm ho ht
  go_enter Tryz.func56, Tryz.ntmps56
  go_wp2_with (first | (go_at_call 71; refine hf.mono ?_; rintro e w9 ⟨rfl, hw9⟩; rw [hw9]; clear hw9) | (go_at_call 73; refine HE.out.mono ?_; rintro e w1 ⟨rfl, hrg, hkp⟩; have hF := HF.out w1 hkp; have hc0 := hF.1; have HF2 : Hid (w1.ownsMap Tryz.prog TKey ptrE bm L.length D) := hF.2; clear hF) | (at_mapUpdate; refine wpList_mapUpdate_own _ rfl _ _ _ TMp rfl TKey TPt keyed Tryz.underlying147 _ bm L.length D rfl HF2.out hl _ _ (kl k) rfl rfl (keyAt hk) (.lit (.int .i64 w.heap.size)) [] rfl ?_; intro w2 hown2 hgrow2))
  go_ret
  have hap := H.out.apart
  have hlt := H.out.lt
  have hbm : bm ∉ g :: L.map (·.blk) := fun hm => (hap.2 bm hm).2 rfl
  have hbo : bo ∉ g :: L.map (·.blk) := fun hm => (hap.2 bo hm).1 rfl
  have hlb := hlt bm (by simp [fp])
  have hkp2 : Kp w w2 (fp bo bm g L) := (hkp.sub (F' := fp bo bm g L) fun i hi => .inl (by simp only [fp]; exact List.mem_cons_of_mem _ (List.mem_cons_of_mem _ hi))).grown hgrow2 (by simp [fp])
  have hr2 : ∀ c, c ≠ bm → c < w1.heap.size → w2.heap[c]? = w1.heap[c]? := fun c hc hl => hgrow2.block c hl (fun e => by cases e; exact hc rfl)
  refine ⟨rfl, w.heap.size, ⟨⟨?_, ?_, ?_, ?_, ?_, ?_⟩, hkp2, ?_⟩⟩
  · have hlo := hlt bo (by simp [fp])
    rw [hr2 bo hap.1 (Nat.lt_of_lt_of_le hlo hkp.size), hkp.block bo hlo hbo]; exact H.out.ord
  · obtain ⟨nx, pv, rl, hg, hL⟩ := hrg
    have hin : ∀ c ∈ g :: (L ++ [(⟨k, 0, w.heap.size⟩ : Ent)]).map (·.blk), c ≠ bm := by
      intro c hc e
      subst e
      rw [List.map_append, ← List.cons_append] at hc
      rcases List.mem_append.1 hc with hc | hc
      · exact hbm hc
      · simp at hc; omega
    exact ⟨nx, pv, rl, (hr2 g (hin g (by simp)) (Array.getElem?_eq_some_iff.1 hg).1).trans hg, fun e he => (hr2 e.blk (hin e.blk (by simp only [List.mem_cons, List.mem_map]; exact .inr ⟨e, he, rfl⟩)) (Array.getElem?_eq_some_iff.1 (hL e he)).1).trans (hL e he)⟩
  · exact ⟨_, _, hown2, HO.out.put HD.out.1 HD.out.2 hk hn 0 w.heap.size⟩
  · exact nd_snoc H.out.kd hn
  · intro e he
    rcases List.mem_append.1 he with he | he
    · exact H.out.wf e he
    · simp at he; subst he; exact hk
  · intro e he
    rcases List.mem_append.1 he with he | he
    · exact H.out.pm e he
    · simp at he; subst he; exact Nat.zero_le _
  · intro i hi
    simp only [fp, List.map_append, List.mem_cons, List.mem_append, List.map_cons, List.map_nil, List.not_mem_nil, or_false] at hi ⊢
    rcases hi with h | h | h | h | h
    · exact .inl (.inl h)
    · exact .inl (.inr (.inl h))
    · exact .inl (.inr (.inr (.inl h)))
    · exact .inl (.inr (.inr (.inr h)))
    · exact .inr (by omega)
end Go.Proofs.YtbamjfnjenmdaaaGreat.I
