import Derived.Test.YtlacligofhinmaaGreatV12
import Derived.Maps.RangeWalk
namespace Go.Proofs.YtlacligofhinmaaGreat.K
open Go.RowKit Go.Maps Go.Proofs.YtlacligofhinmaaGreat Go.MuLone
attribute [local go_sem] Oper.semAt_some
set_option linter.unusedVariables false
set_option linter.unusedSimpArgs false
set_option maxRecDepth 100000

/-- the bytes of all sectors -/
def imgL (n : Nat) (F : Nat → Bl) : List Nat := (List.range n).flatMap F
theorem imgL_succ (n : Nat) (F : Nat → Bl) : imgL (n + 1) F = imgL n F ++ F n := by simp [imgL, List.range_succ]
theorem imgL_len {F : Nat → Bl} : ∀ {n : Nat}, (∀ s, s < n → (F s).length = 512) → (imgL n F).length = n * 512
  | 0, _ => rfl
  | n + 1, h => by rw [imgL_succ, List.length_append, imgL_len (fun s hs => h s (by omega)), h n (by omega)]; omega
theorem imgL_get {F : Nat → Bl} : ∀ {n s j : Nat}, (∀ s, s < n → (F s).length = 512) → s < n → j < 512 → (imgL n F)[s * 512 + j]? = (F s)[j]?
  | 0, _, _, _, h, _ => by omega
  | n + 1, s, j, hl, h, hj => by
    have hlen := imgL_len (n := n) (F := F) (fun t ht => hl t (by omega))
    rw [imgL_succ]
    rcases Nat.lt_or_ge s n with hs | hs
    · rw [List.getElem?_append_left (by rw [hlen]; have := Nat.mul_le_mul_right 512 (show s + 1 ≤ n from hs); omega)]
      exact imgL_get (fun t ht => hl t (by omega)) hs hj
    · have e : s = n := by omega
      subst e
      rw [List.getElem?_append_right (by rw [hlen]; omega), hlen, Nat.add_sub_cancel_left]
theorem imgL_ext {F : Nat → Bl} {n : Nat} {L : List Nat} (hl : ∀ s, s < n → (F s).length = 512) (hL : L.length = n * 512) (h : ∀ s j, s < n → j < 512 → L[s * 512 + j]? = (F s)[j]?) : L = imgL n F := by
  apply List.ext_getElem?
  intro i
  rcases Nat.lt_or_ge i (n * 512) with hi | hi
  · have e : i = i / 512 * 512 + i % 512 := by omega
    have h1 : i / 512 < n := by omega
    rw [e, h _ _ h1 (Nat.mod_lt _ (by decide)), imgL_get hl h1 (Nat.mod_lt _ (by decide))]
  · rw [List.getElem?_eq_none (by omega), List.getElem?_eq_none (by rw [imgL_len hl]; omega)]
/-- one sector copied in -/
theorem imgL_put {F : Nat → Bl} {n s : Nat} {l : Bl} (hl : ∀ s, s < n → (F s).length = 512) (hs : s < n) (hll : l.length = 512) : (imgL n F).take (s * 512) ++ l ++ (imgL n F).drop (s * 512 + 512) = imgL n (upd F s l) := by
  have hlen := imgL_len hl
  have hm := Nat.mul_le_mul_right 512 (show s + 1 ≤ n from hs)
  have ht : ((imgL n F).take (s * 512)).length = s * 512 := by rw [List.length_take, hlen]; omega
  refine imgL_ext (fun t ht => ?_) ?_ ?_
  · unfold upd; split
    · exact hll
    · exact hl t ht
  · rw [List.length_append, List.length_append, ht, hll, List.length_drop, hlen]; omega
  · intro t j h1 h2
    rcases Nat.lt_trichotomy t s with h3 | h3 | h3
    · have := Nat.mul_le_mul_right 512 (show t + 1 ≤ s from h3)
      rw [List.getElem?_append_left (by rw [List.length_append, ht]; omega), List.getElem?_append_left (by rw [ht]; omega), List.getElem?_take, if_pos (by omega), imgL_get hl h1 h2]
      simp [upd, show ¬ t = s by omega]
    · subst h3
      rw [List.getElem?_append_left (by rw [List.length_append, ht, hll]; omega), List.getElem?_append_right (by rw [ht]; omega), ht, Nat.add_sub_cancel_left]
      simp [upd]
    · have := Nat.mul_le_mul_right 512 (show s + 1 ≤ t from h3)
      rw [List.getElem?_append_right (by rw [List.length_append, ht, hll]; omega), List.length_append, ht, hll, List.getElem?_drop, show s * 512 + 512 + (t * 512 + j - (s * 512 + 512)) = t * 512 + j by omega, imgL_get hl h1 h2]
      simp [upd, show ¬ t = s by omega]
theorem info5x : (Tryz.prog.info? 5).map (fun i => (i.zero, i.size, i.bytes)) = some (some (.int .u8 0), 1, 1) := by kernel_rfl
theorem run_image (w : World) {n : Nat} (hn : n ≤ 65536) : (Instr.makeSlice 52 (.int .i64 ((n : Int) * 512)) (.int .i64 ((n : Int) * 512))).run Tryz.prog w = .ok (.slice (some ⟨w.heap.size, 0, none⟩) (n * 512) (n * 512)) (w.alloc (.cells ((imgL n (fun _ => z512)).map bv).toArray 5)) := by
  obtain ⟨i0, hi, hz0, hz1, hz2⟩ := info_parts info5x
  have h1 := run_make (P := Tryz.prog) w 52 5 i0 (.int .u8 0) Tryz.underlying52 hi hz0 .i64 .i64 ((n : Int) * 512) ((n : Int) * 512) (by omega) (Int.le_refl _) (by rw [hz2]; omega) (by omega)
  have e : ((n : Int) * 512).toNat = n * 512 := by omega
  rw [e, hz1] at h1
  rw [h1]
  congr 3
  apply Array.ext_getElem?
  intro k
  have hl : (imgL n (fun _ => z512)).length = n * 512 := imgL_len (fun _ _ => by simp [z512])
  rcases Nat.lt_or_ge k (n * 512) with hk | hk
  · have e1 : (imgL n (fun _ => z512))[k]? = some 0 := by
      have e2 : k = k / 512 * 512 + k % 512 := by omega
      rw [e2, imgL_get (fun _ _ => by simp [z512]) (by omega) (Nat.mod_lt _ (by decide))]
      have := Nat.mod_lt k (show 0 < 512 by decide)
      unfold z512
      rw [List.getElem?_replicate, if_pos this]
    have e3 : ((imgL n (fun _ => z512)).map bv).toArray[k]? = some (.int .u8 0) := by
      simp only [List.getElem?_toArray, List.getElem?_map, e1]; rfl
    rw [e3]
    simp [madeCells, Value.cells, hk, Nat.mod_one]
  · rw [Array.getElem?_eq_none (by simp [madeCells]; omega), Array.getElem?_eq_none (by simp [hl]; omega)]
/-- what has been copied, by what is still to come -/
def pic (left : Lit → Bool) (f : Nat → Bl) (s : Nat) : Bl := if left (kl s) then z512 else f s
theorem pic_len {left : Lit → Bool} {f : Nat → Bl} {n : Nat} (h : ∀ s, s < n → OkB (f s)) : ∀ s, s < n → (pic left f s).length = 512 := fun s hs => by
  unfold pic; split
  · exact okZ.len
  · exact (h s hs).len
theorem imgL_congr {F G : Nat → Bl} : ∀ {n : Nat}, (∀ s, s < n → F s = G s) → imgL n F = imgL n G
  | 0, _ => rfl
  | n + 1, h => by rw [imgL_succ, imgL_succ, imgL_congr (fun s hs => h s (by omega)), h n (by omega)]
theorem pic_start {n : Nat} {f : Nat → Bl} {D : DataW Unit} (h : SafeOk n f D) (hd : ∀ x, Maps.has D x = false → ∀ z, D.atKey x z = z) : imgL n (pic (Maps.has D) f) = imgL n (fun _ => z512) := imgL_congr fun s hs => by
  unfold pic
  cases hh : Maps.has D (kl s) with
  | true => rfl
  | false => have := h.at_ s hs; rw [hd _ hh] at this; simp; exact (bD_inj this).symm
theorem pic_step {n s : Nat} (hn : n ≤ 65536) {f : Nat → Bl} {left : Lit → Bool} (h : ∀ s, s < n → OkB (f s)) : imgL n (upd (pic left f) s (f s)) = imgL n (pic (fun z => left z && !z.sameKey (kl s)) f) := imgL_congr fun t ht => by
  by_cases e : t = s
  · subst e
    have : (kl t).sameKey (kl t) = true := WideAt.sameKey_self (keyed.key (keyOf_int_mk Tryz.underlying3 (a := (t : Int)) (wfI t (by omega))))
    simp [upd, pic, this]
  · have : (kl t).sameKey (kl s) = false := by
      cases hh : (kl t).sameKey (kl s) with
      | false => rfl
      | true => have := WideAt.sameKey_eq hh; simp at this; omega
    simp [upd, e, pic, this]
theorem blkE_agg {v : Value} {y : DataW Unit × List MemPlace} (h : blkE v = some y) : ∃ c, v = .agg c := by
  unfold blkE at h
  split at h
  · exact ⟨_, rfl⟩
  · cases h

set_option maxHeartbeats 2000000 in
theorem image_any {w : World} {b ms ml : Nat} {qv fv : Value} {S : Dk} (h : RK w 0 b ms ml qv fv S) :
    Calls Tryz.prog 25 #[.pointer (some ⟨b, 0, none⟩)] w fun r w' => ∃ v, r = .returned v ∧ w'.ownsRow w.heap.size 5 1 v (S.n * 512) ((imgL S.n S.safe).map bv) ∧ DAct w w' 0 b ms ml ms ml qv fv qv fv S := by
  have hus := usable_any h
  have c0 : w.cell? ⟨b, 0, none⟩ = some (.int .i32 0) := h.c 0
  have z0 := h.fz 0
  have a1 := (DAct.refl h).put 0 (.int .i32 1) 1 S.st rfl
  obtain ⟨w1, hw1⟩ : ∃ w1, w1 = w.setCell ⟨b, 0, none⟩ (.int .i32 1) := ⟨_, rfl⟩
  rw [← hw1] at a1
  have HA1 : Hid (DAct w w1 1 b ms ml ms ml qv fv qv fv S) := a1
  have c2 : w1.cell? ⟨b, 2, none⟩ = some (.int .i64 S.n) := a1.rk.c 2
  have hn0 := h.n0
  have hn1 := h.n1
  have hz := zeroBl
  have hmk := run_image w1 hn1
  obtain ⟨I0, hI0⟩ : ∃ I0, I0 = ((imgL S.n (fun _ => z512)).map bv).toArray := ⟨_, rfl⟩
  rw [← hI0] at hmk
  have hB2 : Below w1.heap.size w1 (w1.alloc (.cells I0 5)) := (Below.refl _ w1).alloc (Nat.le_refl _) _
  have a2 := a1.later hB2
  have c3 : (w1.alloc (.cells I0 5)).cell? ⟨b, 3, none⟩ = some (.map (some ms)) := a2.rk.c 3
  obtain ⟨D, hm, hso⟩ := a2.rk.sm
  have HM : Hid ((w1.alloc (.cells I0 5)).ownsMap Tryz.prog TIn blkE ms (Maps.size D) D) := hm
  have HSO : Hid (SafeOk S.n S.safe D) := hso
  have HP0 : Hid (I0 = ((imgL S.n (pic (Maps.has D) S.safe)).map bv).toArray) := by
    show _ = _
    rw [hI0, pic_start hso (fun x hx z => Maps.atKey_of_not_has hx z)]
  have HG0 : Hid ((w1.alloc (.cells I0 5)).heap[w1.heap.size]? = some (.cells I0 5)) := heap_alloc_new w1 _
  have HB2 : Hid (Below w1.heap.size w1 (w1.alloc (.cells I0 5))) := hB2
  clear h a1 a2 hm hso hI0 hB2
  go_enter_defers Tryz.func25, Tryz.ntmps25
  go_wp2_with (first | (go_at_call 60; refine hus.mono ?_; rintro e w9 ⟨rfl, hw9⟩; rw [hw9]; clear hw9 hus) | (go_at_call 61; refine (lock_free Tryz.muLib ⟨b, 0, none⟩ _ c0 z0).mono ?_; rintro e w9 ⟨rfl, hw9⟩; rw [hw9, ← hw1]; clear hw9 hw1 c0 z0) | (at_range; refine wpList_range_own _ rfl _ TMs rfl TIn TBl keyed Tryz.underlying113 blkE ms _ D rfl HM.out ?_; intro w3 hrg hg3 hs3))
  go_frame
  have hs2 : (w1.alloc (.cells I0 5)).heap.size = w1.heap.size + 1 := World.size_alloc _ _
  rw [hs2] at hrg hs3
  rw [hs2]
  have HR0 : Hid (w3.ranges Tryz.prog TIn blkE ms (w1.heap.size + 1) (Maps.size D) D (Maps.has D) (Maps.size D)) := hrg
  have HG3 : Hid (w3.heap[w1.heap.size]? = some (.cells ((imgL S.n (pic (Maps.has D) S.safe)).map bv).toArray 5)) := by
    show _ = _
    rw [← HP0.out]
    exact (hg3.block _ (by rw [hs2]; omega) (by simp)).trans HG0.out
  have HB3 : Hid (Below w1.heap.size w1 w3) := HB2.out.trans ⟨hg3.os, hg3.tape, hg3.output, hg3.size, fun i hi => hg3.block i (by rw [hs2]; omega) (by simp)⟩
  clear hrg hg3
  go_loopw [4] (fun _ wr => ∃ left cnt, Hid (wr.ranges Tryz.prog TIn blkE ms (w1.heap.size + 1) (Maps.size D) D left cnt) ∧ Hid (wr.heap[w1.heap.size]? = some (.cells ((imgL S.n (pic left S.safe)).map bv).toArray 5)) ∧ Hid (Below w1.heap.size w1 wr)) (fun _ wr => wr.rangeLeft ms (w1.heap.size + 1))
  case atStart => exact ⟨_, _, HR0, HG3, HB3⟩
  case round =>
    obtain ⟨left, cnt, HR, HG, HB⟩ := hrel
    go_wp2_with (at_next; refine wpList_next_ranges _ rfl _ rfl TIn keyed blkE (Value.int .i64) Value.agg (fun key kl hkey => by obtain ⟨x, rfl, _⟩ := Maps.keyOf_int_inv Tryz.underlying3 hkey; exact ⟨x, rfl⟩) (fun v y hv => blkE_agg hv) ms (w1.heap.size + 1) _ D left cnt rfl HR.out ?_ ?_)
    · intro hc0 hl0
      have HGE : Hid (wr.heap[w1.heap.size]? = some (.cells ((imgL S.n S.safe).map bv).toArray 5)) := by
        have h1 := HG.out
        rw [imgL_congr (G := S.safe) (fun s _ => by simp [pic, hl0])] at h1
        exact h1
      have a9 := HA1.out.later HB.out
      clear hl0 HG HR
      go_wp2
      refine leaves_cons (f := 62) (args := #[.pointer (some ⟨b, 0, none⟩)]) (by simp) (by simp [go_sem]) ?_
      refine (unlock_deferred Tryz.muLib ⟨b, 0, none⟩ .returning _ (a9.rk.c 0) (a9.rk.fz 0)).mono ?_
      rintro e u' w'' ⟨rfl, rfl, rfl⟩
      refine ⟨_, results_tmp rfl _ _ _, _, rfl, ?_, a9.put 0 (.int .i32 0) 0 S.st rfl⟩
      have hne : w1.heap.size ≠ b := by have := HA1.out.rk.lt b (by simp [fp]); omega
      have hlen : (imgL S.n S.safe).length = S.n * 512 := imgL_len (fun s hs => (HSO.out.ok s hs).len)
      refine ⟨by rw [List.length_map, hlen, Nat.mul_one], .inr ⟨w1.heap.size, S.n * 512, _, rfl, HA1.out.kp.size, (Below.heap_setCell _ _ _ _ hne).trans HGE.out, Nat.le_refl _, by unfold maxLen; omega, by simp [hlen], ?_⟩⟩
      rw [Nat.mul_one, List.take_of_length_le (by simp [hlen])]
    · intro x c kl' y1 y2 w4 cnt1 hkey hlk hv hat hrg1 hlt1 hg1 hs1 hen
      obtain ⟨x', ex, rfl, hwx⟩ := Maps.keyOf_int_inv Tryz.underlying3 hkey
      cases ex
      obtain ⟨s, hs, es⟩ := HSO.out.has_ _ (Maps.has_true_of_atKey hat)
      have hxs : x = (s : Int) := by simpa using es
      subst hxs
      have hy : y1 = bD (S.safe s) := by rw [← hat (bD z512)]; exact HSO.out.at_ s hs
      subst hy
      have hcv := blkE_some hv
      have hcl : c = Lc (S.safe s) := by simpa [bval, Lc] using hcv
      have hok := HSO.out.ok s hs
      obtain ⟨l, hl⟩ : ∃ l, l = S.safe s := ⟨_, rfl⟩
      rw [← hl] at hcl hok
      have HOK : Hid (OkB l) := hok
      have HCL : Hid (c = Lc l) := hcl
      have hg5 := heap_alloc_new w4 (.cells Zc TBl)
      have hnew4 := World.setRow_alloc_new w4 Zc (Lc l) TBl
      rw [hs1] at hg5 hnew4
      have HT5 : Hid ((w4.alloc (.cells Zc TBl)).there wr.heap.size 0 c.size) := there_row hg5 (by rw [hcl, Lc_size hok, Zc_size]; decide)
      have HE5 : Hid ((w4.alloc (.cells Zc TBl)).setCells wr.heap.size 0 c.toList = w4.alloc (.cells c TBl)) := by
        show _ = _
        rw [hcl]; exact (setCells_row hok hg5 Zc_size).trans hnew4
      have HZ5 : Hid ((Tryz.prog.info? TBl).map (·.size) = some c.size) := by show _ = _; rw [hcl, Lc_size hok]; exact sizeBl
      have HO5 : Hid (c.all (·.oneCell') = true) := by show _ = _; rw [hcl]; exact Lc_one l
      have hb1 : (0 : Int) ≤ (s : Int) * 512 := by omega
      have hb2 : (s : Int) * 512 ≤ (S.n : Int) * 512 := by omega
      clear hnew4 hg5 hcv hv hat hkey hwx es hcl hok
      go_wp2_with (refine is_store TBl _ _ rfl ?_; refine wpList_store_mid rfl TBl _ _ rfl wr.heap.size 0 c rfl rfl HT5.out HZ5.out HO5.out ?_; rw [HE5.out])
      go_frame
      have htn : ((s : Int) * 512).toNat = s * 512 := by omega
      have hsl : s * 512 ≤ S.n * 512 := by omega
      have hsl2 : s * 512 < S.n * 512 := by omega
      have hn1a : ¬ (S.n * 512 = s * 512) := by omega
      have hn2a : ¬ (s * 512 = S.n * 512) := by omega
      have hn3a : ¬ (S.n = s) := by omega
      have hn4a : ¬ (s = S.n) := by omega
      have hn5a : ¬ (S.n * 512 - s * 512 = 0) := by omega
      have hn6a : ¬ (S.n * 512 ≤ s * 512) := by omega
      have hwr : IntKind.i64.wrap ((s : Int) * 512) = (s : Int) * 512 := by rw [IntKind.wrap_i64]; omega
      obtain ⟨W5, hW5⟩ : ∃ W5, W5 = w4.alloc (.cells c TBl) := ⟨_, rfl⟩
      have hb5 : Below w4.heap.size w4 W5 := by rw [hW5]; exact (Below.refl _ w4).alloc (Nat.le_refl _) _
      have hgr1 : wr.grownBy w4 (some (w1.heap.size + 1)) := hg1
      have hlr := HR.out.lt
      have hg4 : W5.heap[w1.heap.size]? = some (.cells ((imgL S.n (pic left S.safe)).map bv).toArray 5) := by
        rw [hb5.block _ (by rw [hs1]; omega)]
        exact (hg1.block _ (by omega) (by simp)).trans HG.out
      have hbx5 : W5.heap[wr.heap.size]? = some (.cells (Lc l) TBl) := by rw [hW5, ← hs1, ← HCL.out]; exact heap_alloc_new w4 _
      have hlen : (imgL S.n (pic left S.safe)).length = S.n * 512 := imgL_len (pic_len (fun s hs => HSO.out.ok s hs))
      have hcp : ∀ ty, (Builtin.copy_ #[52, 52] ty #[.slice (some ⟨w1.heap.size, s * 512, none⟩) (S.n * 512 - s * 512) (S.n * 512 - s * 512), .slice (some ⟨wr.heap.size, 0, none⟩) 512 512]).run Tryz.prog W5.drew = .ok (goInt 512) (W5.drew.setRow w1.heap.size ((imgL S.n (pic (fun z => left z && !z.sameKey (kl s)) S.safe)).map bv).toArray) := fun ty => by
        have h1 := run_copy_row (P := Tryz.prog) W5.drew 52 52 ty 5 w1.heap.size (s * 512) (S.n * 512 - s * 512) (S.n * 512 - s * 512) ⟨wr.heap.size, 0, none⟩ 512 512 ((imgL S.n (pic left S.safe)).map bv).toArray 5 (l.map bv) Tryz.underlying52 sizeU8 hg4 (by rw [List.length_map, HOK.out.len]; have := Nat.mul_le_mul_right 512 (show s + 1 ≤ S.n from hs); exact (Nat.min_eq_left (by omega)).symm) (fun j v hv => by rw [add_plain, Nat.zero_add]; exact (cell_of (w := W5.drew) hbx5).trans (by simpa [Lc] using hv)) (by have := Nat.mul_le_mul_right 512 (show s + 1 ≤ S.n from hs); simp [hlen, HOK.out.len]; omega) (Lc_one' l)
        rw [List.length_map, HOK.out.len] at h1
        rw [h1]
        congr 2
        have e1 := imgL_put (F := pic left S.safe) (l := l) (pic_len (fun s hs => HSO.out.ok s hs)) hs HOK.out.len
        have e2 := pic_step (s := s) (f := S.safe) (left := left) hn1 (n := S.n) (fun s hs => HSO.out.ok s hs)
        rw [hl] at e1
        rw [e2] at e1
        rw [← e1, ← hl]
        simp [List.map_append, List.map_take, List.map_drop]
      have HW6 : Hid (∀ W6, W6 = W5.drew.setRow w1.heap.size ((imgL S.n (pic (fun z => left z && !z.sameKey (kl s)) S.safe)).map bv).toArray → Hid (W6.ranges Tryz.prog TIn blkE ms (w1.heap.size + 1) (Maps.size D) D (fun z => left z && !z.sameKey (kl s)) cnt1) ∧ Hid (W6.heap[w1.heap.size]? = some (.cells ((imgL S.n (pic (fun z => left z && !z.sameKey (kl s)) S.safe)).map bv).toArray 5)) ∧ Hid (Below w1.heap.size w1 W6) ∧ W6.rangeLeft ms (w1.heap.size + 1) < wr.rangeLeft ms (w1.heap.size + 1)) := fun W6 hW6 => by
        have hgw : W5.grownBy W6 (some w1.heap.size) := by
          rw [hW6]; exact ⟨rfl, rfl, rfl, by simp [World.setRow], fun k _ hn => setRow_other _ _ _ _ (fun e => hn (by rw [e]))⟩
        have hms1 : ms < w1.heap.size := HA1.out.rk.lt ms (by simp [fp])
        have hr5 : W5.ranges Tryz.prog TIn blkE ms (w1.heap.size + 1) (Maps.size D) D (fun z => left z && !z.sameKey (kl s)) cnt1 := by rw [hW5]; exact hrg1.alloc _
        have hr6 := hr5.kept hgw (fun e => by have := Option.some.inj e; omega) (fun e => by have := Option.some.inj e; omega)
        have hBw4 : Below w1.heap.size w1 w4 := HB.out.grown hgr1 HB.out.size (fun k e => by have := Option.some.inj e; omega)
        have hBw5 : Below w1.heap.size w1 W5 := hBw4.trans (hb5.mono hBw4.size)
        refine ⟨hr6, by show _ = _; rw [hW6]; exact setRow_heap (W5.drew) _ _ _ _ _ hg4, hBw5.grown hgw hBw5.size (fun k e => by cases e; exact Nat.le_refl _), ?_⟩
        rw [hr6.left_eq, HR.out.left_eq]
        exact hlt1
      rw [← hW5]
      clear hW5 hg4 hbx5 hb5 hlen
      go_region
      go_wp2
      obtain ⟨r1, r2, r3, r4⟩ := HW6.out _ rfl
      exact ⟨⟨_, _, r1, r2, r3⟩, r4⟩
end Go.Proofs.YtlacligofhinmaaGreat.K
