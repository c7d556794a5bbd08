import Derived.Test.YtoabigjajnikcaaTT
import Derived.Test.YtoabigjajnikcaaTUe
namespace Go.Proofs.Ytoabigjajnikcaa
open Go.RowKit Go.Maps
attribute [local go_sem] Oper.semAt_some
set_option linter.unusedVariables false
set_option linter.unusedSimpArgs false
set_option maxRecDepth 100000

set_option maxHeartbeats 2000000 in
theorem lend_any (ao : Option Addr) (cap n : Nat) (l : List Nat) (w : World) (h : BRow w ao cap l) (HN : Hid (l.length = n)) (hn : n ≤ 1099511627776) :
    Calls Try.prog 37 #[.slice ao n cap] w fun e w' => ∃ g cp, e = .returned (.slice (some ⟨g, 0, none⟩) n cp) ∧ w'.ownsRow w.heap.size 5 1 (.slice (some ⟨g, 0, none⟩) (n + 3) cp) (n + 3) ((l ++ [90, 91, 92]).map bv) ∧ Below w.heap.size w w' := by
  obtain ⟨i0, hi, hz0, hz1, hz2⟩ := info_parts Try.info5
  have HC : Hid _ := copy_any ao cap n l w h HN.out
  clear h
  go_enter Try.func37, Try.ntmps37
  go_wp2_with fail
  refine Calls.mono HC.out ?_
  rintro e w1 ⟨vo, vc, rfl, ho, hb⟩
  have hsz := hb.size
  have HNw : Hid (∀ j u, ([bv 90, bv 91, bv 92] : List Value)[j]? = some u → (w1.alloc (.cells #[.int .u8 90, .int .u8 91, .int .u8 92] 5)).cell? ((⟨w1.heap.size, 0, none⟩ : Addr).add j) = some u) := fun j u hu => by
    rw [add_plain, Nat.zero_add, blk_at (heap_new w1 _)]
    simpa [bv] using hu
  have HO1 : Hid ((w1.alloc (.cells #[.int .u8 90, .int .u8 91, .int .u8 92] 5)).ownsRow w.heap.size 5 1 (.slice vo n vc) n (l.map bv)) := ho.alloc (.cells #[.int .u8 90, .int .u8 91, .int .u8 92] 5)
  have HB1 : Hid (Below w.heap.size w (w1.alloc (.cells #[.int .u8 90, .int .u8 91, .int .u8 92] 5))) := hb.alloc hsz _
  clear ho hb HC
  go_wp2_with (at_builtin; refine wpList_append_two _ rfl (.tmp 5) (.tmp 6) 42 rfl w.heap.size 5 i0 (.int .u8 0) 1 Try.underlying42 hi hz0 hz1 hz2 rfl (.slice vo n vc) n (l.map bv) rfl HO1.out (some ⟨w1.heap.size, 0, none⟩) 3 3 [bv 90, bv 91, bv 92] rfl (fun e => by simp at e) rfl (fun ad e => by cases e; exact HNw.out) (by simp [bv, Value.oneCell']) (by unfold maxLen; omega) (by omega) (by simp; omega) ?_)
  intro v2 w2 ho2 hg2 hf2
  have HB2 : Hid (Below w.heap.size w w2) := HB1.out.grown hg2 HB1.out.size (fun g hg => (owns_lt HO1.out g hg).2)
  rcases ho2.2 with ⟨hv, hn0⟩ | ⟨g, cp, cur, hv, hbg, hgg, hnc, hcm, hs, htk⟩
  · omega
  · subst hv
    have HO2 : Hid (w2.ownsRow w.heap.size 5 1 (.slice (some ⟨g, 0, none⟩) (n + 3) cp) (n + 3) ((l ++ [90, 91, 92]).map bv)) := by
      show World.ownsRow _ _ _ _ _ _ _
      rw [List.map_append]; exact ho2
    have hcm2 : cp ≤ 9223372036854775807 := by unfold maxLen at hcm; omega
    have h1 : (n : Int) ≤ (cp : Int) := by omega
    clear ho2 hg2 hf2 HO1 HB1 HNw hgg hs htk hbg
    go_wp2
    go_ret
    exact ⟨g, cp, rfl, HO2.out, HB2.out⟩
theorem own_cap {w : World} {B e size n : Nat} {ao : Option Addr} {cap : Nat} {xs : List Value} (h : w.ownsRow B e size (.slice ao n cap) n xs) : n ≤ cap ∧ cap ≤ 9223372036854775807 := by
  rcases h.2 with ⟨hv, hn⟩ | ⟨g, c, cur, hv, _, _, hnc, hcm, _⟩
  · simp only [Value.slice.injEq] at hv; omega
  · simp only [Value.slice.injEq] at hv
    unfold maxLen at hcm
    omega
theorem lent_brow {w : World} {B g n cp : Nat} {l : List Nat} (h : w.ownsRow B 5 1 (.slice (some ⟨g, 0, none⟩) (n + 3) cp) (n + 3) ((l ++ [90, 91, 92]).map bv)) (hn : l.length = n) (hlt : ∀ x ∈ l, x < 256) (hlen : l.length ≤ 140737488351232) (cap : Nat) : BRow w (some ⟨g, 0, none⟩) cap l := by
  refine ⟨hlt, hlen, fun e => by simp at e, fun hne => ⟨g, 0, rfl, fun j hj => ?_⟩⟩
  rw [Nat.zero_add, h.cellAt j (by omega), List.map_append, List.getElem?_append_left (by rw [List.length_map]; exact hj), List.getElem?_map, List.getElem?_eq_getElem hj]; rfl
set_option maxHeartbeats 4000000 in
theorem kept_any (g : Nat) (ao : Option Addr) (cap cp n B : Nat) (l : List Nat) (w : World) (ho : w.ownsRow B 5 1 (.slice (some ⟨g, 0, none⟩) (n + 3) cp) (n + 3) ((l ++ [90, 91, 92]).map bv)) (h : BRow w ao cap l) (HN : Hid (l.length = n)) (hn : n ≤ 1099511627776) :
    Calls Try.prog 39 #[.slice (some ⟨g, 0, none⟩) n cp, .slice ao n cap] w fun e w' => e = .returned (.bool true) ∧ KeptIn (fun x => x = g) w w' := by
  have HL3 : Hid (∀ x ∈ l ++ [90, 91, 92], x < 256) := fun x hx => by
    rcases List.mem_append.1 hx with hx | hx
    · exact h.lt x hx
    · simp at hx; omega
  have HS : Hid (Calls Try.prog 22 #[.slice (some ⟨g, 0, none⟩) n cp, .slice ao n cap] w fun e w' => e = .returned (.bool true) ∧ ∃ q, w' = w.drewN q) := by
    have := same_any (some ⟨g, 0, none⟩) ao cp cap l l w (lent_brow ho HN.out h.lt h.len cp) h
    rw [HN.out] at this
    simp only [decide_true] at this
    exact this
  have hc1 := (own_cap ho).1
  have hc2 := (own_cap ho).2
  have z0 : w.cell? ⟨g, n, none⟩ = some (.int .u8 90) := by
    rw [ho.cellAt n (by omega)]; simp [bv, HN.out]
  have z1 : w.cell? ⟨g, n + 1, none⟩ = some (.int .u8 91) := by
    rw [ho.cellAt (n + 1) (by omega)]; simp [bv, HN.out]
  have z2 : w.cell? ⟨g, n + 2, none⟩ = some (.int .u8 92) := by
    rw [ho.cellAt (n + 2) (by omega)]; simp [bv, HN.out]
  have s3 : IntKind.i64.wrap ((n : Int) + 3) = (n : Int) + 3 := by rw [IntKind.wrap_i64]; omega
  have s1 : IntKind.i64.wrap ((n : Int) + 1) = (n : Int) + 1 := by rw [IntKind.wrap_i64]; omega
  have s2 : IntKind.i64.wrap ((n : Int) + 2) = (n : Int) + 2 := by rw [IntKind.wrap_i64]; omega
  have t3 : (n : Int) + 3 ≤ (cp : Int) := by omega
  have t3n : ((n : Int) + 3).toNat = n + 3 := by omega
  have t1n : ((n : Int) + 1).toNat = n + 1 := by omega
  have t2n : ((n : Int) + 2).toNat = n + 2 := by omega
  have t0 : (0 : Int) ≤ (n : Int) + 3 := by omega
  have t4 : (0 : Int) ≤ (n : Int) + 1 := by omega
  have t5 : (0 : Int) ≤ (n : Int) + 2 := by omega
  have t6 : (n : Int) < (n : Int) + 3 := by omega
  have t7 : (n : Int) + 1 < (n : Int) + 3 := by omega
  have t8 : (n : Int) + 2 < (n : Int) + 3 := by omega
  have HO3 : Hid _ := ho
  clear ho h
  go_enter Try.func39, Try.ntmps39
  go_wp2_with fail
  refine Calls.mono HS.out ?_
  rintro e w4 ⟨rfl, q, hw4⟩
  have HO4 : Hid (w4.ownsRow B 5 1 (.slice (some ⟨g, 0, none⟩) (n + 3) cp) (n + 3) ((l ++ [90, 91, 92]).map bv)) := by
    show World.ownsRow _ _ _ _ _ _ _
    rw [hw4]; exact owns_same HO3.out fun _ _ => rfl
  have HK4 : Hid (KeptIn (fun x => x = g) w w4) := by
    show KeptIn _ _ _
    rw [hw4]; exact drew_kept (KeptIn.refl _ _) q
  have y0 : w4.cell? ⟨g, n, none⟩ = some (.int .u8 90) := by rw [hw4]; exact z0
  have y1 : w4.cell? ⟨g, n + 1, none⟩ = some (.int .u8 91) := by rw [hw4]; exact z1
  have y2 : w4.cell? ⟨g, n + 2, none⟩ = some (.int .u8 92) := by rw [hw4]; exact z2
  clear hw4 z0 z1 z2 HS HO3
  go_wp2
  go_loopw [8] (fun i wr => ∃ j : Nat, j ≤ n + 3 ∧ i = .int .i64 (j : Int) ∧ ∃ C : List Nat, Hid (C.length = n + 3 ∧ wr.ownsRow B 5 1 (.slice (some ⟨g, 0, none⟩) (n + 3) cp) (n + 3) (C.map bv) ∧ (∀ x ∈ C, x < 256) ∧ KeptIn (fun x => x = g) w wr)) (fun i _ => n + 3 - (intOf i).toNat)
  case atStart => exact ⟨0, Nat.zero_le _, rfl, l ++ [90, 91, 92], by rw [List.length_append, HN.out]; rfl, HO4.out, HL3.out, HK4.out⟩
  case round =>
    obtain ⟨j, hj, rfl, C, HC⟩ := hrel
    by_cases hlt : j < n + 3
    · have hC := HC.out.1
      have ho := HC.out.2.1
      have hjz : (j : Int) < (n : Int) + 3 := by omega
      obtain ⟨x, hx⟩ : ∃ x, C[j]?.getD 0 = x := ⟨_, rfl⟩
      have hx256 : x < 256 := by
        rw [← hx, List.getElem?_eq_getElem (by omega)]; exact HC.out.2.2.1 _ (List.getElem_mem _)
      have hc0 : wr.cell? ⟨g, j, none⟩ = some (.int .u8 (x : Int)) := by
        rw [ho.cellAt j (by omega)]; simp [bv, hC, hlt, ← hx]
      have hf0 := ho.frozenAt j
      have hwr : IntKind.u8.wrap ((x : Int) + 1) = (((x + 1) % 256 : Nat) : Int) := by rw [IntKind.wrap_u8]; omega
      obtain ⟨hs1, hg1'⟩ := ho.stored j (bv ((x + 1) % 256))
      obtain ⟨y, hy⟩ : ∃ y, (x + 1) % 256 = y := ⟨_, rfl⟩
      rw [hy] at hs1 hg1' hwr
      have H2 : Hid ((C.set j y).length = n + 3 ∧ (wr.setCell ⟨g, j, none⟩ (.int .u8 (y : Int))).ownsRow B 5 1 (.slice (some ⟨g, 0, none⟩) (n + 3) cp) (n + 3) ((C.set j y).map bv) ∧ (∀ x ∈ C.set j y, x < 256) ∧ KeptIn (fun x => x = g) w (wr.setCell ⟨g, j, none⟩ (.int .u8 (y : Int)))) := by
        refine ⟨by simp [hC], by rw [List.map_set]; exact hs1, fun z hz => ?_, HC.out.2.2.2.trans (T := fun x => x = g) (keptIn_set _ _ _ _) (fun _ _ hn => hn)⟩
        rcases List.mem_or_eq_of_mem_set hz with h9 | h9
        · exact HC.out.2.2.1 z h9
        · omega
      clear hs1 hg1' ho HC hC hx hy
      go_wp2
      go_roundw
      case rel => exact ⟨j + 1, by omega, by go_num, _, H2⟩
      case measure => simp [intOf]; omega
    · obtain rfl : j = n + 3 := by omega
      have hd : ¬ (((n + 3 : Nat) : Int) < (n : Int) + 3) := by omega
      have HE : Hid _ := HC.out.2.2.2
      clear HC HO4 HK4
      go_wp2
      go_ret
      exact ⟨rfl, HE.out⟩
set_option maxHeartbeats 4000000 in
theorem spoil_any (ao : Option Addr) (cap n B : Nat) (l : List Nat) (w : World) (ho : w.ownsRow B 5 1 (.slice ao n cap) n (l.map bv)) (hlt : ∀ x ∈ l, x < 256) (hlen : n ≤ 140737488351232) :
    Calls Try.prog 40 #[.slice ao n cap] w fun e w' => e = .returned (.tuple #[]) ∧ KeptIn (fun x => (Value.slice ao n cap).ownBlock = some x) w w' := by
  obtain ⟨i0, hi, hz0, hz1, hz2⟩ := info_parts Try.info5
  have HO : Hid (w.ownsRow 0 5 1 (.slice ao n cap) n (l.map bv)) := owns_mono ho (Nat.zero_le _)
  have HLt : Hid _ := hlt
  have hll : l.length = n := by have := ho.1; simpa using this
  clear ho hlt
  go_enter Try.func40, Try.ntmps40
  go_wp2
  go_loopw [2] (fun i wr => ∃ j : Nat, j ≤ n ∧ i = .int .i64 (j : Int) ∧ ∃ C : List Nat, Hid (C.length = n ∧ wr.ownsRow 0 5 1 (.slice ao n cap) n (C.map bv) ∧ (∀ x ∈ C, x < 256) ∧ KeptIn (fun x => (Value.slice ao n cap).ownBlock = some x) w wr)) (fun i _ => n - (intOf i).toNat)
  case atStart => exact ⟨0, Nat.zero_le _, rfl, l, hll, HO.out, HLt.out, KeptIn.refl _ _⟩
  case round =>
    obtain ⟨j, hj, rfl, C, HC⟩ := hrel
    by_cases hlt : j < n
    · have hC := HC.out.1
      have ho := HC.out.2.1
      have hjz : (j : Int) < (n : Int) := by omega
      obtain ⟨g, rfl⟩ : ∃ g, ao = some ⟨g, 0, none⟩ := by
        rcases ho.2 with ⟨_, h0⟩ | ⟨g, c, cur, hv, _⟩
        · omega
        · simp only [Value.slice.injEq] at hv; exact ⟨g, hv.1⟩
      obtain ⟨x, hx⟩ : ∃ x, C[j]?.getD 0 = x := ⟨_, rfl⟩
      have hx256 : x < 256 := by
        rw [← hx, List.getElem?_eq_getElem (by omega)]; exact HC.out.2.2.1 _ (List.getElem_mem _)
      have hc0 : wr.cell? ⟨g, j, none⟩ = some (.int .u8 (x : Int)) := by
        rw [ho.cellAt j (by omega)]; simp [bv, hC, hlt, ← hx]
      have hf0 := ho.frozenAt j
      have hwr : IntKind.u8.wrap ((x : Int) + 1) = (((x + 1) % 256 : Nat) : Int) := by rw [IntKind.wrap_u8]; omega
      obtain ⟨hs1, hg1'⟩ := ho.stored j (bv ((x + 1) % 256))
      obtain ⟨y, hy⟩ : ∃ y, (x + 1) % 256 = y := ⟨_, rfl⟩
      rw [hy] at hs1 hg1' hwr
      have H2 : Hid ((C.set j y).length = n ∧ (wr.setCell ⟨g, j, none⟩ (.int .u8 (y : Int))).ownsRow 0 5 1 (.slice (some ⟨g, 0, none⟩) n cap) n ((C.set j y).map bv) ∧ (∀ x ∈ C.set j y, x < 256) ∧ KeptIn (fun x => (Value.slice (some ⟨g, 0, none⟩) n cap).ownBlock = some x) w (wr.setCell ⟨g, j, none⟩ (.int .u8 (y : Int)))) := by
        refine ⟨by simp [hC], by rw [List.map_set]; exact hs1, fun z hz => ?_, HC.out.2.2.2.trans (T := fun x => x = g) (keptIn_set _ _ _ _) (fun k _ hn e => hn (by rw [e]; rfl))⟩
        rcases List.mem_or_eq_of_mem_set hz with h9 | h9
        · exact HC.out.2.2.1 z h9
        · omega
      clear hs1 hg1' ho HC hC hx hy
      go_wp2
      go_roundw
      case rel => exact ⟨j + 1, by omega, by go_num, _, H2⟩
      case measure => simp [intOf]; omega
    · obtain rfl : j = n := by omega
      clear HO
      go_wp2
      go_loopw [0, 3] (fun v i wr' => ∃ j' : Nat, j' ≤ 40 ∧ i = .int .i64 (j' : Int) ∧ ∃ C' : List Nat, Hid (C'.length = j + j' ∧ wr'.ownsRow 0 5 1 v (j + j') (C'.map bv) ∧ (v.ownBlock = (Value.slice ao j cap).ownBlock ∨ ∃ g, v.ownBlock = some g ∧ w.heap.size ≤ g) ∧ KeptIn (fun x => (Value.slice ao j cap).ownBlock = some x) w wr')) (fun _ i _ => 40 - (intOf i).toNat)
      case atStart => exact ⟨0, Nat.zero_le _, rfl, C, HC.out.1, HC.out.2.1, .inl rfl, HC.out.2.2.2⟩
      case round =>
        obtain ⟨j', hj', rfl, C', HC'⟩ := hrel
        by_cases hlt' : j' < 40
        · have hjz' : (j' : Int) < 40 := by omega
          obtain ⟨vo, vc, hv⟩ := owns_form9 HC'.out.2.1
          subst hv
          have HO1 : Hid ((wr.alloc (.cells #[.int .u8 77] 5)).ownsRow 0 5 1 (.slice vo (j + j') vc) (j + j') (C'.map bv)) := HC'.out.2.1.alloc _
          have HNw : Hid (∀ i u, ([bv 77] : List Value)[i]? = some u → (wr.alloc (.cells #[.int .u8 77] 5)).cell? ((⟨wr.heap.size, 0, none⟩ : Addr).add i) = some u) := fun i u hu => by
            rw [add_plain, Nat.zero_add, blk_at (heap_new wr _)]
            simpa [bv] using hu
          go_wp2_with (at_builtin; refine wpList_append_two _ rfl (.tmp 22) (.tmp 23) 42 rfl 0 5 i0 (.int .u8 0) 1 Try.underlying42 hi hz0 hz1 hz2 rfl (.slice vo (j + j') vc) (j + j') (C'.map bv) rfl HO1.out (some ⟨wr.heap.size, 0, none⟩) 1 1 [bv 77] rfl (fun e => by simp at e) rfl (fun ad e => by cases e; exact HNw.out) (by simp [bv, Value.oneCell']) (by unfold maxLen; omega) (by omega) (Nat.zero_le _) ?_; intro v2 w2 ho2 hg2 hf2)
          have H2 : Hid ((C' ++ [77]).length = j + (j' + 1) ∧ w2.ownsRow 0 5 1 v2 (j + (j' + 1)) ((C' ++ [77]).map bv) ∧ (v2.ownBlock = (Value.slice ao j cap).ownBlock ∨ ∃ g, v2.ownBlock = some g ∧ w.heap.size ≤ g) ∧ KeptIn (fun x => (Value.slice ao j cap).ownBlock = some x) w w2) := by
            have hk := HC'.out.2.2.2
            have hfr := HC'.out.2.2.1
            have hg2' : KeptIn (fun x => (Value.slice vo (j + j') vc).ownBlock = some x) wr w2 := (KeptIn.ofBelow (below1 wr _)).trans ⟨hg2.os, hg2.tape, hg2.output, hg2.size, fun k hk hn => hg2.block k hk (fun e => hn e.symm)⟩ (fun _ _ hn => hn)
            refine ⟨by rw [List.length_append, HC'.out.1]; simp; omega, ?_, ?_, hk.trans hg2' (fun x hx hn e => ?_)⟩
            · rw [List.map_append, ← Nat.add_assoc]; exact ho2
            · rcases hf2 with h9 | ⟨g, h9, h8⟩
              · rw [h9]; exact hfr
              · rw [size1] at h8
                exact .inr ⟨g, h9, by have := hk.size; omega⟩
            · rcases hfr with h9 | ⟨g, h9, h8⟩
              · exact hn (h9 ▸ e)
              · rw [e] at h9; simp at h9; omega
          clear ho2 hg2 hf2 HO1 HNw HC'
          go_wp2
          go_roundw
          case rel => exact ⟨j' + 1, by omega, by go_num, _, H2⟩
          case measure => simp [intOf]; omega
        · obtain rfl : j' = 40 := by omega
          have HE : Hid _ := HC'.out.2.2.2
          clear HC' HC
          go_wp2
          go_end0
          exact ⟨rfl, HE.out⟩
end Go.Proofs.Ytoabigjajnikcaa
