import Derived.Test.YtpchllepboolhaazDG
namespace Go.Proofs.Ytpchllepboolhaa.D
open Go.RowKit Go.Proofs.Ytpchllepboolhaa.I
attribute [local go_sem] Oper.semAt_some
set_option linter.unusedVariables false
set_option linter.unusedSimpArgs false
set_option maxRecDepth 100000

theorem keysOf_snoc {A : List It} {j : Nat} {x : It} (h : A[j]? = some x) : keysOf (A.take (j + 1)) = keysOf (A.take j) ++ [x.1] := by rw [take_snoc h]; simp [keysOf]
theorem freeOf_hit {A : List It} {j : Nat} {x : It} (h : A[j]? = some x) (hp : x.2 = 0) : freeOf (A.take (j + 1)) = freeOf (A.take j) ++ [x.1] := by rw [take_snoc h]; simp [freeOf, hp]
theorem freeOf_miss {A : List It} {j : Nat} {x : It} (h : A[j]? = some x) (hp : x.2 ≠ 0) : freeOf (A.take (j + 1)) = freeOf (A.take j) := by rw [take_snoc h]; simp [freeOf, hp]
theorem freeOf_le (A : List It) : (freeOf A).length ≤ A.length := by unfold freeOf; rw [List.length_map]; exact List.length_filter_le _ _

set_option maxHeartbeats 2000000 in
theorem all_any {w : World} {bd : Nat} {md : Bool} {v : Value} {A : List It} (h : RD w bd md v A) :
    Calls Try.prog 27 #[.pointer (some ⟨bd, 0, none⟩)] w fun r w' => ∃ v', r = .returned v' ∧ w'.ownsRow w.heap.size TIn 1 v' (keysOf A).length (iv (keysOf A)) ∧ Below w.heap.size w w' := by
  obtain ⟨i0, hi0, hz0, hz1, hz2⟩ := info_parts infoInt
  have hc1 := h.c1
  obtain ⟨ao, cap, hv, ht⟩ := trow_of h.row
  subst hv
  have hl := h.len
  have HT : Hid (TRow w ao A) := ht
  obtain ⟨m, hm⟩ : ∃ m, m = A.length := ⟨_, rfl⟩
  rw [← hm] at hc1 hl
  have HM : Hid (m = A.length) := hm
  clear h ht hm
  go_enter Try.func27, Try.ntmps27
  go_wp2
  go_loopw [3, 4] (fun t k wr => ∃ (j : Nat), j ≤ m ∧ k = .int .i64 j ∧ Hid (wr.ownsRow w.heap.size TIn 1 t j (iv (keysOf (A.take j)))) ∧ Hid (Below w.heap.size w wr)) (fun _ k _ => m - (intOf k).toNat)
  case atStart => exact ⟨0, Nat.zero_le _, rfl, World.ownsRow_nil _ _ _ _, Below.refl _ _⟩
  case round =>
    obtain ⟨j, hj, rfl, HR, HB⟩ := hrel
    have d1 := cell_later HB.out hc1
    by_cases hlt : j < m
    · obtain ⟨x, hx⟩ : ∃ x, A[j]? = some x := ⟨_, List.getElem?_eq_getElem (by have := HM.out; omega)⟩
      obtain ⟨b, rfl, c0, c1, _⟩ := HT.out.c j x hx
      have d0 := cell_later HB.out c0
      have e1 : (j : Int) < (m : Int) := by omega
      have hsz := HB.out.size
      have HN : Hid (keysOf (A.take (j + 1)) = keysOf (A.take j) ++ [x.1]) := keysOf_snoc hx
      clear c0 c1 hx
      go_wp2_with (at_builtin; refine wpList_append_own_at _ rfl _ _ TIns rfl w.heap.size TIn i0 _ 1 8 Try.underlying43 hi0 hz0 hz1 hz2 rfl (by decide) _ j _ rfl (HR.out.alloc _) ⟨wr.heap.size, 0, none⟩ 1 1 [.int .i64 x.1] rfl rfl (World.news_of_block (heap_alloc_new wr _)) (by simp [Value.oneCell']) (by unfold maxLen; omega) (by omega) (by rw [World.size_alloc]; omega) ?_; intro v' w1 hown' hgrow hnl hat)
      go_roundw
      case rel =>
        refine ⟨j + 1, by omega, by go_num, ?_, ?_⟩
        · rw [HN.out]
          show w1.ownsRow _ _ _ _ _ _
          simpa using hown'
        · exact (HB.out.alloc hsz _).grown hgrow (by rw [World.size_alloc]; omega) (fun q e => (HR.out.lt q e).1)
      case measure => simp [intOf]; omega
    · have e : j = m := by omega
      subst e
      have HE : Hid (A.take j = A) := by rw [HM.out]; exact List.take_length
      rw [HE.out] at HR
      have HK : Hid ((keysOf A).length = j) := by show _ = _; rw [HM.out]; simp [keysOf]
      go_wp2
      go_ret
      exact ⟨_, rfl, by rw [HK.out]; exact HR.out, HB.out⟩
set_option maxHeartbeats 2000000 in
theorem free_any {w : World} {bd : Nat} {md : Bool} {v : Value} {A : List It} (h : RD w bd md v A) :
    Calls Try.prog 44 #[.pointer (some ⟨bd, 0, none⟩)] w fun r w' => ∃ v', r = .returned v' ∧ w'.ownsRow w.heap.size TIn 1 v' (freeOf A).length (iv (freeOf A)) ∧ Below w.heap.size w w' := by
  obtain ⟨i0, hi0, hz0, hz1, hz2⟩ := info_parts infoInt
  have hc1 := h.c1
  obtain ⟨ao, cap, hv, ht⟩ := trow_of h.row
  subst hv
  have hl := h.len
  have HT : Hid (TRow w ao A) := ht
  obtain ⟨m, hm⟩ : ∃ m, m = A.length := ⟨_, rfl⟩
  rw [← hm] at hc1 hl
  have HM : Hid (m = A.length) := hm
  clear h ht hm
  go_enter Try.func44, Try.ntmps44
  go_wp2
  go_loopw [3, 4] (fun t k wr => ∃ (j : Nat), j ≤ m ∧ k = .int .i64 j ∧ Hid (wr.ownsRow w.heap.size TIn 1 t (freeOf (A.take j)).length (iv (freeOf (A.take j)))) ∧ Hid (Below w.heap.size w wr)) (fun _ k _ => m - (intOf k).toNat)
  case atStart => exact ⟨0, Nat.zero_le _, rfl, World.ownsRow_nil _ _ _ _, Below.refl _ _⟩
  case round =>
    obtain ⟨j, hj, rfl, HR, HB⟩ := hrel
    have d1 := cell_later HB.out hc1
    by_cases hlt : j < m
    · obtain ⟨x, hx⟩ : ∃ x, A[j]? = some x := ⟨_, List.getElem?_eq_getElem (by have := HM.out; omega)⟩
      obtain ⟨b, rfl, c0, c1, _⟩ := HT.out.c j x hx
      have d0 := cell_later HB.out c0
      have e0 := cell_later HB.out c1
      have e1 : (j : Int) < (m : Int) := by omega
      have hsz := HB.out.size
      have hfl := freeOf_le (A.take j)
      rw [List.length_take] at hfl
      by_cases hp : x.2 = 0
      · have HN : Hid (freeOf (A.take (j + 1)) = freeOf (A.take j) ++ [x.1]) := freeOf_hit hx hp
        have hxz : ((x.2 : Int) == 0) = true := by simp [hp]
        clear c0 c1 hx hp
        go_wp2_with (at_builtin; refine wpList_append_own_at _ rfl _ _ TIns rfl w.heap.size TIn i0 _ 1 8 Try.underlying43 hi0 hz0 hz1 hz2 rfl (by decide) _ _ _ rfl (HR.out.alloc _) ⟨wr.heap.size, 0, none⟩ 1 1 [.int .i64 x.1] rfl rfl (World.news_of_block (heap_alloc_new wr _)) (by simp [Value.oneCell']) (by unfold maxLen; omega) (by omega) (by rw [World.size_alloc]; omega) ?_; intro v' w1 hown' hgrow hnl hat)
        go_roundw
        case rel =>
          refine ⟨j + 1, by omega, by go_num, ?_, ?_⟩
          · rw [HN.out, List.length_append]
            show w1.ownsRow _ _ _ _ _ _
            simpa using hown'
          · exact (HB.out.alloc hsz _).grown hgrow (by rw [World.size_alloc]; omega) (fun q e => (HR.out.lt q e).1)
        case measure => simp [intOf]; omega
      · have HN : Hid (freeOf (A.take (j + 1)) = freeOf (A.take j)) := freeOf_miss hx hp
        have hxz : ((x.2 : Int) == 0) = false := by simpa using hp
        clear c0 c1 hx hp
        go_wp2
        go_roundw
        case rel => exact ⟨j + 1, by omega, by go_num, by rw [HN.out]; exact HR, HB⟩
        case measure => simp [intOf]; omega
    · have e : j = m := by omega
      subst e
      have HE : Hid (A.take j = A) := by rw [HM.out]; exact List.take_length
      rw [HE.out] at HR
      go_wp2
      go_ret
      exact ⟨_, rfl, HR.out, HB.out⟩
theorem oldest_any {w : World} {bd : Nat} {md : Bool} {v : Value} {A : List It} (h : RD w bd md v A) :
    Calls Try.prog 47 #[.pointer (some ⟨bd, 0, none⟩)] w fun r w' => r = .returned (.tuple #[.int .i64 ((oldOf A).getD 0), .bool (oldOf A).isSome]) ∧ Below w.heap.size w w' := by
  have hfr := free_any h
  have hfl := Nat.le_trans (freeOf_le A) h.len
  clear h
  cases hf : freeOf A with
  | nil =>
    have HO : Hid (oldOf A = none) := by show _ = _; unfold oldOf; rw [hf]; rfl
    rw [hf] at hfr
    rw [HO.out]
    clear hf hfl
    go_enter Try.func47, Try.ntmps47
    go_wp2_with (go_at_call 44; refine hfr.mono ?_; rintro e w1 ⟨v1, rfl, ho1, hb1⟩; obtain ⟨a1, c1, rfl, hi1⟩ := irow_of ho1; simp only [List.length_nil] at *)
    go_ret2
    exact ⟨rfl, hb1⟩
  | cons x l =>
    have HO : Hid (oldOf A = some x) := by show _ = _; unfold oldOf; rw [hf]; rfl
    rw [hf] at hfr hfl
    rw [HO.out]
    have hk1 : (0 : Int) < ((x :: l).length : Int) := by rw [List.length_cons]; omega
    have hk2 : (((x :: l).length : Int) == 0) = false := beq_eq_false_iff_ne.2 (by omega)
    obtain ⟨m, hm⟩ : ∃ m, m = (x :: l).length := ⟨_, rfl⟩
    have HM : Hid ((x :: l).length = m) := hm.symm
    rw [← hm] at hk1 hk2
    clear hf hfl hm
    go_enter Try.func47, Try.ntmps47
    go_wp2_with (go_at_call 44; refine hfr.mono ?_; rintro e w1 ⟨v1, rfl, ho1, hb1⟩; obtain ⟨a1, c1, rfl, hi1⟩ := irow_of ho1; obtain ⟨gb, go, rfl, hg0⟩ := hi1.c 0 x rfl; rw [HM.out] at *; rw [Nat.add_zero] at hg0)
    go_ret2
    exact ⟨rfl, hb1⟩
end Go.Proofs.Ytpchllepboolhaa.D
