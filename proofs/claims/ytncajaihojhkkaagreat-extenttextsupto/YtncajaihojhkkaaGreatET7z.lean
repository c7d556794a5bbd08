import Derived.Test.YtncajaihojhkkaaGreatJC
import Derived.Deep.RegionLaw
import Derived.Deep.AppendLies
namespace Go.Proofs.YtncajaihojhkkaaGreat.I
open Go.RowKit Go.Sort Go.Lib Go.Shelf
attribute [local go_sem] Oper.semAt_some
set_option linter.unusedVariables false
set_option linter.unusedSimpArgs false
set_option maxRecDepth 100000

theorem pcs_len (f : Int → Int) : ∀ (L : List Int), (pcs f L).length = L.length - 1
  | [] => rfl
  | [_] => rfl
  | x :: y :: t => by
    have := pcs_len f (y :: t)
    simp only [pcs, List.length_cons] at *
    omega
theorem pcs_get (f : Int → Int) : ∀ (L : List Int) (k : Nat) (x y : Int), L[k]? = some x → L[k + 1]? = some y → (pcs f L)[k]? = some ⟨x, y, f x⟩
  | [], k, x, y, h, _ => by simp at h
  | [a], k, x, y, h, h2 => by simp at h2
  | a :: b :: t, 0, x, y, h, h2 => by
    simp at h h2
    subst h; subst h2; rfl
  | a :: b :: t, k + 1, x, y, h, h2 => by
    simp only [pcs, List.getElem?_cons_succ]
    exact pcs_get f (b :: t) k x y (by simpa using h) (by simpa using h2)
theorem cutsL_len (lo hi : Int) : ∀ (S : List Put) (l : List Int), (S.foldl (cut2 lo hi) l).length ≤ l.length + 2 * S.length
  | [], l => by simp
  | q :: S, l => by
    have h1 := cutsL_len lo hi S (cut2 lo hi l q)
    have h2 : (cut2 lo hi l q).length ≤ l.length + 2 := by
      unfold cut2 cut1
      have a1 := putL_length l q.1
      have a2 := putL_length l q.2.1
      have a3 := putL_length (putL l q.1) q.2.1
      split <;> split <;> omega
    simp only [List.foldl_cons, List.length_cons]
    omega
theorem snoc_or (l : List (Rn Int)) : l = [] ∨ ∃ l' q, l = l' ++ [q] := by
  cases h : l.getLast? with
  | none => exact .inl (by simpa using h)
  | some q => exact .inr ⟨_, q, snoc_of_last h⟩
set_option maxHeartbeats 16000000 in
theorem dRuns_a {w : World} {B bd : Nat} {sv : Value} {size first : Int} {S : List Put} (h : DM w B bd sv size first S) (lo hi : Int) (hlo : ¬ lo < 0) (hhi : ¬ size < hi) (h0 : 0 ≤ lo) (h1 : lo < hi) (h2 : hi ≤ size) (hl : S.length ≤ 1048576) :
    Calls Tryz.prog 12 #[.pointer (some ⟨bd, 0, none⟩), .int .i64 lo, .int .i64 hi] w fun e w' => ∃ v, e = .returned v ∧ w'.ownsRow w.heap.size TEnt 3 v (docRuns size first S lo hi).length (rcells E (docRuns size first S lo hi)) ∧ Below w.heap.size w w' := by
  have c0 : w.cell? ⟨bd, 0, none⟩ = some (.bool true) := h.c 0
  have c1 : w.cell? ⟨bd, 1, none⟩ = some (.int .i64 size) := h.c 1
  obtain ⟨i0, hi0, hz0, hz1, hz2⟩ := info_parts infoEnt
  have HC := cuts_any h lo hi hl
  have HAt : Hid (∀ W i, Below w.heap.size w W → 0 ≤ i → i < size → Calls Tryz.prog 25 #[.pointer (some ⟨bd, 0, none⟩), .int .i64 i] W fun e w' => e = .returned (.tuple #[.int .i64 (lastV size first S i), .bool true]) ∧ w' = W) := fun W i hW a b => dAt_in (h.later hW) i a b (by omega)
  obtain ⟨L, hL⟩ : ∃ L, L = cutsL S lo hi := ⟨_, rfl⟩
  rw [← hL] at HC
  have HLm : Hid (∀ x ∈ L, lo ≤ x ∧ x ≤ hi) := fun x hx => by
    rw [hL] at hx
    rcases (cutsL_mem S lo hi x).1 hx with (e | e) | e <;> omega
  have HLne : Hid (∃ b, b ∈ L) := ⟨lo, by rw [hL]; exact (cutsL_mem S lo hi lo).2 (.inl (.inl rfl))⟩
  have HLr : Hid (L.Pairwise (· < ·)) := by rw [hL]; exact cutsL_rise S lo hi
  have hLl : L.length ≤ 2097154 := by
    have a1 := cutsL_len lo hi S (putL (putL [] lo) hi)
    have a2 := putL_length (putL [] lo) hi
    have a3 : (putL [] lo).length ≤ 1 := putL_length [] lo
    rw [hL]; show (S.foldl (cut2 lo hi) _).length ≤ _
    omega
  obtain ⟨P, hP⟩ : ∃ P, P = pcs (lastV size first S) L := ⟨_, rfl⟩
  have HPd : Hid (P = pcs (lastV size first S) L) := hP
  have HRes : Hid (docRuns size first S lo hi = joined P) := by show _ = _; unfold docRuns; rw [← hL, ← hP]
  have hn2 : ¬ hi ≤ lo := by omega
  clear h hL hP
  go_enter Tryz.func12, Tryz.ntmps12
  go_wp2_with (go_at_call 24; refine HC.mono ?_; rintro e w1 ⟨v1, rfl, hI1, hb1⟩; obtain ⟨ao, cp, rfl, hIc⟩ := hI1; clear HC)
  have HIc : Hid (∀ k x, L[k]? = some x → ∃ b off, ao = some ⟨b, off, none⟩ ∧ w1.cell? ⟨b, off + k, none⟩ = some (.int .i64 x)) := hIc
  have HB1 : Hid (Below w.heap.size w w1) := hb1
  obtain ⟨N, hN⟩ : ∃ N, L.length = N := ⟨_, rfl⟩
  have HN : Hid (L.length = N) := hN
  rw [hN] at hLl ⊢
  have hb1s := hb1.size
  have hN1 : 0 + 1 ≤ N := by
    obtain ⟨b, _⟩ : ∃ b, b ∈ L := HLne.out
    cases L with
    | nil => simp_all
    | cons a t => simp at hN; omega
  clear hIc hN hb1
  go_loopw [8, 9, 10, 11, 12] (fun o i _ _ _ wr => ∃ (k : Nat) (l : List (Rn Int)), k + 1 ≤ N ∧ i = .int .i64 k ∧ Hid (l = joined (P.take k)) ∧ l.length ≤ k ∧ Hid (wr.ownsRow w1.heap.size TEnt 3 o l.length (rcells E l)) ∧ Hid (Below w1.heap.size w1 wr)) (fun _ i _ _ _ _ => N - (intOf i).toNat)
  case atStart => exact ⟨0, [], hN1, rfl, rfl, Nat.zero_le _, World.ownsRow_nil _ _ _ _, Below.refl _ _⟩
  case round =>
    obtain ⟨k, l, hk, rfl, HJk, hlk, HO, HBk⟩ := hrel
    have hbs := HBk.out.size
    have HBw : Hid (Below w.heap.size w wr) := HB1.out.trans (HBk.out.mono HB1.out.size)
    obtain ⟨oo, oc, rfl⟩ := own_slice HO.out
    by_cases hlt : k + 1 < N
    · obtain ⟨x, hx⟩ : ∃ x, L[k]? = some x := ⟨_, List.getElem?_eq_getElem (by have := HN.out; omega)⟩
      obtain ⟨y, hy⟩ : ∃ y, L[k + 1]? = some y := ⟨_, List.getElem?_eq_getElem (by have := HN.out; omega)⟩
      obtain ⟨b, off, rfl, d0⟩ := HIc.out k x hx
      have d1 : w1.cell? ⟨b, off + (k + 1), none⟩ = some (.int .i64 y) := by
        obtain ⟨b', off', e, d1⟩ := HIc.out (k + 1) y hy
        simp only [Option.some.injEq, Addr.mk.injEq, and_true] at e
        obtain ⟨rfl, rfl⟩ := e
        exact d1
      have e0 := cell_later HBk.out d0
      have e1 := cell_later HBk.out d1
      have hxy : x < y := by
        have h3 := List.pairwise_iff_getElem.1 HLr.out k (k + 1) (by have := HN.out; omega) (by have := HN.out; omega) (by omega)
        rw [List.getElem?_eq_some_iff] at hx hy
        obtain ⟨_, rfl⟩ := hx
        obtain ⟨_, rfl⟩ := hy
        exact h3
      have hxm := HLm.out x (List.mem_of_getElem? hx)
      have hym := HLm.out y (List.mem_of_getElem? hy)
      obtain ⟨V, hV⟩ : ∃ V, V = lastV size first S x := ⟨_, rfl⟩
      have HAk := HAt.out wr x HBw.out (by omega) (by omega)
      rw [← hV] at HAk
      have HJ : Hid (joined (P.take (k + 1)) = joinStep l ⟨x, y, V⟩) := by
        have h3 := joined_take_succ P k ⟨x, y, V⟩ (by rw [HPd.out, hV]; exact pcs_get _ L k x y hx hy)
        rw [← HJk.out] at h3; exact h3
      have hkz : (k : Int) + 1 < (N : Int) := by omega
      have hkw : IntKind.i64.wrap ((k : Int) + 1) = (k : Int) + 1 := by rw [IntKind.wrap_i64]; omega
      have hk2 : (k : Int) < (N : Int) := by omega
      have hk3 : k < N := by omega
      have hk4 : (0 : Int) ≤ (k : Int) + 1 := by omega
      have hk5 : ((k : Int) + 1).toNat = k + 1 := by omega
      have hk6 : ¬ (k : Int) + 1 < 0 := by omega
      have hk7 : k + 1 < N := hlt
      have hne : ¬ x = y := by omega
      have HX : Hid (∀ (W w3 : World) (v v' : Value) (l1 : List (Rn Int)), Below w1.heap.size w1 W → W.ownsRow w1.heap.size TEnt 3 v l1.length (rcells E l1) → w3.ownsRow w1.heap.size TEnt 3 v' (l1.length + 1) (rcells E l1 ++ [.int .i64 x, .int .i64 y, .int .i64 V]) → W.grownBy w3 v.ownBlock → w3.ownsRow w1.heap.size TEnt 3 v' (l1 ++ [(⟨x, y, V⟩ : Rn Int)]).length (rcells E (l1 ++ [⟨x, y, V⟩])) ∧ Below w1.heap.size w1 w3) := by
        intro W w3 v v' l1 hB ho ho' hg
        refine ⟨?_, hB.grown hg hB.size (fun b hb' => (ho.lt b hb').1)⟩
        rw [List.length_append, rcells_snoc]
        exact ho'
      clear hx hy d0 d1 hV hxm hym
      rcases snoc_or l with hnil | ⟨l', q, rfl⟩
      · subst hnil
        have HE : Hid ([(⟨x, y, V⟩ : Rn Int)] = joined (P.take (k + 1))) := by
          show _ = _
          rw [HJ.out]; unfold joinStep; rw [if_neg hne]; rfl
        simp only [List.length_nil] at HO hlk ⊢
        go_wp2_with (go_at_call 25; refine HAk.mono ?_; rintro e w9 ⟨rfl, hw9⟩; rw [hw9]; clear hw9)
        go_region_law (refine step_append_lies _ (by rfl) _ _ TEnts (by rfl) w1.heap.size TEnt i0 _ 3 24 Tryz.underlying39 hi0 hz0 hz1 hz2 rfl (by decide) (.slice oo 0 oc) 0 (rcells E []) (by rfl) (HO.out.alloc _) ⟨wr.heap.size, 0, none⟩ 1 1 [.int .i64 x, .int .i64 y, .int .i64 V] (by rfl) rfl (World.news_of_block (heap_alloc_new _ _)) (by simp [Value.oneCell']) (by decide) (by unfold maxLen; omega) (by omega) (by show w1.heap.size ≤ (World.alloc _ _).heap.size; rw [World.size_alloc]; exact Nat.le_succ_of_le hbs) _ rfl ?_; intro g' cap' w3 hown hgrow hlies hlt')
        all_goals
          have H1 := HX.out _ w3 _ _ [] (below_drewN (HBk.out.alloc HBk.out.size _) 1) (HO.out.alloc _) hown hgrow
          have H2 : Hid (w3.ownsRow w1.heap.size TEnt 3 (.slice (some ⟨g', 0, none⟩) (0 + 1) cap') [(⟨x, y, V⟩ : Rn Int)].length (rcells E [⟨x, y, V⟩])) := H1.1
          have hb3 := H1.2
          clear H1 hown hgrow hlies hlt'
          go_wp2
          go_roundw
          case rel => exact ⟨k + 1, [⟨x, y, V⟩], by omega, by go_num, HE, by simp, H2, hb3⟩
          case measure => simp [intOf]; omega
      · obtain ⟨g, rfl, a0, a1, a2⟩ := ent_cells HO.out (k := l'.length) (r := q) (by simp)
        obtain ⟨m, hm⟩ : ∃ m, l'.length = m := ⟨_, rfl⟩
        have HM : Hid (l'.length = m) := hm
        have hlen : (l' ++ [q]).length = m + 1 := by simp [hm]
        rw [hlen] at HO hlk ⊢
        rw [hm] at a0 a1 a2
        clear hm hlen
        have hwm : IntKind.i64.wrap (m : Int) = (m : Int) := wrap_nat m (by omega)
        have hm1 : (m : Int) < (m : Int) + 1 := by omega
        have hm2 : (m : Int) < ((m + 1 : Nat) : Int) := by omega
        have hm3 : (0 : Int) < ((m + 1 : Nat) : Int) := by omega
        by_cases hv : q.v = V
        · have hvb : (q.v == V) = true := by simpa using hv
          have hfz : wr.frozen? ⟨g, m * 3 + 1, none⟩ = false := HO.out.frozenAt _
          have HE : Hid (l' ++ [{ q with hi := y }] = joined (P.take (k + 1))) := by
            show _ = _
            rw [HJ.out]; unfold joinStep; rw [if_neg hne, List.getLast?_concat]; simp [hv]
          have H3 : Hid ((wr.setCell ⟨g, m * 3 + 1, none⟩ (.int .i64 y)).ownsRow w1.heap.size TEnt 3 (.slice (some ⟨g, 0, none⟩) (m + 1) oc) (l' ++ [{ q with hi := y }]).length (rcells E (l' ++ [{ q with hi := y }])) ∧ Below w1.heap.size w1 (wr.setCell ⟨g, m * 3 + 1, none⟩ (.int .i64 y))) := by
            obtain ⟨z1, z2⟩ := HO.out.stored (m * 3 + 1) (.int .i64 y)
            refine ⟨?_, HBk.out.setCell (p := ⟨g, m * 3 + 1, none⟩) (row_lt HO.out g rfl).2.1 _⟩
            have z3 : (l' ++ [{ q with hi := y }]).length = m + 1 := by have := HM.out; simp; omega
            rw [z3, ← set_hi, HM.out]
            exact z1
          clear hv
          go_wp2_with (go_at_call 25; refine HAk.mono ?_; rintro e w9 ⟨rfl, hw9⟩; rw [hw9]; clear hw9)
          go_roundw
          case rel => exact ⟨k + 1, l' ++ [{ q with hi := y }], by omega, by go_num, HE, by have := HM.out; simp; omega, by have z3 : (l' ++ [{ q with hi := y }]).length = m + 1 := (by have := HM.out; simp; omega); have := H3.out.1; rwa [z3] at this ⊢, H3.out.2⟩
          case measure => simp [intOf]; omega
        · have hvb : (q.v == V) = false := by simpa using hv
          have HE : Hid (l' ++ [q] ++ [(⟨x, y, V⟩ : Rn Int)] = joined (P.take (k + 1))) := by
            show _ = _
            rw [HJ.out]; unfold joinStep; rw [if_neg hne, List.getLast?_concat]; simp [hv]
          clear hv
          go_wp2_with (go_at_call 25; refine HAk.mono ?_; rintro e w9 ⟨rfl, hw9⟩; rw [hw9]; clear hw9)
          go_region_law (refine step_append_lies _ (by rfl) _ _ TEnts (by rfl) w1.heap.size TEnt i0 _ 3 24 Tryz.underlying39 hi0 hz0 hz1 hz2 rfl (by decide) (.slice (some ⟨g, 0, none⟩) (m + 1) oc) (m + 1) (rcells E (l' ++ [q])) (by rfl) (HO.out.alloc _) ⟨wr.heap.size, 0, none⟩ 1 1 [.int .i64 x, .int .i64 y, .int .i64 V] (by rfl) rfl (World.news_of_block (heap_alloc_new _ _)) (by simp [Value.oneCell']) (by decide) (by unfold maxLen; omega) (by omega) (by show w1.heap.size ≤ (World.alloc _ _).heap.size; rw [World.size_alloc]; exact Nat.le_succ_of_le hbs) _ rfl ?_; intro g' cap' w3 hown hgrow hlies hlt')
          all_goals
            have hlen : (l' ++ [q]).length = m + 1 := by have := HM.out; simp; omega
            have H1 := HX.out _ w3 _ _ (l' ++ [q]) (below_drewN (HBk.out.alloc HBk.out.size _) 1) (by rw [hlen]; exact HO.out.alloc _) (by rw [hlen]; exact hown) hgrow
            have hl4 : (l' ++ [q] ++ [(⟨x, y, V⟩ : Rn Int)]).length = m + 1 + 1 := by rw [List.length_append, hlen]; rfl
            have H2 : Hid (w3.ownsRow w1.heap.size TEnt 3 (.slice (some ⟨g', 0, none⟩) (m + 1 + 1) cap') (l' ++ [q] ++ [(⟨x, y, V⟩ : Rn Int)]).length (rcells E (l' ++ [q] ++ [⟨x, y, V⟩]))) := H1.1
            have hb3 := H1.2
            clear H1 hown hgrow hlies hlt'
            go_wp2
            go_roundw
            case rel => exact ⟨k + 1, l' ++ [q] ++ [⟨x, y, V⟩], by omega, by go_num, HE, by omega, H2, hb3⟩
            case measure => simp [intOf]; omega
    · have ek : k + 1 = N := by omega
      have HF : Hid (l = docRuns size first S lo hi) := by
        show _ = _
        rw [HRes.out, HJk.out, List.take_of_length_le (by rw [HPd.out, pcs_len, HN.out]; omega)]
      have hkz : ¬ (k : Int) + 1 < (N : Int) := by omega
      have hkw : IntKind.i64.wrap ((k : Int) + 1) = (k : Int) + 1 := by rw [IntKind.wrap_i64]; omega
      go_wp2
      go_ret
      exact ⟨_, rfl, by rw [← HF.out]; exact owns_mono HO.out HB1.out.size, HBw.out⟩
set_option maxHeartbeats 16000000 in
theorem dRuns_b {w : World} {B bd : Nat} {sv : Value} {size first : Int} {S : List Put} (h : DM w B bd sv size first S) (lo hi : Int) (hlo : lo < 0) (hhi : ¬ size < hi) (h0 : 0 ≤ (0 : Int)) (h1 : (0 : Int) < hi) (h2 : hi ≤ size) (hl : S.length ≤ 1048576) :
    Calls Tryz.prog 12 #[.pointer (some ⟨bd, 0, none⟩), .int .i64 lo, .int .i64 hi] w fun e w' => ∃ v, e = .returned v ∧ w'.ownsRow w.heap.size TEnt 3 v (docRuns size first S (0 : Int) hi).length (rcells E (docRuns size first S (0 : Int) hi)) ∧ Below w.heap.size w w' := by
  have c0 : w.cell? ⟨bd, 0, none⟩ = some (.bool true) := h.c 0
  have c1 : w.cell? ⟨bd, 1, none⟩ = some (.int .i64 size) := h.c 1
  obtain ⟨i0, hi0, hz0, hz1, hz2⟩ := info_parts infoEnt
  have HC := cuts_any h (0 : Int) hi hl
  have HAt : Hid (∀ W i, Below w.heap.size w W → 0 ≤ i → i < size → Calls Tryz.prog 25 #[.pointer (some ⟨bd, 0, none⟩), .int .i64 i] W fun e w' => e = .returned (.tuple #[.int .i64 (lastV size first S i), .bool true]) ∧ w' = W) := fun W i hW a b => dAt_in (h.later hW) i a b (by omega)
  obtain ⟨L, hL⟩ : ∃ L, L = cutsL S (0 : Int) hi := ⟨_, rfl⟩
  rw [← hL] at HC
  have HLm : Hid (∀ x ∈ L, (0 : Int) ≤ x ∧ x ≤ hi) := fun x hx => by
    rw [hL] at hx
    rcases (cutsL_mem S (0 : Int) hi x).1 hx with (e | e) | e <;> omega
  have HLne : Hid (∃ b, b ∈ L) := ⟨(0 : Int), by rw [hL]; exact (cutsL_mem S (0 : Int) hi (0 : Int)).2 (.inl (.inl rfl))⟩
  have HLr : Hid (L.Pairwise (· < ·)) := by rw [hL]; exact cutsL_rise S (0 : Int) hi
  have hLl : L.length ≤ 2097154 := by
    have a1 := cutsL_len (0 : Int) hi S (putL (putL [] (0 : Int)) hi)
    have a2 := putL_length (putL [] (0 : Int)) hi
    have a3 : (putL [] (0 : Int)).length ≤ 1 := putL_length [] (0 : Int)
    rw [hL]; show (S.foldl (cut2 (0 : Int) hi) _).length ≤ _
    omega
  obtain ⟨P, hP⟩ : ∃ P, P = pcs (lastV size first S) L := ⟨_, rfl⟩
  have HPd : Hid (P = pcs (lastV size first S) L) := hP
  have HRes : Hid (docRuns size first S (0 : Int) hi = joined P) := by show _ = _; unfold docRuns; rw [← hL, ← hP]
  have hn2 : ¬ hi ≤ (0 : Int) := by omega
  clear h hL hP
  go_enter Tryz.func12, Tryz.ntmps12
  go_wp2_with (go_at_call 24; refine HC.mono ?_; rintro e w1 ⟨v1, rfl, hI1, hb1⟩; obtain ⟨ao, cp, rfl, hIc⟩ := hI1; clear HC)
  have HIc : Hid (∀ k x, L[k]? = some x → ∃ b off, ao = some ⟨b, off, none⟩ ∧ w1.cell? ⟨b, off + k, none⟩ = some (.int .i64 x)) := hIc
  have HB1 : Hid (Below w.heap.size w w1) := hb1
  obtain ⟨N, hN⟩ : ∃ N, L.length = N := ⟨_, rfl⟩
  have HN : Hid (L.length = N) := hN
  rw [hN] at hLl ⊢
  have hb1s := hb1.size
  have hN1 : 0 + 1 ≤ N := by
    obtain ⟨b, _⟩ : ∃ b, b ∈ L := HLne.out
    cases L with
    | nil => simp_all
    | cons a t => simp at hN; omega
  clear hIc hN hb1
  go_loopw [8, 9, 10, 11, 12] (fun o i _ _ _ wr => ∃ (k : Nat) (l : List (Rn Int)), k + 1 ≤ N ∧ i = .int .i64 k ∧ Hid (l = joined (P.take k)) ∧ l.length ≤ k ∧ Hid (wr.ownsRow w1.heap.size TEnt 3 o l.length (rcells E l)) ∧ Hid (Below w1.heap.size w1 wr)) (fun _ i _ _ _ _ => N - (intOf i).toNat)
  case atStart => exact ⟨0, [], hN1, rfl, rfl, Nat.zero_le _, World.ownsRow_nil _ _ _ _, Below.refl _ _⟩
  case round =>
    obtain ⟨k, l, hk, rfl, HJk, hlk, HO, HBk⟩ := hrel
    have hbs := HBk.out.size
    have HBw : Hid (Below w.heap.size w wr) := HB1.out.trans (HBk.out.mono HB1.out.size)
    obtain ⟨oo, oc, rfl⟩ := own_slice HO.out
    by_cases hlt : k + 1 < N
    · obtain ⟨x, hx⟩ : ∃ x, L[k]? = some x := ⟨_, List.getElem?_eq_getElem (by have := HN.out; omega)⟩
      obtain ⟨y, hy⟩ : ∃ y, L[k + 1]? = some y := ⟨_, List.getElem?_eq_getElem (by have := HN.out; omega)⟩
      obtain ⟨b, off, rfl, d0⟩ := HIc.out k x hx
      have d1 : w1.cell? ⟨b, off + (k + 1), none⟩ = some (.int .i64 y) := by
        obtain ⟨b', off', e, d1⟩ := HIc.out (k + 1) y hy
        simp only [Option.some.injEq, Addr.mk.injEq, and_true] at e
        obtain ⟨rfl, rfl⟩ := e
        exact d1
      have e0 := cell_later HBk.out d0
      have e1 := cell_later HBk.out d1
      have hxy : x < y := by
        have h3 := List.pairwise_iff_getElem.1 HLr.out k (k + 1) (by have := HN.out; omega) (by have := HN.out; omega) (by omega)
        rw [List.getElem?_eq_some_iff] at hx hy
        obtain ⟨_, rfl⟩ := hx
        obtain ⟨_, rfl⟩ := hy
        exact h3
      have hxm := HLm.out x (List.mem_of_getElem? hx)
      have hym := HLm.out y (List.mem_of_getElem? hy)
      obtain ⟨V, hV⟩ : ∃ V, V = lastV size first S x := ⟨_, rfl⟩
      have HAk := HAt.out wr x HBw.out (by omega) (by omega)
      rw [← hV] at HAk
      have HJ : Hid (joined (P.take (k + 1)) = joinStep l ⟨x, y, V⟩) := by
        have h3 := joined_take_succ P k ⟨x, y, V⟩ (by rw [HPd.out, hV]; exact pcs_get _ L k x y hx hy)
        rw [← HJk.out] at h3; exact h3
      have hkz : (k : Int) + 1 < (N : Int) := by omega
      have hkw : IntKind.i64.wrap ((k : Int) + 1) = (k : Int) + 1 := by rw [IntKind.wrap_i64]; omega
      have hk2 : (k : Int) < (N : Int) := by omega
      have hk3 : k < N := by omega
      have hk4 : (0 : Int) ≤ (k : Int) + 1 := by omega
      have hk5 : ((k : Int) + 1).toNat = k + 1 := by omega
      have hk6 : ¬ (k : Int) + 1 < 0 := by omega
      have hk7 : k + 1 < N := hlt
      have hne : ¬ x = y := by omega
      have HX : Hid (∀ (W w3 : World) (v v' : Value) (l1 : List (Rn Int)), Below w1.heap.size w1 W → W.ownsRow w1.heap.size TEnt 3 v l1.length (rcells E l1) → w3.ownsRow w1.heap.size TEnt 3 v' (l1.length + 1) (rcells E l1 ++ [.int .i64 x, .int .i64 y, .int .i64 V]) → W.grownBy w3 v.ownBlock → w3.ownsRow w1.heap.size TEnt 3 v' (l1 ++ [(⟨x, y, V⟩ : Rn Int)]).length (rcells E (l1 ++ [⟨x, y, V⟩])) ∧ Below w1.heap.size w1 w3) := by
        intro W w3 v v' l1 hB ho ho' hg
        refine ⟨?_, hB.grown hg hB.size (fun b hb' => (ho.lt b hb').1)⟩
        rw [List.length_append, rcells_snoc]
        exact ho'
      clear hx hy d0 d1 hV hxm hym
      rcases snoc_or l with hnil | ⟨l', q, rfl⟩
      · subst hnil
        have HE : Hid ([(⟨x, y, V⟩ : Rn Int)] = joined (P.take (k + 1))) := by
          show _ = _
          rw [HJ.out]; unfold joinStep; rw [if_neg hne]; rfl
        simp only [List.length_nil] at HO hlk ⊢
        go_wp2_with (go_at_call 25; refine HAk.mono ?_; rintro e w9 ⟨rfl, hw9⟩; rw [hw9]; clear hw9)
        go_region_law (refine step_append_lies _ (by rfl) _ _ TEnts (by rfl) w1.heap.size TEnt i0 _ 3 24 Tryz.underlying39 hi0 hz0 hz1 hz2 rfl (by decide) (.slice oo 0 oc) 0 (rcells E []) (by rfl) (HO.out.alloc _) ⟨wr.heap.size, 0, none⟩ 1 1 [.int .i64 x, .int .i64 y, .int .i64 V] (by rfl) rfl (World.news_of_block (heap_alloc_new _ _)) (by simp [Value.oneCell']) (by decide) (by unfold maxLen; omega) (by omega) (by show w1.heap.size ≤ (World.alloc _ _).heap.size; rw [World.size_alloc]; exact Nat.le_succ_of_le hbs) _ rfl ?_; intro g' cap' w3 hown hgrow hlies hlt')
        all_goals
          have H1 := HX.out _ w3 _ _ [] (below_drewN (HBk.out.alloc HBk.out.size _) 1) (HO.out.alloc _) hown hgrow
          have H2 : Hid (w3.ownsRow w1.heap.size TEnt 3 (.slice (some ⟨g', 0, none⟩) (0 + 1) cap') [(⟨x, y, V⟩ : Rn Int)].length (rcells E [⟨x, y, V⟩])) := H1.1
          have hb3 := H1.2
          clear H1 hown hgrow hlies hlt'
          go_wp2
          go_roundw
          case rel => exact ⟨k + 1, [⟨x, y, V⟩], by omega, by go_num, HE, by simp, H2, hb3⟩
          case measure => simp [intOf]; omega
      · obtain ⟨g, rfl, a0, a1, a2⟩ := ent_cells HO.out (k := l'.length) (r := q) (by simp)
        obtain ⟨m, hm⟩ : ∃ m, l'.length = m := ⟨_, rfl⟩
        have HM : Hid (l'.length = m) := hm
        have hlen : (l' ++ [q]).length = m + 1 := by simp [hm]
        rw [hlen] at HO hlk ⊢
        rw [hm] at a0 a1 a2
        clear hm hlen
        have hwm : IntKind.i64.wrap (m : Int) = (m : Int) := wrap_nat m (by omega)
        have hm1 : (m : Int) < (m : Int) + 1 := by omega
        have hm2 : (m : Int) < ((m + 1 : Nat) : Int) := by omega
        have hm3 : (0 : Int) < ((m + 1 : Nat) : Int) := by omega
        by_cases hv : q.v = V
        · have hvb : (q.v == V) = true := by simpa using hv
          have hfz : wr.frozen? ⟨g, m * 3 + 1, none⟩ = false := HO.out.frozenAt _
          have HE : Hid (l' ++ [{ q with hi := y }] = joined (P.take (k + 1))) := by
            show _ = _
            rw [HJ.out]; unfold joinStep; rw [if_neg hne, List.getLast?_concat]; simp [hv]
          have H3 : Hid ((wr.setCell ⟨g, m * 3 + 1, none⟩ (.int .i64 y)).ownsRow w1.heap.size TEnt 3 (.slice (some ⟨g, 0, none⟩) (m + 1) oc) (l' ++ [{ q with hi := y }]).length (rcells E (l' ++ [{ q with hi := y }])) ∧ Below w1.heap.size w1 (wr.setCell ⟨g, m * 3 + 1, none⟩ (.int .i64 y))) := by
            obtain ⟨z1, z2⟩ := HO.out.stored (m * 3 + 1) (.int .i64 y)
            refine ⟨?_, HBk.out.setCell (p := ⟨g, m * 3 + 1, none⟩) (row_lt HO.out g rfl).2.1 _⟩
            have z3 : (l' ++ [{ q with hi := y }]).length = m + 1 := by have := HM.out; simp; omega
            rw [z3, ← set_hi, HM.out]
            exact z1
          clear hv
          go_wp2_with (go_at_call 25; refine HAk.mono ?_; rintro e w9 ⟨rfl, hw9⟩; rw [hw9]; clear hw9)
          go_roundw
          case rel => exact ⟨k + 1, l' ++ [{ q with hi := y }], by omega, by go_num, HE, by have := HM.out; simp; omega, by have z3 : (l' ++ [{ q with hi := y }]).length = m + 1 := (by have := HM.out; simp; omega); have := H3.out.1; rwa [z3] at this ⊢, H3.out.2⟩
          case measure => simp [intOf]; omega
        · have hvb : (q.v == V) = false := by simpa using hv
          have HE : Hid (l' ++ [q] ++ [(⟨x, y, V⟩ : Rn Int)] = joined (P.take (k + 1))) := by
            show _ = _
            rw [HJ.out]; unfold joinStep; rw [if_neg hne, List.getLast?_concat]; simp [hv]
          clear hv
          go_wp2_with (go_at_call 25; refine HAk.mono ?_; rintro e w9 ⟨rfl, hw9⟩; rw [hw9]; clear hw9)
          go_region_law (refine step_append_lies _ (by rfl) _ _ TEnts (by rfl) w1.heap.size TEnt i0 _ 3 24 Tryz.underlying39 hi0 hz0 hz1 hz2 rfl (by decide) (.slice (some ⟨g, 0, none⟩) (m + 1) oc) (m + 1) (rcells E (l' ++ [q])) (by rfl) (HO.out.alloc _) ⟨wr.heap.size, 0, none⟩ 1 1 [.int .i64 x, .int .i64 y, .int .i64 V] (by rfl) rfl (World.news_of_block (heap_alloc_new _ _)) (by simp [Value.oneCell']) (by decide) (by unfold maxLen; omega) (by omega) (by show w1.heap.size ≤ (World.alloc _ _).heap.size; rw [World.size_alloc]; exact Nat.le_succ_of_le hbs) _ rfl ?_; intro g' cap' w3 hown hgrow hlies hlt')
          all_goals
            have hlen : (l' ++ [q]).length = m + 1 := by have := HM.out; simp; omega
            have H1 := HX.out _ w3 _ _ (l' ++ [q]) (below_drewN (HBk.out.alloc HBk.out.size _) 1) (by rw [hlen]; exact HO.out.alloc _) (by rw [hlen]; exact hown) hgrow
            have hl4 : (l' ++ [q] ++ [(⟨x, y, V⟩ : Rn Int)]).length = m + 1 + 1 := by rw [List.length_append, hlen]; rfl
            have H2 : Hid (w3.ownsRow w1.heap.size TEnt 3 (.slice (some ⟨g', 0, none⟩) (m + 1 + 1) cap') (l' ++ [q] ++ [(⟨x, y, V⟩ : Rn Int)]).length (rcells E (l' ++ [q] ++ [⟨x, y, V⟩]))) := H1.1
            have hb3 := H1.2
            clear H1 hown hgrow hlies hlt'
            go_wp2
            go_roundw
            case rel => exact ⟨k + 1, l' ++ [q] ++ [⟨x, y, V⟩], by omega, by go_num, HE, by omega, H2, hb3⟩
            case measure => simp [intOf]; omega
    · have ek : k + 1 = N := by omega
      have HF : Hid (l = docRuns size first S (0 : Int) hi) := by
        show _ = _
        rw [HRes.out, HJk.out, List.take_of_length_le (by rw [HPd.out, pcs_len, HN.out]; omega)]
      have hkz : ¬ (k : Int) + 1 < (N : Int) := by omega
      have hkw : IntKind.i64.wrap ((k : Int) + 1) = (k : Int) + 1 := by rw [IntKind.wrap_i64]; omega
      go_wp2
      go_ret
      exact ⟨_, rfl, by rw [← HF.out]; exact owns_mono HO.out HB1.out.size, HBw.out⟩
set_option maxHeartbeats 16000000 in
theorem dRuns_c {w : World} {B bd : Nat} {sv : Value} {size first : Int} {S : List Put} (h : DM w B bd sv size first S) (lo hi : Int) (hlo : ¬ lo < 0) (hhi : size < hi) (h0 : 0 ≤ lo) (h1 : lo < size) (h2 : size ≤ size) (hl : S.length ≤ 1048576) :
    Calls Tryz.prog 12 #[.pointer (some ⟨bd, 0, none⟩), .int .i64 lo, .int .i64 hi] w fun e w' => ∃ v, e = .returned v ∧ w'.ownsRow w.heap.size TEnt 3 v (docRuns size first S lo size).length (rcells E (docRuns size first S lo size)) ∧ Below w.heap.size w w' := by
  have c0 : w.cell? ⟨bd, 0, none⟩ = some (.bool true) := h.c 0
  have c1 : w.cell? ⟨bd, 1, none⟩ = some (.int .i64 size) := h.c 1
  obtain ⟨i0, hi0, hz0, hz1, hz2⟩ := info_parts infoEnt
  have HC := cuts_any h lo size hl
  have HAt : Hid (∀ W i, Below w.heap.size w W → 0 ≤ i → i < size → Calls Tryz.prog 25 #[.pointer (some ⟨bd, 0, none⟩), .int .i64 i] W fun e w' => e = .returned (.tuple #[.int .i64 (lastV size first S i), .bool true]) ∧ w' = W) := fun W i hW a b => dAt_in (h.later hW) i a b (by omega)
  obtain ⟨L, hL⟩ : ∃ L, L = cutsL S lo size := ⟨_, rfl⟩
  rw [← hL] at HC
  have HLm : Hid (∀ x ∈ L, lo ≤ x ∧ x ≤ size) := fun x hx => by
    rw [hL] at hx
    rcases (cutsL_mem S lo size x).1 hx with (e | e) | e <;> omega
  have HLne : Hid (∃ b, b ∈ L) := ⟨lo, by rw [hL]; exact (cutsL_mem S lo size lo).2 (.inl (.inl rfl))⟩
  have HLr : Hid (L.Pairwise (· < ·)) := by rw [hL]; exact cutsL_rise S lo size
  have hLl : L.length ≤ 2097154 := by
    have a1 := cutsL_len lo size S (putL (putL [] lo) size)
    have a2 := putL_length (putL [] lo) size
    have a3 : (putL [] lo).length ≤ 1 := putL_length [] lo
    rw [hL]; show (S.foldl (cut2 lo size) _).length ≤ _
    omega
  obtain ⟨P, hP⟩ : ∃ P, P = pcs (lastV size first S) L := ⟨_, rfl⟩
  have HPd : Hid (P = pcs (lastV size first S) L) := hP
  have HRes : Hid (docRuns size first S lo size = joined P) := by show _ = _; unfold docRuns; rw [← hL, ← hP]
  have hn2 : ¬ size ≤ lo := by omega
  clear h hL hP
  go_enter Tryz.func12, Tryz.ntmps12
  go_wp2_with (go_at_call 24; refine HC.mono ?_; rintro e w1 ⟨v1, rfl, hI1, hb1⟩; obtain ⟨ao, cp, rfl, hIc⟩ := hI1; clear HC)
  have HIc : Hid (∀ k x, L[k]? = some x → ∃ b off, ao = some ⟨b, off, none⟩ ∧ w1.cell? ⟨b, off + k, none⟩ = some (.int .i64 x)) := hIc
  have HB1 : Hid (Below w.heap.size w w1) := hb1
  obtain ⟨N, hN⟩ : ∃ N, L.length = N := ⟨_, rfl⟩
  have HN : Hid (L.length = N) := hN
  rw [hN] at hLl ⊢
  have hb1s := hb1.size
  have hN1 : 0 + 1 ≤ N := by
    obtain ⟨b, _⟩ : ∃ b, b ∈ L := HLne.out
    cases L with
    | nil => simp_all
    | cons a t => simp at hN; omega
  clear hIc hN hb1
  go_loopw [8, 9, 10, 11, 12] (fun o i _ _ _ wr => ∃ (k : Nat) (l : List (Rn Int)), k + 1 ≤ N ∧ i = .int .i64 k ∧ Hid (l = joined (P.take k)) ∧ l.length ≤ k ∧ Hid (wr.ownsRow w1.heap.size TEnt 3 o l.length (rcells E l)) ∧ Hid (Below w1.heap.size w1 wr)) (fun _ i _ _ _ _ => N - (intOf i).toNat)
  case atStart => exact ⟨0, [], hN1, rfl, rfl, Nat.zero_le _, World.ownsRow_nil _ _ _ _, Below.refl _ _⟩
  case round =>
    obtain ⟨k, l, hk, rfl, HJk, hlk, HO, HBk⟩ := hrel
    have hbs := HBk.out.size
    have HBw : Hid (Below w.heap.size w wr) := HB1.out.trans (HBk.out.mono HB1.out.size)
    obtain ⟨oo, oc, rfl⟩ := own_slice HO.out
    by_cases hlt : k + 1 < N
    · obtain ⟨x, hx⟩ : ∃ x, L[k]? = some x := ⟨_, List.getElem?_eq_getElem (by have := HN.out; omega)⟩
      obtain ⟨y, hy⟩ : ∃ y, L[k + 1]? = some y := ⟨_, List.getElem?_eq_getElem (by have := HN.out; omega)⟩
      obtain ⟨b, off, rfl, d0⟩ := HIc.out k x hx
      have d1 : w1.cell? ⟨b, off + (k + 1), none⟩ = some (.int .i64 y) := by
        obtain ⟨b', off', e, d1⟩ := HIc.out (k + 1) y hy
        simp only [Option.some.injEq, Addr.mk.injEq, and_true] at e
        obtain ⟨rfl, rfl⟩ := e
        exact d1
      have e0 := cell_later HBk.out d0
      have e1 := cell_later HBk.out d1
      have hxy : x < y := by
        have h3 := List.pairwise_iff_getElem.1 HLr.out k (k + 1) (by have := HN.out; omega) (by have := HN.out; omega) (by omega)
        rw [List.getElem?_eq_some_iff] at hx hy
        obtain ⟨_, rfl⟩ := hx
        obtain ⟨_, rfl⟩ := hy
        exact h3
      have hxm := HLm.out x (List.mem_of_getElem? hx)
      have hym := HLm.out y (List.mem_of_getElem? hy)
      obtain ⟨V, hV⟩ : ∃ V, V = lastV size first S x := ⟨_, rfl⟩
      have HAk := HAt.out wr x HBw.out (by omega) (by omega)
      rw [← hV] at HAk
      have HJ : Hid (joined (P.take (k + 1)) = joinStep l ⟨x, y, V⟩) := by
        have h3 := joined_take_succ P k ⟨x, y, V⟩ (by rw [HPd.out, hV]; exact pcs_get _ L k x y hx hy)
        rw [← HJk.out] at h3; exact h3
      have hkz : (k : Int) + 1 < (N : Int) := by omega
      have hkw : IntKind.i64.wrap ((k : Int) + 1) = (k : Int) + 1 := by rw [IntKind.wrap_i64]; omega
      have hk2 : (k : Int) < (N : Int) := by omega
      have hk3 : k < N := by omega
      have hk4 : (0 : Int) ≤ (k : Int) + 1 := by omega
      have hk5 : ((k : Int) + 1).toNat = k + 1 := by omega
      have hk6 : ¬ (k : Int) + 1 < 0 := by omega
      have hk7 : k + 1 < N := hlt
      have hne : ¬ x = y := by omega
      have HX : Hid (∀ (W w3 : World) (v v' : Value) (l1 : List (Rn Int)), Below w1.heap.size w1 W → W.ownsRow w1.heap.size TEnt 3 v l1.length (rcells E l1) → w3.ownsRow w1.heap.size TEnt 3 v' (l1.length + 1) (rcells E l1 ++ [.int .i64 x, .int .i64 y, .int .i64 V]) → W.grownBy w3 v.ownBlock → w3.ownsRow w1.heap.size TEnt 3 v' (l1 ++ [(⟨x, y, V⟩ : Rn Int)]).length (rcells E (l1 ++ [⟨x, y, V⟩])) ∧ Below w1.heap.size w1 w3) := by
        intro W w3 v v' l1 hB ho ho' hg
        refine ⟨?_, hB.grown hg hB.size (fun b hb' => (ho.lt b hb').1)⟩
        rw [List.length_append, rcells_snoc]
        exact ho'
      clear hx hy d0 d1 hV hxm hym
      rcases snoc_or l with hnil | ⟨l', q, rfl⟩
      · subst hnil
        have HE : Hid ([(⟨x, y, V⟩ : Rn Int)] = joined (P.take (k + 1))) := by
          show _ = _
          rw [HJ.out]; unfold joinStep; rw [if_neg hne]; rfl
        simp only [List.length_nil] at HO hlk ⊢
        go_wp2_with (go_at_call 25; refine HAk.mono ?_; rintro e w9 ⟨rfl, hw9⟩; rw [hw9]; clear hw9)
        go_region_law (refine step_append_lies _ (by rfl) _ _ TEnts (by rfl) w1.heap.size TEnt i0 _ 3 24 Tryz.underlying39 hi0 hz0 hz1 hz2 rfl (by decide) (.slice oo 0 oc) 0 (rcells E []) (by rfl) (HO.out.alloc _) ⟨wr.heap.size, 0, none⟩ 1 1 [.int .i64 x, .int .i64 y, .int .i64 V] (by rfl) rfl (World.news_of_block (heap_alloc_new _ _)) (by simp [Value.oneCell']) (by decide) (by unfold maxLen; omega) (by omega) (by show w1.heap.size ≤ (World.alloc _ _).heap.size; rw [World.size_alloc]; exact Nat.le_succ_of_le hbs) _ rfl ?_; intro g' cap' w3 hown hgrow hlies hlt')
        all_goals
          have H1 := HX.out _ w3 _ _ [] (below_drewN (HBk.out.alloc HBk.out.size _) 1) (HO.out.alloc _) hown hgrow
          have H2 : Hid (w3.ownsRow w1.heap.size TEnt 3 (.slice (some ⟨g', 0, none⟩) (0 + 1) cap') [(⟨x, y, V⟩ : Rn Int)].length (rcells E [⟨x, y, V⟩])) := H1.1
          have hb3 := H1.2
          clear H1 hown hgrow hlies hlt'
          go_wp2
          go_roundw
          case rel => exact ⟨k + 1, [⟨x, y, V⟩], by omega, by go_num, HE, by simp, H2, hb3⟩
          case measure => simp [intOf]; omega
      · obtain ⟨g, rfl, a0, a1, a2⟩ := ent_cells HO.out (k := l'.length) (r := q) (by simp)
        obtain ⟨m, hm⟩ : ∃ m, l'.length = m := ⟨_, rfl⟩
        have HM : Hid (l'.length = m) := hm
        have hlen : (l' ++ [q]).length = m + 1 := by simp [hm]
        rw [hlen] at HO hlk ⊢
        rw [hm] at a0 a1 a2
        clear hm hlen
        have hwm : IntKind.i64.wrap (m : Int) = (m : Int) := wrap_nat m (by omega)
        have hm1 : (m : Int) < (m : Int) + 1 := by omega
        have hm2 : (m : Int) < ((m + 1 : Nat) : Int) := by omega
        have hm3 : (0 : Int) < ((m + 1 : Nat) : Int) := by omega
        by_cases hv : q.v = V
        · have hvb : (q.v == V) = true := by simpa using hv
          have hfz : wr.frozen? ⟨g, m * 3 + 1, none⟩ = false := HO.out.frozenAt _
          have HE : Hid (l' ++ [{ q with hi := y }] = joined (P.take (k + 1))) := by
            show _ = _
            rw [HJ.out]; unfold joinStep; rw [if_neg hne, List.getLast?_concat]; simp [hv]
          have H3 : Hid ((wr.setCell ⟨g, m * 3 + 1, none⟩ (.int .i64 y)).ownsRow w1.heap.size TEnt 3 (.slice (some ⟨g, 0, none⟩) (m + 1) oc) (l' ++ [{ q with hi := y }]).length (rcells E (l' ++ [{ q with hi := y }])) ∧ Below w1.heap.size w1 (wr.setCell ⟨g, m * 3 + 1, none⟩ (.int .i64 y))) := by
            obtain ⟨z1, z2⟩ := HO.out.stored (m * 3 + 1) (.int .i64 y)
            refine ⟨?_, HBk.out.setCell (p := ⟨g, m * 3 + 1, none⟩) (row_lt HO.out g rfl).2.1 _⟩
            have z3 : (l' ++ [{ q with hi := y }]).length = m + 1 := by have := HM.out; simp; omega
            rw [z3, ← set_hi, HM.out]
            exact z1
          clear hv
          go_wp2_with (go_at_call 25; refine HAk.mono ?_; rintro e w9 ⟨rfl, hw9⟩; rw [hw9]; clear hw9)
          go_roundw
          case rel => exact ⟨k + 1, l' ++ [{ q with hi := y }], by omega, by go_num, HE, by have := HM.out; simp; omega, by have z3 : (l' ++ [{ q with hi := y }]).length = m + 1 := (by have := HM.out; simp; omega); have := H3.out.1; rwa [z3] at this ⊢, H3.out.2⟩
          case measure => simp [intOf]; omega
        · have hvb : (q.v == V) = false := by simpa using hv
          have HE : Hid (l' ++ [q] ++ [(⟨x, y, V⟩ : Rn Int)] = joined (P.take (k + 1))) := by
            show _ = _
            rw [HJ.out]; unfold joinStep; rw [if_neg hne, List.getLast?_concat]; simp [hv]
          clear hv
          go_wp2_with (go_at_call 25; refine HAk.mono ?_; rintro e w9 ⟨rfl, hw9⟩; rw [hw9]; clear hw9)
          go_region_law (refine step_append_lies _ (by rfl) _ _ TEnts (by rfl) w1.heap.size TEnt i0 _ 3 24 Tryz.underlying39 hi0 hz0 hz1 hz2 rfl (by decide) (.slice (some ⟨g, 0, none⟩) (m + 1) oc) (m + 1) (rcells E (l' ++ [q])) (by rfl) (HO.out.alloc _) ⟨wr.heap.size, 0, none⟩ 1 1 [.int .i64 x, .int .i64 y, .int .i64 V] (by rfl) rfl (World.news_of_block (heap_alloc_new _ _)) (by simp [Value.oneCell']) (by decide) (by unfold maxLen; omega) (by omega) (by show w1.heap.size ≤ (World.alloc _ _).heap.size; rw [World.size_alloc]; exact Nat.le_succ_of_le hbs) _ rfl ?_; intro g' cap' w3 hown hgrow hlies hlt')
          all_goals
            have hlen : (l' ++ [q]).length = m + 1 := by have := HM.out; simp; omega
            have H1 := HX.out _ w3 _ _ (l' ++ [q]) (below_drewN (HBk.out.alloc HBk.out.size _) 1) (by rw [hlen]; exact HO.out.alloc _) (by rw [hlen]; exact hown) hgrow
            have hl4 : (l' ++ [q] ++ [(⟨x, y, V⟩ : Rn Int)]).length = m + 1 + 1 := by rw [List.length_append, hlen]; rfl
            have H2 : Hid (w3.ownsRow w1.heap.size TEnt 3 (.slice (some ⟨g', 0, none⟩) (m + 1 + 1) cap') (l' ++ [q] ++ [(⟨x, y, V⟩ : Rn Int)]).length (rcells E (l' ++ [q] ++ [⟨x, y, V⟩]))) := H1.1
            have hb3 := H1.2
            clear H1 hown hgrow hlies hlt'
            go_wp2
            go_roundw
            case rel => exact ⟨k + 1, l' ++ [q] ++ [⟨x, y, V⟩], by omega, by go_num, HE, by omega, H2, hb3⟩
            case measure => simp [intOf]; omega
    · have ek : k + 1 = N := by omega
      have HF : Hid (l = docRuns size first S lo size) := by
        show _ = _
        rw [HRes.out, HJk.out, List.take_of_length_le (by rw [HPd.out, pcs_len, HN.out]; omega)]
      have hkz : ¬ (k : Int) + 1 < (N : Int) := by omega
      have hkw : IntKind.i64.wrap ((k : Int) + 1) = (k : Int) + 1 := by rw [IntKind.wrap_i64]; omega
      go_wp2
      go_ret
      exact ⟨_, rfl, by rw [← HF.out]; exact owns_mono HO.out HB1.out.size, HBw.out⟩
set_option maxHeartbeats 16000000 in
theorem dRuns_d {w : World} {B bd : Nat} {sv : Value} {size first : Int} {S : List Put} (h : DM w B bd sv size first S) (lo hi : Int) (hlo : lo < 0) (hhi : size < hi) (h0 : 0 ≤ (0 : Int)) (h1 : (0 : Int) < size) (h2 : size ≤ size) (hl : S.length ≤ 1048576) :
    Calls Tryz.prog 12 #[.pointer (some ⟨bd, 0, none⟩), .int .i64 lo, .int .i64 hi] w fun e w' => ∃ v, e = .returned v ∧ w'.ownsRow w.heap.size TEnt 3 v (docRuns size first S (0 : Int) size).length (rcells E (docRuns size first S (0 : Int) size)) ∧ Below w.heap.size w w' := by
  have c0 : w.cell? ⟨bd, 0, none⟩ = some (.bool true) := h.c 0
  have c1 : w.cell? ⟨bd, 1, none⟩ = some (.int .i64 size) := h.c 1
  obtain ⟨i0, hi0, hz0, hz1, hz2⟩ := info_parts infoEnt
  have HC := cuts_any h (0 : Int) size hl
  have HAt : Hid (∀ W i, Below w.heap.size w W → 0 ≤ i → i < size → Calls Tryz.prog 25 #[.pointer (some ⟨bd, 0, none⟩), .int .i64 i] W fun e w' => e = .returned (.tuple #[.int .i64 (lastV size first S i), .bool true]) ∧ w' = W) := fun W i hW a b => dAt_in (h.later hW) i a b (by omega)
  obtain ⟨L, hL⟩ : ∃ L, L = cutsL S (0 : Int) size := ⟨_, rfl⟩
  rw [← hL] at HC
  have HLm : Hid (∀ x ∈ L, (0 : Int) ≤ x ∧ x ≤ size) := fun x hx => by
    rw [hL] at hx
    rcases (cutsL_mem S (0 : Int) size x).1 hx with (e | e) | e <;> omega
  have HLne : Hid (∃ b, b ∈ L) := ⟨(0 : Int), by rw [hL]; exact (cutsL_mem S (0 : Int) size (0 : Int)).2 (.inl (.inl rfl))⟩
  have HLr : Hid (L.Pairwise (· < ·)) := by rw [hL]; exact cutsL_rise S (0 : Int) size
  have hLl : L.length ≤ 2097154 := by
    have a1 := cutsL_len (0 : Int) size S (putL (putL [] (0 : Int)) size)
    have a2 := putL_length (putL [] (0 : Int)) size
    have a3 : (putL [] (0 : Int)).length ≤ 1 := putL_length [] (0 : Int)
    rw [hL]; show (S.foldl (cut2 (0 : Int) size) _).length ≤ _
    omega
  obtain ⟨P, hP⟩ : ∃ P, P = pcs (lastV size first S) L := ⟨_, rfl⟩
  have HPd : Hid (P = pcs (lastV size first S) L) := hP
  have HRes : Hid (docRuns size first S (0 : Int) size = joined P) := by show _ = _; unfold docRuns; rw [← hL, ← hP]
  have hn2 : ¬ size ≤ (0 : Int) := by omega
  clear h hL hP
  go_enter Tryz.func12, Tryz.ntmps12
  go_wp2_with (go_at_call 24; refine HC.mono ?_; rintro e w1 ⟨v1, rfl, hI1, hb1⟩; obtain ⟨ao, cp, rfl, hIc⟩ := hI1; clear HC)
  have HIc : Hid (∀ k x, L[k]? = some x → ∃ b off, ao = some ⟨b, off, none⟩ ∧ w1.cell? ⟨b, off + k, none⟩ = some (.int .i64 x)) := hIc
  have HB1 : Hid (Below w.heap.size w w1) := hb1
  obtain ⟨N, hN⟩ : ∃ N, L.length = N := ⟨_, rfl⟩
  have HN : Hid (L.length = N) := hN
  rw [hN] at hLl ⊢
  have hb1s := hb1.size
  have hN1 : 0 + 1 ≤ N := by
    obtain ⟨b, _⟩ : ∃ b, b ∈ L := HLne.out
    cases L with
    | nil => simp_all
    | cons a t => simp at hN; omega
  clear hIc hN hb1
  go_loopw [8, 9, 10, 11, 12] (fun o i _ _ _ wr => ∃ (k : Nat) (l : List (Rn Int)), k + 1 ≤ N ∧ i = .int .i64 k ∧ Hid (l = joined (P.take k)) ∧ l.length ≤ k ∧ Hid (wr.ownsRow w1.heap.size TEnt 3 o l.length (rcells E l)) ∧ Hid (Below w1.heap.size w1 wr)) (fun _ i _ _ _ _ => N - (intOf i).toNat)
  case atStart => exact ⟨0, [], hN1, rfl, rfl, Nat.zero_le _, World.ownsRow_nil _ _ _ _, Below.refl _ _⟩
  case round =>
    obtain ⟨k, l, hk, rfl, HJk, hlk, HO, HBk⟩ := hrel
    have hbs := HBk.out.size
    have HBw : Hid (Below w.heap.size w wr) := HB1.out.trans (HBk.out.mono HB1.out.size)
    obtain ⟨oo, oc, rfl⟩ := own_slice HO.out
    by_cases hlt : k + 1 < N
    · obtain ⟨x, hx⟩ : ∃ x, L[k]? = some x := ⟨_, List.getElem?_eq_getElem (by have := HN.out; omega)⟩
      obtain ⟨y, hy⟩ : ∃ y, L[k + 1]? = some y := ⟨_, List.getElem?_eq_getElem (by have := HN.out; omega)⟩
      obtain ⟨b, off, rfl, d0⟩ := HIc.out k x hx
      have d1 : w1.cell? ⟨b, off + (k + 1), none⟩ = some (.int .i64 y) := by
        obtain ⟨b', off', e, d1⟩ := HIc.out (k + 1) y hy
        simp only [Option.some.injEq, Addr.mk.injEq, and_true] at e
        obtain ⟨rfl, rfl⟩ := e
        exact d1
      have e0 := cell_later HBk.out d0
      have e1 := cell_later HBk.out d1
      have hxy : x < y := by
        have h3 := List.pairwise_iff_getElem.1 HLr.out k (k + 1) (by have := HN.out; omega) (by have := HN.out; omega) (by omega)
        rw [List.getElem?_eq_some_iff] at hx hy
        obtain ⟨_, rfl⟩ := hx
        obtain ⟨_, rfl⟩ := hy
        exact h3
      have hxm := HLm.out x (List.mem_of_getElem? hx)
      have hym := HLm.out y (List.mem_of_getElem? hy)
      obtain ⟨V, hV⟩ : ∃ V, V = lastV size first S x := ⟨_, rfl⟩
      have HAk := HAt.out wr x HBw.out (by omega) (by omega)
      rw [← hV] at HAk
      have HJ : Hid (joined (P.take (k + 1)) = joinStep l ⟨x, y, V⟩) := by
        have h3 := joined_take_succ P k ⟨x, y, V⟩ (by rw [HPd.out, hV]; exact pcs_get _ L k x y hx hy)
        rw [← HJk.out] at h3; exact h3
      have hkz : (k : Int) + 1 < (N : Int) := by omega
      have hkw : IntKind.i64.wrap ((k : Int) + 1) = (k : Int) + 1 := by rw [IntKind.wrap_i64]; omega
      have hk2 : (k : Int) < (N : Int) := by omega
      have hk3 : k < N := by omega
      have hk4 : (0 : Int) ≤ (k : Int) + 1 := by omega
      have hk5 : ((k : Int) + 1).toNat = k + 1 := by omega
      have hk6 : ¬ (k : Int) + 1 < 0 := by omega
      have hk7 : k + 1 < N := hlt
      have hne : ¬ x = y := by omega
      have HX : Hid (∀ (W w3 : World) (v v' : Value) (l1 : List (Rn Int)), Below w1.heap.size w1 W → W.ownsRow w1.heap.size TEnt 3 v l1.length (rcells E l1) → w3.ownsRow w1.heap.size TEnt 3 v' (l1.length + 1) (rcells E l1 ++ [.int .i64 x, .int .i64 y, .int .i64 V]) → W.grownBy w3 v.ownBlock → w3.ownsRow w1.heap.size TEnt 3 v' (l1 ++ [(⟨x, y, V⟩ : Rn Int)]).length (rcells E (l1 ++ [⟨x, y, V⟩])) ∧ Below w1.heap.size w1 w3) := by
        intro W w3 v v' l1 hB ho ho' hg
        refine ⟨?_, hB.grown hg hB.size (fun b hb' => (ho.lt b hb').1)⟩
        rw [List.length_append, rcells_snoc]
        exact ho'
      clear hx hy d0 d1 hV hxm hym
      rcases snoc_or l with hnil | ⟨l', q, rfl⟩
      · subst hnil
        have HE : Hid ([(⟨x, y, V⟩ : Rn Int)] = joined (P.take (k + 1))) := by
          show _ = _
          rw [HJ.out]; unfold joinStep; rw [if_neg hne]; rfl
        simp only [List.length_nil] at HO hlk ⊢
        go_wp2_with (go_at_call 25; refine HAk.mono ?_; rintro e w9 ⟨rfl, hw9⟩; rw [hw9]; clear hw9)
        go_region_law (refine step_append_lies _ (by rfl) _ _ TEnts (by rfl) w1.heap.size TEnt i0 _ 3 24 Tryz.underlying39 hi0 hz0 hz1 hz2 rfl (by decide) (.slice oo 0 oc) 0 (rcells E []) (by rfl) (HO.out.alloc _) ⟨wr.heap.size, 0, none⟩ 1 1 [.int .i64 x, .int .i64 y, .int .i64 V] (by rfl) rfl (World.news_of_block (heap_alloc_new _ _)) (by simp [Value.oneCell']) (by decide) (by unfold maxLen; omega) (by omega) (by show w1.heap.size ≤ (World.alloc _ _).heap.size; rw [World.size_alloc]; exact Nat.le_succ_of_le hbs) _ rfl ?_; intro g' cap' w3 hown hgrow hlies hlt')
        all_goals
          have H1 := HX.out _ w3 _ _ [] (below_drewN (HBk.out.alloc HBk.out.size _) 1) (HO.out.alloc _) hown hgrow
          have H2 : Hid (w3.ownsRow w1.heap.size TEnt 3 (.slice (some ⟨g', 0, none⟩) (0 + 1) cap') [(⟨x, y, V⟩ : Rn Int)].length (rcells E [⟨x, y, V⟩])) := H1.1
          have hb3 := H1.2
          clear H1 hown hgrow hlies hlt'
          go_wp2
          go_roundw
          case rel => exact ⟨k + 1, [⟨x, y, V⟩], by omega, by go_num, HE, by simp, H2, hb3⟩
          case measure => simp [intOf]; omega
      · obtain ⟨g, rfl, a0, a1, a2⟩ := ent_cells HO.out (k := l'.length) (r := q) (by simp)
        obtain ⟨m, hm⟩ : ∃ m, l'.length = m := ⟨_, rfl⟩
        have HM : Hid (l'.length = m) := hm
        have hlen : (l' ++ [q]).length = m + 1 := by simp [hm]
        rw [hlen] at HO hlk ⊢
        rw [hm] at a0 a1 a2
        clear hm hlen
        have hwm : IntKind.i64.wrap (m : Int) = (m : Int) := wrap_nat m (by omega)
        have hm1 : (m : Int) < (m : Int) + 1 := by omega
        have hm2 : (m : Int) < ((m + 1 : Nat) : Int) := by omega
        have hm3 : (0 : Int) < ((m + 1 : Nat) : Int) := by omega
        by_cases hv : q.v = V
        · have hvb : (q.v == V) = true := by simpa using hv
          have hfz : wr.frozen? ⟨g, m * 3 + 1, none⟩ = false := HO.out.frozenAt _
          have HE : Hid (l' ++ [{ q with hi := y }] = joined (P.take (k + 1))) := by
            show _ = _
            rw [HJ.out]; unfold joinStep; rw [if_neg hne, List.getLast?_concat]; simp [hv]
          have H3 : Hid ((wr.setCell ⟨g, m * 3 + 1, none⟩ (.int .i64 y)).ownsRow w1.heap.size TEnt 3 (.slice (some ⟨g, 0, none⟩) (m + 1) oc) (l' ++ [{ q with hi := y }]).length (rcells E (l' ++ [{ q with hi := y }])) ∧ Below w1.heap.size w1 (wr.setCell ⟨g, m * 3 + 1, none⟩ (.int .i64 y))) := by
            obtain ⟨z1, z2⟩ := HO.out.stored (m * 3 + 1) (.int .i64 y)
            refine ⟨?_, HBk.out.setCell (p := ⟨g, m * 3 + 1, none⟩) (row_lt HO.out g rfl).2.1 _⟩
            have z3 : (l' ++ [{ q with hi := y }]).length = m + 1 := by have := HM.out; simp; omega
            rw [z3, ← set_hi, HM.out]
            exact z1
          clear hv
          go_wp2_with (go_at_call 25; refine HAk.mono ?_; rintro e w9 ⟨rfl, hw9⟩; rw [hw9]; clear hw9)
          go_roundw
          case rel => exact ⟨k + 1, l' ++ [{ q with hi := y }], by omega, by go_num, HE, by have := HM.out; simp; omega, by have z3 : (l' ++ [{ q with hi := y }]).length = m + 1 := (by have := HM.out; simp; omega); have := H3.out.1; rwa [z3] at this ⊢, H3.out.2⟩
          case measure => simp [intOf]; omega
        · have hvb : (q.v == V) = false := by simpa using hv
          have HE : Hid (l' ++ [q] ++ [(⟨x, y, V⟩ : Rn Int)] = joined (P.take (k + 1))) := by
            show _ = _
            rw [HJ.out]; unfold joinStep; rw [if_neg hne, List.getLast?_concat]; simp [hv]
          clear hv
          go_wp2_with (go_at_call 25; refine HAk.mono ?_; rintro e w9 ⟨rfl, hw9⟩; rw [hw9]; clear hw9)
          go_region_law (refine step_append_lies _ (by rfl) _ _ TEnts (by rfl) w1.heap.size TEnt i0 _ 3 24 Tryz.underlying39 hi0 hz0 hz1 hz2 rfl (by decide) (.slice (some ⟨g, 0, none⟩) (m + 1) oc) (m + 1) (rcells E (l' ++ [q])) (by rfl) (HO.out.alloc _) ⟨wr.heap.size, 0, none⟩ 1 1 [.int .i64 x, .int .i64 y, .int .i64 V] (by rfl) rfl (World.news_of_block (heap_alloc_new _ _)) (by simp [Value.oneCell']) (by decide) (by unfold maxLen; omega) (by omega) (by show w1.heap.size ≤ (World.alloc _ _).heap.size; rw [World.size_alloc]; exact Nat.le_succ_of_le hbs) _ rfl ?_; intro g' cap' w3 hown hgrow hlies hlt')
          all_goals
            have hlen : (l' ++ [q]).length = m + 1 := by have := HM.out; simp; omega
            have H1 := HX.out _ w3 _ _ (l' ++ [q]) (below_drewN (HBk.out.alloc HBk.out.size _) 1) (by rw [hlen]; exact HO.out.alloc _) (by rw [hlen]; exact hown) hgrow
            have hl4 : (l' ++ [q] ++ [(⟨x, y, V⟩ : Rn Int)]).length = m + 1 + 1 := by rw [List.length_append, hlen]; rfl
            have H2 : Hid (w3.ownsRow w1.heap.size TEnt 3 (.slice (some ⟨g', 0, none⟩) (m + 1 + 1) cap') (l' ++ [q] ++ [(⟨x, y, V⟩ : Rn Int)]).length (rcells E (l' ++ [q] ++ [⟨x, y, V⟩]))) := H1.1
            have hb3 := H1.2
            clear H1 hown hgrow hlies hlt'
            go_wp2
            go_roundw
            case rel => exact ⟨k + 1, l' ++ [q] ++ [⟨x, y, V⟩], by omega, by go_num, HE, by omega, H2, hb3⟩
            case measure => simp [intOf]; omega
    · have ek : k + 1 = N := by omega
      have HF : Hid (l = docRuns size first S (0 : Int) size) := by
        show _ = _
        rw [HRes.out, HJk.out, List.take_of_length_le (by rw [HPd.out, pcs_len, HN.out]; omega)]
      have hkz : ¬ (k : Int) + 1 < (N : Int) := by omega
      have hkw : IntKind.i64.wrap ((k : Int) + 1) = (k : Int) + 1 := by rw [IntKind.wrap_i64]; omega
      go_wp2
      go_ret
      exact ⟨_, rfl, by rw [← HF.out]; exact owns_mono HO.out HB1.out.size, HBw.out⟩
end Go.Proofs.YtncajaihojhkkaaGreat.I
