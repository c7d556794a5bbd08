import Derived.Test.YtijafckdbhklmabZN
import Derived.Deep.AppendLies
import Derived.Deep.RegionHeld3
import Derived.Deep.RegionWith
import Derived.Deep.DrawnRows
namespace Go.Proofs.Ytijafckdbhklmab.B
open Go.RowKit Go.Sort Go.Lib Go.Shelf
attribute [local go_sem] Oper.semAt_some
attribute [local go_sem ↓] Go.wp_at_zero Go.wp_at_succ
set_option linter.unusedVariables false
set_option linter.unusedSimpArgs false
set_option maxRecDepth 100000

theorem pcells_set (O : List (Int × Int)) (p : Int × Int) (c : Int) : (pcells (O ++ [p])).set (O.length * 2 + 1) (.int .i64 c) = pcells (O ++ [(p.1, c)]) := by
  rw [pcells_append, pcells_append, List.set_append_right _ _ (by rw [pcells_length]; omega), pcells_length]
  congr 1
  rw [show O.length * 2 + 1 - O.length * 2 = 1 by omega]
  simp [pcells, pcell]
set_option maxHeartbeats 8000000 in
theorem joined_ref {w : World} {va vb : Value} {la lb : List (Int × Int)} (op : Int) (hop : op = 0 ∨ op = 1 ∨ op = 2) (sA : SL w va la) (sB : SL w vb lb) (na : la.length ≤ 1048576) (nb : lb.length ≤ 1048576) :
    Calls Try.prog 23 #[.int .i64 op, va, vb] w fun e w' => ∃ v, e = .returned v ∧ SL w' v (lst (segR (cutsL la lb) (fun x => wantB op (hasB la x) (hasB lb x)) ((cutsL la lb).length - 1))) ∧ Below w.heap.size w w' := by
  obtain ⟨i0, hi, hz0, hz1, hz2⟩ := info_parts infoRng
  have HSA : Hid (SL w va la) := sA
  have HSB : Hid (SL w vb lb) := sB
  have HOP : Hid (op = 0 ∨ op = 1 ∨ op = 2) := hop
  have p0 : Hid (putL (putL [] 0) 1099511627776 = [0, 1099511627776]) := by show _ = _; decide
  clear sA sB hop
  go_enter Try.func23, Try.ntmps23
  have K1 : True := trivial
  have K2 : True := trivial
  go_wp2_with (first | (go_at_call 45; have hk := K1; clear hk K1; refine (put_any (il_nil _) (by simp) 0).mono ?_; rintro e w1 ⟨v1, rfl, i1, b1⟩) | (go_at_call 45; refine (put_any i1 (by simp [putL]) 1099511627776).mono ?_; rintro e w2 ⟨v2, rfl, i2, b2⟩; have hw2 : Below w.heap.size w w2 := b1.trans (b2.mono b1.size); rw [p0.out] at i2) | (go_at_call 44; have hk := K2; clear hk K2; refine (ends_any (HSA.out.later hw2) i2 na (by simp)).mono ?_; rintro e w3 ⟨v3, rfl, i3, b3⟩; have hw3 : Below w.heap.size w w3 := hw2.trans (b3.mono hw2.size)) | (go_at_call 44; refine (ends_any (HSB.out.later hw3) i3 nb (by have := endsL_length la [0, 1099511627776]; simp at this; omega)).mono ?_; rintro e w4 ⟨v4, rfl, i4, b4⟩; have hw4 : Below w.heap.size w w4 := hw3.trans (b4.mono hw3.size)))
  have i5 : IL w4 v4 (cutsL la lb) := i4
  have hcl : (cutsL la lb).length ≤ 8388608 := by
    have h1 := endsL_length la [0, 1099511627776]
    have h2 := endsL_length lb (endsL la [0, 1099511627776])
    unfold cutsL
    simp at h1; omega
  obtain ⟨hc2, _, _⟩ := cutsL_ends la lb
  have HR : Hid (Rising (cutsL la lb)) := cutsL_rising la lb
  have HSP := segR_spec (cutsL_rising la lb) (fun x => wantB op (hasB la x) (hasB lb x))
  obtain ⟨C, hC⟩ : ∃ C, C = cutsL la lb := ⟨_, rfl⟩
  obtain ⟨f, hf⟩ : ∃ f, f = (fun x => wantB op (hasB la x) (hasB lb x)) := ⟨_, rfl⟩
  have HF : Hid (∀ x, f x = wantB op (hasB la x) (hasB lb x)) := fun x => by rw [hf]
  have HCF : Hid (segR C f (C.length - 1) = segR (cutsL la lb) (fun x => wantB op (hasB la x) (hasB lb x)) ((cutsL la lb).length - 1)) := by show _ = _; rw [hC, hf]
  rw [← hC] at i5 hcl hc2 HR HSP
  rw [← hf] at HSP
  have HSP2 : Hid (∀ k, k < C.length → Tiles (C.getD 0 0) (C.getD k 0) (segR C f k) ∧ Alt (segR C f k)) := fun k hk => ⟨(HSP k hk).1, (HSP k hk).2.1⟩
  have HW4 : Hid (Below w.heap.size w w4) := hw4
  obtain ⟨co, cc, rfl, hI⟩ := i5
  have HI : Hid (∀ k x, C[k]? = some x → ∃ b off, co = some ⟨b, off, none⟩ ∧ w4.cell? ⟨b, off + k, none⟩ = some (.int .i64 x)) := hI
  obtain ⟨nc, hnc⟩ : ∃ nc, nc = C.length := ⟨_, rfl⟩
  rw [← hnc] at hcl hc2 ⊢
  have HNC : Hid (nc = C.length) := hnc
  clear hnc hI HSP hf hC hw4 hw3 hw2 b1 b2 b3 b4 i1 i2 i3 i4 p0 na nb
  go_loopw [8, 9] (fun o i wr => ∃ (k : Nat), k + 1 ≤ nc ∧ i = .int .i64 k ∧ Hid (wr.ownsRow w4.heap.size TRng 2 o (lst (segR C f k)).length (pcells (lst (segR C f k)))) ∧ Hid (Below w4.heap.size w4 wr)) (fun _ i _ => nc - (intOf i).toNat)
  case atStart => exact ⟨0, by omega, rfl, World.ownsRow_nil _ _ _ _, Below.refl _ _⟩
  case round =>
    obtain ⟨k, hk, rfl, HO, HBk⟩ := hrel
    have hbw := HBk.out.size
    obtain ⟨m, hm⟩ : ∃ m, m = (lst (segR C f k)).length := ⟨_, rfl⟩
    have hml : m ≤ 8388608 := by
      have h1 := lst_length (segR C f k)
      have h2 : ∀ j, (segR C f j).length ≤ j := by
        intro j
        induction j with
        | zero => simp [segR]
        | succ j ih => have := joinStep_length (segR C f j) ⟨C.getD j 0, C.getD (j + 1) 0, f (C.getD j 0)⟩; simp only [segR]; omega
      have h3 := h2 k
      omega
    have w1' : IntKind.i64.wrap ((k : Int) + 1) = (k : Int) + 1 := by rw [IntKind.wrap_i64]; omega
    by_cases hlt : k + 1 < nc
    · have hltz : (k : Int) + 1 < (nc : Int) := by omega
      obtain ⟨c, hc⟩ : ∃ c, C[k]? = some c := ⟨_, List.getElem?_eq_getElem (by have := HNC.out; omega)⟩
      obtain ⟨c', hc'⟩ : ∃ c', C[k + 1]? = some c' := ⟨_, List.getElem?_eq_getElem (by have := HNC.out; omega)⟩
      obtain ⟨b, off, rfl, d0⟩ := HI.out k c hc
      obtain ⟨b', off', eb, d1⟩ := HI.out (k + 1) c' hc'
      simp only [Option.some.injEq, Addr.mk.injEq, and_true] at eb
      obtain ⟨rfl, rfl⟩ := eb
      have c0 := cell_later HBk.out d0
      have c1 := cell_later HBk.out d1
      have hbl : b < w4.heap.size := World.block_lt_of_cell? _ _ d0
      have hkz : (k : Int) < (nc : Int) := by omega
      have eg : C.getD k 0 = c := by simp [List.getD_eq_getElem?_getD, hc]
      have eg' : C.getD (k + 1) 0 = c' := by simp [List.getD_eq_getElem?_getD, hc']
      have hcc : c < c' := by
        have h1 := rising_get HR.out (i := k) (j := k + 1) (by omega) (by have := HNC.out; omega)
        have h2 := (List.getElem?_eq_some_iff.1 hc).2
        have h3 := (List.getElem?_eq_some_iff.1 hc').2
        rw [h2, h3] at h1; exact h1
      obtain ⟨ht, ha⟩ := HSP2.out k (by have := HNC.out; omega)
      rw [eg] at ht
      have HS : Hid (segR C f (k + 1) = joinStep (segR C f k) ⟨c, c', f c⟩) := by
        show _ = _
        simp only [segR]; rw [eg, eg']
      have HQA : Hid (∀ n, Calls Try.prog 47 #[va, .int .i64 c] (wr.drewN n) fun e w' => e = .returned (.bool (hasB la c)) ∧ w' = wr.drewN n) := fun n => refHas_any ((HSA.out.later HW4.out).later (HBk.out.trans ((below_drewB wr n).mono HBk.out.size))) c
      have HQB : Hid (∀ n, Calls Try.prog 47 #[vb, .int .i64 c] (wr.drewN n) fun e w' => e = .returned (.bool (hasB lb c)) ∧ w' = wr.drewN n) := fun n => refHas_any ((HSB.out.later HW4.out).later (HBk.out.trans ((below_drewB wr n).mono HBk.out.size))) c
      have HQW : Hid (∀ n, Calls Try.prog 46 #[.int .i64 op, .bool (hasB la c), .bool (hasB lb c)] (wr.drewN n) fun e w' => e = .returned (.bool (f c)) ∧ w' = wr.drewN n) := fun n => by rw [HF.out]; exact wanted_any op HOP.out _ _ _
      generalize hasB la c = xa at HQA HQW
      generalize hasB lb c = xb at HQB HQW
      obtain ⟨ao2, cp, rfl⟩ := owns_form HO.out
      rw [← hm] at HO ⊢
      obtain ⟨R, hR⟩ : ∃ R, R = segR C f k := ⟨_, rfl⟩
      rw [← hR] at HO hm ht ha HS
      have HBd : Hid (∀ n, Below w4.heap.size w4 (wr.drewN n)) := fun n => HBk.out.trans ((below_drewB wr n).mono HBk.out.size)
      clear d0 d1 hc hc' eg eg' hR
      cases hfc : f c with
      | false =>
        rw [hfc] at HQW HS
        have HE : Hid (lst (segR C f (k + 1)) = lst R) := by show _ = _; rw [HS.out]; exact lst_join_false ht hcc
        have HO2 : Hid (∀ n, (wr.drewN n).ownsRow w4.heap.size TRng 2 (.slice ao2 m cp) (lst (segR C f (k + 1))).length (pcells (lst (segR C f (k + 1))))) := fun n => by rw [HE.out, ← hm]; exact HO.out
        clear hm ht ha
        go_wp2
        go_quiet (first | (go_at_call_of 47 va; exact Calls.quiet_of_same (HQA.out _)) | (go_at_call_of 47 vb; exact Calls.quiet_of_same (HQB.out _)) | (go_at_call 46; exact Calls.quiet_of_same (HQW.out _)))
        go_wp2
        go_roundw
        case rel => exact ⟨k + 1, by omega, by go_num, HO2.out _, HBd.out _⟩
        case measure => simp [intOf]; omega
      | true =>
        rw [hfc] at HQW HS
        rcases lst_join_true ht ha hcc with ⟨O, p, e1, e2, e3⟩ | ⟨e1, e3⟩
        · obtain ⟨mm, hmm⟩ : ∃ mm, mm = O.length := ⟨_, rfl⟩
          have hm2 : m = mm + 1 := by rw [hm, e1, hmm]; simp
          obtain ⟨g, rfl⟩ : ∃ g, ao2 = some ⟨g, 0, none⟩ := by
            rcases HO.out.2 with ⟨_, hn⟩ | ⟨g, cap, cur, hv, _⟩
            · omega
            · simp only [Value.slice.injEq] at hv
              exact ⟨g, hv.1⟩
          have hrow : wr.ownsRow w4.heap.size TRng 2 (.slice (some ⟨g, 0, none⟩) m cp) m (pcells (O ++ [p])) := by rw [← e1]; exact HO.out
          have cz : wr.cell? ⟨g, mm * 2 + 1, none⟩ = some (.int .i64 c) := by
            have h1 := hrow.cells (g := g) rfl (O.length * 2 + 1) _ (pcells_get (O ++ [p]) O.length p (by simp)).2
            rw [WideShapes.add_plain, Nat.zero_add, e2] at h1
            rw [hmm]; exact h1
          have fz : wr.frozen? ⟨g, mm * 2 + 1, none⟩ = false := hrow.frozenAt _
          have hbg : w4.heap.size ≤ g := (hrow.lt g rfl).1
          have HE : Hid (lst (segR C f (k + 1)) = O ++ [(p.1, c')]) := by show _ = _; rw [HS.out]; exact e3
          have HO3 : Hid (∀ n, ((wr.drewN n).setCell ⟨g, mm * 2 + 1, none⟩ (.int .i64 c')).ownsRow w4.heap.size TRng 2 (.slice (some ⟨g, 0, none⟩) m cp) (lst (segR C f (k + 1))).length (pcells (lst (segR C f (k + 1))))) := fun n => by
            have h1 : (wr.drewN n).ownsRow w4.heap.size TRng 2 (.slice (some ⟨g, 0, none⟩) m cp) m (pcells (O ++ [p])) := hrow
            have h2 := (h1.stored (mm * 2 + 1) (.int .i64 c')).1
            rw [hmm, pcells_set] at h2
            rw [HE.out, hmm, show (O ++ [(p.1, c')]).length = m by simp; omega]
            exact h2
          have HB3 : Hid (∀ n, Below w4.heap.size w4 ((wr.drewN n).setCell ⟨g, mm * 2 + 1, none⟩ (.int .i64 c'))) := fun n => (HBd.out n).setCell (p := ⟨g, mm * 2 + 1, none⟩) hbg _
          have HM2 : Hid (m = mm + 1) := hm2
          have hm0 : 0 < m := by omega
          have q1 : decide ((0 : Int) < (m : Int)) = true := decide_eq_true (by omega)
          have q2 : decide (0 < m) = true := decide_eq_true hm0
          have w5 : IntKind.i64.wrap ((m : Int) - 1) = (mm : Int) := by rw [IntKind.wrap_i64]; omega
          have q3 : (mm : Int) < (m : Int) := by omega
          have q4 : (c == c) = true := by simp
          clear hm ht ha e1 e2 e3 hmm hm2 hrow
          go_wp2
          go_quiet (first | (go_at_call_of 47 va; exact Calls.quiet_of_same (HQA.out _)) | (go_at_call_of 47 vb; exact Calls.quiet_of_same (HQB.out _)) | (go_at_call 46; exact Calls.quiet_of_same (HQW.out _)))
          go_wp2
          go_quiet (fail)
          go_wp2
          go_roundw
          case rel => exact ⟨k + 1, by omega, by go_num, HO3.out _, HB3.out _⟩
          case measure => simp [intOf]; omega
        · have HE : Hid (lst (segR C f (k + 1)) = lst R ++ [(c, c')]) := by show _ = _; rw [HS.out]; exact e3
          have HOz : Hid (∀ n, (wr.drewN n).ownsRow w4.heap.size TRng 2 (.slice ao2 m cp) m (pcells (lst R))) := fun n => HO.out
          have hne : some b ≠ (Value.slice ao2 m cp).ownBlock := fun e => by have := (HO.out.lt b e.symm).1; omega
          have h63 : m + 1 ≤ maxLen := by unfold maxLen; omega
          have hby : (m + 1) * 16 ≤ 140737488355328 := by omega
          have HM : Hid (m = (lst R).length) := hm
          have z0 : (0 : Int) ≤ (k : Int) := by omega
          have z1 : (0 : Int) ≤ (k : Int) + 1 := by omega
          have z2 : ((k : Int) + 1).toNat = k + 1 := by omega
          by_cases hm0 : 0 < m
          · obtain ⟨O, p, eO⟩ : ∃ O p, lst R = O ++ [p] := by
              rcases List.eq_nil_or_concat (lst R) with h | ⟨O, p, h⟩
              · rw [h] at hm; simp at hm; omega
              · exact ⟨O, p, by rw [h, List.concat_eq_append]⟩
            have hpc := e1 p (by rw [eO]; simp)
            obtain ⟨mm, hmm⟩ : ∃ mm, mm = O.length := ⟨_, rfl⟩
            have hm2 : m = mm + 1 := by rw [hm, eO, hmm]; simp
            obtain ⟨g, rfl⟩ : ∃ g, ao2 = some ⟨g, 0, none⟩ := by
              rcases HO.out.2 with ⟨_, hn⟩ | ⟨g, cap, cur, hv, _⟩
              · omega
              · simp only [Value.slice.injEq] at hv
                exact ⟨g, hv.1⟩
            have hrow : wr.ownsRow w4.heap.size TRng 2 (.slice (some ⟨g, 0, none⟩) m cp) m (pcells (O ++ [p])) := by rw [← eO]; exact HO.out
            have cz : wr.cell? ⟨g, mm * 2 + 1, none⟩ = some (.int .i64 p.2) := by
              have h1 := hrow.cells (g := g) rfl (O.length * 2 + 1) _ (pcells_get (O ++ [p]) O.length p (by simp)).2
              rw [WideShapes.add_plain, Nat.zero_add] at h1
              rw [hmm]; exact h1
            have HM2 : Hid (m = mm + 1) := hm2
            have q1 : decide ((0 : Int) < (m : Int)) = true := decide_eq_true (by omega)
            have q2 : decide (0 < m) = true := decide_eq_true hm0
            have w5 : IntKind.i64.wrap ((m : Int) - 1) = (mm : Int) := by rw [IntKind.wrap_i64]; omega
            have q3 : (mm : Int) < (m : Int) := by omega
            have q4 : (p.2 == c) = false := by simp [hpc]
            clear hm ht ha e1 e3 hmm hm2 hrow eO hpc
            go_wp2
            go_quiet (first | (go_at_call_of 47 va; exact Calls.quiet_of_same (HQA.out _)) | (go_at_call_of 47 vb; exact Calls.quiet_of_same (HQB.out _)) | (go_at_call 46; exact Calls.quiet_of_same (HQW.out _)))
            go_wp2
            go_quiet (fail)
            go_wp2
            rename_i nq1
            go_region_held3 (fun w' => w'.cell? ⟨b, off + k, none⟩ = some (.int .i64 c) ∧ w'.cell? ⟨b, off + (k + 1), none⟩ = some (.int .i64 c')) (first | go_keep | (go_split_ands; refine ⟨?_, ?_⟩ <;> (rw [hgrow.cell_far _ (by simp; omega) hne]; assumption))) ((refine step_append_lies _ (by rfl) _ _ _ (by rfl) w4.heap.size TRng i0 _ 2 16 Try.underlying48 hi hz0 hz1 hz2 rfl (by omega) (.slice (some ⟨g, 0, none⟩) m cp) m (pcells (lst R)) (by rfl) (((HOz.out (nq1 + nq)).alloc _).drew) ⟨wr.heap.size, 0, none⟩ 1 1 [.int .i64 c, .int .i64 c'] (by rfl) (by rfl) (World.news_of_block (cs := #[.int .i64 c, .int .i64 c']) (t := TRng) (fr := (0, 0)) (heap_alloc_new (wr.drewN (nq1 + nq)) _)) (by simp [Value.oneCell']) (by omega) h63 hby (by simp; omega) (wr.heap.size + 1) (by simp) ?_; intro gg cap1 wn hown1 hgrow hat hltg))
            have HO4 : Hid (wn.ownsRow w4.heap.size TRng 2 (.slice (some ⟨gg, 0, none⟩) (m + 1) cap1) (lst (segR C f (k + 1))).length (pcells (lst (segR C f (k + 1))))) := by
              show World.ownsRow _ _ _ _ _ _ _
              rw [HE.out, List.length_append, List.length_singleton, ← HM.out, pcells_append]
              exact hown1
            have HB4 : Hid (Below w4.heap.size w4 wn) := (below_drew ((HBd.out (nq1 + nq)).alloc (HBd.out (nq1 + nq)).size _)).grown hgrow (by simp; omega) (fun q e => (HO.out.lt q e).1)
            clear hown1 hgrow hat
            go_wp2
            go_roundw
            case rel => exact ⟨k + 1, by omega, by go_num, HO4.out, HB4.out⟩
            case measure => simp [intOf]; omega
          · have q1 : decide ((0 : Int) < (m : Int)) = false := decide_eq_false (by omega)
            have q2 : decide (0 < m) = false := decide_eq_false hm0
            clear hm ht ha e1 e3
            go_wp2
            go_quiet (first | (go_at_call_of 47 va; exact Calls.quiet_of_same (HQA.out _)) | (go_at_call_of 47 vb; exact Calls.quiet_of_same (HQB.out _)) | (go_at_call 46; exact Calls.quiet_of_same (HQW.out _)))
            go_wp2
            go_quiet (fail)
            go_wp2
            rename_i nq1
            go_region_held3 (fun w' => w'.cell? ⟨b, off + k, none⟩ = some (.int .i64 c) ∧ w'.cell? ⟨b, off + (k + 1), none⟩ = some (.int .i64 c')) (first | go_keep | (go_split_ands; refine ⟨?_, ?_⟩ <;> (rw [hgrow.cell_far _ (by simp; omega) hne]; assumption))) ((refine step_append_lies _ (by rfl) _ _ _ (by rfl) w4.heap.size TRng i0 _ 2 16 Try.underlying48 hi hz0 hz1 hz2 rfl (by omega) (.slice ao2 m cp) m (pcells (lst R)) (by rfl) (((HOz.out (nq1 + nq)).alloc _).drew) ⟨wr.heap.size, 0, none⟩ 1 1 [.int .i64 c, .int .i64 c'] (by rfl) (by rfl) (World.news_of_block (cs := #[.int .i64 c, .int .i64 c']) (t := TRng) (fr := (0, 0)) (heap_alloc_new (wr.drewN (nq1 + nq)) _)) (by simp [Value.oneCell']) (by omega) h63 hby (by simp; omega) (wr.heap.size + 1) (by simp) ?_; intro gg cap1 wn hown1 hgrow hat hltg))
            have HO4 : Hid (wn.ownsRow w4.heap.size TRng 2 (.slice (some ⟨gg, 0, none⟩) (m + 1) cap1) (lst (segR C f (k + 1))).length (pcells (lst (segR C f (k + 1))))) := by
              show World.ownsRow _ _ _ _ _ _ _
              rw [HE.out, List.length_append, List.length_singleton, ← HM.out, pcells_append]
              exact hown1
            have HB4 : Hid (Below w4.heap.size w4 wn) := (below_drew ((HBd.out (nq1 + nq)).alloc (HBd.out (nq1 + nq)).size _)).grown hgrow (by simp; omega) (fun q e => (HO.out.lt q e).1)
            clear hown1 hgrow hat
            go_wp2
            go_roundw
            case rel => exact ⟨k + 1, by omega, by go_num, HO4.out, HB4.out⟩
            case measure => simp [intOf]; omega
    · have e : k + 1 = nc := by omega
      have hltz : ¬ (k : Int) + 1 < (nc : Int) := by omega
      obtain ⟨ao2, cp, rfl⟩ := owns_form HO.out
      have HE : Hid (segR C f k = segR (cutsL la lb) (fun x => wantB op (hasB la x) (hasB lb x)) ((cutsL la lb).length - 1)) := by
        show _ = _
        rw [← HCF.out, ← HNC.out, ← e, Nat.add_sub_cancel]
      have HS : Hid (SL wr (.slice ao2 (lst (segR C f k)).length cp) (lst (segR C f k))) := sl_row HO.out (by omega)
      go_wp2
      go_ret
      exact ⟨_, rfl, by rw [← HE.out]; exact HS.out, HW4.out.trans (HBk.out.mono HW4.out.size)⟩
end Go.Proofs.Ytijafckdbhklmab.B
