import Derived.Test.YtbamjfnjenmdaaaGreatG27
namespace Go.Proofs.YtbamjfnjenmdaaaGreat.C
open Go.RowKit Go.Maps Go.Shelf Go.Proofs.YtbamjfnjenmdaaaGreat
attribute [local go_sem] Oper.semAt_some
set_option linter.unusedVariables false
set_option linter.unusedSimpArgs false
set_option maxRecDepth 100000

set_option maxHeartbeats 8000000 in
theorem least_back {w : World} {P : Loc} {S : K.Dk} {C : Ch} (h : RC w P S C) :
    Calls Tryz.prog 41 #[.pointer (some ⟨P.bc, 0, none⟩), .func (.func 42) #[] #[]] w fun r w' => r = .returned (.tuple #[.int .i64 (secOf (C.L.find? dirtyData)), .bool (C.L.find? dirtyData).isSome]) ∧ Below w.heap.size w w' := by
  have hlim := h.lim
  refine (callsIn_wide (n := 4)).1 ?_
  have f0 : Fence.wide.fn 41 := trivial
  have f1 : Fence.wide.fn 63 := trivial
  have f2 : Fence.wide.fn 116 := trivial
  have f3 : Fence.wide.fn 42 := trivial
  have hp : Pk 42 dirtyData := pk_back
  obtain ⟨w1, hw1⟩ : ∃ w1, w1 = (((w.alloc (.cells #[.pointer (some ⟨P.bc, 0, none⟩)] TPc)).alloc (.cells #[.func (.func 42) #[] #[]] TFn)).alloc (.cells #[.int .i64 0] TIn)).alloc (.cells #[.bool false] TBo) := ⟨_, rfl⟩
  have hB1 : Below w.heap.size w w1 := by rw [hw1]; exact ((((Below.refl _ w).alloc (Nat.le_refl _) _).alloc (by simp) _).alloc (by simp; omega) _).alloc (by simp; omega) _
  have hs1 : w1.heap.size = w.heap.size + 4 := by rw [hw1]; simp
  have h1 := h.later hB1
  have c4 : w1.cell? ⟨P.bc, 4, none⟩ = some (.pointer (some ⟨P.bo, 0, none⟩)) := h1.c 4
  have x0 : Boxed w1 w.heap.size TPc (.pointer (some ⟨P.bc, 0, none⟩)) := by rw [hw1]; exact (((Boxed.new w TPc _).alloc _).alloc _).alloc _
  have x1 : Boxed w1 (w.heap.size + 1) TFn (.func (.func 42) #[] #[]) := by
    have := Boxed.new (w.alloc (.cells #[.pointer (some ⟨P.bc, 0, none⟩)] TPc)) TFn (.func (.func 42) #[] #[])
    rw [World.size_alloc] at this
    rw [hw1]; exact (this.alloc _).alloc _
  have x2 : Boxed w1 (w.heap.size + 2) TIn (.int .i64 0) := by
    have := Boxed.new ((w.alloc (.cells #[.pointer (some ⟨P.bc, 0, none⟩)] TPc)).alloc (.cells #[.func (.func 42) #[] #[]] TFn)) TIn (.int .i64 0)
    rw [World.size_alloc, World.size_alloc] at this
    rw [hw1]; exact this.alloc _
  have x3 : Boxed w1 (w.heap.size + 3) TBo (.bool false) := by
    have := Boxed.new (((w.alloc (.cells #[.pointer (some ⟨P.bc, 0, none⟩)] TPc)).alloc (.cells #[.func (.func 42) #[] #[]] TFn)).alloc (.cells #[.int .i64 0] TIn)) TBo (.bool false)
    rw [World.size_alloc, World.size_alloc, World.size_alloc] at this
    rw [hw1]; exact this
  have d0 := x0.cell
  refine callsIn_of_wp_marks Tryz.func41 rfl f0 ?_ rfl
  simp only [Tryz.ntmps41, List.size_toArray, List.length_cons, List.length_nil, Nat.reduceAdd, Nat.reduceSub, Array.replicate_succ, Array.replicate_zero, List.push_toArray, List.append_toArray, List.nil_append, List.cons_append]
  have c4' := c4
  rw [hw1] at c4'
  gi_wp2_with (gi_at_call 63; refine (callsIn_wide.2 (I.A.func_any _ _)).mono ?_; rintro e w' ⟨rfl, rfl⟩)
  obtain ⟨W0, hW0⟩ : ∃ W0, W0 = (w1.alloc (.cells #[.pointer (some ⟨P.bo, 0, none⟩)] I.A.TPo)).alloc (.cells #[.func (.func 93) #[] #[]] I.A.TPf) := ⟨_, rfl⟩
  rw [← hw1, ← hW0]
  have hB10 : Below w1.heap.size w1 W0 := by rw [hW0]; exact ((Below.refl _ w1).alloc (Nat.le_refl _) _).alloc (by simp) _
  have hB0 : Below w.heap.size w W0 := hB1.trans (hB10.mono hB1.size)
  have hs0 : W0.heap.size = w.heap.size + 6 := by rw [hW0]; simp [hs1]
  have bx1 : W0.cell? ⟨w.heap.size + 1 + 1 + 1 + 1, 0, none⟩ = some (.pointer (some ⟨P.bo, 0, none⟩)) := by
    have := Boxed.new w1 I.A.TPo (.pointer (some ⟨P.bo, 0, none⟩))
    rw [hs1] at this
    rw [hW0]; exact (this.alloc _).cell
  have bx2 : W0.cell? ⟨w.heap.size + 1 + 1 + 1 + 1 + 1, 0, none⟩ = some (.func (.func 93) #[] #[]) := by
    have := Boxed.new (w1.alloc (.cells #[.pointer (some ⟨P.bo, 0, none⟩)] I.A.TPo)) I.A.TPf (.func (.func 93) #[] #[])
    rw [World.size_alloc, hs1] at this
    rw [hW0]; exact this.cell
  have hlen : P.E.length * 8 ≤ 140737488355328 := by rw [h.lenE]; omega
  have hseq := I.A.seq_gen (fun x : { l // l ∈ C.L } => (x.1.sec : Int)) C.L.attach 3 (by omega) kpN_row (h.later hB0).ro (by rw [pickedA, h.eq, attach_secs]) bx1 bx2 (by omega) hlen (fun _ _ _ _ _ _ _ => trivial)
  have HX : Hid (∀ W, Below W0.heap.size W0 W → RC W P S C ∧ Boxed W w.heap.size TPc (.pointer (some ⟨P.bc, 0, none⟩)) ∧ Boxed W (w.heap.size + 1) TFn (.func (.func 42) #[] #[]) ∧ Boxed W (w.heap.size + 1 + 1) TIn (.int .i64 0) ∧ Boxed W (w.heap.size + 1 + 1 + 1) TBo (.bool false) ∧ Below w.heap.size w W) := fun W hb => by
    have hb' : Below w1.heap.size w1 W := hB10.trans (hb.mono hB10.size)
    have hbw : Below w.heap.size w W := hB1.trans (hb'.mono hB1.size)
    exact ⟨h.later hbw, (hb'.block _ (by omega)).trans x0, (hb'.block _ (by omega)).trans x1, (hb'.block _ (by omega)).trans x2, (hb'.block _ (by omega)).trans x3, hbw⟩
  have HP : Hid (Pk 42 dirtyData) := hp
  clear bx1 bx2 c4 c4' d0 x0 x1 x2 x3 h1 hw1 hW0 hp h hlen
  refine wpIn_rangeFunc_ownH rfl (by omega) (gf := 116) (lb := #[.pointer (some ⟨w.heap.size + 1 + 1 + 1 + 1, 0, none⟩), .pointer (some ⟨w.heap.size + 1 + 1 + 1 + 1 + 1, 0, none⟩)]) rfl f2 (enters_of Tryz.func116 (by kernel_rfl) rfl)
    hseq kpN_t (kpN_b (w := W0)) (Below.refl _ _) (fun _ => rfl)
    (fun pre W => Below W0.heap.size W0 W ∧ ∀ x ∈ pre, dirtyData x.1 = false)
    (fun c pre' W => c = .ret ∧ ∃ pre x, pre' = pre ++ [x] ∧ (∀ y ∈ pre, dirtyData y.1 = false) ∧ dirtyData x.1 = true ∧ Boxed W (w.heap.size + 1 + 1) TIn (.int .i64 x.1.sec) ∧ Boxed W (w.heap.size + 1 + 1 + 1) TBo (.bool true) ∧ Below w.heap.size w W)
    (OwnFrom.and (ownFrom_below (Nat.le_refl _) (Nat.le_refl _)) (fun _ _ _ _ h _ _ => h))
    (fun c s X Y row hs hg hr => by
      obtain ⟨e1, pre, x, e2, e3, e4, e5, e6, e7⟩ := hs
      exact ⟨e1, pre, x, e2, e3, e4, boxed_own _ TIn (fun _ : Unit => .int .i64 x.1.sec) () X Y row e5 hg (fun r e => (hr r e).2), boxed_own _ TBo (fun _ : Unit => .bool true) () X Y row e6 hg (fun r e => (hr r e).2), ownFrom_below (β := Unit) (Nat.le_refl _) (by omega) () X Y row e7 hg hr⟩)
    ⟨Below.refl _ _, fun x hx => by cases hx⟩
    (fun x a' W => a' = { tmps := #[.pointer (some ⟨P.bc, 0, none⟩), .func (.func 42) #[] #[], .pointer (some ⟨w.heap.size, 0, none⟩), .pointer (some ⟨w.heap.size + 1, 0, none⟩), .pointer (some ⟨w.heap.size + 1 + 1, 0, none⟩), .pointer (some ⟨w.heap.size + 1 + 1 + 1, 0, none⟩), .int .i64 x.1.sec, .pointer (some ⟨P.bc, 0, none⟩), .pointer (some ⟨P.bc, 0, none⟩), .pointer (some ⟨P.bc, 4, none⟩), .pointer (some ⟨P.bo, 0, none⟩), .func (.func 116) #[] #[.pointer (some ⟨w.heap.size + 1 + 1 + 1 + 1, 0, none⟩), .pointer (some ⟨w.heap.size + 1 + 1 + 1 + 1 + 1, 0, none⟩)], .int .i64 x.1.sec, undef, undef, undef, undef, undef, undef, undef, undef, undef], defers := [] })
    (fun x a' s X Y row hs hg hrow => hs)
    ?assign ?body ?done ?stop
  case assign =>
    rintro l pre x W K hI hK
    gi_wp2
    exact hK _ _ (KeepsFrom.refl _ _) (fun _ _ _ h => h) hI rfl
  case body =>
    rintro l pre x a' W hl ⟨r, hr⟩ ⟨hB, hpre⟩ rfl hlt
    obtain ⟨hrc, y0, y1, y2, y3, hbw⟩ := HX.out W hB
    have d0 := y0.cell
    have d1 := y1.cell
    have c3 : W.cell? ⟨P.bc, 3, none⟩ = some (.map (some P.bl)) := hrc.c 3
    have hlk : ∀ q, (Instr.lookup TLm (.map (some P.bl)) (.int .i64 x.1.sec) false).run Tryz.prog (W.drewN q) = .ok (.pointer (some ⟨x.1.blk, 0, none⟩)) (W.drewN q) := fun q => by
      have hrq : RC (W.drewN q) P S C := hrc.same fun _ _ => rfl
      have := hrq.look (hrq.wf x.2)
      rw [hrq.atLine x.2] at this
      exact this
    have hpk : ∀ q, Calls Tryz.prog 42 #[.pointer (some ⟨x.1.blk, 0, none⟩)] (W.drewN q) fun r w' => r = .returned (.bool (dirtyData x.1)) ∧ w' = W.drewN q := fun q => HP.out (W.drewN q) x.1 (hrc.ln x.1 x.2) (hrc.ok x.1 x.2).2
    have HY : Hid (Boxed W (w.heap.size + 1 + 1) TIn (.int .i64 0) ∧ Boxed W (w.heap.size + 1 + 1 + 1) TBo (.bool false) ∧ Below w.heap.size w W) := ⟨y2, y3, hbw⟩
    clear hrc y0 y1 y2 y3 hbw
    obtain ⟨b, hb⟩ : ∃ b, b = dirtyData x.1 := ⟨_, rfl⟩
    rw [← hb] at hpk
    have HPB : Hid (b = dirtyData x.1) := hb
    have HPR : Hid (∀ y ∈ pre, dirtyData y.1 = false) := hpre
    have HBW : Hid (Below W0.heap.size W0 W) := hB
    clear hb hpre hB hB0 hB10 HX HP hseq
    cases b
    · gi_wp2
      refine region_quiet (by kernel_rfl) mixed (by kernel_rfl) ?_
      repeat (gi_big_quiet_step (first | (gi_at_call 42; exact CallsIn.inRound _ (CallsIn.quiet_of_same (callsIn_wide.2 (hpk _))))))
      refine wpQuietIn_nil ?_
      intro _ hw'
      obtain ⟨nq, rfl⟩ := hw'
      gi_big_wp2
      have hdr : Below W0.heap.size W0 (W.drewN nq) := ⟨HBW.out.os, HBW.out.tape, HBW.out.output, HBW.out.size, HBW.out.block⟩
      exact ⟨⟨Nat.le_refl _, fun _ _ _ h _ => h⟩, fun _ _ _ h => h, hdr, fun y hy => by
        rcases List.mem_append.1 hy with hy | hy
        · exact HPR.out y hy
        · simp at hy; subst hy; exact HPB.out.symm⟩
    · gi_wp2
      refine region_quiet (by kernel_rfl) mixed (by kernel_rfl) ?_
      repeat (gi_big_quiet_step (first | (gi_at_call 42; exact CallsIn.inRound _ (CallsIn.quiet_of_same (callsIn_wide.2 (hpk _))))))
      refine wpQuietIn_nil ?_
      intro _ hw'
      obtain ⟨nq, rfl⟩ := hw'
      have e2 : (W.drewN nq).heap[w.heap.size + 1 + 1]? = some (.cells #[.int .i64 0] TIn (0, 0)) := HY.out.1
      have e3 : (W.drewN nq).heap[w.heap.size + 1 + 1 + 1]? = some (.cells #[.bool false] TBo (0, 0)) := HY.out.2.1
      have k2 := K.cell_of (j := 0) e2
      have g2 := K.frozen_of (j := 0) e2
      have e3' : ((W.drewN nq).setCell ⟨w.heap.size + 1 + 1, 0, none⟩ (.int .i64 x.1.sec)).heap[w.heap.size + 1 + 1 + 1]? = some (.cells #[.bool false] TBo (0, 0)) := (Below.heap_setCell _ _ _ _ (by show w.heap.size + 1 + 1 + 1 ≠ w.heap.size + 1 + 1; omega)).trans e3
      have k3 := K.cell_of (j := 0) e3'
      have g3 := K.frozen_of (j := 0) e3'
      simp only [List.getElem?_toArray, List.getElem?_cons_zero] at k2 k3
      gi_big_wp2
      have hfin : Below w.heap.size w (((W.drewN nq).setCell ⟨w.heap.size + 1 + 1, 0, none⟩ (.int .i64 x.1.sec)).setCell ⟨w.heap.size + 1 + 1 + 1, 0, none⟩ (.bool true)) := by
        have hbw := HY.out.2.2
        have h0 : Below w.heap.size w (W.drewN nq) := ⟨hbw.os, hbw.tape, hbw.output, hbw.size, hbw.block⟩
        exact (h0.setCell (p := ⟨w.heap.size + 1 + 1, 0, none⟩) (by show w.heap.size ≤ w.heap.size + 1 + 1; omega) _).setCell (p := ⟨w.heap.size + 1 + 1 + 1, 0, none⟩) (by show w.heap.size ≤ w.heap.size + 1 + 1 + 1; omega) _
      refine ⟨?_, rfl, pre, x, rfl, HPR.out, HPB.out.symm, ?_, ?_, hfin⟩
      · have q1 : KeepsOthers W (W.drewN nq) := ⟨Nat.le_refl _, fun _ _ h _ => h⟩
        exact ((q1.trans (KeepsOthers.setCell _ _ _)).trans (KeepsOthers.setCell _ _ _)).from _
      · show (World.setCell _ _ _).heap[_]? = _
        rw [Below.heap_setCell _ _ _ _ (by show w.heap.size + 1 + 1 ≠ w.heap.size + 1 + 1 + 1; omega)]
        exact K.blk_set e2 0 _
      · exact K.blk_set e3' 0 _
  case done =>
    rintro D ys W hD rfl ⟨hB, hall⟩ hK
    obtain ⟨hrc, y0, y1, y2, y3, hbw⟩ := HX.out W hB
    have hno : C.L.find? dirtyData = none := List.find?_eq_none.2 fun l hl => by
      have := hall ⟨l, hl⟩ (List.mem_attach _ _)
      simp at this
      simp [this]
    have k2 := y2.cell
    have g2 := y2.frozen
    have y3' : Boxed (W.setCell ⟨w.heap.size + 1 + 1, 0, none⟩ (.int .i64 0)) (w.heap.size + 1 + 1 + 1) TBo (.bool false) := (Below.heap_setCell _ _ _ _ (by show w.heap.size + 1 + 1 + 1 ≠ w.heap.size + 1 + 1; omega)).trans y3
    have k3 := y3'.cell
    have g3 := y3'.frozen
    have y2' : Boxed ((W.setCell ⟨w.heap.size + 1 + 1, 0, none⟩ (.int .i64 0)).setCell ⟨w.heap.size + 1 + 1 + 1, 0, none⟩ (.bool false)) (w.heap.size + 1 + 1) TIn (.int .i64 0) := (Below.heap_setCell _ _ _ _ (by show w.heap.size + 1 + 1 ≠ w.heap.size + 1 + 1 + 1; omega)).trans (K.blk_set y2 0 _)
    have y3'' : Boxed ((W.setCell ⟨w.heap.size + 1 + 1, 0, none⟩ (.int .i64 0)).setCell ⟨w.heap.size + 1 + 1 + 1, 0, none⟩ (.bool false)) (w.heap.size + 1 + 1 + 1) TBo (.bool false) := K.blk_set y3' 0 _
    have hD2 : D ≠ w.heap.size + 1 + 1 ∧ D ≠ w.heap.size + 1 + 1 + 1 := by omega
    have hK2 : ((W.setCell ⟨w.heap.size + 1 + 1, 0, none⟩ (.int .i64 0)).setCell ⟨w.heap.size + 1 + 1 + 1, 0, none⟩ (.bool false)).heap[D]? = some (.deferred (some [])) := (Below.heap_setCell _ _ _ _ hD2.2).trans ((Below.heap_setCell _ _ _ _ hD2.1).trans hK)
    have hfin : Below w.heap.size w ((W.setCell ⟨w.heap.size + 1 + 1, 0, none⟩ (.int .i64 0)).setCell ⟨w.heap.size + 1 + 1 + 1, 0, none⟩ (.bool false)) := (hbw.setCell (p := ⟨w.heap.size + 1 + 1, 0, none⟩) (by show w.heap.size ≤ w.heap.size + 1 + 1; omega) _).setCell (p := ⟨w.heap.size + 1 + 1 + 1, 0, none⟩) (by show w.heap.size ≤ w.heap.size + 1 + 1 + 1; omega) _
    have HFIN : Hid _ := hfin
    clear hfin hrc y0 y1 hall hB hbw
    gi_wp2
    refine ⟨by simp, .inl ⟨_, _, rfl, run_takeDeferred hK2, ?_⟩⟩
    have r2 : (((W.setCell ⟨w.heap.size + 1 + 1, 0, none⟩ (.int .i64 0)).setCell ⟨w.heap.size + 1 + 1 + 1, 0, none⟩ (.bool false)).putObj D (.deferred none)).cell? ⟨w.heap.size + 1 + 1, 0, none⟩ = some (.int .i64 0) := K.cell_of ((World.putObj_heap_other (Ne.symm hD2.1)).trans y2')
    have r3 : (((W.setCell ⟨w.heap.size + 1 + 1, 0, none⟩ (.int .i64 0)).setCell ⟨w.heap.size + 1 + 1 + 1, 0, none⟩ (.bool false)).putObj D (.deferred none)).cell? ⟨w.heap.size + 1 + 1 + 1, 0, none⟩ = some (.bool false) := K.cell_of ((World.putObj_heap_other (Ne.symm hD2.2)).trans y3'')
    refine ⟨_, by rw [results_cell2 (p := 4) (q := 5) (tp := TIn) (tq := TBo) rfl]; exact load_two r2 r3, ?_, HFIN.out.trans (belowK_b (w := w) (Nat.le_refl _) _ D _ _ (by omega) hK2 rfl rfl)⟩
    rw [hno]; rfl
  case stop =>
    rintro D c pre' W hD ⟨rest, hrest⟩ ⟨rfl, pre, x, rfl, h1, h2, b2, b3, hbw⟩ hK
    have hL : C.L = pre.map Subtype.val ++ x.1 :: rest.map Subtype.val := by
      have := congrArg (List.map Subtype.val) hrest
      rw [List.attach_map_subtype_val] at this
      simpa using this
    have hfd : C.L.find? dirtyData = some x.1 := find_at hL (fun y hy => by obtain ⟨z, hz, rfl⟩ := List.mem_map.1 hy; exact h1 z hz) h2
    gi_wp2
    refine ⟨by simp, .inl ⟨_, _, rfl, run_takeDeferred hK, ?_⟩⟩
    have hD2 : D ≠ w.heap.size + 1 + 1 ∧ D ≠ w.heap.size + 1 + 1 + 1 := by omega
    have r2 : (W.putObj D (.deferred none)).cell? ⟨w.heap.size + 1 + 1, 0, none⟩ = some (.int .i64 x.1.sec) := K.cell_of ((World.putObj_heap_other (Ne.symm hD2.1)).trans b2)
    have r3 : (W.putObj D (.deferred none)).cell? ⟨w.heap.size + 1 + 1 + 1, 0, none⟩ = some (.bool true) := K.cell_of ((World.putObj_heap_other (Ne.symm hD2.2)).trans b3)
    refine ⟨_, by rw [results_cell2 (p := 4) (q := 5) (tp := TIn) (tq := TBo) rfl]; exact load_two r2 r3, ?_, hbw.trans (belowK_b (w := w) (Nat.le_refl _) _ D _ _ (by omega) hK rfl rfl)⟩
    rw [hfd]; rfl
end Go.Proofs.YtbamjfnjenmdaaaGreat.C
