import Derived.Test.YtjhickfjagalfaaDoorJU
namespace Go.Proofs.YtjhickfjagalfaaDoor
open Go.RowKit Go.Maps Go.Shelf
attribute [local go_sem] Oper.semAt_some
set_option linter.unusedVariables false
set_option linter.unusedSimpArgs false
set_option maxRecDepth 100000
set_option maxHeartbeats 8000000 in
theorem wnumber_any (T : Int) (s : ByteArray) (w : World) (hT : Tb w) :
    Calls Tryd.prog 9 #[.int .i64 T, .string s] w fun e w' => e = .returned (.tuple #[.int .u32 ((numOf T s).1 : Int), .bool (numOf T s).2]) ∧ Below w.heap.size w w' := by
  refine (callsIn_wide (n := 4)).1 ?_
  have f0 : Fence.wide.fn 9 := trivial
  have f2 : Fence.wide.fn 55 := trivial
  obtain ⟨W0, hW0⟩ : ∃ W0, W0 = ((((w.alloc (.cells #[.int .i64 T] 3)).alloc (.cells #[.string s] 9)).alloc (.cells #[.int .u32 0] 22)).alloc (.cells #[.bool false] 4)) := ⟨_, rfl⟩
  have hB0 : Below w.heap.size w W0 := by rw [hW0]; exact ((((Below.refl _ w).alloc (Nat.le_refl _) _).alloc (by simp) _).alloc (by simp; omega) _).alloc (by simp; omega) _
  have hs0 : W0.heap.size = w.heap.size + 4 := by rw [hW0]; simp
  have x0 : Boxed W0 (w.heap.size) 3 (.int .i64 T) := by
    have h := Boxed.new w 3 (.int .i64 T)
    rw [hW0]; exact (((h).alloc _).alloc _).alloc _
  have x1 : Boxed W0 (w.heap.size + 1) 9 (.string s) := by
    have h := Boxed.new (w.alloc (.cells #[.int .i64 T] 3)) 9 (.string s)
    rw [World.size_alloc] at h
    rw [hW0]; exact ((h).alloc _).alloc _
  have x2 : Boxed W0 (w.heap.size + 1 + 1) 22 (.int .u32 0) := by
    have h := Boxed.new ((w.alloc (.cells #[.int .i64 T] 3)).alloc (.cells #[.string s] 9)) 22 (.int .u32 0)
    rw [World.size_alloc, World.size_alloc] at h
    rw [hW0]; exact (h).alloc _
  have x3 : Boxed W0 (w.heap.size + 1 + 1 + 1) 4 (.bool false) := by
    have h := Boxed.new (((w.alloc (.cells #[.int .i64 T] 3)).alloc (.cells #[.string s] 9)).alloc (.cells #[.int .u32 0] 22)) 4 (.bool false)
    rw [World.size_alloc, World.size_alloc, World.size_alloc] at h
    rw [hW0]; exact h
  have hseq := rows_seq 3 (by omega) (hT.later hB0)
  have hT1 : 1 < W0.heap.size := (hT.later hB0).lt1
  have HX : Hid (∀ W, Below W0.heap.size W0 W → Boxed W (w.heap.size) 3 (.int .i64 T) ∧ Boxed W (w.heap.size + 1) 9 (.string s) ∧ Boxed W (w.heap.size + 1 + 1) 22 (.int .u32 0) ∧ Boxed W (w.heap.size + 1 + 1 + 1) 4 (.bool false) ∧ Below w.heap.size w W) := fun W hb => ⟨(hb.block _ (by omega)).trans x0, (hb.block _ (by omega)).trans x1, (hb.block _ (by omega)).trans x2, (hb.block _ (by omega)).trans x3, hB0.trans (hb.mono hB0.size)⟩
  clear x0 x1 x2 x3 hT hB0
  refine callsIn_of_wp_marks Tryd.func9 rfl f0 ?_ rfl
  simp only [Tryd.ntmps9, List.size_toArray, List.length_cons, List.length_nil, Nat.reduceAdd, Nat.reduceSub, Array.replicate_succ, Array.replicate_zero, List.push_toArray, List.append_toArray, List.nil_append, List.cons_append]
  gi_wp2
  rw [← hW0]
  clear hW0
  refine wpIn_rangeFunc_ownH rfl (by omega) (gf := 55) (lb := #[]) rfl f2 (enters_of Tryd.func55 (by kernel_rfl) rfl)
    hseq kpT_t (kpT_b (w := W0) hT1) (Below.refl _ _) (fun _ => rfl)
    (fun pre W => Below W0.heap.size W0 W ∧ ∀ x ∈ pre, hitS T s x = false)
    (fun c pre' W => c = .ret ∧ ∃ pre x, pre' = pre ++ [x] ∧ (∀ y ∈ pre, hitS T s y = false) ∧ hitS T s x = true ∧ W.heap[w.heap.size + 1 + 1]? = some (.cells #[.int .u32 (x.n : Int)] 22 (0, 0)) ∧ W.heap[w.heap.size + 1 + 1 + 1]? = some (.cells #[.bool true] 4 (0, 0)) ∧ Below w.heap.size w W)
    (OwnFrom.and (ownFrom_below (Nat.le_refl _) (Nat.le_refl _)) (fun _ _ _ _ h _ _ => h))
    (fun c s X Y row hs hg hr => by
      obtain ⟨e1, pre, x, e2, e3, e4, g0, g1, e7⟩ := hs
      exact ⟨e1, pre, x, e2, e3, e4, cells_own () X Y row g0 hg hr, cells_own () X Y row g1 hg hr, ownFrom_below (β := Unit) (Nat.le_refl _) (by omega) () X Y row e7 hg hr⟩)
    ⟨Below.refl _ _, fun x hx => by cases hx⟩
    (fun x a' W => ∃ b, a' = { tmps := #[.int .i64 T, .string s, .pointer (some ⟨w.heap.size, 0, none⟩), .pointer (some ⟨w.heap.size + 1, 0, none⟩), .pointer (some ⟨w.heap.size + 1 + 1, 0, none⟩), .pointer (some ⟨w.heap.size + 1 + 1 + 1, 0, none⟩), .pointer (some ⟨b, 0, none⟩), x.val, undef, undef, undef, undef, undef, undef, undef, undef, undef, undef, undef, undef], defers := [] } ∧ W0.heap.size ≤ b ∧ W.heap[b]? = some (.cells #[.int .i64 (x.t : Int), .int .u32 (x.n : Int), .string (bstr x.s)] TRow (0, 0)))
    (fun x a' s X Y row hs hg hrow => by
      obtain ⟨b, h1, h2, h3⟩ := hs
      exact ⟨b, h1, h2, cells_own () X Y row h3 hg hrow⟩)
    ?assign ?body ?done ?stop
  case assign =>
    rintro l pre x W K ⟨hB, hpre⟩ hK
    have hb2 : Below W0.heap.size W0 (W.alloc (.cells #[.int .i64 (x.t : Int), .int .u32 (x.n : Int), .string (bstr x.s)] TRow)) := hB.alloc hB.size _
    have hlt : 1 < W.heap.size := Nat.lt_of_lt_of_le hT1 hB.size
    have hsz := hB.size
    have HK2 := hK { tmps := #[.int .i64 T, .string s, .pointer (some ⟨w.heap.size, 0, none⟩), .pointer (some ⟨w.heap.size + 1, 0, none⟩), .pointer (some ⟨w.heap.size + 1 + 1, 0, none⟩), .pointer (some ⟨w.heap.size + 1 + 1 + 1, 0, none⟩), .pointer (some ⟨W.heap.size, 0, none⟩), x.val, undef, undef, undef, undef, undef, undef, undef, undef, undef, undef, undef, undef], defers := [] } (W.alloc (.cells #[.int .i64 (x.t : Int), .int .u32 (x.n : Int), .string (bstr x.s)] TRow)) ⟨by simp, fun k o hk h _ => (Below.heap_alloc _ _ _ (Array.getElem?_eq_some_iff.1 h).1).trans h⟩ (Below.heap_alloc _ _ _ hlt) ⟨hb2, hpre⟩ ⟨W.heap.size, rfl, hsz, heap_new W _⟩
    have HK3 : Hid _ := HK2
    clear hK HK2 hb2 hB hpre HX hseq
    gi_wp2
    exact HK3.out
  case body =>
    rintro l pre x a' W hl ⟨r, hr⟩ ⟨hB, hpre⟩ ⟨b, rfl, hbw, hbx⟩ hlt
    obtain ⟨y0, y1, y2, y3, hbe⟩ := HX.out W hB
    have d0 := y0.cell
    have d1 := y1.cell
    have z0 := blk_at hbx 0
    have z1 := blk_at hbx 1
    have z2 := blk_at hbx 2
    simp at z0 z1 z2
    have HY : Hid (Boxed W (w.heap.size + 1 + 1) 22 (.int .u32 0) ∧ Boxed W (w.heap.size + 1 + 1 + 1) 4 (.bool false) ∧ Below w.heap.size w W) := ⟨y2, y3, hbe⟩
    have HPR : Hid (∀ y ∈ pre, hitS T s y = false) := hpre
    have HBW : Hid (Below W0.heap.size W0 W) := hB
    clear y0 y1 y2 y3 hbe hpre hB HX hseq hbx
    by_cases h1 : (x.t : Int) = T
    · by_cases h2 : bstr x.s = s
      · have e2 : ((bstr x.s).toList == s.toList) = true := by rw [h2]; simp
        have HH : Hid (hitS T s x = true) := by show _ = _; simp [hitS, h1, h2]
        have q2 := HY.out.1
        have k2 := q2.cell
        have g2 := q2.frozen
        have q3 : Boxed (W.setCell ⟨w.heap.size + 1 + 1, 0, none⟩ (.int .u32 (x.n : Int))) (w.heap.size + 1 + 1 + 1) 4 (.bool false) := (Below.heap_setCell _ _ _ _ (by show w.heap.size + 1 + 1 + 1 ≠ w.heap.size + 1 + 1; omega)).trans HY.out.2.1
        have k3 := q3.cell
        have g3 := q3.frozen
        gi_wp2
        refine ⟨((KeepsOthers.setCell _ _ _).trans (KeepsOthers.setCell _ _ _)).from _, rfl, pre, x, rfl, HPR.out, HH.out, (Below.heap_setCell _ _ _ _ (by show w.heap.size + 1 + 1 ≠ w.heap.size + 1 + 1 + 1; omega)).trans (put_boxed q2 _), put_boxed q3 _, below_setN (below_setN HY.out.2.2 (by omega)) (by omega)⟩
      · have e2 := h2
        have e3 : ((bstr x.s).toList == s.toList) = false := bytes_ne h2
        have HH : Hid (hitS T s x = false) := by show _ = _; simp [hitS, h2]
        gi_wp2
        exact ⟨KeepsFrom.refl _ _, rfl, HBW.out, fun y hy => by
          rcases List.mem_append.1 hy with hy | hy
          · exact HPR.out y hy
          · simp at hy; subst hy; exact HH.out⟩
    · have e1 : ((x.t : Int) == T) = false := by simpa using h1
      have HH : Hid (hitS T s x = false) := by show _ = _; simp [hitS, h1]
      gi_wp2
      exact ⟨KeepsFrom.refl _ _, rfl, HBW.out, fun y hy => by
        rcases List.mem_append.1 hy with hy | hy
        · exact HPR.out y hy
        · simp at hy; subst hy; exact HH.out⟩
  case done =>
    rintro D ys W hD rfl ⟨hB, hno⟩ hK
    obtain ⟨y0, y1, y2, y3, hbe⟩ := HX.out W hB
    have k2 := y2.cell
    have g2 := y2.frozen
    have hne : D ≠ w.heap.size + 1 + 1 := by omega
    have hne3 : D ≠ w.heap.size + 1 + 1 + 1 := by omega
    have q3 : Boxed (W.setCell ⟨w.heap.size + 1 + 1, 0, none⟩ (.int .u32 0)) (w.heap.size + 1 + 1 + 1) 4 (.bool false) := (Below.heap_setCell _ _ _ _ (by show w.heap.size + 1 + 1 + 1 ≠ w.heap.size + 1 + 1; omega)).trans y3
    have k3 := q3.cell
    have g3 := q3.frozen
    obtain ⟨V, hV⟩ : ∃ V, V = (W.setCell ⟨w.heap.size + 1 + 1, 0, none⟩ (.int .u32 0)).setCell ⟨w.heap.size + 1 + 1 + 1, 0, none⟩ (.bool false) := ⟨_, rfl⟩
    have r2 : (V.putObj D (.deferred none)).cell? ⟨w.heap.size + 1 + 1, 0, none⟩ = some (.int .u32 0) := by rw [cell_of_block (World.putObj_heap_other (Ne.symm hne)), hV]; exact blk_at ((Below.heap_setCell _ _ _ _ (by show w.heap.size + 1 + 1 ≠ w.heap.size + 1 + 1 + 1; omega)).trans (put_boxed y2 _)) 0
    have r3 : (V.putObj D (.deferred none)).cell? ⟨w.heap.size + 1 + 1 + 1, 0, none⟩ = some (.bool false) := by rw [cell_of_block (World.putObj_heap_other (Ne.symm hne3)), hV]; exact blk_at (put_boxed q3 _) 0
    have hK2 : V.heap[D]? = some (.deferred (some [])) := by rw [hV]; exact (Below.heap_setCell _ _ _ _ hne3).trans ((Below.heap_setCell _ _ _ _ hne).trans hK)
    have HF : Hid (Below w.heap.size w V) := by rw [hV]; exact below_setN (below_setN hbe (by omega)) (by omega)
    have HNo : Hid (numOf T s = (0, false)) := by show _ = _; unfold numOf; rw [find_none (hitS T s) allL hno]
    clear y0 y1 y2 y3 q3 hbe hB hno HX hseq
    gi_wp2
    rw [← hV]
    refine ⟨by simp, .inl ⟨_, _, rfl, run_takeDeferred hK2, ?_⟩⟩
    refine ⟨_, by rw [results_cell2 (p := 4) (q := 5) (tp := 22) (tq := 4) rfl]; exact load_two r2 r3, by rw [HNo.out]; rfl, HF.out.trans (belowK_b (w := w) (Nat.le_refl _) _ D _ _ (by omega) hK2 rfl rfl)⟩
  case stop =>
    rintro D c pre' W hD ⟨rest, hrest⟩ ⟨rfl, pre, x, rfl, h1, h2, g0, g1, hbe⟩ hK
    have hne : D ≠ w.heap.size + 1 + 1 := by omega
    have hne3 : D ≠ w.heap.size + 1 + 1 + 1 := by omega
    have r2 : (W.putObj D (.deferred none)).cell? ⟨w.heap.size + 1 + 1, 0, none⟩ = some (.int .u32 (x.n : Int)) := by rw [cell_of_block (World.putObj_heap_other (Ne.symm hne))]; exact blk_at g0 0
    have r3 : (W.putObj D (.deferred none)).cell? ⟨w.heap.size + 1 + 1 + 1, 0, none⟩ = some (.bool true) := by rw [cell_of_block (World.putObj_heap_other (Ne.symm hne3))]; exact blk_at g1 0
    have HNo : Hid (numOf T s = (x.n, true)) := by show _ = _; unfold numOf; rw [hrest, find_at (hitS T s) pre x rest h1 h2]
    have HF : Hid (Below w.heap.size w W) := hbe
    clear hbe g0 g1 h1 h2 hrest HX hseq
    gi_wp2
    refine ⟨by simp, .inl ⟨_, _, rfl, run_takeDeferred hK, ?_⟩⟩
    refine ⟨_, by rw [results_cell2 (p := 4) (q := 5) (tp := 22) (tq := 4) rfl]; exact load_two r2 r3, by rw [HNo.out], HF.out.trans (belowK_b (w := w) (Nat.le_refl _) _ D _ _ (by omega) hK rfl rfl)⟩
end Go.Proofs.YtjhickfjagalfaaDoor
