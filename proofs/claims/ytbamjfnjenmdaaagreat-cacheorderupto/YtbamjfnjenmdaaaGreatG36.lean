import Derived.Test.YtbamjfnjenmdaaaGreatG35
namespace Go.Proofs.YtbamjfnjenmdaaaGreat.C
open Go.RowKit Go.Maps Go.Shelf Go.Proofs.YtbamjfnjenmdaaaGreat
attribute [local go_sem] Oper.semAt_some
set_option linter.unusedVariables false
set_option linter.unusedSimpArgs false
set_option maxRecDepth 100000

abbrev TSps : TypeId := 22
/-- spans in cells -/
def SpR (w : World) (ao : Option Addr) (l : List (Int × Int)) : Prop := ∀ k p, l[k]? = some p → ∃ g off, ao = some ⟨g, off, none⟩ ∧ g < w.heap.size ∧ w.cell? ⟨g, off + k * 2, none⟩ = some (.int .i64 p.1) ∧ w.cell? ⟨g, off + k * 2 + 1, none⟩ = some (.int .i64 p.2)
theorem SpR.later {w w' : World} {ao : Option Addr} {l : List (Int × Int)} (h : SpR w ao l) (hb : Below w.heap.size w w') : SpR w' ao l := fun k p hk => by
  obtain ⟨g, off, e, hg, h1, h2⟩ := h k p hk
  exact ⟨g, off, e, Nat.lt_of_lt_of_le hg hb.size, cell_later hb h1, cell_later hb h2⟩
theorem SpR.of_row {w : World} {B n g cap : Nat} {l : List (Int × Int)} (h : w.ownsRow B TSp 2 (.slice (some ⟨g, 0, none⟩) n cap) n (spcells l)) : SpR w (some ⟨g, 0, none⟩) l := fun k p hk => by
  obtain ⟨h1, h2⟩ := sp_cells h hk
  exact ⟨g, 0, rfl, (owns_capS h).2.2.2.1, by rw [Nat.zero_add]; exact h1, by rw [Nat.zero_add]; exact h2⟩
/-- what lay below H is as it was -/
def KpH (H : Nat) (W W' : World) : Prop := ∀ i, i < H → W'.heap[i]? = W.heap[i]?
theorem kpH_t {H : Nat} {A B C : World} (h : KpH H A B) (k : KpH H B C) : KpH H A C := fun i hi => (k i hi).trans (h i hi)
theorem kpH_b {w : World} {H : Nat} (hH : H ≤ w.heap.size) (W : World) (l : Nat) (o o' : Obj) (hl : w.heap.size ≤ l) (h : W.heap[l]? = some o) (hc : o.isCells = false) (_ : o.isWalk = false) : KpH H W (W.putObj l o') := fun i hi => World.putObj_heap_other (by omega)
theorem cell_kpH {H : Nat} {W W' : World} (h : KpH H W W') {a : Addr} {v : Value} (ha : a.block < H) (hv : W.cell? a = some v) : W'.cell? a = some v := by
  unfold World.cell? at hv ⊢
  rw [h _ ha]; exact hv
theorem values_c (w : World) (ao : Option Addr) (n cap : Nat) : Calls Tryz.prog 68 #[.slice ao n cap] w fun r w' => r = .returned (.func (.func 105) #[] #[.pointer (some ⟨w.heap.size, 0, none⟩)]) ∧ w' = w.alloc (.cells #[.slice ao n cap] TSps) := by
  have hmf : ∀ (fn : Fn) (first cap : Array Value) (w : World), (Instr.makeFunc fn first cap).run Tryz.prog w = .ok (.func fn first cap) w := fun _ _ _ _ => rfl
  go_enter Tryz.func68, Tryz.ntmps68
  go_wp2
  go_ret
  exact ⟨rfl, rfl⟩
set_option maxHeartbeats 4000000 in
theorem vals_seq (n : Nat) (hn : 1 ≤ n) {H : Nat} {w : World} {bx cap : Nat} {ao : Option Addr} {l : List (Int × Int)} (hH : w.heap.size ≤ H ∨ True) (hc : w.cell? ⟨bx, 0, none⟩ = some (.slice ao l.length cap)) (hr : SpR w ao l) (hHr : ∀ (k : Nat) (p : Int × Int), l[k]? = some p → ∀ g off, ao = some ⟨g, off, none⟩ → g < H) (hl : l.length ≤ 1048576) :
    SeqStopsK Fence.wide n Tryz.prog 105 #[.pointer (some ⟨bx, 0, none⟩)] (fun p : Int × Int => #[.agg #[.int .i64 p.1, .int .i64 p.2]]) (KpH H) (fun ys => ys = l) (fun pre => ∃ rest, l = pre ++ rest) l.length w := by
  intro lv J Jx W hW hJ hJx hY h0
  have d0 : W.cell? ⟨bx, 0, none⟩ = some (.slice ao l.length cap) := cell_later hW hc
  have HR0 : Hid (∀ k p, l[k]? = some p → ∃ g off, ao = some ⟨g, off, none⟩ ∧ g < H ∧ W.cell? ⟨g, off + k * 2, none⟩ = some (.int .i64 p.1) ∧ W.cell? ⟨g, off + k * 2 + 1, none⟩ = some (.int .i64 p.2)) := fun k p hk => by
    obtain ⟨g, off, e, _, h1, h2⟩ := hr k p hk
    exact ⟨g, off, e, hHr k p hk g off e, cell_later hW h1, cell_later hW h2⟩
  obtain ⟨m, hm⟩ : ∃ m, m = l.length := ⟨_, rfl⟩
  rw [← hm] at d0 hY hl
  have HM : Hid (m = l.length) := hm
  have HJ0 : Hid (J [] W) := h0
  have HAB : Hid (AbidesFrom W.heap.size J) := hJ
  clear hm hr hc hW h0 hHr hH hJ
  have hf : Fence.wide.fn 105 := trivial
  refine callsIn_of_wp Tryz.func105 rfl hf ?_ rfl
  simp only [Tryz.ntmps105, List.size_toArray, List.length_cons, List.length_nil, Nat.reduceAdd, Nat.reduceSub, Array.replicate_succ, Array.replicate_zero, List.push_toArray, List.append_toArray, List.nil_append, List.cons_append]
  gi_wp2
  gi_loopw [7] (fun i wr => ∃ (k : Nat), i = .int .i64 k ∧ k ≤ m ∧ Hid (J (l.take k) wr) ∧ Hid (∀ k p, l[k]? = some p → ∃ g off, ao = some ⟨g, off, none⟩ ∧ g < H ∧ wr.cell? ⟨g, off + k * 2, none⟩ = some (.int .i64 p.1) ∧ wr.cell? ⟨g, off + k * 2 + 1, none⟩ = some (.int .i64 p.2))) (fun i _ => m - (intOf i).toNat)
  case atStart => exact ⟨0, rfl, Nat.zero_le _, HJ0, HR0⟩
  case round =>
    obtain ⟨k, rfl, hk, HJk, HRk⟩ := hrel
    by_cases hlt : k < m
    · have hkz : (k : Int) < (m : Int) := by omega
      obtain ⟨p, hp⟩ : ∃ p, l[k]? = some p := ⟨_, List.getElem?_eq_getElem (by have := HM.out; omega)⟩
      obtain ⟨g, off, rfl, hg, c0, c1⟩ := HRk.out k p hp
      have HT : Hid (l.take k ++ [p] = l.take (k + 1)) := by
        show _ = _
        rw [List.take_add_one, hp]; rfl
      have hlen : (l.take k).length < m := by rw [List.length_take]; have := HM.out; omega
      have hJy : J (l.take k) (wr.alloc (.cells #[.int .i64 p.1, .int .i64 p.2] TSp)) := HAB.out _ _ _ none HJk.out (World.grownBy_alloc wr _ none) (fun r e => by cases e)
      obtain ⟨fn, tmps, assign, body, hy, hR⟩ := hY (l.take k) p _ hJy hlen
      rw [HT.out] at hR
      have HRy : Hid (∀ k p, l[k]? = some p → ∃ g' off', (some ⟨g, off, none⟩ : Option Addr) = some ⟨g', off', none⟩ ∧ g' < H ∧ (wr.alloc (.cells #[.int .i64 p.1, .int .i64 p.2] TSp)).cell? ⟨g', off' + k * 2, none⟩ = some (.int .i64 p.1) ∧ (wr.alloc (.cells #[.int .i64 p.1, .int .i64 p.2] TSp)).cell? ⟨g', off' + k * 2 + 1, none⟩ = some (.int .i64 p.2)) := fun k' p' hk' => by
        obtain ⟨g', off', e, h1, h2, h3⟩ := HRk.out k' p' hk'
        exact ⟨g', off', e, h1, cell_later ((Below.refl _ wr).alloc (Nat.le_refl _) _) h2, cell_later ((Below.refl _ wr).alloc (Nat.le_refl _) _) h3⟩
      have HRz : Hid (∀ W3, KpH H (wr.alloc (.cells #[.int .i64 p.1, .int .i64 p.2] TSp)) W3 → ∀ k p, l[k]? = some p → ∃ g' off', (some ⟨g, off, none⟩ : Option Addr) = some ⟨g', off', none⟩ ∧ g' < H ∧ W3.cell? ⟨g', off' + k * 2, none⟩ = some (.int .i64 p.1) ∧ W3.cell? ⟨g', off' + k * 2 + 1, none⟩ = some (.int .i64 p.2)) := fun W3 hk3 k' p' hk' => by
        obtain ⟨g', off', e, h1, h2, h3⟩ := HRk.out k' p' hk'
        exact ⟨g', off', e, h1, cell_kpH hk3 h1 (cell_later ((Below.refl _ wr).alloc (Nat.le_refl _) _) h2), cell_kpH hk3 h1 (cell_later ((Below.refl _ wr).alloc (Nat.le_refl _) _) h3)⟩
      clear hp hlen hY hJy HRk HRy HR0
      gi_wp2
      refine hR.mono ?_
      rintro e W3 (⟨rfl, hJ3, hk3⟩ | ⟨rfl, hJx3⟩)
      · gi_wp2
        go_roundw
        case rel => exact ⟨k + 1, by go_num, by omega, hJ3, HRz.out W3 hk3⟩
        case measure => simp [intOf]; omega
      · gi_wp2
        refine bodyPost_ret (results_none rfl _ _ _) rfl ?_
        exact ⟨⟨_, rfl⟩, .inr ⟨l.take (k + 1), ⟨l.drop (k + 1), (List.take_append_drop _ _).symm⟩, hJx3⟩⟩
    · have hkz : ¬ (k : Int) < (m : Int) := by omega
      have HE : Hid (l.take k = l) := List.take_of_length_le (by have := HM.out; omega)
      rw [HE.out] at HJk
      gi_wp2
      go_end0
      first | exact ⟨⟨_, rfl⟩, .inl ⟨l, rfl, HJk.out⟩⟩ | exact ⟨⟨_, rfl⟩, .inl HJk.out⟩
end Go.Proofs.YtbamjfnjenmdaaaGreat.C

namespace Go.Proofs.YtbamjfnjenmdaaaGreat.C
open Go.RowKit Go.Maps Go.Shelf Go.Proofs.YtbamjfnjenmdaaaGreat
attribute [local go_sem] Oper.semAt_some
set_option linter.unusedVariables false
set_option linter.unusedSimpArgs false
set_option maxRecDepth 100000

theorem infoSp : (Tryz.prog.info? TSp).map (fun i => (i.zero, i.size, i.bytes)) = some (some (.agg #[.int .i64 0, .int .i64 0]), 2, 16) := by kernel_rfl
theorem spcells_snoc (l : List (Int × Int)) (p : Int × Int) : spcells (l ++ [p]) = spcells l ++ [.int .i64 p.1, .int .i64 p.2] := by simp [spcells, spcell]
theorem below_kpH {H : Nat} {W W' : World} (h : Below H W W') : KpH H W W' := fun i hi => h.block i hi
set_option maxHeartbeats 8000000 in
theorem appendSeq_c {w : World} {bx cap : Nat} {ao : Option Addr} {l : List (Int × Int)} (hc : w.cell? ⟨bx, 0, none⟩ = some (.slice ao l.length cap)) (hr : SpR w ao l) (hl : l.length ≤ 1048576) :
    Calls Tryz.prog 126 #[.slice none 0 0, .func (.func 105) #[] #[.pointer (some ⟨bx, 0, none⟩)]] w fun r w' => ∃ v, r = .returned v ∧ w'.ownsRow w.heap.size TSp 2 v l.length (spcells l) ∧ Below w.heap.size w w' := by
  obtain ⟨i0, hi, hz0, hz1, hz2⟩ := info_parts infoSp
  refine (callsIn_wide (n := 4)).1 ?_
  have f0 : Fence.wide.fn 126 := trivial
  have f2 : Fence.wide.fn 105 := trivial
  refine callsIn_of_wp_marks Tryz.func126 rfl f0 ?_ rfl
  simp only [Tryz.ntmps126, List.size_toArray, List.length_cons, List.length_nil, Nat.reduceAdd, Nat.reduceSub, Array.replicate_succ, Array.replicate_zero, List.push_toArray, List.append_toArray, List.nil_append, List.cons_append]
  gi_wp2
  obtain ⟨W0, hW0⟩ : ∃ W0, W0 = w.alloc (.cells #[.slice none 0 0] TSps) := ⟨_, rfl⟩
  have hB0 : Below w.heap.size w W0 := by rw [hW0]; exact (Below.refl _ w).alloc (Nat.le_refl _) _
  have hs0 : W0.heap.size = w.heap.size + 1 := by rw [hW0]; simp
  have bO : Boxed W0 w.heap.size TSps (.slice none 0 0) := by rw [hW0]; exact Boxed.new w TSps (.slice none 0 0)
  have hseq := vals_seq 3 (by omega) (H := w.heap.size) (.inr trivial) (cell_later hB0 hc) (hr.later hB0) (fun k p hk g off e => by obtain ⟨g', off', e', hg, _⟩ := hr k p hk; rw [e] at e'; cases e'; exact hg) hl
  rw [← hW0]
  refine wpIn_rangeFunc_ownH rfl (by omega) (gf := 105) (lb := #[.pointer (some ⟨bx, 0, none⟩)]) rfl f2 (enters_of Tryz.func105 (by kernel_rfl) rfl)
    hseq kpH_t (kpH_b (w := W0) (by omega)) (Below.refl _ _) (fun _ => rfl)
    (fun pre W => (∃ v, Boxed W w.heap.size TSps v ∧ W.ownsRow w.heap.size TSp 2 v pre.length (spcells pre) ∧ True) ∧ Below w.heap.size w W)
    (fun _ _ _ => False)
    (OwnFrom.and (Own.from (holdsRow_own w.heap.size w.heap.size TSps TSp 2 (fun (pre : List (Int × Int)) => pre.length) (fun pre => spcells pre) (fun _ _ => True)) _) (ownFrom_below (Nat.le_refl _) (by omega)))
    (fun _ _ _ _ _ hs _ _ => hs)
    ⟨⟨_, bO, World.ownsRow_nil _ _ _ _, trivial⟩, hB0⟩
    (fun x a' W => ∃ q, W.heap[q]? = some (.cells #[.int .i64 x.1, .int .i64 x.2] TSp (0, 0)) ∧ a' = { tmps := #[.slice none 0 0, .func (.func 105) #[] #[.pointer (some ⟨bx, 0, none⟩)], .pointer (some ⟨w.heap.size, 0, none⟩), undef, .slice none 0 0, .pointer (some ⟨q, 0, none⟩), .func (.func 105) #[] #[.pointer (some ⟨bx, 0, none⟩)], .agg #[.int .i64 x.1, .int .i64 x.2], undef, undef, undef, undef, undef], defers := [] })
    (fun x a' s X Y row hs hg hrow => by
      obtain ⟨q, h1, h2⟩ := hs
      refine ⟨q, (hg.block q (Array.getElem?_eq_some_iff.1 h1).1 (fun e => ?_)).trans h1, h2⟩
      obtain ⟨_, o, ho, hoc⟩ := hrow q e.symm
      rw [h1] at ho
      cases ho
      cases hoc)
    ?assign ?body ?done ?stop
  case assign =>
    rintro lv pre x W K ⟨⟨v, hv, hrow, _⟩, hB⟩ hK
    gi_wp2
    exact hK _ _ ((KeepsOthers.alloc W _).from _) (below_kpH ((Below.refl _ W).alloc (Nat.le_refl _) _ |>.mono hB.size)) ⟨⟨v, hv.alloc _, hrow.alloc _, trivial⟩, hB.alloc hB.size _⟩ ⟨W.heap.size, heap_alloc_new W _, rfl⟩
  case body =>
    rintro lv pre x a' W hl' ⟨r, hr'⟩ ⟨⟨v, hv, hrow, _⟩, hB⟩ ⟨q, hq, rfl⟩ hlt
    have hcv := hv.cell
    have hfz := hv.frozen
    have q0 : W.cell? ⟨q, 0, none⟩ = some (.int .i64 x.1) := (K.cell_of hq).trans rfl
    have q1 : W.cell? ⟨q, 1, none⟩ = some (.int .i64 x.2) := (K.cell_of hq).trans rfl
    have hle2 : w.heap.size ≤ w.heap.size := Nat.le_refl _
    have HPL : Hid (pre.length < l.length) := hlt
    clear hq hlt hseq
    gi_wp2_with (gi_at_builtin; refine wpListIn_append_own_at _ rfl _ _ TSps rfl w.heap.size TSp i0 _ 2 16 Tryz.underlying22 hi hz0 hz1 hz2 rfl (by decide) _ _ _ rfl (hrow.alloc _) ⟨W.heap.size, 0, none⟩ 1 1 [.int .i64 x.1, .int .i64 x.2] rfl rfl (World.news_of_block (heap_alloc_new W _)) (by simp [Value.oneCell']) (by have := HPL.out; unfold maxLen; omega) (by have := HPL.out; omega) (by have := hB.size; simp; omega) ?_; intro v' w1 hown' hgrow hnl hat; clear hnl hat; obtain ⟨g', cap', rfl⟩ := ownsRow_succ hown'; obtain ⟨hv1, hv2, hr2, hk2, hb2⟩ := hv.appended (by decide) hrow hB.size hle2 hown' hgrow; have hc1 := hv1.cell; have hf1 := hv1.frozen)
    refine ⟨hk2.from _, below_kpH hb2, ⟨⟨_, hv2, ?_, trivial⟩, hB.trans hb2⟩⟩
    rw [List.length_append, spcells_snoc]
    exact hr2
  case done =>
    rintro D ys W hD rfl ⟨⟨v, hv, hrow, _⟩, hB⟩ hK
    have hc := hv.cell
    gi_wp2
    refine ⟨by simp, .inl ⟨_, _, rfl, run_takeDeferred hK, ?_⟩⟩
    exact ⟨_, results_tmp rfl _ _ _, v, rfl, ownsRow_putObj hrow _ hK rfl, hB.trans (belowK_b (w := w) (Nat.le_refl _) W D _ _ (by omega) hK rfl rfl)⟩
  case stop =>
    rintro D c pre W _ _ h _
    exact h.elim
theorem collect_c {w : World} {bx cap : Nat} {ao : Option Addr} {l : List (Int × Int)} (hc : w.cell? ⟨bx, 0, none⟩ = some (.slice ao l.length cap)) (hr : SpR w ao l) (hl : l.length ≤ 1048576) :
    Calls Tryz.prog 103 #[.func (.func 105) #[] #[.pointer (some ⟨bx, 0, none⟩)]] w fun r w' => ∃ v, r = .returned v ∧ w'.ownsRow w.heap.size TSp 2 v l.length (spcells l) ∧ Below w.heap.size w w' := by
  have ha := appendSeq_c hc hr hl
  clear hc hr hl
  go_enter Tryz.func103, Tryz.ntmps103
  go_wp2_with (go_at_call 126; refine ha.mono ?_; rintro r w1 ⟨v, rfl, ho, hb⟩)
  go_ret
  exact ⟨v, rfl, ho, hb⟩
/-- what SortFunc makes of a list -/
theorem sortF_c {w : World} {B : Nat} {v : Value} {l : List (Int × Int)} (h : w.ownsRow B TSp 2 v l.length (spcells l)) (hl : l.length ≤ 1048576) :
    Calls Tryz.prog 104 #[v, .func (.func 69) #[] #[]] w fun r w' => r = .returned (.tuple #[]) ∧ ∃ l' : List (Int × Int), l'.Perm l ∧ SortedLo l' ∧ (∃ ao cap, v = .slice ao l.length cap ∧ SpR w' ao l') ∧ w.heap.size ≤ w'.heap.size ∧ w'.os = w.os ∧ w'.tape = w.tape ∧ w'.output = w.output ∧ ∀ i, i < w.heap.size → v.ownBlock ≠ some i → w'.heap[i]? = w.heap[i]? := by
  rcases h.2 with ⟨rfl, h0⟩ | ⟨g, cap, cur, rfl, hb, hg, _⟩
  · have hz : l = [] := List.length_eq_zero_iff.1 h0
    subst hz
    refine (AnyF.slices_SortFunc_none Tryz.sortS none 0 _ w).mono ?_
    rintro r w' ⟨rfl, rfl⟩
    exact ⟨rfl, [], List.Perm.refl _, fun i j p q hi => by simp at hi, ⟨none, 0, rfl, fun k p hk => by simp at hk⟩, Nat.le_refl _, rfl, rfl, rfl, fun _ _ _ => rfl⟩
  · refine (sortS_any h (by omega)).mono ?_
    rintro r w' ⟨rfl, l', hp, hs, hpr, h1, h2, h3, h4, h5⟩
    refine ⟨rfl, l', hp, hs, ⟨_, _, rfl, fun k p hk => ?_⟩, h1, h2, h3, h4, fun i hi hne => h5 i hi (fun e => hne (by rw [e]; rfl))⟩
    obtain ⟨e1, e2⟩ := hpr k p hk
    exact ⟨g, 0, rfl, Nat.lt_of_lt_of_le (Array.getElem?_eq_some_iff.1 hg).1 h1, e1, e2⟩
theorem sorted_c {w : World} {bx cap : Nat} {ao : Option Addr} {l : List (Int × Int)} (hc : w.cell? ⟨bx, 0, none⟩ = some (.slice ao l.length cap)) (hr : SpR w ao l) (hl : l.length ≤ 1048576) :
    Calls Tryz.prog 67 #[.func (.func 105) #[] #[.pointer (some ⟨bx, 0, none⟩)], .func (.func 69) #[] #[]] w fun r w' => ∃ ao' cap' l', r = .returned (.slice ao' l.length cap') ∧ l'.Perm l ∧ SortedLo l' ∧ SpR w' ao' l' ∧ Below w.heap.size w w' := by
  have ha := collect_c hc hr hl
  have HS : Hid (∀ w1 v, w1.ownsRow w.heap.size TSp 2 v l.length (spcells l) → Below w.heap.size w w1 → ∃ ao' cap', v = .slice ao' l.length cap' ∧ Calls Tryz.prog 104 #[.slice ao' l.length cap', .func (.func 69) #[] #[]] w1 fun r w' => r = .returned (.tuple #[]) ∧ ∃ l' : List (Int × Int), l'.Perm l ∧ SortedLo l' ∧ SpR w' ao' l' ∧ Below w.heap.size w w') := fun w1 v ho hb => by
    obtain ⟨ao', cap', rfl, _⟩ := sp_form ho
    refine ⟨ao', cap', rfl, (sortF_c ho hl).mono ?_⟩
    rintro r w' ⟨rfl, l', hp, hs, ⟨a, c, e, hsp⟩, h1, h2, h3, h4, h5⟩
    cases e
    refine ⟨rfl, l', hp, hs, hsp, ⟨h2.trans hb.os, h3.trans hb.tape, h4.trans hb.output, Nat.le_trans hb.size h1, fun i hi => (h5 i (Nat.lt_of_lt_of_le hi hb.size) (fun e => ?_)).trans (hb.block i hi)⟩⟩
    have := row_base ho e
    omega
  clear hc hr hl
  go_enter Tryz.func67, Tryz.ntmps67
  go_wp2_with (first | (go_at_call 103; refine ha.mono ?_; clear ha; rintro r w1 ⟨v, rfl, ho, hb⟩; obtain ⟨ao', cap', rfl, hsf⟩ := HS.out w1 v ho hb; clear ho hb HS) | (go_at_call 104; refine hsf.mono ?_; rintro r w2 ⟨rfl, l', hp, hs, hsp, hb2⟩))
  go_ret
  exact ⟨ao', cap', l', rfl, hp, hs, hsp, hb2⟩
end Go.Proofs.YtbamjfnjenmdaaaGreat.C
