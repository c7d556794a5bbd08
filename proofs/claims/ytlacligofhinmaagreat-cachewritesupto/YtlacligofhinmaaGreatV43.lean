import Derived.Test.YtlacligofhinmaaGreatV42
namespace Go.Proofs.YtlacligofhinmaaGreat.C
open Go.RowKit Go.Maps Go.Shelf Go.Proofs.YtlacligofhinmaaGreat
attribute [local go_sem] Oper.semAt_some
set_option linter.unusedVariables false
set_option linter.unusedSimpArgs false
set_option maxRecDepth 100000

/-- a body that keeps its own list of lines in the box B: all other rows of lines are kept -/
def FineB (B : Nat) (g : Nat) (W : World) : Prop := B < W.heap.size ∧ g < W.heap.size ∧ ∀ v, Boxed W B TLqs v → v.ownBlock ≠ some g
def KpB (B : Nat) (W W' : World) : Prop := W.heap.size ≤ W'.heap.size ∧ ∀ (g : Nat) (cur : Array Value), FineB B g W → W.heap[g]? = some (.cells cur TLq (0, 0)) → W'.heap[g]? = some (.cells cur TLq (0, 0)) ∧ FineB B g W'
theorem fineB_same {B g : Nat} {W W' : World} (h : FineB B g W) (hs : W.heap.size ≤ W'.heap.size) (hb : W'.heap[B]? = W.heap[B]?) : FineB B g W' := by
  refine ⟨Nat.lt_of_lt_of_le h.1 hs, Nat.lt_of_lt_of_le h.2.1 hs, fun v hv => h.2.2 v ?_⟩
  unfold Boxed at hv ⊢
  rw [← hb]; exact hv
theorem kpB_alloc (B : Nat) (W : World) (o : Obj) : KpB B W (W.alloc o) := by
  refine ⟨by rw [World.size_alloc]; omega, fun g cur hf hg => ⟨(Below.heap_alloc _ _ _ hf.2.1).trans hg, fineB_same hf (by rw [World.size_alloc]; omega) (Below.heap_alloc _ _ _ hf.1)⟩⟩
theorem keepsB (B : Nat) : KeepsL (KpB B) (FineB B) := by
  refine ⟨fun hk hf hg => hk.2 _ _ hf hg, fun o hf hg => fineB_same hf (by rw [World.size_alloc]; omega) (Below.heap_alloc _ _ _ hf.1)⟩
theorem kpB_t {B : Nat} {X Y Z : World} (h : KpB B X Y) (k : KpB B Y Z) : KpB B X Z := ⟨Nat.le_trans h.1 k.1, fun g cur hf hg => by
    obtain ⟨a1, a2⟩ := h.2 g cur hf hg
    exact k.2 g cur a2 a1⟩
theorem kpB_b {B : Nat} {w : World} (hB : B < w.heap.size) (W : World) (l : Nat) (o o' : Obj) (hl : w.heap.size ≤ l) (h : W.heap[l]? = some o) (hc : o.isCells = false) (_ : o.isWalk = false) : KpB B W (W.putObj l o') := by
  refine ⟨by simp, fun g cur hf hg => ?_⟩
  have hne : g ≠ l := by
    rintro rfl
    rw [h] at hg
    cases hg
    simp [Obj.isCells] at hc
  exact ⟨(World.putObj_heap_other hne).trans hg, fineB_same hf (by simp) (World.putObj_heap_other (by omega))⟩
set_option maxHeartbeats 8000000 in
/-- all lines that the cache tells of, gathered -/
theorem lines_any {w : World} {bc : Nat} (L : List Ln) (hl : L.length ≤ 1024) (HU : Hid (∀ W, Below w.heap.size w W → Calls Tryz.prog 40 #[.pointer (some ⟨bc, 0, none⟩)] W fun r w' => ∃ v, r = .returned v ∧ w'.ownsRow W.heap.size TLq 3 v L.length (lcellsT L) ∧ Below W.heap.size W w')) :
    Calls Tryz.prog 87 #[.pointer (some ⟨bc, 0, none⟩)] w fun e w' => ∃ v, e = .returned v ∧ w'.ownsRow w.heap.size TLq 3 v L.length (lcellsT L) ∧ Below w.heap.size w w' := by
  have qs : ∀ (w : World) (f : Fn) (a b : Array Value), (binOp .eql 48 (.func f a b) .nilFunc).run Tryz.prog w = .ok (.bool false) w := fun _ _ _ _ => rfl
  refine (callsIn_wide (n := 4)).1 ?_
  have f0 : Fence.wide.fn 87 := trivial
  have f1 : Fence.wide.fn 13 := trivial
  have f2 : Fence.wide.fn 39 := trivial
  obtain ⟨i0, hi0, hz0, hz1, hz2⟩ := info_parts infoLq
  refine callsIn_of_wp_marks Tryz.func87 rfl f0 ?_ rfl
  simp only [Tryz.ntmps87, List.size_toArray, List.length_cons, List.length_nil, Nat.reduceAdd, Nat.reduceSub, Array.replicate_succ, Array.replicate_zero, List.push_toArray, List.append_toArray, List.nil_append, List.cons_append]
  gi_wp2_with (gi_at_call 13; refine (callsIn_wide.2 (lines_fnq _ _)).mono ?_; rintro e w' ⟨rfl, rfl⟩)
  obtain ⟨W0, hW0⟩ : ∃ W0, W0 = (w.alloc (.cells #[.slice none 0 0] TLqs)).alloc (.cells #[.pointer (some ⟨bc, 0, none⟩)] 33) := ⟨_, rfl⟩
  have hB0 : Below w.heap.size w W0 := by rw [hW0]; exact ((Below.refl _ w).alloc (Nat.le_refl _) _).alloc (by simp) _
  have hs0 : W0.heap.size = w.heap.size + 2 := by rw [hW0]; simp
  have bO : Boxed W0 w.heap.size TLqs (.slice none 0 0) := by rw [hW0]; exact (Boxed.new w TLqs (.slice none 0 0)).alloc _
  have bx1 : W0.cell? ⟨w.heap.size + 1, 0, none⟩ = some (.pointer (some ⟨bc, 0, none⟩)) := by
    have := Boxed.new (w.alloc (.cells #[.slice none 0 0] TLqs)) 33 (.pointer (some ⟨bc, 0, none⟩))
    rw [World.size_alloc] at this
    rw [hW0]; exact this.cell
  have hseq := seq_lines 3 (by omega) (keepsB w.heap.size) (w := W0) L (fun W hW => HU.out W (hB0.trans (hW.mono hB0.size))) bx1 hl (fun W w1 k hb hb2 hk hk2 => by
    have h1 := hb.size
    have h2 := hb2.size
    refine ⟨by omega, hk2, fun v hv => ?_⟩
    have e1 : w1.heap[w.heap.size]? = W0.heap[w.heap.size]? := (hb2.block _ (by omega)).trans (hb.block _ (by omega))
    unfold Boxed at hv bO
    rw [e1, bO] at hv
    cases hv
    simp [Value.ownBlock])
  rw [← hW0]
  clear bx1 HU hW0
  refine wpIn_rangeFunc_ownH rfl (by omega) (gf := 39) (lb := #[.pointer (some ⟨w.heap.size + 1, 0, none⟩)]) rfl f2 (enters_of Tryz.func39 (by kernel_rfl) rfl)
    hseq kpB_t (kpB_b (w := W0) (by omega)) (Below.refl _ _) (fun _ => rfl)
    (fun pre W => (∃ v, Boxed W w.heap.size TLqs v ∧ W.ownsRow w.heap.size TLq 3 v pre.length (lcellsT pre)) ∧ Below w.heap.size w W)
    (fun _ _ _ => False)
    (fun pre X Y row hI hg hr => by
      obtain ⟨⟨v, e2, e3⟩, e4⟩ := hI
      refine ⟨⟨v, boxed_own _ _ (fun _ : Unit => v) () X Y row e2 hg (fun r e => (hr r e).2), K.ownsRow_block e3 (fun g e => ?_)⟩, ownFrom_below (β := Unit) (Nat.le_refl _) (by omega) () X Y row e4 hg hr⟩
      obtain ⟨hgl, cs, hgc⟩ := K.row_lt e3 g e
      refine hg.block g hgl (fun e' => ?_)
      obtain ⟨_, o, ho, hc⟩ := hr g e'.symm
      rw [hgc] at ho
      cases ho
      simp [Obj.isCells] at hc)
    (fun _ _ _ _ _ hs _ _ => hs)
    ⟨⟨_, bO, World.ownsRow_nil _ _ _ _⟩, hB0⟩
    (fun x a' W => ∃ b5 u, W.heap[b5]? = some (.cells #[.int .i64 x.sec, .bool x.dirty, .bool x.note] TLq (0, 0)) ∧ (∃ v, Boxed W w.heap.size TLqs v ∧ v.ownBlock ≠ some b5) ∧ a' = { tmps := #[.pointer (some ⟨bc, 0, none⟩), undef, .slice none 0 0, .pointer (some ⟨w.heap.size, 0, none⟩), .func (.func 39) #[] #[.pointer (some ⟨w.heap.size + 1, 0, none⟩)], .pointer (some ⟨b5, 0, none⟩), .pointer (some ⟨bc, 0, none⟩), .func (.func 39) #[] #[.pointer (some ⟨w.heap.size + 1, 0, none⟩)], .func (.func 39) #[] #[.pointer (some ⟨w.heap.size + 1, 0, none⟩)], .bool false, undef, undef, .func (.func 39) #[] #[.pointer (some ⟨w.heap.size + 1, 0, none⟩)], u, undef, undef, undef, undef, undef], defers := [] })
    (fun x a' s X Y row hs hg hrow => by
      obtain ⟨b5, u, e2, e3, e4⟩ := hs
      have hbl := (Array.getElem?_eq_some_iff.1 e2).1
      have h5 : Y.heap[b5]? = X.heap[b5]? := hg.block b5 hbl (fun e' => by
        obtain ⟨_, o, ho, hc⟩ := hrow b5 e'.symm
        rw [e2] at ho
        cases ho
        simp [Obj.isCells] at hc)
      obtain ⟨v, hv, hv2⟩ := e3
      exact ⟨b5, u, h5.trans e2, ⟨v, boxed_own _ _ (fun _ : Unit => v) () X Y row hv hg (fun r e => (hrow r e).2), hv2⟩, e4⟩)
    ?assign ?body ?done ?stop
  case assign =>
    rintro l pre x W K' hI hK
    gi_wp2
    obtain ⟨⟨v, hv, hrow⟩, hB⟩ := hI
    have hB1 := hB.size
    refine hK _ _ ((KeepsOthers.alloc W _).from _) (kpB_alloc ..) ⟨⟨v, hv.alloc _, hrow.alloc _⟩, hB.alloc (by omega) _⟩ ⟨W.heap.size, _, heap_alloc_new W _, ⟨v, hv.alloc _, fun e => ?_⟩, rfl⟩
    obtain ⟨hgl, _⟩ := K.row_lt hrow _ e
    omega
  case body =>
    rintro l pre x a' W hl ⟨r, hr⟩ ⟨⟨v, hv, hrow⟩, hB⟩ hA hlt
    obtain ⟨b5, u, h52, ⟨v', hv', hne⟩, rfl⟩ := hA
    clear hv' hne
    have hcv := hv.cell
    have hfz := hv.frozen
    have c0 : W.cell? ⟨b5, 0, none⟩ = some (.int .i64 x.sec) := by simp [World.cell?, h52]
    have c1 : W.cell? ⟨b5, 1, none⟩ = some (.bool x.dirty) := by simp [World.cell?, h52]
    have c2 : W.cell? ⟨b5, 2, none⟩ = some (.bool x.note) := by simp [World.cell?, h52]
    have hle2 : w.heap.size ≤ w.heap.size := Nat.le_refl _
    have HPL : Hid (pre.length < 1024) := by show pre.length < 1024; omega
    clear hlt hseq h52
    gi_wp2_with (gi_at_builtin; refine wpListIn_append_own_at _ rfl _ _ TLqs rfl w.heap.size TLq i0 _ 3 16 Tryz.underlying45 hi0 hz0 hz1 hz2 rfl (by decide) _ _ _ rfl (hrow.alloc _) ⟨W.heap.size, 0, none⟩ 1 1 (lcell x) rfl rfl (World.news_of_block (heap_alloc_new W _)) (by simp [Value.oneCell', lcell]) (by have := HPL.out; unfold maxLen; omega) (by have := HPL.out; omega) (by have := hB.size; simp; omega) ?_; intro v' w1 hown' hgrow hnl hat; have hat2 : Hid (v'.ownBlock = v.ownBlock ∨ v'.ownBlock = some (W.heap.size + 1)) := by {show _ ∨ _; rw [World.size_alloc] at hat; exact hat}; have hgr2 : Hid (∀ k, k < W.heap.size → v.ownBlock ≠ some k → w1.heap[k]? = W.heap[k]?) := (fun k h1 h2 => (hgrow.block k (by rw [World.size_alloc]; omega) (fun e => h2 e.symm)).trans (Below.heap_alloc _ _ _ h1)); clear hnl hat; obtain ⟨g', cap', rfl⟩ := ownsRow_succ hown'; obtain ⟨hv1, hv2, hr2, hk2, hb2⟩ := hv.appended (by decide) hrow hB.size hle2 hown' hgrow; have hc1 := hv1.cell; have hf1 := hv1.frozen)
    refine ⟨hk2.from _, ⟨hb2.size, fun g cur hfi hg => ?_⟩, ⟨⟨_, hv2, ?_⟩, hB.trans hb2⟩⟩
    · have hgB : g ≠ w.heap.size := fun e => by
        rw [e, show W.heap[w.heap.size]? = _ from hv] at hg
        simp at hg
        exact absurd hg.2 (by decide)
      have h1 := hfi.2.2 v hv
      refine ⟨(Below.heap_setCell _ _ _ _ hgB).trans ((hgr2.out g hfi.2.1 h1).trans hg), Nat.lt_of_lt_of_le hfi.1 hb2.size, Nat.lt_of_lt_of_le hfi.2.1 hb2.size, fun v2 hv3 => ?_⟩
      have e2 : v2 = .slice (some ⟨g', 0, none⟩) (pre.length + 1) cap' := by
        have h3 := hv2
        unfold Boxed at h3 hv3
        rw [hv3] at h3
        simpa using h3
      rw [e2]
      rcases hat2.out with h3 | h3
      · rw [h3]; exact h1
      · rw [h3]
        intro h4
        have h5 := hfi.2.1
        simp at h4
        omega
    · rw [List.length_append, show lcellsT (pre ++ [x]) = lcellsT pre ++ lcell x by simp [lcellsT, List.flatMap_append]]
      exact hr2
  case done =>
    rintro D ys W hD rfl ⟨⟨v, hv, hrow⟩, hB⟩ hK
    have hc := hv.cell
    gi_wp2
    refine ⟨by simp, .inl ⟨_, _, rfl, run_takeDeferred hK, ?_⟩⟩
    refine ⟨_, results_tmp rfl _ _ _, _, rfl, ?_, hB.trans (belowK_b (w := w) (Nat.le_refl _) W D _ _ (by omega) hK rfl rfl)⟩
    refine K.ownsRow_block hrow (fun g e => ?_)
    refine World.putObj_heap_other (fun e2 => ?_)
    obtain ⟨_, cs, h1⟩ := K.row_lt hrow g e
    rw [e2, hK] at h1
    cases h1
  case stop =>
    rintro D c pre W _ _ h _
    exact h.elim
end Go.Proofs.YtlacligofhinmaaGreat.C
