import Derived.Test.YtoabigjajnikcaaTW
import Derived.RangeFuncBox
import Derived.Deep.AppendLies
namespace Go.Proofs.Ytoabigjajnikcaa
open Go.RowKit Go.Maps Go.Shelf
attribute [local go_sem] Oper.semAt_some
set_option linter.unusedVariables false
set_option linter.unusedSimpArgs false
set_option maxRecDepth 100000

abbrev TEns : TypeId := 61
/-- entries that were told, one behind the other -/
structure Tell (W : World) (B : Nat) (v : Value) (ys : List Pe) : Prop where
  row : W.ownsRow B TEn 9 v ys.length (ys.flatMap pcl)
  ok : ∀ y ∈ ys, Ok1 W y
  lo : ∀ y ∈ ys, B ≤ y.lo
  ap : ys.Pairwise (fun x y => x.hi ≤ y.lo)
theorem row_at {W W' : World} {B T size n : Nat} {v : Value} {xs : List Value} (h : W.ownsRow B T size v n xs) (hb : ∀ g cs, v.ownBlock = some g → W.heap[g]? = some (.cells cs T (0, 0)) → W'.heap[g]? = W.heap[g]?) : W'.ownsRow B T size v n xs := by
  refine ⟨h.1, ?_⟩
  rcases h.2 with hz | ⟨g, cap, cur, rfl, hB, hh, hr⟩
  · exact .inl hz
  · exact .inr ⟨g, cap, cur, rfl, hB, (hb g cur rfl hh).trans hh, hr⟩
theorem row_typ {w : World} {B T size n : Nat} {v : Value} {xs : List Value} (h : w.ownsRow B T size v n xs) (g : Nat) (hg : v.ownBlock = some g) : g < w.heap.size ∧ B ≤ g ∧ ∃ cs, w.heap[g]? = some (.cells cs T (0, 0)) := by
  rcases h.2 with ⟨rfl, _⟩ | ⟨g', cap, cur, rfl, hb, hh, _⟩
  · simp [Value.ownBlock] at hg
  · simp [Value.ownBlock] at hg; subst hg
    exact ⟨block_lt hh, hb, cur, hh⟩
/-- blocks of cells stay -/
theorem Tell.same {W W' : World} {B : Nat} {v : Value} {ys : List Pe} (h : Tell W B v ys) (hs : W.heap.size ≤ W'.heap.size) (hb : ∀ (g : Nat) (cs : Array Value) (t : TypeId), W.heap[g]? = some (Obj.cells cs t (0, 0)) → W'.heap[g]? = W.heap[g]?) : Tell W' B v ys :=
  ⟨row_at h.row (fun g cs _ hc => hb g cs _ hc), fun y hy => (h.ok y hy).same hs (fun g cs _ _ hc => hb g cs _ hc), h.lo, h.ap⟩
theorem Tell.later {W W' : World} {B : Nat} {v : Value} {ys : List Pe} (h : Tell W B v ys) (hb : Below W.heap.size W W') : Tell W' B v ys :=
  h.same hb.size (fun g cs t hc => hb.block g (block_lt hc))
theorem put_cells {X : World} {l g : Nat} {o : Obj} {cs : Array Value} {t : TypeId} (h : X.heap[g]? = some (.cells cs t (0, 0))) (hl : ∀ cs t fr, X.heap[l]? ≠ some (.cells cs t fr)) : (X.putObj l o).heap[g]? = X.heap[g]? :=
  World.putObj_heap_other (fun e => by subst e; exact hl _ _ _ h)
/-- the blocks that are none of the gathering's own -/
def FineE (s0 B : Nat) (g : Nat) (W : World) : Prop := g < W.heap.size ∧ B < W.heap.size ∧ g ≠ B ∧ g ≠ s0 + 1 ∧ ∀ v, Boxed W B TEns v → v.ownBlock ≠ some g
def KpE (s0 B : Nat) (W W' : World) : Prop := W.heap.size ≤ W'.heap.size ∧ ∀ g, FineE s0 B g W → W'.heap[g]? = W.heap[g]? ∧ FineE s0 B g W'
theorem fineE_same {s0 B g : Nat} {W W' : World} (h : FineE s0 B g W) (hs : W.heap.size ≤ W'.heap.size) (hb : W'.heap[B]? = W.heap[B]?) : FineE s0 B g W' := by
  refine ⟨Nat.lt_of_lt_of_le h.1 hs, Nat.lt_of_lt_of_le h.2.1 hs, h.2.2.1, h.2.2.2.1, fun v hv => h.2.2.2.2 v ?_⟩
  unfold Boxed at hv ⊢
  rw [← hb]; exact hv
theorem keepsE (s0 B : Nat) : KeepsV (KpE s0 B) (FineE s0 B) :=
  ⟨fun hk hf => hk.2 _ hf, fun hb hf => fineE_same hf hb.size (hb.block _ hf.2.1), fun hk => hk.1, fun hf => hf.1⟩
theorem kpE_t {s0 B : Nat} {X Y Z : World} (h : KpE s0 B X Y) (k : KpE s0 B Y Z) : KpE s0 B X Z := ⟨Nat.le_trans h.1 k.1, fun g hf => by
    obtain ⟨a1, a2⟩ := h.2 g hf
    obtain ⟨b1, b2⟩ := k.2 g a2
    exact ⟨b1.trans a1, b2⟩⟩
theorem kpE_below {s0 B : Nat} {W W' : World} (hb : Below W.heap.size W W') : KpE s0 B W W' := ⟨hb.size, fun g hf => ⟨hb.block g hf.1, fineE_same hf hb.size (hb.block _ hf.2.1)⟩⟩
theorem kpE_put {s0 B : Nat} (hB : B ≠ s0 + 1) (W : World) (o : Obj) : KpE s0 B W (W.putObj (s0 + 1) o) :=
  ⟨by simp, fun g hf => ⟨World.putObj_heap_other hf.2.2.2.1, fineE_same hf (by simp) (World.putObj_heap_other hB)⟩⟩
set_option maxHeartbeats 8000000 in
/-- all entries that a table tells of, gathered -/
theorem entries_any {w : World} {po : Option Addr} {F : Nat → Prop} {V : Int → Value} (L : List En) (hl : L.length ≤ 64) (hp : ∀ e ∈ L, PV w F (V e.id) e) (hFl : ∀ g, F g → g < w.heap.size)
    (HU : Hid (∀ W, Below w.heap.size w W → Calls Try.prog 44 #[.pointer po] W fun r w' => ∃ v, r = .returned v ∧ w'.ownsRow W.heap.size TEn 9 v L.length (L.flatMap fun e => vcl (V e.id)) ∧ Below W.heap.size W w')) :
    Calls Try.prog 50 #[.pointer po] w fun e w' => ∃ v, e = .returned v ∧ ∃ ys : List Pe, ys.map (·.e) = L ∧ Tell w' w.heap.size v ys ∧ Below w.heap.size w w' := by
  have qs : ∀ (w : World) (f : Fn) (a b : Array Value), (binOp .eql 65 (.func f a b) .nilFunc).run Try.prog w = .ok (.bool false) w := fun _ _ _ _ => rfl
  refine (callsIn_wide (n := 4)).1 ?_
  have f0 : Fence.wide.fn 50 := trivial
  have f1 : Fence.wide.fn 27 := trivial
  have f2 : Fence.wide.fn 43 := trivial
  obtain ⟨i0, hi0, hz0, hz1, hz2⟩ := info_parts infoE
  refine callsIn_of_wp_marks Try.func50 rfl f0 ?_ rfl
  simp only [Try.ntmps50, List.size_toArray, List.length_cons, List.length_nil, Nat.reduceAdd, Nat.reduceSub, Array.replicate_succ, Array.replicate_zero, List.push_toArray, List.append_toArray, List.nil_append, List.cons_append]
  gi_wp2_with (gi_at_call 27; refine (callsIn_wide.2 (all_fn _ _)).mono ?_; rintro e w' ⟨rfl, rfl⟩)
  obtain ⟨W0, hW0⟩ : ∃ W0, W0 = (w.alloc (.cells #[.slice none 0 0] TEns)).alloc (.cells #[.pointer po] 22) := ⟨_, rfl⟩
  have hB0 : Below w.heap.size w W0 := by rw [hW0]; exact ((Below.refl _ w).alloc (Nat.le_refl _) _).alloc (by simp) _
  have hs0 : W0.heap.size = w.heap.size + 2 := by rw [hW0]; simp
  have bO : Boxed W0 w.heap.size TEns (.slice none 0 0) := by rw [hW0]; exact (Boxed.new w TEns (.slice none 0 0)).alloc _
  have bx1 : W0.cell? ⟨w.heap.size + 1, 0, none⟩ = some (.pointer po) := by
    have := Boxed.new (w.alloc (.cells #[.slice none 0 0] TEns)) 22 (.pointer po)
    rw [World.size_alloc] at this
    rw [hW0]; exact this.cell
  have hseq := seq_all 3 (by omega) (keepsE W0.heap.size w.heap.size) (w := W0) (po := po) (F := F) (V := V) L (fun W hW => HU.out W (hB0.trans (hW.mono hB0.size))) bx1 (by omega) (fun e he => (hp e he).keep (KeptIn.ofBelow (S := fun _ => False) hB0) hFl (fun _ _ h => h)) (fun g hg => by have := hFl g hg; omega) hl (fun W w1 k hb hsz hb2 hk hk2 => by
    have h1 := hb.size
    have h2 := hb2.size
    refine ⟨hk2, by omega, by omega, by omega, fun v hv => ?_⟩
    have e1 : w1.heap[w.heap.size]? = W0.heap[w.heap.size]? := (hb2.block _ (by omega)).trans (hb.block _ (by omega))
    unfold Boxed at hv bO
    rw [e1, bO] at hv
    cases hv
    simp [Value.ownBlock]) (fun g hg W hb hsz => by
    have h1 := hb.size
    have h2 := hFl g hg
    refine ⟨by omega, by omega, by omega, by omega, fun v hv => ?_⟩
    have e1 : W.heap[w.heap.size]? = W0.heap[w.heap.size]? := hb.block _ (by omega)
    unfold Boxed at hv bO
    rw [e1, bO] at hv
    cases hv
    simp [Value.ownBlock])
  rw [← hW0]
  clear bx1 HU hW0 hp
  refine wpIn_rangeV rfl (by omega) (gf := 43) (lb := #[.pointer (some ⟨w.heap.size + 1, 0, none⟩)]) rfl f2 (enters_of Try.func43 (by kernel_rfl) rfl)
    hseq kpE_t (fun W r r' _ => kpE_put (by omega) W _) (Below.refl _ _) (fun _ => rfl)
    (fun pre W => (∃ v, Boxed W w.heap.size TEns v ∧ Tell W w.heap.size v pre) ∧ Below w.heap.size w W)
    (fun _ _ _ => False) ?abI (fun _ => ⟨fun _ _ _ h _ => h, fun _ _ _ _ h _ => h⟩) ⟨⟨_, bO, ⟨⟨rfl, .inl ⟨rfl, rfl⟩⟩, by simp, by simp, by simp⟩⟩, hB0⟩
    (fun pre x a' W => (∃ b5 u, W.heap[b5]? = some (.cells (pcl x).toArray TEn (0, 0)) ∧ (∃ v, Boxed W w.heap.size TEns v ∧ v.ownBlock ≠ some b5) ∧ a' = { tmps := #[.pointer po, undef, .slice none 0 0, .pointer (some ⟨w.heap.size, 0, none⟩), .func (.func 43) #[] #[.pointer (some ⟨w.heap.size + 1, 0, none⟩)], .pointer (some ⟨b5, 0, none⟩), .pointer po, .func (.func 43) #[] #[.pointer (some ⟨w.heap.size + 1, 0, none⟩)], .func (.func 43) #[] #[.pointer (some ⟨w.heap.size + 1, 0, none⟩)], .bool false, undef, undef, .func (.func 43) #[] #[.pointer (some ⟨w.heap.size + 1, 0, none⟩)], u, undef, undef, undef, undef, undef], defers := [] }) ∧ Ok1 W x ∧ W0.heap.size ≤ x.lo ∧ ∀ y ∈ pre, y.hi ≤ x.lo)
    ?abA ?assign ?body ?done ?stop
  case abI =>
    refine ⟨fun s X Y hI hb => ?_, fun s X r r' hI hr => ?_⟩
    · obtain ⟨⟨v, hv, ht⟩, hB⟩ := hI
      exact ⟨⟨v, (hb.block _ hv.lt).trans hv, ht.later hb⟩, hB.trans (hb.mono hB.size)⟩
    · obtain ⟨⟨v, hv, ht⟩, hB⟩ := hI
      have nc : ∀ cs t fr, X.heap[W0.heap.size + 1]? ≠ some (.cells cs t fr) := fun cs t fr h => by rw [hr] at h; cases h
      exact ⟨⟨v, (put_cells hv nc).trans hv, ht.same (by simp) (fun g cs t hc => put_cells hc nc)⟩, hB.trans ⟨rfl, rfl, rfl, by simp, fun k hk => World.putObj_heap_other (by omega)⟩⟩
  case abA =>
    refine fun pre x a' => ⟨fun s X Y hI hb => ?_, fun s X r r' hI hr => ?_⟩
    · obtain ⟨⟨b5, u, e2, ⟨v, hv, hv2⟩, e4⟩, hok, hge, hap⟩ := hI
      exact ⟨⟨b5, u, (hb.block _ (block_lt e2)).trans e2, ⟨v, (hb.block _ hv.lt).trans hv, hv2⟩, e4⟩, hok.later hb, hge, hap⟩
    · obtain ⟨⟨b5, u, e2, ⟨v, hv, hv2⟩, e4⟩, hok, hge, hap⟩ := hI
      have nc : ∀ cs t fr, X.heap[W0.heap.size + 1]? ≠ some (.cells cs t fr) := fun cs t fr h => by rw [hr] at h; cases h
      exact ⟨⟨b5, u, (put_cells e2 nc).trans e2, ⟨v, (put_cells hv nc).trans hv, hv2⟩, e4⟩, hok.same (by simp) (fun g cs _ _ hc => put_cells hc nc), hge, hap⟩
  case assign =>
    rintro pre x W K' hI hV hln hsz hK
    simp only [pcl, ecl]
    gi_wp2
    obtain ⟨⟨v, hv, ht⟩, hB⟩ := hI
    have hb1 := below1 W (.cells #[.int .i64 x.e.id, .int .u16 x.e.rq.fl, .int .u16 x.e.rq.ty, .int .u64 x.e.rq.ck, .int .u64 x.e.rq.off, .int .u64 x.e.rq.len, .slice x.da x.e.rq.data.length x.dc, .bool x.e.rd, .slice x.aa x.e.an.length x.ac] TEn)
    refine hK _ _ ⟨hb1.block _ (by omega), hb1.block _ (by omega)⟩ (kpE_below hb1) ⟨⟨v, hv.alloc _, ht.later hb1⟩, hB.trans (hb1.mono hB.size)⟩ ⟨⟨W.heap.size, _, heap_new W _, ⟨v, hv.alloc _, fun e => ?_⟩, rfl⟩, hV.ok.later hb1, hV.ge, hV.ap⟩
    have := (row_typ ht.row _ e).1
    omega
  case body =>
    rintro pre x a' W ⟨r, hr⟩ hd ⟨⟨v, hv, ht⟩, hB⟩ ⟨⟨b5, u, h52, ⟨v', hv', hne⟩, rfl⟩, hok, hge, hap⟩ hlt
    clear hv' hne
    have hcv := hv.cell
    have hfz := hv.frozen
    have c0 : W.cell? ⟨b5, 0, none⟩ = some (.int .i64 x.e.id) := (blk_at h52 0).trans rfl
    have c1 : W.cell? ⟨b5, 1, none⟩ = some (.int .u16 x.e.rq.fl) := (blk_at h52 1).trans rfl
    have c2 : W.cell? ⟨b5, 2, none⟩ = some (.int .u16 x.e.rq.ty) := (blk_at h52 2).trans rfl
    have c3 : W.cell? ⟨b5, 3, none⟩ = some (.int .u64 x.e.rq.ck) := (blk_at h52 3).trans rfl
    have c4 : W.cell? ⟨b5, 4, none⟩ = some (.int .u64 x.e.rq.off) := (blk_at h52 4).trans rfl
    have c5 : W.cell? ⟨b5, 5, none⟩ = some (.int .u64 x.e.rq.len) := (blk_at h52 5).trans rfl
    have c6 : W.cell? ⟨b5, 6, none⟩ = some (.slice x.da x.e.rq.data.length x.dc) := (blk_at h52 6).trans rfl
    have c7 : W.cell? ⟨b5, 7, none⟩ = some (.bool x.e.rd) := (blk_at h52 7).trans rfl
    have c8 : W.cell? ⟨b5, 8, none⟩ = some (.slice x.aa x.e.an.length x.ac) := (blk_at h52 8).trans rfl
    have hle2 : w.heap.size ≤ w.heap.size := Nat.le_refl _
    have HPL : Hid (pre.length < 64) := by show pre.length < 64; omega
    have HT : Hid _ := ht
    have HR : Hid _ := hr
    have HD : Hid _ := hd
    have HOk : Hid (Ok1 W x ∧ W0.heap.size ≤ x.lo ∧ ∀ y ∈ pre, y.hi ≤ x.lo) := ⟨hok, hge, hap⟩
    clear hlt hseq h52 ht hr hd hok hge hap
    gi_wp2_with (gi_at_builtin; refine wpListIn_append_own_at _ rfl _ _ TEns rfl w.heap.size TEn i0 _ 9 96 Try.underlying61 hi0 hz0 hz1 hz2 rfl (by decide) _ _ _ rfl (HT.out.row.alloc _) ⟨W.heap.size, 0, none⟩ 1 1 (pcl x) rfl rfl (World.news_of_block (heap_alloc_new W _)) (by simp [Value.oneCell', pcl, ecl]) (by have := HPL.out; unfold maxLen; omega) (by have := HPL.out; omega) (by have := hB.size; simp; omega) ?_; intro v2 w1 hown' hgrow hnl hat; have hat2 : Hid (v2.ownBlock = v.ownBlock ∨ v2.ownBlock = some (W.heap.size + 1)) := by {show _ ∨ _; rw [World.size_alloc] at hat; exact hat}; have hgr2 : Hid (∀ k, k < W.heap.size → v.ownBlock ≠ some k → w1.heap[k]? = W.heap[k]?) := (fun k h1 h2 => (hgrow.block k (by rw [World.size_alloc]; omega) (fun e => h2 e.symm)).trans (Below.heap_alloc _ _ _ h1)); clear hnl hat; obtain ⟨g', cap', rfl⟩ := ownsRow_succ hown'; obtain ⟨hv1, hv2, hr2, hk2, hb2⟩ := hv.appended (by decide) HT.out.row hB.size hle2 hown' hgrow; have hc1 := hv1.cell; have hf1 := hv1.frozen)
    have hoth : ∀ k, k < W.heap.size → v.ownBlock ≠ some k → k ≠ w.heap.size → (w1.setCell ⟨w.heap.size, 0, none⟩ (.slice (some ⟨g', 0, none⟩) (pre.length + 1) cap')).heap[k]? = W.heap[k]? := fun k h1 h2 h3 => (Below.heap_setCell _ _ _ _ h3).trans (hgr2.out k h1 h2)
    have hsz : W.heap.size ≤ (w1.setCell ⟨w.heap.size, 0, none⟩ (.slice (some ⟨g', 0, none⟩) (pre.length + 1) cap')).heap.size := hb2.size
    have htyp : ∀ k cs t, W.heap[k]? = some (.cells cs t (0, 0)) → t ≠ TEn → v.ownBlock ≠ some k := fun k cs t hc ht e => by
      obtain ⟨_, _, cs2, h9⟩ := row_typ HT.out.row k e
      rw [hc] at h9
      simp only [Option.some.injEq, Obj.cells.injEq] at h9
      exact ht h9.2.1
    refine ⟨⟨?_, ?_⟩, ⟨hsz, fun g hfi => ?_⟩, ⟨⟨_, hv2, ⟨?_, fun y hy => ?_, fun y hy => ?_, ?_⟩⟩, hB.trans hb2⟩⟩
    · refine hoth _ (Array.getElem?_eq_some_iff.1 HD.out).1 (fun e => ?_) (by omega)
      obtain ⟨_, _, cs2, h9⟩ := row_typ HT.out.row _ e
      rw [HD.out] at h9; cases h9
    · refine hoth _ (Array.getElem?_eq_some_iff.1 HR.out).1 (fun e => ?_) (by omega)
      obtain ⟨_, _, cs2, h9⟩ := row_typ HT.out.row _ e
      rw [HR.out] at h9; cases h9
    · have h1 := hfi.2.2.2.2 v hv
      refine ⟨hoth g hfi.1 h1 hfi.2.2.1, Nat.lt_of_lt_of_le hfi.1 hsz, Nat.lt_of_lt_of_le hfi.2.1 hsz, hfi.2.2.1, hfi.2.2.2.1, fun v3 hv3 => ?_⟩
      have e2 : v3 = .slice (some ⟨g', 0, none⟩) (pre.length + 1) cap' := by
        have h3 := hv2
        unfold Boxed at h3 hv3
        rw [hv3] at h3
        simpa using h3
      rw [e2]
      rcases hat2.out with h3 | h3
      · rw [h3]; exact h1
      · rw [h3]
        intro h4
        have h5 := hfi.1
        simp at h4
        omega
    · rw [List.length_append, List.flatMap_append]
      simpa using hr2
    · have hok : Ok1 W y := by
        rcases List.mem_append.1 hy with hy | hy
        · exact HT.out.ok y hy
        · simp at hy; subst hy; exact HOk.out.1
      refine hok.same hsz (fun g cs _ _ hc => hoth g (block_lt hc) (htyp g cs _ hc (by decide)) (fun e => ?_))
      rw [e, show W.heap[w.heap.size]? = _ from hv] at hc
      simp only [Option.some.injEq, Obj.cells.injEq] at hc
      exact absurd hc.2.1 (by decide)
    · rcases List.mem_append.1 hy with hy | hy
      · exact HT.out.lo y hy
      · simp at hy; subst hy
        have := HOk.out.2.1
        omega
    · rw [List.pairwise_append]
      exact ⟨HT.out.ap, by simp, fun y hy z hz => by simp at hz; subst hz; exact HOk.out.2.2 y hy⟩
  case done =>
    rintro ys W hys ⟨⟨v, hv, ht⟩, hB⟩ hK
    have hc := hv.cell
    rw [hs0] at hK
    gi_wp2
    refine ⟨by simp, .inl ⟨_, _, rfl, run_takeDeferred hK, ?_⟩⟩
    have nc : ∀ cs t fr, W.heap[w.heap.size + 2]? ≠ some (.cells cs t fr) := fun cs t fr h => by rw [hK] at h; cases h
    refine ⟨_, results_tmp rfl _ _ _, _, rfl, ys, hys, ht.same (by simp) (fun g cs t hc => put_cells hc nc), hB.trans ⟨rfl, rfl, rfl, by simp, fun k hk => World.putObj_heap_other (by omega)⟩⟩
  case stop =>
    rintro c pre W _ h _
    exact h.elim
end Go.Proofs.Ytoabigjajnikcaa
