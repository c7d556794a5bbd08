import Derived.Test.YtijafckdbhklmaaYW
import Derived.Test.YtijafckdbhklmaaXRe
import Derived.Test.YtijafckdbhklmaaXRq
import Derived.Test.YtijafckdbhklmaaFC2
namespace Go.Proofs.Ytijafckdbhklmaa.I
open Go.RowKit Go.Sort Go.Lib Go.Shelf Go.Proofs.Ytijafckdbhklmaa Classical
attribute [local go_sem] Oper.semAt_some
set_option linter.unusedVariables false
set_option linter.unusedSimpArgs false
set_option maxRecDepth 100000

abbrev TEnt : TypeId := 69
abbrev TSeqI : TypeId := 55
abbrev TEnts : TypeId := 38
theorem infoEnt : (Try.prog.info? TEnt).map (fun i => (i.zero, i.size, i.bytes)) = some (some (.agg #[.int .i64 0, .int .i64 0, .int .i64 0]), 3, 24) := by kernel_rfl
theorem keepR_grownI {W w1 : World} {n0 e size k : Nat} {v : Value} {xs : List Value} (he : e ≠ TRun) (hrow : W.ownsRow n0 e size v k xs) (hg : W.grownBy w1 v.ownBlock) : KeepR W w1 := fun i cur fr hi => by
  refine (hg.block i (Array.getElem?_eq_some_iff.1 hi).1 (fun ei => ?_)).trans hi
  obtain ⟨_, _, cs, hc⟩ := row_lt hrow i ei.symm
  rw [hi] at hc
  simp at hc
  exact he hc.2.1.symm
theorem newsE (W : World) (a b c : Value) : ∀ j u, [a, b, c][j]? = some u → (W.alloc (.cells #[a, b, c] TEnt)).cell? ((⟨W.heap.size, 0, none⟩ : Addr).add j) = some u := by
  intro j u hu
  rw [WideShapes.add_plain, Nat.zero_add]
  exact (World.cell?_alloc_mark W #[a, b, c] TEnt (0, 0) j).trans (by simpa using hu)
theorem cutA_whole {size : Int} {rs : List (Rn Int)} (ht : Tiles 0 size rs) : List.map (fun r : Rn Int => r) rs = cutA rs size 0 size := by
  rw [List.map_id']
  unfold cutA
  have hp := ht.le
  by_cases hz : 0 < size
  · rw [if_pos (by omega), show max (0 : Int) 0 = 0 by omega, show min size size = size by omega, cut_full ht hz]
  · have e0 : size = 0 := by omega
    rw [if_neg (by omega)]
    subst e0
    exact ht.empty
theorem rcells_snoc (pre : List (Rn Int)) (x : Rn Int) : rcells E (pre ++ [x]) = rcells E pre ++ [.int .i64 x.lo, .int .i64 x.hi, .int .i64 x.v] := by rw [rcells_append]; simp [rcells, rcell]
set_option maxHeartbeats 8000000 in
/-- the law's own list of a map's runs -/
theorem runsF_any {w : World} {B bm : Nat} {v0 : Value} {size : Int} {rs : List (Rn Int)} (h : MO w B bm v0 size rs) :
    Calls Try.prog 16 #[.pointer (some ⟨bm, 0, none⟩), .int .i64 0, .int .i64 size] w fun e w' => ∃ v', e = .returned v' ∧ w'.ownsRow w.heap.size TEnt 3 v' rs.length (rcells E rs) ∧ Below w.heap.size w w' := by
  obtain ⟨i0, hi, hz0, hz1, hz2⟩ := info_parts infoEnt
  have hlen : rs.length ≤ 1099511627776 := h.len
  have qs : ∀ (w : World) (f : Fn) (a b : Array Value), (binOp .eql TSeqI (.func f a b) .nilFunc).run Try.prog w = .ok (.bool false) w := fun _ _ _ _ => rfl
  refine (callsIn_wide (n := 4)).1 ?_
  have f0 : Fence.wide.fn 16 := trivial
  have f1 : Fence.wide.fn 21 := trivial
  have f2 : Fence.wide.fn 36 := trivial
  refine callsIn_of_wp_marks Try.func16 rfl f0 ?_ rfl
  simp only [Try.ntmps16, List.size_toArray, List.length_cons, List.length_nil, Nat.reduceAdd, Nat.reduceSub, Array.replicate_succ, Array.replicate_zero, List.push_toArray, List.append_toArray, List.nil_append, List.cons_append]
  gi_wp2_with (gi_at_call 21; refine (callsIn_wide.2 (runs_any _ _ _ _)).mono ?_; rintro e w' ⟨rfl, rfl⟩)
  obtain ⟨W0, hW0⟩ : ∃ W0, W0 = (((w.alloc (.cells #[.slice none 0 0] TEnts)).alloc (.cells #[.pointer (some ⟨bm, 0, none⟩)] 26)).alloc (.cells #[.int .i64 0] 2)).alloc (.cells #[.int .i64 size] 2) := ⟨_, rfl⟩
  have hB0 : Below w.heap.size w W0 := by rw [hW0]; exact ((((Below.refl _ w).alloc (Nat.le_refl _) _).alloc (by simp) _).alloc (by simp; omega) _).alloc (by simp; omega) _
  have hs0 : W0.heap.size = w.heap.size + 4 := by rw [hW0]; simp
  have bO : Boxed W0 w.heap.size TEnts (.slice none 0 0) := by rw [hW0]; exact (((Boxed.new w TEnts (.slice none 0 0)).alloc _).alloc _).alloc _
  have bx1 : W0.cell? ⟨w.heap.size + 1, 0, none⟩ = some (.pointer (some ⟨bm, 0, none⟩)) := by
    have := Boxed.new (w.alloc (.cells #[.slice none 0 0] TEnts)) 26 (.pointer (some ⟨bm, 0, none⟩))
    rw [World.size_alloc] at this
    rw [hW0]; exact ((this.alloc _).alloc _).cell
  have bx2 : W0.cell? ⟨w.heap.size + 1 + 1, 0, none⟩ = some (.int .i64 0) := by
    have := Boxed.new ((w.alloc (.cells #[.slice none 0 0] TEnts)).alloc (.cells #[.pointer (some ⟨bm, 0, none⟩)] 26)) 2 (.int .i64 0)
    rw [World.size_alloc, World.size_alloc] at this
    rw [hW0]; exact (this.alloc _).cell
  have bx3 : W0.cell? ⟨w.heap.size + 1 + 2, 0, none⟩ = some (.int .i64 size) := by
    have := Boxed.new (((w.alloc (.cells #[.slice none 0 0] TEnts)).alloc (.cells #[.pointer (some ⟨bm, 0, none⟩)] 26)).alloc (.cells #[.int .i64 0] 2)) 2 (.int .i64 size)
    rw [World.size_alloc, World.size_alloc, World.size_alloc] at this
    rw [hW0]; exact this.cell
  have hseq := runs1_gen 3 (by omega) (fun r : Rn Int => r) keepsRow_R (h.later hB0) 0 size bx1 bx2 bx3 rs (cutA_whole h.tiles) (fun _ _ _ _ _ _ _ => trivial)
  rw [← hW0]
  clear bx1 bx2 bx3 h
  refine wpIn_rangeFunc_ownH rfl (by omega) (gf := 36) (lb := #[.pointer (some ⟨w.heap.size + 1, 0, none⟩), .pointer (some ⟨w.heap.size + 1 + 1, 0, none⟩), .pointer (some ⟨w.heap.size + 1 + 2, 0, none⟩)]) rfl f2 (enters_of Try.func36 (by kernel_rfl) rfl)
    hseq keepR_t (keepR_b (w := W0)) (Below.refl _ _) (fun _ => rfl)
    (fun pre W => (∃ v, Boxed W w.heap.size TEnts v ∧ W.ownsRow w.heap.size TEnt 3 v pre.length (rcells E pre) ∧ True) ∧ Below w.heap.size w W)
    (fun _ _ _ => False)
    (OwnFrom.and (Own.from (holdsRow_own w.heap.size w.heap.size TEnts TEnt 3 (fun pre : List (Rn Int) => pre.length) (fun pre => rcells E pre) (fun _ _ => True)) _) (ownFrom_below (Nat.le_refl _) (by omega)))
    (fun _ _ _ _ _ hs _ _ => hs)
    ⟨⟨_, bO, World.ownsRow_nil _ _ _ _, trivial⟩, hB0⟩
    (fun x a' W => ∃ Bx, W.heap[Bx]? = some (.cells #[.int .i64 x.lo, .int .i64 x.hi, .int .i64 x.v] TRun (0, 0)) ∧ a' = { tmps := #[.pointer (some ⟨bm, 0, none⟩), .int .i64 0, .int .i64 size, undef, undef, undef, .slice none 0 0, .pointer (some ⟨w.heap.size, 0, none⟩), .func (.func 36) #[] #[.pointer (some ⟨w.heap.size + 1, 0, none⟩), .pointer (some ⟨w.heap.size + 1 + 1, 0, none⟩), .pointer (some ⟨w.heap.size + 1 + 2, 0, none⟩)], .pointer (some ⟨Bx, 0, none⟩), .pointer (some ⟨bm, 0, none⟩), .int .i64 0, .int .i64 size, .func (.func 36) #[] #[.pointer (some ⟨w.heap.size + 1, 0, none⟩), .pointer (some ⟨w.heap.size + 1 + 1, 0, none⟩), .pointer (some ⟨w.heap.size + 1 + 2, 0, none⟩)], .func (.func 36) #[] #[.pointer (some ⟨w.heap.size + 1, 0, none⟩), .pointer (some ⟨w.heap.size + 1 + 1, 0, none⟩), .pointer (some ⟨w.heap.size + 1 + 2, 0, none⟩)], .bool false, .func (.func 36) #[] #[.pointer (some ⟨w.heap.size + 1, 0, none⟩), .pointer (some ⟨w.heap.size + 1 + 1, 0, none⟩), .pointer (some ⟨w.heap.size + 1 + 2, 0, none⟩)], .agg #[.int .i64 x.lo, .int .i64 x.hi, .int .i64 x.v], undef, undef, undef, undef, undef, undef, undef, undef, undef, undef, undef], defers := [] })
    (fun x a' s X Y row hs hg hrow => by
      obtain ⟨Bx, hx, e⟩ := hs
      exact ⟨Bx, cells_ownC Bx _ _ _ () X Y row hx hg hrow, e⟩)
    ?assign ?body ?done ?stop
  case assign =>
    rintro l pre x W K ⟨⟨v, hv, hrow, _⟩, hB⟩ hK
    gi_wp2
    exact hK _ _ ((KeepsOthers.alloc _ _).from _) (keepR_below ((Below.refl _ W).alloc (Nat.le_refl _) _)) ⟨⟨v, hv.alloc _, hrow.alloc _, trivial⟩, hB.alloc hB.size _⟩ ⟨W.heap.size, heap_alloc_new W _, rfl⟩
  case body =>
    rintro l pre x a' W hl ⟨r, hr⟩ ⟨⟨v, hv, hrow, _⟩, hB⟩ ⟨Bx, hx, rfl⟩ hlt
    have hc := hv.cell
    have hfz := hv.frozen
    have x0 : W.cell? ⟨Bx, 0, none⟩ = some (.int .i64 x.lo) := by unfold World.cell?; simp only [hx]; rfl
    have x1 : W.cell? ⟨Bx, 1, none⟩ = some (.int .i64 x.hi) := by unfold World.cell?; simp only [hx]; rfl
    have x2 : W.cell? ⟨Bx, 2, none⟩ = some (.int .i64 x.v) := by unfold World.cell?; simp only [hx]; rfl
    have hle2 : w.heap.size ≤ w.heap.size := Nat.le_refl _
    gi_wp2_with (gi_at_builtin; refine wpListIn_append_own _ rfl _ _ TEnts rfl w.heap.size TEnt i0 _ 3 24 Try.underlying38 hi hz0 hz1 hz2 rfl (by decide) _ _ _ rfl (hrow.alloc _) ⟨W.heap.size, 0, none⟩ 1 1 [.int .i64 x.lo, .int .i64 x.hi, .int .i64 x.v] rfl rfl (newsE _ _ _ _) (by simp [Value.oneCell']) (by unfold maxLen; omega) (by omega) (by have := hB.size; simp; omega) ?_; intro v' w1 hown' hgrow _; obtain ⟨g', cap', rfl⟩ := ownsRow_succ hown'; obtain ⟨hv1, hv2, hr2, hk2, hb2⟩ := hv.appended (by decide) hrow hB.size hle2 hown' hgrow; have hc1 := hv1.cell; have hf1 := hv1.frozen)
    refine ⟨hk2.from _, ?_, ⟨⟨_, hv2, ?_, trivial⟩, hB.trans hb2⟩⟩
    · exact keepR_t (keepR_below ((Below.refl _ W).alloc (Nat.le_refl _) _)) (keepR_t (keepR_grownI (by decide) (hrow.alloc _) hgrow) (keepI_setBox hv1 (by decide)))
    · rw [rcells_snoc]
      simpa using hr2
  case done =>
    rintro D ys W hD rfl ⟨⟨v, hv, hrow, _⟩, hB⟩ hK
    have hc := hv.cell
    gi_wp2
    refine ⟨by simp, .inl ⟨_, _, rfl, run_takeDeferred hK, ?_⟩⟩
    exact ⟨_, results_tmp rfl _ _ _, v, rfl, ownsRow_putObj hrow _ hK rfl, hB.trans (belowK_b (w := w) (Nat.le_refl _) W D _ _ (by omega) hK rfl rfl)⟩
  case stop =>
    rintro D c pre W _ _ h _
    exact h.elim
theorem ent_cells {w : World} {B : Nat} {ao : Option Addr} {cap : Nat} {rs : List (Rn Int)} (h : w.ownsRow B TEnt 3 (.slice ao rs.length cap) rs.length (rcells E rs)) {k : Nat} {r : Rn Int} (hk : rs[k]? = some r) :
    ∃ g, ao = some ⟨g, 0, none⟩ ∧ w.cell? ⟨g, k * 3, none⟩ = some (.int .i64 r.lo) ∧ w.cell? ⟨g, k * 3 + 1, none⟩ = some (.int .i64 r.hi) ∧ w.cell? ⟨g, k * 3 + 2, none⟩ = some (.int .i64 r.v) := by
  have hlt := (List.getElem?_eq_some_iff.1 hk).1
  rcases h.2 with ⟨_, h0⟩ | ⟨g, cp, cur, hv, _⟩
  · omega
  · simp only [Value.slice.injEq] at hv
    obtain ⟨rfl, _, _⟩ := hv
    have c0 := h.cells (g := g) rfl _ _ ((rcells_get E rs k r hk 0 (by omega)).trans rfl)
    have c1 := h.cells (g := g) rfl _ _ ((rcells_get E rs k r hk 1 (by omega)).trans rfl)
    have c2 := h.cells (g := g) rfl _ _ ((rcells_get E rs k r hk 2 (by omega)).trans rfl)
    rw [WideShapes.add_plain, Nat.zero_add] at c0 c1 c2
    exact ⟨g, rfl, c0, c1, c2⟩
set_option maxHeartbeats 8000000 in
/-- the law's own comparison of two lists -/
theorem sameE_any {w : World} {Ba Bb : Nat} {va vb : Value} {rs : List (Rn Int)} (ha : w.ownsRow Ba TEnt 3 va rs.length (rcells E rs)) (hb : w.ownsRow Bb TEnt 3 vb rs.length (rcells E rs)) (hl : rs.length ≤ 1099511627776) :
    Calls Try.prog 15 #[va, vb] w fun e w' => e = .returned (.bool true) ∧ Below w.heap.size w w' := by
  obtain ⟨aa, ca, rfl⟩ := own_slice ha
  obtain ⟨ab, cb, rfl⟩ := own_slice hb
  have HA : Hid (∀ k r, rs[k]? = some r → ∃ g, aa = some ⟨g, 0, none⟩ ∧ w.cell? ⟨g, k * 3, none⟩ = some (.int .i64 r.lo) ∧ w.cell? ⟨g, k * 3 + 1, none⟩ = some (.int .i64 r.hi) ∧ w.cell? ⟨g, k * 3 + 2, none⟩ = some (.int .i64 r.v)) := fun k r hk => ent_cells ha hk
  have HB : Hid (∀ k r, rs[k]? = some r → ∃ g, ab = some ⟨g, 0, none⟩ ∧ w.cell? ⟨g, k * 3, none⟩ = some (.int .i64 r.lo) ∧ w.cell? ⟨g, k * 3 + 1, none⟩ = some (.int .i64 r.hi) ∧ w.cell? ⟨g, k * 3 + 2, none⟩ = some (.int .i64 r.v)) := fun k r hk => ent_cells hb hk
  obtain ⟨n, hn⟩ : ∃ n, rs.length = n := ⟨_, rfl⟩
  have HN : Hid (rs.length = n) := hn
  rw [hn] at hl ⊢
  clear ha hb hn
  go_enter Try.func15, Try.ntmps15
  go_wp2
  go_loopw [5] (fun i wr => ∃ (k : Nat), k ≤ n ∧ i = .int .i64 k ∧ Hid (∃ d, wr = w.drewN d)) (fun i _ => n - (intOf i).toNat)
  case atStart => exact ⟨0, Nat.zero_le _, rfl, 0, rfl⟩
  case round =>
    obtain ⟨k, hk, rfl, HD⟩ := hrel
    have HA2 : Hid (∀ k r, rs[k]? = some r → ∃ g, aa = some ⟨g, 0, none⟩ ∧ wr.cell? ⟨g, k * 3, none⟩ = some (.int .i64 r.lo) ∧ wr.cell? ⟨g, k * 3 + 1, none⟩ = some (.int .i64 r.hi) ∧ wr.cell? ⟨g, k * 3 + 2, none⟩ = some (.int .i64 r.v)) := by
      obtain ⟨d, hd⟩ := HD.out; rw [hd]; exact HA
    have HB2 : Hid (∀ k r, rs[k]? = some r → ∃ g, ab = some ⟨g, 0, none⟩ ∧ wr.cell? ⟨g, k * 3, none⟩ = some (.int .i64 r.lo) ∧ wr.cell? ⟨g, k * 3 + 1, none⟩ = some (.int .i64 r.hi) ∧ wr.cell? ⟨g, k * 3 + 2, none⟩ = some (.int .i64 r.v)) := by
      obtain ⟨d, hd⟩ := HD.out; rw [hd]; exact HB
    have HD2 : Hid (∀ m, ∃ d, wr.drewN m = w.drewN d) := fun m => by
      obtain ⟨d, hd⟩ := HD.out
      exact ⟨d + m, by rw [hd]; exact World.drewN_drewN _ _ _⟩
    by_cases hlt : k < n
    · obtain ⟨r, hr⟩ : ∃ r, rs[k]? = some r := ⟨_, List.getElem?_eq_getElem (by have := HN.out; omega)⟩
      obtain ⟨ga, rfl, a0, a1, a2⟩ := HA2.out k r hr
      obtain ⟨gb, rfl, b0, b1, b2⟩ := HB2.out k r hr
      have hkz : (k : Int) < (n : Int) := by omega
      clear hr
      go_wp2
      go_quiet (fail)
      go_wp2
      go_roundw
      case rel => exact ⟨k + 1, by omega, by go_num, HD2.out _⟩
      case measure => simp [intOf]; omega
    · have e : k = n := by omega
      subst e
      have hbb : Below w.heap.size w wr := by obtain ⟨d, hd⟩ := HD.out; rw [hd]; exact below_drewW w d
      go_wp2
      go_ret
      exact ⟨rfl, hbb⟩
end Go.Proofs.Ytijafckdbhklmaa.I
