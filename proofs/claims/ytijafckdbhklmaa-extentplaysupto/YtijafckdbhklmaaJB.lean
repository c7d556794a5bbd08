import Derived.Test.YtijafckdbhklmaaYW
import Derived.Test.YtijafckdbhklmaaJG
import Derived.Test.YtijafckdbhklmaaJA
import Derived.Laws.AppendOwnNone
import Derived.Deep.RegionHeld3
import Derived.Deep.RegionWith
import Derived.Deep.DrawnRows
namespace Go.Proofs.Ytijafckdbhklmaa.I
open Go.RowKit Go.Sort Go.Lib Go.Shelf Go.Proofs.Ytijafckdbhklmaa Classical
attribute [local go_sem] Oper.semAt_some
set_option linter.unusedVariables false
set_option linter.unusedSimpArgs false
set_option maxRecDepth 100000

abbrev TEnt : TypeId := 69
abbrev TSeqI : TypeId := 55
abbrev TEnts : TypeId := 38
theorem infoEnt : (Try.prog.info? TEnt).map (fun i => (i.zero, i.size, i.bytes)) = some (some (.agg #[.int .i64 0, .int .i64 0, .int .i64 0]), 3, 24) := by kernel_rfl
theorem keepR_grownI {W w1 : World} {n0 e size k : Nat} {v : Value} {xs : List Value} (he : e ≠ TRun) (hrow : W.ownsRow n0 e size v k xs) (hg : W.grownBy w1 v.ownBlock) : KeepR W w1 := fun i cur fr hi => by
  refine (hg.block i (Array.getElem?_eq_some_iff.1 hi).1 (fun ei => ?_)).trans hi
  obtain ⟨_, _, cs, hc⟩ := row_lt hrow i ei.symm
  rw [hi] at hc
  simp at hc
  exact he hc.2.1.symm
theorem newsE (W : World) (a b c : Value) : ∀ j u, [a, b, c][j]? = some u → (W.alloc (.cells #[a, b, c] TEnt)).cell? ((⟨W.heap.size, 0, none⟩ : Addr).add j) = some u := by
  intro j u hu
  rw [WideShapes.add_plain, Nat.zero_add]
  exact (World.cell?_alloc_mark W #[a, b, c] TEnt (0, 0) j).trans (by simpa using hu)
theorem cutA_whole {size : Int} {rs : List (Rn Int)} (ht : Tiles 0 size rs) : List.map (fun r : Rn Int => r) rs = cutA rs size 0 size := by
  rw [List.map_id']
  unfold cutA
  have hp := ht.le
  by_cases hz : 0 < size
  · rw [if_pos (by omega), show max (0 : Int) 0 = 0 by omega, show min size size = size by omega, cut_full ht hz]
  · have e0 : size = 0 := by omega
    rw [if_neg (by omega)]
    subst e0
    exact ht.empty
theorem rcells_snoc (pre : List (Rn Int)) (x : Rn Int) : rcells E (pre ++ [x]) = rcells E pre ++ [.int .i64 x.lo, .int .i64 x.hi, .int .i64 x.v] := by rw [rcells_append]; simp [rcells, rcell]
set_option maxHeartbeats 8000000 in
/-- the law's own list of a map's runs -/
theorem runsF_any {w : World} {B bm : Nat} {v0 : Value} {size : Int} {rs : List (Rn Int)} (h : MO w B bm v0 size rs) :
    Calls Try.prog 16 #[.pointer (some ⟨bm, 0, none⟩), .int .i64 0, .int .i64 size] w fun e w' => ∃ v', e = .returned v' ∧ w'.ownsRow w.heap.size TEnt 3 v' rs.length (rcells E rs) ∧ Below w.heap.size w w' := by
  obtain ⟨i0, hi, hz0, hz1, hz2⟩ := info_parts infoEnt
  have hlen : rs.length ≤ 1099511627776 := h.len
  have qs : ∀ (w : World) (f : Fn) (a b : Array Value), (binOp .eql TSeqI (.func f a b) .nilFunc).run Try.prog w = .ok (.bool false) w := fun _ _ _ _ => rfl
  refine (callsIn_wide (n := 4)).1 ?_
  have f0 : Fence.wide.fn 16 := trivial
  have f1 : Fence.wide.fn 21 := trivial
  have f2 : Fence.wide.fn 36 := trivial
  refine callsIn_of_wp_marks Try.func16 rfl f0 ?_ rfl
  simp only [Try.ntmps16, List.size_toArray, List.length_cons, List.length_nil, Nat.reduceAdd, Nat.reduceSub, Array.replicate_succ, Array.replicate_zero, List.push_toArray, List.append_toArray, List.nil_append, List.cons_append]
  gi_wp2_with (gi_at_call 21; refine (callsIn_wide.2 (runs_any _ _ _ _)).mono ?_; rintro e w' ⟨rfl, rfl⟩)
  obtain ⟨W0, hW0⟩ : ∃ W0, W0 = (((w.alloc (.cells #[.slice none 0 0] TEnts)).alloc (.cells #[.pointer (some ⟨bm, 0, none⟩)] 26)).alloc (.cells #[.int .i64 0] 2)).alloc (.cells #[.int .i64 size] 2) := ⟨_, rfl⟩
  have hB0 : Below w.heap.size w W0 := by rw [hW0]; exact ((((Below.refl _ w).alloc (Nat.le_refl _) _).alloc (by simp) _).alloc (by simp; omega) _).alloc (by simp; omega) _
  have hs0 : W0.heap.size = w.heap.size + 4 := by rw [hW0]; simp
  have bO : Boxed W0 w.heap.size TEnts (.slice none 0 0) := by rw [hW0]; exact (((Boxed.new w TEnts (.slice none 0 0)).alloc _).alloc _).alloc _
  have bx1 : W0.cell? ⟨w.heap.size + 1, 0, none⟩ = some (.pointer (some ⟨bm, 0, none⟩)) := by
    have := Boxed.new (w.alloc (.cells #[.slice none 0 0] TEnts)) 26 (.pointer (some ⟨bm, 0, none⟩))
    rw [World.size_alloc] at this
    rw [hW0]; exact ((this.alloc _).alloc _).cell
  have bx2 : W0.cell? ⟨w.heap.size + 1 + 1, 0, none⟩ = some (.int .i64 0) := by
    have := Boxed.new ((w.alloc (.cells #[.slice none 0 0] TEnts)).alloc (.cells #[.pointer (some ⟨bm, 0, none⟩)] 26)) 2 (.int .i64 0)
    rw [World.size_alloc, World.size_alloc] at this
    rw [hW0]; exact (this.alloc _).cell
  have bx3 : W0.cell? ⟨w.heap.size + 1 + 2, 0, none⟩ = some (.int .i64 size) := by
    have := Boxed.new (((w.alloc (.cells #[.slice none 0 0] TEnts)).alloc (.cells #[.pointer (some ⟨bm, 0, none⟩)] 26)).alloc (.cells #[.int .i64 0] 2)) 2 (.int .i64 size)
    rw [World.size_alloc, World.size_alloc, World.size_alloc] at this
    rw [hW0]; exact this.cell
  have hseq := runs1_gen 3 (by omega) (fun r : Rn Int => r) keepsRow_R (h.later hB0) 0 size bx1 bx2 bx3 rs (cutA_whole h.tiles) (fun _ _ _ _ _ _ _ => trivial)
  rw [← hW0]
  clear bx1 bx2 bx3 h
  refine wpIn_rangeFunc_ownH rfl (by omega) (gf := 36) (lb := #[.pointer (some ⟨w.heap.size + 1, 0, none⟩), .pointer (some ⟨w.heap.size + 1 + 1, 0, none⟩), .pointer (some ⟨w.heap.size + 1 + 2, 0, none⟩)]) rfl f2 (enters_of Try.func36 (by kernel_rfl) rfl)
    hseq keepR_t (keepR_b (w := W0)) (Below.refl _ _) (fun _ => rfl)
    (fun pre W => (∃ v, Boxed W w.heap.size TEnts v ∧ W.ownsRow w.heap.size TEnt 3 v pre.length (rcells E pre) ∧ True) ∧ Below w.heap.size w W)
    (fun _ _ _ => False)
    (OwnFrom.and (Own.from (holdsRow_own w.heap.size w.heap.size TEnts TEnt 3 (fun pre : List (Rn Int) => pre.length) (fun pre => rcells E pre) (fun _ _ => True)) _) (ownFrom_below (Nat.le_refl _) (by omega)))
    (fun _ _ _ _ _ hs _ _ => hs)
    ⟨⟨_, bO, World.ownsRow_nil _ _ _ _, trivial⟩, hB0⟩
    (fun x a' W => ∃ Bx, W.heap[Bx]? = some (.cells #[.int .i64 x.lo, .int .i64 x.hi, .int .i64 x.v] TRun (0, 0)) ∧ a' = { tmps := #[.pointer (some ⟨bm, 0, none⟩), .int .i64 0, .int .i64 size, undef, undef, undef, .slice none 0 0, .pointer (some ⟨w.heap.size, 0, none⟩), .func (.func 36) #[] #[.pointer (some ⟨w.heap.size + 1, 0, none⟩), .pointer (some ⟨w.heap.size + 1 + 1, 0, none⟩), .pointer (some ⟨w.heap.size + 1 + 2, 0, none⟩)], .pointer (some ⟨Bx, 0, none⟩), .pointer (some ⟨bm, 0, none⟩), .int .i64 0, .int .i64 size, .func (.func 36) #[] #[.pointer (some ⟨w.heap.size + 1, 0, none⟩), .pointer (some ⟨w.heap.size + 1 + 1, 0, none⟩), .pointer (some ⟨w.heap.size + 1 + 2, 0, none⟩)], .func (.func 36) #[] #[.pointer (some ⟨w.heap.size + 1, 0, none⟩), .pointer (some ⟨w.heap.size + 1 + 1, 0, none⟩), .pointer (some ⟨w.heap.size + 1 + 2, 0, none⟩)], .bool false, .func (.func 36) #[] #[.pointer (some ⟨w.heap.size + 1, 0, none⟩), .pointer (some ⟨w.heap.size + 1 + 1, 0, none⟩), .pointer (some ⟨w.heap.size + 1 + 2, 0, none⟩)], .agg #[.int .i64 x.lo, .int .i64 x.hi, .int .i64 x.v], undef, undef, undef, undef, undef, undef, undef, undef, undef, undef, undef], defers := [] })
    (fun x a' s X Y row hs hg hrow => by
      obtain ⟨Bx, hx, e⟩ := hs
      exact ⟨Bx, cells_ownC Bx _ _ _ () X Y row hx hg hrow, e⟩)
    ?assign ?body ?done ?stop
  case assign =>
    rintro l pre x W K ⟨⟨v, hv, hrow, _⟩, hB⟩ hK
    gi_wp2
    exact hK _ _ ((KeepsOthers.alloc _ _).from _) (keepR_below ((Below.refl _ W).alloc (Nat.le_refl _) _)) ⟨⟨v, hv.alloc _, hrow.alloc _, trivial⟩, hB.alloc hB.size _⟩ ⟨W.heap.size, heap_alloc_new W _, rfl⟩
  case body =>
    rintro l pre x a' W hl ⟨r, hr⟩ ⟨⟨v, hv, hrow, _⟩, hB⟩ ⟨Bx, hx, rfl⟩ hlt
    have hc := hv.cell
    have hfz := hv.frozen
    have x0 : W.cell? ⟨Bx, 0, none⟩ = some (.int .i64 x.lo) := by unfold World.cell?; simp only [hx]; rfl
    have x1 : W.cell? ⟨Bx, 1, none⟩ = some (.int .i64 x.hi) := by unfold World.cell?; simp only [hx]; rfl
    have x2 : W.cell? ⟨Bx, 2, none⟩ = some (.int .i64 x.v) := by unfold World.cell?; simp only [hx]; rfl
    have hle2 : w.heap.size ≤ w.heap.size := Nat.le_refl _
    gi_wp2_with (gi_at_builtin; refine wpListIn_append_own _ rfl _ _ TEnts rfl w.heap.size TEnt i0 _ 3 24 Try.underlying38 hi hz0 hz1 hz2 rfl (by decide) _ _ _ rfl (hrow.alloc _) ⟨W.heap.size, 0, none⟩ 1 1 [.int .i64 x.lo, .int .i64 x.hi, .int .i64 x.v] rfl rfl (newsE _ _ _ _) (by simp [Value.oneCell']) (by unfold maxLen; omega) (by omega) (by have := hB.size; simp; omega) ?_; intro v' w1 hown' hgrow _; obtain ⟨g', cap', rfl⟩ := ownsRow_succ hown'; obtain ⟨hv1, hv2, hr2, hk2, hb2⟩ := hv.appended (by decide) hrow hB.size hle2 hown' hgrow; have hc1 := hv1.cell; have hf1 := hv1.frozen)
    refine ⟨hk2.from _, ?_, ⟨⟨_, hv2, ?_, trivial⟩, hB.trans hb2⟩⟩
    · exact keepR_t (keepR_below ((Below.refl _ W).alloc (Nat.le_refl _) _)) (keepR_t (keepR_grownI (by decide) (hrow.alloc _) hgrow) (keepI_setBox hv1 (by decide)))
    · rw [rcells_snoc]
      simpa using hr2
  case done =>
    rintro D ys W hD rfl ⟨⟨v, hv, hrow, _⟩, hB⟩ hK
    have hc := hv.cell
    gi_wp2
    refine ⟨by simp, .inl ⟨_, _, rfl, run_takeDeferred hK, ?_⟩⟩
    exact ⟨_, results_tmp rfl _ _ _, v, rfl, ownsRow_putObj hrow _ hK rfl, hB.trans (belowK_b (w := w) (Nat.le_refl _) W D _ _ (by omega) hK rfl rfl)⟩
  case stop =>
    rintro D c pre W _ _ h _
    exact h.elim
theorem ent_cells {w : World} {B : Nat} {ao : Option Addr} {cap : Nat} {rs : List (Rn Int)} (h : w.ownsRow B TEnt 3 (.slice ao rs.length cap) rs.length (rcells E rs)) {k : Nat} {r : Rn Int} (hk : rs[k]? = some r) :
    ∃ g, ao = some ⟨g, 0, none⟩ ∧ w.cell? ⟨g, k * 3, none⟩ = some (.int .i64 r.lo) ∧ w.cell? ⟨g, k * 3 + 1, none⟩ = some (.int .i64 r.hi) ∧ w.cell? ⟨g, k * 3 + 2, none⟩ = some (.int .i64 r.v) := by
  have hlt := (List.getElem?_eq_some_iff.1 hk).1
  rcases h.2 with ⟨_, h0⟩ | ⟨g, cp, cur, hv, _⟩
  · omega
  · simp only [Value.slice.injEq] at hv
    obtain ⟨rfl, _, _⟩ := hv
    have c0 := h.cells (g := g) rfl _ _ ((rcells_get E rs k r hk 0 (by omega)).trans rfl)
    have c1 := h.cells (g := g) rfl _ _ ((rcells_get E rs k r hk 1 (by omega)).trans rfl)
    have c2 := h.cells (g := g) rfl _ _ ((rcells_get E rs k r hk 2 (by omega)).trans rfl)
    rw [WideShapes.add_plain, Nat.zero_add] at c0 c1 c2
    exact ⟨g, rfl, c0, c1, c2⟩
set_option maxHeartbeats 8000000 in
/-- the law's own comparison of two lists -/
theorem sameE_any {w : World} {Ba Bb : Nat} {va vb : Value} {rs : List (Rn Int)} (ha : w.ownsRow Ba TEnt 3 va rs.length (rcells E rs)) (hb : w.ownsRow Bb TEnt 3 vb rs.length (rcells E rs)) (hl : rs.length ≤ 1099511627776) :
    Calls Try.prog 15 #[va, vb] w fun e w' => e = .returned (.bool true) ∧ Below w.heap.size w w' := by
  obtain ⟨aa, ca, rfl⟩ := own_slice ha
  obtain ⟨ab, cb, rfl⟩ := own_slice hb
  have HA : Hid (∀ k r, rs[k]? = some r → ∃ g, aa = some ⟨g, 0, none⟩ ∧ w.cell? ⟨g, k * 3, none⟩ = some (.int .i64 r.lo) ∧ w.cell? ⟨g, k * 3 + 1, none⟩ = some (.int .i64 r.hi) ∧ w.cell? ⟨g, k * 3 + 2, none⟩ = some (.int .i64 r.v)) := fun k r hk => ent_cells ha hk
  have HB : Hid (∀ k r, rs[k]? = some r → ∃ g, ab = some ⟨g, 0, none⟩ ∧ w.cell? ⟨g, k * 3, none⟩ = some (.int .i64 r.lo) ∧ w.cell? ⟨g, k * 3 + 1, none⟩ = some (.int .i64 r.hi) ∧ w.cell? ⟨g, k * 3 + 2, none⟩ = some (.int .i64 r.v)) := fun k r hk => ent_cells hb hk
  obtain ⟨n, hn⟩ : ∃ n, rs.length = n := ⟨_, rfl⟩
  have HN : Hid (rs.length = n) := hn
  rw [hn] at hl ⊢
  clear ha hb hn
  go_enter Try.func15, Try.ntmps15
  go_wp2
  go_loopw [5] (fun i wr => ∃ (k : Nat), k ≤ n ∧ i = .int .i64 k ∧ Hid (∃ d, wr = w.drewN d)) (fun i _ => n - (intOf i).toNat)
  case atStart => exact ⟨0, Nat.zero_le _, rfl, 0, rfl⟩
  case round =>
    obtain ⟨k, hk, rfl, HD⟩ := hrel
    have HA2 : Hid (∀ k r, rs[k]? = some r → ∃ g, aa = some ⟨g, 0, none⟩ ∧ wr.cell? ⟨g, k * 3, none⟩ = some (.int .i64 r.lo) ∧ wr.cell? ⟨g, k * 3 + 1, none⟩ = some (.int .i64 r.hi) ∧ wr.cell? ⟨g, k * 3 + 2, none⟩ = some (.int .i64 r.v)) := by
      obtain ⟨d, hd⟩ := HD.out; rw [hd]; exact HA
    have HB2 : Hid (∀ k r, rs[k]? = some r → ∃ g, ab = some ⟨g, 0, none⟩ ∧ wr.cell? ⟨g, k * 3, none⟩ = some (.int .i64 r.lo) ∧ wr.cell? ⟨g, k * 3 + 1, none⟩ = some (.int .i64 r.hi) ∧ wr.cell? ⟨g, k * 3 + 2, none⟩ = some (.int .i64 r.v)) := by
      obtain ⟨d, hd⟩ := HD.out; rw [hd]; exact HB
    have HD2 : Hid (∀ m, ∃ d, wr.drewN m = w.drewN d) := fun m => by
      obtain ⟨d, hd⟩ := HD.out
      exact ⟨d + m, by rw [hd]; exact World.drewN_drewN _ _ _⟩
    by_cases hlt : k < n
    · obtain ⟨r, hr⟩ : ∃ r, rs[k]? = some r := ⟨_, List.getElem?_eq_getElem (by have := HN.out; omega)⟩
      obtain ⟨ga, rfl, a0, a1, a2⟩ := HA2.out k r hr
      obtain ⟨gb, rfl, b0, b1, b2⟩ := HB2.out k r hr
      have hkz : (k : Int) < (n : Int) := by omega
      clear hr
      go_wp2
      go_quiet (fail)
      go_wp2
      go_roundw
      case rel => exact ⟨k + 1, by omega, by go_num, HD2.out _⟩
      case measure => simp [intOf]; omega
    · have e : k = n := by omega
      subst e
      have hbb : Below w.heap.size w wr := by obtain ⟨d, hd⟩ := HD.out; rw [hd]; exact below_drewW w d
      go_wp2
      go_ret
      exact ⟨rfl, hbb⟩
end Go.Proofs.Ytijafckdbhklmaa.I

namespace Go.Proofs.Ytijafckdbhklmaa.I
open Go.RowKit Go.Sort Go.Lib Go.Shelf Go.Proofs.Ytijafckdbhklmaa
set_option linter.unusedVariables false
set_option linter.unusedSimpArgs false
set_option maxRecDepth 100000

/-- all but these blocks stay -/
structure KX (S : Nat → Prop) (W W' : World) : Prop where
  os : W'.os = W.os
  tape : W'.tape = W.tape
  output : W'.output = W.output
  size : W.heap.size ≤ W'.heap.size
  block : ∀ k, k < W.heap.size → ¬ S k → W'.heap[k]? = W.heap[k]?
theorem KX.refl (S : Nat → Prop) (W : World) : KX S W W := ⟨rfl, rfl, rfl, Nat.le_refl _, fun _ _ _ => rfl⟩
theorem KX.trans {S : Nat → Prop} {A B C : World} (h : KX S A B) (k : KX S B C) : KX S A C :=
  ⟨k.os.trans h.os, k.tape.trans h.tape, k.output.trans h.output, Nat.le_trans h.size k.size, fun i hi hS => (k.block i (Nat.lt_of_lt_of_le hi h.size) hS).trans (h.block i hi hS)⟩
theorem KX.of_below {S : Nat → Prop} {A B : World} (h : Below A.heap.size A B) : KX S A B := ⟨h.os, h.tape, h.output, h.size, fun k hk _ => h.block k hk⟩
theorem KX.below {S : Nat → Prop} {n : Nat} {A B C : World} (h : Below n A B) (k : KX S B C) (hn : n ≤ B.heap.size) (hS : ∀ i, S i → n ≤ i) : Below n A C :=
  ⟨k.os.trans h.os, k.tape.trans h.tape, k.output.trans h.output, Nat.le_trans h.size k.size, fun i hi => (k.block i (by omega) (fun hs => by have := hS i hs; omega)).trans (h.block i hi)⟩
theorem KX.box {S : Nat → Prop} {A B : World} (h : KX S A B) {k t : Nat} {v : Value} (hb : Boxed A k t v) (hS : ¬ S k) : Boxed B k t v := (h.block k hb.lt hS).trans hb
theorem KX.row {S : Nat → Prop} {A B : World} (h : KX S A B) {base T n s : Nat} {v : Value} {xs : List Value} (hr : A.ownsRow base T s v n xs) (hS : ∀ g, v.ownBlock = some g → ¬ S g) : B.ownsRow base T s v n xs :=
  owns_same hr (fun g e => h.block g (row_lt hr g e).1 (hS g e))
theorem KX.mo {S : Nat → Prop} {A B : World} (h : KX S A B) {base bm : Nat} {v : Value} {size : Int} {rs : List (Rn Int)} (hm : MO A base bm v size rs) (h1 : ¬ S bm) (hS : ∀ g, v.ownBlock = some g → ¬ S g) : MO B base bm v size rs :=
  hm.same (h.block _ hm.ltm h1) (fun g e => h.block g (row_lt hm.row g e).1 (hS g e))
theorem KX.own_grown {S : Nat → Prop} {A X Y : World} {row : Option Nat} (h : KX S A X) (hg : X.grownBy Y row) (hr : ∀ r, row = some r → A.heap.size ≤ r) : KX S A Y :=
  ⟨hg.os.trans h.os, hg.tape.trans h.tape, hg.output.trans h.output, Nat.le_trans h.size hg.size, fun k hk hS => (hg.block k (Nat.lt_of_lt_of_le hk h.size) (fun e => by have := hr k e.symm; omega)).trans (h.block k hk hS)⟩
/-- what the ranging may change -/
def S0 (bm ib gb : Nat) (vm0 : Value) (k : Nat) : Prop := k = bm ∨ k = ib ∨ k = gb ∨ vm0.ownBlock = some k
/-- while the law ranges -/
structure SJ (W0 : World) (Bm bm ib gb : Nat) (vm0 : Value) (size : Int) (got : List (Rn Int)) (i : Int) (rs : List (Rn Int)) (W : World) : Prop where
  kx : KX (S0 bm ib gb vm0) W0 W
  m : ∃ vm, MO W Bm bm vm size rs ∧ ∀ g, vm.ownBlock = some g → vm0.ownBlock = some g ∨ W0.heap.size ≤ g
  i : Boxed W ib 3 (.int .i64 i)
  g : ∃ gv, Boxed W gb TEnts gv ∧ W.ownsRow W0.heap.size TEnt 3 gv got.length (rcells E got)
  ne : ib ≠ gb
  li : ib < W0.heap.size
  lg : gb < W0.heap.size
  lm : bm < W0.heap.size
section
variable {W0 W W' : World} {Bm bm ib gb : Nat} {vm0 : Value} {size i : Int} {got rs : List (Rn Int)}
theorem box_not {W : World} {k t b : Nat} {v : Value} {cs : Array Value} {T : TypeId} (hb : Boxed W k t v) (hc : W.heap[b]? = some (.cells cs T (0, 0))) (ht : t ≠ T) : k ≠ b := fun e => by
  have h1 : W.heap[k]? = some (.cells #[v] t (0, 0)) := hb
  rw [e, hc] at h1
  simp at h1
  exact ht h1.2.symm
theorem rows_not {W : World} {B B' T T' s s' n n' : Nat} {v v' : Value} {xs xs' : List Value} (h : W.ownsRow B T s v n xs) (h' : W.ownsRow B' T' s' v' n' xs') (ht : T ≠ T') {g : Nat} (hg : v.ownBlock = some g) : v'.ownBlock ≠ some g := fun e => by
  obtain ⟨_, _, cs, h1⟩ := row_lt h g hg
  obtain ⟨_, _, cs', h2⟩ := row_lt h' g e
  rw [h1] at h2
  simp at h2
  exact ht h2.2
/-- a change of blocks that are none of the ranging's -/
theorem SJ.other (h : SJ W0 Bm bm ib gb vm0 size got i rs W) {S : Nat → Prop} (hk : KX S W W') (hS : ∀ k, S k → W0.heap.size ≤ k ∧ ∃ cs T, W.heap[k]? = some (.cells cs T (0, 0)) ∧ T ≠ TRun ∧ T ≠ TEnt) : SJ W0 Bm bm ib gb vm0 size got i rs W' := by
  obtain ⟨vm, hm, hf⟩ := h.m
  obtain ⟨gv, hg, hr⟩ := h.g
  have n0 : ∀ k, k < W0.heap.size → ¬ S k := fun k hk hs => by have := (hS k hs).1; omega
  refine ⟨⟨hk.os.trans h.kx.os, hk.tape.trans h.kx.tape, hk.output.trans h.kx.output, Nat.le_trans h.kx.size hk.size, fun k hlt hs => (hk.block k (Nat.lt_of_lt_of_le hlt h.kx.size) (n0 k hlt)).trans (h.kx.block k hlt hs)⟩, ⟨vm, hk.mo hm (n0 _ h.lm) (fun g e hs => ?_), hf⟩, hk.box h.i (n0 _ h.li), ⟨gv, hk.box hg (n0 _ h.lg), hk.row hr (fun g e hs => ?_)⟩, h.ne, h.li, h.lg, h.lm⟩
  · obtain ⟨_, cs, T, h1, h2, h3⟩ := hS g hs
    obtain ⟨_, _, cs', h4⟩ := row_lt hm.row g e
    rw [h1] at h4; simp at h4; exact h2 h4.2
  · obtain ⟨_, cs, T, h1, h2, h3⟩ := hS g hs
    obtain ⟨_, _, cs', h4⟩ := row_lt hr g e
    rw [h1] at h4; simp at h4; exact h3 h4.2
theorem SJ.later (h : SJ W0 Bm bm ib gb vm0 size got i rs W) (hb : Below W.heap.size W W') : SJ W0 Bm bm ib gb vm0 size got i rs W' :=
  h.other (S := fun _ => False) (KX.of_below hb) (fun _ f => f.elim)
theorem SJ.own {B : Nat} (hB : W0.heap.size ≤ B) : OwnFrom B (fun (_ : Unit) W => SJ W0 Bm bm ib gb vm0 size got i rs W) := fun _ X Y row hs hg hr => by
  have key : ∀ (k : Nat) (cs : Array Value) (T : TypeId) (fr : Nat × Nat), X.heap[k]? = some (.cells cs T fr) → Y.heap[k]? = X.heap[k]? := fun k cs T fr hk => hg.block k (Array.getElem?_eq_some_iff.1 hk).1 (fun e => by
    obtain ⟨_, o, ho, hc⟩ := hr k e.symm
    rw [hk] at ho; cases ho; simp [Obj.isCells] at hc)
  obtain ⟨vm, hm, hf⟩ := hs.m
  obtain ⟨gv, hgv, hrw⟩ := hs.g
  refine ⟨⟨hg.os.trans hs.kx.os, hg.tape.trans hs.kx.tape, hg.output.trans hs.kx.output, Nat.le_trans hs.kx.size hg.size, fun k hlt hS => (hg.block k (Nat.lt_of_lt_of_le hlt hs.kx.size) (fun e => by have := (hr k e.symm).1; omega)).trans (hs.kx.block k hlt hS)⟩, ⟨vm, hm.same (key _ _ _ _ hm.blk) (fun g e => ?_), hf⟩, (key _ _ _ _ hs.i).trans hs.i, ⟨gv, (key _ _ _ _ hgv).trans hgv, owns_same hrw (fun g e => ?_)⟩, hs.ne, hs.li, hs.lg, hs.lm⟩
  · obtain ⟨_, _, cs, h1⟩ := row_lt hm.row g e
    exact key _ _ _ _ h1
  · obtain ⟨_, _, cs, h1⟩ := row_lt hrw g e
    exact key _ _ _ _ h1
theorem kpC_of (h1 : ∀ k cur fr, FineC bm k W → W.heap[k]? = some (.cells cur TRun fr) → W'.heap[k]? = W.heap[k]?) (h2 : bm < W.heap.size → W'.heap[bm]? = W.heap[bm]?) (h3 : W.heap.size ≤ W'.heap.size) : KpC bm W W' := fun g hf =>
  ⟨fun cur fr hi => (h1 g cur fr hf hi).trans hi, fineC_same hf (h2 (fineC_lt hf)) h3⟩
/-- a change of boxes and of rows of other types -/
theorem kpC_kx {S : Nat → Prop} (hk : KX S W W') (hS : ∀ k, S k → ∃ cs T, W.heap[k]? = some (.cells cs T (0, 0)) ∧ T ≠ TRun ∧ T ≠ TMap) (hm : ∃ cs, W.heap[bm]? = some (.cells cs TMap (0, 0))) : KpC bm W W' := by
  refine kpC_of (fun k cur fr _ hi => hk.block k (Array.getElem?_eq_some_iff.1 hi).1 (fun hs => ?_)) (fun hlt => hk.block bm hlt (fun hs => ?_)) hk.size
  · obtain ⟨cs, T, h1, h2, h3⟩ := hS k hs
    rw [h1] at hi; simp at hi; exact h2 hi.2.1
  · obtain ⟨cs, T, h1, h2, h3⟩ := hS bm hs
    obtain ⟨cs', h4⟩ := hm
    rw [h1] at h4; simp at h4; exact h3 h4.2
theorem keeps_kx {S : Nat → Prop} (hk : KX S W W') (hS : ∀ k, S k → ∃ cs T, W.heap[k]? = some (.cells cs T (0, 0))) : KeepsOthers W W' :=
  ⟨hk.size, fun k o ho hc => (hk.block k (Array.getElem?_eq_some_iff.1 ho).1 (fun hs => by obtain ⟨cs, T, h1⟩ := hS k hs; rw [h1] at ho; cases ho; simp [Obj.isCells] at hc)).trans ho⟩
theorem kx_set (W : World) (b j : Nat) (u : Value) : KX (· = b) W (W.setCell ⟨b, j, none⟩ u) := by
  have h := grownBy_setCell' W b u
  have e : (W.setCell ⟨b, j, none⟩ u).heap.size = W.heap.size := by simp
  refine ⟨?_, ?_, ?_, by omega, fun k hk hne => Below.heap_setCell _ _ _ _ hne⟩
  all_goals first | rfl | (unfold World.setCell; split <;> rfl) | simp [World.setCell]
/-- a store into i -/
theorem SJ.setI (h : SJ W0 Bm bm ib gb vm0 size got i rs W) (i' : Int) : SJ W0 Bm bm ib gb vm0 size got i' rs (W.setCell ⟨ib, 0, none⟩ (.int .i64 i')) ∧ KpC bm W (W.setCell ⟨ib, 0, none⟩ (.int .i64 i')) ∧ KeepsOthers W (W.setCell ⟨ib, 0, none⟩ (.int .i64 i')) := by
  have hk := kx_set W ib 0 (.int .i64 i')
  obtain ⟨vm, hm, hf⟩ := h.m
  obtain ⟨gv, hg, hr⟩ := h.g
  have hc : W.heap[ib]? = some (.cells #[.int .i64 i] 3 (0, 0)) := h.i
  refine ⟨⟨⟨hk.os.trans h.kx.os, hk.tape.trans h.kx.tape, hk.output.trans h.kx.output, Nat.le_trans h.kx.size hk.size, fun k hlt hs => (hk.block k (Nat.lt_of_lt_of_le hlt h.kx.size) (fun e => hs (.inr (.inl e)))).trans (h.kx.block k hlt hs)⟩, ⟨vm, hk.mo hm (fun e => ?_) (fun g e he => ?_), hf⟩, h.i.set _, ⟨gv, hk.box hg (fun e => h.ne e.symm), hk.row hr (fun g e he => ?_)⟩, h.ne, h.li, h.lg, h.lm⟩, kpC_kx hk (fun k e => ⟨#[.int .i64 i], 3, by rw [e]; exact hc, by decide, by decide⟩) ⟨_, hm.blk⟩, keeps_kx hk (fun k e => ⟨#[.int .i64 i], 3, by rw [e]; exact hc⟩)⟩
  · have := hm.blk; rw [e, hc] at this; simp [TMap] at this
  · obtain ⟨_, _, cs', h4⟩ := row_lt hm.row g e
    rw [he, hc] at h4; simp [TRun] at h4
  · obtain ⟨_, _, cs', h4⟩ := row_lt hr g e
    rw [he, hc] at h4; simp [TEnt] at h4
/-- a Set -/
theorem SJ.set {rs' : List (Rn Int)} {vm vm' : Value} (h : SJ W0 Bm bm ib gb vm0 size got i rs W) (hm : MO W Bm bm vm size rs) (hf : ∀ g, vm.ownBlock = some g → vm0.ownBlock = some g ∨ W0.heap.size ≤ g) (hm' : MO W' Bm bm vm' size rs') (hk : KeptM W W' bm vm vm') : SJ W0 Bm bm ib gb vm0 size got i rs' W' ∧ KpC bm W W' ∧ KeepsOthers W W' := by
  obtain ⟨gv, hg, hr⟩ := h.g
  have hkx : KX (fun k => k = bm ∨ vm.ownBlock = some k) W W' := ⟨hk.os, hk.tape, hk.output, hk.size, fun k hlt hs => hk.block k hlt (fun e => hs (.inl e)) (fun e => hs (.inr e))⟩
  have hS : ∀ k, (k = bm ∨ vm.ownBlock = some k) → ∃ cs T, W.heap[k]? = some (.cells cs T (0, 0)) ∧ T ≠ 3 ∧ T ≠ TEnts ∧ T ≠ TEnt := fun k hs => by
    rcases hs with rfl | e
    · exact ⟨_, _, hm.blk, by decide, by decide, by decide⟩
    · obtain ⟨_, _, cs, h1⟩ := row_lt hm.row k e
      exact ⟨_, _, h1, by decide, by decide, by decide⟩
  refine ⟨⟨⟨hk.os.trans h.kx.os, hk.tape.trans h.kx.tape, hk.output.trans h.kx.output, Nat.le_trans h.kx.size hk.size, fun k hlt hs => (hkx.block k (Nat.lt_of_lt_of_le hlt h.kx.size) (fun e => ?_)).trans (h.kx.block k hlt hs)⟩, ⟨vm', hm', fun g e => ?_⟩, hkx.box h.i (fun hs => ?_), ⟨gv, hkx.box hg (fun hs => ?_), hkx.row hr (fun g e hs => ?_)⟩, h.ne, h.li, h.lg, h.lm⟩, fun g hfn => ?_, keeps_kx hkx (fun k hs => by obtain ⟨cs, T, h1, _⟩ := hS k hs; exact ⟨cs, T, h1⟩)⟩
  · rcases e with rfl | e
    · exact hs (.inl rfl)
    · rcases hf k e with e2 | e2
      · exact hs (.inr (.inr (.inr e2)))
      · omega
  · rcases hk.fresh with e2 | e2
    · exact hf g (e2 ▸ e)
    · exact .inr (Nat.le_trans h.kx.size (e2 g e))
  · obtain ⟨cs, T, h1, h2, h3, h4⟩ := hS _ hs
    exact box_not h.i h1 (fun e => h2 e.symm) rfl
  · obtain ⟨cs, T, h1, h2, h3, h4⟩ := hS _ hs
    exact box_not hg h1 (fun e => h3 e.symm) rfl
  · obtain ⟨cs, T, h1, h2, h3, h4⟩ := hS _ hs
    obtain ⟨_, _, cs', h5⟩ := row_lt hr g e
    rw [h1] at h5; simp at h5; exact h4 h5.2
  · obtain ⟨sz, v, a, b, c⟩ := hfn
    have ev : v = vm := by
      have := a.symm.trans hm.blk
      simpa using (by simpa using this : _ ∧ _).2
    subst ev
    refine ⟨fun cur fr hi => (hk.block g c (fun e => ?_) b).trans hi, size, vm', hm'.blk, fun e => ?_, Nat.lt_of_lt_of_le c hk.size⟩
    · subst e
      have := hi.symm.trans hm.blk
      simp [TRun, TMap] at this
    · rcases hk.fresh with e2 | e2
      · exact b (e2.symm.trans e)
      · have := e2 g e
        omega
/-- a run is appended to what was got -/
theorem SJ.app {x : Rn Int} {gv v' : Value} {w1 : World} {tmp : Obj} (h : SJ W0 Bm bm ib gb vm0 size got i rs W) (hg : Boxed W gb TEnts gv) (hr : W.ownsRow W0.heap.size TEnt 3 gv got.length (rcells E got)) (hown : w1.ownsRow W0.heap.size TEnt 3 v' (got.length + 1) (rcells E got ++ [.int .i64 x.lo, .int .i64 x.hi, .int .i64 x.v])) (hgrow : (W.alloc tmp).grownBy w1 gv.ownBlock) :
    SJ W0 Bm bm ib gb vm0 size (got ++ [x]) i rs (w1.setCell ⟨gb, 0, none⟩ v') ∧ KpC bm W (w1.setCell ⟨gb, 0, none⟩ v') ∧ KeepsOthers W (w1.setCell ⟨gb, 0, none⟩ v') ∧ Boxed w1 gb TEnts gv := by
  obtain ⟨vm, hm, hf⟩ := h.m
  have hsz := h.kx.size
  have hk : KX (fun k => k = gb ∨ gv.ownBlock = some k) W (w1.setCell ⟨gb, 0, none⟩ v') := by
    have h1 : KX (fun k => k = gb ∨ gv.ownBlock = some k) W w1 := ⟨hgrow.os, hgrow.tape, hgrow.output, by have := hgrow.size; simp at this; omega, fun k hlt hs => (hgrow.block k (by simp; omega) (fun e => hs (.inr e.symm))).trans (Below.heap_alloc _ _ _ hlt)⟩
    have h2 := kx_set w1 gb 0 v'
    exact h1.trans ⟨h2.os, h2.tape, h2.output, h2.size, fun k hlt hs => h2.block k hlt (fun e => hs (.inl e))⟩
  have hS : ∀ k, (k = gb ∨ gv.ownBlock = some k) → ∃ cs T, W.heap[k]? = some (.cells cs T (0, 0)) ∧ T ≠ 3 ∧ T ≠ TRun ∧ T ≠ TMap := fun k hs => by
    rcases hs with rfl | e
    · exact ⟨_, _, hg, by decide, by decide, by decide⟩
    · obtain ⟨_, _, cs, h1⟩ := row_lt hr k e
      exact ⟨_, _, h1, by decide, by decide, by decide⟩
  obtain ⟨hv1, hv2, hr2, hk2, hb2⟩ := hg.appended (n₀ := gb) (by decide) (owns_mono (b := gb) hr (by have := h.lg; omega)) (by have := hg.lt; omega) (Nat.le_refl _) (owns_mono (b := gb) hown (by have := h.lg; omega)) hgrow
  refine ⟨⟨⟨hk.os.trans h.kx.os, hk.tape.trans h.kx.tape, hk.output.trans h.kx.output, Nat.le_trans h.kx.size hk.size, fun k hlt hs => (hk.block k (Nat.lt_of_lt_of_le hlt h.kx.size) (fun e => ?_)).trans (h.kx.block k hlt hs)⟩, ⟨vm, hk.mo hm (fun hs => ?_) (fun g e hs => ?_), hf⟩, hk.box h.i (fun hs => ?_), ⟨v', hv2, ?_⟩, h.ne, h.li, h.lg, h.lm⟩, kpC_kx hk (fun k hs => by obtain ⟨cs, T, h1, h2, h3, h4⟩ := hS k hs; exact ⟨cs, T, h1, h3, h4⟩) ⟨_, hm.blk⟩, keeps_kx hk (fun k hs => by obtain ⟨cs, T, h1, _⟩ := hS k hs; exact ⟨cs, T, h1⟩), hv1⟩
  · rcases e with e | e
    · exact hs (.inr (.inr (.inl e)))
    · have := (row_lt hr k e).2.1; omega
  · obtain ⟨cs, T, h1, h2, h3, h4⟩ := hS _ hs
    have := hm.blk
    rw [h1] at this; simp at this; exact h4 this.2
  · obtain ⟨cs, T, h1, h2, h3, h4⟩ := hS _ hs
    obtain ⟨_, _, cs', h5⟩ := row_lt hm.row g e
    rw [h1] at h5; simp at h5; exact h3 h5.2
  · obtain ⟨cs, T, h1, h2, h3, h4⟩ := hS _ hs
    exact box_not h.i h1 (fun e => h2 e.symm) rfl
  · rw [List.length_append, rcells_snoc]
    refine owns_same hown (fun g e => Below.heap_setCell _ _ _ _ (fun e2 => ?_))
    have := (row_lt hown g e).2.1
    have := h.lg
    have e3 : g = gb := e2
    omega
end
end Go.Proofs.Ytijafckdbhklmaa.I

namespace Go.Proofs.Ytijafckdbhklmaa.I
open Go.RowKit Go.Sort Go.Lib Go.Shelf Go.Proofs.Ytijafckdbhklmaa Classical
attribute [local go_sem] Oper.semAt_some
set_option linter.unusedVariables false
set_option linter.unusedSimpArgs false
set_option maxRecDepth 100000

theorem cut_len (rs : List (Rn Int)) (lo hi : Int) : (cut rs lo hi).length ≤ rs.length := by
  unfold cut; rw [setHi_length, setLo_length, List.length_take, List.length_drop]; omega
theorem cutA_len (rs : List (Rn Int)) (size lo hi : Int) : (cutA rs size lo hi).length ≤ rs.length := by
  unfold cutA
  split
  · exact cut_len _ _ _
  · simp
set_option maxHeartbeats 8000000 in
/-- the law's own list of the runs of any part, of a map or of none -/
theorem runsG_any (mp : Option Addr) (w : World) (lo hi : Int) (rs : List (Rn Int)) (hlen : rs.length ≤ 1099511627776)
    (HS : ∀ (W0 : World) (b0 b1 b2 : Nat), Below w.heap.size w W0 → W0.cell? ⟨b0, 0, none⟩ = some (.pointer mp) → W0.cell? ⟨b1, 0, none⟩ = some (.int .i64 lo) → W0.cell? ⟨b2, 0, none⟩ = some (.int .i64 hi) →
      SeqStopsK Fence.wide 3 Try.prog 36 #[.pointer (some ⟨b0, 0, none⟩), .pointer (some ⟨b1, 0, none⟩), .pointer (some ⟨b2, 0, none⟩)] (fun a : Rn Int => encR a) KeepR (fun xs => xs = rs) (fun pre => ∃ rest, rs = pre ++ rest) rs.length W0) :
    Calls Try.prog 16 #[.pointer mp, .int .i64 lo, .int .i64 hi] w fun e w' => ∃ v', e = .returned v' ∧ w'.ownsRow w.heap.size TEnt 3 v' rs.length (rcells E rs) ∧ Below w.heap.size w w' := by
  obtain ⟨i0, hi0, hz0, hz1, hz2⟩ := info_parts infoEnt
  have qs : ∀ (w : World) (f : Fn) (a b : Array Value), (binOp .eql TSeqI (.func f a b) .nilFunc).run Try.prog w = .ok (.bool false) w := fun _ _ _ _ => rfl
  refine (callsIn_wide (n := 4)).1 ?_
  have f0 : Fence.wide.fn 16 := trivial
  have f1 : Fence.wide.fn 21 := trivial
  have f2 : Fence.wide.fn 36 := trivial
  refine callsIn_of_wp_marks Try.func16 rfl f0 ?_ rfl
  simp only [Try.ntmps16, List.size_toArray, List.length_cons, List.length_nil, Nat.reduceAdd, Nat.reduceSub, Array.replicate_succ, Array.replicate_zero, List.push_toArray, List.append_toArray, List.nil_append, List.cons_append]
  gi_wp2_with (gi_at_call 21; refine (callsIn_wide.2 (runs_any _ _ _ _)).mono ?_; rintro e w' ⟨rfl, rfl⟩)
  obtain ⟨W0, hW0⟩ : ∃ W0, W0 = (((w.alloc (.cells #[.slice none 0 0] TEnts)).alloc (.cells #[.pointer mp] 26)).alloc (.cells #[.int .i64 lo] 2)).alloc (.cells #[.int .i64 hi] 2) := ⟨_, rfl⟩
  have hB0 : Below w.heap.size w W0 := by rw [hW0]; exact ((((Below.refl _ w).alloc (Nat.le_refl _) _).alloc (by simp) _).alloc (by simp; omega) _).alloc (by simp; omega) _
  have hs0 : W0.heap.size = w.heap.size + 4 := by rw [hW0]; simp
  have bO : Boxed W0 w.heap.size TEnts (.slice none 0 0) := by rw [hW0]; exact (((Boxed.new w TEnts (.slice none 0 0)).alloc _).alloc _).alloc _
  have bx1 : W0.cell? ⟨w.heap.size + 1, 0, none⟩ = some (.pointer mp) := by
    have := Boxed.new (w.alloc (.cells #[.slice none 0 0] TEnts)) 26 (.pointer mp)
    rw [World.size_alloc] at this
    rw [hW0]; exact ((this.alloc _).alloc _).cell
  have bx2 : W0.cell? ⟨w.heap.size + 1 + 1, 0, none⟩ = some (.int .i64 lo) := by
    have := Boxed.new ((w.alloc (.cells #[.slice none 0 0] TEnts)).alloc (.cells #[.pointer mp] 26)) 2 (.int .i64 lo)
    rw [World.size_alloc, World.size_alloc] at this
    rw [hW0]; exact (this.alloc _).cell
  have bx3 : W0.cell? ⟨w.heap.size + 1 + 2, 0, none⟩ = some (.int .i64 hi) := by
    have := Boxed.new (((w.alloc (.cells #[.slice none 0 0] TEnts)).alloc (.cells #[.pointer mp] 26)).alloc (.cells #[.int .i64 lo] 2)) 2 (.int .i64 hi)
    rw [World.size_alloc, World.size_alloc, World.size_alloc] at this
    rw [hW0]; exact this.cell
  have hseq := HS W0 _ _ _ hB0 bx1 bx2 bx3
  rw [← hW0]
  clear bx1 bx2 bx3 HS
  refine wpIn_rangeFunc_ownH rfl (by omega) (gf := 36) (lb := #[.pointer (some ⟨w.heap.size + 1, 0, none⟩), .pointer (some ⟨w.heap.size + 1 + 1, 0, none⟩), .pointer (some ⟨w.heap.size + 1 + 2, 0, none⟩)]) rfl f2 (enters_of Try.func36 (by kernel_rfl) rfl)
    hseq keepR_t (keepR_b (w := W0)) (Below.refl _ _) (fun _ => rfl)
    (fun pre W => (∃ v, Boxed W w.heap.size TEnts v ∧ W.ownsRow w.heap.size TEnt 3 v pre.length (rcells E pre) ∧ True) ∧ Below w.heap.size w W)
    (fun _ _ _ => False)
    (OwnFrom.and (Own.from (holdsRow_own w.heap.size w.heap.size TEnts TEnt 3 (fun pre : List (Rn Int) => pre.length) (fun pre => rcells E pre) (fun _ _ => True)) _) (ownFrom_below (Nat.le_refl _) (by omega)))
    (fun _ _ _ _ _ hs _ _ => hs)
    ⟨⟨_, bO, World.ownsRow_nil _ _ _ _, trivial⟩, hB0⟩
    (fun x a' W => ∃ Bx, W.heap[Bx]? = some (.cells #[.int .i64 x.lo, .int .i64 x.hi, .int .i64 x.v] TRun (0, 0)) ∧ a' = { tmps := #[.pointer mp, .int .i64 lo, .int .i64 hi, undef, undef, undef, .slice none 0 0, .pointer (some ⟨w.heap.size, 0, none⟩), .func (.func 36) #[] #[.pointer (some ⟨w.heap.size + 1, 0, none⟩), .pointer (some ⟨w.heap.size + 1 + 1, 0, none⟩), .pointer (some ⟨w.heap.size + 1 + 2, 0, none⟩)], .pointer (some ⟨Bx, 0, none⟩), .pointer mp, .int .i64 lo, .int .i64 hi, .func (.func 36) #[] #[.pointer (some ⟨w.heap.size + 1, 0, none⟩), .pointer (some ⟨w.heap.size + 1 + 1, 0, none⟩), .pointer (some ⟨w.heap.size + 1 + 2, 0, none⟩)], .func (.func 36) #[] #[.pointer (some ⟨w.heap.size + 1, 0, none⟩), .pointer (some ⟨w.heap.size + 1 + 1, 0, none⟩), .pointer (some ⟨w.heap.size + 1 + 2, 0, none⟩)], .bool false, .func (.func 36) #[] #[.pointer (some ⟨w.heap.size + 1, 0, none⟩), .pointer (some ⟨w.heap.size + 1 + 1, 0, none⟩), .pointer (some ⟨w.heap.size + 1 + 2, 0, none⟩)], .agg #[.int .i64 x.lo, .int .i64 x.hi, .int .i64 x.v], undef, undef, undef, undef, undef, undef, undef, undef, undef, undef, undef], defers := [] })
    (fun x a' s X Y row hs hg hrow => by
      obtain ⟨Bx, hx, e⟩ := hs
      exact ⟨Bx, cells_ownC Bx _ _ _ () X Y row hx hg hrow, e⟩)
    ?assign ?body ?done ?stop
  case assign =>
    rintro l pre x W K ⟨⟨v, hv, hrow, _⟩, hB⟩ hK
    gi_wp2
    exact hK _ _ ((KeepsOthers.alloc _ _).from _) (keepR_below ((Below.refl _ W).alloc (Nat.le_refl _) _)) ⟨⟨v, hv.alloc _, hrow.alloc _, trivial⟩, hB.alloc hB.size _⟩ ⟨W.heap.size, heap_alloc_new W _, rfl⟩
  case body =>
    rintro l pre x a' W hl ⟨r, hr⟩ ⟨⟨v, hv, hrow, _⟩, hB⟩ ⟨Bx, hx, rfl⟩ hlt
    have hc := hv.cell
    have hfz := hv.frozen
    have x0 : W.cell? ⟨Bx, 0, none⟩ = some (.int .i64 x.lo) := by unfold World.cell?; simp only [hx]; rfl
    have x1 : W.cell? ⟨Bx, 1, none⟩ = some (.int .i64 x.hi) := by unfold World.cell?; simp only [hx]; rfl
    have x2 : W.cell? ⟨Bx, 2, none⟩ = some (.int .i64 x.v) := by unfold World.cell?; simp only [hx]; rfl
    have hle2 : w.heap.size ≤ w.heap.size := Nat.le_refl _
    gi_wp2_with (gi_at_builtin; refine wpListIn_append_own _ rfl _ _ TEnts rfl w.heap.size TEnt i0 _ 3 24 Try.underlying38 hi0 hz0 hz1 hz2 rfl (by decide) _ _ _ rfl (hrow.alloc _) ⟨W.heap.size, 0, none⟩ 1 1 [.int .i64 x.lo, .int .i64 x.hi, .int .i64 x.v] rfl rfl (newsE _ _ _ _) (by simp [Value.oneCell']) (by unfold maxLen; omega) (by omega) (by have := hB.size; simp; omega) ?_; intro v' w1 hown' hgrow _; obtain ⟨g', cap', rfl⟩ := ownsRow_succ hown'; obtain ⟨hv1, hv2, hr2, hk2, hb2⟩ := hv.appended (by decide) hrow hB.size hle2 hown' hgrow; have hc1 := hv1.cell; have hf1 := hv1.frozen)
    refine ⟨hk2.from _, ?_, ⟨⟨_, hv2, ?_, trivial⟩, hB.trans hb2⟩⟩
    · exact keepR_t (keepR_below ((Below.refl _ W).alloc (Nat.le_refl _) _)) (keepR_t (keepR_grownI (by decide) (hrow.alloc _) hgrow) (keepI_setBox hv1 (by decide)))
    · rw [rcells_snoc]
      simpa using hr2
  case done =>
    rintro D ys W hD rfl ⟨⟨v, hv, hrow, _⟩, hB⟩ hK
    have hc := hv.cell
    gi_wp2
    refine ⟨by simp, .inl ⟨_, _, rfl, run_takeDeferred hK, ?_⟩⟩
    exact ⟨_, results_tmp rfl _ _ _, v, rfl, ownsRow_putObj hrow _ hK rfl, hB.trans (belowK_b (w := w) (Nat.le_refl _) W D _ _ (by omega) hK rfl rfl)⟩
  case stop =>
    rintro D c pre W _ _ h _
    exact h.elim
theorem runsP_any {w : World} {B bm : Nat} {v0 : Value} {size : Int} {rs : List (Rn Int)} (h : MO w B bm v0 size rs) (lo hi : Int) :
    Calls Try.prog 16 #[.pointer (some ⟨bm, 0, none⟩), .int .i64 lo, .int .i64 hi] w fun e w' => ∃ v', e = .returned v' ∧ w'.ownsRow w.heap.size TEnt 3 v' (cutA rs size lo hi).length (rcells E (cutA rs size lo hi)) ∧ Below w.heap.size w w' :=
  runsG_any _ w lo hi _ (Nat.le_trans (cutA_len _ _ _ _) h.len) (fun W0 b0 b1 b2 hB c0 c1 c2 => runs1_gen 3 (by omega) (fun r : Rn Int => r) keepsRow_R (h.later hB) lo hi c0 c1 c2 _ (List.map_id' _) (fun _ _ _ _ _ _ _ => trivial))
theorem part_nil (w : World) (lo hi : Int) : Calls Try.prog 37 #[.pointer none, .int .i64 lo, .int .i64 hi] w fun e w' => e = .returned (.slice none 0 0) ∧ w' = w := by
  go_enter Try.func37, Try.ntmps37
  go_wp2_with (go_at_call 33; refine (usable_nil _).mono ?_; rintro e w9 ⟨rfl, hw9⟩; rw [hw9]; clear hw9)
  go_ret
  exact ⟨rfl, rfl⟩
set_option maxHeartbeats 4000000 in
theorem runs1_nil (n : Nat) (hn : 2 ≤ n) {α : Type} (T : α → Rn Int) {Kp : World → World → Prop} {w : World} {b0 b1 b2 : Nat} (Sp : List α → Prop) (lo hi : Int)
    (c0 : w.cell? ⟨b0, 0, none⟩ = some (.pointer none)) (c1 : w.cell? ⟨b1, 0, none⟩ = some (.int .i64 lo)) (c2 : w.cell? ⟨b2, 0, none⟩ = some (.int .i64 hi)) :
    SeqStopsK Fence.wide n Try.prog 36 #[.pointer (some ⟨b0, 0, none⟩), .pointer (some ⟨b1, 0, none⟩), .pointer (some ⟨b2, 0, none⟩)] (fun a => encR (T a)) Kp (fun xs => xs = []) Sp 0 w := by
  intro l J Jx W hW hJ hJx hY h0
  have HP := part_nil W lo hi
  have d0 := cell_later hW c0
  have d1 := cell_later hW c1
  have d2 := cell_later hW c2
  have hf : Fence.wide.fn 36 := trivial
  have hf2 : Fence.wide.fn 37 := trivial
  have h1 : 1 ≤ n := by omega
  have h1' : 1 ≤ n - 1 := by omega
  have HJ0 : Hid (J [] W) := h0
  clear hY c0 c1 c2 h0
  refine callsIn_of_wp Try.func36 rfl hf ?_ rfl
  simp only [Try.ntmps36, List.size_toArray, List.length_cons, List.length_nil, Nat.reduceAdd, Nat.reduceSub, Array.replicate_succ, Array.replicate_zero, List.push_toArray, List.append_toArray, List.nil_append, List.cons_append]
  gi_wp2_with (gi_at_call 37; refine (callsIn_wide.2 HP).mono ?_; rintro e w9 ⟨rfl, hw9⟩; have hb : Below W.heap.size W w9 := (by rw [hw9]; exact Below.refl _ _); clear hw9)
  have HJ1 : Hid (J [] w9) := hJ [] W w9 none HJ0.out ⟨hb.os, hb.tape, hb.output, hb.size, fun k hk _ => hb.block k hk⟩ (fun r e => by cases e)
  gi_loopw [12] (fun i wr => i = .int .i64 0 ∧ Hid (J [] wr)) (fun i _ => 0)
  case atStart => exact ⟨rfl, HJ1⟩
  case round =>
    obtain ⟨rfl, HJr⟩ := hrel
    gi_wp2
    go_end0
    exact ⟨⟨_, rfl⟩, .inl ⟨[], rfl, HJr.out⟩⟩

theorem runsN_any (w : World) (lo hi : Int) :
    Calls Try.prog 16 #[.pointer none, .int .i64 lo, .int .i64 hi] w fun e w' => ∃ v', e = .returned v' ∧ w'.ownsRow w.heap.size TEnt 3 v' 0 (rcells E []) ∧ Below w.heap.size w w' :=
  runsG_any none w lo hi [] (by simp) (fun W0 b0 b1 b2 hB c0 c1 c2 => runs1_nil 3 (by omega) (fun r : Rn Int => r) _ lo hi c0 c1 c2)
end Go.Proofs.Ytijafckdbhklmaa.I

namespace Go.Proofs.Ytijafckdbhklmaa.I
open Go.RowKit Go.Sort Go.Lib Go.Shelf
attribute [local go_sem] Oper.semAt_some
set_option linter.unusedVariables false
set_option linter.unusedSimpArgs false
set_option maxRecDepth 100000

abbrev TPut : TypeId := 66
abbrev TPuts : TypeId := 51
def qcell (q : Put) : List Value := [.int .i64 q.1, .int .i64 q.2.1, .int .i64 q.2.2]
def qcells (l : List Put) : List Value := l.flatMap qcell
theorem qcells_length (l : List Put) : (qcells l).length = l.length * 3 := by
  induction l with
  | nil => rfl
  | cons a t ih => simp [qcells, qcell] at ih ⊢; omega
theorem qcells_append (a b : List Put) : qcells (a ++ b) = qcells a ++ qcells b := by simp [qcells]
theorem qcells_one (l : List Put) : ∀ u ∈ qcells l, u.oneCell' = true := by
  intro u hu
  obtain ⟨r, _, hr⟩ := List.mem_flatMap.1 hu
  simp only [qcell, List.mem_cons, List.not_mem_nil, or_false] at hr
  rcases hr with rfl | rfl | rfl <;> rfl
theorem qcells_get (l : List Put) (k : Nat) (q : Put) (h : l[k]? = some q) (j : Nat) (hj : j < 3) : (qcells l)[k * 3 + j]? = (qcell q)[j]? := by
  induction l generalizing k with
  | nil => simp at h
  | cons a t ih =>
    have e : qcells (a :: t) = qcell a ++ qcells t := by simp [qcells]
    cases k with
    | zero =>
      simp at h; subst h
      rw [e, List.getElem?_append_left (by simp [qcell]; omega), Nat.zero_mul, Nat.zero_add]
    | succ k =>
      simp at h
      rw [e, List.getElem?_append_right (by simp [qcell]; omega)]
      simp only [qcell, List.length_cons, List.length_nil]
      rw [show (k + 1) * 3 + j - (0 + 1 + 1 + 1) = k * 3 + j by omega]
      exact ih k h
theorem infoPut : (Try.prog.info? TPut).map (fun i => (i.zero, i.size, i.bytes)) = some (some (.agg #[.int .i64 0, .int .i64 0, .int .i64 0]), 3, 24) := by kernel_rfl
/-- a list of Sets in a value -/
def PutsA (w : World) (v : Value) (l : List Put) : Prop := (v = .slice none 0 0 ∧ l = []) ∨ ∃ ad c, v = .slice (some ad) l.length c ∧ Puts w (some ad) l
theorem PutsA.later {w w' : World} {v : Value} {l : List Put} (h : PutsA w v l) (hb : Below w.heap.size w w') : PutsA w' v l := by
  rcases h with h | ⟨ad, c, e, h⟩
  · exact .inl h
  · exact .inr ⟨ad, c, e, h.later hb⟩
theorem puts_cells {w : World} {ad : Addr} {l : List Put} (h : Puts w (some ad) l) : ∀ j u, (qcells l)[j]? = some u → w.cell? (ad.add j) = some u := by
  intro j u hu
  have hj : j < l.length * 3 := by
    have := (List.getElem?_eq_some_iff.1 hu).1
    rwa [qcells_length] at this
  obtain ⟨q, hq⟩ : ∃ q, l[j / 3]? = some q := ⟨_, List.getElem?_eq_getElem (by omega)⟩
  obtain ⟨b, off, e, c0, c1, c2⟩ := h _ q hq
  simp only [Option.some.injEq] at e
  subst e
  rw [WideShapes.add_plain]
  have ej : j = j / 3 * 3 + j % 3 := by omega
  have h3 : j % 3 < 3 := Nat.mod_lt _ (by omega)
  have g := qcells_get l (j / 3) q hq (j % 3) h3
  rw [← ej, hu] at g
  have e2 : off + j = off + j / 3 * 3 + j % 3 := by omega
  rw [e2]
  have h4 : j % 3 = 0 ∨ j % 3 = 1 ∨ j % 3 = 2 := by omega
  rcases h4 with e | e | e <;> rw [e] at g ⊢ <;> simp only [qcell, List.getElem?_cons_zero, List.getElem?_cons_succ, Option.some.injEq] at g <;> subst g <;> assumption
theorem puts_row {w : World} {B : Nat} {v : Value} {L : List Put} (h : w.ownsRow B TPut 3 v L.length (qcells L)) : ∃ ao cap, v = .slice ao L.length cap ∧ Puts w ao L := by
  rcases h.2 with ⟨hv, hn⟩ | ⟨g, cap, cur, hv, _⟩
  · exact ⟨none, 0, by rw [hn]; exact hv, fun k p hk => by have := (List.getElem?_eq_some_iff.1 hk).1; omega⟩
  · refine ⟨some ⟨g, 0, none⟩, cap, hv, fun k q hk => ⟨g, 0, rfl, ?_⟩⟩
    have c0 := h.cells (g := g) (by rw [hv]; rfl) _ _ ((qcells_get L k q hk 0 (by omega)).trans rfl)
    have c1 := h.cells (g := g) (by rw [hv]; rfl) _ _ ((qcells_get L k q hk 1 (by omega)).trans rfl)
    have c2 := h.cells (g := g) (by rw [hv]; rfl) _ _ ((qcells_get L k q hk 2 (by omega)).trans rfl)
    rw [WideShapes.add_plain] at c0 c1 c2
    exact ⟨c0, by rw [Nat.add_assoc]; exact c1, by rw [Nat.add_assoc]; exact c2⟩
theorem run_append_puts {w : World} {base n : Nat} {v vx : Value} {xs : List Value} {l : List Put} (ty : TypeId) (hown : w.ownsRow base TPut 3 v n xs) (hsl : PutsA w vx l) (hlen : n + l.length ≤ 5864062014805) (hbase : base ≤ w.heap.size) :
    ∃ v' w', (Builtin.append_ #[51, 51] ty #[v, vx]).run Try.prog w = .ok v' w' ∧ w'.ownsRow base TPut 3 v' (n + l.length) (xs ++ qcells l) ∧ w.grownBy w' v.ownBlock := by
  obtain ⟨i0, hi, hz0, hz1, hz2⟩ := info_parts infoPut
  rcases hsl with ⟨rfl, rfl⟩ | ⟨ad, c, rfl, hR⟩
  · exact ⟨v, w, run_append_owned_none w base TPuts ty TPut i0 3 Try.underlying51 hi v n xs hown, by simpa [qcells] using hown, ⟨rfl, rfl, rfl, Nat.le_refl _, fun _ _ _ => rfl⟩⟩
  · obtain ⟨v', w', h1, h2, h3, _⟩ := run_append_own w base TPuts ty TPut i0 _ 3 24 Try.underlying51 hi hz0 hz1 hz2 rfl (by decide) v n xs hown ad l.length c (qcells l) (qcells_length l) (puts_cells hR) (qcells_one l) (by unfold maxLen; omega) (by omega) hbase
    exact ⟨v', w', h1, h2, h3⟩
theorem step_append_puts {w : World} {ops : Array Oper} {o : Oper} {a : Act} {K : Act → World → Prop} {Q : Exit → Act → World → Prop} {E : Prop} (hgd : o.guard = none) (s x : Operand)
    (ho : o.op = .call { callee := .builtin .append, args := #[s, x], argTypes := #[51, 51] }) (base : Nat) (v : Value) (n : Nat) (xs : List Value) (hs : a.eval s = v) (hown : w.ownsRow base TPut 3 v n xs)
    (vx : Value) (l : List Put) (hx : a.eval x = vx) (hsl : PutsA w vx l) (hlen : n + l.length ≤ 5864062014805) (hbase : base ≤ w.heap.size)
    (h : ∀ v' w', w'.ownsRow base TPut 3 v' (n + l.length) (xs ++ qcells l) → w.grownBy w' v.ownBlock → K (a.put o.dst v') w') :
    if Region.wanted o (yielded ops a.tmps) = true then Oper.wp Try.prog o a w K Q else E := by
  have hw : Region.wanted o (yielded ops a.tmps) = true := by simp [Region.wanted, hgd]
  rw [if_pos hw]
  obtain ⟨v', w', hr, h2, h3⟩ := run_append_puts o.type hown hsl hlen hbase
  unfold Oper.wp execOp
  simp only [ho, resolve, invoke, builtin, Sem.run_bind, Sem.run_pure, Result.andThen_ok, List.map_toArray, List.map_cons, List.map_nil, hs, hx, hr]
  exact h v' w' h2 h3
end Go.Proofs.Ytijafckdbhklmaa.I

namespace Go.Proofs.Ytijafckdbhklmaa.I
open Go.RowKit Go.Sort Go.Lib Go.Shelf Go.Proofs.Ytijafckdbhklmaa
attribute [local go_sem] Oper.semAt_some
set_option linter.unusedVariables false
set_option linter.unusedSimpArgs false
set_option maxRecDepth 100000

abbrev TDM : TypeId := 40
/-- the document's map: its first value and what was set -/
structure DM (w : World) (B bd : Nat) (sv : Value) (size first : Int) (S : List Put) : Prop where
  blk : w.heap[bd]? = some (.cells #[.bool true, .int .i64 size, .int .i64 first, sv] TDM (0, 0))
  row : w.ownsRow B TEnt 3 sv S.length (qcells S)
  base : B ≤ bd
  may : ∀ q ∈ S, may size q.1 q.2.1
theorem DM.ltm {w : World} {B bd : Nat} {sv : Value} {size first : Int} {S : List Put} (h : DM w B bd sv size first S) : bd < w.heap.size := (Array.getElem?_eq_some_iff.1 h.blk).1
theorem DM.c {w : World} {B bd : Nat} {sv : Value} {size first : Int} {S : List Put} (h : DM w B bd sv size first S) (j : Nat) : w.cell? ⟨bd, j, none⟩ = #[.bool true, .int .i64 size, .int .i64 first, sv][j]? := by
  unfold World.cell?; rw [h.blk]; simp
theorem DM.fz {w : World} {B bd : Nat} {sv : Value} {size first : Int} {S : List Put} (h : DM w B bd sv size first S) (j : Nat) : w.frozen? ⟨bd, j, none⟩ = false := by
  unfold World.frozen?; rw [h.blk]; simp
theorem KX.dm {K : Nat → Prop} {A C : World} (h : KX K A C) {B bd : Nat} {sv : Value} {size first : Int} {S : List Put} (hm : DM A B bd sv size first S) (h1 : ¬ K bd) (hS : ∀ g, sv.ownBlock = some g → ¬ K g) : DM C B bd sv size first S :=
  ⟨(h.block _ hm.ltm h1).trans hm.blk, h.row hm.row hS, hm.base, hm.may⟩
theorem DM.later {w w' : World} {B bd : Nat} {sv : Value} {size first : Int} {S : List Put} (h : DM w B bd sv size first S) (hb : Below w.heap.size w w') : DM w' B bd sv size first S :=
  (KX.of_below (S := fun _ => False) hb).dm h (fun f => f) (fun _ _ f => f)
theorem dNew_any (size first : Int) (w : World) (h0 : 0 ≤ size) (h1 : size ≤ 1099511627776) :
    Calls Try.prog 9 #[.int .i64 size, .int .i64 first] w fun e w' => e = .returned (.tuple #[.pointer (some ⟨w.heap.size, 0, none⟩), .int .i64 0]) ∧ DM w' w.heap.size w.heap.size (.slice none 0 0) size first [] ∧ Below w.heap.size w w' := by
  have hD : DM (w.alloc (.cells #[.bool true, .int .i64 size, .int .i64 first, .slice none 0 0] TDM)) w.heap.size w.heap.size (.slice none 0 0) size first [] := ⟨heap_alloc_new w _, World.ownsRow_nil _ _ _ _, Nat.le_refl _, fun q hq => by simp at hq⟩
  go_enter Try.func9, Try.ntmps9
  go_wp2
  go_ret2
  exact ⟨rfl, hD, (Below.refl _ w).alloc (Nat.le_refl _) _⟩
theorem dNew_bad (size first : Int) (w : World) (h : size < 0 ∨ 1099511627776 < size) :
    Calls Try.prog 9 #[.int .i64 size, .int .i64 first] w fun e w' => e = .returned (.tuple #[.pointer (some ⟨w.heap.size, 0, none⟩), .int .i64 20]) ∧ w' = w.alloc (.cells #[.bool false, .int .i64 0, .int .i64 0, .slice none 0 0] TDM) := by
  go_enter Try.func9, Try.ntmps9
  by_cases h0 : size < 0
  · clear h
    go_wp2
    go_ret2
    exact ⟨rfl, rfl⟩
  · have h1 : 1099511627776 < size := by omega
    clear h
    go_wp2
    go_ret2
    exact ⟨rfl, rfl⟩
/-- what a Set leaves of the document's map -/
def DSet (w : World) (B bd : Nat) (sv : Value) (size first : Int) (S' : List Put) (w' : World) : Prop := ∃ sv', DM w' B bd sv' size first S' ∧ KX (fun k => k = bd ∨ sv.ownBlock = some k) w w' ∧ (sv'.ownBlock = sv.ownBlock ∨ ∀ g, sv'.ownBlock = some g → w.heap.size ≤ g)
theorem dSet_no {w : World} {B bd : Nat} {sv : Value} {size first : Int} {S : List Put} (h : DM w B bd sv size first S) (lo hi v : Int) (hm : ¬ I.may size lo hi) :
    Calls Try.prog 28 #[.pointer (some ⟨bd, 0, none⟩), .int .i64 lo, .int .i64 hi, .int .i64 v] w fun e w' => e = .returned (.int .i64 21) ∧ w' = w := by
  have c0 : w.cell? ⟨bd, 0, none⟩ = some (.bool true) := h.c 0
  have c1 : w.cell? ⟨bd, 1, none⟩ = some (.int .i64 size) := h.c 1
  clear h
  go_enter Try.func28, Try.ntmps28
  by_cases h0 : lo < 0
  · clear hm
    go_wp2
    go_ret
    exact ⟨rfl, rfl⟩
  · by_cases h1 : hi < lo
    · clear hm
      go_wp2
      go_ret
      exact ⟨rfl, rfl⟩
    · have h2 : size < hi := Int.not_le.1 (fun h2 => hm ⟨by omega, by omega, h2⟩)
      clear hm
      go_wp2
      go_ret
      exact ⟨rfl, rfl⟩
set_option maxHeartbeats 4000000 in
theorem dSet_yes {w : World} {B bd : Nat} {sv : Value} {size first : Int} {S : List Put} (h : DM w B bd sv size first S) (lo hi v : Int) (hm : I.may size lo hi) (hl : S.length ≤ 1099511627776) :
    Calls Try.prog 28 #[.pointer (some ⟨bd, 0, none⟩), .int .i64 lo, .int .i64 hi, .int .i64 v] w fun e w' => e = .returned (.int .i64 0) ∧ DSet w B bd sv size first (S ++ [(lo, hi, v)]) w' := by
  have c0 : w.cell? ⟨bd, 0, none⟩ = some (.bool true) := h.c 0
  have c1 : w.cell? ⟨bd, 1, none⟩ = some (.int .i64 size) := h.c 1
  have c3 : w.cell? ⟨bd, 3, none⟩ = some sv := h.c 3
  have f3 := h.fz 3
  obtain ⟨i0, hi0, hz0, hz1, hz2⟩ := info_parts infoEnt
  have HM : Hid (I.may size lo hi) := hm
  obtain ⟨m0, m1, m2⟩ := hm
  have hbB : B ≤ w.heap.size := Nat.le_trans h.base (Nat.le_of_lt h.ltm)
  obtain ⟨ao, cap, rfl⟩ := own_slice h.row
  have HD : Hid (DM w B bd (.slice ao S.length cap) size first S) := h
  clear h
  go_enter Try.func28, Try.ntmps28
  go_wp2_with (at_builtin; refine wpList_append_lies _ rfl (.tmp 33) (.tmp 38) TEnts rfl B TEnt i0 _ 3 24 Try.underlying38 hi0 hz0 hz1 hz2 rfl (by decide) _ _ _ rfl (HD.out.row.alloc _) ⟨w.heap.size, 0, none⟩ 1 1 [.int .i64 lo, .int .i64 hi, .int .i64 v] rfl rfl (newsE _ _ _ _) (by simp [Value.oneCell']) (by decide) (by unfold maxLen; omega) (by omega) (by simp; omega) _ rfl ?_; intro g' cap' wa hown hgrow hlies hlt'; have hnb : wa.heap[bd]? = w.heap[bd]? := (hgrow.block bd (by have := HD.out.ltm; simp; omega) (fun e => by obtain ⟨_, _, cs, h1⟩ := row_lt HD.out.row bd e.symm; rw [HD.out.blk] at h1; simp [TDM, TEnt] at h1)).trans (Below.heap_alloc _ _ _ HD.out.ltm); have q3 := (World.cell?_of_block (a := ⟨bd, 3, none⟩) hnb).trans c3; have q4 := (World.frozen?_of_block (a := ⟨bd, 3, none⟩) hnb).trans f3)
  go_ret
  have hk : KX (fun k => k = bd ∨ (Value.slice ao S.length cap).ownBlock = some k) w (wa.setCell ⟨bd, 3, none⟩ (.slice (some ⟨g', 0, none⟩) (S.length + 1) cap')) := by
    have h1 : KX (fun k => k = bd ∨ (Value.slice ao S.length cap).ownBlock = some k) w wa := ⟨hgrow.os, hgrow.tape, hgrow.output, by have := hgrow.size; simp at this; omega, fun k hlt hs => (hgrow.block k (by simp; omega) (fun e => hs (.inr e.symm))).trans (Below.heap_alloc _ _ _ hlt)⟩
    have h2 := kx_set wa bd 3 (.slice (some ⟨g', 0, none⟩) (S.length + 1) cap')
    exact h1.trans ⟨h2.os, h2.tape, h2.output, h2.size, fun k hlt hs => h2.block k hlt (fun e => hs (.inl e))⟩
  refine ⟨rfl, .slice (some ⟨g', 0, none⟩) (S.length + 1) cap', ⟨?_, ?_, HD.out.base, ?_⟩, hk, ?_⟩
  · exact blk_set (hnb.trans HD.out.blk) 3 _
  · rw [List.length_append, qcells_append]
    refine owns_same (by simpa [qcells, qcell] using hown) (fun g e => Below.heap_setCell _ _ _ _ (fun e2 => ?_))
    obtain ⟨_, _, cs, h1⟩ := row_lt hown g e
    have e3 : g = bd := e2
    rw [e3, hnb, HD.out.blk] at h1
    simp [TDM, TEnt] at h1
  · intro q hq
    rcases List.mem_append.1 hq with hq | hq
    · exact HD.out.may q hq
    · simp at hq; rw [hq]; exact HM.out
  · rcases hlies with h2 | h2
    · exact .inl (Eq.symm h2)
    · exact .inr (fun g e => by simp [Value.ownBlock] at e; rw [World.size_alloc] at h2; omega)
end Go.Proofs.Ytijafckdbhklmaa.I

namespace Go.Proofs.Ytijafckdbhklmaa.I
open Go.RowKit Go.Sort Go.Lib Go.Shelf Go.Proofs.Ytijafckdbhklmaa
attribute [local go_sem] Oper.semAt_some
set_option linter.unusedVariables false
set_option linter.unusedSimpArgs false
set_option maxRecDepth 100000

theorem qrow_cells {w : World} {B T : Nat} {ao : Option Addr} {cap : Nat} {S : List Put} (h : w.ownsRow B T 3 (.slice ao S.length cap) S.length (qcells S)) {k : Nat} {q : Put} (hk : S[k]? = some q) :
    ∃ g, ao = some ⟨g, 0, none⟩ ∧ w.cell? ⟨g, k * 3, none⟩ = some (.int .i64 q.1) ∧ w.cell? ⟨g, k * 3 + 1, none⟩ = some (.int .i64 q.2.1) ∧ w.cell? ⟨g, k * 3 + 2, none⟩ = some (.int .i64 q.2.2) := by
  have hlt := (List.getElem?_eq_some_iff.1 hk).1
  rcases h.2 with ⟨_, h0⟩ | ⟨g, cp, cur, hv, _⟩
  · omega
  · simp only [Value.slice.injEq] at hv
    obtain ⟨rfl, _, _⟩ := hv
    have c0 := h.cells (g := g) rfl _ _ ((qcells_get S k q hk 0 (by omega)).trans rfl)
    have c1 := h.cells (g := g) rfl _ _ ((qcells_get S k q hk 1 (by omega)).trans rfl)
    have c2 := h.cells (g := g) rfl _ _ ((qcells_get S k q hk 2 (by omega)).trans rfl)
    rw [WideShapes.add_plain, Nat.zero_add] at c0 c1 c2
    exact ⟨g, rfl, c0, c1, c2⟩
theorem dAt_out {w : World} {B bd : Nat} {sv : Value} {size first : Int} {S : List Put} (h : DM w B bd sv size first S) (i : Int) (ho : i < 0 ∨ size ≤ i) :
    Calls Try.prog 29 #[.pointer (some ⟨bd, 0, none⟩), .int .i64 i] w fun e w' => e = .returned (.tuple #[.int .i64 0, .bool false]) ∧ w' = w := by
  have c0 : w.cell? ⟨bd, 0, none⟩ = some (.bool true) := h.c 0
  have c1 : w.cell? ⟨bd, 1, none⟩ = some (.int .i64 size) := h.c 1
  clear h
  go_enter Try.func29, Try.ntmps29
  by_cases h0 : i < 0
  · clear ho
    go_wp2
    go_ret2
    exact ⟨rfl, rfl⟩
  · have h1 : size ≤ i := by omega
    clear ho
    go_wp2
    go_ret2
    exact ⟨rfl, rfl⟩
set_option maxHeartbeats 4000000 in
theorem dAt_in {w : World} {B bd : Nat} {sv : Value} {size first : Int} {S : List Put} (h : DM w B bd sv size first S) (i : Int) (h0 : 0 ≤ i) (h1 : i < size) (hl : S.length ≤ 1099511627776) :
    Calls Try.prog 29 #[.pointer (some ⟨bd, 0, none⟩), .int .i64 i] w fun e w' => e = .returned (.tuple #[.int .i64 (lastV size first S i), .bool true]) ∧ w' = w := by
  have c0 : w.cell? ⟨bd, 0, none⟩ = some (.bool true) := h.c 0
  have c1 : w.cell? ⟨bd, 1, none⟩ = some (.int .i64 size) := h.c 1
  have c2 : w.cell? ⟨bd, 2, none⟩ = some (.int .i64 first) := h.c 2
  have c3 : w.cell? ⟨bd, 3, none⟩ = some sv := h.c 3
  obtain ⟨ao, cap, rfl⟩ := own_slice h.row
  have HR : Hid (∀ k q, S[k]? = some q → ∃ g, ao = some ⟨g, 0, none⟩ ∧ w.cell? ⟨g, k * 3, none⟩ = some (.int .i64 q.1) ∧ w.cell? ⟨g, k * 3 + 1, none⟩ = some (.int .i64 q.2.1) ∧ w.cell? ⟨g, k * 3 + 2, none⟩ = some (.int .i64 q.2.2)) := fun k q hk => qrow_cells h.row hk
  have HMy : Hid (∀ q ∈ S, I.may size q.1 q.2.1) := h.may
  obtain ⟨n, hn⟩ : ∃ n, S.length = n := ⟨_, rfl⟩
  rw [hn] at c3 hl
  have HN : Hid (S.length = n) := hn
  obtain ⟨L, hL⟩ : ∃ L, L = lastV size first S i := ⟨_, rfl⟩
  rw [← hL]
  have HL0 : Hid (L = lastV size first (S.take n) i) := by show _ = _; rw [hL, List.take_of_length_le (by omega)]
  clear h hn hL
  have n0 : ¬ i < 0 := by omega
  have n1 : ¬ size ≤ i := by omega
  go_enter Try.func29, Try.ntmps29
  go_wp2
  go_loopw [6] (fun v wr => wr = w ∧ ∃ (m : Nat), m ≤ n ∧ v = .int .i64 ((m : Int) - 1) ∧ Hid (L = lastV size first (S.take m) i)) (fun v _ => (intOf v + 1).toNat)
  case atStart => exact ⟨rfl, n, Nat.le_refl _, by go_num, HL0⟩
  case round =>
    obtain ⟨rfl, m, hm, rfl, HLm⟩ := hrel
    by_cases hz : 1 ≤ m
    · obtain ⟨k, rfl⟩ : ∃ k, m = k + 1 := ⟨m - 1, by omega⟩
      obtain ⟨q, hq⟩ : ∃ q, S[k]? = some q := ⟨_, List.getElem?_eq_getElem (by have := HN.out; omega)⟩
      obtain ⟨g, rfl, d0, d1, d2⟩ := HR.out k q hq
      have hmy := HMy.out q (List.mem_of_getElem? hq)
      have HS : Hid (lastV size first (S.take (k + 1)) i = if I.may size q.1 q.2.1 ∧ q.1 ≤ i ∧ i < q.2.1 then q.2.2 else lastV size first (S.take k) i) := by
        show _ = _
        rw [List.take_add_one, hq, show (some q).toList = [q] from rfl, lastV_snoc]
      have HMq : Hid (I.may size q.1 q.2.1) := hmy
      have ek : ((k + 1 : Nat) : Int) - 1 = (k : Int) := by omega
      rw [ek]
      have hkn : (k : Int) < (n : Int) := by omega
      have hk0 : (0 : Int) ≤ (k : Int) := by omega
      clear hq hmy ek
      by_cases c1' : q.1 ≤ i
      · by_cases c2' : i < q.2.1
        · have HE : Hid (L = q.2.2) := by show _ = _; rw [HLm.out, HS.out, if_pos ⟨HMq.out, c1', c2'⟩]
          go_wp2
          go_ret2
          exact ⟨by rw [HE.out]; rfl, rfl⟩
        · have HE : Hid (L = lastV size first (S.take k) i) := by show _ = _; rw [HLm.out, HS.out, if_neg (fun h => c2' h.2.2)]
          go_wp2
          go_roundw
          case rel => exact ⟨by trivial, k, by omega, by go_num, HE⟩
          case measure => simp [intOf] <;> omega
      · have HE : Hid (L = lastV size first (S.take k) i) := by show _ = _; rw [HLm.out, HS.out, if_neg (fun h => c1' h.2.1)]
        go_wp2
        go_roundw
        case rel => exact ⟨by trivial, k, by omega, by go_num, HE⟩
        case measure => simp [intOf] <;> omega
    · have e : m = 0 := by omega
      subst e
      have HE : Hid (L = first) := HLm.out
      have hz0 : ¬ (0 : Int) ≤ ((0 : Nat) : Int) - 1 := by omega
      go_wp2
      go_ret2
      exact ⟨by rw [HE.out]; rfl, rfl⟩
end Go.Proofs.Ytijafckdbhklmaa.I

namespace Go.Proofs.Ytijafckdbhklmaa.I
open Go.RowKit Go.Sort Go.Lib Go.Shelf
attribute [local go_sem] Oper.semAt_some
set_option linter.unusedVariables false
set_option linter.unusedSimpArgs false
set_option maxRecDepth 100000

theorem infoI64 : (Try.prog.info? 2).map (fun i => (i.zero, i.size, i.bytes)) = some (some (.int .i64 0), 1, 8) := by kernel_rfl
/-- a rising list with one more number -/
def putL : List Int → Int → List Int
  | [], x => [x]
  | y :: t, x => if x ≤ y then (if x < y then x :: y :: t else y :: t) else y :: putL t x
theorem putL_length : ∀ (l : List Int) (x : Int), (putL l x).length ≤ l.length + 1
  | [], x => by simp [putL]
  | y :: t, x => by
    have := putL_length t x
    unfold putL
    split
    · split <;> simp
    · simp; omega
/-- a list of numbers in a value -/
def IL (w : World) (v : Value) (l : List Int) : Prop := ∃ ao cap, v = .slice ao l.length cap ∧ ∀ k x, l[k]? = some x → ∃ b off, ao = some ⟨b, off, none⟩ ∧ w.cell? ⟨b, off + k, none⟩ = some (.int .i64 x)
theorem IL.later {w w' : World} {v : Value} {l : List Int} (h : IL w v l) (hb : Below w.heap.size w w') : IL w' v l := by
  obtain ⟨ao, cap, e, h1⟩ := h
  exact ⟨ao, cap, e, fun k x hk => by obtain ⟨b, off, e2, h2⟩ := h1 k x hk; exact ⟨b, off, e2, cell_later hb h2⟩⟩
theorem il_row {w : World} {B : Nat} {v : Value} {L : List Int} (h : w.ownsRow B 2 1 v L.length (L.map (fun x => .int .i64 x))) : IL w v L := by
  rcases h.2 with ⟨hv, hn⟩ | ⟨g, cap, cur, hv, _⟩
  · exact ⟨none, 0, by rw [hn]; exact hv, fun k p hk => by have := (List.getElem?_eq_some_iff.1 hk).1; omega⟩
  · refine ⟨some ⟨g, 0, none⟩, cap, hv, fun k x hk => ⟨g, 0, rfl, ?_⟩⟩
    have c1 := h.cells (g := g) (by rw [hv]; rfl) k (.int .i64 x) (by rw [List.getElem?_map, hk]; rfl)
    rwa [WideShapes.add_plain] at c1
theorem il_nil (w : World) : IL w (.slice none 0 0) [] := ⟨none, 0, rfl, fun k x hk => by simp at hk⟩
theorem newsI (W : World) (y : Int) : ∀ j u, [Value.int .i64 y][j]? = some u → (W.alloc (.cells #[.int .i64 y] 2)).cell? ((⟨W.heap.size, 0, none⟩ : Addr).add j) = some u :=
  World.news_of_block (cs := #[.int .i64 y]) (t := 2) (fr := (0, 0)) (heap_alloc_new W _)
set_option maxHeartbeats 8000000 in
theorem put_any {w : World} {v1 : Value} {l : List Int} (h1 : IL w v1 l) (hl : l.length ≤ 1099511627776) (x : Int) :
    Calls Try.prog 43 #[v1, .int .i64 x] w fun e w' => ∃ v, e = .returned v ∧ IL w' v (putL l x) ∧ Below w.heap.size w w' := by
  obtain ⟨ao, ca, rfl, hA⟩ := h1
  obtain ⟨i0, hi, hz0, hz1, hz2⟩ := info_parts infoI64
  have HA : Hid (∀ k x, l[k]? = some x → ∃ b off, ao = some ⟨b, off, none⟩ ∧ w.cell? ⟨b, off + k, none⟩ = some (.int .i64 x)) := hA
  obtain ⟨n, hn⟩ : ∃ n, n = l.length := ⟨_, rfl⟩
  rw [← hn] at hl ⊢
  have HL : Hid (n = l.length) := hn
  clear hn hA
  go_enter Try.func43, Try.ntmps43
  go_wp2
  go_loopw [5, 6, 7] (fun o b i wr => ∃ (k : Nat) (O : List Int) (bb : Bool), k ≤ n ∧ i = .int .i64 k ∧ b = .bool bb ∧ O.length ≤ 2 * k ∧ Hid (wr.ownsRow w.heap.size 2 1 o O.length (O.map (fun x => .int .i64 x))) ∧ Hid (putL l x = O ++ (if bb then l.drop k else putL (l.drop k) x)) ∧ Hid (Below w.heap.size w wr)) (fun _ _ i _ => n - (intOf i).toNat)
  case atStart => exact ⟨0, [], false, Nat.zero_le _, rfl, rfl, by simp, World.ownsRow_nil _ _ _ _, by show _ = _; simp, Below.refl _ _⟩
  case round =>
    obtain ⟨k, O, bb, hk, rfl, rfl, hO, HO, HP, HBk⟩ := hrel
    have hbw := HBk.out.size
    by_cases hlt : k < n
    · obtain ⟨y, hy⟩ : ∃ y, l[k]? = some y := ⟨_, List.getElem?_eq_getElem (by have := HL.out; omega)⟩
      obtain ⟨b, off, rfl, d0⟩ := HA.out k y hy
      have c0 := cell_later HBk.out d0
      have hbl : b < w.heap.size := World.block_lt_of_cell? _ _ d0
      have hkz : (k : Int) < (n : Int) := by omega
      have HD : Hid (l.drop k = y :: l.drop (k + 1)) := by
        show _ = _
        rw [List.drop_eq_getElem_cons (by have := HL.out; omega)]
        have := List.getElem?_eq_some_iff.1 hy
        rw [this.2]
      have D0 : Hid (w.cell? ⟨b, off + k, none⟩ = some (.int .i64 y)) := d0
      clear d0 hy
      cases bb with
      | true =>
        simp only [if_true] at HP
        obtain ⟨ao2, cp, rfl⟩ := owns_form HO.out
        go_wp2_with (at_builtin; refine wpList_append_own _ rfl (.tmp 34) (.tmp 39) 79 rfl w.heap.size 2 i0 _ 1 8 Try.underlying79 hi hz0 hz1 hz2 rfl (by decide) _ (O).length ((O).map (fun x => .int .i64 x)) rfl ((HO.out).alloc _) ⟨wr.heap.size, 0, none⟩ 1 1 [.int .i64 y] rfl rfl (newsI wr y) (by simp [Value.oneCell']) (by first | (unfold maxLen; omega) | (simp; unfold maxLen; omega)) (by first | omega | (simp; omega)) (by first | (simp; omega) | omega) ?_; intro v1 w1 ho1 hg1 _)
        obtain ⟨ao3, cp3, rfl⟩ := owns_form ho1
        have H2 : Hid (w1.ownsRow w.heap.size 2 1 (.slice ao3 (O.length + 1) cp3) (O ++ [y]).length ((O ++ [y]).map (fun x => .int .i64 x))) := by
          show World.ownsRow _ _ _ _ _ _ _
          simpa using ho1
        have hb1 : Hid (Below w.heap.size w w1) := (HBk.out.alloc HBk.out.size _).grown hg1 (by simp; omega) (fun b' hb' => (HO.out.lt b' hb').1)
        clear ho1 hg1
        go_wp2
        go_roundw
        case rel => exact ⟨k + 1, O ++ [y], true, by omega, by go_num, rfl, by simp; omega, H2.out, by show _ = _; rw [HP.out, HD.out]; simp, hb1⟩
        case measure => simp [intOf]; omega
      | false =>
        simp only [Bool.false_eq_true, if_false] at HP
        by_cases g1 : x ≤ y
        · have d1 : decide (x ≤ y) = true := decide_eq_true g1
          by_cases g2 : x < y
          · have d2 : decide (x < y) = true := decide_eq_true g2
            have HD2 : Hid (putL (l.drop k) x = x :: y :: l.drop (k + 1)) := by show _ = _; rw [HD.out]; simp [putL, g1, g2]
            have K1 : True := trivial
            obtain ⟨ao2, cp, rfl⟩ := owns_form HO.out
            have HO2 : Hid (wr.ownsRow w.heap.size 2 1 (.slice ao2 O.length cp) O.length (O.map (fun x => .int .i64 x))) := HO.out
            go_wp2_with (first | (at_builtin; have hk := K1; clear hk K1; refine wpList_append_own _ rfl (.tmp 30) (.tmp 32) 79 rfl w.heap.size 2 i0 _ 1 8 Try.underlying79 hi hz0 hz1 hz2 rfl (by decide) _ (O).length ((O).map (fun x => .int .i64 x)) rfl ((HO.out).alloc _) ⟨wr.heap.size, 0, none⟩ 1 1 [.int .i64 x] rfl rfl (newsI wr x) (by simp [Value.oneCell']) (by first | (unfold maxLen; omega) | (simp; unfold maxLen; omega)) (by first | omega | (simp; omega)) (by first | (simp; omega) | omega) ?_; intro v1 w1 ho1 hg1 _; have h1s := hg1.size; have hb1 : Below w.heap.size w w1 := (HBk.out.alloc HBk.out.size _).grown hg1 (by simp; omega) (fun q hq => (HO2.out.lt q hq).1); have hbz := hb1.size; have c1 := cell_later hb1 D0.out; clear hg1; have ho2 : w1.ownsRow w.heap.size 2 1 v1 (O ++ [x]).length ((O ++ [x]).map (fun x => .int .i64 x)) := (by simpa using ho1)) | (at_builtin; refine wpList_append_own _ rfl (.tmp 34) (.tmp 39) 79 rfl w.heap.size 2 i0 _ 1 8 Try.underlying79 hi hz0 hz1 hz2 rfl (by decide) _ (O ++ [x]).length ((O ++ [x]).map (fun x => .int .i64 x)) rfl ((ho2).alloc _) ⟨w1.heap.size, 0, none⟩ 1 1 [.int .i64 y] rfl rfl (newsI w1 y) (by simp [Value.oneCell']) (by first | (unfold maxLen; omega) | (simp; unfold maxLen; omega)) (by first | omega | (simp; omega)) (by first | (simp; omega) | omega) ?_; intro v2 w2 ho3 hg2 _))
            obtain ⟨ao3, cp3, rfl⟩ := owns_form ho3
            have H2 : Hid (w2.ownsRow w.heap.size 2 1 (.slice ao3 ((O ++ [x]).length + 1) cp3) (O ++ [x] ++ [y]).length ((O ++ [x] ++ [y]).map (fun x => .int .i64 x))) := by
              show World.ownsRow _ _ _ _ _ _ _
              simpa using ho3
            have hb2 : Hid (Below w.heap.size w w2) := (hb1.alloc hb1.size _).grown hg2 (by simp; omega) (fun b' hb' => (ho2.lt b' hb').1)
            clear ho1 ho2 ho3 hg2 hb1
            go_wp2
            go_roundw
            case rel => exact ⟨k + 1, O ++ [x] ++ [y], true, by omega, by go_num, rfl, by simp; omega, H2.out, by show _ = _; rw [HP.out, HD2.out]; simp, hb2⟩
            case measure => simp [intOf]; omega
          · have d2 : decide (x < y) = false := decide_eq_false g2
            have HD2 : Hid (putL (l.drop k) x = y :: l.drop (k + 1)) := by show _ = _; rw [HD.out]; simp [putL, g1, g2]
            obtain ⟨ao2, cp, rfl⟩ := owns_form HO.out
            go_wp2_with (at_builtin; refine wpList_append_own _ rfl (.tmp 34) (.tmp 39) 79 rfl w.heap.size 2 i0 _ 1 8 Try.underlying79 hi hz0 hz1 hz2 rfl (by decide) _ (O).length ((O).map (fun x => .int .i64 x)) rfl ((HO.out).alloc _) ⟨wr.heap.size, 0, none⟩ 1 1 [.int .i64 y] rfl rfl (newsI wr y) (by simp [Value.oneCell']) (by first | (unfold maxLen; omega) | (simp; unfold maxLen; omega)) (by first | omega | (simp; omega)) (by first | (simp; omega) | omega) ?_; intro v1 w1 ho1 hg1 _)
            obtain ⟨ao3, cp3, rfl⟩ := owns_form ho1
            have H2 : Hid (w1.ownsRow w.heap.size 2 1 (.slice ao3 (O.length + 1) cp3) (O ++ [y]).length ((O ++ [y]).map (fun x => .int .i64 x))) := by
              show World.ownsRow _ _ _ _ _ _ _
              simpa using ho1
            have hb1 : Hid (Below w.heap.size w w1) := (HBk.out.alloc HBk.out.size _).grown hg1 (by simp; omega) (fun b' hb' => (HO.out.lt b' hb').1)
            clear ho1 hg1
            go_wp2
            go_roundw
            case rel => exact ⟨k + 1, O ++ [y], true, by omega, by go_num, rfl, by simp; omega, H2.out, by show _ = _; rw [HP.out, HD2.out]; simp, hb1⟩
            case measure => simp [intOf]; omega
        · have d1 : decide (x ≤ y) = false := decide_eq_false g1
          have HD2 : Hid (putL (l.drop k) x = y :: putL (l.drop (k + 1)) x) := by show _ = _; rw [HD.out]; simp [putL, g1]
          obtain ⟨ao2, cp, rfl⟩ := owns_form HO.out
          go_wp2_with (at_builtin; refine wpList_append_own _ rfl (.tmp 34) (.tmp 39) 79 rfl w.heap.size 2 i0 _ 1 8 Try.underlying79 hi hz0 hz1 hz2 rfl (by decide) _ (O).length ((O).map (fun x => .int .i64 x)) rfl ((HO.out).alloc _) ⟨wr.heap.size, 0, none⟩ 1 1 [.int .i64 y] rfl rfl (newsI wr y) (by simp [Value.oneCell']) (by first | (unfold maxLen; omega) | (simp; unfold maxLen; omega)) (by first | omega | (simp; omega)) (by first | (simp; omega) | omega) ?_; intro v1 w1 ho1 hg1 _)
          obtain ⟨ao3, cp3, rfl⟩ := owns_form ho1
          have H2 : Hid (w1.ownsRow w.heap.size 2 1 (.slice ao3 (O.length + 1) cp3) (O ++ [y]).length ((O ++ [y]).map (fun x => .int .i64 x))) := by
            show World.ownsRow _ _ _ _ _ _ _
            simpa using ho1
          have hb1 : Hid (Below w.heap.size w w1) := (HBk.out.alloc HBk.out.size _).grown hg1 (by simp; omega) (fun b' hb' => (HO.out.lt b' hb').1)
          clear ho1 hg1
          go_wp2
          go_roundw
          case rel => exact ⟨k + 1, O ++ [y], false, by omega, by go_num, rfl, by simp; omega, H2.out, by show _ = _; rw [HP.out, HD2.out]; simp, hb1⟩
          case measure => simp [intOf]; omega
    · have e : k = n := by omega
      subst e
      have HDn : Hid (l.drop k = []) := by show _ = _; rw [HL.out]; simp
      rw [HDn.out] at HP
      obtain ⟨ao2, cp, rfl⟩ := owns_form HO.out
      cases bb with
      | true =>
        simp only [if_true, List.append_nil] at HP
        go_wp2
        go_ret
        exact ⟨_, rfl, by rw [HP.out]; exact il_row HO.out, HBk.out⟩
      | false =>
        simp only [Bool.false_eq_true, if_false, putL] at HP
        go_wp2_with (at_builtin; refine wpList_append_own _ rfl (.tmp 43) (.tmp 45) 79 rfl w.heap.size 2 i0 _ 1 8 Try.underlying79 hi hz0 hz1 hz2 rfl (by decide) _ (O).length ((O).map (fun x => .int .i64 x)) rfl ((HO.out).alloc _) ⟨wr.heap.size, 0, none⟩ 1 1 [.int .i64 x] rfl rfl (newsI wr x) (by simp [Value.oneCell']) (by first | (unfold maxLen; omega) | (simp; unfold maxLen; omega)) (by first | omega | (simp; omega)) (by first | (simp; omega) | omega) ?_; intro v1 w1 ho1 hg1 _)
        have hb1 : Hid (Below w.heap.size w w1) := (HBk.out.alloc HBk.out.size _).grown hg1 (by simp; omega) (fun b' hb' => (HO.out.lt b' hb').1)
        have H2 : Hid (IL w1 v1 (putL l x)) := by
          show IL _ _ _
          rw [HP.out]
          exact il_row (B := w.heap.size) (by simpa using ho1)
        clear ho1 hg1
        go_wp2
        go_ret
        exact ⟨_, rfl, H2.out, hb1.out⟩
end Go.Proofs.Ytijafckdbhklmaa.I
