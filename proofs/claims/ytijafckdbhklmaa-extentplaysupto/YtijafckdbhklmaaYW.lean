import Derived.Test.YtijafckdbhklmaaYT
import Derived.Test.YtijafckdbhklmaaXRm
import Derived.Test.YtijafckdbhklmaaXO
import Derived.BigFrame
import Derived.BigGuard
namespace Go.Proofs.Ytijafckdbhklmaa.I
open Go.RowKit Go.Sort Go.Lib Go.Shelf Classical
attribute [local go_sem] Oper.semAt_some
set_option linter.unusedVariables false
set_option linter.unusedSimpArgs false
set_option maxRecDepth 100000

theorem MO.own_run {w : World} {B bm : Nat} {v : Value} {size : Int} {rs : List (Rn Int)} (h : MO w B bm v size rs) {g : Nat} (hg : v.ownBlock = some g) : ∃ cur fr, w.heap[g]? = some (.cells cur TRun fr) := by
  rcases h.row.2 with ⟨hv, _⟩ | ⟨g', cap, cur, hv, _, hc, _⟩
  · rw [hv] at hg; cases hg
  · rw [hv] at hg
    simp only [Value.ownBlock, Option.some.injEq] at hg
    subst hg
    exact ⟨cur, _, hc⟩
theorem MO.not_own {w : World} {B bm B' bm' : Nat} {v v' : Value} {size size' : Int} {rs rs' : List (Rn Int)} (h : MO w B bm v size rs) (h' : MO w B' bm' v' size' rs') : v.ownBlock ≠ some bm' := fun e => by
  obtain ⟨cur, fr, hc⟩ := h.own_run e
  have := h'.blk.symm.trans hc
  simp [TMap, TRun] at this
/-- two maps that share nothing, and nothing of what was before -/
structure Two (w0 w : World) (Ba ba : Nat) (va : Value) (Bb bb : Nat) (vb : Value) (size : Int) (ra rb : List (Rn Int)) : Prop where
  a : MO w Ba ba va size ra
  b : MO w Bb bb vb size rb
  ne : ba ≠ bb
  sep : ∀ g, va.ownBlock = some g → vb.ownBlock ≠ some g
  bel : Below w0.heap.size w0 w
  la : w0.heap.size ≤ Ba
  lb : w0.heap.size ≤ Bb
theorem Two.swap {w0 w : World} {Ba ba Bb bb : Nat} {va vb : Value} {size : Int} {ra rb : List (Rn Int)} (h : Two w0 w Ba ba va Bb bb vb size ra rb) : Two w0 w Bb bb vb Ba ba va size rb ra :=
  ⟨h.b, h.a, fun e => h.ne e.symm, fun g hg e => h.sep g e hg, h.bel, h.lb, h.la⟩
theorem Two.later {w0 w w' : World} {Ba ba Bb bb : Nat} {va vb : Value} {size : Int} {ra rb : List (Rn Int)} (h : Two w0 w Ba ba va Bb bb vb size ra rb) (hb : Below w.heap.size w w') : Two w0 w' Ba ba va Bb bb vb size ra rb :=
  ⟨h.a.later hb, h.b.later hb, h.ne, h.sep, h.bel.trans (hb.mono h.bel.size), h.la, h.lb⟩
theorem Two.set {w0 w w' : World} {Ba ba Bb bb : Nat} {va vb va' : Value} {size : Int} {ra rb ra' : List (Rn Int)} (h : Two w0 w Ba ba va Bb bb vb size ra rb) (hm : MO w' Ba ba va' size ra') (hk : KeptM w w' ba va va') : Two w0 w' Ba ba va' Bb bb vb size ra' rb := by
  refine ⟨hm, h.b.same (hk.block bb h.b.ltm (fun e => h.ne e.symm) (h.a.not_own h.b)) (fun g hg => hk.block g (h.b.row.lt g hg).2 (fun e => h.b.not_own h.a (by rw [hg, e])) (fun e => h.sep g e hg)), h.ne, ?_, below_kept h.bel hk h.bel.size (Nat.le_trans h.la h.a.base) (fun g hg => Nat.le_trans h.la (h.a.row.lt g hg).1), h.la, h.lb⟩
  intro g hg hb
  rcases hk.fresh with e | e
  · exact h.sep g (e.symm.trans hg) hb
  · have h1 := e g hg
    have h2 := (h.b.row.lt g hb).2
    omega
theorem Two.new {w0 w1 w2 : World} {Ba ba bb : Nat} {va vb : Value} {size : Int} {ra rb : List (Rn Int)} (ha : MO w1 Ba ba va size ra) (hb : MO w2 w1.heap.size bb vb size rb) (h01 : Below w0.heap.size w0 w1) (h12 : Below w1.heap.size w1 w2) (hl : w0.heap.size ≤ Ba) : Two w0 w2 Ba ba va w1.heap.size bb vb size ra rb :=
  ⟨ha.later h12, hb, fun e => by have := ha.ltm; have := hb.base; omega, fun g h1 h2 => by have := (ha.row.lt g h1).2; have := (hb.row.lt g h2).1; omega, h01.trans (h12.mono h01.size), hl, h01.size⟩
theorem Two.setA {w0 w : World} {Ba ba Bb bb : Nat} {va vb : Value} {size : Int} {ra rb : List (Rn Int)} (h : Two w0 w Ba ba va Bb bb vb size ra rb) (lo hi x : Int) :
    Calls Try.prog 24 #[.pointer (some ⟨ba, 0, none⟩), .int .i64 lo, .int .i64 hi, .int .i64 x] w fun e w' => e = .returned (.int .i64 (setE size lo hi)) ∧ ∃ v', Two w0 w' Ba ba v' Bb bb vb size (setR size ra lo hi x) rb :=
  (set_any h.a lo hi x).mono fun e w' ⟨he, v', hm, hk⟩ => ⟨he, v', h.set hm hk⟩
theorem Two.setB {w0 w : World} {Ba ba Bb bb : Nat} {va vb : Value} {size : Int} {ra rb : List (Rn Int)} (h : Two w0 w Ba ba va Bb bb vb size ra rb) (lo hi x : Int) :
    Calls Try.prog 24 #[.pointer (some ⟨bb, 0, none⟩), .int .i64 lo, .int .i64 hi, .int .i64 x] w fun e w' => e = .returned (.int .i64 (setE size lo hi)) ∧ ∃ v', Two w0 w' Ba ba va Bb bb v' size ra (setR size rb lo hi x) :=
  (h.swap.setA lo hi x).mono fun e w' ⟨he, v', h'⟩ => ⟨he, v', h'.swap⟩
theorem Two.same {w0 w : World} {Ba ba Bb bb : Nat} {va vb : Value} {size : Int} {ra rb : List (Rn Int)} (h : Two w0 w Ba ba va Bb bb vb size ra rb) :
    Calls Try.prog 25 #[.pointer (some ⟨ba, 0, none⟩), .pointer (some ⟨bb, 0, none⟩)] w fun e w' => e = .returned (.bool (decide (ra = rb))) ∧ Two w0 w' Ba ba va Bb bb vb size ra rb :=
  (same_any h.a h.b).mono fun e w' ⟨he, hb⟩ => ⟨he, h.later hb⟩
theorem count_len {w : World} {B bm : Nat} {v : Value} {size : Int} {rs : List (Rn Int)} (h : MO w B bm v size rs) :
    Calls Try.prog 13 #[.pointer (some ⟨bm, 0, none⟩)] w fun e w' => e = .returned (.int .i64 rs.length) ∧ w' = w := by
  rcases h.row.2 with ⟨rfl, hn⟩ | ⟨g, cap, cur, rfl, _⟩
  · rw [hn]; exact count_any h
  · exact count_any h
theorem at_val {w : World} {B bm : Nat} {v : Value} {size : Int} {rs : List (Rn Int)} (h : MO w B bm v size rs) (i u : Int) (hu : Has rs i u) :
    Calls Try.prog 23 #[.pointer (some ⟨bm, 0, none⟩), .int .i64 i] w fun e w' => e = .returned (.tuple #[.int .i64 u, .bool true]) ∧ Below w.heap.size w w' := by
  obtain ⟨h0, h1⟩ := h.tiles.inside hu
  obtain ⟨g, cap, rfl, _, _, _, hrm⟩ := h.rm (by omega)
  obtain ⟨A, x, B', e1, l1, x1, x2, x3, x4⟩ := find_split hrm.tiles (i := i) h0 h1
  have hx : x.v = u := hrm.tiles.one (by rw [e1]; exact has_append.2 (.inr (has_cons.2 (.inl ⟨x1, x2, rfl⟩)))) hu
  rw [← hx]
  exact at_any hrm i h0 h1 x (split_some e1 l1).1
theorem at_some {w : World} {B bm : Nat} {v : Value} {size : Int} {rs : List (Rn Int)} (h : MO w B bm v size rs) (i : Int) :
    Calls Try.prog 23 #[.pointer (some ⟨bm, 0, none⟩), .int .i64 i] w fun e w' => ∃ u ok, e = .returned (.tuple #[.int .i64 u, .bool ok]) ∧ Below w.heap.size w w' := by
  by_cases hi : 0 ≤ i ∧ i < size
  · obtain ⟨u, hu⟩ := h.tiles.covers hi.1 hi.2
    exact (at_val h i u hu).mono fun e w' ⟨he, hb⟩ => ⟨u, true, he, hb⟩
  · exact (at_out h i (by omega)).mono fun e w' ⟨he, hb⟩ => ⟨0, false, he, by rw [hb]; exact Below.refl _ _⟩
/-- a range at one time or in two parts -/
theorem cut_eq {size : Int} {rs : List (Rn Int)} (ht : Tiles 0 size rs) (ha : Alt rs) {lo mid hi : Int} (v : Int) (h0 : 0 ≤ lo) (h1 : lo ≤ mid) (h2 : mid ≤ hi) (h3 : hi ≤ size) : setR size rs lo hi v = setR size (setR size rs mid hi v) lo mid v := by
  obtain ⟨t1, a1, e1⟩ := setR_spec ht ha lo hi v
  obtain ⟨t2, a2, e2⟩ := setR_spec ht ha mid hi v
  obtain ⟨t3, a3, e3⟩ := setR_spec t2 a2 lo mid v
  refine runs_unique t1 a1 t3 a3 (fun i u => ?_)
  rw [e1, e3, e2]
  by_cases k1 : lo ≤ i ∧ i < mid
  · rw [if_pos (by omega), if_pos (by omega)]
  · rw [if_neg (c := (0 ≤ lo ∧ lo ≤ mid ∧ mid ≤ size) ∧ lo ≤ i ∧ i < mid) (by omega)]
    by_cases k2 : mid ≤ i ∧ i < hi
    · rw [if_pos (by omega), if_pos (by omega)]
    · rw [if_neg (by omega), if_neg (by omega)]
theorem cut_again {size : Int} {rs : List (Rn Int)} (ht : Tiles 0 size rs) (ha : Alt rs) {lo mid hi : Int} (v : Int) (h0 : 0 ≤ lo) (h1 : lo ≤ mid) (h2 : mid ≤ hi) (h3 : hi ≤ size) : setR size (setR size rs lo hi v) mid hi v = setR size rs lo hi v := by
  obtain ⟨t1, a1, e1⟩ := setR_spec ht ha lo hi v
  obtain ⟨t3, a3, e3⟩ := setR_spec t1 a1 mid hi v
  refine runs_unique t3 a3 t1 a1 (fun i u => ?_)
  rw [e3, e1]
  by_cases k1 : mid ≤ i ∧ i < hi
  · rw [if_pos (by omega), if_pos (by omega)]
  · rw [if_neg (c := (0 ≤ mid ∧ mid ≤ hi ∧ hi ≤ size) ∧ mid ≤ i ∧ i < hi) (by omega)]
theorem setE_ok {size lo hi : Int} (h0 : 0 ≤ lo) (h1 : lo ≤ hi) (h2 : hi ≤ size) : setE size lo hi = 0 := by unfold setE; rw [if_pos ⟨h0, h1, h2⟩]
theorem setR_at {size : Int} {rs : List (Rn Int)} (ht : Tiles 0 size rs) (ha : Alt rs) {lo hi : Int} (v : Int) (h0 : 0 ≤ lo) (h1 : lo < hi) (h2 : hi ≤ size) : Has (setR size rs lo hi v) lo v := by
  rw [(setR_spec ht ha lo hi v).2.2, if_pos (by omega)]
end Go.Proofs.Ytijafckdbhklmaa.I
