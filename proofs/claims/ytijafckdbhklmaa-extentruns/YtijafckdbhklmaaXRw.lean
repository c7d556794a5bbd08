import Derived.Test.YtijafckdbhklmaaXRq
import Derived.Sort.QuietIn
import Derived.BigFrameIn
import Derived.BigGuardIn
namespace Go.Proofs.Ytijafckdbhklmaa.I
open Go.RowKit Go.Sort Go.Lib Go.Shelf
attribute [local go_sem] Oper.semAt_some
set_option linter.unusedVariables false
set_option linter.unusedSimpArgs false
set_option maxRecDepth 100000

theorem drewN_drew {W X : World} (h : ∃ q, X = W.drewN q) : ∃ q, X.drew = W.drewN q := by
  obtain ⟨q, rfl⟩ := h
  exact ⟨q + 1, rfl⟩
theorem keepsO_drewN (W : World) (q : Nat) : KeepsOthers W (W.drewN q) := ⟨Nat.le_refl _, fun _ _ h _ => h⟩

set_option maxHeartbeats 4000000 in
theorem lawRuns_bad (size first place : Int) (ao : Option Addr) (n cap : Nat) (w : World) (h : size < 0 ∨ 1099511627776 < size) : Calls Try.prog 4 #[.int .i64 size, .int .i64 first, .slice ao n cap, .int .i64 place] w fun e w' => e = .returned (.bool true) ∧ Below w.heap.size w w' := by
  have qn : ∀ (w : World), (binOp .eql 26 (.pointer none) (.pointer none)).run Try.prog w = .ok (.bool true) w := fun _ => rfl
  refine (callsIn_wide (n := 4)).1 ?_
  have f0 : Fence.wide.fn 4 := trivial
  have f1 : Fence.wide.fn 19 := trivial
  have f2 : Fence.wide.fn 20 := trivial
  have f11 : Fence.wide.fn 18 := trivial
  have HS : Hid (∀ W, Calls Try.prog 20 #[.int .i64 size] W fun e w' => e = .returned (.bool false) ∧ w' = W) := fun W => sized_no size W h
  have HL : Hid (∀ W, Calls Try.prog 19 #[.int .i64 size, .int .i64 first, .slice ao n cap] W fun e w' => e = .returned (.pointer none) ∧ w' = W) := fun W => laid_bad size first _ W h
  have HB := boxes4 w size first (.slice ao n cap)
  have HX : Hid (∀ W, Below ((((w.alloc (.cells #[.int .i64 size] 2)).alloc (.cells #[.int .i64 first] 3)).alloc (.cells #[.slice ao n cap] 51)).alloc (.cells #[.bool false] 4)).heap.size ((((w.alloc (.cells #[.int .i64 size] 2)).alloc (.cells #[.int .i64 first] 3)).alloc (.cells #[.slice ao n cap] 51)).alloc (.cells #[.bool false] 4)) W → Boxed W (w.heap.size + 1 + 1 + 1) 4 (.bool false) ∧ Below w.heap.size w W) := fun W hW => ⟨boxed_later HB.2.2.2.1 hW, HB.2.2.2.2.1.trans (hW.mono HB.2.2.2.2.1.size)⟩
  clear h HB
  refine callsIn_of_wp_marks Try.func4 rfl f0 ?_ rfl
  simp only [Try.ntmps4, List.size_toArray, List.length_cons, List.length_nil, Nat.reduceAdd, Nat.reduceSub, Array.replicate_succ, Array.replicate_zero, List.push_toArray, List.append_toArray, List.nil_append, List.cons_append]
  gi_big_wp2_with (first | (gi_at_call 19; refine (callsIn_wide.2 (HL.out _)).mono ?_; rintro e w9 ⟨rfl, hw9⟩; rw [hw9]; clear hw9) | (gi_at_call 20; refine (callsIn_wide.2 (HS.out _)).mono ?_; rintro e w9 ⟨rfl, hw9⟩; rw [hw9]; clear hw9) | (gi_at_call 18; refine (callsIn_wide.2 (alive_any _)).mono ?_; rintro e w9 ⟨rfl, hb⟩; have hx := HX.out _ hb; have hxc := hx.1.cell; have hxf := hx.1.frozen; clear hb))
  exact ⟨_, res_bool rfl (hx.1.set _), rfl, hx.2.grown (grownBy_setCell' _ _ _) (by have := hx.2.size; omega) (fun k e => by cases e; omega)⟩

set_option maxHeartbeats 8000000 in
theorem lawRuns_good (size first place : Int) (ao : Option Addr) (n cap : Nat) (l : List Put) (w : World) (HLen : Hid (n = l.length)) (hn : n ≤ 9223372036854775807) (HR : Hid (Puts w ao l)) (h0 : 0 ≤ size) (h1 : size ≤ 1099511627776) :
    Calls Try.prog 4 #[.int .i64 size, .int .i64 first, .slice ao n cap, .int .i64 place] w fun e w' => e = .returned (.bool true) ∧ Below w.heap.size w w' := by
  have qp : ∀ (w : World) (a : Addr), (binOp .eql 26 (.pointer (some a)) (.pointer none)).run Try.prog w = .ok (.bool false) w := fun _ _ => rfl
  have qs : ∀ (w : World) (f : Fn) (a b : Array Value), (binOp .eql 55 (.func f a b) .nilFunc).run Try.prog w = .ok (.bool false) w := fun _ _ _ _ => rfl
  refine (callsIn_wide (n := 4)).1 ?_
  have f0 : Fence.wide.fn 4 := trivial
  have f1 : Fence.wide.fn 19 := trivial
  have f2 : Fence.wide.fn 20 := trivial
  have f3 : Fence.wide.fn 21 := trivial
  have f4 : Fence.wide.fn 36 := trivial
  have f5 : Fence.wide.fn 23 := trivial
  have f6 : Fence.wide.fn 13 := trivial
  have f7 : Fence.wide.fn 12 := trivial
  have f8 : Fence.wide.fn 22 := trivial
  have f11 : Fence.wide.fn 18 := trivial
  have HS : Hid (∀ W, Calls Try.prog 20 #[.int .i64 size] W fun e w' => e = .returned (.bool true) ∧ w' = W) := fun W => sized_yes size W h0 h1
  obtain ⟨W4, hW4⟩ : ∃ W4, W4 = (((w.alloc (.cells #[.int .i64 size] 2)).alloc (.cells #[.int .i64 first] 3)).alloc (.cells #[.slice ao n cap] 51)).alloc (.cells #[.bool false] 4) := ⟨_, rfl⟩
  have HB := boxes4 w size first (.slice ao n cap)
  simp only [← hW4] at HB
  obtain ⟨b0, b1, b2, b3, hB4, hs4⟩ := HB
  have HLd : Hid (Calls Try.prog 19 #[.int .i64 size, .int .i64 first, .slice ao n cap] W4 fun e w' => ∃ bm v, e = .returned (.pointer (some ⟨bm, 0, none⟩)) ∧ MO w' W4.heap.size bm v size (runsL size first l) ∧ Below W4.heap.size W4 w') := laid_any size first ao n cap l W4 HLen hn (HR.out.later hB4) h0 h1
  have HBX : Hid (Boxed W4 w.heap.size 2 (.int .i64 size) ∧ Boxed W4 (w.heap.size + 1) 3 (.int .i64 first) ∧ Boxed W4 (w.heap.size + 1 + 1) 51 (.slice ao n cap) ∧ Boxed W4 (w.heap.size + 1 + 1 + 1) 4 (.bool false) ∧ Below w.heap.size w W4 ∧ W4.heap.size = w.heap.size + 1 + 1 + 1 + 1) := ⟨b0, b1, b2, b3, hB4, hs4⟩
  have HC : Hid (∀ w1, Below W4.heap.size W4 w1 → w1.cell? ⟨w.heap.size, 0, none⟩ = some (.int .i64 size) ∧ (((w1.alloc (.cells #[.int .i64 0] 2)).alloc (.cells #[.int .i64 0] 3)).alloc (.cells #[.int .i64 0] 3)).cell? ⟨w.heap.size, 0, none⟩ = some (.int .i64 size)) := fun w1 hb => by
    have hx := boxed_later HBX.out.1 hb
    exact ⟨hx.cell, (((hx.alloc _).alloc _).alloc _).cell⟩
  clear b0 b1 b2 b3 hB4 hs4
  refine callsIn_of_wp_marks Try.func4 rfl f0 ?_ rfl
  simp only [Try.ntmps4, List.size_toArray, List.length_cons, List.length_nil, Nat.reduceAdd, Nat.reduceSub, Array.replicate_succ, Array.replicate_zero, List.push_toArray, List.append_toArray, List.nil_append, List.cons_append]
  gi_big_wp2_with (first | (gi_at_call 19; rw [← hW4]; refine (callsIn_wide.2 HLd.out).mono ?_; rintro e w1 ⟨bm, v, rfl, hMO, hb1⟩; have hc1 := HC.out _ hb1; have hc10 := hc1.1; have hc11 := hc1.2; clear hc1) | (gi_at_call 20; refine (callsIn_wide.2 (HS.out _)).mono ?_; rintro e w9 ⟨rfl, hw9⟩; rw [hw9]; clear hw9) | (gi_at_call 21; refine (callsIn_wide.2 (runs_any _ _ _ _)).mono ?_; rintro e w' ⟨rfl, rfl⟩))
  obtain ⟨W0, hW0⟩ : ∃ W0, W0 = ((((((w1.alloc (.cells #[.int .i64 0] 2)).alloc (.cells #[.int .i64 0] 3)).alloc (.cells #[.int .i64 0] 3)).alloc (.cells #[.pointer (some ⟨bm, 0, none⟩)] 26)).alloc (.cells #[.int .i64 0] 2)).alloc (.cells #[.int .i64 size] 2)) := ⟨_, rfl⟩
  have hB0 : Below w1.heap.size w1 W0 := by rw [hW0]; exact ((((((Below.refl _ w1).alloc (Nat.le_refl _) _).alloc (by simp) _).alloc (by simp; omega) _).alloc (by simp; omega) _).alloc (by simp; omega) _).alloc (by simp; omega) _
  have hs0 : W0.heap.size = w1.heap.size + 6 := by rw [hW0]; simp
  have a0 : Boxed W0 w1.heap.size 2 (.int .i64 0) := by
    have := Boxed.new w1 2 (.int .i64 0)
    rw [hW0]; exact ((((this.alloc _).alloc _).alloc _).alloc _).alloc _
  have a1 : Boxed W0 (w1.heap.size + 1) 3 (.int .i64 0) := by
    have := Boxed.new (w1.alloc (.cells #[.int .i64 0] 2)) 3 (.int .i64 0)
    simp only [World.size_alloc] at this
    rw [hW0]; exact (((this.alloc _).alloc _).alloc _).alloc _
  have a2 : Boxed W0 (w1.heap.size + 1 + 1) 3 (.int .i64 0) := by
    have := Boxed.new ((w1.alloc (.cells #[.int .i64 0] 2)).alloc (.cells #[.int .i64 0] 3)) 3 (.int .i64 0)
    simp only [World.size_alloc] at this
    rw [hW0]; exact ((this.alloc _).alloc _).alloc _
  have bx1 : W0.cell? ⟨w1.heap.size + 1 + 1 + 1, 0, none⟩ = some (.pointer (some ⟨bm, 0, none⟩)) := by
    have := Boxed.new (((w1.alloc (.cells #[.int .i64 0] 2)).alloc (.cells #[.int .i64 0] 3)).alloc (.cells #[.int .i64 0] 3)) 26 (.pointer (some ⟨bm, 0, none⟩))
    simp only [World.size_alloc] at this
    rw [hW0]; exact ((this.alloc _).alloc _).cell
  have bx2 : W0.cell? ⟨w1.heap.size + 1 + 1 + 1 + 1, 0, none⟩ = some (.int .i64 0) := by
    have := Boxed.new ((((w1.alloc (.cells #[.int .i64 0] 2)).alloc (.cells #[.int .i64 0] 3)).alloc (.cells #[.int .i64 0] 3)).alloc (.cells #[.pointer (some ⟨bm, 0, none⟩)] 26)) 2 (.int .i64 0)
    simp only [World.size_alloc] at this
    rw [hW0]; exact (this.alloc _).cell
  have bx3 : W0.cell? ⟨w1.heap.size + 1 + 1 + 1 + 2, 0, none⟩ = some (.int .i64 size) := by
    have := Boxed.new (((((w1.alloc (.cells #[.int .i64 0] 2)).alloc (.cells #[.int .i64 0] 3)).alloc (.cells #[.int .i64 0] 3)).alloc (.cells #[.pointer (some ⟨bm, 0, none⟩)] 26)).alloc (.cells #[.int .i64 0] 2)) 2 (.int .i64 size)
    simp only [World.size_alloc] at this
    rw [hW0]; exact this.cell
  have hseq := runs1_map 3 (by omega) (hMO.later hB0) bx1 bx2 bx3
  have hlen : (runsL size first l).length ≤ 1099511627776 := hMO.len
  have HPut : Hid (∀ W, Below w1.heap.size w1 W → Puts W ao l) := fun W hW => (HR.out.later (HBX.out.2.2.2.2.1.trans (hb1.mono HBX.out.2.2.2.2.1.size))).later (hW.mono (by
    have := HBX.out.2.2.2.2.1.size; have := hb1.size; omega))
  have HXB : Hid (∀ W, Below w1.heap.size w1 W → Boxed W w.heap.size 2 (.int .i64 size) ∧ Boxed W (w.heap.size + 1) 3 (.int .i64 first) ∧ Boxed W (w.heap.size + 1 + 1) 51 (.slice ao n cap) ∧ Boxed W (w.heap.size + 1 + 1 + 1) 4 (.bool false)) := fun W hW =>
    ⟨boxed_later (boxed_later HBX.out.1 hb1) hW, boxed_later (boxed_later HBX.out.2.1 hb1) hW, boxed_later (boxed_later HBX.out.2.2.1 hb1) hW, boxed_later (boxed_later HBX.out.2.2.2.1 hb1) hW⟩
  have hsw : w.heap.size + 1 + 1 + 1 + 1 ≤ w1.heap.size := by have := HBX.out.2.2.2.2.2; have := hb1.size; omega
  have HBw : Hid (∀ W, Below w1.heap.size w1 W → Below w.heap.size w W) := fun W hW => (HBX.out.2.2.2.2.1.trans (hb1.mono HBX.out.2.2.2.2.1.size)).trans (hW.mono (by omega))
  rw [← hW0]
  have HMO : Hid (MO w1 W4.heap.size bm v size (runsL size first l)) := hMO
  clear bx1 bx2 bx3 hc10 hc11 hMO hb1 HC HLd HBX
  refine wpIn_rangeFunc_ownH rfl (by omega) (gf := 36) (lb := #[.pointer (some ⟨w1.heap.size + 1 + 1 + 1, 0, none⟩), .pointer (some ⟨w1.heap.size + 1 + 1 + 1 + 1, 0, none⟩), .pointer (some ⟨w1.heap.size + 1 + 1 + 1 + 2, 0, none⟩)]) rfl f4 (enters_of Try.func36 (by kernel_rfl) rfl)
    hseq keepR_t (keepR_b (w := W0)) (Below.refl _ _) (fun _ => rfl)
    (fun (pre : List (Rn Int)) W => Boxed W w1.heap.size 2 (.int .i64 (atOf pre)) ∧ Boxed W (w1.heap.size + 1) 3 (.int .i64 pre.length) ∧ Boxed W (w1.heap.size + 1 + 1) 3 (.int .i64 (befOf pre)) ∧ Below w1.heap.size w1 W)
    (fun _ pre _ => ∃ p x, pre = p ++ [x] ∧ ¬ Pass size first l p x)
    (OwnFrom.and (Own.from (boxed_own w1.heap.size 2 (fun (pre : List (Rn Int)) => .int .i64 (atOf pre))) _) (OwnFrom.and (Own.from (boxed_own (w1.heap.size + 1) 3 (fun (pre : List (Rn Int)) => .int .i64 pre.length)) _) (OwnFrom.and (Own.from (boxed_own (w1.heap.size + 1 + 1) 3 (fun (pre : List (Rn Int)) => .int .i64 (befOf pre))) _) (ownFrom_below (Nat.le_refl _) (by omega)))))
    (fun _ _ _ _ _ hs _ _ => hs)
    ⟨a0, a1, a2, hB0⟩
    (fun x a' W => ∃ Bx, W.heap[Bx]? = some (.cells #[.int .i64 x.lo, .int .i64 x.hi, .int .i64 x.v] TRun (0, 0)) ∧ a' = { tmps := #[.int .i64 size, .int .i64 first, .slice ao n cap, .int .i64 place, .pointer (some ⟨w.heap.size, 0, none⟩), .pointer (some ⟨w.heap.size + 1, 0, none⟩), .pointer (some ⟨w.heap.size + 1 + 1, 0, none⟩), undef, .pointer (some ⟨w.heap.size + 1 + 1 + 1, 0, none⟩), .pointer (some ⟨bm, 0, none⟩), .pointer (some ⟨w1.heap.size, 0, none⟩), .pointer (some ⟨w1.heap.size + 1, 0, none⟩), .pointer (some ⟨w1.heap.size + 1 + 1, 0, none⟩), .func (.func 36) #[] #[.pointer (some ⟨w1.heap.size + 1 + 1 + 1, 0, none⟩), .pointer (some ⟨w1.heap.size + 1 + 1 + 1 + 1, 0, none⟩), .pointer (some ⟨w1.heap.size + 1 + 1 + 1 + 2, 0, none⟩)], .pointer (some ⟨Bx, 0, none⟩), undef, undef, undef, .int .i64 size, .int .i64 first, .slice ao n cap, .pointer (some ⟨bm, 0, none⟩), .int .i64 size, .bool true, .bool false, .bool false, .pointer (some ⟨bm, 0, none⟩), .bool false, .bool false, undef, undef, undef, undef, undef, undef, undef, undef, undef, undef, .pointer (some ⟨bm, 0, none⟩), .int .i64 size, .func (.func 36) #[] #[.pointer (some ⟨w1.heap.size + 1 + 1 + 1, 0, none⟩), .pointer (some ⟨w1.heap.size + 1 + 1 + 1 + 1, 0, none⟩), .pointer (some ⟨w1.heap.size + 1 + 1 + 1 + 2, 0, none⟩)], .func (.func 36) #[] #[.pointer (some ⟨w1.heap.size + 1 + 1 + 1, 0, none⟩), .pointer (some ⟨w1.heap.size + 1 + 1 + 1 + 1, 0, none⟩), .pointer (some ⟨w1.heap.size + 1 + 1 + 1 + 2, 0, none⟩)], .bool false, .func (.func 36) #[] #[.pointer (some ⟨w1.heap.size + 1 + 1 + 1, 0, none⟩), .pointer (some ⟨w1.heap.size + 1 + 1 + 1 + 1, 0, none⟩), .pointer (some ⟨w1.heap.size + 1 + 1 + 1 + 2, 0, none⟩)], .agg #[.int .i64 x.lo, .int .i64 x.hi, .int .i64 x.v], undef, undef, undef, undef, undef, undef, undef, undef, undef, undef, undef, undef, undef, undef, undef, undef, undef, undef, undef, undef, undef, undef, undef, undef, undef, undef, undef, undef, undef, undef, undef, undef, undef, undef, undef, undef, undef, undef, undef, undef, undef, undef, undef, undef, undef, undef, undef, undef, undef, undef, undef, undef, undef, undef, undef, undef, undef, undef, undef, undef, undef, undef, undef, undef, undef, undef, undef, undef, undef, undef, undef, undef, undef, undef, undef, undef, undef, undef, undef, undef, undef, undef, undef, undef, undef, undef, undef, undef, undef, undef, undef, undef, undef, undef, undef, undef], defers := [] })
    (fun x a' s X Y row hs hg hrow => by
      obtain ⟨Bx, hx, e⟩ := hs
      exact ⟨Bx, cells_ownI Bx _ _ _ () X Y row hx hg hrow, e⟩)
    ?assign ?body ?done ?stop
  case assign =>
    rintro l' pre x W K ⟨i0, i1, i2, hB⟩ hK
    gi_big_wp2
    exact hK _ _ ((KeepsOthers.alloc _ _).from _) (keepR_below ((Below.refl _ W).alloc (Nat.le_refl _) _)) ⟨i0.alloc _, i1.alloc _, i2.alloc _, hB.alloc hB.size _⟩ ⟨W.heap.size, heap_alloc_new W _, rfl⟩
  case stop =>
    rintro D c pre W _ ⟨rest, hsp⟩ ⟨p, x, rfl, hnp⟩ _
    exact absurd (pass_all h0 h1 (rest := rest) (by rw [hsp]; simp)) hnp
  case body =>
    rintro l' pre ⟨xlo, xhi, xv⟩ a' W hl ⟨r, hr⟩ ⟨i0, i1, i2, hB⟩ ⟨Bx, hx, rfl⟩ hlt
    simp only at hx ⊢
    obtain ⟨s0, s1, s2, s3⟩ := HXB.out W hB
    have x0 : W.cell? ⟨Bx, 0, none⟩ = some (.int .i64 xlo) := by unfold World.cell?; simp only [hx]; rfl
    have x1 : W.cell? ⟨Bx, 1, none⟩ = some (.int .i64 xhi) := by unfold World.cell?; simp only [hx]; rfl
    have x2 : W.cell? ⟨Bx, 2, none⟩ = some (.int .i64 xv) := by unfold World.cell?; simp only [hx]; rfl
    have HLast : Hid (∀ q p, Calls Try.prog 22 #[.int .i64 size, .int .i64 first, .slice ao n cap, .int .i64 p] (W.drewN q) fun e w' => e = .returned (.int .i64 (lastV size first l p)) ∧ ∃ m, w' = (W.drewN q).drewN m) := fun q p => last_any size first p ao n cap l (W.drewN q) HLen hn ((HPut.out W hB).later (below_drewW W q))
    have mixed : Try.prog.follows .mixedOrders = true := by kernel_rfl
    have HKF : Hid (∀ q u, KeepsFrom W0.heap.size W ((W.drewN q).setCell ⟨w.heap.size + 1 + 1 + 1, 0, none⟩ u)) := fun q u => (KeepsOthers.trans (keepsO_drewN W q) (KeepsOthers.setCell (W.drewN q) _ u)).from _
    have HFin : Hid (∀ q, KeepsFrom W0.heap.size W ((((W.drewN q).setCell ⟨w1.heap.size, 0, none⟩ (.int .i64 xhi)).setCell ⟨w1.heap.size + 1 + 1, 0, none⟩ (.int .i64 xv)).setCell ⟨w1.heap.size + 1, 0, none⟩ (.int .i64 (pre.length + 1))) ∧ KeepR W ((((W.drewN q).setCell ⟨w1.heap.size, 0, none⟩ (.int .i64 xhi)).setCell ⟨w1.heap.size + 1 + 1, 0, none⟩ (.int .i64 xv)).setCell ⟨w1.heap.size + 1, 0, none⟩ (.int .i64 (pre.length + 1))) ∧
        (Boxed ((((W.drewN q).setCell ⟨w1.heap.size, 0, none⟩ (.int .i64 xhi)).setCell ⟨w1.heap.size + 1 + 1, 0, none⟩ (.int .i64 xv)).setCell ⟨w1.heap.size + 1, 0, none⟩ (.int .i64 (pre.length + 1))) w1.heap.size 2 (.int .i64 (atOf (pre ++ [⟨xlo, xhi, xv⟩]))) ∧ Boxed ((((W.drewN q).setCell ⟨w1.heap.size, 0, none⟩ (.int .i64 xhi)).setCell ⟨w1.heap.size + 1 + 1, 0, none⟩ (.int .i64 xv)).setCell ⟨w1.heap.size + 1, 0, none⟩ (.int .i64 (pre.length + 1))) (w1.heap.size + 1) 3 (.int .i64 (pre ++ [(⟨xlo, xhi, xv⟩ : Rn Int)]).length) ∧ Boxed ((((W.drewN q).setCell ⟨w1.heap.size, 0, none⟩ (.int .i64 xhi)).setCell ⟨w1.heap.size + 1 + 1, 0, none⟩ (.int .i64 xv)).setCell ⟨w1.heap.size + 1, 0, none⟩ (.int .i64 (pre.length + 1))) (w1.heap.size + 1 + 1) 3 (.int .i64 (befOf (pre ++ [⟨xlo, xhi, xv⟩]))) ∧ Below w1.heap.size w1 ((((W.drewN q).setCell ⟨w1.heap.size, 0, none⟩ (.int .i64 xhi)).setCell ⟨w1.heap.size + 1 + 1, 0, none⟩ (.int .i64 xv)).setCell ⟨w1.heap.size + 1, 0, none⟩ (.int .i64 (pre.length + 1))))) := fun q => by
      have j0 : Boxed (W.drewN q) w1.heap.size 2 (.int .i64 (atOf pre)) := i0
      have j1 : Boxed (W.drewN q) (w1.heap.size + 1) 3 (.int .i64 pre.length) := i1
      have j2 : Boxed (W.drewN q) (w1.heap.size + 1 + 1) 3 (.int .i64 (befOf pre)) := i2
      have jB : Below w1.heap.size w1 (W.drewN q) := hB.trans ((below_drewW W q).mono hB.size)
      have k0 := j0.set (.int .i64 xhi)
      have k1 := j1.other (B' := w1.heap.size) (by omega) (.int .i64 xhi)
      have k2 := j2.other (B' := w1.heap.size) (by omega) (.int .i64 xhi)
      have m0 := k0.other (B' := w1.heap.size + 1 + 1) (by omega) (.int .i64 xv)
      have m1 := k1.other (B' := w1.heap.size + 1 + 1) (by omega) (.int .i64 xv)
      have m2 := k2.set (.int .i64 xv)
      have o0 := m0.other (B' := w1.heap.size + 1) (by omega) (.int .i64 (pre.length + 1))
      have o1 := m1.set (.int .i64 (pre.length + 1))
      have o2 := m2.other (B' := w1.heap.size + 1) (by omega) (.int .i64 (pre.length + 1))
      refine ⟨?_, ?_, ?_, ?_, ?_, ?_⟩
      · exact (KeepsOthers.trans (KeepsOthers.trans (KeepsOthers.trans (keepsO_drewN W q) (KeepsOthers.setCell (W.drewN q) _ _)) (KeepsOthers.setCell _ _ _)) (KeepsOthers.setCell _ _ _)).from _
      · exact keepR_t (keepR_t (keepR_t (B := W.drewN q) (fun _ _ _ h => h) (keepI_setBox j0 (by decide))) (keepI_setBox k2 (by decide))) (keepI_setBox m1 (by decide))
      · rw [atOf_snoc]; exact o0
      · rw [List.length_append]; exact o1
      · rw [befOf_snoc]; exact o2
      · exact ((jB.grown (grownBy_setCell' _ _ _) jB.size (fun k e => by cases e; omega)).grown (grownBy_setCell' _ _ _) (Nat.le_trans jB.size (KeepsOthers.setCell _ _ _).size) (fun k e => by cases e; omega)).grown (grownBy_setCell' _ _ _) (Nat.le_trans (Nat.le_trans jB.size (KeepsOthers.setCell _ _ _).size) (KeepsOthers.setCell _ _ _).size) (fun k e => by cases e; omega)
    have hb0 : Bx ≠ w1.heap.size := by rintro rfl; have := hx.symm.trans i0; simp [TRun] at this
    have y2 : ∀ q u, ((W.drewN q).setCell ⟨w1.heap.size, 0, none⟩ u).cell? ⟨Bx, 2, none⟩ = some (.int .i64 xv) := fun q u => by
      refine (World.cell?_of_block (a := ⟨Bx, 2, none⟩) (w := W) ?_).trans x2
      exact Below.heap_setCell (W.drewN q) ⟨w1.heap.size, 0, none⟩ u Bx hb0
    have k2 : ∀ q u, Boxed ((W.drewN q).setCell ⟨w1.heap.size, 0, none⟩ u) (w1.heap.size + 1 + 1) 3 (.int .i64 (befOf pre)) := fun q u => Boxed.other (W := W.drewN q) i2 (by omega) u
    have k1 : ∀ q u u', Boxed (((W.drewN q).setCell ⟨w1.heap.size, 0, none⟩ u).setCell ⟨w1.heap.size + 1 + 1, 0, none⟩ u') (w1.heap.size + 1) 3 (.int .i64 pre.length) := fun q u u' => (Boxed.other (W := W.drewN q) i1 (by omega) u).other (by omega) u'
    have yc2 := fun q u => (k2 q u).cell
    have yf2 := fun q u => (k2 q u).frozen
    have yc1 := fun q u u' => (k1 q u u').cell
    have yf1 := fun q u u' => (k1 q u u').frozen
    have sc0 := s0.cell
    have sc1 := s1.cell
    have sc2 := s2.cell
    have sc3 := s3.cell
    have sf3 := s3.frozen
    have ic0 := i0.cell
    have if0 := i0.frozen
    have ic1 := i1.cell
    have ic2 := i2.cell
    obtain ⟨P1, hP1⟩ : ∃ P1, P1 = (xhi - 1 + 9223372036854775808) % 18446744073709551616 - 9223372036854775808 := ⟨_, rfl⟩
    have HP1 : Hid (P1 = (xhi - 1 + 9223372036854775808) % 18446744073709551616 - 9223372036854775808) := hP1
    have w5 : IntKind.i64.wrap (xhi - 1) = P1 := by rw [IntKind.wrap_i64, hP1]
    have hN : pre.length + 1 ≤ 1099511627776 := by omega
    have HA : Hid (atOf pre = atOf pre ∧ befOf pre = befOf pre) := ⟨rfl, rfl⟩
    have g1 : 1 ≤ 4 - 1 - 1 := by omega
    clear hx hP1 hb0 k1 k2 i0 i1 i2 s0 s1 s2 s3 hr hseq hlt
    by_cases c1 : xlo = atOf pre
    · have d1 : (xlo != atOf pre) = false := by simpa using c1
      have C1 : Hid (xlo = atOf pre) := c1
      clear c1
      by_cases c2 : xhi ≤ xlo
      · have d2 : decide (xhi ≤ xlo) = true := decide_eq_true c2
        gi_big_wp2
        refine region_quiet (by kernel_rfl) mixed (by kernel_rfl) ?_
        repeat (gi_big_quiet_step (first | (gi_at_call 22; exact CallsIn.inRound _ (CallsIn.quiet_of (callsIn_wide.2 (HLast.out _ _))))))
        refine wpQuietIn_nil ?_
        intro _ hw'
        obtain ⟨nq, hw''⟩ := hw'
        subst hw''
        gi_big_wp2
        exact ⟨HKF.out _ _, pre, ⟨xlo, xhi, xv⟩, rfl, fun h => h.2.1 c2⟩
      · have d2 : decide (xhi ≤ xlo) = false := decide_eq_false c2
        by_cases c3 : 0 < pre.length
        · have c3' : (0 : Int) < (pre.length : Int) := by omega
          have d3 : decide ((0 : Int) < (pre.length : Int)) = true := decide_eq_true c3'
          by_cases c6 : xv = befOf pre
          · have d6 : (xv == befOf pre) = true := by simpa using c6
            have C6 : Hid (xv = befOf pre) := c6
            clear c6
            gi_big_wp2
            refine region_quiet (by kernel_rfl) mixed (by kernel_rfl) ?_
            repeat (gi_big_quiet_step (first | (gi_at_call 22; exact CallsIn.inRound _ (CallsIn.quiet_of (callsIn_wide.2 (HLast.out _ _))))))
            refine wpQuietIn_nil ?_
            intro _ hw'
            obtain ⟨nq, hw''⟩ := hw'
            subst hw''
            gi_big_wp2
            exact ⟨HKF.out _ _, pre, ⟨xlo, xhi, xv⟩, rfl, fun h => h.2.2.1 ⟨c3, C6.out⟩⟩
          · have d6 : (xv == befOf pre) = false := by simpa using c6
            by_cases c4 : xv = lastV size first l xlo
            · have d4 : (xv != lastV size first l xlo) = false := by simpa using c4
              have C4 : Hid (xv = lastV size first l xlo) := c4
              clear c4
              by_cases c5 : xv = lastV size first l P1
              · have d5 : (xv != lastV size first l P1) = false := by simpa using c5
                clear c5
                gi_big_wp2
                refine region_quiet (by kernel_rfl) mixed (by kernel_rfl) ?_
                repeat (gi_big_quiet_step (first | (gi_at_call 22; exact CallsIn.inRound _ (CallsIn.quiet_of (callsIn_wide.2 (HLast.out _ _))))))
                refine wpQuietIn_nil ?_
                intro _ hw'
                obtain ⟨nq, hw''⟩ := hw'
                subst hw''
                gi_big_wp2
                exact HFin.out _
              · have d5 : (xv != lastV size first l P1) = true := by simpa using c5
                gi_big_wp2
                refine region_quiet (by kernel_rfl) mixed (by kernel_rfl) ?_
                repeat (gi_big_quiet_step (first | (gi_at_call 22; exact CallsIn.inRound _ (CallsIn.quiet_of (callsIn_wide.2 (HLast.out _ _))))))
                refine wpQuietIn_nil ?_
                intro _ hw'
                obtain ⟨nq, hw''⟩ := hw'
                subst hw''
                gi_big_wp2
                exact ⟨HKF.out _ _, pre, ⟨xlo, xhi, xv⟩, rfl, fun h => c5 (by rw [HP1.out]; exact h.2.2.2.2)⟩
            · have d4 : (xv != lastV size first l xlo) = true := by simpa using c4
              gi_big_wp2
              refine region_quiet (by kernel_rfl) mixed (by kernel_rfl) ?_
              repeat (gi_big_quiet_step (first | (gi_at_call 22; exact CallsIn.inRound _ (CallsIn.quiet_of (callsIn_wide.2 (HLast.out _ _))))))
              refine wpQuietIn_nil ?_
              intro _ hw'
              obtain ⟨nq, hw''⟩ := hw'
              subst hw''
              gi_big_wp2
              exact ⟨HKF.out _ _, pre, ⟨xlo, xhi, xv⟩, rfl, fun h => c4 h.2.2.2.1⟩
        · have c3' : ¬ (0 : Int) < (pre.length : Int) := by omega
          have d3 : decide ((0 : Int) < (pre.length : Int)) = false := decide_eq_false c3'
          by_cases c4 : xv = lastV size first l xlo
          · have d4 : (xv != lastV size first l xlo) = false := by simpa using c4
            have C4 : Hid (xv = lastV size first l xlo) := c4
            clear c4
            by_cases c5 : xv = lastV size first l P1
            · have d5 : (xv != lastV size first l P1) = false := by simpa using c5
              clear c5
              gi_big_wp2
              refine region_quiet (by kernel_rfl) mixed (by kernel_rfl) ?_
              repeat (gi_big_quiet_step (first | (gi_at_call 22; exact CallsIn.inRound _ (CallsIn.quiet_of (callsIn_wide.2 (HLast.out _ _))))))
              refine wpQuietIn_nil ?_
              intro _ hw'
              obtain ⟨nq, hw''⟩ := hw'
              subst hw''
              gi_big_wp2
              exact HFin.out _
            · have d5 : (xv != lastV size first l P1) = true := by simpa using c5
              gi_big_wp2
              refine region_quiet (by kernel_rfl) mixed (by kernel_rfl) ?_
              repeat (gi_big_quiet_step (first | (gi_at_call 22; exact CallsIn.inRound _ (CallsIn.quiet_of (callsIn_wide.2 (HLast.out _ _))))))
              refine wpQuietIn_nil ?_
              intro _ hw'
              obtain ⟨nq, hw''⟩ := hw'
              subst hw''
              gi_big_wp2
              exact ⟨HKF.out _ _, pre, ⟨xlo, xhi, xv⟩, rfl, fun h => c5 (by rw [HP1.out]; exact h.2.2.2.2)⟩
          · have d4 : (xv != lastV size first l xlo) = true := by simpa using c4
            gi_big_wp2
            refine region_quiet (by kernel_rfl) mixed (by kernel_rfl) ?_
            repeat (gi_big_quiet_step (first | (gi_at_call 22; exact CallsIn.inRound _ (CallsIn.quiet_of (callsIn_wide.2 (HLast.out _ _))))))
            refine wpQuietIn_nil ?_
            intro _ hw'
            obtain ⟨nq, hw''⟩ := hw'
            subst hw''
            gi_big_wp2
            exact ⟨HKF.out _ _, pre, ⟨xlo, xhi, xv⟩, rfl, fun h => c4 h.2.2.2.1⟩
    · have d1 : (xlo != atOf pre) = true := by simpa using c1
      gi_big_wp2
      refine region_quiet (by kernel_rfl) mixed (by kernel_rfl) ?_
      repeat (gi_big_quiet_step (first | (gi_at_call 22; exact CallsIn.inRound _ (CallsIn.quiet_of (callsIn_wide.2 (HLast.out _ _))))))
      refine wpQuietIn_nil ?_
      intro _ hw'
      obtain ⟨nq, hw''⟩ := hw'
      subst hw''
      gi_big_wp2
      exact ⟨HKF.out _ _, pre, ⟨xlo, xhi, xv⟩, rfl, fun h => c1 h.1⟩
  case done =>
    rintro D ys W hD rfl ⟨i0, i1, i2, hB⟩ hK
    have mixed : Try.prog.follows .mixedOrders = true := by kernel_rfl
    have HX : Hid (∀ X, Below W.heap.size W X → Below w1.heap.size w1 X) := fun X hX => hB.trans (hX.mono hB.size)
    rw [atOf_end h0] at i0
    obtain ⟨N, hN⟩ : ∃ N, N = (runsL size first l).length := ⟨_, rfl⟩
    rw [← hN] at i1
    have HN : Hid (N = (runsL size first l).length) := hN
    have HCnt : Hid (∀ X, Below W.heap.size W X → Calls Try.prog 13 #[.pointer (some ⟨bm, 0, none⟩)] X fun e w' => e = .returned (.int .i64 N) ∧ w' = X) := fun X hX => by
      have hm := HMO.out.later (HX.out X hX)
      obtain ⟨ao2, cp, rfl⟩ := owns_form hm.row
      rw [HN.out]
      exact count_any hm
    have HSiz : Hid (∀ X, Below W.heap.size W X → Calls Try.prog 12 #[.pointer (some ⟨bm, 0, none⟩)] X fun e w' => e = .returned (.int .i64 size) ∧ w' = X) := fun X hX => size_any (HMO.out.later (HX.out X hX))
    have HAl : Hid (∀ X, Below W.heap.size W X → Calls Try.prog 18 #[] X fun e w' => e = .returned (.bool true) ∧ Below W.heap.size W w') := fun X hX => (alive_any X).mono fun e w' ⟨he, hb⟩ => ⟨he, hX.trans (hb.mono hX.size)⟩
    have HRes : Hid (∀ X, Below W.heap.size W X → X.cell? ⟨w.heap.size + 1 + 1 + 1, 0, none⟩ = some (.bool false) ∧ X.frozen? ⟨w.heap.size + 1 + 1 + 1, 0, none⟩ = false) := fun X hX => ⟨(HXB.out X (HX.out X hX)).2.2.2.cell, (HXB.out X (HX.out X hX)).2.2.2.frozen⟩
    have HCel : Hid (∀ X, Below W.heap.size W X → X.cell? ⟨w.heap.size, 0, none⟩ = some (.int .i64 size) ∧ X.cell? ⟨w.heap.size + 1, 0, none⟩ = some (.int .i64 first) ∧ X.cell? ⟨w.heap.size + 1 + 1, 0, none⟩ = some (.slice ao n cap) ∧ X.cell? ⟨w1.heap.size, 0, none⟩ = some (.int .i64 size) ∧ X.cell? ⟨w1.heap.size + 1, 0, none⟩ = some (.int .i64 N)) := fun X hX =>
      ⟨(HXB.out X (HX.out X hX)).1.cell, (HXB.out X (HX.out X hX)).2.1.cell, (HXB.out X (HX.out X hX)).2.2.1.cell, (boxed_later i0 hX).cell, (boxed_later i1 hX).cell⟩
    have HLast : Hid (∀ X p, Below W.heap.size W X → Calls Try.prog 22 #[.int .i64 size, .int .i64 first, .slice ao n cap, .int .i64 p] X fun e w' => e = .returned (.int .i64 (lastV size first l p)) ∧ Below W.heap.size W w') := fun X p hX => (last_any size first p ao n cap l X HLen hn (HPut.out X (HX.out X hX))).mono fun e w' ⟨he, m, hm⟩ => ⟨he, by rw [hm]; exact hX.trans ((below_drewW X m).mono hX.size)⟩
    have HK : Hid (W.heap[D]? = some (.deferred (some []))) := hK
    have HEnd : Hid (∀ X, Below W.heap.size W X → (X.setCell ⟨w.heap.size + 1 + 1 + 1, 0, none⟩ (.bool true)).heap[D]? = some (.deferred (some [])) ∧ (∀ o', Boxed ((X.setCell ⟨w.heap.size + 1 + 1 + 1, 0, none⟩ (.bool true)).putObj D o') (w.heap.size + 1 + 1 + 1) 4 (.bool true)) ∧ (∀ o', Below w.heap.size w ((X.setCell ⟨w.heap.size + 1 + 1 + 1, 0, none⟩ (.bool true)).putObj D o'))) := fun X hX => by
      have kX : X.heap[D]? = some (.deferred (some [])) := (hX.block D (Array.getElem?_eq_some_iff.1 HK.out).1).trans HK.out
      have kz := (KeepsOthers.setCell X ⟨w.heap.size + 1 + 1 + 1, 0, none⟩ (.bool true)).same D _ kX rfl
      have bX := (HXB.out X (HX.out X hX)).2.2.2.set (.bool true)
      have lX : Below w.heap.size w (X.setCell ⟨w.heap.size + 1 + 1 + 1, 0, none⟩ (.bool true)) := (HBw.out X (HX.out X hX)).grown (grownBy_setCell' _ _ _) (HBw.out X (HX.out X hX)).size (fun k e => by cases e; omega)
      exact ⟨kz, fun o' => bX.kept (grownBy_putObj' _ _ _) (fun e => by cases e; omega), fun o' => lX.trans (belowK_b (w := w) (Nat.le_refl _) _ D _ _ (by omega) kz rfl rfl)⟩
    have hWW : Below W.heap.size W W := Below.refl _ _
    have dS : decide (size = size) = true := decide_eq_true rfl
    clear i0 i1 i2 hN hK hseq
    by_cases hin : 0 ≤ place ∧ place < size
    · obtain ⟨q0, q1⟩ := hin
      have HAt : Hid (Calls Try.prog 23 #[.pointer (some ⟨bm, 0, none⟩), .int .i64 place] W fun e w' => e = .returned (.tuple #[.int .i64 (lastV size first l place), .bool true]) ∧ Below W.heap.size W w') := by
        obtain ⟨g, cap2, hv, hg1, hg2, hcap, hrm⟩ := (HMO.out.later (HX.out W hWW)).rm (by omega)
        obtain ⟨A, x, B', e1, l1, x1, x2, x3, x4⟩ := find_split hrm.tiles (i := place) q0 q1
        have hxv : x.v = lastV size first l place := by
          have := (((runsL_spec size first h0 l).2.2 place x.v).1 (by rw [e1]; exact has_append.2 (.inr (has_cons.2 (.inl ⟨x1, x2, rfl⟩))))).2.2
          exact this.symm
        rw [← hxv]
        exact at_any hrm place q0 q1 x (split_some e1 l1).1
      obtain ⟨LV, hLV⟩ : ∃ LV, LV = lastV size first l place := ⟨_, rfl⟩
      have HL2 : Hid (∀ X, Below W.heap.size W X → Calls Try.prog 22 #[.int .i64 size, .int .i64 first, .slice ao n cap, .int .i64 place] X fun e w' => e = .returned (.int .i64 LV) ∧ Below W.heap.size W w') := fun X hX => by rw [hLV]; exact HLast.out X place hX
      rw [← hLV] at HAt
      clear hLV
      gi_big_wp2_with (first | (gi_at_call 23; refine (callsIn_wide.2 HAt.out).mono ?_; rintro e wA ⟨rfl, hbA⟩; obtain ⟨t0, t1, t2, t3, t4⟩ := HCel.out wA hbA) | (gi_at_call 22; refine (callsIn_wide.2 (HL2.out _ hbA)).mono ?_; rintro e wB ⟨rfl, hbB⟩; obtain ⟨u0, u1, u2, u3, u4⟩ := HCel.out wB hbB))
      refine Code.wpIn_mono (Q := NoPanic _) NoPanic.imp ?_
      gi_region_with_o (first | (gi_at_call 13; refine (callsIn_wide.2 (HCnt.out _ (by first | assumption | exact below_drew (by assumption)))).mono ?_; rintro e w9 ⟨rfl, hw9⟩; rw [hw9]; clear hw9) | (gi_at_call 12; refine (callsIn_wide.2 (HSiz.out _ (by first | assumption | exact below_drew (by assumption)))).mono ?_; rintro e w9 ⟨rfl, hw9⟩; rw [hw9]; clear hw9) | (gi_at_call 18; refine (callsIn_wide.2 (HAl.out _ (by first | assumption | exact below_drew (by assumption)))).mono ?_; rintro e w9 ⟨rfl, hb9⟩; obtain ⟨r1, r2⟩ := HRes.out _ hb9))
      all_goals
        refine NoPanic.normal ?_
        gi_big_wp2
        obtain ⟨kz, bz, lz⟩ := HEnd.out _ hb9
        refine ⟨by simp, .inl ⟨_, _, rfl, run_takeDeferred kz, ?_⟩⟩
        exact ⟨_, res_bool rfl (bz _), rfl, lz _⟩
    · have HAt : Hid (Calls Try.prog 23 #[.pointer (some ⟨bm, 0, none⟩), .int .i64 place] W fun e w' => e = .returned (.tuple #[.int .i64 0, .bool false]) ∧ w' = W) := at_out (HMO.out.later (HX.out W hWW)) place (by omega)
      obtain ⟨t0, t1, t2, t3, t4⟩ := HCel.out W hWW
      by_cases hz : 0 ≤ place
      · have hz2 : ¬ place < size := by omega
        have dz : decide (place < size) = false := decide_eq_false hz2
        gi_big_wp2_with (gi_at_call 23; refine (callsIn_wide.2 HAt.out).mono ?_; rintro e wA ⟨rfl, hwA⟩; rw [hwA]; clear hwA)
        refine Code.wpIn_mono (Q := NoPanic _) NoPanic.imp ?_
        gi_region_with_o (first | (gi_at_call 13; refine (callsIn_wide.2 (HCnt.out _ (by first | assumption | exact below_drew (by assumption)))).mono ?_; rintro e w9 ⟨rfl, hw9⟩; rw [hw9]; clear hw9) | (gi_at_call 12; refine (callsIn_wide.2 (HSiz.out _ (by first | assumption | exact below_drew (by assumption)))).mono ?_; rintro e w9 ⟨rfl, hw9⟩; rw [hw9]; clear hw9) | (gi_at_call 18; refine (callsIn_wide.2 (HAl.out _ (by first | assumption | exact below_drew (by assumption)))).mono ?_; rintro e w9 ⟨rfl, hb9⟩; obtain ⟨r1, r2⟩ := HRes.out _ hb9))
        all_goals
          refine NoPanic.normal ?_
          gi_big_wp2
          obtain ⟨kz, bz, lz⟩ := HEnd.out _ hb9
          refine ⟨by simp, .inl ⟨_, _, rfl, run_takeDeferred kz, ?_⟩⟩
          exact ⟨_, res_bool rfl (bz _), rfl, lz _⟩
      · gi_big_wp2_with (gi_at_call 23; refine (callsIn_wide.2 HAt.out).mono ?_; rintro e wA ⟨rfl, hwA⟩; rw [hwA]; clear hwA)
        refine Code.wpIn_mono (Q := NoPanic _) NoPanic.imp ?_
        gi_region_with_o (first | (gi_at_call 13; refine (callsIn_wide.2 (HCnt.out _ (by first | assumption | exact below_drew (by assumption)))).mono ?_; rintro e w9 ⟨rfl, hw9⟩; rw [hw9]; clear hw9) | (gi_at_call 12; refine (callsIn_wide.2 (HSiz.out _ (by first | assumption | exact below_drew (by assumption)))).mono ?_; rintro e w9 ⟨rfl, hw9⟩; rw [hw9]; clear hw9) | (gi_at_call 18; refine (callsIn_wide.2 (HAl.out _ (by first | assumption | exact below_drew (by assumption)))).mono ?_; rintro e w9 ⟨rfl, hb9⟩; obtain ⟨r1, r2⟩ := HRes.out _ hb9))
        all_goals
          refine NoPanic.normal ?_
          gi_big_wp2
          obtain ⟨kz, bz, lz⟩ := HEnd.out _ hb9
          refine ⟨by simp, .inl ⟨_, _, rfl, run_takeDeferred kz, ?_⟩⟩
          exact ⟨_, res_bool rfl (bz _), rfl, lz _⟩
theorem lawRuns_any (size first place : Int) (ao : Option Addr) (n cap : Nat) (l : List Put) (w : World) (HLen : Hid (n = l.length)) (hn : n ≤ 9223372036854775807) (HR : Hid (Puts w ao l)) :
    Calls Try.prog 4 #[.int .i64 size, .int .i64 first, .slice ao n cap, .int .i64 place] w fun e w' => e = .returned (.bool true) ∧ Below w.heap.size w w' := by
  by_cases h : 0 ≤ size ∧ size ≤ 1099511627776
  · exact lawRuns_good size first place ao n cap l w HLen hn HR h.1 h.2
  · exact lawRuns_bad size first place ao n cap w (by omega)
end Go.Proofs.Ytijafckdbhklmaa.I
