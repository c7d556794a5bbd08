import Derived.Test.YtijafckdbhklmabXH
namespace Go.Proofs.Ytijafckdbhklmab.I
open Go.RowKit Go.Sort Go.Lib Go.Shelf
attribute [local go_sem] Oper.semAt_some
set_option linter.unusedVariables false
set_option linter.unusedSimpArgs false
set_option maxRecDepth 100000

set_option maxHeartbeats 16000000 in
theorem nobody_nil (lo hi v : Int) (w : World) : Calls Try.prog 4 #[.int .i64 lo, .int .i64 hi, .int .i64 v, .bool false] w fun e w' => e = .returned (.bool true) ∧ Below w.heap.size w w' := by
  have qs : ∀ (w : World) (f : Fn) (a b : Array Value), (binOp .eql 38 (.func f a b) .nilFunc).run Try.prog w = .ok (.bool false) w := fun _ _ _ _ => rfl
  have qp : ∀ (w : World) (a : Addr), (binOp .eql 23 (.pointer (some a)) (.pointer none)).run Try.prog w = .ok (.bool false) w := fun _ _ => rfl
  have qn : ∀ (w : World), (binOp .eql 23 (.pointer none) (.pointer none)).run Try.prog w = .ok (.bool true) w := fun _ => rfl
  refine (callsIn_wide (n := 4)).1 ?_
  have f0 : Fence.wide.fn 4 := trivial
  have f1 : Fence.wide.fn 15 := trivial
  have f2 : Fence.wide.fn 38 := trivial
  have f3 : Fence.wide.fn 16 := trivial
  have f4 : Fence.wide.fn 17 := trivial
  have f5 : Fence.wide.fn 13 := trivial
  have f6 : Fence.wide.fn 14 := trivial
  have f7 : Fence.wide.fn 18 := trivial
  have f8 : Fence.wide.fn 19 := trivial
  have f9 : Fence.wide.fn 20 := trivial
  have f10 : Fence.wide.fn 12 := trivial
  have f11 : Fence.wide.fn 11 := trivial
  refine callsIn_of_wp_marks Try.func4 rfl f0 ?_ rfl
  simp only [Try.ntmps4, List.size_toArray, List.length_cons, List.length_nil, Nat.reduceAdd, Nat.reduceSub, Array.replicate_succ, Array.replicate_zero, List.push_toArray, List.append_toArray, List.nil_append, List.cons_append]
  gi_wp2_with (gi_at_call 15; refine (callsIn_wide.2 (runs_any _ _ _ _)).mono ?_; rintro e w' ⟨rfl, rfl⟩)
  obtain ⟨W0, hW0⟩ : ∃ W0, W0 = (((w.alloc (.cells #[.int .i64 0] 3)).alloc (.cells #[.pointer none] 23)).alloc (.cells #[.int .i64 lo] 2)).alloc (.cells #[.int .i64 hi] 2) := ⟨_, rfl⟩
  have hB0 : Below w.heap.size w W0 := by rw [hW0]; exact ((((Below.refl _ w).alloc (Nat.le_refl _) _).alloc (by simp) _).alloc (by simp; omega) _).alloc (by simp; omega) _
  have hs0 : W0.heap.size = w.heap.size + 4 := by rw [hW0]; simp
  have bN : Boxed W0 (w.heap.size) 3 (.int .i64 0) := by
    have := Boxed.new w 3 (.int .i64 0)
    skip
    rw [hW0]; exact ((this.alloc _).alloc _).alloc _
  have bx1 : W0.cell? ⟨w.heap.size + 1, 0, none⟩ = some (.pointer none) := by
    have := Boxed.new (w.alloc (.cells #[.int .i64 0] 3)) 23 (.pointer none)
    rw [World.size_alloc] at this
    rw [hW0]; exact ((this.alloc _).alloc _).cell
  have bx2 : W0.cell? ⟨w.heap.size + 1 + 1, 0, none⟩ = some (.int .i64 lo) := by
    have := Boxed.new ((w.alloc (.cells #[.int .i64 0] 3)).alloc (.cells #[.pointer none] 23)) 2 (.int .i64 lo)
    rw [World.size_alloc, World.size_alloc] at this
    rw [hW0]; exact (this.alloc _).cell
  have bx3 : W0.cell? ⟨w.heap.size + 1 + 2, 0, none⟩ = some (.int .i64 hi) := by
    have := Boxed.new (((w.alloc (.cells #[.int .i64 0] 3)).alloc (.cells #[.pointer none] 23)).alloc (.cells #[.int .i64 lo] 2)) 2 (.int .i64 hi)
    rw [World.size_alloc, World.size_alloc, World.size_alloc] at this
    rw [hW0]; exact this.cell
  have HU : Hid (∀ W, Below W0.heap.size W0 W → Un none W) := fun W _ => usable_nil W
  have hseq := runs1_none 3 (by omega) none lo hi HU bx1 bx2 bx3
  rw [← hW0]
  clear bx1 bx2 bx3
  refine wpIn_rangeFunc_ownH rfl (by omega) (gf := 38) (lb := #[.pointer (some ⟨w.heap.size + 1, 0, none⟩), .pointer (some ⟨w.heap.size + 1 + 1, 0, none⟩), .pointer (some ⟨w.heap.size + 1 + 2, 0, none⟩)]) rfl f2 (enters_of Try.func38 (by kernel_rfl) rfl)
    hseq keepR_t (keepR_b (w := W0)) (Below.refl _ _) (fun _ => rfl)
    (fun pre W => Boxed W (w.heap.size) 3 (.int .i64 0) ∧ Below W0.heap.size W0 W)
    (fun _ _ _ => False)
    (OwnFrom.and (Own.from (boxed_own (w.heap.size) 3 (fun _ => .int .i64 0)) _) (ownFrom_below (Nat.le_refl _) (by omega)))
    (fun _ _ _ _ _ hs _ _ => hs)
    ⟨bN, Below.refl _ _⟩
    (fun _ _ _ => True)
    (fun _ _ _ _ _ _ _ _ _ => trivial)
    ?assign ?body ?done ?stop
  case assign =>
    rintro l pre x W K hI hK
    gi_wp2
    exact hK _ _ (KeepsFrom.refl _ _) (fun _ _ _ h => h) hI trivial
  case body =>
    intro l pre x a' W hl hr hI hA hlt
    exact absurd hlt (Nat.not_lt_zero _)
  case stop =>
    rintro D c pre W _ _ h _
    exact h.elim
  case done =>
    rintro D ys W hD rfl ⟨bW, hBW⟩ hK
    have hcn := bW.cell
    have U0 := HU.out W hBW
    have HBW : Hid (Below w.heap.size w W) := hB0.trans (hBW.mono hB0.size)
    have HNw := new_any 0 v W (by decide) (by decide)
    gi_wp2_with (first | (gi_at_call 16; refine (callsIn_wide.2 (at_no none (.int .i64 lo) W U0)).mono ?_; rintro e w9 ⟨rfl, hw9⟩; rw [hw9]; clear hw9) | (gi_at_call 17; refine (callsIn_wide.2 HNw).mono ?_; rintro e w1 ⟨b1, v1, rfl, hMO, hb1⟩))
    have U1 := HU.out w1 (hBW.trans (hb1.mono hBW.size))
    have hone := usable_at b1 true w1 (hMO.c 0)
    have HSa := same_left none (some ⟨b1, 0, none⟩) w1 U1 hone
    have HSb := same_right none (some ⟨b1, 0, none⟩) w1 U1 hone
    have HSc := same_none none w1 U1
    have HB1 : Hid (Below w.heap.size w w1) := HBW.out.trans (hb1.mono HBW.out.size)
    have hK1 : w1.heap[D]? = some (.deferred (some [])) := (hb1.block D (Array.getElem?_eq_some_iff.1 hK).1).trans hK
    have hcn1 : w1.cell? ⟨w.heap.size, 0, none⟩ = some (.int .i64 0) := cell_later hb1 hcn
    clear hone hMO hb1 HNw U0 hK hcn bW hBW
    gi_wp2_with (gi_at_call 13; refine (callsIn_wide.2 HSa).mono ?_; clear HSa; rintro e w9 ⟨rfl, hw9⟩; rw [hw9]; clear hw9)
    gi_wp2_with (gi_at_call 13; refine (callsIn_wide.2 HSb).mono ?_; clear HSb; rintro e w9 ⟨rfl, hw9⟩; rw [hw9]; clear hw9)
    gi_wp2_with (gi_at_call 13; refine (callsIn_wide.2 HSc).mono ?_; clear HSc; rintro e w9 ⟨rfl, hw9⟩; rw [hw9]; clear hw9)
    have HSet := set_no none (.int .i64 lo) (.int .i64 hi) (.int .i64 v) w1 U1
    have HSiz := size_no none w1 U1
    have HCnt := count_no none w1 U1
    have HCpy := copy_no none w1 U1
    have HAl := alive_any w1
    clear U1
    gi_wp2_with (first | (gi_at_call 14; refine (callsIn_wide.2 HSet).mono ?_; rintro e w9 ⟨rfl, hw9⟩; rw [hw9]; clear hw9) | (gi_at_call 18; refine (callsIn_wide.2 (num_any _ _)).mono ?_; rintro e w9 ⟨rfl, hw9⟩; rw [hw9]; clear hw9) | (gi_at_call 19; refine (callsIn_wide.2 HSiz).mono ?_; rintro e w9 ⟨rfl, hw9⟩; rw [hw9]; clear hw9) | (gi_at_call 20; refine (callsIn_wide.2 HCnt).mono ?_; rintro e w9 ⟨rfl, hw9⟩; rw [hw9]; clear hw9) | (gi_at_call 12; refine (callsIn_wide.2 HCpy).mono ?_; rintro e w9 ⟨rfl, hw9⟩; rw [hw9]; clear hw9) | (gi_at_call 11; refine (callsIn_wide.2 HAl).mono ?_; rintro e w2 ⟨rfl, hb2⟩))
    have hK2 : w2.heap[D]? = some (.deferred (some [])) := (hb2.block D (Array.getElem?_eq_some_iff.1 hK1).1).trans hK1
    refine ⟨by simp, .inl ⟨_, _, rfl, run_takeDeferred hK2, ?_⟩⟩
    exact ⟨_, results_tmp rfl _ _ _, rfl, (HB1.out.trans (hb2.mono HB1.out.size)).trans (belowK_b (w := w) (Nat.le_refl _) w2 D _ _ (by omega) hK2 rfl rfl)⟩

set_option maxHeartbeats 16000000 in
theorem nobody_zero (lo hi v : Int) (w : World) : Calls Try.prog 4 #[.int .i64 lo, .int .i64 hi, .int .i64 v, .bool true] w fun e w' => e = .returned (.bool true) ∧ Below w.heap.size w w' := by
  have qs : ∀ (w : World) (f : Fn) (a b : Array Value), (binOp .eql 38 (.func f a b) .nilFunc).run Try.prog w = .ok (.bool false) w := fun _ _ _ _ => rfl
  have qp : ∀ (w : World) (a : Addr), (binOp .eql 23 (.pointer (some a)) (.pointer none)).run Try.prog w = .ok (.bool false) w := fun _ _ => rfl
  have qn : ∀ (w : World), (binOp .eql 23 (.pointer none) (.pointer none)).run Try.prog w = .ok (.bool true) w := fun _ => rfl
  refine (callsIn_wide (n := 4)).1 ?_
  have f0 : Fence.wide.fn 4 := trivial
  have f1 : Fence.wide.fn 15 := trivial
  have f2 : Fence.wide.fn 38 := trivial
  have f3 : Fence.wide.fn 16 := trivial
  have f4 : Fence.wide.fn 17 := trivial
  have f5 : Fence.wide.fn 13 := trivial
  have f6 : Fence.wide.fn 14 := trivial
  have f7 : Fence.wide.fn 18 := trivial
  have f8 : Fence.wide.fn 19 := trivial
  have f9 : Fence.wide.fn 20 := trivial
  have f10 : Fence.wide.fn 12 := trivial
  have f11 : Fence.wide.fn 11 := trivial
  refine callsIn_of_wp_marks Try.func4 rfl f0 ?_ rfl
  simp only [Try.ntmps4, List.size_toArray, List.length_cons, List.length_nil, Nat.reduceAdd, Nat.reduceSub, Array.replicate_succ, Array.replicate_zero, List.push_toArray, List.append_toArray, List.nil_append, List.cons_append]
  gi_wp2_with (gi_at_call 15; refine (callsIn_wide.2 (runs_any _ _ _ _)).mono ?_; rintro e w' ⟨rfl, rfl⟩)
  obtain ⟨W0, hW0⟩ : ∃ W0, W0 = ((((w.alloc (.cells #[.bool false, .int .i64 0, .slice none 0 0] TMap)).alloc (.cells #[.int .i64 0] 3)).alloc (.cells #[.pointer (some ⟨w.heap.size, 0, none⟩)] 23)).alloc (.cells #[.int .i64 lo] 2)).alloc (.cells #[.int .i64 hi] 2) := ⟨_, rfl⟩
  have hB0 : Below w.heap.size w W0 := by rw [hW0]; exact (((((Below.refl _ w).alloc (Nat.le_refl _) _).alloc (by simp) _).alloc (by simp; omega) _).alloc (by simp; omega) _).alloc (by simp; omega) _
  have hs0 : W0.heap.size = w.heap.size + 5 := by rw [hW0]; simp
  have hz : W0.cell? ⟨w.heap.size, 0, none⟩ = some (.bool false) := by
    rw [hW0]
    exact cell_later ((((((Below.refl _ _).alloc (Nat.le_refl _) _).alloc (by simp) _).alloc (by simp <;> omega) _).alloc (by simp <;> omega) _)) (World.cell?_alloc_mark w #[.bool false, .int .i64 0, .slice none 0 0] TMap (0, 0) 0)
  have bN : Boxed W0 (w.heap.size + 1) 3 (.int .i64 0) := by
    have := Boxed.new (w.alloc (.cells #[.bool false, .int .i64 0, .slice none 0 0] TMap)) 3 (.int .i64 0)
    rw [World.size_alloc] at this
    rw [hW0]; exact ((this.alloc _).alloc _).alloc _
  have bx1 : W0.cell? ⟨w.heap.size + 1 + 1, 0, none⟩ = some (.pointer (some ⟨w.heap.size, 0, none⟩)) := by
    have := Boxed.new ((w.alloc (.cells #[.bool false, .int .i64 0, .slice none 0 0] TMap)).alloc (.cells #[.int .i64 0] 3)) 23 (.pointer (some ⟨w.heap.size, 0, none⟩))
    rw [World.size_alloc, World.size_alloc] at this
    rw [hW0]; exact ((this.alloc _).alloc _).cell
  have bx2 : W0.cell? ⟨w.heap.size + 1 + 1 + 1, 0, none⟩ = some (.int .i64 lo) := by
    have := Boxed.new (((w.alloc (.cells #[.bool false, .int .i64 0, .slice none 0 0] TMap)).alloc (.cells #[.int .i64 0] 3)).alloc (.cells #[.pointer (some ⟨w.heap.size, 0, none⟩)] 23)) 2 (.int .i64 lo)
    rw [World.size_alloc, World.size_alloc, World.size_alloc] at this
    rw [hW0]; exact (this.alloc _).cell
  have bx3 : W0.cell? ⟨w.heap.size + 1 + 1 + 2, 0, none⟩ = some (.int .i64 hi) := by
    have := Boxed.new ((((w.alloc (.cells #[.bool false, .int .i64 0, .slice none 0 0] TMap)).alloc (.cells #[.int .i64 0] 3)).alloc (.cells #[.pointer (some ⟨w.heap.size, 0, none⟩)] 23)).alloc (.cells #[.int .i64 lo] 2)) 2 (.int .i64 hi)
    rw [World.size_alloc, World.size_alloc, World.size_alloc, World.size_alloc] at this
    rw [hW0]; exact this.cell
  have HU : Hid (∀ W, Below W0.heap.size W0 W → Un (some ⟨w.heap.size, 0, none⟩) W) := fun W hb => usable_at w.heap.size false W (cell_later hb hz)
  have hseq := runs1_none 3 (by omega) (some ⟨w.heap.size, 0, none⟩) lo hi HU bx1 bx2 bx3
  rw [← hW0]
  clear bx1 bx2 bx3
  refine wpIn_rangeFunc_ownH rfl (by omega) (gf := 38) (lb := #[.pointer (some ⟨w.heap.size + 1 + 1, 0, none⟩), .pointer (some ⟨w.heap.size + 1 + 1 + 1, 0, none⟩), .pointer (some ⟨w.heap.size + 1 + 1 + 2, 0, none⟩)]) rfl f2 (enters_of Try.func38 (by kernel_rfl) rfl)
    hseq keepR_t (keepR_b (w := W0)) (Below.refl _ _) (fun _ => rfl)
    (fun pre W => Boxed W (w.heap.size + 1) 3 (.int .i64 0) ∧ Below W0.heap.size W0 W)
    (fun _ _ _ => False)
    (OwnFrom.and (Own.from (boxed_own (w.heap.size + 1) 3 (fun _ => .int .i64 0)) _) (ownFrom_below (Nat.le_refl _) (by omega)))
    (fun _ _ _ _ _ hs _ _ => hs)
    ⟨bN, Below.refl _ _⟩
    (fun _ _ _ => True)
    (fun _ _ _ _ _ _ _ _ _ => trivial)
    ?assign ?body ?done ?stop
  case assign =>
    rintro l pre x W K hI hK
    gi_wp2
    exact hK _ _ (KeepsFrom.refl _ _) (fun _ _ _ h => h) hI trivial
  case body =>
    intro l pre x a' W hl hr hI hA hlt
    exact absurd hlt (Nat.not_lt_zero _)
  case stop =>
    rintro D c pre W _ _ h _
    exact h.elim
  case done =>
    rintro D ys W hD rfl ⟨bW, hBW⟩ hK
    have hcn := bW.cell
    have U0 := HU.out W hBW
    have HBW : Hid (Below w.heap.size w W) := hB0.trans (hBW.mono hB0.size)
    have HNw := new_any 0 v W (by decide) (by decide)
    gi_wp2_with (first | (gi_at_call 16; refine (callsIn_wide.2 (at_no (some ⟨w.heap.size, 0, none⟩) (.int .i64 lo) W U0)).mono ?_; rintro e w9 ⟨rfl, hw9⟩; rw [hw9]; clear hw9) | (gi_at_call 17; refine (callsIn_wide.2 HNw).mono ?_; rintro e w1 ⟨b1, v1, rfl, hMO, hb1⟩))
    have U1 := HU.out w1 (hBW.trans (hb1.mono hBW.size))
    have hone := usable_at b1 true w1 (hMO.c 0)
    have HSa := same_left (some ⟨w.heap.size, 0, none⟩) (some ⟨b1, 0, none⟩) w1 U1 hone
    have HSb := same_right (some ⟨w.heap.size, 0, none⟩) (some ⟨b1, 0, none⟩) w1 U1 hone
    have HSc := same_none (some ⟨w.heap.size, 0, none⟩) w1 U1
    have HB1 : Hid (Below w.heap.size w w1) := HBW.out.trans (hb1.mono HBW.out.size)
    have hK1 : w1.heap[D]? = some (.deferred (some [])) := (hb1.block D (Array.getElem?_eq_some_iff.1 hK).1).trans hK
    have hcn1 : w1.cell? ⟨w.heap.size + 1, 0, none⟩ = some (.int .i64 0) := cell_later hb1 hcn
    clear hone hMO hb1 HNw U0 hK hcn bW hBW
    gi_wp2_with (gi_at_call 13; refine (callsIn_wide.2 HSa).mono ?_; clear HSa; rintro e w9 ⟨rfl, hw9⟩; rw [hw9]; clear hw9)
    gi_wp2_with (gi_at_call 13; refine (callsIn_wide.2 HSb).mono ?_; clear HSb; rintro e w9 ⟨rfl, hw9⟩; rw [hw9]; clear hw9)
    gi_wp2_with (gi_at_call 13; refine (callsIn_wide.2 HSc).mono ?_; clear HSc; rintro e w9 ⟨rfl, hw9⟩; rw [hw9]; clear hw9)
    have HSet := set_no (some ⟨w.heap.size, 0, none⟩) (.int .i64 lo) (.int .i64 hi) (.int .i64 v) w1 U1
    have HSiz := size_no (some ⟨w.heap.size, 0, none⟩) w1 U1
    have HCnt := count_no (some ⟨w.heap.size, 0, none⟩) w1 U1
    have HCpy := copy_no (some ⟨w.heap.size, 0, none⟩) w1 U1
    have HAl := alive_any w1
    clear U1
    gi_wp2_with (first | (gi_at_call 14; refine (callsIn_wide.2 HSet).mono ?_; rintro e w9 ⟨rfl, hw9⟩; rw [hw9]; clear hw9) | (gi_at_call 18; refine (callsIn_wide.2 (num_any _ _)).mono ?_; rintro e w9 ⟨rfl, hw9⟩; rw [hw9]; clear hw9) | (gi_at_call 19; refine (callsIn_wide.2 HSiz).mono ?_; rintro e w9 ⟨rfl, hw9⟩; rw [hw9]; clear hw9) | (gi_at_call 20; refine (callsIn_wide.2 HCnt).mono ?_; rintro e w9 ⟨rfl, hw9⟩; rw [hw9]; clear hw9) | (gi_at_call 12; refine (callsIn_wide.2 HCpy).mono ?_; rintro e w9 ⟨rfl, hw9⟩; rw [hw9]; clear hw9) | (gi_at_call 11; refine (callsIn_wide.2 HAl).mono ?_; rintro e w2 ⟨rfl, hb2⟩))
    have hK2 : w2.heap[D]? = some (.deferred (some [])) := (hb2.block D (Array.getElem?_eq_some_iff.1 hK1).1).trans hK1
    refine ⟨by simp, .inl ⟨_, _, rfl, run_takeDeferred hK2, ?_⟩⟩
    exact ⟨_, results_tmp rfl _ _ _, rfl, (HB1.out.trans (hb2.mono HB1.out.size)).trans (belowK_b (w := w) (Nat.le_refl _) w2 D _ _ (by omega) hK2 rfl rfl)⟩

theorem nobody_any (lo hi v : Int) (b : Bool) (w : World) : Calls Try.prog 4 #[.int .i64 lo, .int .i64 hi, .int .i64 v, .bool b] w fun e w' => e = .returned (.bool true) ∧ Below w.heap.size w w' := by
  cases b
  · exact nobody_nil lo hi v w
  · exact nobody_zero lo hi v w
end Go.Proofs.Ytijafckdbhklmab.I
