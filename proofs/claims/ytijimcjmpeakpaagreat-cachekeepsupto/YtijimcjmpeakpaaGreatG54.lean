import Derived.Test.YtijimcjmpeakpaaGreatzCNa
import Derived.Deep.RegionHeld3
import Derived.Carry
import Derived.ProofKit
import Derived.OpenShut
import Derived.SizedLaws
import Derived.Deep.Slices
namespace Go.Proofs.YtijimcjmpeakpaaGreat.C
open Go.RowKit Go.Maps Go.Shelf Go.Proofs.YtijimcjmpeakpaaGreat
attribute [local go_sem] Oper.semAt_some
set_option linter.unusedVariables false
set_option linter.unusedSimpArgs false
set_option maxRecDepth 100000

abbrev TLs : TypeId := 68
abbrev TLi : TypeId := 114
set_option maxHeartbeats 4000000 in
/-- it gives nothing to range over -/
theorem seq_dead (n : Nat) (hn : 2 ≤ n) {H : Nat} {w : World} {b0 : Nat} (p : Option Addr) (HU : Hid (∀ W, Below w.heap.size w W → Dead W (.pointer p)))
    (c0 : w.cell? ⟨b0, 0, none⟩ = some (.pointer p)) :
    SeqStopsK Fence.wide n Tryz.prog 72 #[.pointer (some ⟨b0, 0, none⟩)] (fun p : Int × Bool × Bool => #[.agg #[.int .i64 p.1, .bool p.2.1, .bool p.2.2]]) (KpH H) (fun xs => xs = []) (fun _ => False) 0 w := by
  intro l J Jx W hW hJ hJx hY h0
  have HP := told_dead p (HU.out W hW)
  have d0 : W.cell? ⟨b0, 0, none⟩ = some (.pointer p) := cell_later hW c0
  have HJ1 : Hid (J [] (W.alloc (.cells #[.pointer p] 28))) := hJ [] W _ none h0 (World.grownBy_alloc W _ none) (fun r e => by cases e)
  have hf : Fence.wide.fn 72 := trivial
  have hf2 : Fence.wide.fn 73 := trivial
  have h1 : 1 ≤ n := by omega
  have h1' : 1 ≤ n - 1 := by omega
  clear hY HU c0 h0
  refine callsIn_of_wp Tryz.func72 rfl hf ?_ rfl
  simp only [Tryz.ntmps72, List.size_toArray, List.length_cons, List.length_nil, Nat.reduceAdd, Nat.reduceSub, Array.replicate_succ, Array.replicate_zero, List.push_toArray, List.append_toArray, List.nil_append, List.cons_append]
  gi_wp2_with (gi_at_call 73; refine (callsIn_wide.2 HP).mono ?_; rintro e w9 ⟨rfl, hw9⟩; rw [hw9]; clear hw9)
  gi_loopw [8] (fun i wr => i = .int .i64 0 ∧ Hid (J [] wr)) (fun i _ => 0)
  case atStart => exact ⟨rfl, HJ1⟩
  case round =>
    obtain ⟨rfl, HJr⟩ := hrel
    gi_wp2
    go_end0
    exact ⟨⟨_, rfl⟩, .inl ⟨[], rfl, HJr.out⟩⟩

set_option maxHeartbeats 8000000 in
theorem lines_dead {w : World} (p : Option Addr) (HU : Hid (∀ W, Below w.heap.size w W → Dead W (.pointer p))) :
    Calls Tryz.prog 13 #[.pointer p] w fun e w' => e = .returned (.slice none 0 0) ∧ Below w.heap.size w w' := by
  have qs : ∀ (w : World) (f : Fn) (a b : Array Value), (binOp .eql 111 (.func f a b) .nilFunc).run Tryz.prog w = .ok (.bool false) w := fun _ _ _ _ => rfl
  refine (callsIn_wide (n := 4)).1 ?_
  have f0 : Fence.wide.fn 13 := trivial
  have f1 : Fence.wide.fn 40 := trivial
  have f2 : Fence.wide.fn 72 := trivial
  refine callsIn_of_wp_marks Tryz.func13 rfl f0 ?_ rfl
  simp only [Tryz.ntmps13, List.size_toArray, List.length_cons, List.length_nil, Nat.reduceAdd, Nat.reduceSub, Array.replicate_succ, Array.replicate_zero, List.push_toArray, List.append_toArray, List.nil_append, List.cons_append]
  gi_wp2_with (gi_at_call 40; refine (callsIn_wide.2 (lines_fn _ _)).mono ?_; rintro e w' ⟨rfl, rfl⟩)
  obtain ⟨W0, hW0⟩ : ∃ W0, W0 = (w.alloc (.cells #[.slice none 0 0] TLs)).alloc (.cells #[.pointer p] 28) := ⟨_, rfl⟩
  have hB0 : Below w.heap.size w W0 := by rw [hW0]; exact ((Below.refl _ w).alloc (Nat.le_refl _) _).alloc (by simp) _
  have hs0 : W0.heap.size = w.heap.size + 2 := by rw [hW0]; simp
  have bO : Boxed W0 w.heap.size TLs (.slice none 0 0) := by rw [hW0]; exact (Boxed.new w TLs (.slice none 0 0)).alloc _
  have bx1 : W0.cell? ⟨w.heap.size + 1, 0, none⟩ = some (.pointer p) := by
    have := Boxed.new (w.alloc (.cells #[.slice none 0 0] TLs)) 28 (.pointer p)
    rw [World.size_alloc] at this
    rw [hW0]; exact this.cell
  have hseq := seq_dead 3 (by omega) (H := w.heap.size) p (w := W0) (fun W hW => HU.out W (hB0.trans (hW.mono hB0.size))) bx1
  rw [← hW0]
  clear bx1
  refine wpIn_rangeFunc_ownH rfl (by omega) (gf := 72) (lb := #[.pointer (some ⟨w.heap.size + 1, 0, none⟩)]) rfl f2 (enters_of Tryz.func72 (by kernel_rfl) rfl)
    hseq kpH_t (kpH_b (w := W0) (by omega)) (Below.refl _ _) (fun _ => rfl)
    (fun pre W => Boxed W w.heap.size TLs (.slice none 0 0) ∧ Below w.heap.size w W)
    (fun _ _ _ => False)
    (OwnFrom.and (Own.from (boxed_own w.heap.size TLs (fun (pre : List (Int × Bool × Bool)) => .slice none 0 0)) _) (ownFrom_below (Nat.le_refl _) (by omega)))
    (fun _ _ _ _ _ hs _ _ => hs)
    ⟨bO, hB0⟩
    (fun _ _ _ => True)
    (fun _ _ _ _ _ _ _ _ _ => trivial)
    ?assign ?body ?done ?stop
  case assign =>
    rintro l pre x W K ⟨hv, hB⟩ hK
    gi_wp2
    exact hK _ _ ((KeepsOthers.alloc W _).from _) (below_kpH ((Below.refl _ W).alloc (Nat.le_refl _) _ |>.mono hB.size)) ⟨hv.alloc _, hB.alloc hB.size _⟩ trivial
  case body =>
    intro l pre x a' W hl hr hI hA hlt
    exact absurd hlt (Nat.not_lt_zero _)
  case done =>
    rintro D ys W hD rfl ⟨hv, hB⟩ hK
    have hc := hv.cell
    gi_wp2
    refine ⟨by simp, .inl ⟨_, _, rfl, run_takeDeferred hK, ?_⟩⟩
    exact ⟨_, results_tmp rfl _ _ _, rfl, hB.trans (belowK_b (w := w) (Nat.le_refl _) W D _ _ (by omega) hK rfl rfl)⟩
  case stop =>
    rintro D c pre W _ _ h _
    exact h.elim
end Go.Proofs.YtijimcjmpeakpaaGreat.C

namespace Go.Proofs.YtijimcjmpeakpaaGreat.C
open Go.RowKit Go.Maps Go.Shelf Go.Proofs.YtijimcjmpeakpaaGreat
attribute [local go_sem] Oper.semAt_some
set_option linter.unusedVariables false
set_option linter.unusedSimpArgs false
set_option maxRecDepth 100000

set_option maxHeartbeats 8000000 in
theorem nobody_any {w : World} {p : Option Addr} (h : Dead w (.pointer p)) (k s m : Int) (fill : Nat) (hf : fill < 256) (lv f0 f1 f2 f3 f4 kv : Value) :
    Calls Tryz.prog 9 #[.pointer p, .agg #[.int .i64 k, .int .i64 s, .int .u8 fill, .int .i64 m, lv, f0, f1, f2, f3, f4, kv]] w fun r w' => r = .returned (.bool true) ∧ Below w.heap.size w w' := by
  obtain ⟨W0, hW0⟩ : ∃ W0, W0 = w.alloc (.cells #[.int .i64 k, .int .i64 s, .int .u8 fill, .int .i64 m, lv, f0, f1, f2, f3, f4, kv] 27) := ⟨_, rfl⟩
  have hB0 : Below w.heap.size w W0 := by rw [hW0]; exact (Below.refl _ w).alloc (Nat.le_refl _) _
  have hbx : W0.heap[w.heap.size]? = some (.cells #[.int .i64 k, .int .i64 s, .int .u8 fill, .int .i64 m, lv, f0, f1, f2, f3, f4, kv] 27) := by rw [hW0]; exact heap_alloc_new w _
  have hlt : w.heap.size < W0.heap.size := by rw [hW0, World.size_alloc]; omega
  have HC : Hid (∀ W, Below W0.heap.size W0 W → ∀ j, W.cell? ⟨w.heap.size, j, none⟩ = (#[.int .i64 k, .int .i64 s, .int .u8 fill, .int .i64 m, lv, f0, f1, f2, f3, f4, kv] : Array Value)[j]?) := fun W hb j => K.cell_of ((hb.block _ hlt).trans hbx)
  have HD0 : Hid (Dead W0 (.pointer p)) := h.later hB0
  have HL : Hid (∀ W, Below W0.heap.size W0 W → Dead W (.pointer p)) := fun W hb => HD0.out.later hb
  have HF : Hid (∀ W, Below W0.heap.size W0 W → Below w.heap.size w W) := fun W hb => hB0.trans (hb.mono hB0.size)
  have HB0 : Hid (Below W0.heap.size W0 W0) := Below.refl _ _
  have hi := Tryz.underlying36
  clear h hB0 hbx hlt
  go_enter Tryz.func9, Tryz.ntmps9
  go_wp2_with fail
  rw [← hW0]
  refine Calls.mono (read_dead (HL.out _ HB0.out) s) ?_
  rintro e W1 ⟨rfl, hb⟩
  have HB1 : Hid (Below W0.heap.size W0 W1) := by show Below _ _ _; rw [hb]; exact HB0.out
  clear hb
  have q1 : W1.cell? ⟨w.heap.size, 1, none⟩ = some (.int .i64 s) := HC.out _ HB1.out 1
  have q2 : W1.cell? ⟨w.heap.size, 2, none⟩ = some (.int .u8 fill) := HC.out _ HB1.out 2
  have q3 : W1.cell? ⟨w.heap.size, 3, none⟩ = some (.int .i64 m) := HC.out _ HB1.out 3
  have HB1d : Hid (Below W0.heap.size W0 W1.drew) := HB1.out.drew
  go_wp2_with fail
  go_region_held3 (fun w' => w'.cell? ⟨w.heap.size, 1, none⟩ = some (.int .i64 s) ∧ w'.cell? ⟨w.heap.size, 2, none⟩ = some (.int .u8 fill) ∧ w'.cell? ⟨w.heap.size, 3, none⟩ = some (.int .i64 m)) (first | exact ⟨HC.out _ HB3.out 1, HC.out _ HB3.out 2, HC.out _ HB3.out 3⟩ | exact ⟨HC.out _ HB2.out 1, HC.out _ HB2.out 2, HC.out _ HB2.out 3⟩ | go_keep) (first | (go_at_call 18; refine Calls.mono (K.bytes_any W1.drew fill m hf) ?_; rintro e W2 ⟨v2, rfl, ho, hb⟩; have HB2 : Hid (Below W0.heap.size W0 W2) := HB1d.out.trans (hb.mono HB1d.out.size); clear ho hb) | (go_at_call 17; refine Calls.mono (write_dead (HL.out _ HB2.out) s _) ?_; rintro e W3 ⟨rfl, hb⟩; have HB3 : Hid (Below W0.heap.size W0 W3) := (by show Below _ _ _; rw [hb]; exact HB2.out); clear hb))
  clear q1 q2 q3
  go_wp2_with fail
  refine Calls.mono (flush_dead (HL.out _ HB3.out)) ?_
  rintro e W4 ⟨rfl, hb⟩
  have HB4 : Hid (Below W0.heap.size W0 W4) := by show Below _ _ _; rw [hb]; exact HB3.out
  clear hb
  have q4 : W4.cell? ⟨w.heap.size, 4, none⟩ = some (lv) := HC.out _ HB4.out 4
  go_wp2_with fail
  refine Calls.mono (through_dead (HL.out _ HB4.out) lv) ?_
  rintro e W5 ⟨rfl, hb⟩
  have HB5 : Hid (Below W0.heap.size W0 W5) := by show Below _ _ _; rw [hb]; exact HB4.out
  clear hb q4
  go_wp2_with fail
  refine Calls.mono (back_dead (HL.out _ HB5.out)) ?_
  rintro e W6 ⟨rfl, hb⟩
  have HB6 : Hid (Below W0.heap.size W0 W6) := by show Below _ _ _; rw [hb]; exact HB5.out
  clear hb
  have q1 : W6.cell? ⟨w.heap.size, 1, none⟩ = some (.int .i64 s) := HC.out _ HB6.out 1
  go_wp2_with fail
  refine Calls.mono (peek_dead (HL.out _ HB6.out) s) ?_
  rintro e W7 ⟨rfl, hb⟩
  have HB7 : Hid (Below W0.heap.size W0 W7) := by show Below _ _ _; rw [hb]; exact HB6.out
  clear hb q1
  have q1 : W7.cell? ⟨w.heap.size, 1, none⟩ = some (.int .i64 s) := HC.out _ HB7.out 1
  go_wp2_with fail
  refine Calls.mono (dirty_dead (HL.out _ HB7.out) s) ?_
  rintro e W8 ⟨rfl, hb⟩
  have HB8 : Hid (Below W0.heap.size W0 W8) := by show Below _ _ _; rw [hb]; exact HB7.out
  clear hb q1
  have q1 : W8.cell? ⟨w.heap.size, 1, none⟩ = some (.int .i64 s) := HC.out _ HB8.out 1
  go_wp2_with fail
  refine Calls.mono (safe_dead (HL.out _ HB8.out) s) ?_
  rintro e W9 ⟨rfl, hb⟩
  have HB9 : Hid (Below W0.heap.size W0 W9) := by show Below _ _ _; rw [hb]; exact HB8.out
  clear hb q1
  go_wp2_with fail
  refine Calls.mono (lines_dead p (fun W hb => HL.out _ (HB9.out.trans (hb.mono HB9.out.size)))) ?_
  rintro e W10 ⟨rfl, hb⟩
  have HB10 : Hid (Below W0.heap.size W0 W10) := HB9.out.trans (hb.mono HB9.out.size)
  clear hb
  go_wp2_with fail
  refine Calls.mono (stats_dead (HL.out _ HB10.out)) ?_
  rintro e W11 ⟨rfl, hb⟩
  have HB11 : Hid (Below W0.heap.size W0 W11) := HB10.out.trans (hb.mono HB10.out.size)
  clear hb
  go_wp2
  go_ret
  exact ⟨rfl, HF.out _ HB11.out⟩
end Go.Proofs.YtijimcjmpeakpaaGreat.C

namespace Go.Proofs.YtijimcjmpeakpaaGreat.C
open Go.RowKit Go.Maps Go.Shelf Go.Proofs.YtijimcjmpeakpaaGreat Go.ChangeShapes Go.WideShapes Go.ChangeAt Go.Deep
attribute [local go_sem] Oper.semAt_some
set_option linter.unusedVariables false
set_option linter.unusedSimpArgs false
set_option maxRecDepth 100000

set_option maxHeartbeats 4000000 in
theorem lawNobody_any (w : World) (k s m : Int) (fill : Nat) (hf : fill < 256) (lv f0 f1 f2 f3 f4 kv : Value) :
    Calls Tryz.prog 3 #[.agg #[.int .i64 k, .int .i64 s, .int .u8 fill, .int .i64 m, lv, f0, f1, f2, f3, f4, kv]] w fun r w' => r = .returned (.bool true) ∧ Below w.heap.size w w' := by
  obtain ⟨W0, hW0⟩ : ∃ W0, W0 = w.alloc (.cells #[.int .i64 k, .int .i64 s, .int .u8 fill, .int .i64 m, lv, f0, f1, f2, f3, f4, kv] 27) := ⟨_, rfl⟩
  have hB0 : Below w.heap.size w W0 := by rw [hW0]; exact (Below.refl _ w).alloc (Nat.le_refl _) _
  have hbx : W0.heap[w.heap.size]? = some (.cells #[.int .i64 k, .int .i64 s, .int .u8 fill, .int .i64 m, lv, f0, f1, f2, f3, f4, kv] 27) := by rw [hW0]; exact heap_alloc_new w _
  have hlt : w.heap.size < W0.heap.size := by rw [hW0, World.size_alloc]; omega
  have HC : Hid (∀ W, Below W0.heap.size W0 W → ∀ j, W.cell? ⟨w.heap.size, j, none⟩ = (#[.int .i64 k, .int .i64 s, .int .u8 fill, .int .i64 m, lv, f0, f1, f2, f3, f4, kv] : Array Value)[j]?) := fun W hb j => K.cell_of ((hb.block _ hlt).trans hbx)
  have HF : Hid (∀ W, Below W0.heap.size W0 W → Below w.heap.size w W) := fun W hb => hB0.trans (hb.mono hB0.size)
  have H1 := nobody_any (dead_nil W0) k s m fill hf lv f0 f1 f2 f3 f4 kv
  clear hB0 hbx hlt
  go_enter Tryz.func3, Tryz.ntmps3
  go_wp2_with fail
  rw [← hW0]
  refine H1.mono ?_
  clear H1
  rintro e w1 ⟨rfl, hb1⟩
  have HB1 : Hid (Below W0.heap.size W0 w1) := hb1
  have q0 : w1.cell? ⟨w.heap.size, 0, none⟩ = some (.int .i64 k) := HC.out _ hb1 0
  have p0 : ∀ o, (w1.alloc o).cell? ⟨w.heap.size, 0, none⟩ = some (.int .i64 k) := fun o => HC.out _ (hb1.alloc hb1.size o) 0
  have q1 : w1.cell? ⟨w.heap.size, 1, none⟩ = some (.int .i64 s) := HC.out _ hb1 1
  have p1 : ∀ o, (w1.alloc o).cell? ⟨w.heap.size, 1, none⟩ = some (.int .i64 s) := fun o => HC.out _ (hb1.alloc hb1.size o) 1
  have q2 : w1.cell? ⟨w.heap.size, 2, none⟩ = some (.int .u8 fill) := HC.out _ hb1 2
  have p2 : ∀ o, (w1.alloc o).cell? ⟨w.heap.size, 2, none⟩ = some (.int .u8 fill) := fun o => HC.out _ (hb1.alloc hb1.size o) 2
  have q3 : w1.cell? ⟨w.heap.size, 3, none⟩ = some (.int .i64 m) := HC.out _ hb1 3
  have p3 : ∀ o, (w1.alloc o).cell? ⟨w.heap.size, 3, none⟩ = some (.int .i64 m) := fun o => HC.out _ (hb1.alloc hb1.size o) 3
  have q4 : w1.cell? ⟨w.heap.size, 4, none⟩ = some (lv) := HC.out _ hb1 4
  have p4 : ∀ o, (w1.alloc o).cell? ⟨w.heap.size, 4, none⟩ = some (lv) := fun o => HC.out _ (hb1.alloc hb1.size o) 4
  have q5 : w1.cell? ⟨w.heap.size, 5, none⟩ = some (f0) := HC.out _ hb1 5
  have p5 : ∀ o, (w1.alloc o).cell? ⟨w.heap.size, 5, none⟩ = some (f0) := fun o => HC.out _ (hb1.alloc hb1.size o) 5
  have q6 : w1.cell? ⟨w.heap.size, 6, none⟩ = some (f1) := HC.out _ hb1 6
  have p6 : ∀ o, (w1.alloc o).cell? ⟨w.heap.size, 6, none⟩ = some (f1) := fun o => HC.out _ (hb1.alloc hb1.size o) 6
  have q7 : w1.cell? ⟨w.heap.size, 7, none⟩ = some (f2) := HC.out _ hb1 7
  have p7 : ∀ o, (w1.alloc o).cell? ⟨w.heap.size, 7, none⟩ = some (f2) := fun o => HC.out _ (hb1.alloc hb1.size o) 7
  have q8 : w1.cell? ⟨w.heap.size, 8, none⟩ = some (f3) := HC.out _ hb1 8
  have p8 : ∀ o, (w1.alloc o).cell? ⟨w.heap.size, 8, none⟩ = some (f3) := fun o => HC.out _ (hb1.alloc hb1.size o) 8
  have q9 : w1.cell? ⟨w.heap.size, 9, none⟩ = some (f4) := HC.out _ hb1 9
  have p9 : ∀ o, (w1.alloc o).cell? ⟨w.heap.size, 9, none⟩ = some (f4) := fun o => HC.out _ (hb1.alloc hb1.size o) 9
  have q10 : w1.cell? ⟨w.heap.size, 10, none⟩ = some (kv) := HC.out _ hb1 10
  have p10 : ∀ o, (w1.alloc o).cell? ⟨w.heap.size, 10, none⟩ = some (kv) := fun o => HC.out _ (hb1.alloc hb1.size o) 10
  clear hb1 HC
  go_wp2_with fail
  refine Calls.mono (nobody_any (dead_zero (heap_alloc_new w1 _) rfl) k s m fill hf lv f0 f1 f2 f3 f4 kv) ?_
  rintro e w2 ⟨rfl, hb2⟩
  have HB2 : Hid (Below W0.heap.size W0 w2) := HB1.out.trans ((((Below.refl _ w1).alloc (Nat.le_refl _) _).trans (hb2.mono (by rw [World.size_alloc]; omega))).mono HB1.out.size)
  clear hb2 HB1 q0 p0 q1 p1 q2 p2 q3 p3 q4 p4 q5 p5 q6 p6 q7 p7 q8 p8 q9 p9 q10 p10
  go_wp2_with fail
  refine Calls.mono (heads_c w2) ?_
  rintro e w3 ⟨rfl, hb3⟩
  have HB3 : Hid (Below W0.heap.size W0 w3) := HB2.out.trans (hb3.mono HB2.out.size)
  clear hb3 HB2
  go_wp2
  go_ret
  exact ⟨rfl, HF.out _ HB3.out⟩

theorem laidOut : laidOutB Tryz.prog = true := by kernel_rfl
theorem cellsInt : Tryz.prog.cellsOf 3 = 1 := by kernel_rfl
theorem cellsU8 : Tryz.prog.cellsOf 5 = 1 := by kernel_rfl
theorem cellsOp : Tryz.prog.cellsOf 27 = 11 := by kernel_rfl
theorem elevenV {cs : List Value} (h : cs.length = 11) : ∃ a b c d e f g i j k l, cs = [a, b, c, d, e, f, g, i, j, k, l] := by
  match cs, h with
  | [a, b, c, d, e, f, g, i, j, k, l], _ => exact ⟨a, b, c, d, e, f, g, i, j, k, l, rfl⟩
theorem open_op {H : Type} {enc : TypeId × Value → H} {W : World} {base fuel : Nat} {cs : List Value} {x : DataW H × List MemPlace} (hf : DataW.trod enc Tryz.prog W base (fun _ => true) true fuel 27 cs = some x) :
    ∃ (k s m : Int) (fill : Nat) (lv f0 f1 f2 f3 f4 kv : Value), cs = [.int .i64 k, .int .i64 s, .int .u8 fill, .int .i64 m, lv, f0, f1, f2, f3, f4, kv] ∧ fill < 256 := by
  obtain ⟨xs, m, _, _, hl, hxl, hall⟩ := DataW.trod_struct Tryz.underlying27 hf
  obtain ⟨a, b, c, d, lv, f0, f1, f2, f3, f4, g, rfl⟩ := elevenV (hl.trans cellsOp)
  have hx7 : xs.length = 7 := hxl
  have h0 : DataW.trod enc Tryz.prog W base (fun _ => true) true m 3 (([a, b, c, d, lv, f0, f1, f2, f3, f4, g].drop 0).take (Tryz.prog.cellsOf 3)) = xs[0]? := hall 0 _ rfl
  have h1 : DataW.trod enc Tryz.prog W base (fun _ => true) true m 3 (([a, b, c, d, lv, f0, f1, f2, f3, f4, g].drop 1).take (Tryz.prog.cellsOf 3)) = xs[1]? := hall 1 _ rfl
  have h2 : DataW.trod enc Tryz.prog W base (fun _ => true) true m 5 (([a, b, c, d, lv, f0, f1, f2, f3, f4, g].drop 2).take (Tryz.prog.cellsOf 5)) = xs[2]? := hall 2 _ rfl
  have h3 : DataW.trod enc Tryz.prog W base (fun _ => true) true m 3 (([a, b, c, d, lv, f0, f1, f2, f3, f4, g].drop 3).take (Tryz.prog.cellsOf 3)) = xs[3]? := hall 3 _ rfl
  rw [List.getElem?_eq_getElem (by omega)] at h0 h1 h2 h3
  rw [cellsInt] at h0 h1 h3
  rw [cellsU8] at h2
  obtain ⟨z0, e0, _, _⟩ := DataW.trod_int Tryz.underlying3 h0
  obtain ⟨z1, e1, _, _⟩ := DataW.trod_int Tryz.underlying3 h1
  obtain ⟨z2, e2, _, w2⟩ := DataW.trod_int Tryz.underlying5 h2
  obtain ⟨z3, e3, _, _⟩ := DataW.trod_int Tryz.underlying3 h3
  simp at e0 e1 e2 e3
  subst e0; subst e1; subst e2; subst e3
  have hb := bounds_u8 w2
  obtain ⟨fill, rfl⟩ := Int.eq_ofNat_of_zero_le hb.1
  exact ⟨z0, z1, z3, fill, lv, f0, f1, f2, f3, f4, g, rfl, by omega⟩
end Go.Proofs.YtijimcjmpeakpaaGreat.C
