import Derived.Test.YtpchllepboolhabRVIF
import Derived.Test.YtpchllepboolhabROI
import Derived.Test.YtpchllepboolhabRCHI
namespace Go.Proofs.Ytpchllepboolhab.I.F
open Go.RowKit Go.Maps Go.Shelf Go.Proofs.Ytpchllepboolhab.I
attribute [local go_sem] Oper.semAt_some
set_option linter.unusedVariables false
set_option linter.unusedSimpArgs false
set_option maxRecDepth 100000

/-- an order that no call made -/
def Un (p : Option Addr) (W : World) : Prop := Calls Try.prog 38 #[.pointer p] W fun e w' => e = .returned (.bool false) ∧ w' = W
theorem walk_no (p : Option Addr) (fn : Fn) (fa fb : Array Value) (W : World) (h : Un p W) : Calls Try.prog 45 #[.pointer p, .func fn fa fb] W fun r w' => r = .returned (.tuple #[]) ∧ w' = W := by
  unfold Un at h
  go_enter Try.func45, Try.ntmps45
  go_wp2_with (go_at_call 38; refine h.mono ?_; rintro e w9 ⟨rfl, hw9⟩; rw [hw9]; clear hw9)
  refine bodyPost_ret (results_none rfl _ _ _) rfl ?_
  exact ⟨rfl, rfl⟩

set_option maxHeartbeats 4000000 in
/-- it gives nothing to range over -/
theorem seq_none (n : Nat) (hn : 2 ≤ n) {Kp : World → World → Prop} {w : World} {b0 b1 : Nat} (p : Option Addr) (HU : Hid (∀ W, Below w.heap.size w W → Un p W))
    (c0 : w.cell? ⟨b0, 0, none⟩ = some (.pointer p)) :
    SeqStopsK Fence.wide n Try.prog 61 #[.pointer (some ⟨b0, 0, none⟩), .pointer (some ⟨b1, 0, none⟩)] (fun (k : Int) => #[kv k]) Kp (fun xs => xs = []) (fun _ => False) 0 w := by
  intro l J Jx W hW hJ hJx hY h0
  have hB : Below W.heap.size W (W.alloc (.cells #[.slice none 0 0] TKeys)) := (Below.refl _ W).alloc (Nat.le_refl _) _
  have HP := fun (fn : Fn) (fa fb : Array Value) => walk_no p fn fa fb (W.alloc (.cells #[.slice none 0 0] TKeys)) (HU.out _ (hW.trans (hB.mono hW.size)))
  have d0 : (W.alloc (.cells #[.slice none 0 0] TKeys)).cell? ⟨b0, 0, none⟩ = some (.pointer p) := cell_later hB (cell_later hW c0)
  have hmf : ∀ (fn : Fn) (first cap : Array Value) (w : World), (Instr.makeFunc fn first cap).run Try.prog w = .ok (.func fn first cap) w := fun _ _ _ _ => rfl
  have dk : (W.alloc (.cells #[.slice none 0 0] TKeys)).cell? ⟨W.heap.size, 0, none⟩ = some (.slice none 0 0) := (Boxed.new W TKeys (.slice none 0 0)).cell
  have HJ1 : Hid (J [] (W.alloc (.cells #[.slice none 0 0] TKeys))) := hJ [] W _ none h0 (World.grownBy_alloc W _ none) (fun r e => by cases e)
  have hf : Fence.wide.fn 61 := trivial
  have hf2 : Fence.wide.fn 45 := trivial
  have h1 : 1 ≤ n := by omega
  have h1' : 1 ≤ n - 1 := by omega
  clear hY HU c0 h0 hB
  refine callsIn_of_wp Try.func61 rfl hf ?_ rfl
  simp only [Try.ntmps61, List.size_toArray, List.length_cons, List.length_nil, Nat.reduceAdd, Nat.reduceSub, Array.replicate_succ, Array.replicate_zero, List.push_toArray, List.append_toArray, List.nil_append, List.cons_append]
  gi_wp2_with (gi_at_call 45; refine (callsIn_wide.2 (HP _ _ _)).mono ?_; rintro e w9 ⟨rfl, hw9⟩; rw [hw9]; clear hw9)
  gi_loopw [12] (fun i wr => i = .int .i64 0 ∧ Hid (J [] wr)) (fun i _ => 0)
  case atStart => exact ⟨rfl, HJ1⟩
  case round =>
    obtain ⟨rfl, HJr⟩ := hrel
    gi_wp2
    go_end0
    exact ⟨⟨_, rfl⟩, .inl ⟨[], rfl, HJr.out⟩⟩

set_option maxHeartbeats 8000000 in
theorem law_none {w : World} (p : Option Addr) (HU : Hid (∀ W, Below w.heap.size w W → Un p W)) :
    Calls Try.prog 29 #[.pointer p] w fun e w' => e = .returned (.slice none 0 0) ∧ Below w.heap.size w w' := by
  have qs : ∀ (w : World) (f : Fn) (a b : Array Value), (binOp .eql 66 (.func f a b) .nilFunc).run Try.prog w = .ok (.bool false) w := fun _ _ _ _ => rfl
  refine (callsIn_wide (n := 4)).1 ?_
  have f0 : Fence.wide.fn 29 := trivial
  have f1 : Fence.wide.fn 48 := trivial
  have f2 : Fence.wide.fn 61 := trivial
  refine callsIn_of_wp_marks Try.func29 rfl f0 ?_ rfl
  simp only [Try.ntmps29, List.size_toArray, List.length_cons, List.length_nil, Nat.reduceAdd, Nat.reduceSub, Array.replicate_succ, Array.replicate_zero, List.push_toArray, List.append_toArray, List.nil_append, List.cons_append]
  gi_wp2_with (gi_at_call 48; refine (callsIn_wide.2 (func_any _ _)).mono ?_; rintro e w' ⟨rfl, rfl⟩)
  obtain ⟨W0, hW0⟩ : ∃ W0, W0 = ((w.alloc (.cells #[.slice none 0 0] TKeys)).alloc (.cells #[.pointer p] TPo)).alloc (.cells #[.func (.func 59) #[] #[]] TPf) := ⟨_, rfl⟩
  have hB0 : Below w.heap.size w W0 := by rw [hW0]; exact (((Below.refl _ w).alloc (Nat.le_refl _) _).alloc (by simp) _).alloc (by simp; omega) _
  have hs0 : W0.heap.size = w.heap.size + 3 := by rw [hW0]; simp
  have bO : Boxed W0 w.heap.size TKeys (.slice none 0 0) := by rw [hW0]; exact ((Boxed.new w TKeys (.slice none 0 0)).alloc _).alloc _
  have bx1 : W0.cell? ⟨w.heap.size + 1, 0, none⟩ = some (.pointer p) := by
    have := Boxed.new (w.alloc (.cells #[.slice none 0 0] TKeys)) TPo (.pointer p)
    rw [World.size_alloc] at this
    rw [hW0]; exact (this.alloc _).cell
  have hseq := seq_none 3 (by omega) (Kp := KpL w.heap.size) (b1 := w.heap.size + 1 + 1) p (w := W0) (fun W hW => HU.out W (hB0.trans (hW.mono hB0.size))) bx1
  rw [← hW0]
  clear bx1
  refine wpIn_rangeFunc_ownH rfl (by omega) (gf := 61) (lb := #[.pointer (some ⟨w.heap.size + 1, 0, none⟩), .pointer (some ⟨w.heap.size + 1 + 1, 0, none⟩)]) rfl f2 (enters_of Try.func61 (by kernel_rfl) rfl)
    hseq kpL_t (kpL_b (w := W0)) (Below.refl _ _) (fun _ => rfl)
    (fun pre W => Boxed W w.heap.size TKeys (.slice none 0 0) ∧ Below w.heap.size w W)
    (fun _ _ _ => False)
    (OwnFrom.and (Own.from (boxed_own w.heap.size TKeys (fun (pre : List Int) => .slice none 0 0)) _) (ownFrom_below (Nat.le_refl _) (by omega)))
    (fun _ _ _ _ _ hs _ _ => hs)
    ⟨bO, hB0⟩
    (fun _ _ _ => True)
    (fun _ _ _ _ _ _ _ _ _ => trivial)
    ?assign ?body ?done ?stop
  case assign =>
    rintro l pre x W K hI hK
    gi_wp2
    exact hK _ _ (KeepsFrom.refl _ _) (kpL_refl _ _) hI trivial
  case body =>
    intro l pre x a' W hl hr hI hA hlt
    exact absurd hlt (Nat.not_lt_zero _)
  case done =>
    rintro D ys W hD rfl ⟨hv, hB⟩ hK
    have hc := hv.cell
    gi_wp2
    refine ⟨by simp, .inl ⟨_, _, rfl, run_takeDeferred hK, ?_⟩⟩
    exact ⟨_, results_tmp rfl _ _ _, rfl, hB.trans (belowK_b (w := w) (Nat.le_refl _) W D _ _ (by omega) hK rfl rfl)⟩
  case stop =>
    rintro D c pre W _ _ h _
    exact h.elim
end Go.Proofs.Ytpchllepboolhab.I.F
