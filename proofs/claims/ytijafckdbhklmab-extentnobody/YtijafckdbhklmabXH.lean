import Derived.Test.YtijafckdbhklmabXO
import Derived.Test.YtijafckdbhklmabXQI
import Derived.Deep.RegionWith
namespace Go.Proofs.Ytijafckdbhklmab.I
open Go.RowKit Go.Sort Go.Lib Go.Shelf
attribute [local go_sem] Oper.semAt_some
set_option linter.unusedVariables false
set_option linter.unusedSimpArgs false
set_option maxRecDepth 100000

/-- a map that no call made -/
def Un (m : Option Addr) (W : World) : Prop := Calls Try.prog 33 #[.pointer m] W fun e w' => e = .returned (.bool false) ∧ w' = W

theorem part_no (m : Option Addr) (lo hi : Value) (w : World) (h : Un m w) : Calls Try.prog 39 #[.pointer m, lo, hi] w fun e w' => e = .returned (.slice none 0 0) ∧ w' = w := by
  go_enter Try.func39, Try.ntmps39
  go_wp2_with (go_at_call 33; refine h.mono ?_; rintro e w9 ⟨rfl, hw9⟩; rw [hw9]; clear hw9)
  go_ret
  exact ⟨rfl, rfl⟩
theorem set_no (m : Option Addr) (lo hi x : Value) (w : World) (h : Un m w) : Calls Try.prog 14 #[.pointer m, lo, hi, x] w fun e w' => e = .returned (.int .i64 1) ∧ w' = w := by
  go_enter Try.func14, Try.ntmps14
  go_wp2_with (go_at_call 33; refine h.mono ?_; rintro e w9 ⟨rfl, hw9⟩; rw [hw9]; clear hw9)
  go_ret
  exact ⟨rfl, rfl⟩
theorem at_no (m : Option Addr) (i : Value) (w : World) (h : Un m w) : Calls Try.prog 16 #[.pointer m, i] w fun e w' => e = .returned (.tuple #[.int .i64 0, .bool false]) ∧ w' = w := by
  go_enter Try.func16, Try.ntmps16
  go_wp2_with (go_at_call 33; refine h.mono ?_; rintro e w9 ⟨rfl, hw9⟩; rw [hw9]; clear hw9)
  go_ret2
  exact ⟨rfl, rfl⟩
theorem count_no (m : Option Addr) (w : World) (h : Un m w) : Calls Try.prog 20 #[.pointer m] w fun e w' => e = .returned (.int .i64 0) ∧ w' = w := by
  go_enter Try.func20, Try.ntmps20
  go_wp2_with (go_at_call 33; refine h.mono ?_; rintro e w9 ⟨rfl, hw9⟩; rw [hw9]; clear hw9)
  go_ret
  exact ⟨rfl, rfl⟩
theorem size_no (m : Option Addr) (w : World) (h : Un m w) : Calls Try.prog 19 #[.pointer m] w fun e w' => e = .returned (.int .i64 0) ∧ w' = w := by
  go_enter Try.func19, Try.ntmps19
  go_wp2_with (go_at_call 33; refine h.mono ?_; rintro e w9 ⟨rfl, hw9⟩; rw [hw9]; clear hw9)
  go_ret
  exact ⟨rfl, rfl⟩
theorem copy_no (m : Option Addr) (w : World) (h : Un m w) : Calls Try.prog 12 #[.pointer m] w fun e w' => e = .returned (.pointer none) ∧ w' = w := by
  refine (callsIn_wide (n := 3)).1 ?_
  have hf : Fence.wide.fn 12 := trivial
  have hf2 : Fence.wide.fn 33 := trivial
  refine callsIn_of_wp_marks Try.func12 rfl hf ?_ rfl
  simp only [Try.ntmps12, List.size_toArray, List.length_cons, List.length_nil, Nat.reduceAdd, Nat.reduceSub, Array.replicate_succ, Array.replicate_zero, List.push_toArray, List.append_toArray, List.nil_append, List.cons_append]
  gi_wp2_with (gi_at_call 33; refine (callsIn_wide.2 h).mono ?_; rintro e w9 ⟨rfl, hw9⟩; rw [hw9]; clear hw9)
  exact ⟨_, results_tmp rfl _ _ _, rfl, rfl⟩
theorem same_left (m b : Option Addr) (w : World) (h : Un m w) (hb : Calls Try.prog 33 #[.pointer b] w fun e w' => e = .returned (.bool true) ∧ w' = w) :
    Calls Try.prog 13 #[.pointer m, .pointer b] w fun e w' => e = .returned (.bool false) ∧ w' = w := by
  go_enter Try.func13, Try.ntmps13
  go_wp2_with (first | (go_at_call_of 33 (Value.pointer m); refine h.mono ?_; rintro e w9 ⟨rfl, hw9⟩; rw [hw9]; clear hw9) | (go_at_call_of 33 (Value.pointer b); refine hb.mono ?_; rintro e w9 ⟨rfl, hw9⟩; rw [hw9]; clear hw9))
  go_ret
  exact ⟨rfl, rfl⟩
theorem same_right (m b : Option Addr) (w : World) (h : Un m w) (hb : Calls Try.prog 33 #[.pointer b] w fun e w' => e = .returned (.bool true) ∧ w' = w) :
    Calls Try.prog 13 #[.pointer b, .pointer m] w fun e w' => e = .returned (.bool false) ∧ w' = w := by
  go_enter Try.func13, Try.ntmps13
  go_wp2_with (first | (go_at_call_of 33 (Value.pointer m); refine h.mono ?_; rintro e w9 ⟨rfl, hw9⟩; rw [hw9]; clear hw9) | (go_at_call_of 33 (Value.pointer b); refine hb.mono ?_; rintro e w9 ⟨rfl, hw9⟩; rw [hw9]; clear hw9))
  go_ret
  exact ⟨rfl, rfl⟩
theorem same_none (m : Option Addr) (w : World) (h : Un m w) : Calls Try.prog 13 #[.pointer m, .pointer m] w fun e w' => e = .returned (.bool true) ∧ w' = w := by
  go_enter Try.func13, Try.ntmps13
  go_wp2_with (go_at_call 33; refine h.mono ?_; rintro e w9 ⟨rfl, hw9⟩; rw [hw9]; clear hw9)
  go_ret
  exact ⟨rfl, rfl⟩

set_option maxHeartbeats 4000000 in
/-- a map that no call made gives nothing to range over -/
theorem runs1_none (n : Nat) (hn : 2 ≤ n) {w : World} {b0 b1 b2 : Nat} (m : Option Addr) (lo hi : Int) (HU : Hid (∀ W, Below w.heap.size w W → Un m W))
    (c0 : w.cell? ⟨b0, 0, none⟩ = some (.pointer m)) (c1 : w.cell? ⟨b1, 0, none⟩ = some (.int .i64 lo)) (c2 : w.cell? ⟨b2, 0, none⟩ = some (.int .i64 hi)) :
    SeqStopsK Fence.wide n Try.prog 38 #[.pointer (some ⟨b0, 0, none⟩), .pointer (some ⟨b1, 0, none⟩), .pointer (some ⟨b2, 0, none⟩)] encR KeepR (fun xs => xs = []) (fun _ => False) 0 w := by
  intro l J Jx W hW hJ hJx hY h0
  have HP := part_no m (.int .i64 lo) (.int .i64 hi) W (HU.out W hW)
  have d0 := cell_later hW c0
  have d1 := cell_later hW c1
  have d2 := cell_later hW c2
  have hf : Fence.wide.fn 38 := trivial
  have hf2 : Fence.wide.fn 39 := trivial
  have h1 : 1 ≤ n := by omega
  have h1' : 1 ≤ n - 1 := by omega
  have HJ0 : Hid (J [] W) := h0
  clear hY HU c0 c1 c2 h0
  refine callsIn_of_wp Try.func38 rfl hf ?_ rfl
  simp only [Try.ntmps38, List.size_toArray, List.length_cons, List.length_nil, Nat.reduceAdd, Nat.reduceSub, Array.replicate_succ, Array.replicate_zero, List.push_toArray, List.append_toArray, List.nil_append, List.cons_append]
  gi_wp2_with (gi_at_call 39; refine (callsIn_wide.2 HP).mono ?_; rintro e w9 ⟨rfl, hw9⟩; rw [hw9]; clear hw9)
  gi_loopw [12] (fun i wr => i = .int .i64 0 ∧ Hid (J [] wr)) (fun i _ => 0)
  case atStart => exact ⟨rfl, HJ0⟩
  case round =>
    obtain ⟨rfl, HJr⟩ := hrel
    gi_wp2
    go_end0
    exact ⟨⟨_, rfl⟩, .inl ⟨[], rfl, HJr.out⟩⟩
end Go.Proofs.Ytijafckdbhklmab.I
