import Derived.Test.YtckfmpoddmccfaaJG
namespace Go.Proofs.Ytckfmpoddmccfaa
open Go.RowKit
set_option linter.unusedVariables false
set_option linter.unusedSimpArgs false
set_option maxRecDepth 100000

/-- has a request a payload? -/
def payB (f t : Nat) (ext : Bool) : Bool := if ext = true then (bits .and .u16 (f : Int) 32 != 0) else ((t : Int) == 1)
/-- may a request be laid down? -/
def fitB (f t n k : Nat) (ext : Bool) : Bool := (ext || decide (n ≤ 4294967295)) && (if payB f t ext = true then decide (n = k) else decide (k = 0))
set_option maxHeartbeats 400000 in
theorem pay_true (f t c o n : Nat) (ao : Option Addr) (cap : Nat) (d : List Nat) (w : World) : Calls Try.prog 110 #[.agg #[.int .u16 (f : Int), .int .u16 (t : Int), .int .u64 (c : Int), .int .u64 (o : Int), .int .u64 (n : Int), .slice ao d.length cap], .bool true] w fun e w' => e = .returned (.bool (payB f t true)) ∧ Below w.heap.size w w' := by
  have HB : Hid (Below w.heap.size w (w.alloc (.cells #[.int .u16 (f : Int), .int .u16 (t : Int), .int .u64 (c : Int), .int .u64 (o : Int), .int .u64 (n : Int), .slice ao d.length cap] 60))) := (Below.refl _ _).alloc (Nat.le_refl _) _
  go_enter Try.func110, Try.ntmps110
  go_wp2
  go_ret
  exact ⟨rfl, HB.out⟩
set_option maxHeartbeats 400000 in
theorem pay_false (f t c o n : Nat) (ao : Option Addr) (cap : Nat) (d : List Nat) (w : World) : Calls Try.prog 110 #[.agg #[.int .u16 (f : Int), .int .u16 (t : Int), .int .u64 (c : Int), .int .u64 (o : Int), .int .u64 (n : Int), .slice ao d.length cap], .bool false] w fun e w' => e = .returned (.bool (payB f t false)) ∧ Below w.heap.size w w' := by
  have HB : Hid (Below w.heap.size w (w.alloc (.cells #[.int .u16 (f : Int), .int .u16 (t : Int), .int .u64 (c : Int), .int .u64 (o : Int), .int .u64 (n : Int), .slice ao d.length cap] 60))) := (Below.refl _ _).alloc (Nat.le_refl _) _
  go_enter Try.func110, Try.ntmps110
  go_wp2
  go_ret
  exact ⟨rfl, HB.out⟩
theorem pay_any (f t c o n : Nat) (ao : Option Addr) (cap : Nat) (d : List Nat) (ext : Bool) (w : World) : Calls Try.prog 110 #[.agg #[.int .u16 (f : Int), .int .u16 (t : Int), .int .u64 (c : Int), .int .u64 (o : Int), .int .u64 (n : Int), .slice ao d.length cap], .bool ext] w fun e w' => e = .returned (.bool (payB f t ext)) ∧ Below w.heap.size w w' := by
  cases ext with
  | true => exact pay_true f t c o n ao cap d w
  | false => exact pay_false f t c o n ao cap d w
set_option maxHeartbeats 1000000 in
theorem fits_true (f t c o n : Nat) (ao : Option Addr) (cap : Nat) (d : List Nat) (w : World) (hn : n < 18446744073709551616) (hd : d.length ≤ 1099511627776) : Calls Try.prog 90 #[.agg #[.int .u16 (f : Int), .int .u16 (t : Int), .int .u64 (c : Int), .int .u64 (o : Int), .int .u64 (n : Int), .slice ao d.length cap], .bool true] w fun e w' => e = .returned (.bool (fitB f t n d.length true)) ∧ Below w.heap.size w w' := by
  obtain ⟨W0, hW0⟩ : ∃ W0, W0 = w.alloc (.cells #[.int .u16 (f : Int), .int .u16 (t : Int), .int .u64 (c : Int), .int .u64 (o : Int), .int .u64 (n : Int), .slice ao d.length cap] 60) := ⟨_, rfl⟩
  have hB : Below w.heap.size w W0 := by rw [hW0]; exact (Below.refl _ _).alloc (Nat.le_refl _) _
  have g0 : W0.heap[w.heap.size]? = some (.cells #[.int .u16 (f : Int), .int .u16 (t : Int), .int .u64 (c : Int), .int .u64 (o : Int), .int .u64 (n : Int), .slice ao d.length cap] 60 (0, 0)) := by rw [hW0]; exact heap_new w _
  have HPy : Hid (Calls Try.prog 110 #[.agg #[.int .u16 (f : Int), .int .u16 (t : Int), .int .u64 (c : Int), .int .u64 (o : Int), .int .u64 (n : Int), .slice ao d.length cap], .bool true] W0 fun e w' => e = .returned (.bool (payB f t true)) ∧ Below W0.heap.size W0 w') := pay_any f t c o n ao cap d true W0
  have HC : Hid (∀ W, Below W0.heap.size W0 W → W.heap[w.heap.size]? = some (.cells #[.int .u16 (f : Int), .int .u16 (t : Int), .int .u64 (c : Int), .int .u64 (o : Int), .int .u64 (n : Int), .slice ao d.length cap] 60 (0, 0)) ∧ Below w.heap.size w W) := fun W hb => ⟨(hb.block _ (block_lt g0)).trans g0, hB.trans (hb.mono hB.size)⟩
  have hwl : IntKind.u64.wrap (d.length : Int) = (d.length : Int) := by rw [IntKind.wrap_u64]; omega
  have HBw : Hid (Below w.heap.size w W0) := hB
  have hFit : fitB f t n d.length true = fitB f t n d.length true := rfl
  generalize hp : payB f t true = p at *
  clear hB g0 hFit
  go_enter Try.func90, Try.ntmps90
  go_wp2_with fail
  rw [← hW0]
  clear hW0
  refine HPy.out.mono ?_
  rintro e w1 ⟨rfl, hb⟩
  obtain ⟨g1, hb1⟩ := HC.out w1 hb
  have z4 := blk_at g1 4
  have z5 := blk_at g1 5
  simp at z4 z5
  have HB1 : Hid (Below w.heap.size w w1) := hb1
  clear hb g1 hb1
  cases p
  · have hf : fitB f t n d.length true = decide (d.length = 0) := by simp [fitB, hp]
    have HF : Hid _ := hf
    clear hp hf
    go_wp2
    go_ret
    exact ⟨ret_bool (by rw [HF.out, Bool.eq_iff_iff]; simp <;> omega), HB1.out⟩
  · have hf : fitB f t n d.length true = decide (n = d.length) := by simp [fitB, hp]
    have HF : Hid _ := hf
    clear hp hf
    go_wp2
    go_ret
    exact ⟨ret_bool (by rw [HF.out, Bool.eq_iff_iff]; simp <;> omega), HB1.out⟩
set_option maxHeartbeats 1000000 in
theorem fits_false (f t c o n : Nat) (ao : Option Addr) (cap : Nat) (d : List Nat) (w : World) (hn : n < 18446744073709551616) (hd : d.length ≤ 1099511627776) : Calls Try.prog 90 #[.agg #[.int .u16 (f : Int), .int .u16 (t : Int), .int .u64 (c : Int), .int .u64 (o : Int), .int .u64 (n : Int), .slice ao d.length cap], .bool false] w fun e w' => e = .returned (.bool (fitB f t n d.length false)) ∧ Below w.heap.size w w' := by
  obtain ⟨W0, hW0⟩ : ∃ W0, W0 = w.alloc (.cells #[.int .u16 (f : Int), .int .u16 (t : Int), .int .u64 (c : Int), .int .u64 (o : Int), .int .u64 (n : Int), .slice ao d.length cap] 60) := ⟨_, rfl⟩
  have hB : Below w.heap.size w W0 := by rw [hW0]; exact (Below.refl _ _).alloc (Nat.le_refl _) _
  have g0 : W0.heap[w.heap.size]? = some (.cells #[.int .u16 (f : Int), .int .u16 (t : Int), .int .u64 (c : Int), .int .u64 (o : Int), .int .u64 (n : Int), .slice ao d.length cap] 60 (0, 0)) := by rw [hW0]; exact heap_new w _
  have HPy : Hid (Calls Try.prog 110 #[.agg #[.int .u16 (f : Int), .int .u16 (t : Int), .int .u64 (c : Int), .int .u64 (o : Int), .int .u64 (n : Int), .slice ao d.length cap], .bool false] W0 fun e w' => e = .returned (.bool (payB f t false)) ∧ Below W0.heap.size W0 w') := pay_any f t c o n ao cap d false W0
  have HC : Hid (∀ W, Below W0.heap.size W0 W → W.heap[w.heap.size]? = some (.cells #[.int .u16 (f : Int), .int .u16 (t : Int), .int .u64 (c : Int), .int .u64 (o : Int), .int .u64 (n : Int), .slice ao d.length cap] 60 (0, 0)) ∧ Below w.heap.size w W) := fun W hb => ⟨(hb.block _ (block_lt g0)).trans g0, hB.trans (hb.mono hB.size)⟩
  have hwl : IntKind.u64.wrap (d.length : Int) = (d.length : Int) := by rw [IntKind.wrap_u64]; omega
  have HBw : Hid (Below w.heap.size w W0) := hB
  have hFit : fitB f t n d.length false = fitB f t n d.length false := rfl
  generalize hp : payB f t false = p at *
  clear hB g0 hFit
  go_enter Try.func90, Try.ntmps90
  by_cases hn4 : n ≤ 4294967295
  · have hd4 : decide ((4294967295 : Int) < (n : Int)) = false := by simp; omega
    go_wp2_with fail
    rw [← hW0]
    clear hW0
    refine HPy.out.mono ?_
    rintro e w1 ⟨rfl, hb⟩
    obtain ⟨g1, hb1⟩ := HC.out w1 hb
    have z4 := blk_at g1 4
    have z5 := blk_at g1 5
    simp at z4 z5
    have HB1 : Hid (Below w.heap.size w w1) := hb1
    clear hb g1 hb1
    cases p
    · have hf : fitB f t n d.length false = decide (d.length = 0) := by simp [fitB, hp, hn4]
      have HF : Hid _ := hf
      clear hp hf
      go_wp2
      go_ret
      exact ⟨ret_bool (by rw [HF.out, Bool.eq_iff_iff]; simp <;> omega), HB1.out⟩
    · have hf : fitB f t n d.length false = decide (n = d.length) := by simp [fitB, hp, hn4]
      have HF : Hid _ := hf
      clear hp hf
      go_wp2
      go_ret
      exact ⟨ret_bool (by rw [HF.out, Bool.eq_iff_iff]; simp <;> omega), HB1.out⟩
  · have hd4 : decide ((4294967295 : Int) < (n : Int)) = true := by simp; omega
    have hf : fitB f t n d.length false = false := by simp [fitB, hn4]
    rw [hf]
    go_wp2
    go_ret
    exact ⟨rfl, by rw [← hW0]; exact HBw.out⟩
theorem fits_any (f t c o n : Nat) (ao : Option Addr) (cap : Nat) (d : List Nat) (ext : Bool) (w : World) (hn : n < 18446744073709551616) (hd : d.length ≤ 1099511627776) : Calls Try.prog 90 #[.agg #[.int .u16 (f : Int), .int .u16 (t : Int), .int .u64 (c : Int), .int .u64 (o : Int), .int .u64 (n : Int), .slice ao d.length cap], .bool ext] w fun e w' => e = .returned (.bool (fitB f t n d.length ext)) ∧ Below w.heap.size w w' := by
  cases ext with
  | true => exact fits_true f t c o n ao cap d w hn hd
  | false => exact fits_false f t c o n ao cap d w hn hd
end Go.Proofs.Ytckfmpoddmccfaa
