import Derived.Test.YtckfmpoddmccfaaFNm
import Derived.Test.YtckfmpoddmccfaaFNs
import Derived.Test.YtckfmpoddmccfaaFNt
import Derived.Test.YtckfmpoddmccfaaFNu
namespace Go.Proofs.Ytckfmpoddmccfaa
open Go.RowKit
set_option linter.unusedVariables false
set_option linter.unusedSimpArgs false
set_option maxRecDepth 100000

set_option maxHeartbeats 8000000 in
theorem cuts_other {w : World} {po : Option Addr} (h : Dd w po) (bo : Option Addr) (bn bc m : Nat) (z b : Bool) (a : Int) (kd : Int) (hk : kd < 2 ∨ 9 < kd) : Calls Try.prog 14 #[.pointer po, .agg #[.int .i64 kd, .slice bo bn bc, .int .u32 (m : Int), .bool z, .bool b, .int .i64 a]] w fun e w' => e = .returned (.agg #[.int .i64 0, .int .u64 0, .int .u64 0, .int .u64 0, .int .u64 0, .int .u64 0, .int .u64 0, .int .u64 0, .int .u64 0, .slice none 0 0]) ∧ Below w.heap.size w w' := by
  have e2 : ¬ (kd = 2) := by omega
  have e3 : ¬ (kd = 3) := by omega
  have e4 : ¬ (kd = 4) := by omega
  have e5 : ¬ (kd = 5) := by omega
  have e6 : ¬ (kd = 6) := by omega
  have e7 : ¬ (kd = 7) := by omega
  have e8 : ¬ (kd = 8) := by omega
  have e9 : ¬ (kd = 9) := by omega
  have HB : Hid (Below w.heap.size w ((w.alloc (.cells #[.int .i64 kd, .slice bo bn bc, .int .u32 (m : Int), .bool z, .bool b, .int .i64 a] 38)).alloc (.cells #[.int .i64 0, .int .u64 0, .int .u64 0, .int .u64 0, .int .u64 0, .int .u64 0, .int .u64 0, .int .u64 0, .int .u64 0, .slice none 0 0] 41))) := bx2_bel w _ _
  have HG1 : Hid (((w.alloc (.cells #[.int .i64 kd, .slice bo bn bc, .int .u32 (m : Int), .bool z, .bool b, .int .i64 a] 38)).alloc (.cells #[.int .i64 0, .int .u64 0, .int .u64 0, .int .u64 0, .int .u64 0, .int .u64 0, .int .u64 0, .int .u64 0, .int .u64 0, .slice none 0 0] 41)).heap[w.heap.size + 1]? = some (.cells #[.int .i64 0, .int .u64 0, .int .u64 0, .int .u64 0, .int .u64 0, .int .u64 0, .int .u64 0, .int .u64 0, .int .u64 0, .slice none 0 0] 41 (0, 0))) := by
    have h := heap_new (w.alloc (.cells #[.int .i64 kd, .slice bo bn bc, .int .u32 (m : Int), .bool z, .bool b, .int .i64 a] 38)) (.cells #[.int .i64 0, .int .u64 0, .int .u64 0, .int .u64 0, .int .u64 0, .int .u64 0, .int .u64 0, .int .u64 0, .int .u64 0, .slice none 0 0] 41)
    rw [World.size_alloc] at h
    exact h
  clear h hk
  go_enter Try.func14, Try.ntmps14
  go_wp2
  exact bodyPost_ret (results_cell_one rfl _ _ (w.heap.size + 1) 41 #[.int .i64 0, .int .u64 0, .int .u64 0, .int .u64 0, .int .u64 0, .int .u64 0, .int .u64 0, .int .u64 0, .int .u64 0, .slice none 0 0] (0, 0) _ rfl HG1.out Try.underlying41 rfl infoC) rfl ⟨rfl, HB.out⟩
end Go.Proofs.Ytckfmpoddmccfaa
