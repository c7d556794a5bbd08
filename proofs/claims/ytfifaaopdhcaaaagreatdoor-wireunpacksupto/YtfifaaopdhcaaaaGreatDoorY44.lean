import Derived.Test.YtfifaaopdhcaaaaGreatDoorY38
import Derived.Test.YtfifaaopdhcaaaaGreatDoorY13
namespace Go.Proofs.YtfifaaopdhcaaaaGreatDoor
open Go.RowKit
set_option linter.unusedVariables false
set_option linter.unusedSimpArgs false
set_option maxRecDepth 100000
set_option maxHeartbeats 8000000 in
theorem bare_0 (k sz fl : Nat) (s : ByteArray) (mn pf mx : Nat) (da : Option Addr) (n dc : Nat) (w : World) (hkk : k = 0) :
    Calls Tryz.prog 71 #[.agg #[.int .u16 (k : Int), .int .u64 (sz : Int), .int .u16 (fl : Int), .string s, .int .u32 (mn : Int), .int .u32 (pf : Int), .int .u32 (mx : Int), .slice da n dc]] w fun e w' => e = .returned (.agg #[.int .u16 (k : Int), .int .u64 (sz : Int), .int .u16 (fl : Int), .string ⟨#[]⟩, .int .u32 0, .int .u32 0, .int .u32 0, .slice none 0 0]) ∧ Below w.heap.size w w' := by
  have t0 : ((k : Int) == 0) = true := by simp [hkk]
  have t1 : ((k : Int) == 1) = false := by rw [beq_eq_false_iff_ne]; omega
  have t2 : ((k : Int) == 2) = false := by rw [beq_eq_false_iff_ne]; omega
  have t3 : ((k : Int) == 3) = false := by rw [beq_eq_false_iff_ne]; omega
  clear hkk
  have hx := mkb2 w #[.int .u16 (k : Int), .int .u64 (sz : Int), .int .u16 (fl : Int), .string s, .int .u32 (mn : Int), .int .u32 (pf : Int), .int .u32 (mx : Int), .slice da n dc] #[.int .u16 0, .int .u64 0, .int .u16 0, .string ⟨#[]⟩, .int .u32 0, .int .u32 0, .int .u32 0, .slice none 0 0] 28 28
  go_enter Tryz.func71, Tryz.ntmps71
  go_upto_region 1 with fail
  generalize (w.alloc (Obj.cells #[.int .u16 (k : Int), .int .u64 (sz : Int), .int .u16 (fl : Int), .string s, .int .u32 (mn : Int), .int .u32 (pf : Int), .int .u32 (mx : Int), .slice da n dc] 28)).alloc (Obj.cells #[.int .u16 0, .int .u64 0, .int .u16 0, .string ⟨#[]⟩, .int .u32 0, .int .u32 0, .int .u32 0, .slice none 0 0] 28) = W1 at *
  have HY : Hid (Bx2 w W1 #[.int .u16 (k : Int), .int .u64 (sz : Int), .int .u16 (fl : Int), .string s, .int .u32 (mn : Int), .int .u32 (pf : Int), .int .u32 (mx : Int), .slice da n dc] #[.int .u16 0, .int .u64 0, .int .u16 0, .string ⟨#[]⟩, .int .u32 0, .int .u32 0, .int .u32 0, .slice none 0 0] 28 28) := hx
  clear hx
  have q0 := blk_at HY.out.a 0
  simp at q0
  have HN : Hid (Bx2 w (W1.alloc (.cells #[.int .u16 (k : Int), .int .u64 0, .int .u16 0, .string ⟨#[]⟩, .int .u32 0, .int .u32 0, .int .u32 0, .slice none 0 0] 28)) #[.int .u16 (k : Int), .int .u64 (sz : Int), .int .u16 (fl : Int), .string s, .int .u32 (mn : Int), .int .u32 (pf : Int), .int .u32 (mx : Int), .slice da n dc] #[.int .u16 0, .int .u64 0, .int .u16 0, .string ⟨#[]⟩, .int .u32 0, .int .u32 0, .int .u32 0, .slice none 0 0] 28 28 ∧ (W1.alloc (.cells #[.int .u16 (k : Int), .int .u64 0, .int .u16 0, .string ⟨#[]⟩, .int .u32 0, .int .u32 0, .int .u32 0, .slice none 0 0] 28)).heap[W1.heap.size]? = some (.cells #[.int .u16 (k : Int), .int .u64 0, .int .u16 0, .string ⟨#[]⟩, .int .u32 0, .int .u32 0, .int .u32 0, .slice none 0 0] 28 (0, 0)) ∧ w.heap.size + 2 ≤ W1.heap.size) := ⟨HY.out.later (below1 _ _), heap_new _ _, HY.out.size⟩
  go_upto_region 2 with fail
  clear q0 HY
  generalize W1.alloc (Obj.cells #[.int .u16 (k : Int), .int .u64 0, .int .u16 0, .string ⟨#[]⟩, .int .u32 0, .int .u32 0, .int .u32 0, .slice none 0 0] 28) = W2 at *
  generalize W1.heap.size = g at *
  have q0 := blk_at HN.out.1.a 0
  have z0 := blk_at HN.out.2.1 0
  have y0 := blk_free HN.out.2.1 0
  have x0 := blk_at HN.out.1.b 0
  have v0 := blk_free HN.out.1.b 0
  have q1 := blk_at HN.out.1.a 1
  have z1 := blk_at HN.out.2.1 1
  have y1 := blk_free HN.out.2.1 1
  have x1 := blk_at HN.out.1.b 1
  have v1 := blk_free HN.out.1.b 1
  have q2 := blk_at HN.out.1.a 2
  have z2 := blk_at HN.out.2.1 2
  have y2 := blk_free HN.out.2.1 2
  have x2 := blk_at HN.out.1.b 2
  have v2 := blk_free HN.out.1.b 2
  have q3 := blk_at HN.out.1.a 3
  have z3 := blk_at HN.out.2.1 3
  have y3 := blk_free HN.out.2.1 3
  have x3 := blk_at HN.out.1.b 3
  have v3 := blk_free HN.out.1.b 3
  have q4 := blk_at HN.out.1.a 4
  have z4 := blk_at HN.out.2.1 4
  have y4 := blk_free HN.out.2.1 4
  have x4 := blk_at HN.out.1.b 4
  have v4 := blk_free HN.out.1.b 4
  have q5 := blk_at HN.out.1.a 5
  have z5 := blk_at HN.out.2.1 5
  have y5 := blk_free HN.out.2.1 5
  have x5 := blk_at HN.out.1.b 5
  have v5 := blk_free HN.out.1.b 5
  have q6 := blk_at HN.out.1.a 6
  have z6 := blk_at HN.out.2.1 6
  have y6 := blk_free HN.out.2.1 6
  have x6 := blk_at HN.out.1.b 6
  have v6 := blk_free HN.out.1.b 6
  have q7 := blk_at HN.out.1.a 7
  have z7 := blk_at HN.out.2.1 7
  have y7 := blk_free HN.out.2.1 7
  have x7 := blk_at HN.out.1.b 7
  have v7 := blk_free HN.out.1.b 7
  simp at q0 z0 x0 q1 z1 x1 q2 z2 x2 q3 z3 x3 q4 z4 x4 q5 z5 x5 q6 z6 x6 q7 z7 x7
  have ng : g ≠ w.heap.size + 1 := by have := HN.out.2.2; omega
  have na : g ≠ w.heap.size := by have := HN.out.2.2; omega
  have b0 : (W2.setCell ⟨g, 1, none⟩ (.int .u64 (sz : Int))).heap[g]? = some (.cells #[.int .u16 (k : Int), .int .u64 (sz : Int), .int .u16 0, .string ⟨#[]⟩, .int .u32 0, .int .u32 0, .int .u32 0, .slice none 0 0] 28 (0, 0)) := put_boxX HN.out.2.1 1 _ (by simp)
  have b1 : ((W2.setCell ⟨g, 1, none⟩ (.int .u64 (sz : Int))).setCell ⟨g, 2, none⟩ (.int .u16 (fl : Int))).heap[g]? = some (.cells #[.int .u16 (k : Int), .int .u64 (sz : Int), .int .u16 (fl : Int), .string ⟨#[]⟩, .int .u32 0, .int .u32 0, .int .u32 0, .slice none 0 0] 28 (0, 0)) := put_boxX b0 2 _ (by simp)
  have HW3 : Hid (((W2.setCell ⟨g, 1, none⟩ (.int .u64 (sz : Int))).setCell ⟨g, 2, none⟩ (.int .u16 (fl : Int))).heap[g]? = some (.cells #[.int .u16 (k : Int), .int .u64 (sz : Int), .int .u16 (fl : Int), .string ⟨#[]⟩, .int .u32 0, .int .u32 0, .int .u32 0, .slice none 0 0] 28 (0, 0)) ∧ KeptIn (fun b => b = g) W2 ((W2.setCell ⟨g, 1, none⟩ (.int .u64 (sz : Int))).setCell ⟨g, 2, none⟩ (.int .u16 (fl : Int)))) := ⟨b1, ((keptIn_set _ _ _ _).trans (keptIn_set _ _ _ _) (fun _ _ hn => hn))⟩
  have HBb : Hid (((W2.setCell ⟨g, 1, none⟩ (.int .u64 (sz : Int))).setCell ⟨g, 2, none⟩ (.int .u16 (fl : Int))).heap[w.heap.size + 1]? = some (.cells #[.int .u16 0, .int .u64 0, .int .u16 0, .string ⟨#[]⟩, .int .u32 0, .int .u32 0, .int .u32 0, .slice none 0 0] 28 (0, 0))) := by show _ = _; rw [HW3.out.2.block _ (block_lt HN.out.1.b) (fun e => ng e.symm)]; exact HN.out.1.b
  clear b0 b1
  go_upto_region 14 with fail
  generalize (W2.setCell ⟨g, 1, none⟩ (.int .u64 (sz : Int))).setCell ⟨g, 2, none⟩ (.int .u16 (fl : Int)) = W3 at *
  have zz0 := blk_at HW3.out.1 0
  have zx0 := blk_at HBb.out 0
  have zv0 := blk_free HBb.out 0
  have zz1 := blk_at HW3.out.1 1
  have zx1 := blk_at HBb.out 1
  have zv1 := blk_free HBb.out 1
  have zz2 := blk_at HW3.out.1 2
  have zx2 := blk_at HBb.out 2
  have zv2 := blk_free HBb.out 2
  have zz3 := blk_at HW3.out.1 3
  have zx3 := blk_at HBb.out 3
  have zv3 := blk_free HBb.out 3
  have zz4 := blk_at HW3.out.1 4
  have zx4 := blk_at HBb.out 4
  have zv4 := blk_free HBb.out 4
  have zz5 := blk_at HW3.out.1 5
  have zx5 := blk_at HBb.out 5
  have zv5 := blk_free HBb.out 5
  have zz6 := blk_at HW3.out.1 6
  have zx6 := blk_at HBb.out 6
  have zv6 := blk_free HBb.out 6
  have zz7 := blk_at HW3.out.1 7
  have zx7 := blk_at HBb.out 7
  have zv7 := blk_free HBb.out 7
  simp at zz0 zx0 zz1 zx1 zz2 zx2 zz3 zx3 zz4 zx4 zz5 zx5 zz6 zx6 zz7 zx7
  clear q0 z0 y0 x0 v0 q1 z1 y1 x1 v1 q2 z2 y2 x2 v2 q3 z3 y3 x3 v3 q4 z4 y4 x4 v4 q5 z5 y5 x5 v5 q6 z6 y6 x6 v6 q7 z7 y7 x7 v7
  go_wp2
  have hp := putc8 HBb.out (.int .u16 (k : Int)) (.int .u64 (sz : Int)) (.int .u16 (fl : Int)) (.string ⟨#[]⟩) (.int .u32 0) (.int .u32 0) (.int .u32 0) (.slice none 0 0)
  exact bodyPost_ret (results_cell_one rfl _ _ (w.heap.size + 1) 28 _ (0, 0) _ rfl hp.1 Tryz.underlying28 rfl infoI) rfl ⟨rfl, HN.out.1.bel.trans ((HW3.out.2.below HN.out.1.bel.size (fun b hb e => by have := HN.out.2.2; omega)).trans (hp.2.below (Nat.le_trans HN.out.1.bel.size HW3.out.2.size) (fun b hb e => by omega)))⟩
set_option maxHeartbeats 8000000 in
theorem bare_1 (k sz fl : Nat) (s : ByteArray) (mn pf mx : Nat) (da : Option Addr) (n dc : Nat) (w : World) (hkk : k = 1) :
    Calls Tryz.prog 71 #[.agg #[.int .u16 (k : Int), .int .u64 (sz : Int), .int .u16 (fl : Int), .string s, .int .u32 (mn : Int), .int .u32 (pf : Int), .int .u32 (mx : Int), .slice da n dc]] w fun e w' => e = .returned (.agg #[.int .u16 (k : Int), .int .u64 0, .int .u16 0, .string s, .int .u32 0, .int .u32 0, .int .u32 0, .slice none 0 0]) ∧ Below w.heap.size w w' := by
  have t0 : ((k : Int) == 0) = false := by rw [beq_eq_false_iff_ne]; omega
  have t1 : ((k : Int) == 1) = true := by simp [hkk]
  have t2 : ((k : Int) == 2) = false := by rw [beq_eq_false_iff_ne]; omega
  have t3 : ((k : Int) == 3) = false := by rw [beq_eq_false_iff_ne]; omega
  clear hkk
  have hx := mkb2 w #[.int .u16 (k : Int), .int .u64 (sz : Int), .int .u16 (fl : Int), .string s, .int .u32 (mn : Int), .int .u32 (pf : Int), .int .u32 (mx : Int), .slice da n dc] #[.int .u16 0, .int .u64 0, .int .u16 0, .string ⟨#[]⟩, .int .u32 0, .int .u32 0, .int .u32 0, .slice none 0 0] 28 28
  go_enter Tryz.func71, Tryz.ntmps71
  go_upto_region 1 with fail
  generalize (w.alloc (Obj.cells #[.int .u16 (k : Int), .int .u64 (sz : Int), .int .u16 (fl : Int), .string s, .int .u32 (mn : Int), .int .u32 (pf : Int), .int .u32 (mx : Int), .slice da n dc] 28)).alloc (Obj.cells #[.int .u16 0, .int .u64 0, .int .u16 0, .string ⟨#[]⟩, .int .u32 0, .int .u32 0, .int .u32 0, .slice none 0 0] 28) = W1 at *
  have HY : Hid (Bx2 w W1 #[.int .u16 (k : Int), .int .u64 (sz : Int), .int .u16 (fl : Int), .string s, .int .u32 (mn : Int), .int .u32 (pf : Int), .int .u32 (mx : Int), .slice da n dc] #[.int .u16 0, .int .u64 0, .int .u16 0, .string ⟨#[]⟩, .int .u32 0, .int .u32 0, .int .u32 0, .slice none 0 0] 28 28) := hx
  clear hx
  have q0 := blk_at HY.out.a 0
  simp at q0
  have HN : Hid (Bx2 w (W1.alloc (.cells #[.int .u16 (k : Int), .int .u64 0, .int .u16 0, .string ⟨#[]⟩, .int .u32 0, .int .u32 0, .int .u32 0, .slice none 0 0] 28)) #[.int .u16 (k : Int), .int .u64 (sz : Int), .int .u16 (fl : Int), .string s, .int .u32 (mn : Int), .int .u32 (pf : Int), .int .u32 (mx : Int), .slice da n dc] #[.int .u16 0, .int .u64 0, .int .u16 0, .string ⟨#[]⟩, .int .u32 0, .int .u32 0, .int .u32 0, .slice none 0 0] 28 28 ∧ (W1.alloc (.cells #[.int .u16 (k : Int), .int .u64 0, .int .u16 0, .string ⟨#[]⟩, .int .u32 0, .int .u32 0, .int .u32 0, .slice none 0 0] 28)).heap[W1.heap.size]? = some (.cells #[.int .u16 (k : Int), .int .u64 0, .int .u16 0, .string ⟨#[]⟩, .int .u32 0, .int .u32 0, .int .u32 0, .slice none 0 0] 28 (0, 0)) ∧ w.heap.size + 2 ≤ W1.heap.size) := ⟨HY.out.later (below1 _ _), heap_new _ _, HY.out.size⟩
  go_upto_region 2 with fail
  clear q0 HY
  generalize W1.alloc (Obj.cells #[.int .u16 (k : Int), .int .u64 0, .int .u16 0, .string ⟨#[]⟩, .int .u32 0, .int .u32 0, .int .u32 0, .slice none 0 0] 28) = W2 at *
  generalize W1.heap.size = g at *
  have q0 := blk_at HN.out.1.a 0
  have z0 := blk_at HN.out.2.1 0
  have y0 := blk_free HN.out.2.1 0
  have x0 := blk_at HN.out.1.b 0
  have v0 := blk_free HN.out.1.b 0
  have q1 := blk_at HN.out.1.a 1
  have z1 := blk_at HN.out.2.1 1
  have y1 := blk_free HN.out.2.1 1
  have x1 := blk_at HN.out.1.b 1
  have v1 := blk_free HN.out.1.b 1
  have q2 := blk_at HN.out.1.a 2
  have z2 := blk_at HN.out.2.1 2
  have y2 := blk_free HN.out.2.1 2
  have x2 := blk_at HN.out.1.b 2
  have v2 := blk_free HN.out.1.b 2
  have q3 := blk_at HN.out.1.a 3
  have z3 := blk_at HN.out.2.1 3
  have y3 := blk_free HN.out.2.1 3
  have x3 := blk_at HN.out.1.b 3
  have v3 := blk_free HN.out.1.b 3
  have q4 := blk_at HN.out.1.a 4
  have z4 := blk_at HN.out.2.1 4
  have y4 := blk_free HN.out.2.1 4
  have x4 := blk_at HN.out.1.b 4
  have v4 := blk_free HN.out.1.b 4
  have q5 := blk_at HN.out.1.a 5
  have z5 := blk_at HN.out.2.1 5
  have y5 := blk_free HN.out.2.1 5
  have x5 := blk_at HN.out.1.b 5
  have v5 := blk_free HN.out.1.b 5
  have q6 := blk_at HN.out.1.a 6
  have z6 := blk_at HN.out.2.1 6
  have y6 := blk_free HN.out.2.1 6
  have x6 := blk_at HN.out.1.b 6
  have v6 := blk_free HN.out.1.b 6
  have q7 := blk_at HN.out.1.a 7
  have z7 := blk_at HN.out.2.1 7
  have y7 := blk_free HN.out.2.1 7
  have x7 := blk_at HN.out.1.b 7
  have v7 := blk_free HN.out.1.b 7
  simp at q0 z0 x0 q1 z1 x1 q2 z2 x2 q3 z3 x3 q4 z4 x4 q5 z5 x5 q6 z6 x6 q7 z7 x7
  have ng : g ≠ w.heap.size + 1 := by have := HN.out.2.2; omega
  have na : g ≠ w.heap.size := by have := HN.out.2.2; omega
  have b0 : (W2.setCell ⟨g, 3, none⟩ (.string s)).heap[g]? = some (.cells #[.int .u16 (k : Int), .int .u64 0, .int .u16 0, .string s, .int .u32 0, .int .u32 0, .int .u32 0, .slice none 0 0] 28 (0, 0)) := put_boxX HN.out.2.1 3 _ (by simp)
  have HW3 : Hid ((W2.setCell ⟨g, 3, none⟩ (.string s)).heap[g]? = some (.cells #[.int .u16 (k : Int), .int .u64 0, .int .u16 0, .string s, .int .u32 0, .int .u32 0, .int .u32 0, .slice none 0 0] 28 (0, 0)) ∧ KeptIn (fun b => b = g) W2 (W2.setCell ⟨g, 3, none⟩ (.string s))) := ⟨b0, (keptIn_set _ _ _ _)⟩
  have HBb : Hid ((W2.setCell ⟨g, 3, none⟩ (.string s)).heap[w.heap.size + 1]? = some (.cells #[.int .u16 0, .int .u64 0, .int .u16 0, .string ⟨#[]⟩, .int .u32 0, .int .u32 0, .int .u32 0, .slice none 0 0] 28 (0, 0))) := by show _ = _; rw [HW3.out.2.block _ (block_lt HN.out.1.b) (fun e => ng e.symm)]; exact HN.out.1.b
  clear b0
  go_upto_region 14 with fail
  generalize W2.setCell ⟨g, 3, none⟩ (.string s) = W3 at *
  have zz0 := blk_at HW3.out.1 0
  have zx0 := blk_at HBb.out 0
  have zv0 := blk_free HBb.out 0
  have zz1 := blk_at HW3.out.1 1
  have zx1 := blk_at HBb.out 1
  have zv1 := blk_free HBb.out 1
  have zz2 := blk_at HW3.out.1 2
  have zx2 := blk_at HBb.out 2
  have zv2 := blk_free HBb.out 2
  have zz3 := blk_at HW3.out.1 3
  have zx3 := blk_at HBb.out 3
  have zv3 := blk_free HBb.out 3
  have zz4 := blk_at HW3.out.1 4
  have zx4 := blk_at HBb.out 4
  have zv4 := blk_free HBb.out 4
  have zz5 := blk_at HW3.out.1 5
  have zx5 := blk_at HBb.out 5
  have zv5 := blk_free HBb.out 5
  have zz6 := blk_at HW3.out.1 6
  have zx6 := blk_at HBb.out 6
  have zv6 := blk_free HBb.out 6
  have zz7 := blk_at HW3.out.1 7
  have zx7 := blk_at HBb.out 7
  have zv7 := blk_free HBb.out 7
  simp at zz0 zx0 zz1 zx1 zz2 zx2 zz3 zx3 zz4 zx4 zz5 zx5 zz6 zx6 zz7 zx7
  clear q0 z0 y0 x0 v0 q1 z1 y1 x1 v1 q2 z2 y2 x2 v2 q3 z3 y3 x3 v3 q4 z4 y4 x4 v4 q5 z5 y5 x5 v5 q6 z6 y6 x6 v6 q7 z7 y7 x7 v7
  go_wp2
  have hp := putc8 HBb.out (.int .u16 (k : Int)) (.int .u64 0) (.int .u16 0) (.string s) (.int .u32 0) (.int .u32 0) (.int .u32 0) (.slice none 0 0)
  exact bodyPost_ret (results_cell_one rfl _ _ (w.heap.size + 1) 28 _ (0, 0) _ rfl hp.1 Tryz.underlying28 rfl infoI) rfl ⟨rfl, HN.out.1.bel.trans ((HW3.out.2.below HN.out.1.bel.size (fun b hb e => by have := HN.out.2.2; omega)).trans (hp.2.below (Nat.le_trans HN.out.1.bel.size HW3.out.2.size) (fun b hb e => by omega)))⟩
set_option maxHeartbeats 8000000 in
theorem bare_2 (k sz fl : Nat) (s : ByteArray) (mn pf mx : Nat) (da : Option Addr) (n dc : Nat) (w : World) (hkk : k = 2) :
    Calls Tryz.prog 71 #[.agg #[.int .u16 (k : Int), .int .u64 (sz : Int), .int .u16 (fl : Int), .string s, .int .u32 (mn : Int), .int .u32 (pf : Int), .int .u32 (mx : Int), .slice da n dc]] w fun e w' => e = .returned (.agg #[.int .u16 (k : Int), .int .u64 0, .int .u16 0, .string s, .int .u32 0, .int .u32 0, .int .u32 0, .slice none 0 0]) ∧ Below w.heap.size w w' := by
  have t0 : ((k : Int) == 0) = false := by rw [beq_eq_false_iff_ne]; omega
  have t1 : ((k : Int) == 1) = false := by rw [beq_eq_false_iff_ne]; omega
  have t2 : ((k : Int) == 2) = true := by simp [hkk]
  have t3 : ((k : Int) == 3) = false := by rw [beq_eq_false_iff_ne]; omega
  clear hkk
  have hx := mkb2 w #[.int .u16 (k : Int), .int .u64 (sz : Int), .int .u16 (fl : Int), .string s, .int .u32 (mn : Int), .int .u32 (pf : Int), .int .u32 (mx : Int), .slice da n dc] #[.int .u16 0, .int .u64 0, .int .u16 0, .string ⟨#[]⟩, .int .u32 0, .int .u32 0, .int .u32 0, .slice none 0 0] 28 28
  go_enter Tryz.func71, Tryz.ntmps71
  go_upto_region 1 with fail
  generalize (w.alloc (Obj.cells #[.int .u16 (k : Int), .int .u64 (sz : Int), .int .u16 (fl : Int), .string s, .int .u32 (mn : Int), .int .u32 (pf : Int), .int .u32 (mx : Int), .slice da n dc] 28)).alloc (Obj.cells #[.int .u16 0, .int .u64 0, .int .u16 0, .string ⟨#[]⟩, .int .u32 0, .int .u32 0, .int .u32 0, .slice none 0 0] 28) = W1 at *
  have HY : Hid (Bx2 w W1 #[.int .u16 (k : Int), .int .u64 (sz : Int), .int .u16 (fl : Int), .string s, .int .u32 (mn : Int), .int .u32 (pf : Int), .int .u32 (mx : Int), .slice da n dc] #[.int .u16 0, .int .u64 0, .int .u16 0, .string ⟨#[]⟩, .int .u32 0, .int .u32 0, .int .u32 0, .slice none 0 0] 28 28) := hx
  clear hx
  have q0 := blk_at HY.out.a 0
  simp at q0
  have HN : Hid (Bx2 w (W1.alloc (.cells #[.int .u16 (k : Int), .int .u64 0, .int .u16 0, .string ⟨#[]⟩, .int .u32 0, .int .u32 0, .int .u32 0, .slice none 0 0] 28)) #[.int .u16 (k : Int), .int .u64 (sz : Int), .int .u16 (fl : Int), .string s, .int .u32 (mn : Int), .int .u32 (pf : Int), .int .u32 (mx : Int), .slice da n dc] #[.int .u16 0, .int .u64 0, .int .u16 0, .string ⟨#[]⟩, .int .u32 0, .int .u32 0, .int .u32 0, .slice none 0 0] 28 28 ∧ (W1.alloc (.cells #[.int .u16 (k : Int), .int .u64 0, .int .u16 0, .string ⟨#[]⟩, .int .u32 0, .int .u32 0, .int .u32 0, .slice none 0 0] 28)).heap[W1.heap.size]? = some (.cells #[.int .u16 (k : Int), .int .u64 0, .int .u16 0, .string ⟨#[]⟩, .int .u32 0, .int .u32 0, .int .u32 0, .slice none 0 0] 28 (0, 0)) ∧ w.heap.size + 2 ≤ W1.heap.size) := ⟨HY.out.later (below1 _ _), heap_new _ _, HY.out.size⟩
  go_upto_region 2 with fail
  clear q0 HY
  generalize W1.alloc (Obj.cells #[.int .u16 (k : Int), .int .u64 0, .int .u16 0, .string ⟨#[]⟩, .int .u32 0, .int .u32 0, .int .u32 0, .slice none 0 0] 28) = W2 at *
  generalize W1.heap.size = g at *
  have q0 := blk_at HN.out.1.a 0
  have z0 := blk_at HN.out.2.1 0
  have y0 := blk_free HN.out.2.1 0
  have x0 := blk_at HN.out.1.b 0
  have v0 := blk_free HN.out.1.b 0
  have q1 := blk_at HN.out.1.a 1
  have z1 := blk_at HN.out.2.1 1
  have y1 := blk_free HN.out.2.1 1
  have x1 := blk_at HN.out.1.b 1
  have v1 := blk_free HN.out.1.b 1
  have q2 := blk_at HN.out.1.a 2
  have z2 := blk_at HN.out.2.1 2
  have y2 := blk_free HN.out.2.1 2
  have x2 := blk_at HN.out.1.b 2
  have v2 := blk_free HN.out.1.b 2
  have q3 := blk_at HN.out.1.a 3
  have z3 := blk_at HN.out.2.1 3
  have y3 := blk_free HN.out.2.1 3
  have x3 := blk_at HN.out.1.b 3
  have v3 := blk_free HN.out.1.b 3
  have q4 := blk_at HN.out.1.a 4
  have z4 := blk_at HN.out.2.1 4
  have y4 := blk_free HN.out.2.1 4
  have x4 := blk_at HN.out.1.b 4
  have v4 := blk_free HN.out.1.b 4
  have q5 := blk_at HN.out.1.a 5
  have z5 := blk_at HN.out.2.1 5
  have y5 := blk_free HN.out.2.1 5
  have x5 := blk_at HN.out.1.b 5
  have v5 := blk_free HN.out.1.b 5
  have q6 := blk_at HN.out.1.a 6
  have z6 := blk_at HN.out.2.1 6
  have y6 := blk_free HN.out.2.1 6
  have x6 := blk_at HN.out.1.b 6
  have v6 := blk_free HN.out.1.b 6
  have q7 := blk_at HN.out.1.a 7
  have z7 := blk_at HN.out.2.1 7
  have y7 := blk_free HN.out.2.1 7
  have x7 := blk_at HN.out.1.b 7
  have v7 := blk_free HN.out.1.b 7
  simp at q0 z0 x0 q1 z1 x1 q2 z2 x2 q3 z3 x3 q4 z4 x4 q5 z5 x5 q6 z6 x6 q7 z7 x7
  have ng : g ≠ w.heap.size + 1 := by have := HN.out.2.2; omega
  have na : g ≠ w.heap.size := by have := HN.out.2.2; omega
  have b0 : (W2.setCell ⟨g, 3, none⟩ (.string s)).heap[g]? = some (.cells #[.int .u16 (k : Int), .int .u64 0, .int .u16 0, .string s, .int .u32 0, .int .u32 0, .int .u32 0, .slice none 0 0] 28 (0, 0)) := put_boxX HN.out.2.1 3 _ (by simp)
  have HW3 : Hid ((W2.setCell ⟨g, 3, none⟩ (.string s)).heap[g]? = some (.cells #[.int .u16 (k : Int), .int .u64 0, .int .u16 0, .string s, .int .u32 0, .int .u32 0, .int .u32 0, .slice none 0 0] 28 (0, 0)) ∧ KeptIn (fun b => b = g) W2 (W2.setCell ⟨g, 3, none⟩ (.string s))) := ⟨b0, (keptIn_set _ _ _ _)⟩
  have HBb : Hid ((W2.setCell ⟨g, 3, none⟩ (.string s)).heap[w.heap.size + 1]? = some (.cells #[.int .u16 0, .int .u64 0, .int .u16 0, .string ⟨#[]⟩, .int .u32 0, .int .u32 0, .int .u32 0, .slice none 0 0] 28 (0, 0))) := by show _ = _; rw [HW3.out.2.block _ (block_lt HN.out.1.b) (fun e => ng e.symm)]; exact HN.out.1.b
  clear b0
  go_upto_region 14 with fail
  generalize W2.setCell ⟨g, 3, none⟩ (.string s) = W3 at *
  have zz0 := blk_at HW3.out.1 0
  have zx0 := blk_at HBb.out 0
  have zv0 := blk_free HBb.out 0
  have zz1 := blk_at HW3.out.1 1
  have zx1 := blk_at HBb.out 1
  have zv1 := blk_free HBb.out 1
  have zz2 := blk_at HW3.out.1 2
  have zx2 := blk_at HBb.out 2
  have zv2 := blk_free HBb.out 2
  have zz3 := blk_at HW3.out.1 3
  have zx3 := blk_at HBb.out 3
  have zv3 := blk_free HBb.out 3
  have zz4 := blk_at HW3.out.1 4
  have zx4 := blk_at HBb.out 4
  have zv4 := blk_free HBb.out 4
  have zz5 := blk_at HW3.out.1 5
  have zx5 := blk_at HBb.out 5
  have zv5 := blk_free HBb.out 5
  have zz6 := blk_at HW3.out.1 6
  have zx6 := blk_at HBb.out 6
  have zv6 := blk_free HBb.out 6
  have zz7 := blk_at HW3.out.1 7
  have zx7 := blk_at HBb.out 7
  have zv7 := blk_free HBb.out 7
  simp at zz0 zx0 zz1 zx1 zz2 zx2 zz3 zx3 zz4 zx4 zz5 zx5 zz6 zx6 zz7 zx7
  clear q0 z0 y0 x0 v0 q1 z1 y1 x1 v1 q2 z2 y2 x2 v2 q3 z3 y3 x3 v3 q4 z4 y4 x4 v4 q5 z5 y5 x5 v5 q6 z6 y6 x6 v6 q7 z7 y7 x7 v7
  go_wp2
  have hp := putc8 HBb.out (.int .u16 (k : Int)) (.int .u64 0) (.int .u16 0) (.string s) (.int .u32 0) (.int .u32 0) (.int .u32 0) (.slice none 0 0)
  exact bodyPost_ret (results_cell_one rfl _ _ (w.heap.size + 1) 28 _ (0, 0) _ rfl hp.1 Tryz.underlying28 rfl infoI) rfl ⟨rfl, HN.out.1.bel.trans ((HW3.out.2.below HN.out.1.bel.size (fun b hb e => by have := HN.out.2.2; omega)).trans (hp.2.below (Nat.le_trans HN.out.1.bel.size HW3.out.2.size) (fun b hb e => by omega)))⟩
set_option maxHeartbeats 8000000 in
theorem bare_3 (k sz fl : Nat) (s : ByteArray) (mn pf mx : Nat) (da : Option Addr) (n dc : Nat) (w : World) (hkk : k = 3) :
    Calls Tryz.prog 71 #[.agg #[.int .u16 (k : Int), .int .u64 (sz : Int), .int .u16 (fl : Int), .string s, .int .u32 (mn : Int), .int .u32 (pf : Int), .int .u32 (mx : Int), .slice da n dc]] w fun e w' => e = .returned (.agg #[.int .u16 (k : Int), .int .u64 0, .int .u16 0, .string ⟨#[]⟩, .int .u32 (mn : Int), .int .u32 (pf : Int), .int .u32 (mx : Int), .slice none 0 0]) ∧ Below w.heap.size w w' := by
  have t0 : ((k : Int) == 0) = false := by rw [beq_eq_false_iff_ne]; omega
  have t1 : ((k : Int) == 1) = false := by rw [beq_eq_false_iff_ne]; omega
  have t2 : ((k : Int) == 2) = false := by rw [beq_eq_false_iff_ne]; omega
  have t3 : ((k : Int) == 3) = true := by simp [hkk]
  clear hkk
  have hx := mkb2 w #[.int .u16 (k : Int), .int .u64 (sz : Int), .int .u16 (fl : Int), .string s, .int .u32 (mn : Int), .int .u32 (pf : Int), .int .u32 (mx : Int), .slice da n dc] #[.int .u16 0, .int .u64 0, .int .u16 0, .string ⟨#[]⟩, .int .u32 0, .int .u32 0, .int .u32 0, .slice none 0 0] 28 28
  go_enter Tryz.func71, Tryz.ntmps71
  go_upto_region 1 with fail
  generalize (w.alloc (Obj.cells #[.int .u16 (k : Int), .int .u64 (sz : Int), .int .u16 (fl : Int), .string s, .int .u32 (mn : Int), .int .u32 (pf : Int), .int .u32 (mx : Int), .slice da n dc] 28)).alloc (Obj.cells #[.int .u16 0, .int .u64 0, .int .u16 0, .string ⟨#[]⟩, .int .u32 0, .int .u32 0, .int .u32 0, .slice none 0 0] 28) = W1 at *
  have HY : Hid (Bx2 w W1 #[.int .u16 (k : Int), .int .u64 (sz : Int), .int .u16 (fl : Int), .string s, .int .u32 (mn : Int), .int .u32 (pf : Int), .int .u32 (mx : Int), .slice da n dc] #[.int .u16 0, .int .u64 0, .int .u16 0, .string ⟨#[]⟩, .int .u32 0, .int .u32 0, .int .u32 0, .slice none 0 0] 28 28) := hx
  clear hx
  have q0 := blk_at HY.out.a 0
  simp at q0
  have HN : Hid (Bx2 w (W1.alloc (.cells #[.int .u16 (k : Int), .int .u64 0, .int .u16 0, .string ⟨#[]⟩, .int .u32 0, .int .u32 0, .int .u32 0, .slice none 0 0] 28)) #[.int .u16 (k : Int), .int .u64 (sz : Int), .int .u16 (fl : Int), .string s, .int .u32 (mn : Int), .int .u32 (pf : Int), .int .u32 (mx : Int), .slice da n dc] #[.int .u16 0, .int .u64 0, .int .u16 0, .string ⟨#[]⟩, .int .u32 0, .int .u32 0, .int .u32 0, .slice none 0 0] 28 28 ∧ (W1.alloc (.cells #[.int .u16 (k : Int), .int .u64 0, .int .u16 0, .string ⟨#[]⟩, .int .u32 0, .int .u32 0, .int .u32 0, .slice none 0 0] 28)).heap[W1.heap.size]? = some (.cells #[.int .u16 (k : Int), .int .u64 0, .int .u16 0, .string ⟨#[]⟩, .int .u32 0, .int .u32 0, .int .u32 0, .slice none 0 0] 28 (0, 0)) ∧ w.heap.size + 2 ≤ W1.heap.size) := ⟨HY.out.later (below1 _ _), heap_new _ _, HY.out.size⟩
  go_upto_region 2 with fail
  clear q0 HY
  generalize W1.alloc (Obj.cells #[.int .u16 (k : Int), .int .u64 0, .int .u16 0, .string ⟨#[]⟩, .int .u32 0, .int .u32 0, .int .u32 0, .slice none 0 0] 28) = W2 at *
  generalize W1.heap.size = g at *
  have q0 := blk_at HN.out.1.a 0
  have z0 := blk_at HN.out.2.1 0
  have y0 := blk_free HN.out.2.1 0
  have x0 := blk_at HN.out.1.b 0
  have v0 := blk_free HN.out.1.b 0
  have q1 := blk_at HN.out.1.a 1
  have z1 := blk_at HN.out.2.1 1
  have y1 := blk_free HN.out.2.1 1
  have x1 := blk_at HN.out.1.b 1
  have v1 := blk_free HN.out.1.b 1
  have q2 := blk_at HN.out.1.a 2
  have z2 := blk_at HN.out.2.1 2
  have y2 := blk_free HN.out.2.1 2
  have x2 := blk_at HN.out.1.b 2
  have v2 := blk_free HN.out.1.b 2
  have q3 := blk_at HN.out.1.a 3
  have z3 := blk_at HN.out.2.1 3
  have y3 := blk_free HN.out.2.1 3
  have x3 := blk_at HN.out.1.b 3
  have v3 := blk_free HN.out.1.b 3
  have q4 := blk_at HN.out.1.a 4
  have z4 := blk_at HN.out.2.1 4
  have y4 := blk_free HN.out.2.1 4
  have x4 := blk_at HN.out.1.b 4
  have v4 := blk_free HN.out.1.b 4
  have q5 := blk_at HN.out.1.a 5
  have z5 := blk_at HN.out.2.1 5
  have y5 := blk_free HN.out.2.1 5
  have x5 := blk_at HN.out.1.b 5
  have v5 := blk_free HN.out.1.b 5
  have q6 := blk_at HN.out.1.a 6
  have z6 := blk_at HN.out.2.1 6
  have y6 := blk_free HN.out.2.1 6
  have x6 := blk_at HN.out.1.b 6
  have v6 := blk_free HN.out.1.b 6
  have q7 := blk_at HN.out.1.a 7
  have z7 := blk_at HN.out.2.1 7
  have y7 := blk_free HN.out.2.1 7
  have x7 := blk_at HN.out.1.b 7
  have v7 := blk_free HN.out.1.b 7
  simp at q0 z0 x0 q1 z1 x1 q2 z2 x2 q3 z3 x3 q4 z4 x4 q5 z5 x5 q6 z6 x6 q7 z7 x7
  have ng : g ≠ w.heap.size + 1 := by have := HN.out.2.2; omega
  have na : g ≠ w.heap.size := by have := HN.out.2.2; omega
  have b0 : (W2.setCell ⟨g, 4, none⟩ (.int .u32 (mn : Int))).heap[g]? = some (.cells #[.int .u16 (k : Int), .int .u64 0, .int .u16 0, .string ⟨#[]⟩, .int .u32 (mn : Int), .int .u32 0, .int .u32 0, .slice none 0 0] 28 (0, 0)) := put_boxX HN.out.2.1 4 _ (by simp)
  have b1 : ((W2.setCell ⟨g, 4, none⟩ (.int .u32 (mn : Int))).setCell ⟨g, 5, none⟩ (.int .u32 (pf : Int))).heap[g]? = some (.cells #[.int .u16 (k : Int), .int .u64 0, .int .u16 0, .string ⟨#[]⟩, .int .u32 (mn : Int), .int .u32 (pf : Int), .int .u32 0, .slice none 0 0] 28 (0, 0)) := put_boxX b0 5 _ (by simp)
  have b2 : (((W2.setCell ⟨g, 4, none⟩ (.int .u32 (mn : Int))).setCell ⟨g, 5, none⟩ (.int .u32 (pf : Int))).setCell ⟨g, 6, none⟩ (.int .u32 (mx : Int))).heap[g]? = some (.cells #[.int .u16 (k : Int), .int .u64 0, .int .u16 0, .string ⟨#[]⟩, .int .u32 (mn : Int), .int .u32 (pf : Int), .int .u32 (mx : Int), .slice none 0 0] 28 (0, 0)) := put_boxX b1 6 _ (by simp)
  have HW3 : Hid ((((W2.setCell ⟨g, 4, none⟩ (.int .u32 (mn : Int))).setCell ⟨g, 5, none⟩ (.int .u32 (pf : Int))).setCell ⟨g, 6, none⟩ (.int .u32 (mx : Int))).heap[g]? = some (.cells #[.int .u16 (k : Int), .int .u64 0, .int .u16 0, .string ⟨#[]⟩, .int .u32 (mn : Int), .int .u32 (pf : Int), .int .u32 (mx : Int), .slice none 0 0] 28 (0, 0)) ∧ KeptIn (fun b => b = g) W2 (((W2.setCell ⟨g, 4, none⟩ (.int .u32 (mn : Int))).setCell ⟨g, 5, none⟩ (.int .u32 (pf : Int))).setCell ⟨g, 6, none⟩ (.int .u32 (mx : Int)))) := ⟨b2, (((keptIn_set _ _ _ _).trans (keptIn_set _ _ _ _) (fun _ _ hn => hn)).trans (keptIn_set _ _ _ _) (fun _ _ hn => hn))⟩
  have HBb : Hid ((((W2.setCell ⟨g, 4, none⟩ (.int .u32 (mn : Int))).setCell ⟨g, 5, none⟩ (.int .u32 (pf : Int))).setCell ⟨g, 6, none⟩ (.int .u32 (mx : Int))).heap[w.heap.size + 1]? = some (.cells #[.int .u16 0, .int .u64 0, .int .u16 0, .string ⟨#[]⟩, .int .u32 0, .int .u32 0, .int .u32 0, .slice none 0 0] 28 (0, 0))) := by show _ = _; rw [HW3.out.2.block _ (block_lt HN.out.1.b) (fun e => ng e.symm)]; exact HN.out.1.b
  clear b0 b1 b2
  go_upto_region 14 with fail
  generalize ((W2.setCell ⟨g, 4, none⟩ (.int .u32 (mn : Int))).setCell ⟨g, 5, none⟩ (.int .u32 (pf : Int))).setCell ⟨g, 6, none⟩ (.int .u32 (mx : Int)) = W3 at *
  have zz0 := blk_at HW3.out.1 0
  have zx0 := blk_at HBb.out 0
  have zv0 := blk_free HBb.out 0
  have zz1 := blk_at HW3.out.1 1
  have zx1 := blk_at HBb.out 1
  have zv1 := blk_free HBb.out 1
  have zz2 := blk_at HW3.out.1 2
  have zx2 := blk_at HBb.out 2
  have zv2 := blk_free HBb.out 2
  have zz3 := blk_at HW3.out.1 3
  have zx3 := blk_at HBb.out 3
  have zv3 := blk_free HBb.out 3
  have zz4 := blk_at HW3.out.1 4
  have zx4 := blk_at HBb.out 4
  have zv4 := blk_free HBb.out 4
  have zz5 := blk_at HW3.out.1 5
  have zx5 := blk_at HBb.out 5
  have zv5 := blk_free HBb.out 5
  have zz6 := blk_at HW3.out.1 6
  have zx6 := blk_at HBb.out 6
  have zv6 := blk_free HBb.out 6
  have zz7 := blk_at HW3.out.1 7
  have zx7 := blk_at HBb.out 7
  have zv7 := blk_free HBb.out 7
  simp at zz0 zx0 zz1 zx1 zz2 zx2 zz3 zx3 zz4 zx4 zz5 zx5 zz6 zx6 zz7 zx7
  clear q0 z0 y0 x0 v0 q1 z1 y1 x1 v1 q2 z2 y2 x2 v2 q3 z3 y3 x3 v3 q4 z4 y4 x4 v4 q5 z5 y5 x5 v5 q6 z6 y6 x6 v6 q7 z7 y7 x7 v7
  go_wp2
  have hp := putc8 HBb.out (.int .u16 (k : Int)) (.int .u64 0) (.int .u16 0) (.string ⟨#[]⟩) (.int .u32 (mn : Int)) (.int .u32 (pf : Int)) (.int .u32 (mx : Int)) (.slice none 0 0)
  exact bodyPost_ret (results_cell_one rfl _ _ (w.heap.size + 1) 28 _ (0, 0) _ rfl hp.1 Tryz.underlying28 rfl infoI) rfl ⟨rfl, HN.out.1.bel.trans ((HW3.out.2.below HN.out.1.bel.size (fun b hb e => by have := HN.out.2.2; omega)).trans (hp.2.below (Nat.le_trans HN.out.1.bel.size HW3.out.2.size) (fun b hb e => by omega)))⟩
set_option maxHeartbeats 8000000 in
theorem bare_o (k sz fl : Nat) (s : ByteArray) (mn pf mx : Nat) (da : Option Addr) (n dc : Nat) (w : World) (hkk : ¬ k = 0 ∧ ¬ k = 1 ∧ ¬ k = 2 ∧ ¬ k = 3) :
    Calls Tryz.prog 71 #[.agg #[.int .u16 (k : Int), .int .u64 (sz : Int), .int .u16 (fl : Int), .string s, .int .u32 (mn : Int), .int .u32 (pf : Int), .int .u32 (mx : Int), .slice da n dc]] w fun e w' => e = .returned (.agg #[.int .u16 (k : Int), .int .u64 0, .int .u16 0, .string ⟨#[]⟩, .int .u32 0, .int .u32 0, .int .u32 0, .slice da n dc]) ∧ Below w.heap.size w w' := by
  have t0 : ((k : Int) == 0) = false := by rw [beq_eq_false_iff_ne]; omega
  have t1 : ((k : Int) == 1) = false := by rw [beq_eq_false_iff_ne]; omega
  have t2 : ((k : Int) == 2) = false := by rw [beq_eq_false_iff_ne]; omega
  have t3 : ((k : Int) == 3) = false := by rw [beq_eq_false_iff_ne]; omega
  clear hkk
  have hx := mkb2 w #[.int .u16 (k : Int), .int .u64 (sz : Int), .int .u16 (fl : Int), .string s, .int .u32 (mn : Int), .int .u32 (pf : Int), .int .u32 (mx : Int), .slice da n dc] #[.int .u16 0, .int .u64 0, .int .u16 0, .string ⟨#[]⟩, .int .u32 0, .int .u32 0, .int .u32 0, .slice none 0 0] 28 28
  go_enter Tryz.func71, Tryz.ntmps71
  go_upto_region 1 with fail
  generalize (w.alloc (Obj.cells #[.int .u16 (k : Int), .int .u64 (sz : Int), .int .u16 (fl : Int), .string s, .int .u32 (mn : Int), .int .u32 (pf : Int), .int .u32 (mx : Int), .slice da n dc] 28)).alloc (Obj.cells #[.int .u16 0, .int .u64 0, .int .u16 0, .string ⟨#[]⟩, .int .u32 0, .int .u32 0, .int .u32 0, .slice none 0 0] 28) = W1 at *
  have HY : Hid (Bx2 w W1 #[.int .u16 (k : Int), .int .u64 (sz : Int), .int .u16 (fl : Int), .string s, .int .u32 (mn : Int), .int .u32 (pf : Int), .int .u32 (mx : Int), .slice da n dc] #[.int .u16 0, .int .u64 0, .int .u16 0, .string ⟨#[]⟩, .int .u32 0, .int .u32 0, .int .u32 0, .slice none 0 0] 28 28) := hx
  clear hx
  have q0 := blk_at HY.out.a 0
  simp at q0
  have HN : Hid (Bx2 w (W1.alloc (.cells #[.int .u16 (k : Int), .int .u64 0, .int .u16 0, .string ⟨#[]⟩, .int .u32 0, .int .u32 0, .int .u32 0, .slice none 0 0] 28)) #[.int .u16 (k : Int), .int .u64 (sz : Int), .int .u16 (fl : Int), .string s, .int .u32 (mn : Int), .int .u32 (pf : Int), .int .u32 (mx : Int), .slice da n dc] #[.int .u16 0, .int .u64 0, .int .u16 0, .string ⟨#[]⟩, .int .u32 0, .int .u32 0, .int .u32 0, .slice none 0 0] 28 28 ∧ (W1.alloc (.cells #[.int .u16 (k : Int), .int .u64 0, .int .u16 0, .string ⟨#[]⟩, .int .u32 0, .int .u32 0, .int .u32 0, .slice none 0 0] 28)).heap[W1.heap.size]? = some (.cells #[.int .u16 (k : Int), .int .u64 0, .int .u16 0, .string ⟨#[]⟩, .int .u32 0, .int .u32 0, .int .u32 0, .slice none 0 0] 28 (0, 0)) ∧ w.heap.size + 2 ≤ W1.heap.size) := ⟨HY.out.later (below1 _ _), heap_new _ _, HY.out.size⟩
  go_upto_region 2 with fail
  clear q0 HY
  generalize W1.alloc (Obj.cells #[.int .u16 (k : Int), .int .u64 0, .int .u16 0, .string ⟨#[]⟩, .int .u32 0, .int .u32 0, .int .u32 0, .slice none 0 0] 28) = W2 at *
  generalize W1.heap.size = g at *
  have q0 := blk_at HN.out.1.a 0
  have z0 := blk_at HN.out.2.1 0
  have y0 := blk_free HN.out.2.1 0
  have x0 := blk_at HN.out.1.b 0
  have v0 := blk_free HN.out.1.b 0
  have q1 := blk_at HN.out.1.a 1
  have z1 := blk_at HN.out.2.1 1
  have y1 := blk_free HN.out.2.1 1
  have x1 := blk_at HN.out.1.b 1
  have v1 := blk_free HN.out.1.b 1
  have q2 := blk_at HN.out.1.a 2
  have z2 := blk_at HN.out.2.1 2
  have y2 := blk_free HN.out.2.1 2
  have x2 := blk_at HN.out.1.b 2
  have v2 := blk_free HN.out.1.b 2
  have q3 := blk_at HN.out.1.a 3
  have z3 := blk_at HN.out.2.1 3
  have y3 := blk_free HN.out.2.1 3
  have x3 := blk_at HN.out.1.b 3
  have v3 := blk_free HN.out.1.b 3
  have q4 := blk_at HN.out.1.a 4
  have z4 := blk_at HN.out.2.1 4
  have y4 := blk_free HN.out.2.1 4
  have x4 := blk_at HN.out.1.b 4
  have v4 := blk_free HN.out.1.b 4
  have q5 := blk_at HN.out.1.a 5
  have z5 := blk_at HN.out.2.1 5
  have y5 := blk_free HN.out.2.1 5
  have x5 := blk_at HN.out.1.b 5
  have v5 := blk_free HN.out.1.b 5
  have q6 := blk_at HN.out.1.a 6
  have z6 := blk_at HN.out.2.1 6
  have y6 := blk_free HN.out.2.1 6
  have x6 := blk_at HN.out.1.b 6
  have v6 := blk_free HN.out.1.b 6
  have q7 := blk_at HN.out.1.a 7
  have z7 := blk_at HN.out.2.1 7
  have y7 := blk_free HN.out.2.1 7
  have x7 := blk_at HN.out.1.b 7
  have v7 := blk_free HN.out.1.b 7
  simp at q0 z0 x0 q1 z1 x1 q2 z2 x2 q3 z3 x3 q4 z4 x4 q5 z5 x5 q6 z6 x6 q7 z7 x7
  have ng : g ≠ w.heap.size + 1 := by have := HN.out.2.2; omega
  have na : g ≠ w.heap.size := by have := HN.out.2.2; omega
  have b0 : (W2.setCell ⟨g, 7, none⟩ (.slice da n dc)).heap[g]? = some (.cells #[.int .u16 (k : Int), .int .u64 0, .int .u16 0, .string ⟨#[]⟩, .int .u32 0, .int .u32 0, .int .u32 0, .slice da n dc] 28 (0, 0)) := put_boxX HN.out.2.1 7 _ (by simp)
  have HW3 : Hid ((W2.setCell ⟨g, 7, none⟩ (.slice da n dc)).heap[g]? = some (.cells #[.int .u16 (k : Int), .int .u64 0, .int .u16 0, .string ⟨#[]⟩, .int .u32 0, .int .u32 0, .int .u32 0, .slice da n dc] 28 (0, 0)) ∧ KeptIn (fun b => b = g) W2 (W2.setCell ⟨g, 7, none⟩ (.slice da n dc))) := ⟨b0, (keptIn_set _ _ _ _)⟩
  have HBb : Hid ((W2.setCell ⟨g, 7, none⟩ (.slice da n dc)).heap[w.heap.size + 1]? = some (.cells #[.int .u16 0, .int .u64 0, .int .u16 0, .string ⟨#[]⟩, .int .u32 0, .int .u32 0, .int .u32 0, .slice none 0 0] 28 (0, 0))) := by show _ = _; rw [HW3.out.2.block _ (block_lt HN.out.1.b) (fun e => ng e.symm)]; exact HN.out.1.b
  clear b0
  go_upto_region 14 with fail
  generalize W2.setCell ⟨g, 7, none⟩ (.slice da n dc) = W3 at *
  have zz0 := blk_at HW3.out.1 0
  have zx0 := blk_at HBb.out 0
  have zv0 := blk_free HBb.out 0
  have zz1 := blk_at HW3.out.1 1
  have zx1 := blk_at HBb.out 1
  have zv1 := blk_free HBb.out 1
  have zz2 := blk_at HW3.out.1 2
  have zx2 := blk_at HBb.out 2
  have zv2 := blk_free HBb.out 2
  have zz3 := blk_at HW3.out.1 3
  have zx3 := blk_at HBb.out 3
  have zv3 := blk_free HBb.out 3
  have zz4 := blk_at HW3.out.1 4
  have zx4 := blk_at HBb.out 4
  have zv4 := blk_free HBb.out 4
  have zz5 := blk_at HW3.out.1 5
  have zx5 := blk_at HBb.out 5
  have zv5 := blk_free HBb.out 5
  have zz6 := blk_at HW3.out.1 6
  have zx6 := blk_at HBb.out 6
  have zv6 := blk_free HBb.out 6
  have zz7 := blk_at HW3.out.1 7
  have zx7 := blk_at HBb.out 7
  have zv7 := blk_free HBb.out 7
  simp at zz0 zx0 zz1 zx1 zz2 zx2 zz3 zx3 zz4 zx4 zz5 zx5 zz6 zx6 zz7 zx7
  clear q0 z0 y0 x0 v0 q1 z1 y1 x1 v1 q2 z2 y2 x2 v2 q3 z3 y3 x3 v3 q4 z4 y4 x4 v4 q5 z5 y5 x5 v5 q6 z6 y6 x6 v6 q7 z7 y7 x7 v7
  go_wp2
  have hp := putc8 HBb.out (.int .u16 (k : Int)) (.int .u64 0) (.int .u16 0) (.string ⟨#[]⟩) (.int .u32 0) (.int .u32 0) (.int .u32 0) (.slice da n dc)
  exact bodyPost_ret (results_cell_one rfl _ _ (w.heap.size + 1) 28 _ (0, 0) _ rfl hp.1 Tryz.underlying28 rfl infoI) rfl ⟨rfl, HN.out.1.bel.trans ((HW3.out.2.below HN.out.1.bel.size (fun b hb e => by have := HN.out.2.2; omega)).trans (hp.2.below (Nat.le_trans HN.out.1.bel.size HW3.out.2.size) (fun b hb e => by omega)))⟩
end Go.Proofs.YtfifaaopdhcaaaaGreatDoor
