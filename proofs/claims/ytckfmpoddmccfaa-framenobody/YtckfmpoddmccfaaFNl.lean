import Derived.Test.YtckfmpoddmccfaaFNk0
import Derived.Test.YtckfmpoddmccfaaFNk2
import Derived.Test.YtckfmpoddmccfaaFNk3
import Derived.Test.YtckfmpoddmccfaaFNk4
import Derived.Test.YtckfmpoddmccfaaFNk5
import Derived.Test.YtckfmpoddmccfaaFNk6
import Derived.Test.YtckfmpoddmccfaaFNk7
import Derived.Test.YtckfmpoddmccfaaFNk8
import Derived.Test.YtckfmpoddmccfaaFNk9
import Derived.Test.YtckfmpoddmccfaaFH
import Derived.ChangeKeysEq
namespace Go.Proofs.Ytckfmpoddmccfaa
open Go.RowKit
set_option linter.unusedVariables false
set_option linter.unusedSimpArgs false
set_option maxRecDepth 100000

theorem cuts_any {w : World} {po : Option Addr} (h : Dd w po) (kd : Int) (bo : Option Addr) (bn bc m : Nat) (z b : Bool) (a : Int) : Calls Try.prog 14 #[.pointer po, .agg #[.int .i64 kd, .slice bo bn bc, .int .u32 (m : Int), .bool z, .bool b, .int .i64 a]] w fun e w' => e = .returned (.agg zC) ∧ Below w.heap.size w w' := by
  by_cases h0 : kd < 2 ∨ 9 < kd
  · exact cuts_other h bo bn bc m z b a kd h0
  have h1 : kd = 2 ∨ kd = 3 ∨ kd = 4 ∨ kd = 5 ∨ kd = 6 ∨ kd = 7 ∨ kd = 8 ∨ kd = 9 := by omega
  rcases h1 with rfl | rfl | rfl | rfl | rfl | rfl | rfl | rfl
  · exact cuts_k2 h bo bn bc m z b a
  · exact cuts_k3 h bo bn bc m z b a
  · exact cuts_k4 h bo bn bc m z b a
  · exact cuts_k5 h bo bn bc m z b a
  · exact cuts_k6 h bo bn bc m z b a
  · exact cuts_k7 h bo bn bc m z b a
  · exact cuts_k8 h bo bn bc m z b a
  · exact cuts_k9 h bo bn bc m z b a
theorem cells64 : Try.prog.cellsOf 30 = 1 := by kernel_rfl
theorem part_z {i : Nat} (hi : i < 8) (w : World) : (part 30 (Array.replicate 8 (Value.int .u64 0)) (i * 1)).run Try.prog w = .ok (.int .u64 0) w := by
  have h1 : (Array.replicate 8 (Value.int .u64 0))[i]? = some (.int .u64 0) := by simp [hi]
  simp [part, go_sem, h1]
theorem eqItems_z (d : Nat) (w : World) : ∀ is : List Nat, (∀ i ∈ is, i < 8) → (Op.eqItems (d + 1) 30 (Try.prog.cellsOf 30) (Array.replicate 8 (Value.int .u64 0)) (Array.replicate 8 (Value.int .u64 0)) is).run Try.prog w = .ok true w
  | [], _ => by simp [Op.eqItems]
  | i :: is, h => by
    have hi := h i (by simp)
    have ih := eqItems_z d w is (fun j hj => h j (by simp [hj]))
    rw [cells64] at ih ⊢
    simp only [Op.eqItems, Sem.run_bind, part_z hi, Result.andThen_ok, run_equalIn_int w d _ _ _ _ _ Try.underlying30]
    simp only [beq_self_eq_true, Bool.not_true, Bool.false_eq_true, if_false]
    exact ih
theorem eq_z (w : World) : (Op.equalIn 10000 39 (.agg #[.int .u64 0, .int .u64 0, .int .u64 0, .int .u64 0, .int .u64 0, .int .u64 0, .int .u64 0, .int .u64 0]) (.agg #[.int .u64 0, .int .u64 0, .int .u64 0, .int .u64 0, .int .u64 0, .int .u64 0, .int .u64 0, .int .u64 0])).run Try.prog w = .ok true w := by
  obtain ⟨i5, h5⟩ : ∃ i5, Try.prog.info? 30 = some i5 := by
    cases h : Try.prog.info? 30 with
    | none => have : (Try.prog.info? 30).isSome = true := by kernel_rfl
              rw [h] at this; cases this
    | some i => exact ⟨i, rfl⟩
  rw [show (10000 : Nat) = 9998 + 1 + 1 from rfl, show (#[.int .u64 0, .int .u64 0, .int .u64 0, .int .u64 0, .int .u64 0, .int .u64 0, .int .u64 0, .int .u64 0] : Array Value) = Array.replicate 8 (Value.int .u64 0) from rfl]
  rw [run_equalIn_array w (9998 + 1) _ _ Try.underlying39 h5, eqItems_z 9998 w _ (fun i hi => by simpa using hi)]
set_option maxHeartbeats 4000000 in
theorem sameZ (w : World) : Calls Try.prog 16 #[.agg #[.int .i64 0, .int .u64 0, .int .u64 0, .int .u64 0, .int .u64 0, .int .u64 0, .int .u64 0, .int .u64 0, .int .u64 0, .slice none 0 0], .agg #[.int .i64 0, .int .u64 0, .int .u64 0, .int .u64 0, .int .u64 0, .int .u64 0, .int .u64 0, .int .u64 0, .int .u64 0, .slice none 0 0]] w fun e w' => e = .returned (.bool true) ∧ Below w.heap.size w w' := by
  have HS : Hid (∀ W, Calls Try.prog 30 #[.slice none 0 0, .slice none 0 0] W fun e w' => e = .returned (.bool true) ∧ ∃ q, w' = W.drewN q) := fun W => by
    have hb : BRow W none 0 [] := ⟨by simp, by simp, fun _ => ⟨rfl, rfl⟩, fun h => absurd rfl h⟩
    have := same_any none none 0 0 [] [] W hb hb
    simp at this
    exact this
  have HB : Hid (∀ o1 o2, Below w.heap.size w ((w.alloc o1).alloc o2)) := fun _ _ => bx2_bel w _ _
  go_enter Try.func16, Try.ntmps16
  have he : ∀ W : World, (Op.equalIn 10000 39 (.agg #[.int .u64 0, .int .u64 0, .int .u64 0, .int .u64 0, .int .u64 0, .int .u64 0, .int .u64 0, .int .u64 0]) (.agg #[.int .u64 0, .int .u64 0, .int .u64 0, .int .u64 0, .int .u64 0, .int .u64 0, .int .u64 0, .int .u64 0])).run Try.prog W = .ok true W := eq_z
  go_wp2_with fail
  refine (HS.out _).mono ?_
  rintro e w1 ⟨rfl, q, hw⟩
  have HB1 : Hid (Below w.heap.size w w1) := by
    show Below _ _ _
    rw [hw]; exact (HB.out _ _).trans ⟨rfl, rfl, rfl, Nat.le_refl _, fun _ _ => rfl⟩
  clear hw HB HS he
  go_wp2
  go_ret
  exact ⟨rfl, HB1.out⟩
set_option maxHeartbeats 16000000 in
theorem frameNobody_any (w : World) (kd : Int) (bo : Option Addr) (bn bc m : Nat) (z b : Bool) (a : Int) : Calls Try.prog 8 #[.agg #[.int .i64 kd, .slice bo bn bc, .int .u32 (m : Int), .bool z, .bool b, .int .i64 a]] w fun e w' => e = .returned (.bool true) ∧ Below w.heap.size w w' := by
  obtain ⟨W0, hW0⟩ : ∃ W0, W0 = (w.alloc (.cells #[.int .i64 kd, .slice bo bn bc, .int .u32 (m : Int), .bool z, .bool b, .int .i64 a] 38)).alloc (.cells #[.int .i64 0, .slice none 0 0, .int .u32 0] TIn) := ⟨_, rfl⟩
  have hb0 : Below w.heap.size w W0 := by rw [hW0]; exact bx2_bel w _ _
  have g0 : W0.heap[w.heap.size]? = some (.cells #[.int .i64 kd, .slice bo bn bc, .int .u32 (m : Int), .bool z, .bool b, .int .i64 a] 38 (0, 0)) := by
    rw [hW0, Below.heap_alloc _ _ _ (by simp)]; exact heap_new w _
  have g1 : W0.heap[w.heap.size + 1]? = some (.cells #[.int .i64 0, .slice none 0 0, .int .u32 0] TIn (0, 0)) := by
    have h := heap_new (w.alloc (.cells #[.int .i64 kd, .slice bo bn bc, .int .u32 (m : Int), .bool z, .bool b, .int .i64 a] 38)) (.cells #[.int .i64 0, .slice none 0 0, .int .u32 0] TIn)
    rw [World.size_alloc] at h
    rw [hW0]; exact h
  have HC1 : Hid (Calls Try.prog 14 #[.pointer none, .agg #[.int .i64 kd, .slice bo bn bc, .int .u32 (m : Int), .bool z, .bool b, .int .i64 a]] W0 fun e w' => e = .returned (.agg #[.int .i64 0, .int .u64 0, .int .u64 0, .int .u64 0, .int .u64 0, .int .u64 0, .int .u64 0, .int .u64 0, .int .u64 0, .slice none 0 0]) ∧ Below W0.heap.size W0 w') := cuts_any (.inl rfl) kd bo bn bc m z b a
  have o0 := blk_at g0 0
  have o1 := blk_at g0 1
  have o2 := blk_at g0 2
  have o3 := blk_at g0 3
  have o4 := blk_at g0 4
  have o5 := blk_at g0 5
  simp at o0 o1 o2 o3 o4 o5
  have p0 := o0
  have p1 := o1
  have p2 := o2
  have p3 := o3
  have p4 := o4
  have p5 := o5
  rw [hW0] at p0 p1 p2 p3 p4 p5
  have HB0 : Hid _ := hb0
  have HG0 : Hid _ := g0
  have HG1 : Hid _ := g1
  clear hb0 g0 g1
  go_enter Try.func8, Try.ntmps8
  go_wp2_with fail
  rw [← hW0]
  clear hW0 p0 p1 p2 p3 p4 p5
  refine HC1.out.mono ?_
  rintro e w1 ⟨rfl, hb1⟩
  clear o0 o1 o2 o3 o4 o5
  obtain ⟨W2, hW2⟩ : ∃ W2, W2 = w1.alloc (.cells #[.int .i64 0, .int .u64 0, .int .u64 0, .int .u64 0, .int .u64 0, .int .u64 0, .int .u64 0, .int .u64 0, .int .u64 0, .slice none 0 0] 41) := ⟨_, rfl⟩
  have hb2 : Below W0.heap.size W0 W2 := by rw [hW2]; exact hb1.alloc hb1.size _
  have g0 : W2.heap[w.heap.size]? = some (.cells #[.int .i64 kd, .slice bo bn bc, .int .u32 (m : Int), .bool z, .bool b, .int .i64 a] 38 (0, 0)) := (hb2.block _ (block_lt HG0.out)).trans HG0.out
  have g1 : W2.heap[w.heap.size + 1]? = some (.cells #[.int .i64 0, .slice none 0 0, .int .u32 0] TIn (0, 0)) := (hb2.block _ (block_lt HG1.out)).trans HG1.out
  have g2 : W2.heap[w1.heap.size]? = some (.cells #[.int .i64 0, .int .u64 0, .int .u64 0, .int .u64 0, .int .u64 0, .int .u64 0, .int .u64 0, .int .u64 0, .int .u64 0, .slice none 0 0] 41 (0, 0)) := by rw [hW2]; exact heap_new w1 _
  have hB2 : Below w.heap.size w W2 := HB0.out.trans (hb2.mono HB0.out.size)
  have HC2 : Hid (Calls Try.prog 14 #[.pointer (some ⟨w.heap.size + 1, 0, none⟩), .agg #[.int .i64 kd, .slice bo bn bc, .int .u32 (m : Int), .bool z, .bool b, .int .i64 a]] W2 fun e w' => e = .returned (.agg #[.int .i64 0, .int .u64 0, .int .u64 0, .int .u64 0, .int .u64 0, .int .u64 0, .int .u64 0, .int .u64 0, .int .u64 0, .slice none 0 0]) ∧ Below W2.heap.size W2 w') := cuts_any (.inr ⟨_, rfl, g1⟩) kd bo bn bc m z b a
  have o0 := blk_at g0 0
  have o1 := blk_at g0 1
  have o2 := blk_at g0 2
  have o3 := blk_at g0 3
  have o4 := blk_at g0 4
  have o5 := blk_at g0 5
  simp at o0 o1 o2 o3 o4 o5
  have p0 := o0
  have p1 := o1
  have p2 := o2
  have p3 := o3
  have p4 := o4
  have p5 := o5
  rw [hW2] at p0 p1 p2 p3 p4 p5
  have HB2 : Hid _ := hB2
  have HG02 : Hid _ := g0
  have HG12 : Hid _ := g1
  have HG22 : Hid _ := g2
  clear HC1 HB0 HG0 HG1 hb1 hb2 g0 g1 g2 hB2
  go_wp2_with fail
  rw [← hW2]
  clear hW2 p0 p1 p2 p3 p4 p5
  refine HC2.out.mono ?_
  rintro e w3 ⟨rfl, hb3⟩
  clear o0 o1 o2 o3 o4 o5
  obtain ⟨W4, hW4⟩ : ∃ W4, W4 = w3.alloc (.cells #[.int .i64 0, .int .u64 0, .int .u64 0, .int .u64 0, .int .u64 0, .int .u64 0, .int .u64 0, .int .u64 0, .int .u64 0, .slice none 0 0] 41) := ⟨_, rfl⟩
  have hb4 : Below W2.heap.size W2 W4 := by rw [hW4]; exact hb3.alloc hb3.size _
  have g0 : W4.heap[w.heap.size]? = some (.cells #[.int .i64 kd, .slice bo bn bc, .int .u32 (m : Int), .bool z, .bool b, .int .i64 a] 38 (0, 0)) := (hb4.block _ (block_lt HG02.out)).trans HG02.out
  have g1 : W4.heap[w.heap.size + 1]? = some (.cells #[.int .i64 0, .slice none 0 0, .int .u32 0] TIn (0, 0)) := (hb4.block _ (block_lt HG12.out)).trans HG12.out
  have g2 : W4.heap[w1.heap.size]? = some (.cells #[.int .i64 0, .int .u64 0, .int .u64 0, .int .u64 0, .int .u64 0, .int .u64 0, .int .u64 0, .int .u64 0, .int .u64 0, .slice none 0 0] 41 (0, 0)) := (hb4.block _ (block_lt HG22.out)).trans HG22.out
  have g3 : W4.heap[w3.heap.size]? = some (.cells #[.int .i64 0, .int .u64 0, .int .u64 0, .int .u64 0, .int .u64 0, .int .u64 0, .int .u64 0, .int .u64 0, .int .u64 0, .slice none 0 0] 41 (0, 0)) := by rw [hW4]; exact heap_new w3 _
  have HB4 : Hid (Below w.heap.size w W4) := HB2.out.trans (hb4.mono HB2.out.size)
  have hd1 : Dd W4 none := .inl rfl
  have hd2 : Dd W4 (some ⟨w.heap.size + 1, 0, none⟩) := .inr ⟨_, rfl, g1⟩
  have F1 : Hid (∀ v, Calls Try.prog 19 #[.pointer none, v] W4 fun e w' => e = .returned (.int .i64 0) ∧ w' = W4) := fun v => feedD hd1 v
  have F2 : Hid (∀ v, Calls Try.prog 19 #[.pointer (some ⟨w.heap.size + 1, 0, none⟩), v] W4 fun e w' => e = .returned (.int .i64 0) ∧ w' = W4) := fun v => feedD hd2 v
  have F3 : Hid (Calls Try.prog 11 #[.pointer none] W4 fun e w' => e = .returned (.int .i64 0) ∧ w' = W4) := heldD hd1
  have F4 : Hid (Calls Try.prog 11 #[.pointer (some ⟨w.heap.size + 1, 0, none⟩)] W4 fun e w' => e = .returned (.int .i64 0) ∧ w' = W4) := heldD hd2
  have F5 : Hid (Calls Try.prog 12 #[.pointer none] W4 fun e w' => e = .returned (.int .i64 0) ∧ w' = W4) := roomD hd1
  have F6 : Hid (Calls Try.prog 12 #[.pointer (some ⟨w.heap.size + 1, 0, none⟩)] W4 fun e w' => e = .returned (.int .i64 0) ∧ w' = W4) := roomD hd2
  have o1 := blk_at g0 1
  have s0 := blk_at g2 0
  have s1 := blk_at g2 1
  have s2 := blk_at g2 2
  have s3 := blk_at g2 3
  have s4 := blk_at g2 4
  have s5 := blk_at g2 5
  have s6 := blk_at g2 6
  have s7 := blk_at g2 7
  have s8 := blk_at g2 8
  have s9 := blk_at g2 9
  simp at s0 s1 s2 s3 s4 s5 s6 s7 s8 s9
  have t0 := blk_at g3 0
  have t1 := blk_at g3 1
  have t2 := blk_at g3 2
  have t3 := blk_at g3 3
  have t4 := blk_at g3 4
  have t5 := blk_at g3 5
  have t6 := blk_at g3 6
  have t7 := blk_at g3 7
  have t8 := blk_at g3 8
  have t9 := blk_at g3 9
  simp at t0 t1 t2 t3 t4 t5 t6 t7 t8 t9
  simp at o1
  have q1 := o1
  rw [hW4] at q1
  have HG4 : Hid _ := g3
  clear HC2 HB2 HG02 HG12 HG22 hb3 hb4 g0 g1 g2 g3 hd1 hd2
  go_wp2_with fail
  rw [← hW4]
  clear hW4 q1
  refine (F1.out _).mono ?_
  rintro e w9 ⟨rfl, hw⟩
  rw [hw]; clear hw
  go_wp2_with fail
  refine (F2.out _).mono ?_
  rintro e w9 ⟨rfl, hw⟩
  rw [hw]; clear hw
  go_wp2_with fail
  refine F3.out.mono ?_
  rintro e w9 ⟨rfl, hw⟩
  rw [hw]; clear hw
  go_wp2_with fail
  refine F4.out.mono ?_
  rintro e w9 ⟨rfl, hw⟩
  rw [hw]; clear hw
  go_wp2_with fail
  refine F5.out.mono ?_
  rintro e w9 ⟨rfl, hw⟩
  rw [hw]; clear hw
  go_wp2_with fail
  refine F6.out.mono ?_
  rintro e w9 ⟨rfl, hw⟩
  rw [hw]; clear hw F1 F2 F3 F4 F5 F6
  go_wp2_with fail
  refine (sameZ _).mono ?_
  rintro e w5 ⟨rfl, hb5⟩
  have g3 : w5.heap[w3.heap.size]? = some (.cells #[.int .i64 0, .int .u64 0, .int .u64 0, .int .u64 0, .int .u64 0, .int .u64 0, .int .u64 0, .int .u64 0, .int .u64 0, .slice none 0 0] 41 (0, 0)) := (hb5.block _ (block_lt HG4.out)).trans HG4.out
  clear s0 t0 s1 t1 s2 t2 s3 t3 s4 t4 s5 t5 s6 t6 s7 t7 s8 t8 s9 t9 o1
  have t0 := blk_at g3 0
  have t1 := blk_at g3 1
  have t2 := blk_at g3 2
  have t3 := blk_at g3 3
  have t4 := blk_at g3 4
  have t5 := blk_at g3 5
  have t6 := blk_at g3 6
  have t7 := blk_at g3 7
  have t8 := blk_at g3 8
  have t9 := blk_at g3 9
  simp at t0 t1 t2 t3 t4 t5 t6 t7 t8 t9
  have HB5 : Hid (Below w.heap.size w w5) := HB4.out.trans (hb5.mono HB4.out.size)
  clear HB4 hb5 g3 HG4
  go_wp2_with fail
  refine (sameZ _).mono ?_
  rintro e w6 ⟨rfl, hb6⟩
  have HB6 : Hid (Below w.heap.size w w6) := HB5.out.trans (hb6.mono HB5.out.size)
  clear HB5 hb6 t0 t1 t2 t3 t4 t5 t6 t7 t8 t9
  go_wp2_with fail
  refine (heads_any _).mono ?_
  rintro e w7 ⟨rfl, hb7⟩
  have HB7 : Hid (Below w.heap.size w w7) := HB6.out.trans (hb7.mono HB6.out.size)
  clear HB6 hb7
  go_wp2
  go_ret
  exact ⟨rfl, HB7.out⟩
end Go.Proofs.Ytckfmpoddmccfaa
