import Derived.Test.YtckfmpoddmccfaaV48
namespace Go.Proofs.Ytckfmpoddmccfaa
open Go.RowKit
set_option linter.unusedVariables false
set_option linter.unusedSimpArgs false
set_option maxRecDepth 100000
theorem cells64G : Try.prog.cellsOf 30 = 1 := by kernel_rfl
theorem eqItemsG (A : Array Value) (hA : ∀ i, i < 8 → ∃ k : Int, A[i]? = some (.int .u64 k)) (d : Nat) (w : World) : ∀ is : List Nat, (∀ i ∈ is, i < 8) → (Op.eqItems (d + 1) 30 (Try.prog.cellsOf 30) A A is).run Try.prog w = .ok true w
  | [], _ => by simp [Op.eqItems]
  | i :: is, h => by
    obtain ⟨k, hk⟩ := hA i (h i (by simp))
    have hp : (part 30 A (i * 1)).run Try.prog w = .ok (.int .u64 k) w := by
      have hk' : A[i * 1]? = some (.int .u64 k) := by simpa using hk
      simp [part, go_sem, hk]
    have ih := eqItemsG A hA d w is (fun j hj => h j (by simp [hj]))
    rw [cells64G] at ih ⊢
    simp only [Op.eqItems, Sem.run_bind, hp, Result.andThen_ok, run_equalIn_int w d _ _ _ _ _ Try.underlying30]
    simp only [beq_self_eq_true, Bool.not_true, Bool.false_eq_true, if_false]
    exact ih
theorem eqG (n0 n1 n2 n3 n4 n5 n6 n7 : Nat) (w : World) : (Op.equalIn 10000 39 (.agg #[.int .u64 (n0 : Int), .int .u64 (n1 : Int), .int .u64 (n2 : Int), .int .u64 (n3 : Int), .int .u64 (n4 : Int), .int .u64 (n5 : Int), .int .u64 (n6 : Int), .int .u64 (n7 : Int)]) (.agg #[.int .u64 (n0 : Int), .int .u64 (n1 : Int), .int .u64 (n2 : Int), .int .u64 (n3 : Int), .int .u64 (n4 : Int), .int .u64 (n5 : Int), .int .u64 (n6 : Int), .int .u64 (n7 : Int)])).run Try.prog w = .ok true w := by
  obtain ⟨i5, h5⟩ : ∃ i5, Try.prog.info? 30 = some i5 := by
    cases h : Try.prog.info? 30 with
    | none => have : (Try.prog.info? 30).isSome = true := by kernel_rfl
              rw [h] at this; cases this
    | some i => exact ⟨i, rfl⟩
  rw [show (10000 : Nat) = 9998 + 1 + 1 from rfl]
  rw [run_equalIn_array w (9998 + 1) _ _ Try.underlying39 h5, eqItemsG _ ?_ 9998 w _ (fun i hi => by simpa using hi)]
  intro i hi
  match i, hi with
  | 0, _ => exact ⟨_, rfl⟩
  | 1, _ => exact ⟨_, rfl⟩
  | 2, _ => exact ⟨_, rfl⟩
  | 3, _ => exact ⟨_, rfl⟩
  | 4, _ => exact ⟨_, rfl⟩
  | 5, _ => exact ⟨_, rfl⟩
  | 6, _ => exact ⟨_, rfl⟩
  | 7, _ => exact ⟨_, rfl⟩
set_option maxHeartbeats 4000000 in
theorem sameG (w : World) (cu n0 n1 n2 n3 n4 n5 n6 n7 : Nat) (d : List Nat) (ao1 ao2 : Option Addr) (cap1 cap2 : Nat) (h1 : BRow w ao1 cap1 d) (h2 : BRow w ao2 cap2 d) : Calls Try.prog 16 #[.agg #[.int .i64 (cu : Int), .int .u64 (n0 : Int), .int .u64 (n1 : Int), .int .u64 (n2 : Int), .int .u64 (n3 : Int), .int .u64 (n4 : Int), .int .u64 (n5 : Int), .int .u64 (n6 : Int), .int .u64 (n7 : Int), .slice ao1 d.length cap1], .agg #[.int .i64 (cu : Int), .int .u64 (n0 : Int), .int .u64 (n1 : Int), .int .u64 (n2 : Int), .int .u64 (n3 : Int), .int .u64 (n4 : Int), .int .u64 (n5 : Int), .int .u64 (n6 : Int), .int .u64 (n7 : Int), .slice ao2 d.length cap2]] w fun e w' => e = .returned (.bool true) ∧ Below w.heap.size w w' := by
  have HS : Hid (∀ W, Below w.heap.size w W → Calls Try.prog 30 #[.slice ao1 d.length cap1, .slice ao2 d.length cap2] W fun e w' => e = .returned (.bool true) ∧ ∃ q, w' = W.drewN q) := fun W hb => by
    have := same_any ao1 ao2 cap1 cap2 d d W (h1.later hb) (h2.later hb)
    simp at this
    exact this
  have HB : Hid (∀ o1 o2, Below w.heap.size w ((w.alloc o1).alloc o2)) := fun _ _ => bx2_bel w _ _
  obtain ⟨dn, hdn⟩ : ∃ dn, d.length = dn := ⟨_, rfl⟩
  rw [hdn] at HS ⊢
  clear h1 h2 hdn
  go_enter Try.func16, Try.ntmps16
  have he : ∀ W : World, (Op.equalIn 10000 39 (.agg #[.int .u64 (n0 : Int), .int .u64 (n1 : Int), .int .u64 (n2 : Int), .int .u64 (n3 : Int), .int .u64 (n4 : Int), .int .u64 (n5 : Int), .int .u64 (n6 : Int), .int .u64 (n7 : Int)]) (.agg #[.int .u64 (n0 : Int), .int .u64 (n1 : Int), .int .u64 (n2 : Int), .int .u64 (n3 : Int), .int .u64 (n4 : Int), .int .u64 (n5 : Int), .int .u64 (n6 : Int), .int .u64 (n7 : Int)])).run Try.prog W = .ok true W := eqG n0 n1 n2 n3 n4 n5 n6 n7
  go_wp2_with fail
  refine (HS.out _ (HB.out _ _)).mono ?_
  rintro e w1 ⟨rfl, q, hw⟩
  have HB1 : Hid (Below w.heap.size w w1) := by
    show Below _ _ _
    rw [hw]; exact (HB.out _ _).trans ⟨rfl, rfl, rfl, Nat.le_refl _, fun _ _ => rfl⟩
  clear hw HB HS he
  go_wp2
  go_ret
  exact ⟨rfl, HB1.out⟩
end Go.Proofs.Ytckfmpoddmccfaa
