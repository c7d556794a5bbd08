import Derived.Test.YtjkoambfecmglaaVMz
namespace Go.Proofs.Ytjkoambfecmglaa
open Go.RowKit
set_option linter.unusedVariables false
set_option linter.unusedSimpArgs false
set_option maxRecDepth 100000
set_option maxHeartbeats 4000000 in
/-- the document plays a read that was not answered -/
theorem rPlay_askN (bo da : Option Addr) (cap dc n k m off : Nat) (bs : List Nat) (fr : Int) (sy : Bool) (w : World) (hb : BRow w bo cap bs) (hn : bs.length = n) (hin : off + m ≤ n) (hs : n ≤ 4096) :
    Calls Try.prog 30 #[.slice bo n cap, .agg #[.int .i64 1, .int .i64 fr, .int .i64 (-1), .int .i64 (off : Int), .int .i64 (m : Int), .slice da k dc, .bool sy]] w fun e w' => ∃ co cc, e = .returned (.tuple #[.slice co n cc, .bool true]) ∧ BRow w' co cc bs ∧ w'.ownsRow w.heap.size 5 1 (.slice co n cc) n (bs.map bv) ∧ Below w.heap.size w w' := by
  obtain ⟨H, hH⟩ : ∃ H, w.heap.size = H := ⟨_, rfl⟩
  obtain ⟨W0, hW0⟩ : ∃ W0, W0 = w.alloc (.cells #[.int .i64 1, .int .i64 fr, .int .i64 (-1), .int .i64 (off : Int), .int .i64 (m : Int), .slice da k dc, .bool sy] 50) := ⟨_, rfl⟩
  have b0 : Below H w W0 := by rw [hW0, ← hH]; exact (Below.refl _ w).alloc (Nat.le_refl _) _
  have hx0 : W0.heap[H]? = some (.cells #[.int .i64 1, .int .i64 fr, .int .i64 (-1), .int .i64 (off : Int), .int .i64 (m : Int), .slice da k dc, .bool sy] 50 (0, 0)) := by rw [hW0, ← hH]; exact heap_new _ _
  have hz0 : W0.heap.size = H + 1 := by rw [hW0, World.size_alloc, hH]
  have HC : Hid _ := copy_any bo cap n bs W0 (hb.later (by rw [hH]; exact b0)) hn
  have HD : Hid (bs.length = n ∧ w.heap.size = H) := ⟨hn, hH⟩
  have HB0 : Hid (Below H w W0 ∧ W0.heap[H]? = some (.cells #[.int .i64 1, .int .i64 fr, .int .i64 (-1), .int .i64 (off : Int), .int .i64 (m : Int), .slice da k dc, .bool sy] 50 (0, 0)) ∧ W0.heap.size = H + 1) := ⟨b0, hx0, hz0⟩
  rw [hH]
  rw [hW0] at HC
  clear hb hn b0 hx0 hz0
  go_enter Try.func30, Try.ntmps30
  go_wp2_with fail
  refine Calls.mono HC.out ?_
  rintro e W1 ⟨co, cc, rfl, hr, ho, hb1⟩
  rw [← hW0] at ho hb1
  have HE : Hid (BRow W1 co cc bs ∧ W1.ownsRow W0.heap.size 5 1 (.slice co n cc) n (bs.map bv) ∧ Below W0.heap.size W0 W1) := ⟨hr, ho, hb1⟩
  have HX : Hid (W1.heap[H]? = some (.cells #[.int .i64 1, .int .i64 fr, .int .i64 (-1), .int .i64 (off : Int), .int .i64 (m : Int), .slice da k dc, .bool sy] 50 (0, 0))) := (hb1.block H (by rw [HB0.out.2.2]; omega)).trans HB0.out.2.1
  have HW : Hid (Below H w W1) := HB0.out.1.trans (hb1.mono (by rw [HB0.out.2.2]; omega))
  have fin : ∀ W', (∃ k, W' = W1.drewN k) → ∃ co' cc', Ending.returned (.tuple #[.slice co n cc, .bool true]) = Ending.returned (.tuple #[.slice co' n cc', .bool true]) ∧ BRow W' co' cc' bs ∧ W'.ownsRow H 5 1 (.slice co' n cc') n (bs.map bv) ∧ Below H w W' := fun W' hk => by
    obtain ⟨k, rfl⟩ := hk
    refine ⟨co, cc, rfl, hr.drewN k, owns_same (owns_mono ho (by rw [HB0.out.2.2]; omega)) (fun g _ => rfl), ?_⟩
    exact HW.out.trans (⟨rfl, rfl, rfl, Nat.le_refl _, fun _ _ => rfl⟩)
  clear hr ho hb1 HC HB0 hW0
  go_wp2
  go_loopw [7] (fun iv wr => ∃ i q : Nat, i ≤ m ∧ iv = .int .i64 (i : Int) ∧ wr = W1.drewN q) (fun iv _ => m - (intOf iv).toNat)
  case atStart => exact ⟨0, 0, Nat.zero_le _, rfl, rfl⟩
  case round =>
    obtain ⟨i, q, hi, rfl, rfl⟩ := hrel
    have c4 : W1.cell? ⟨H, 4, none⟩ = some (.int .i64 (m : Int)) := blk_at HX.out 4
    by_cases hlt : i < m
    · have c0 : W1.cell? ⟨H, 0, none⟩ = some (.int .i64 1) := blk_at HX.out 0
      have c2 : W1.cell? ⟨H, 2, none⟩ = some (.int .i64 (-1)) := blk_at HX.out 2
      have c3 : W1.cell? ⟨H, 3, none⟩ = some (.int .i64 (off : Int)) := blk_at HX.out 3
      have c5 : W1.cell? ⟨H, 5, none⟩ = some (.slice da k dc) := blk_at HX.out 5
      have n9 : decide ((i : Int) < (m : Int)) = true := by simp; omega
      have ii0 : (0 : Int) ≤ (i : Int) := by omega
      have ii9 : (i : Int) < (m : Int) := by omega
      go_wp2
      go_quiet (fail)
      go_wp2
      go_roundw
      case rel => exact ⟨i + 1, _, by omega, by go_num, rfl⟩
      case measure => simp [intOf]; omega
    · have n9 : decide ((i : Int) < (m : Int)) = false := by simp; omega
      obtain rfl : i = m := by omega
      go_wp2
      go_ret2
      exact fin _ ⟨_, rfl⟩
set_option maxHeartbeats 4000000 in
/-- the document plays what has no length -/
theorem rPlay_none (bo da : Option Addr) (cap dc n mm off : Nat) (bs : List Nat) (k fr t : Int) (sy : Bool) (w : World) (hb : BRow w bo cap bs) (hn : bs.length = n) (hs : n ≤ 4096) :
    Calls Try.prog 30 #[.slice bo n cap, .agg #[.int .i64 k, .int .i64 fr, .int .i64 t, .int .i64 (off : Int), .int .i64 0, .slice da mm dc, .bool sy]] w fun e w' => ∃ co cc, e = .returned (.tuple #[.slice co n cc, .bool true]) ∧ BRow w' co cc bs ∧ w'.ownsRow w.heap.size 5 1 (.slice co n cc) n (bs.map bv) ∧ Below w.heap.size w w' := by
  obtain ⟨H, hH⟩ : ∃ H, w.heap.size = H := ⟨_, rfl⟩
  obtain ⟨W0, hW0⟩ : ∃ W0, W0 = w.alloc (.cells #[.int .i64 k, .int .i64 fr, .int .i64 t, .int .i64 (off : Int), .int .i64 0, .slice da mm dc, .bool sy] 50) := ⟨_, rfl⟩
  have b0 : Below H w W0 := by rw [hW0, ← hH]; exact (Below.refl _ w).alloc (Nat.le_refl _) _
  have hx0 : W0.heap[H]? = some (.cells #[.int .i64 k, .int .i64 fr, .int .i64 t, .int .i64 (off : Int), .int .i64 0, .slice da mm dc, .bool sy] 50 (0, 0)) := by rw [hW0, ← hH]; exact heap_new _ _
  have hz0 : W0.heap.size = H + 1 := by rw [hW0, World.size_alloc, hH]
  have HC : Hid _ := copy_any bo cap n bs W0 (hb.later (by rw [hH]; exact b0)) hn
  have HD : Hid (bs.length = n ∧ w.heap.size = H) := ⟨hn, hH⟩
  have HB0 : Hid (Below H w W0 ∧ W0.heap[H]? = some (.cells #[.int .i64 k, .int .i64 fr, .int .i64 t, .int .i64 (off : Int), .int .i64 0, .slice da mm dc, .bool sy] 50 (0, 0)) ∧ W0.heap.size = H + 1) := ⟨b0, hx0, hz0⟩
  rw [hH]
  rw [hW0] at HC
  clear hb hn b0 hx0 hz0
  go_enter Try.func30, Try.ntmps30
  go_wp2_with fail
  refine Calls.mono HC.out ?_
  rintro e W1 ⟨co, cc, rfl, hr, ho, hb1⟩
  rw [← hW0] at ho hb1
  have HE : Hid (BRow W1 co cc bs ∧ W1.ownsRow W0.heap.size 5 1 (.slice co n cc) n (bs.map bv) ∧ Below W0.heap.size W0 W1) := ⟨hr, ho, hb1⟩
  have HX : Hid (W1.heap[H]? = some (.cells #[.int .i64 k, .int .i64 fr, .int .i64 t, .int .i64 (off : Int), .int .i64 0, .slice da mm dc, .bool sy] 50 (0, 0))) := (hb1.block H (by rw [HB0.out.2.2]; omega)).trans HB0.out.2.1
  have HW : Hid (Below H w W1) := HB0.out.1.trans (hb1.mono (by rw [HB0.out.2.2]; omega))
  have fin : ∀ W', (∃ k, W' = W1.drewN k) → ∃ co' cc', Ending.returned (.tuple #[.slice co n cc, .bool true]) = Ending.returned (.tuple #[.slice co' n cc', .bool true]) ∧ BRow W' co' cc' bs ∧ W'.ownsRow H 5 1 (.slice co' n cc') n (bs.map bv) ∧ Below H w W' := fun W' hk => by
    obtain ⟨k, rfl⟩ := hk
    refine ⟨co, cc, rfl, hr.drewN k, owns_same (owns_mono ho (by rw [HB0.out.2.2]; omega)) (fun g _ => rfl), ?_⟩
    exact HW.out.trans (⟨rfl, rfl, rfl, Nat.le_refl _, fun _ _ => rfl⟩)
  clear hr ho hb1 HC HB0 hW0
  go_wp2
  go_loopw [7] (fun iv wr => iv = .int .i64 0 ∧ wr = W1) (fun iv _ => 0)
  case atStart => exact ⟨rfl, rfl⟩
  case round =>
    obtain ⟨rfl, rfl⟩ := hrel
    have c4 : wr.cell? ⟨H, 4, none⟩ = some (.int .i64 0) := blk_at HX.out 4
    go_wp2
    go_ret2
    exact fin _ ⟨0, rfl⟩
end Go.Proofs.Ytjkoambfecmglaa
