import Derived.Test.YtjkoambfecmglaaJQ
import Derived.Deep.RegionHeld3
import Derived.Laws.IdiomCopy
import Derived.Lib.SliceRun
import Derived.Deep.AppendLies
import Derived.Maps.RangeWalk
import Derived.Maps.AppendAt
namespace Go.Proofs.Ytjkoambfecmglaa
open Go.RowKit
set_option linter.unusedVariables false
set_option linter.unusedSimpArgs false
set_option maxRecDepth 100000
/-- a cut of a row -/
theorem BRow.cut {W : World} {na sa : Option Addr} {nc off m : Nat} {bs : List Nat} (h : BRow W na nc bs) (hin : off + m ≤ bs.length) (hnc : bs.length ≤ nc) (hsa : sa = if nc = off then na else Option.map (fun x => x.add off) na) : BRow W sa (nc - off) ((bs.drop off).take m) where
  lt x hx := h.lt x (List.mem_of_mem_drop (List.mem_of_mem_take hx))
  len := by have := h.len; rw [List.length_take, List.length_drop]; omega
  nil e := by
    have hna : na = none := by
      rw [hsa] at e
      split at e
      · exact e
      · cases na with
        | none => rfl
        | some a => cases e
    obtain ⟨h1, h2⟩ := h.nil hna
    subst h1
    exact ⟨by simp, by omega⟩
  at_ hl := by
    have hm : 0 < m := by
      rcases Nat.eq_zero_or_pos m with e | e
      · subst e; simp at hl
      · exact e
    obtain ⟨b, o, e, hc⟩ := h.at_ (by rintro rfl; simp at hin; omega)
    refine ⟨b, o + off, ?_, fun k hk => ?_⟩
    · rw [hsa, if_neg (by omega), e]
      show some ((⟨b, o, none⟩ : Addr).add off) = _
      rw [add_plain]
    · rw [List.length_take, List.length_drop] at hk
      rw [show o + off + k = o + (off + k) by omega, hc (off + k) (by omega)]
      simp
set_option maxHeartbeats 8000000 in
/-- what is no read fits -/
theorem fits_other (na da : Option Addr) (n nc k dc off m : Nat) (kd fr t : Int) (sy : Bool) (w : World) (hk : kd ≠ 1) : Calls Try.prog 48 #[.slice na n nc, .agg #[.int .i64 kd, .int .i64 fr, .int .i64 t, .int .i64 (off : Int), .int .i64 (m : Int), .slice da k dc, .bool sy]] w fun e w' => e = .returned (.bool true) ∧ Below w.heap.size w w' := by
  have n1 : (kd != 1) = true := by rw [bne_iff_ne]; exact hk
  have HB : Hid (Below w.heap.size w (w.alloc (.cells #[.int .i64 kd, .int .i64 fr, .int .i64 t, .int .i64 (off : Int), .int .i64 (m : Int), .slice da k dc, .bool sy] 50))) := (Below.refl _ w).alloc (Nat.le_refl _) _
  have HC : Hid (∀ w' : World, (∀ j v, (#[.int .i64 kd, .int .i64 fr, .int .i64 t, .int .i64 (off : Int), .int .i64 (m : Int), .slice da k dc, .bool sy] : Array Value)[j]? = some v → w'.cell? ⟨w.heap.size, j, none⟩ = some v) → w'.cell? ⟨w.heap.size, 0, none⟩ = some (.int .i64 kd) ∧ w'.cell? ⟨w.heap.size, 1, none⟩ = some (.int .i64 fr) ∧ w'.cell? ⟨w.heap.size, 2, none⟩ = some (.int .i64 t) ∧ w'.cell? ⟨w.heap.size, 3, none⟩ = some (.int .i64 (off : Int)) ∧ w'.cell? ⟨w.heap.size, 4, none⟩ = some (.int .i64 (m : Int)) ∧ w'.cell? ⟨w.heap.size, 5, none⟩ = some (.slice da k dc) ∧ w'.cell? ⟨w.heap.size, 6, none⟩ = some (.bool sy)) := fun w' hj =>
    ⟨hj 0 _ rfl, hj 1 _ rfl, hj 2 _ rfl, hj 3 _ rfl, hj 4 _ rfl, hj 5 _ rfl, hj 6 _ rfl⟩
  have HX : Hid (∀ j v, (#[.int .i64 kd, .int .i64 fr, .int .i64 t, .int .i64 (off : Int), .int .i64 (m : Int), .slice da k dc, .bool sy] : Array Value)[j]? = some v → (w.alloc (.cells #[.int .i64 kd, .int .i64 fr, .int .i64 t, .int .i64 (off : Int), .int .i64 (m : Int), .slice da k dc, .bool sy] 50)).cell? ⟨w.heap.size, j, none⟩ = some v) := fun j v hv => by
    rw [blk_at (heap_new _ _) j]; exact hv
  obtain ⟨V, hV⟩ : ∃ V, V = w.alloc (.cells #[.int .i64 kd, .int .i64 fr, .int .i64 t, .int .i64 (off : Int), .int .i64 (m : Int), .slice da k dc, .bool sy] 50) := ⟨_, rfl⟩
  rw [← hV] at HB HX
  have HL : Hid (w.heap.size < V.heap.size) := by show w.heap.size < V.heap.size; rw [hV]; simp
  have HBd : Hid (Below w.heap.size w V.drew) := HB.out.trans ⟨rfl, rfl, rfl, Nat.le_refl _, fun _ _ => rfl⟩
  go_enter Try.func48, Try.ntmps48
  go_wp2_with fail
  rw [← hV]
  clear hV
  refine wp_region_held_drew (S := (fun w' => w'.cell? ⟨w.heap.size, 0, none⟩ = some (.int .i64 kd) ∧ w'.cell? ⟨w.heap.size, 1, none⟩ = some (.int .i64 fr) ∧ w'.cell? ⟨w.heap.size, 2, none⟩ = some (.int .i64 t) ∧ w'.cell? ⟨w.heap.size, 3, none⟩ = some (.int .i64 (off : Int)) ∧ w'.cell? ⟨w.heap.size, 4, none⟩ = some (.int .i64 (m : Int)) ∧ w'.cell? ⟨w.heap.size, 5, none⟩ = some (.slice da k dc) ∧ w'.cell? ⟨w.heap.size, 6, none⟩ = some (.bool sy))) (by kernel_rfl) ?_ (fun hHeld => ?_)
  · exact HC.out _ HX.out
  refine wpAnyH_take (i := 0) (oi := { dst := some 5, op := Op.fieldAddr 50 (Operand.tmp 3) 0, type := 0, pos := _, after := #[], guard := none }) (v := ?_) rfl (by kernel_rfl) (by kernel_rfl) (by kernel_rfl) (fun _ _ _ h => h) (Or.inl ⟨by rfl, ?_⟩) (by assumption) ?_
  rotate_left
  · (intro w hSw; (try dsimp only at hSw); go_simp) <;> with_reducible rfl
  try simp only [Act.put, List.setIfInBounds_toArray, List.set_cons_zero, List.set_cons_succ]
  refine wpAnyH_take (i := 1) (oi := { dst := some 6, op := Op.load 48 (Operand.tmp 5), type := 48, pos := _, after := _, guard := none }) (v := ?_) rfl (by kernel_rfl) (by kernel_rfl) (by kernel_rfl) (fun _ _ _ h => h) (Or.inl ⟨by rfl, ?_⟩) (by assumption) ?_
  rotate_left
  · (intro w hSw; (try dsimp only at hSw); go_simp) <;> with_reducible rfl
  try simp only [Act.put, List.setIfInBounds_toArray, List.set_cons_zero, List.set_cons_succ]
  refine wpAnyH_take (i := 2) (oi := { dst := some 7, op := Op.binOp BinOp.neq 48 (Operand.tmp 6) (Operand.const (Value.int IntKind.i64 1)) 48, type := 4, pos := _, after := _, guard := none }) (v := ?_) rfl (by kernel_rfl) (by kernel_rfl) (by kernel_rfl) (fun _ _ _ h => h) (Or.inl ⟨by rfl, ?_⟩) (by assumption) ?_
  rotate_left
  · (intro w hSw; (try dsimp only at hSw); go_simp) <;> with_reducible rfl
  try simp only [Act.put, List.setIfInBounds_toArray, List.set_cons_zero, List.set_cons_succ]
  refine wpAnyH_take (i := 3) (oi := { dst := some 8, op := Op.move (Operand.tmp 7), type := 4, pos := _, after := _, guard := none }) (v := ?_) rfl (by kernel_rfl) (by kernel_rfl) (by kernel_rfl) (fun _ _ _ h => h) (Or.inl ⟨by rfl, ?_⟩) (by assumption) ?_
  rotate_left
  · (intro w hSw; (try dsimp only at hSw); go_simp) <;> with_reducible rfl
  try simp only [Act.put, List.setIfInBounds_toArray, List.set_cons_zero, List.set_cons_succ]
  refine wpAnyH_take (i := 4) (oi := { dst := some 9, op := Op.load 50 (Operand.tmp 3), type := 50, pos := _, after := _, guard := some (3, false) }) (v := undef) rfl (by kernel_rfl) (by kernel_rfl) (by kernel_rfl) (fun _ _ _ h => h) (Or.inr ⟨by rfl, rfl⟩) (by assumption) ?_
  try simp only [Act.put, List.setIfInBounds_toArray, List.set_cons_zero, List.set_cons_succ]
  refine wpAnyH_take (i := 5) (oi := { dst := some 10, op := Op.call { callee := Callee.value (Operand.func 43), args := #[Operand.tmp 9], argTypes := #[50] }, type := 4, pos := _, after := _, guard := some (3, false) }) (v := undef) rfl (by kernel_rfl) (by kernel_rfl) (by kernel_rfl) (fun _ _ _ h => h) (Or.inr ⟨by rfl, rfl⟩) (by assumption) ?_
  try simp only [Act.put, List.setIfInBounds_toArray, List.set_cons_zero, List.set_cons_succ]
  refine wpAnyH_take (i := 6) (oi := { dst := some 11, op := Op.unOp UnOp.not 4 (Operand.tmp 10), type := 4, pos := _, after := _, guard := some (3, false) }) (v := undef) rfl (by kernel_rfl) (by kernel_rfl) (by kernel_rfl) (fun _ _ _ h => h) (Or.inr ⟨by rfl, rfl⟩) (by assumption) ?_
  try simp only [Act.put, List.setIfInBounds_toArray, List.set_cons_zero, List.set_cons_succ]
  refine wpAnyH_take (i := 7) (oi := { dst := some 12, op := Op.pick (Operand.tmp 8) (Operand.const (Value.bool true)) (Operand.tmp 11), type := 4, pos := _, after := _, guard := none }) (v := ?_) rfl (by kernel_rfl) (by kernel_rfl) (by kernel_rfl) (fun _ _ _ h => h) (Or.inl ⟨by rfl, ?_⟩) (by assumption) ?_
  rotate_left
  · (intro w hSw; (try dsimp only at hSw); go_simp) <;> with_reducible rfl
  try simp only [Act.put, List.setIfInBounds_toArray, List.set_cons_zero, List.set_cons_succ]
  refine wpAnyH_take (i := 8) (oi := { dst := some 13, op := Op.move (Operand.tmp 12), type := 4, pos := _, after := _, guard := none }) (v := ?_) rfl (by kernel_rfl) (by kernel_rfl) (by kernel_rfl) (fun _ _ _ h => h) (Or.inl ⟨by rfl, ?_⟩) (by assumption) ?_
  rotate_left
  · (intro w hSw; (try dsimp only at hSw); go_simp) <;> with_reducible rfl
  try simp only [Act.put, List.setIfInBounds_toArray, List.set_cons_zero, List.set_cons_succ]
  refine wpAnyH_take (i := 9) (oi := { dst := some 14, op := Op.move (Operand.tmp 0), type := 59, pos := _, after := _, guard := some (8, false) }) (v := undef) rfl (by kernel_rfl) (by kernel_rfl) (by kernel_rfl) (fun _ _ _ h => h) (Or.inr ⟨by rfl, rfl⟩) (by assumption) ?_
  try simp only [Act.put, List.setIfInBounds_toArray, List.set_cons_zero, List.set_cons_succ]
  refine wpAnyH_take (i := 10) (oi := { dst := some 15, op := Op.fieldAddr 50 (Operand.tmp 3) 3, type := 0, pos := _, after := _, guard := some (8, false) }) (v := undef) rfl (by kernel_rfl) (by kernel_rfl) (by kernel_rfl) (fun _ _ _ h => h) (Or.inr ⟨by rfl, rfl⟩) (by assumption) ?_
  try simp only [Act.put, List.setIfInBounds_toArray, List.set_cons_zero, List.set_cons_succ]
  refine wpAnyH_take (i := 11) (oi := { dst := some 16, op := Op.load 3 (Operand.tmp 15), type := 3, pos := _, after := _, guard := some (8, false) }) (v := undef) rfl (by kernel_rfl) (by kernel_rfl) (by kernel_rfl) (fun _ _ _ h => h) (Or.inr ⟨by rfl, rfl⟩) (by assumption) ?_
  try simp only [Act.put, List.setIfInBounds_toArray, List.set_cons_zero, List.set_cons_succ]
  refine wpAnyH_take (i := 12) (oi := { dst := some 17, op := Op.fieldAddr 50 (Operand.tmp 3) 3, type := 0, pos := _, after := _, guard := some (8, false) }) (v := undef) rfl (by kernel_rfl) (by kernel_rfl) (by kernel_rfl) (fun _ _ _ h => h) (Or.inr ⟨by rfl, rfl⟩) (by assumption) ?_
  try simp only [Act.put, List.setIfInBounds_toArray, List.set_cons_zero, List.set_cons_succ]
  refine wpAnyH_take (i := 13) (oi := { dst := some 18, op := Op.load 3 (Operand.tmp 17), type := 3, pos := _, after := _, guard := some (8, false) }) (v := undef) rfl (by kernel_rfl) (by kernel_rfl) (by kernel_rfl) (fun _ _ _ h => h) (Or.inr ⟨by rfl, rfl⟩) (by assumption) ?_
  try simp only [Act.put, List.setIfInBounds_toArray, List.set_cons_zero, List.set_cons_succ]
  refine wpAnyH_take (i := 14) (oi := { dst := some 19, op := Op.fieldAddr 50 (Operand.tmp 3) 4, type := 0, pos := _, after := _, guard := some (8, false) }) (v := undef) rfl (by kernel_rfl) (by kernel_rfl) (by kernel_rfl) (fun _ _ _ h => h) (Or.inr ⟨by rfl, rfl⟩) (by assumption) ?_
  try simp only [Act.put, List.setIfInBounds_toArray, List.set_cons_zero, List.set_cons_succ]
  refine wpAnyH_take (i := 15) (oi := { dst := some 20, op := Op.load 3 (Operand.tmp 19), type := 3, pos := _, after := _, guard := some (8, false) }) (v := undef) rfl (by kernel_rfl) (by kernel_rfl) (by kernel_rfl) (fun _ _ _ h => h) (Or.inr ⟨by rfl, rfl⟩) (by assumption) ?_
  try simp only [Act.put, List.setIfInBounds_toArray, List.set_cons_zero, List.set_cons_succ]
  refine wpAnyH_take (i := 16) (oi := { dst := some 21, op := Op.binOp BinOp.add 3 (Operand.tmp 18) (Operand.tmp 20) 3, type := 3, pos := _, after := _, guard := some (8, false) }) (v := undef) rfl (by kernel_rfl) (by kernel_rfl) (by kernel_rfl) (fun _ _ _ h => h) (Or.inr ⟨by rfl, rfl⟩) (by assumption) ?_
  try simp only [Act.put, List.setIfInBounds_toArray, List.set_cons_zero, List.set_cons_succ]
  refine wpAnyH_take (i := 17) (oi := { dst := some 22, op := Op.slice 59 (Operand.tmp 14) (some (Operand.tmp 16)) (some (Operand.tmp 21)) none, type := 59, pos := _, after := _, guard := some (8, false) }) (v := undef) rfl (by kernel_rfl) (by kernel_rfl) (by kernel_rfl) (fun _ _ _ h => h) (Or.inr ⟨by rfl, rfl⟩) (by assumption) ?_
  try simp only [Act.put, List.setIfInBounds_toArray, List.set_cons_zero, List.set_cons_succ]
  refine wpAnyH_take (i := 18) (oi := { dst := some 23, op := Op.fieldAddr 50 (Operand.tmp 3) 5, type := 0, pos := _, after := _, guard := some (8, false) }) (v := undef) rfl (by kernel_rfl) (by kernel_rfl) (by kernel_rfl) (fun _ _ _ h => h) (Or.inr ⟨by rfl, rfl⟩) (by assumption) ?_
  try simp only [Act.put, List.setIfInBounds_toArray, List.set_cons_zero, List.set_cons_succ]
  refine wpAnyH_take (i := 19) (oi := { dst := some 24, op := Op.load 22 (Operand.tmp 23), type := 22, pos := _, after := _, guard := some (8, false) }) (v := undef) rfl (by kernel_rfl) (by kernel_rfl) (by kernel_rfl) (fun _ _ _ h => h) (Or.inr ⟨by rfl, rfl⟩) (by assumption) ?_
  try simp only [Act.put, List.setIfInBounds_toArray, List.set_cons_zero, List.set_cons_succ]
  refine wpAnyH_take (i := 20) (oi := { dst := some 25, op := Op.call { callee := Callee.value (Operand.func 67), args := #[Operand.tmp 22, Operand.tmp 24], argTypes := #[22, 22] }, type := 4, pos := _, after := _, guard := some (8, false) }) (v := undef) rfl (by kernel_rfl) (by kernel_rfl) (by kernel_rfl) (fun _ _ _ h => h) (Or.inr ⟨by rfl, rfl⟩) (by assumption) ?_
  try simp only [Act.put, List.setIfInBounds_toArray, List.set_cons_zero, List.set_cons_succ]
  refine wpAnyH_take (i := 21) (oi := { dst := some 26, op := Op.pick (Operand.tmp 13) (Operand.const (Value.bool true)) (Operand.tmp 25), type := 4, pos := _, after := _, guard := none }) (v := ?_) rfl (by kernel_rfl) (by kernel_rfl) (by kernel_rfl) (fun _ _ _ h => h) (Or.inl ⟨by rfl, ?_⟩) (by assumption) ?_
  rotate_left
  · (intro w hSw; (try dsimp only at hSw); go_simp) <;> with_reducible rfl
  try simp only [Act.put, List.setIfInBounds_toArray, List.set_cons_zero, List.set_cons_succ]
  refine wpAnyH_take (i := 22) (oi := { dst := some 4, op := Op.assign (Operand.tmp 26), type := 4, pos := _, after := _, guard := none }) (v := ?_) rfl (by kernel_rfl) (by kernel_rfl) (by kernel_rfl) (fun _ _ _ h => h) (Or.inl ⟨by rfl, ?_⟩) (by assumption) ?_
  rotate_left
  · (intro w hSw; (try dsimp only at hSw); go_simp) <;> with_reducible rfl
  try simp only [Act.put, List.setIfInBounds_toArray, List.set_cons_zero, List.set_cons_succ]
  refine wpAnyH_done (by kernel_rfl) ?_ _
  go_wp2
  go_ret
  exact ⟨rfl, HBd.out⟩
set_option maxHeartbeats 8000000 in
/-- a read that was not answered fits -/
theorem fits_asked (na da : Option Addr) (n nc k dc off m : Nat) (fr : Int) (sy : Bool) (w : World) : Calls Try.prog 48 #[.slice na n nc, .agg #[.int .i64 1, .int .i64 fr, .int .i64 (-1), .int .i64 (off : Int), .int .i64 (m : Int), .slice da k dc, .bool sy]] w fun e w' => e = .returned (.bool true) ∧ Below w.heap.size w w' := by
  have HB : Hid (Below w.heap.size w (w.alloc (.cells #[.int .i64 1, .int .i64 fr, .int .i64 (-1), .int .i64 (off : Int), .int .i64 (m : Int), .slice da k dc, .bool sy] 50))) := (Below.refl _ w).alloc (Nat.le_refl _) _
  have HC : Hid (∀ w' : World, (∀ j v, (#[.int .i64 1, .int .i64 fr, .int .i64 (-1), .int .i64 (off : Int), .int .i64 (m : Int), .slice da k dc, .bool sy] : Array Value)[j]? = some v → w'.cell? ⟨w.heap.size, j, none⟩ = some v) → w'.cell? ⟨w.heap.size, 0, none⟩ = some (.int .i64 1) ∧ w'.cell? ⟨w.heap.size, 1, none⟩ = some (.int .i64 fr) ∧ w'.cell? ⟨w.heap.size, 2, none⟩ = some (.int .i64 (-1)) ∧ w'.cell? ⟨w.heap.size, 3, none⟩ = some (.int .i64 (off : Int)) ∧ w'.cell? ⟨w.heap.size, 4, none⟩ = some (.int .i64 (m : Int)) ∧ w'.cell? ⟨w.heap.size, 5, none⟩ = some (.slice da k dc) ∧ w'.cell? ⟨w.heap.size, 6, none⟩ = some (.bool sy)) := fun w' hj =>
    ⟨hj 0 _ rfl, hj 1 _ rfl, hj 2 _ rfl, hj 3 _ rfl, hj 4 _ rfl, hj 5 _ rfl, hj 6 _ rfl⟩
  have HX : Hid (∀ j v, (#[.int .i64 1, .int .i64 fr, .int .i64 (-1), .int .i64 (off : Int), .int .i64 (m : Int), .slice da k dc, .bool sy] : Array Value)[j]? = some v → (w.alloc (.cells #[.int .i64 1, .int .i64 fr, .int .i64 (-1), .int .i64 (off : Int), .int .i64 (m : Int), .slice da k dc, .bool sy] 50)).cell? ⟨w.heap.size, j, none⟩ = some v) := fun j v hv => by
    rw [blk_at (heap_new _ _) j]; exact hv
  have HN : Hid (∀ U, Calls Try.prog 43 #[.agg #[.int .i64 1, .int .i64 fr, .int .i64 (-1), .int .i64 (off : Int), .int .i64 (m : Int), .slice da k dc, .bool sy]] U fun e w' => e = .returned (.bool false) ∧ Below U.heap.size U w') := fun U => answered_any ⟨1, fr, -1, off, m, da, k, dc, sy⟩ U
  obtain ⟨V, hV⟩ : ∃ V, V = w.alloc (.cells #[.int .i64 1, .int .i64 fr, .int .i64 (-1), .int .i64 (off : Int), .int .i64 (m : Int), .slice da k dc, .bool sy] 50) := ⟨_, rfl⟩
  rw [← hV] at HB HX
  have HL : Hid (w.heap.size < V.heap.size) := by show w.heap.size < V.heap.size; rw [hV]; simp
  have HBd : Hid (Below w.heap.size w V.drew) := HB.out.trans ⟨rfl, rfl, rfl, Nat.le_refl _, fun _ _ => rfl⟩
  go_enter Try.func48, Try.ntmps48
  go_wp2_with fail
  rw [← hV]
  clear hV
  refine wp_region_held_drew (S := (fun w' => w'.cell? ⟨w.heap.size, 0, none⟩ = some (.int .i64 1) ∧ w'.cell? ⟨w.heap.size, 1, none⟩ = some (.int .i64 fr) ∧ w'.cell? ⟨w.heap.size, 2, none⟩ = some (.int .i64 (-1)) ∧ w'.cell? ⟨w.heap.size, 3, none⟩ = some (.int .i64 (off : Int)) ∧ w'.cell? ⟨w.heap.size, 4, none⟩ = some (.int .i64 (m : Int)) ∧ w'.cell? ⟨w.heap.size, 5, none⟩ = some (.slice da k dc) ∧ w'.cell? ⟨w.heap.size, 6, none⟩ = some (.bool sy))) (by kernel_rfl) ?_ (fun hHeld => ?_)
  · exact HC.out _ HX.out
  refine wpAnyH_take (i := 0) (oi := { dst := some 5, op := Op.fieldAddr 50 (Operand.tmp 3) 0, type := 0, pos := _, after := #[], guard := none }) (v := ?_) rfl (by kernel_rfl) (by kernel_rfl) (by kernel_rfl) (fun _ _ _ h => h) (Or.inl ⟨by rfl, ?_⟩) (by assumption) ?_
  rotate_left
  · (intro w hSw; (try dsimp only at hSw); go_simp) <;> with_reducible rfl
  try simp only [Act.put, List.setIfInBounds_toArray, List.set_cons_zero, List.set_cons_succ]
  refine wpAnyH_take (i := 1) (oi := { dst := some 6, op := Op.load 48 (Operand.tmp 5), type := 48, pos := _, after := _, guard := none }) (v := ?_) rfl (by kernel_rfl) (by kernel_rfl) (by kernel_rfl) (fun _ _ _ h => h) (Or.inl ⟨by rfl, ?_⟩) (by assumption) ?_
  rotate_left
  · (intro w hSw; (try dsimp only at hSw); go_simp) <;> with_reducible rfl
  try simp only [Act.put, List.setIfInBounds_toArray, List.set_cons_zero, List.set_cons_succ]
  refine wpAnyH_take (i := 2) (oi := { dst := some 7, op := Op.binOp BinOp.neq 48 (Operand.tmp 6) (Operand.const (Value.int IntKind.i64 1)) 48, type := 4, pos := _, after := _, guard := none }) (v := ?_) rfl (by kernel_rfl) (by kernel_rfl) (by kernel_rfl) (fun _ _ _ h => h) (Or.inl ⟨by rfl, ?_⟩) (by assumption) ?_
  rotate_left
  · (intro w hSw; (try dsimp only at hSw); go_simp) <;> with_reducible rfl
  try simp only [Act.put, List.setIfInBounds_toArray, List.set_cons_zero, List.set_cons_succ]
  refine wpAnyH_take (i := 3) (oi := { dst := some 8, op := Op.move (Operand.tmp 7), type := 4, pos := _, after := _, guard := none }) (v := ?_) rfl (by kernel_rfl) (by kernel_rfl) (by kernel_rfl) (fun _ _ _ h => h) (Or.inl ⟨by rfl, ?_⟩) (by assumption) ?_
  rotate_left
  · (intro w hSw; (try dsimp only at hSw); go_simp) <;> with_reducible rfl
  try simp only [Act.put, List.setIfInBounds_toArray, List.set_cons_zero, List.set_cons_succ]
  refine wpAnyH_take (i := 4) (oi := { dst := some 9, op := Op.load 50 (Operand.tmp 3), type := 50, pos := _, after := _, guard := some (3, false) }) (v := ?_) rfl (by kernel_rfl) (by kernel_rfl) (by kernel_rfl) (fun _ _ _ h => h) (Or.inl ⟨by rfl, ?_⟩) (by assumption) ?_
  rotate_left
  · (intro w hSw; (try dsimp only at hSw); go_simp) <;> with_reducible rfl
  try simp only [Act.put, List.setIfInBounds_toArray, List.set_cons_zero, List.set_cons_succ]
  refine wpAnyH_ready (rs := [5]) (by kernel_rfl) (by simp) ?_
  refine AllReadyH.cons (o := { dst := some 10, op := Op.call { callee := Callee.value (Operand.func 43), args := #[Operand.tmp 9], argTypes := #[50] }, type := 4, pos := _, after := _, guard := some (3, false) }) rfl (fun K hK => ?_) AllReadyH.nil
  go_simp
  go_at_call 43
  refine (HN.out _).mono ?_
  rintro ex W1 ⟨rfl, hb1⟩
  have HB1 : Hid (Below w.heap.size w W1) := HBd.out.trans (hb1.mono HBd.out.size)
  have HB1b : Hid (Below V.heap.size V W1) := (⟨rfl, rfl, rfl, Nat.le_refl _, fun _ _ => rfl⟩ : Below V.heap.size V V.drew).trans hb1
  have HX1 : Hid (∀ j v, (#[.int .i64 1, .int .i64 fr, .int .i64 (-1), .int .i64 (off : Int), .int .i64 (m : Int), .slice da k dc, .bool sy] : Array Value)[j]? = some v → W1.cell? ⟨w.heap.size, j, none⟩ = some v) := fun j v hv => by rw [World.cell?_of_block (hb1.block _ HL.out)]; exact HX.out j v hv
  clear hb1
  try go_simp
  refine hK.out _ _ ?_ (fun hHeld => ?_)
  · exact HC.out _ HX1.out
  clear hK K
  try simp only [Act.put, List.setIfInBounds_toArray, List.set_cons_zero, List.set_cons_succ]
  refine wpAnyH_take (i := 6) (oi := { dst := some 11, op := Op.unOp UnOp.not 4 (Operand.tmp 10), type := 4, pos := _, after := _, guard := some (3, false) }) (v := ?_) rfl (by kernel_rfl) (by kernel_rfl) (by kernel_rfl) (fun _ _ _ h => h) (Or.inl ⟨by rfl, ?_⟩) (by assumption) ?_
  rotate_left
  · (intro w hSw; (try dsimp only at hSw); go_simp) <;> with_reducible rfl
  try simp only [Act.put, List.setIfInBounds_toArray, List.set_cons_zero, List.set_cons_succ]
  refine wpAnyH_take (i := 7) (oi := { dst := some 12, op := Op.pick (Operand.tmp 8) (Operand.const (Value.bool true)) (Operand.tmp 11), type := 4, pos := _, after := _, guard := none }) (v := ?_) rfl (by kernel_rfl) (by kernel_rfl) (by kernel_rfl) (fun _ _ _ h => h) (Or.inl ⟨by rfl, ?_⟩) (by assumption) ?_
  rotate_left
  · (intro w hSw; (try dsimp only at hSw); go_simp) <;> with_reducible rfl
  try simp only [Act.put, List.setIfInBounds_toArray, List.set_cons_zero, List.set_cons_succ]
  refine wpAnyH_take (i := 8) (oi := { dst := some 13, op := Op.move (Operand.tmp 12), type := 4, pos := _, after := _, guard := none }) (v := ?_) rfl (by kernel_rfl) (by kernel_rfl) (by kernel_rfl) (fun _ _ _ h => h) (Or.inl ⟨by rfl, ?_⟩) (by assumption) ?_
  rotate_left
  · (intro w hSw; (try dsimp only at hSw); go_simp) <;> with_reducible rfl
  try simp only [Act.put, List.setIfInBounds_toArray, List.set_cons_zero, List.set_cons_succ]
  refine wpAnyH_take (i := 9) (oi := { dst := some 14, op := Op.move (Operand.tmp 0), type := 59, pos := _, after := _, guard := some (8, false) }) (v := undef) rfl (by kernel_rfl) (by kernel_rfl) (by kernel_rfl) (fun _ _ _ h => h) (Or.inr ⟨by rfl, rfl⟩) (by assumption) ?_
  try simp only [Act.put, List.setIfInBounds_toArray, List.set_cons_zero, List.set_cons_succ]
  refine wpAnyH_take (i := 10) (oi := { dst := some 15, op := Op.fieldAddr 50 (Operand.tmp 3) 3, type := 0, pos := _, after := _, guard := some (8, false) }) (v := undef) rfl (by kernel_rfl) (by kernel_rfl) (by kernel_rfl) (fun _ _ _ h => h) (Or.inr ⟨by rfl, rfl⟩) (by assumption) ?_
  try simp only [Act.put, List.setIfInBounds_toArray, List.set_cons_zero, List.set_cons_succ]
  refine wpAnyH_take (i := 11) (oi := { dst := some 16, op := Op.load 3 (Operand.tmp 15), type := 3, pos := _, after := _, guard := some (8, false) }) (v := undef) rfl (by kernel_rfl) (by kernel_rfl) (by kernel_rfl) (fun _ _ _ h => h) (Or.inr ⟨by rfl, rfl⟩) (by assumption) ?_
  try simp only [Act.put, List.setIfInBounds_toArray, List.set_cons_zero, List.set_cons_succ]
  refine wpAnyH_take (i := 12) (oi := { dst := some 17, op := Op.fieldAddr 50 (Operand.tmp 3) 3, type := 0, pos := _, after := _, guard := some (8, false) }) (v := undef) rfl (by kernel_rfl) (by kernel_rfl) (by kernel_rfl) (fun _ _ _ h => h) (Or.inr ⟨by rfl, rfl⟩) (by assumption) ?_
  try simp only [Act.put, List.setIfInBounds_toArray, List.set_cons_zero, List.set_cons_succ]
  refine wpAnyH_take (i := 13) (oi := { dst := some 18, op := Op.load 3 (Operand.tmp 17), type := 3, pos := _, after := _, guard := some (8, false) }) (v := undef) rfl (by kernel_rfl) (by kernel_rfl) (by kernel_rfl) (fun _ _ _ h => h) (Or.inr ⟨by rfl, rfl⟩) (by assumption) ?_
  try simp only [Act.put, List.setIfInBounds_toArray, List.set_cons_zero, List.set_cons_succ]
  refine wpAnyH_take (i := 14) (oi := { dst := some 19, op := Op.fieldAddr 50 (Operand.tmp 3) 4, type := 0, pos := _, after := _, guard := some (8, false) }) (v := undef) rfl (by kernel_rfl) (by kernel_rfl) (by kernel_rfl) (fun _ _ _ h => h) (Or.inr ⟨by rfl, rfl⟩) (by assumption) ?_
  try simp only [Act.put, List.setIfInBounds_toArray, List.set_cons_zero, List.set_cons_succ]
  refine wpAnyH_take (i := 15) (oi := { dst := some 20, op := Op.load 3 (Operand.tmp 19), type := 3, pos := _, after := _, guard := some (8, false) }) (v := undef) rfl (by kernel_rfl) (by kernel_rfl) (by kernel_rfl) (fun _ _ _ h => h) (Or.inr ⟨by rfl, rfl⟩) (by assumption) ?_
  try simp only [Act.put, List.setIfInBounds_toArray, List.set_cons_zero, List.set_cons_succ]
  refine wpAnyH_take (i := 16) (oi := { dst := some 21, op := Op.binOp BinOp.add 3 (Operand.tmp 18) (Operand.tmp 20) 3, type := 3, pos := _, after := _, guard := some (8, false) }) (v := undef) rfl (by kernel_rfl) (by kernel_rfl) (by kernel_rfl) (fun _ _ _ h => h) (Or.inr ⟨by rfl, rfl⟩) (by assumption) ?_
  try simp only [Act.put, List.setIfInBounds_toArray, List.set_cons_zero, List.set_cons_succ]
  refine wpAnyH_take (i := 17) (oi := { dst := some 22, op := Op.slice 59 (Operand.tmp 14) (some (Operand.tmp 16)) (some (Operand.tmp 21)) none, type := 59, pos := _, after := _, guard := some (8, false) }) (v := undef) rfl (by kernel_rfl) (by kernel_rfl) (by kernel_rfl) (fun _ _ _ h => h) (Or.inr ⟨by rfl, rfl⟩) (by assumption) ?_
  try simp only [Act.put, List.setIfInBounds_toArray, List.set_cons_zero, List.set_cons_succ]
  refine wpAnyH_take (i := 18) (oi := { dst := some 23, op := Op.fieldAddr 50 (Operand.tmp 3) 5, type := 0, pos := _, after := _, guard := some (8, false) }) (v := undef) rfl (by kernel_rfl) (by kernel_rfl) (by kernel_rfl) (fun _ _ _ h => h) (Or.inr ⟨by rfl, rfl⟩) (by assumption) ?_
  try simp only [Act.put, List.setIfInBounds_toArray, List.set_cons_zero, List.set_cons_succ]
  refine wpAnyH_take (i := 19) (oi := { dst := some 24, op := Op.load 22 (Operand.tmp 23), type := 22, pos := _, after := _, guard := some (8, false) }) (v := undef) rfl (by kernel_rfl) (by kernel_rfl) (by kernel_rfl) (fun _ _ _ h => h) (Or.inr ⟨by rfl, rfl⟩) (by assumption) ?_
  try simp only [Act.put, List.setIfInBounds_toArray, List.set_cons_zero, List.set_cons_succ]
  refine wpAnyH_take (i := 20) (oi := { dst := some 25, op := Op.call { callee := Callee.value (Operand.func 67), args := #[Operand.tmp 22, Operand.tmp 24], argTypes := #[22, 22] }, type := 4, pos := _, after := _, guard := some (8, false) }) (v := undef) rfl (by kernel_rfl) (by kernel_rfl) (by kernel_rfl) (fun _ _ _ h => h) (Or.inr ⟨by rfl, rfl⟩) (by assumption) ?_
  try simp only [Act.put, List.setIfInBounds_toArray, List.set_cons_zero, List.set_cons_succ]
  refine wpAnyH_take (i := 21) (oi := { dst := some 26, op := Op.pick (Operand.tmp 13) (Operand.const (Value.bool true)) (Operand.tmp 25), type := 4, pos := _, after := _, guard := none }) (v := ?_) rfl (by kernel_rfl) (by kernel_rfl) (by kernel_rfl) (fun _ _ _ h => h) (Or.inl ⟨by rfl, ?_⟩) (by assumption) ?_
  rotate_left
  · (intro w hSw; (try dsimp only at hSw); go_simp) <;> with_reducible rfl
  try simp only [Act.put, List.setIfInBounds_toArray, List.set_cons_zero, List.set_cons_succ]
  refine wpAnyH_take (i := 22) (oi := { dst := some 4, op := Op.assign (Operand.tmp 26), type := 4, pos := _, after := _, guard := none }) (v := ?_) rfl (by kernel_rfl) (by kernel_rfl) (by kernel_rfl) (fun _ _ _ h => h) (Or.inl ⟨by rfl, ?_⟩) (by assumption) ?_
  rotate_left
  · (intro w hSw; (try dsimp only at hSw); go_simp) <;> with_reducible rfl
  try simp only [Act.put, List.setIfInBounds_toArray, List.set_cons_zero, List.set_cons_succ]
  refine wpAnyH_done (by kernel_rfl) ?_ _
  go_wp2
  go_ret
  exact ⟨rfl, HB1.out⟩
set_option maxHeartbeats 16000000 in
/-- a read that was answered fits where the bytes are the ones that it told -/
theorem fits_read (na da : Option Addr) (n nc m dc off : Nat) (bs ds : List Nat) (fr t : Int) (sy : Bool) (w : World) (hb : BRow w na nc bs) (hn : bs.length = n) (hnc : n ≤ nc) (hd : BRow w da dc ds) (hm : ds.length = m) (ht : t ≠ -1) (hin : off + m ≤ n) (hs : n ≤ 4096) : Calls Try.prog 48 #[.slice na n nc, .agg #[.int .i64 1, .int .i64 fr, .int .i64 t, .int .i64 (off : Int), .int .i64 (m : Int), .slice da m dc, .bool sy]] w fun e w' => e = .returned (.bool (decide ((bs.drop off).take m = ds))) ∧ Below w.heap.size w w' := by
  have n1 : (t != -1) = true := by rw [bne_iff_ne]; exact ht
  have q1 : (0 : Int) ≤ (off : Int) := by omega
  have q2 : (0 : Int) ≤ (m : Int) := by omega
  have q3 : IntKind.i64.wrap ((off : Int) + (m : Int)) = (off : Int) + (m : Int) := by rw [IntKind.wrap_i64]; omega
  have q4 : (off : Int) ≤ (off : Int) + (m : Int) := by omega
  have q5 : (off : Int) + (m : Int) ≤ (nc : Int) := by omega
  have q6 : ((off : Int) + (m : Int)).toNat - off = m := by omega
  obtain ⟨sa, hsa⟩ : ∃ sa, sa = if nc = off then na else Option.map (fun x => x.add off) na := ⟨_, rfl⟩
  have HE : Hid (∀ U, Below w.heap.size w U → Calls Try.prog 67 #[.slice sa m (nc - off), .slice da m dc] U fun e w' => e = .returned (.bool (decide ((bs.drop off).take m = ds))) ∧ Below U.heap.size U w') := fun U hU => equal_any sa da m m (nc - off) dc _ ds U ((hb.cut (by omega) (by omega) hsa).later hU) (by rw [List.length_take, List.length_drop]; omega) (hd.later hU) hm
  obtain ⟨r, hr⟩ : ∃ r, decide ((bs.drop off).take m = ds) = r := ⟨_, rfl⟩
  rw [hr] at HE ⊢
  have HSa : Hid (sa = if nc = off then na else Option.map (fun x => x.add off) na) := hsa
  clear hb hd hr hsa
  have HB : Hid (Below w.heap.size w (w.alloc (.cells #[.int .i64 1, .int .i64 fr, .int .i64 t, .int .i64 (off : Int), .int .i64 (m : Int), .slice da m dc, .bool sy] 50))) := (Below.refl _ w).alloc (Nat.le_refl _) _
  have HC : Hid (∀ w' : World, (∀ j v, (#[.int .i64 1, .int .i64 fr, .int .i64 t, .int .i64 (off : Int), .int .i64 (m : Int), .slice da m dc, .bool sy] : Array Value)[j]? = some v → w'.cell? ⟨w.heap.size, j, none⟩ = some v) → w'.cell? ⟨w.heap.size, 0, none⟩ = some (.int .i64 1) ∧ w'.cell? ⟨w.heap.size, 1, none⟩ = some (.int .i64 fr) ∧ w'.cell? ⟨w.heap.size, 2, none⟩ = some (.int .i64 t) ∧ w'.cell? ⟨w.heap.size, 3, none⟩ = some (.int .i64 (off : Int)) ∧ w'.cell? ⟨w.heap.size, 4, none⟩ = some (.int .i64 (m : Int)) ∧ w'.cell? ⟨w.heap.size, 5, none⟩ = some (.slice da m dc) ∧ w'.cell? ⟨w.heap.size, 6, none⟩ = some (.bool sy)) := fun w' hj =>
    ⟨hj 0 _ rfl, hj 1 _ rfl, hj 2 _ rfl, hj 3 _ rfl, hj 4 _ rfl, hj 5 _ rfl, hj 6 _ rfl⟩
  have HX : Hid (∀ j v, (#[.int .i64 1, .int .i64 fr, .int .i64 t, .int .i64 (off : Int), .int .i64 (m : Int), .slice da m dc, .bool sy] : Array Value)[j]? = some v → (w.alloc (.cells #[.int .i64 1, .int .i64 fr, .int .i64 t, .int .i64 (off : Int), .int .i64 (m : Int), .slice da m dc, .bool sy] 50)).cell? ⟨w.heap.size, j, none⟩ = some v) := fun j v hv => by
    rw [blk_at (heap_new _ _) j]; exact hv
  have HN : Hid (∀ U, Calls Try.prog 43 #[.agg #[.int .i64 1, .int .i64 fr, .int .i64 t, .int .i64 (off : Int), .int .i64 (m : Int), .slice da m dc, .bool sy]] U fun e w' => e = .returned (.bool true) ∧ Below U.heap.size U w') := fun U => by
    have := answered_any ⟨1, fr, t, off, m, da, m, dc, sy⟩ U
    rwa [show (⟨1, fr, t, off, m, da, m, dc, sy⟩ : Opv).ans = true from n1] at this
  obtain ⟨V, hV⟩ : ∃ V, V = w.alloc (.cells #[.int .i64 1, .int .i64 fr, .int .i64 t, .int .i64 (off : Int), .int .i64 (m : Int), .slice da m dc, .bool sy] 50) := ⟨_, rfl⟩
  rw [← hV] at HB HX
  have HL : Hid (w.heap.size < V.heap.size) := by show w.heap.size < V.heap.size; rw [hV]; simp
  have HBd : Hid (Below w.heap.size w V.drew) := HB.out.trans ⟨rfl, rfl, rfl, Nat.le_refl _, fun _ _ => rfl⟩
  go_enter Try.func48, Try.ntmps48
  go_wp2_with fail
  rw [← hV]
  clear hV
  refine wp_region_held_drew (S := (fun w' => w'.cell? ⟨w.heap.size, 0, none⟩ = some (.int .i64 1) ∧ w'.cell? ⟨w.heap.size, 1, none⟩ = some (.int .i64 fr) ∧ w'.cell? ⟨w.heap.size, 2, none⟩ = some (.int .i64 t) ∧ w'.cell? ⟨w.heap.size, 3, none⟩ = some (.int .i64 (off : Int)) ∧ w'.cell? ⟨w.heap.size, 4, none⟩ = some (.int .i64 (m : Int)) ∧ w'.cell? ⟨w.heap.size, 5, none⟩ = some (.slice da m dc) ∧ w'.cell? ⟨w.heap.size, 6, none⟩ = some (.bool sy))) (by kernel_rfl) ?_ (fun hHeld => ?_)
  · exact HC.out _ HX.out
  refine wpAnyH_take (i := 0) (oi := { dst := some 5, op := Op.fieldAddr 50 (Operand.tmp 3) 0, type := 0, pos := _, after := #[], guard := none }) (v := ?_) rfl (by kernel_rfl) (by kernel_rfl) (by kernel_rfl) (fun _ _ _ h => h) (Or.inl ⟨by rfl, ?_⟩) (by assumption) ?_
  rotate_left
  · (intro w hSw; (try dsimp only at hSw); go_simp) <;> with_reducible rfl
  try simp only [Act.put, List.setIfInBounds_toArray, List.set_cons_zero, List.set_cons_succ]
  refine wpAnyH_take (i := 1) (oi := { dst := some 6, op := Op.load 48 (Operand.tmp 5), type := 48, pos := _, after := _, guard := none }) (v := ?_) rfl (by kernel_rfl) (by kernel_rfl) (by kernel_rfl) (fun _ _ _ h => h) (Or.inl ⟨by rfl, ?_⟩) (by assumption) ?_
  rotate_left
  · (intro w hSw; (try dsimp only at hSw); go_simp) <;> with_reducible rfl
  try simp only [Act.put, List.setIfInBounds_toArray, List.set_cons_zero, List.set_cons_succ]
  refine wpAnyH_take (i := 2) (oi := { dst := some 7, op := Op.binOp BinOp.neq 48 (Operand.tmp 6) (Operand.const (Value.int IntKind.i64 1)) 48, type := 4, pos := _, after := _, guard := none }) (v := ?_) rfl (by kernel_rfl) (by kernel_rfl) (by kernel_rfl) (fun _ _ _ h => h) (Or.inl ⟨by rfl, ?_⟩) (by assumption) ?_
  rotate_left
  · (intro w hSw; (try dsimp only at hSw); go_simp) <;> with_reducible rfl
  try simp only [Act.put, List.setIfInBounds_toArray, List.set_cons_zero, List.set_cons_succ]
  refine wpAnyH_take (i := 3) (oi := { dst := some 8, op := Op.move (Operand.tmp 7), type := 4, pos := _, after := _, guard := none }) (v := ?_) rfl (by kernel_rfl) (by kernel_rfl) (by kernel_rfl) (fun _ _ _ h => h) (Or.inl ⟨by rfl, ?_⟩) (by assumption) ?_
  rotate_left
  · (intro w hSw; (try dsimp only at hSw); go_simp) <;> with_reducible rfl
  try simp only [Act.put, List.setIfInBounds_toArray, List.set_cons_zero, List.set_cons_succ]
  refine wpAnyH_take (i := 4) (oi := { dst := some 9, op := Op.load 50 (Operand.tmp 3), type := 50, pos := _, after := _, guard := some (3, false) }) (v := ?_) rfl (by kernel_rfl) (by kernel_rfl) (by kernel_rfl) (fun _ _ _ h => h) (Or.inl ⟨by rfl, ?_⟩) (by assumption) ?_
  rotate_left
  · (intro w hSw; (try dsimp only at hSw); go_simp) <;> with_reducible rfl
  try simp only [Act.put, List.setIfInBounds_toArray, List.set_cons_zero, List.set_cons_succ]
  refine wpAnyH_ready (rs := [5]) (by kernel_rfl) (by simp) ?_
  refine AllReadyH.cons (o := { dst := some 10, op := Op.call { callee := Callee.value (Operand.func 43), args := #[Operand.tmp 9], argTypes := #[50] }, type := 4, pos := _, after := _, guard := some (3, false) }) rfl (fun K hK => ?_) AllReadyH.nil
  go_simp
  go_at_call 43
  refine (HN.out _).mono ?_
  rintro ex W1 ⟨rfl, hb1⟩
  have HB1 : Hid (Below w.heap.size w W1) := HBd.out.trans (hb1.mono HBd.out.size)
  have HB1b : Hid (Below V.heap.size V W1) := (⟨rfl, rfl, rfl, Nat.le_refl _, fun _ _ => rfl⟩ : Below V.heap.size V V.drew).trans hb1
  have HX1 : Hid (∀ j v, (#[.int .i64 1, .int .i64 fr, .int .i64 t, .int .i64 (off : Int), .int .i64 (m : Int), .slice da m dc, .bool sy] : Array Value)[j]? = some v → W1.cell? ⟨w.heap.size, j, none⟩ = some v) := fun j v hv => by rw [World.cell?_of_block (hb1.block _ HL.out)]; exact HX.out j v hv
  clear hb1
  try go_simp
  refine hK.out _ _ ?_ (fun hHeld => ?_)
  · exact HC.out _ HX1.out
  clear hK K
  try simp only [Act.put, List.setIfInBounds_toArray, List.set_cons_zero, List.set_cons_succ]
  refine wpAnyH_take (i := 6) (oi := { dst := some 11, op := Op.unOp UnOp.not 4 (Operand.tmp 10), type := 4, pos := _, after := _, guard := some (3, false) }) (v := ?_) rfl (by kernel_rfl) (by kernel_rfl) (by kernel_rfl) (fun _ _ _ h => h) (Or.inl ⟨by rfl, ?_⟩) (by assumption) ?_
  rotate_left
  · (intro w hSw; (try dsimp only at hSw); go_simp) <;> with_reducible rfl
  try simp only [Act.put, List.setIfInBounds_toArray, List.set_cons_zero, List.set_cons_succ]
  refine wpAnyH_take (i := 7) (oi := { dst := some 12, op := Op.pick (Operand.tmp 8) (Operand.const (Value.bool true)) (Operand.tmp 11), type := 4, pos := _, after := _, guard := none }) (v := ?_) rfl (by kernel_rfl) (by kernel_rfl) (by kernel_rfl) (fun _ _ _ h => h) (Or.inl ⟨by rfl, ?_⟩) (by assumption) ?_
  rotate_left
  · (intro w hSw; (try dsimp only at hSw); go_simp) <;> with_reducible rfl
  try simp only [Act.put, List.setIfInBounds_toArray, List.set_cons_zero, List.set_cons_succ]
  refine wpAnyH_take (i := 8) (oi := { dst := some 13, op := Op.move (Operand.tmp 12), type := 4, pos := _, after := _, guard := none }) (v := ?_) rfl (by kernel_rfl) (by kernel_rfl) (by kernel_rfl) (fun _ _ _ h => h) (Or.inl ⟨by rfl, ?_⟩) (by assumption) ?_
  rotate_left
  · (intro w hSw; (try dsimp only at hSw); go_simp) <;> with_reducible rfl
  try simp only [Act.put, List.setIfInBounds_toArray, List.set_cons_zero, List.set_cons_succ]
  refine wpAnyH_take (i := 9) (oi := { dst := some 14, op := Op.move (Operand.tmp 0), type := 59, pos := _, after := _, guard := some (8, false) }) (v := ?_) rfl (by kernel_rfl) (by kernel_rfl) (by kernel_rfl) (fun _ _ _ h => h) (Or.inl ⟨by rfl, ?_⟩) (by assumption) ?_
  rotate_left
  · (intro w hSw; (try dsimp only at hSw); go_simp) <;> with_reducible rfl
  try simp only [Act.put, List.setIfInBounds_toArray, List.set_cons_zero, List.set_cons_succ]
  refine wpAnyH_take (i := 10) (oi := { dst := some 15, op := Op.fieldAddr 50 (Operand.tmp 3) 3, type := 0, pos := _, after := _, guard := some (8, false) }) (v := ?_) rfl (by kernel_rfl) (by kernel_rfl) (by kernel_rfl) (fun _ _ _ h => h) (Or.inl ⟨by rfl, ?_⟩) (by assumption) ?_
  rotate_left
  · (intro w hSw; (try dsimp only at hSw); go_simp) <;> with_reducible rfl
  try simp only [Act.put, List.setIfInBounds_toArray, List.set_cons_zero, List.set_cons_succ]
  refine wpAnyH_take (i := 11) (oi := { dst := some 16, op := Op.load 3 (Operand.tmp 15), type := 3, pos := _, after := _, guard := some (8, false) }) (v := ?_) rfl (by kernel_rfl) (by kernel_rfl) (by kernel_rfl) (fun _ _ _ h => h) (Or.inl ⟨by rfl, ?_⟩) (by assumption) ?_
  rotate_left
  · (intro w hSw; (try dsimp only at hSw); go_simp) <;> with_reducible rfl
  try simp only [Act.put, List.setIfInBounds_toArray, List.set_cons_zero, List.set_cons_succ]
  refine wpAnyH_take (i := 12) (oi := { dst := some 17, op := Op.fieldAddr 50 (Operand.tmp 3) 3, type := 0, pos := _, after := _, guard := some (8, false) }) (v := ?_) rfl (by kernel_rfl) (by kernel_rfl) (by kernel_rfl) (fun _ _ _ h => h) (Or.inl ⟨by rfl, ?_⟩) (by assumption) ?_
  rotate_left
  · (intro w hSw; (try dsimp only at hSw); go_simp) <;> with_reducible rfl
  try simp only [Act.put, List.setIfInBounds_toArray, List.set_cons_zero, List.set_cons_succ]
  refine wpAnyH_take (i := 13) (oi := { dst := some 18, op := Op.load 3 (Operand.tmp 17), type := 3, pos := _, after := _, guard := some (8, false) }) (v := ?_) rfl (by kernel_rfl) (by kernel_rfl) (by kernel_rfl) (fun _ _ _ h => h) (Or.inl ⟨by rfl, ?_⟩) (by assumption) ?_
  rotate_left
  · (intro w hSw; (try dsimp only at hSw); go_simp) <;> with_reducible rfl
  try simp only [Act.put, List.setIfInBounds_toArray, List.set_cons_zero, List.set_cons_succ]
  refine wpAnyH_take (i := 14) (oi := { dst := some 19, op := Op.fieldAddr 50 (Operand.tmp 3) 4, type := 0, pos := _, after := _, guard := some (8, false) }) (v := ?_) rfl (by kernel_rfl) (by kernel_rfl) (by kernel_rfl) (fun _ _ _ h => h) (Or.inl ⟨by rfl, ?_⟩) (by assumption) ?_
  rotate_left
  · (intro w hSw; (try dsimp only at hSw); go_simp) <;> with_reducible rfl
  try simp only [Act.put, List.setIfInBounds_toArray, List.set_cons_zero, List.set_cons_succ]
  refine wpAnyH_take (i := 15) (oi := { dst := some 20, op := Op.load 3 (Operand.tmp 19), type := 3, pos := _, after := _, guard := some (8, false) }) (v := ?_) rfl (by kernel_rfl) (by kernel_rfl) (by kernel_rfl) (fun _ _ _ h => h) (Or.inl ⟨by rfl, ?_⟩) (by assumption) ?_
  rotate_left
  · (intro w hSw; (try dsimp only at hSw); go_simp) <;> with_reducible rfl
  try simp only [Act.put, List.setIfInBounds_toArray, List.set_cons_zero, List.set_cons_succ]
  refine wpAnyH_take (i := 16) (oi := { dst := some 21, op := Op.binOp BinOp.add 3 (Operand.tmp 18) (Operand.tmp 20) 3, type := 3, pos := _, after := _, guard := some (8, false) }) (v := ?_) rfl (by kernel_rfl) (by kernel_rfl) (by kernel_rfl) (fun _ _ _ h => h) (Or.inl ⟨by rfl, ?_⟩) (by assumption) ?_
  rotate_left
  · (intro w hSw; (try dsimp only at hSw); go_simp) <;> with_reducible rfl
  try simp only [Act.put, List.setIfInBounds_toArray, List.set_cons_zero, List.set_cons_succ]
  refine wpAnyH_take (i := 17) (oi := { dst := some 22, op := Op.slice 59 (Operand.tmp 14) (some (Operand.tmp 16)) (some (Operand.tmp 21)) none, type := 59, pos := _, after := _, guard := some (8, false) }) (v := .slice sa m (nc - off)) rfl (by kernel_rfl) (by kernel_rfl) (by kernel_rfl) (fun _ _ _ h => h) (Or.inl ⟨by rfl, ?_⟩) (by assumption) ?_
  skip
  · (intro w hSw; (try dsimp only at hSw); go_simp) <;> (exact HSa.out.symm)
  try simp only [Act.put, List.setIfInBounds_toArray, List.set_cons_zero, List.set_cons_succ]
  refine wpAnyH_take (i := 18) (oi := { dst := some 23, op := Op.fieldAddr 50 (Operand.tmp 3) 5, type := 0, pos := _, after := _, guard := some (8, false) }) (v := ?_) rfl (by kernel_rfl) (by kernel_rfl) (by kernel_rfl) (fun _ _ _ h => h) (Or.inl ⟨by rfl, ?_⟩) (by assumption) ?_
  rotate_left
  · (intro w hSw; (try dsimp only at hSw); go_simp) <;> with_reducible rfl
  try simp only [Act.put, List.setIfInBounds_toArray, List.set_cons_zero, List.set_cons_succ]
  refine wpAnyH_take (i := 19) (oi := { dst := some 24, op := Op.load 22 (Operand.tmp 23), type := 22, pos := _, after := _, guard := some (8, false) }) (v := ?_) rfl (by kernel_rfl) (by kernel_rfl) (by kernel_rfl) (fun _ _ _ h => h) (Or.inl ⟨by rfl, ?_⟩) (by assumption) ?_
  rotate_left
  · (intro w hSw; (try dsimp only at hSw); go_simp) <;> with_reducible rfl
  try simp only [Act.put, List.setIfInBounds_toArray, List.set_cons_zero, List.set_cons_succ]
  refine wpAnyH_ready (rs := [20]) (by kernel_rfl) (by simp) ?_
  refine AllReadyH.cons (o := { dst := some 25, op := Op.call { callee := Callee.value (Operand.func 67), args := #[Operand.tmp 22, Operand.tmp 24], argTypes := #[22, 22] }, type := 4, pos := _, after := _, guard := some (8, false) }) rfl (fun K hK => ?_) AllReadyH.nil
  go_simp
  go_at_call 67
  refine (HE.out _ HB1.out).mono ?_
  rintro ex W2 ⟨rfl, hb2⟩
  have HB2 : Hid (Below w.heap.size w W2) := HB1.out.trans (hb2.mono HB1.out.size)
  have HX2 : Hid (∀ j v, (#[.int .i64 1, .int .i64 fr, .int .i64 t, .int .i64 (off : Int), .int .i64 (m : Int), .slice da m dc, .bool sy] : Array Value)[j]? = some v → W2.cell? ⟨w.heap.size, j, none⟩ = some v) := fun j v hv => by rw [World.cell?_of_block (hb2.block _ (Nat.lt_of_lt_of_le HL.out HB1b.out.size))]; exact HX1.out j v hv
  clear hb2
  try go_simp
  refine hK.out _ _ ?_ (fun hHeld => ?_)
  · exact HC.out _ HX2.out
  clear hK K
  try simp only [Act.put, List.setIfInBounds_toArray, List.set_cons_zero, List.set_cons_succ]
  refine wpAnyH_take (i := 21) (oi := { dst := some 26, op := Op.pick (Operand.tmp 13) (Operand.const (Value.bool true)) (Operand.tmp 25), type := 4, pos := _, after := _, guard := none }) (v := ?_) rfl (by kernel_rfl) (by kernel_rfl) (by kernel_rfl) (fun _ _ _ h => h) (Or.inl ⟨by rfl, ?_⟩) (by assumption) ?_
  rotate_left
  · (intro w hSw; (try dsimp only at hSw); go_simp) <;> with_reducible rfl
  try simp only [Act.put, List.setIfInBounds_toArray, List.set_cons_zero, List.set_cons_succ]
  refine wpAnyH_take (i := 22) (oi := { dst := some 4, op := Op.assign (Operand.tmp 26), type := 4, pos := _, after := _, guard := none }) (v := ?_) rfl (by kernel_rfl) (by kernel_rfl) (by kernel_rfl) (fun _ _ _ h => h) (Or.inl ⟨by rfl, ?_⟩) (by assumption) ?_
  rotate_left
  · (intro w hSw; (try dsimp only at hSw); go_simp) <;> with_reducible rfl
  try simp only [Act.put, List.setIfInBounds_toArray, List.set_cons_zero, List.set_cons_succ]
  refine wpAnyH_done (by kernel_rfl) ?_ _
  go_wp2
  go_ret
  exact ⟨rfl, HB2.out⟩
/-- does an operation fit? -/
theorem fits_any (na : Option Addr) (n nc : Nat) (o : Opv) (bs ds : List Nat) (w : World) (hb : BRow w na nc bs) (hn : bs.length = n) (hnc : n ≤ nc) (hd : BRow w o.da o.dc ds) (hm : ds.length = o.n) (ho : o.may n = true) (hs : n ≤ 4096) :
    Calls Try.prog 48 #[.slice na n nc, .agg o.cells] w fun e w' => e = .returned (.bool (o.fit bs ds)) ∧ Below w.heap.size w w' := by
  obtain hM := Opv.may_of ho
  obtain ⟨k, fr, t, off, len, da, dn, dc, sy⟩ := o
  obtain ⟨off, rfl⟩ : ∃ j : Nat, off = j := ⟨off.toNat, by have := hM.off0; simp at this; omega⟩
  obtain ⟨len, rfl⟩ : ∃ j : Nat, len = j := ⟨len.toNat, by have := hM.len0; simp at this; omega⟩
  by_cases hk : k = 1
  · subst hk
    by_cases ht : t = -1
    · subst ht
      have : Opv.fit ⟨1, fr, -1, off, len, da, dn, dc, sy⟩ bs ds = true := rfl
      rw [this]
      exact fits_asked na da n nc dn dc off len fr sy w
    · have e1 : dn = len := by have := hM.da; simp [ht] at this; omega
      subst e1
      have : Opv.fit ⟨1, fr, t, off, dn, da, dn, dc, sy⟩ bs ds = decide ((bs.drop off).take dn = ds) := by
        have n1 : (t != -1) = true := by rw [bne_iff_ne]; exact ht
        simp [Opv.fit, Opv.ans, n1]
      rw [this]
      exact fits_read na da n nc dn dc off bs ds fr t sy w hb hn hnc hd hm ht (by have := hM.lenn; simp at this; omega) hs
  · have : Opv.fit ⟨k, fr, t, off, len, da, dn, dc, sy⟩ bs ds = true := by
      have n1 : (k != 1) = true := by rw [bne_iff_ne]; exact hk
      simp [Opv.fit, n1]
    rw [this]
    exact fits_other na da n nc dn dc off len k fr t sy w hk
end Go.Proofs.Ytjkoambfecmglaa

namespace Go.Proofs.Ytjkoambfecmglaa
open Go.RowKit
set_option linter.unusedVariables false
set_option linter.unusedSimpArgs false
set_option maxRecDepth 100000
theorem grown_setCell {W : World} {g j : Nat} (x : Value) : W.grownBy (W.setCell ⟨g, j, none⟩ x) (some g) := by
  have hb := Below.setCell (Below.refl g W) (p := ⟨g, j, none⟩) (Nat.le_refl _) x
  exact ⟨hb.os, hb.tape, hb.output, hb.size, fun k hk hne => Below.heap_setCell _ _ _ _ (fun e => hne (by rw [e]))⟩
theorem own_setCells {B e n g cap : Nat} : ∀ (vs : List Value) (o : Nat) {W : World} {xs : List Value}, W.ownsRow B e 1 (.slice (some ⟨g, 0, none⟩) n cap) n xs → o + vs.length ≤ n →
    (W.setCells g o vs).ownsRow B e 1 (.slice (some ⟨g, 0, none⟩) n cap) n (xs.take o ++ (vs ++ xs.drop (o + vs.length))) ∧ W.grownBy (W.setCells g o vs) (some g)
  | [], o, W, xs, h, _ => ⟨by simpa [World.setCells] using h, World.grownBy.refl _ _⟩
  | v :: vs, o, W, xs, h, ho => by
    simp only [List.length_cons] at ho
    have hl := h.1
    have h1 := own_set h v (j := o) (by omega)
    obtain ⟨h2, h3⟩ := own_setCells vs (o + 1) h1 (by omega)
    refine ⟨?_, (grown_setCell v).trans h3⟩
    have e1 : (xs.set o v).take (o + 1) = xs.take o ++ [v] := by
      rw [List.take_set, List.take_succ_eq_append_getElem (by omega), List.set_append_right _ _ (by simp; omega)]
      rw [List.length_take, Nat.min_eq_left (by omega), Nat.sub_self]
      rfl
    have e2 : (xs.set o v).drop (o + 1 + vs.length) = xs.drop (o + (v :: vs).length) := by
      rw [List.drop_set_of_lt (by omega)]
      simp only [List.length_cons]
      congr 1; omega
    rw [e1, e2, List.append_assoc] at h2
    simpa [World.setCells] using h2
theorem laidTo_map {bs ds : List Nat} {off m : Nat} (hm : ds.length = m) : (laidTo bs ds off m).map bv = (bs.map bv).take off ++ (ds.map bv ++ (bs.map bv).drop (off + (ds.map bv).length)) := by
  unfold laidTo
  simp only [List.map_append, List.map_take, List.map_drop, List.length_map, hm]
  rw [List.take_of_length_le (l := ds.map bv) (by simp; omega)]
theorem owns_in {w : World} {base n : Nat} {e : TypeId} {size : Nat} {v : Value} {xs : List Value} (h : w.ownsRow base e size v n xs) {g : Nat} (hg : v.ownBlock = some g) : base ≤ g ∧ g < w.heap.size := by
  rcases h.2 with ⟨hv, _⟩ | ⟨g', cap, cur, hv, hb, hc, hr⟩
  · rw [hv] at hg; cases hg
  · rw [hv] at hg
    cases hg
    exact ⟨hb, (Array.getElem?_eq_some_iff.1 hc).1⟩
theorem owns_far {w w' : World} {base n : Nat} {e : TypeId} {v : Value} {xs : List Value} {row : Option Nat} (h : w.ownsRow base e 1 v n xs) (hg : w.grownBy w' row) (hne : ∀ g, v.ownBlock = some g → some g ≠ row) : w'.ownsRow base e 1 v n xs :=
  owns_same h fun g e => hg.block g (owns_in h e).2 (hne g e)
set_option maxHeartbeats 8000000 in
/-- what is no write and no zero plays nothing -/
theorem play_other (na da : Option Addr) (n nc k dc off m : Nat) (kd fr t : Int) (sy : Bool) (w : World) (hk : kd ≠ 2) (hk3 : kd ≠ 3) : Calls Try.prog 49 #[.slice na n nc, .agg #[.int .i64 kd, .int .i64 fr, .int .i64 t, .int .i64 (off : Int), .int .i64 (m : Int), .slice da k dc, .bool sy]] w fun e w' => e = .returned (.tuple #[]) ∧ w.grownBy w' none := by
  have n1 : (kd == 2) = false := by rw [beq_eq_false_iff_ne]; exact hk
  have n2 : (kd == 3) = false := by rw [beq_eq_false_iff_ne]; exact hk3
  have HB : Hid (Below w.heap.size w (w.alloc (.cells #[.int .i64 kd, .int .i64 fr, .int .i64 t, .int .i64 (off : Int), .int .i64 (m : Int), .slice da k dc, .bool sy] 50))) := (Below.refl _ w).alloc (Nat.le_refl _) _
  have HC : Hid (∀ w' : World, (∀ j v, (#[.int .i64 kd, .int .i64 fr, .int .i64 t, .int .i64 (off : Int), .int .i64 (m : Int), .slice da k dc, .bool sy] : Array Value)[j]? = some v → w'.cell? ⟨w.heap.size, j, none⟩ = some v) → w'.cell? ⟨w.heap.size, 0, none⟩ = some (.int .i64 kd) ∧ w'.cell? ⟨w.heap.size, 1, none⟩ = some (.int .i64 fr) ∧ w'.cell? ⟨w.heap.size, 2, none⟩ = some (.int .i64 t) ∧ w'.cell? ⟨w.heap.size, 3, none⟩ = some (.int .i64 (off : Int)) ∧ w'.cell? ⟨w.heap.size, 4, none⟩ = some (.int .i64 (m : Int)) ∧ w'.cell? ⟨w.heap.size, 5, none⟩ = some (.slice da k dc) ∧ w'.cell? ⟨w.heap.size, 6, none⟩ = some (.bool sy)) := fun w' hj =>
    ⟨hj 0 _ rfl, hj 1 _ rfl, hj 2 _ rfl, hj 3 _ rfl, hj 4 _ rfl, hj 5 _ rfl, hj 6 _ rfl⟩
  have HX : Hid (∀ j v, (#[.int .i64 kd, .int .i64 fr, .int .i64 t, .int .i64 (off : Int), .int .i64 (m : Int), .slice da k dc, .bool sy] : Array Value)[j]? = some v → (w.alloc (.cells #[.int .i64 kd, .int .i64 fr, .int .i64 t, .int .i64 (off : Int), .int .i64 (m : Int), .slice da k dc, .bool sy] 50)).cell? ⟨w.heap.size, j, none⟩ = some v) := fun j v hv => by
    rw [blk_at (heap_new _ _) j]; exact hv
  obtain ⟨V, hV⟩ : ∃ V, V = w.alloc (.cells #[.int .i64 kd, .int .i64 fr, .int .i64 t, .int .i64 (off : Int), .int .i64 (m : Int), .slice da k dc, .bool sy] 50) := ⟨_, rfl⟩
  rw [← hV] at HB HX
  have HV : Hid (V = w.alloc (.cells #[.int .i64 kd, .int .i64 fr, .int .i64 t, .int .i64 (off : Int), .int .i64 (m : Int), .slice da k dc, .bool sy] 50)) := hV
  have HG : Hid (w.grownBy V none) := by show w.grownBy V none; rw [hV]; exact World.grownBy_alloc _ _ _
  obtain ⟨c0, -⟩ := HC.out V HX.out
  go_enter Try.func49, Try.ntmps49
  go_wp2_with fail
  rw [← hV]
  clear hV
  go_wp2
  go_end0
  exact ⟨rfl, HG.out⟩
set_option maxHeartbeats 8000000 in
/-- a write is played -/
theorem play_write (na da : Option Addr) (B n nc dc off m : Nat) (bs ds : List Nat) (fr t : Int) (sy : Bool) (w : World) (ho : w.ownsRow B 5 1 (.slice na n nc) n (bs.map bv)) (hn : bs.length = n) (hd : BRow w da dc ds) (hm : ds.length = m) (hin : off + m ≤ n) (hs : n ≤ 4096) :
    Calls Try.prog 49 #[.slice na n nc, .agg #[.int .i64 2, .int .i64 fr, .int .i64 t, .int .i64 (off : Int), .int .i64 (m : Int), .slice da m dc, .bool sy]] w fun e w' => e = .returned (.tuple #[]) ∧ w'.ownsRow B 5 1 (.slice na n nc) n ((laidTo bs ds off m).map bv) ∧ w.grownBy w' (Value.slice na n nc).ownBlock := by
  have HB : Hid (Below w.heap.size w (w.alloc (.cells #[.int .i64 2, .int .i64 fr, .int .i64 t, .int .i64 (off : Int), .int .i64 (m : Int), .slice da m dc, .bool sy] 50))) := (Below.refl _ w).alloc (Nat.le_refl _) _
  have HC : Hid (∀ w' : World, (∀ j v, (#[.int .i64 2, .int .i64 fr, .int .i64 t, .int .i64 (off : Int), .int .i64 (m : Int), .slice da m dc, .bool sy] : Array Value)[j]? = some v → w'.cell? ⟨w.heap.size, j, none⟩ = some v) → w'.cell? ⟨w.heap.size, 0, none⟩ = some (.int .i64 2) ∧ w'.cell? ⟨w.heap.size, 1, none⟩ = some (.int .i64 fr) ∧ w'.cell? ⟨w.heap.size, 2, none⟩ = some (.int .i64 t) ∧ w'.cell? ⟨w.heap.size, 3, none⟩ = some (.int .i64 (off : Int)) ∧ w'.cell? ⟨w.heap.size, 4, none⟩ = some (.int .i64 (m : Int)) ∧ w'.cell? ⟨w.heap.size, 5, none⟩ = some (.slice da m dc) ∧ w'.cell? ⟨w.heap.size, 6, none⟩ = some (.bool sy)) := fun w' hj =>
    ⟨hj 0 _ rfl, hj 1 _ rfl, hj 2 _ rfl, hj 3 _ rfl, hj 4 _ rfl, hj 5 _ rfl, hj 6 _ rfl⟩
  have HX : Hid (∀ j v, (#[.int .i64 2, .int .i64 fr, .int .i64 t, .int .i64 (off : Int), .int .i64 (m : Int), .slice da m dc, .bool sy] : Array Value)[j]? = some v → (w.alloc (.cells #[.int .i64 2, .int .i64 fr, .int .i64 t, .int .i64 (off : Int), .int .i64 (m : Int), .slice da m dc, .bool sy] 50)).cell? ⟨w.heap.size, j, none⟩ = some v) := fun j v hv => by
    rw [blk_at (heap_new _ _) j]; exact hv
  obtain ⟨V, hV⟩ : ∃ V, V = w.alloc (.cells #[.int .i64 2, .int .i64 fr, .int .i64 t, .int .i64 (off : Int), .int .i64 (m : Int), .slice da m dc, .bool sy] 50) := ⟨_, rfl⟩
  rw [← hV] at HB HX
  have HV : Hid (V = w.alloc (.cells #[.int .i64 2, .int .i64 fr, .int .i64 t, .int .i64 (off : Int), .int .i64 (m : Int), .slice da m dc, .bool sy] 50)) := hV
  have HG : Hid (w.grownBy V none) := by show w.grownBy V none; rw [hV]; exact World.grownBy_alloc _ _ _
  obtain ⟨c0, c1, c2, c3, c4, c5, c6⟩ := HC.out V HX.out
  have q1 : (0 : Int) ≤ (off : Int) := by omega
  have q2 : (off : Int) ≤ (n : Int) := by omega
  have hnc : n ≤ nc := by
    rcases ho.2 with ⟨h0, _⟩ | ⟨_, _, _, hv, _, _, h1, _⟩
    · simp at h0; omega
    · simp at hv; omega
  have q3 : (n : Int) ≤ (nc : Int) := by omega
  have HGd : Hid (∀ row, w.grownBy V.drew row) := fun row => ⟨(HG.out.but row).os, (HG.out.but row).tape, (HG.out.but row).output, (HG.out.but row).size, (HG.out.but row).block⟩
  obtain ⟨sa, hsa⟩ : ∃ sa, sa = (if nc = off then na else Option.map (fun x => x.add off) na) := ⟨_, rfl⟩
  have HSa : Hid (sa = (if nc = off then na else Option.map (fun x => x.add off) na)) := hsa
  have hoV : V.ownsRow B 5 1 (.slice na n nc) n (bs.map bv) := owns_far ho HG.out (by simp)
  obtain ⟨U, hrun, hU1, hU2, hU3⟩ : ∃ U, ((Builtin.copy_ #[59, 22] 3 #[.slice sa (n - off) (nc - off), .slice da m dc]).run Try.prog V.drew = .ok (goInt m) U) ∧ U.ownsRow B 5 1 (.slice na n nc) n ((laidTo bs ds off m).map bv) ∧ w.grownBy U (Value.slice na n nc).ownBlock ∧ V.drew.grownBy U (Value.slice na n nc).ownBlock := by
    by_cases h0 : m = 0
    · subst h0
      refine ⟨V.drew, ?_, ?_, HGd.out _, World.grownBy.refl _ _⟩
      · exact run_copy_none V.drew _ _ _ 5 sa da _ _ _ _ Try.underlying59 (by rfl) (by simp)
      · rw [laidTo_zero]; exact hoV
    · obtain ⟨g, rfl, hBg, hc, hf⟩ := own_some hoV (by omega)
      have hda : ds ≠ [] := by rintro rfl; simp at hm; omega
      obtain ⟨b, o, rfl, hcd⟩ := hd.at_ hda
      obtain ⟨h1, h2⟩ := own_setCells (ds.map bv) off (W := V.drew) hoV (by rw [List.length_map]; omega)
      refine ⟨V.drew.setCells g off (ds.map bv), ?_, ?_, (HGd.out _).trans h2, h2⟩
      · rw [if_neg (by omega)] at hsa
        subst hsa
        show (Builtin.copy_ _ _ #[.slice (some ((⟨g, 0, none⟩ : Addr).add off)) _ _, _]).run _ _ = _
        rw [add_plain, Nat.zero_add]
        have := run_copy_cells (P := Try.prog) V.drew 59 22 3 5 g off (n - off) (nc - off) ⟨b, o, none⟩ m dc (ds.map bv) Try.underlying59 (by rfl) (by rw [List.length_map, hm]; show m = min m (n - off); omega) (fun j v hj => by
          rw [add_plain]
          rw [List.getElem?_map] at hj
          cases hx : ds[j]? with
          | none => rw [hx] at hj; cases hj
          | some x =>
            rw [hx] at hj
            cases hj
            have hjl := (List.getElem?_eq_some_iff.1 hx).1
            have h3 := hcd j hjl
            rw [(List.getElem?_eq_some_iff.1 hx).2] at h3
            exact HG.out.cell (a := ⟨b, o + j, none⟩) h3 (by simp)) (fun j hj => by
          rw [List.length_map] at hj
          show (V.cell? _).isSome = true
          rw [hc (off + j) (by omega), List.getElem?_map, List.getElem?_eq_getElem (by omega)]; rfl) (fun j _ => hf _) (fun v hv => by
          obtain ⟨x, _, rfl⟩ := List.mem_map.1 hv; rfl)
        rw [List.length_map, hm] at this
        exact this
      · rw [laidTo_map hm]; exact h1
  have HU : Hid (U.ownsRow B 5 1 (.slice na n nc) n ((laidTo bs ds off m).map bv) ∧ w.grownBy U (Value.slice na n nc).ownBlock) := ⟨hU1, hU2⟩
  have HXU : Hid (∀ j v, (#[.int .i64 2, .int .i64 fr, .int .i64 t, .int .i64 (off : Int), .int .i64 (m : Int), .slice da m dc, .bool sy] : Array Value)[j]? = some v → U.cell? ⟨w.heap.size, j, none⟩ = some v) := fun j v hv => by
    have hlt : w.heap.size < V.heap.size := by rw [hV]; simp
    rw [World.cell?_of_block (hU3.block _ hlt (fun e => by have := (owns_in ho (g := w.heap.size) e.symm).2; omega))]
    exact HX.out j v hv
  clear ho hoV hd hU1 hU2 hU3 hsa
  go_enter Try.func49, Try.ntmps49
  go_wp2_with fail
  rw [← hV]
  clear hV
  go_wp2_with fail
  refine wp_region_held_drew (S := (fun w' => w'.cell? ⟨w.heap.size, 0, none⟩ = some (.int .i64 2) ∧ w'.cell? ⟨w.heap.size, 1, none⟩ = some (.int .i64 fr) ∧ w'.cell? ⟨w.heap.size, 2, none⟩ = some (.int .i64 t) ∧ w'.cell? ⟨w.heap.size, 3, none⟩ = some (.int .i64 (off : Int)) ∧ w'.cell? ⟨w.heap.size, 4, none⟩ = some (.int .i64 (m : Int)) ∧ w'.cell? ⟨w.heap.size, 5, none⟩ = some (.slice da m dc) ∧ w'.cell? ⟨w.heap.size, 6, none⟩ = some (.bool sy))) (by kernel_rfl) ?_ (fun hHeld => ?_)
  · exact HC.out _ HX.out
  refine wpAnyH_take (i := 0) (oi := { dst := some 8, op := Op.move (Operand.tmp 0), type := 59, pos := _, after := #[], guard := none }) (v := ?_) rfl (by kernel_rfl) (by kernel_rfl) (by kernel_rfl) (fun _ _ _ h => h) (Or.inl ⟨by rfl, ?_⟩) (by assumption) ?_
  rotate_left
  · (intro w hSw; (try dsimp only at hSw); go_simp) <;> with_reducible rfl
  try simp only [Act.put, List.setIfInBounds_toArray, List.set_cons_zero, List.set_cons_succ]
  refine wpAnyH_take (i := 1) (oi := { dst := some 9, op := Op.fieldAddr 50 (Operand.tmp 3) 3, type := 0, pos := _, after := #[], guard := none }) (v := ?_) rfl (by kernel_rfl) (by kernel_rfl) (by kernel_rfl) (fun _ _ _ h => h) (Or.inl ⟨by rfl, ?_⟩) (by assumption) ?_
  rotate_left
  · (intro w hSw; (try dsimp only at hSw); go_simp) <;> with_reducible rfl
  try simp only [Act.put, List.setIfInBounds_toArray, List.set_cons_zero, List.set_cons_succ]
  refine wpAnyH_take (i := 2) (oi := { dst := some 10, op := Op.load 3 (Operand.tmp 9), type := 3, pos := _, after := _, guard := none }) (v := ?_) rfl (by kernel_rfl) (by kernel_rfl) (by kernel_rfl) (fun _ _ _ h => h) (Or.inl ⟨by rfl, ?_⟩) (by assumption) ?_
  rotate_left
  · (intro w hSw; (try dsimp only at hSw); go_simp) <;> with_reducible rfl
  try simp only [Act.put, List.setIfInBounds_toArray, List.set_cons_zero, List.set_cons_succ]
  refine wpAnyH_take (i := 3) (oi := { dst := some 11, op := Op.slice 59 (Operand.tmp 8) (some (Operand.tmp 10)) none none, type := 59, pos := _, after := _, guard := none }) (v := .slice sa (n - off) (nc - off)) rfl (by kernel_rfl) (by kernel_rfl) (by kernel_rfl) (fun _ _ _ h => h) (Or.inl ⟨by rfl, ?_⟩) (by assumption) ?_
  · (intro w hSw; (try dsimp only at hSw); go_simp) <;> (exact HSa.out.symm)
  try simp only [Act.put, List.setIfInBounds_toArray, List.set_cons_zero, List.set_cons_succ]
  refine wpAnyH_take (i := 4) (oi := { dst := some 12, op := Op.fieldAddr 50 (Operand.tmp 3) 5, type := 0, pos := _, after := #[], guard := none }) (v := ?_) rfl (by kernel_rfl) (by kernel_rfl) (by kernel_rfl) (fun _ _ _ h => h) (Or.inl ⟨by rfl, ?_⟩) (by assumption) ?_
  rotate_left
  · (intro w hSw; (try dsimp only at hSw); go_simp) <;> with_reducible rfl
  try simp only [Act.put, List.setIfInBounds_toArray, List.set_cons_zero, List.set_cons_succ]
  refine wpAnyH_take (i := 5) (oi := { dst := some 13, op := Op.load 22 (Operand.tmp 12), type := 22, pos := _, after := _, guard := none }) (v := ?_) rfl (by kernel_rfl) (by kernel_rfl) (by kernel_rfl) (fun _ _ _ h => h) (Or.inl ⟨by rfl, ?_⟩) (by assumption) ?_
  rotate_left
  · (intro w hSw; (try dsimp only at hSw); go_simp) <;> with_reducible rfl
  try simp only [Act.put, List.setIfInBounds_toArray, List.set_cons_zero, List.set_cons_succ]
  refine wpAnyH_ready (rs := [6]) (by kernel_rfl) (by simp) ?_
  refine AllReadyH.cons (o := { dst := some 14, op := Op.call { callee := Callee.builtin Builtin.copy, args := #[Operand.tmp 11, Operand.tmp 13], argTypes := #[59, 22] }, type := 3, pos := _, after := _, guard := none }) rfl (fun K hK => ?_) AllReadyH.nil
  go_simp
  skip
  try go_simp
  refine hK.out _ _ ?_ (fun hHeld => ?_)
  · exact HC.out _ HXU.out
  clear hK K
  try simp only [Act.put, List.setIfInBounds_toArray, List.set_cons_zero, List.set_cons_succ]
  refine wpAnyH_done (by kernel_rfl) ?_ _
  go_wp2
  go_end0
  exact ⟨rfl, HU.out⟩
end Go.Proofs.Ytjkoambfecmglaa
