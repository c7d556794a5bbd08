import Derived.Test.YtjikibhhhchgeaaDoorRIm
import Derived.Deep.RegionHeld3
namespace Go.Proofs.YtjikibhhhchgeaaDoor
open Go.RowKit
set_option linter.unusedVariables false
set_option linter.unusedSimpArgs false
set_option maxRecDepth 100000
set_option maxHeartbeats 8000000 in
theorem rInfo_s (k sz fl : Nat) (s : ByteArray) (mn pf mx : Nat) (da : Option Addr) (n dc : Nat) (X : Array Value) (w : World)
    (HBr : Hid (∀ W, Below w.heap.size w W → Calls Tryd.prog 95 #[.agg #[.int .u16 (k : Int), .int .u64 (sz : Int), .int .u16 (fl : Int), .string s, .int .u32 (mn : Int), .int .u32 (pf : Int), .int .u32 (mx : Int), .slice da n dc]] W fun e w' => e = .returned (.agg X) ∧ Below W.heap.size W w'))
    (HSm : Hid (∀ W, Below w.heap.size w W → Calls Tryd.prog 13 #[.agg #[.int .u16 (k : Int), .int .u64 (sz : Int), .int .u16 (fl : Int), .string s, .int .u32 (mn : Int), .int .u32 (pf : Int), .int .u32 (mx : Int), .slice da n dc], .agg X] W fun e w' => e = .returned (.bool false) ∧ Below W.heap.size W w')) :
    Calls Tryd.prog 38 #[.agg #[.int .u16 (k : Int), .int .u64 (sz : Int), .int .u16 (fl : Int), .string s, .int .u32 (mn : Int), .int .u32 (pf : Int), .int .u32 (mx : Int), .slice da n dc]] w fun e w' => Pk w [] 81 e w' := by
  have hx := mkb1 w #[.int .u16 (k : Int), .int .u64 (sz : Int), .int .u16 (fl : Int), .string s, .int .u32 (mn : Int), .int .u32 (pf : Int), .int .u32 (mx : Int), .slice da n dc] 27
  go_enter Tryd.func38, Tryd.ntmps38
  go_upto_region 1 with fail
  generalize w.alloc (Obj.cells #[.int .u16 (k : Int), .int .u64 (sz : Int), .int .u16 (fl : Int), .string s, .int .u32 (mn : Int), .int .u32 (pf : Int), .int .u32 (mx : Int), .slice da n dc] 27) = W1 at *
  have HY : Hid (Bx1 w W1 #[.int .u16 (k : Int), .int .u64 (sz : Int), .int .u16 (fl : Int), .string s, .int .u32 (mn : Int), .int .u32 (pf : Int), .int .u32 (mx : Int), .slice da n dc] 27) := hx
  clear hx
  have q0 := blk_at HY.out.a 0
  have q1 := blk_at HY.out.a 1
  have q2 := blk_at HY.out.a 2
  have q3 := blk_at HY.out.a 3
  have q4 := blk_at HY.out.a 4
  have q5 := blk_at HY.out.a 5
  have q6 := blk_at HY.out.a 6
  have q7 := blk_at HY.out.a 7
  simp at q0 q1 q2 q3 q4 q5 q6 q7
  have HQ : Hid (∀ w', Below W1.heap.size W1 w' → w'.cell? ⟨w.heap.size, 0, none⟩ = some (.int .u16 (k : Int)) ∧ w'.cell? ⟨w.heap.size, 1, none⟩ = some (.int .u64 (sz : Int)) ∧ w'.cell? ⟨w.heap.size, 2, none⟩ = some (.int .u16 (fl : Int)) ∧ w'.cell? ⟨w.heap.size, 3, none⟩ = some (.string s) ∧ w'.cell? ⟨w.heap.size, 4, none⟩ = some (.int .u32 (mn : Int)) ∧ w'.cell? ⟨w.heap.size, 5, none⟩ = some (.int .u32 (pf : Int)) ∧ w'.cell? ⟨w.heap.size, 6, none⟩ = some (.int .u32 (mx : Int)) ∧ w'.cell? ⟨w.heap.size, 7, none⟩ = some (.slice da n dc)) := fun w' hb => ⟨cell_later hb q0, cell_later hb q1, cell_later hb q2, cell_later hb q3, cell_later hb q4, cell_later hb q5, cell_later hb q6, cell_later hb q7⟩
  go_cut [15] from 5 to 15 (fun v wc => v = .bool true ∧ Hid (Below W1.heap.size W1 wc))
  case first =>
    have HW : Hid (Below w.heap.size w W1.drew) := ⟨HY.out.bel.os, HY.out.bel.tape, HY.out.bel.output, HY.out.bel.size, HY.out.bel.block⟩
    refine wp_region_held_drew (S := fun w' => w'.cell? ⟨w.heap.size, 0, none⟩ = some (.int .u16 (k : Int)) ∧ w'.cell? ⟨w.heap.size, 1, none⟩ = some (.int .u64 (sz : Int)) ∧ w'.cell? ⟨w.heap.size, 2, none⟩ = some (.int .u16 (fl : Int)) ∧ w'.cell? ⟨w.heap.size, 3, none⟩ = some (.string s) ∧ w'.cell? ⟨w.heap.size, 4, none⟩ = some (.int .u32 (mn : Int)) ∧ w'.cell? ⟨w.heap.size, 5, none⟩ = some (.int .u32 (pf : Int)) ∧ w'.cell? ⟨w.heap.size, 6, none⟩ = some (.int .u32 (mx : Int)) ∧ w'.cell? ⟨w.heap.size, 7, none⟩ = some (.slice da n dc)) (by kernel_rfl) ⟨q0, q1, q2, q3, q4, q5, q6, q7⟩ ?_
    intro hHeld
    refine' wpAnyH_take (i := 0) (oi := { dst := some 5, op := Op.load 27 (Operand.tmp 1), type := 27, pos := _, after := #[], guard := none }) (v := _) rfl (by kernel_rfl) (by kernel_rfl) (by kernel_rfl) (fun _ _ _ h => h) (Or.inl ⟨by rfl, ?hy1⟩) hHeld ?rest1
    case' hy1 =>
      intro w' hSw
      (try dsimp only at hSw)
      obtain ⟨y0, y1, y2, y3, y4, y5, y6, y7⟩ := hSw
      first | (go_simp; done) | (go_simp; with_reducible rfl)
    simp only [Act.put, List.setIfInBounds_toArray, List.set_cons_zero, List.set_cons_succ]
    refine' wpAnyH_take (i := 1) (oi := { dst := some 6, op := Op.load 27 (Operand.tmp 1), type := 27, pos := _, after := #[], guard := none }) (v := _) rfl (by kernel_rfl) (by kernel_rfl) (by kernel_rfl) (fun _ _ _ h => h) (Or.inl ⟨by rfl, ?hy2⟩) hHeld ?rest2
    case' hy2 =>
      intro w' hSw
      (try dsimp only at hSw)
      obtain ⟨y0, y1, y2, y3, y4, y5, y6, y7⟩ := hSw
      first | (go_simp; done) | (go_simp; with_reducible rfl)
    simp only [Act.put, List.setIfInBounds_toArray, List.set_cons_zero, List.set_cons_succ]
    refine wpAnyH_ready (rs := [2]) (by kernel_rfl) (by simp) ?_
    refine AllReadyH.cons (o := { dst := some 7, op := Op.call { callee := Callee.value (Operand.func 95), args := #[Operand.tmp 6], argTypes := #[27] }, type := 27, pos := _, after := #[{ on := 1, ground := Ground.data }], guard := none }) rfl (fun K hK => ?_) AllReadyH.nil
    go_simp
    refine Calls.mono (HBr.out W1.drew HW.out) ?_
    rintro e w1 ⟨rfl, b1⟩
    have HB : Hid (Below W1.heap.size W1 w1) := ⟨b1.os, b1.tape, b1.output, b1.size, b1.block⟩
    clear b1
    go_wp2_with fail
    refine hK.out _ _ ?hS3 (fun hHeld => ?rest3)
    case hS3 => exact HQ.out _ HB.out
    clear hK K
    refine wpAnyH_ready (rs := [3]) (by kernel_rfl) (by simp) ?_
    refine AllReadyH.cons (o := { dst := some 8, op := Op.call { callee := Callee.value (Operand.func 13), args := #[Operand.tmp 5, Operand.tmp 7], argTypes := #[27, 27] }, type := 4, pos := _, after := #[{ on := 0, ground := Ground.data }, { on := 2, ground := Ground.data }, { on := 2, ground := Ground.chain }], guard := none }) rfl (fun K hK => ?_) AllReadyH.nil
    go_simp
    refine Calls.mono (HSm.out _ (HY.out.bel.trans (HB.out.mono HY.out.bel.size))) ?_
    rintro e w2 ⟨rfl, b2⟩
    replace HB : Hid (Below W1.heap.size W1 w2) := HB.out.trans (b2.mono HB.out.size)
    clear b2
    go_wp2_with fail
    refine hK.out _ _ ?hS4 (fun hHeld => ?rest4)
    case hS4 => exact HQ.out _ HB.out
    clear hK K
    refine' wpAnyH_take (i := 4) (oi := { dst := some 9, op := Op.unOp UnOp.not 4 (Operand.tmp 8), type := 4, pos := _, after := #[{ on := 3, ground := Ground.data }], guard := none }) (v := _) rfl (by kernel_rfl) (by kernel_rfl) (by kernel_rfl) (fun _ _ _ h => h) (Or.inl ⟨by rfl, ?hy5⟩) hHeld ?rest5
    case' hy5 =>
      intro w' hSw
      (try dsimp only at hSw)
      obtain ⟨y0, y1, y2, y3, y4, y5, y6, y7⟩ := hSw
      first | (go_simp; done) | (go_simp; with_reducible rfl)
    simp only [Act.put, List.setIfInBounds_toArray, List.set_cons_zero, List.set_cons_succ]
    refine' wpAnyH_take (i := 5) (oi := { dst := some 10, op := Op.move (Operand.tmp 9), type := 4, pos := _, after := #[{ on := 4, ground := Ground.data }, { on := 3, ground := Ground.chain }], guard := none }) (v := _) rfl (by kernel_rfl) (by kernel_rfl) (by kernel_rfl) (fun _ _ _ h => h) (Or.inl ⟨by rfl, ?hy6⟩) hHeld ?rest6
    case' hy6 =>
      intro w' hSw
      (try dsimp only at hSw)
      obtain ⟨y0, y1, y2, y3, y4, y5, y6, y7⟩ := hSw
      first | (go_simp; done) | (go_simp; with_reducible rfl)
    simp only [Act.put, List.setIfInBounds_toArray, List.set_cons_zero, List.set_cons_succ]
    refine' wpAnyH_take (i := 6) (oi := { dst := some 11, op := Op.fieldAddr 27 (Operand.tmp 1) 3, type := 0, pos := _, after := #[{ on := 5, ground := Ground.guard }], guard := some (5, false) }) (v := undef) rfl (by kernel_rfl) (by kernel_rfl) (by kernel_rfl) (fun _ _ _ h => h) (Or.inr ⟨by rfl, rfl⟩) hHeld ?_
    simp only [Act.put, List.setIfInBounds_toArray, List.set_cons_zero, List.set_cons_succ]
    refine' wpAnyH_take (i := 7) (oi := { dst := some 12, op := Op.load 9 (Operand.tmp 11), type := 9, pos := _, after := #[{ on := 6, ground := Ground.data }, { on := 5, ground := Ground.guard }], guard := some (5, false) }) (v := undef) rfl (by kernel_rfl) (by kernel_rfl) (by kernel_rfl) (fun _ _ _ h => h) (Or.inr ⟨by rfl, rfl⟩) hHeld ?_
    simp only [Act.put, List.setIfInBounds_toArray, List.set_cons_zero, List.set_cons_succ]
    refine' wpAnyH_take (i := 8) (oi := { dst := some 13, op := Op.call { callee := Callee.value (Operand.func 96), args := #[Operand.tmp 12], argTypes := #[9] }, type := 4, pos := _, after := #[{ on := 7, ground := Ground.data }, { on := 5, ground := Ground.chain }, { on := 5, ground := Ground.guard }], guard := some (5, false) }) (v := undef) rfl (by kernel_rfl) (by kernel_rfl) (by kernel_rfl) (fun _ _ _ h => h) (Or.inr ⟨by rfl, rfl⟩) hHeld ?_
    simp only [Act.put, List.setIfInBounds_toArray, List.set_cons_zero, List.set_cons_succ]
    refine' wpAnyH_take (i := 9) (oi := { dst := some 14, op := Op.unOp UnOp.not 4 (Operand.tmp 13), type := 4, pos := _, after := #[{ on := 8, ground := Ground.data }, { on := 5, ground := Ground.guard }], guard := some (5, false) }) (v := undef) rfl (by kernel_rfl) (by kernel_rfl) (by kernel_rfl) (fun _ _ _ h => h) (Or.inr ⟨by rfl, rfl⟩) hHeld ?_
    simp only [Act.put, List.setIfInBounds_toArray, List.set_cons_zero, List.set_cons_succ]
    refine' wpAnyH_take (i := 10) (oi := { dst := some 15, op := Op.pick (Operand.tmp 10) (Operand.const (Value.bool true)) (Operand.tmp 14), type := 4, pos := _, after := #[{ on := 5, ground := Ground.data }, { on := 9, ground := Ground.data }], guard := none }) (v := _) rfl (by kernel_rfl) (by kernel_rfl) (by kernel_rfl) (fun _ _ _ h => h) (Or.inl ⟨by rfl, ?hy7⟩) hHeld ?rest7
    case' hy7 =>
      intro w' hSw
      (try dsimp only at hSw)
      obtain ⟨y0, y1, y2, y3, y4, y5, y6, y7⟩ := hSw
      first | (go_simp; done) | (go_simp; with_reducible rfl)
    simp only [Act.put, List.setIfInBounds_toArray, List.set_cons_zero, List.set_cons_succ]
    refine wpAnyH_done (by kernel_rfl) ?_ _
    go_wp2_with fail
    go_meet
    exact ⟨rfl, HB⟩
  case rest =>
  obtain ⟨rfl, HBc⟩ := hcut
  have HZ := HY.out.later HBc.out
  go_wp2
  go_ret2
  exact pk_none HZ.bel
end Go.Proofs.YtjikibhhhchgeaaDoor
