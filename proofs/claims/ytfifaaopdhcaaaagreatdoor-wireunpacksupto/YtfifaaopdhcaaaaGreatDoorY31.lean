import Derived.Test.YtfifaaopdhcaaaaGreatDoorY19
import Derived.Test.YtfifaaopdhcaaaaGreatDoorY27
import Derived.Test.YtfifaaopdhcaaaaGreatDoorY13
import Derived.Deep.RegionHeld3
import Derived.Test.YtfifaaopdhcaaaaGreatDoorY30
import Derived.Deep.AppendLies
namespace Go.Proofs.YtfifaaopdhcaaaaGreatDoor
open Go.RowKit
set_option linter.unusedVariables false
set_option linter.unusedSimpArgs false
set_option maxRecDepth 100000
set_option maxHeartbeats 8000000 in
theorem rStU0_ok (b off cap n K : Nat) (l : List Nat) (w : World) (h : CRow w (some ⟨b, off, none⟩) cap l) (HN : Hid (l.length = n)) (hn : n ≤ 1048576) (hK : n = 4 + 8 * K) (hK1 : 1 ≤ K)  (c : Nat) (hc : valB (l.take 4) = c) :
    Calls Tryz.prog 21 #[.slice (some ⟨b, off, none⟩) n cap, .bool false] w fun e w' => ∃ ra rc, e = .returned (.tuple #[.agg #[.int .u32 (c : Int), .slice ra K rc], .int .i64 0]) ∧ Runs w' ra (sV l 4 4 K) ∧ Below w.heap.size w w' := by
  obtain ⟨i0, hi, hz0, hz1, hz2⟩ := info_parts infoEr
  have t1 : decide ((n : Int) < 12) = false := by simp; omega
  have t2 : ¬ (n : Int) < 12 := by omega
  have w1 : IntKind.i64.wrap ((n : Int) - 4) = (n : Int) - 4 := by rw [IntKind.wrap_i64]; omega
  have r1 : ((n : Int) - 4).tmod 8 = 0 := by
    rw [show (n : Int) - 4 = ((n - 4 : Nat) : Int) by omega, show (8 : Int) = ((8 : Nat) : Int) from rfl, ← Int.ofNat_tmod]
    omega
  have r6 : ((n : Int) - 4).tdiv 8 = (K : Int) := by
    rw [show (n : Int) - 4 = ((n - 4 : Nat) : Int) by omega, show (8 : Int) = ((8 : Nat) : Int) from rfl, ← Int.ofNat_tdiv]
    omega
  have r7 : ((n : Int) - 4) % 8 = 0 := by omega
  have r8 : ((n : Int) - 4) / 8 = (K : Int) := by omega
  have HKn : Hid (n = 4 + 8 * K) := hK
  have w3 : IntKind.i64.wrap (K : Int) = (K : Int) := by rw [IntKind.wrap_i64]; omega
  have w4 : IntKind.u64.wrap (K : Int) = (K : Int) := by rw [IntKind.wrap_u64]; omega
  have wq : IntKind.i64.wrap 8 = 8 := by rw [IntKind.wrap_i64]; rfl
  have HVc : Hid (∀ W, Below w.heap.size w W → Calls Tryz.prog 39 #[.slice (some ⟨b, off, none⟩) n cap, .int .i64 0, .int .i64 4] W fun e w' => e = .returned (.int .u64 (c : Int)) ∧ Below W.heap.size W w') := fun W hb => rvalueB b off cap n 0 4 l W (h.later hb) HN (by omega) (by decide) (by decide) (by omega) _ (by simpa using hc)
  have hc4 : c < 4294967296 := by have h9 := val_lt h.row.lt 0 4 _ (Nat.le_refl _); simp at h9; rw [hc] at h9; exact h9
  have w5 : IntKind.u32.wrap (c : Int) = (c : Int) := by rw [IntKind.wrap_u32]; omega
  have HC : Hid (CRow w (some ⟨b, off, none⟩) cap l) := h
  clear h hc hK 
  have hx := mkb1 w #[.int .u32 0, .slice none 0 0] 67
  go_enter Tryz.func21, Tryz.ntmps21
  go_upto_region 1 with fail
  generalize w.alloc (Obj.cells #[.int .u32 0, .slice none 0 0] 67) = W0 at *
  have HX : Hid (Bx1 w W0 #[.int .u32 0, .slice none 0 0] 67) := hx
  clear hx
  have za0 : W0.cell? ⟨w.heap.size, 0, none⟩ = some (.int .u32 0) := (blk_at HX.out.a 0).trans rfl
  have zb0 : W0.frozen? ⟨w.heap.size, 0, none⟩ = false := blk_free HX.out.a 0
  have za1 : W0.cell? ⟨w.heap.size, 1, none⟩ = some (.slice none 0 0) := (blk_at HX.out.a 1).trans rfl
  have zb1 : W0.frozen? ⟨w.heap.size, 1, none⟩ = false := blk_free HX.out.a 1
  have HDd : Hid (Bx1 w W0.drew #[.int .u32 0, .slice none 0 0] 67) := HX.out.later (below_drewN W0 1)
  clear za0 zb0 za1 zb1 HX
  go_upto_region 6 with fail
  refine wp_region_held_drew (S := fun w' => True) (by kernel_rfl) trivial ?_
  intro hHeld
  refine' wpAnyH_take (i := 0) (oi := { dst := some 29, op := Op.move (Operand.tmp 1), type := 4, pos := _, after := #[], guard := none }) (v := .bool false) rfl (by kernel_rfl) (by kernel_rfl) (by kernel_rfl) (fun _ _ _ h => h) (Or.inl ⟨by rfl, ?hy0⟩) hHeld ?rest0
  case hy0 =>
    intro w' hSw
    first | (go_simp; done) | (go_simp; with_reducible rfl)
  simp only [Act.put, List.setIfInBounds_toArray, List.set_cons_zero, List.set_cons_succ]
  refine' wpAnyH_take (i := 1) (oi := { dst := some 30, op := Op.move (Operand.tmp 29), type := 4, pos := _, after := #[{ on := 0, ground := Ground.data }], guard := none }) (v := .bool false) rfl (by kernel_rfl) (by kernel_rfl) (by kernel_rfl) (fun _ _ _ h => h) (Or.inl ⟨by rfl, ?hy1⟩) hHeld ?rest1
  case hy1 =>
    intro w' hSw
    first | (go_simp; done) | (go_simp; with_reducible rfl)
  simp only [Act.put, List.setIfInBounds_toArray, List.set_cons_zero, List.set_cons_succ]
  refine wpAnyH_take (i := 2) (oi := { dst := some 31, op := Op.move (Operand.tmp 0), type := 22, pos := _, after := #[{ on := 1, ground := Ground.guard }], guard := some (1, true) }) (v := undef) rfl (by kernel_rfl) (by kernel_rfl) (by kernel_rfl) (fun _ _ _ h => h) (Or.inr ⟨by rfl, rfl⟩) hHeld ?_
  simp only [Act.put, List.setIfInBounds_toArray, List.set_cons_zero, List.set_cons_succ]
  refine wpAnyH_take (i := 3) (oi := { dst := some 32, op := Op.call { callee := Callee.value (Operand.func 39), args := #[Operand.tmp 31, Operand.const (Value.int IntKind.i64 4), Operand.const (Value.int IntKind.i64 4)], argTypes := #[22, 3, 3] }, type := 25, pos := _, after := #[{ on := 2, ground := Ground.data }, { on := 1, ground := Ground.chain }, { on := 1, ground := Ground.guard }], guard := some (1, true) }) (v := undef) rfl (by kernel_rfl) (by kernel_rfl) (by kernel_rfl) (fun _ _ _ h => h) (Or.inr ⟨by rfl, rfl⟩) hHeld ?_
  simp only [Act.put, List.setIfInBounds_toArray, List.set_cons_zero, List.set_cons_succ]
  refine wpAnyH_take (i := 4) (oi := { dst := some 33, op := Op.move (Operand.tmp 0), type := 22, pos := _, after := #[{ on := 1, ground := Ground.guard }], guard := some (1, true) }) (v := undef) rfl (by kernel_rfl) (by kernel_rfl) (by kernel_rfl) (fun _ _ _ h => h) (Or.inr ⟨by rfl, rfl⟩) hHeld ?_
  simp only [Act.put, List.setIfInBounds_toArray, List.set_cons_zero, List.set_cons_succ]
  refine wpAnyH_take (i := 5) (oi := { dst := some 34, op := Op.call { callee := Callee.builtin Builtin.len, args := #[Operand.tmp 33], argTypes := #[22] }, type := 3, pos := _, after := #[{ on := 4, ground := Ground.data }, { on := 1, ground := Ground.guard }], guard := some (1, true) }) (v := undef) rfl (by kernel_rfl) (by kernel_rfl) (by kernel_rfl) (fun _ _ _ h => h) (Or.inr ⟨by rfl, rfl⟩) hHeld ?_
  simp only [Act.put, List.setIfInBounds_toArray, List.set_cons_zero, List.set_cons_succ]
  refine wpAnyH_take (i := 6) (oi := { dst := some 35, op := Op.move (Operand.tmp 6), type := 3, pos := _, after := #[{ on := 1, ground := Ground.guard }], guard := some (1, true) }) (v := undef) rfl (by kernel_rfl) (by kernel_rfl) (by kernel_rfl) (fun _ _ _ h => h) (Or.inr ⟨by rfl, rfl⟩) hHeld ?_
  simp only [Act.put, List.setIfInBounds_toArray, List.set_cons_zero, List.set_cons_succ]
  refine wpAnyH_take (i := 7) (oi := { dst := some 36, op := Op.binOp BinOp.sub 3 (Operand.tmp 34) (Operand.tmp 35) 3, type := 3, pos := _, after := #[{ on := 5, ground := Ground.data }, { on := 6, ground := Ground.data }, { on := 1, ground := Ground.guard }], guard := some (1, true) }) (v := undef) rfl (by kernel_rfl) (by kernel_rfl) (by kernel_rfl) (fun _ _ _ h => h) (Or.inr ⟨by rfl, rfl⟩) hHeld ?_
  simp only [Act.put, List.setIfInBounds_toArray, List.set_cons_zero, List.set_cons_succ]
  refine wpAnyH_take (i := 8) (oi := { dst := some 37, op := Op.move (Operand.tmp 7), type := 3, pos := _, after := #[{ on := 1, ground := Ground.guard }], guard := some (1, true) }) (v := undef) rfl (by kernel_rfl) (by kernel_rfl) (by kernel_rfl) (fun _ _ _ h => h) (Or.inr ⟨by rfl, rfl⟩) hHeld ?_
  simp only [Act.put, List.setIfInBounds_toArray, List.set_cons_zero, List.set_cons_succ]
  refine wpAnyH_take (i := 9) (oi := { dst := some 38, op := Op.binOp BinOp.mul 3 (Operand.const (Value.int IntKind.i64 2)) (Operand.tmp 37) 3, type := 3, pos := _, after := #[{ on := 8, ground := Ground.data }, { on := 1, ground := Ground.guard }], guard := some (1, true) }) (v := undef) rfl (by kernel_rfl) (by kernel_rfl) (by kernel_rfl) (fun _ _ _ h => h) (Or.inr ⟨by rfl, rfl⟩) hHeld ?_
  simp only [Act.put, List.setIfInBounds_toArray, List.set_cons_zero, List.set_cons_succ]
  refine wpAnyH_take (i := 10) (oi := { dst := some 39, op := Op.binOp BinOp.quo 3 (Operand.tmp 36) (Operand.tmp 38) 3, type := 3, pos := _, after := #[{ on := 7, ground := Ground.data }, { on := 9, ground := Ground.data }, { on := 1, ground := Ground.guard }], guard := some (1, true) }) (v := undef) rfl (by kernel_rfl) (by kernel_rfl) (by kernel_rfl) (fun _ _ _ h => h) (Or.inr ⟨by rfl, rfl⟩) hHeld ?_
  simp only [Act.put, List.setIfInBounds_toArray, List.set_cons_zero, List.set_cons_succ]
  refine wpAnyH_take (i := 11) (oi := { dst := some 40, op := Op.convert 3 25 (Operand.tmp 39), type := 25, pos := _, after := #[{ on := 10, ground := Ground.data }, { on := 1, ground := Ground.guard }], guard := some (1, true) }) (v := undef) rfl (by kernel_rfl) (by kernel_rfl) (by kernel_rfl) (fun _ _ _ h => h) (Or.inr ⟨by rfl, rfl⟩) hHeld ?_
  simp only [Act.put, List.setIfInBounds_toArray, List.set_cons_zero, List.set_cons_succ]
  refine wpAnyH_take (i := 12) (oi := { dst := some 41, op := Op.binOp BinOp.neq 25 (Operand.tmp 32) (Operand.tmp 40) 25, type := 4, pos := _, after := #[{ on := 3, ground := Ground.data }, { on := 11, ground := Ground.data }, { on := 1, ground := Ground.guard }], guard := some (1, true) }) (v := undef) rfl (by kernel_rfl) (by kernel_rfl) (by kernel_rfl) (fun _ _ _ h => h) (Or.inr ⟨by rfl, rfl⟩) hHeld ?_
  simp only [Act.put, List.setIfInBounds_toArray, List.set_cons_zero, List.set_cons_succ]
  refine' wpAnyH_take (i := 13) (oi := { dst := some 42, op := Op.pick (Operand.tmp 30) (Operand.tmp 41) (Operand.const (Value.bool false)), type := 4, pos := _, after := #[{ on := 1, ground := Ground.data }, { on := 12, ground := Ground.data }], guard := none }) (v := .bool false) rfl (by kernel_rfl) (by kernel_rfl) (by kernel_rfl) (fun _ _ _ h => h) (Or.inl ⟨by rfl, ?hy13⟩) hHeld ?rest13
  case hy13 =>
    intro w' hSw
    first | (go_simp; done) | (go_simp; with_reducible rfl)
  simp only [Act.put, List.setIfInBounds_toArray, List.set_cons_zero, List.set_cons_succ]
  refine wpAnyH_done (by kernel_rfl) ?_ _
  obtain ⟨W1, hW1⟩ : ∃ W, W = W0.drew := ⟨_, rfl⟩
  rw [← hW1] at HDd
  rw [← hW1]
  have HD1 : Hid (Bx1 w W1 #[.int .u32 0, .slice none 0 0] 67) := HDd.out
  clear HDd hW1
  go_wp2_with fail
  refine Calls.mono (HVc.out W1 HD1.out.bel) ?_
  rintro e WB ⟨rfl, hb2⟩
  have HXB : Hid (Bx1 w WB #[.int .u32 0, .slice none 0 0] 67) := HD1.out.later hb2
  clear hb2 HVc HD1
  go_wp2_with fail
  have hU : Vg WB (WB.alloc (Obj.cells #[.int .u32 (c : Int), .slice none 0 0] 67)) WB.heap.size (.int .u32 (c : Int)) 67 (.slice none 0 0) 116 2 0 [] := ⟨below1 WB _, heap_new WB _, World.ownsRow_nil _ _ _ _, Nat.le_refl _, by decide⟩
  generalize WB.alloc (Obj.cells #[.int .u32 (c : Int), .slice none 0 0] 67) = W3 at *
  have HGe : Hid (∃ ge, WB.heap.size = ge) := ⟨_, rfl⟩
  obtain ⟨ge, hge⟩ := HGe.out
  rw [hge] at hU ⊢
  have HU3 : Hid _ := hU
  clear hU HGe
  have HGE : Hid (WB.heap.size = ge) := hge
  clear hge
  go_loopw [9] (fun iv wr => ∃ (j p : Nat) (vo : Option Addr) (vc : Nat), j ≤ K ∧ p = 4 + 8 * j ∧ iv = .int .i64 (p : Int) ∧ Hid (Vg WB wr ge (.int .u32 (c : Int)) 67 (.slice vo j vc) 116 2 j ((sV l 4 4 j).flatMap (fun x : Nat × Nat => [Value.int .u64 (x.1 : Int), Value.int .u64 (x.2 : Int)])))) (fun iv _ => n - (intOf iv).toNat)
  case atStart => exact ⟨0, 4, none, 0, Nat.zero_le _, rfl, rfl, HU3.out⟩
  case round =>
    obtain ⟨j, p, vo, vc, hj, hp0, rfl, HU⟩ := hrel
    have hK := HKn.out
    have hsj := s_at_ (l := l) (z := 4) (a := 4) j (by rw [HN.out]; omega)
    by_cases hlt2 : j < K
    · have n9 : decide ((p : Int) < (n : Int)) = true := by simp; omega
      have n8 : (p : Int) < (n : Int) := by omega
      have w6 : IntKind.i64.wrap ((p : Int) + 4) = (p : Int) + 4 := by rw [IntKind.wrap_i64]; omega
      have w7 : IntKind.i64.wrap ((p : Int) + 8) = (p : Int) + 8 := by rw [IntKind.wrap_i64]; omega
      obtain ⟨x, hx⟩ : ∃ x, valB ((l.drop p).take 4) = x := ⟨_, rfl⟩
      obtain ⟨y, hy⟩ : ∃ y, valB ((l.drop (p + 4)).take 4) = y := ⟨_, rfl⟩
      have HV9 : Hid (((sV l 4 4 (j + 1)).flatMap (fun x : Nat × Nat => [Value.int .u64 (x.1 : Int), Value.int .u64 (x.2 : Int)])) = ((sV l 4 4 j).flatMap (fun x : Nat × Nat => [Value.int .u64 (x.1 : Int), Value.int .u64 (x.2 : Int)])) ++ [.int .u64 ((x : Nat) : Int), .int .u64 ((y : Nat) : Int)]) := by
        show _ = _
        have e1 : 4 + 2 * 4 * j = p := by omega
        have e2 : sV l 4 4 (j + 1) = sV l 4 4 j ++ [(x, y)] := by
          show sV l 4 4 j ++ [(rvV l (sA l 4 4 j) 4, rvV l (raA l (sA l 4 4 j) 4) 4)] = _
          rw [hsj.1, e1, ra_t (show p + 4 ≤ l.length by rw [HN.out]; omega), rv_t (show p + 4 ≤ l.length by rw [HN.out]; omega), rv_t (show p + 4 + 4 ≤ l.length by rw [HN.out]; omega), hx, hy]
        rw [e2]; simp
      have HA : Hid (∀ W, Below wr.heap.size wr W → Calls Tryz.prog 39 #[.slice (some ⟨b, off, none⟩) n cap, .int .i64 (p : Int), .int .i64 4] W fun e W6 => e = .returned (.int .u64 (x : Int)) ∧ W6.cell? ⟨ge, 1, none⟩ = some (.slice vo j vc) ∧ (∀ o, (W6.alloc o).cell? ⟨ge, 1, none⟩ = some (.slice vo j vc)) ∧ Hid (Below wr.heap.size wr W6) ∧ Hid (Vg WB W6 ge (.int .u32 (c : Int)) 67 (.slice vo j vc) 116 2 j ((sV l 4 4 j).flatMap (fun x : Nat × Nat => [Value.int .u64 (x.1 : Int), Value.int .u64 (x.2 : Int)])))) := fun W hW => by
        have hU := HU.out.later hW
        refine Calls.mono (rvalueB b off cap n p 4 l W (HC.out.later (HXB.out.bel.trans (hU.bel.mono HXB.out.bel.size))) HN (by omega) (by decide) (by decide) (by omega) _ hx) ?_
        rintro e W6 ⟨rfl, hb⟩
        have h6 := hU.later hb
        exact ⟨rfl, h6.c1, fun o => (h6.later (below1 W6 o)).c1, hW.trans (hb.mono hW.size), h6⟩
      have HB : Hid (∀ W, Below wr.heap.size wr W → Calls Tryz.prog 39 #[.slice (some ⟨b, off, none⟩) n cap, .int .i64 ((p : Int) + 4), .int .i64 4] W fun e W6 => e = .returned (.int .u64 (y : Int)) ∧ W6.cell? ⟨ge, 1, none⟩ = some (.slice vo j vc) ∧ (∀ o, (W6.alloc o).cell? ⟨ge, 1, none⟩ = some (.slice vo j vc)) ∧ Hid (Below wr.heap.size wr W6) ∧ Hid (Vg WB W6 ge (.int .u32 (c : Int)) 67 (.slice vo j vc) 116 2 j ((sV l 4 4 j).flatMap (fun x : Nat × Nat => [Value.int .u64 (x.1 : Int), Value.int .u64 (x.2 : Int)])))) := fun W hW => by
        have hU := HU.out.later hW
        have h1 := rvalueB b off cap n (p + 4) 4 l W (HC.out.later (HXB.out.bel.trans (hU.bel.mono HXB.out.bel.size))) HN (by omega) (by decide) (by decide) (by omega) _ hy
        rw [show ((p + 4 : Nat) : Int) = (p : Int) + 4 by omega] at h1
        refine Calls.mono h1 ?_
        rintro e W6 ⟨rfl, hb⟩
        have h6 := hU.later hb
        exact ⟨rfl, h6.c1, fun o => (h6.later (below1 W6 o)).c1, hW.trans (hb.mono hW.size), h6⟩
      have b5 : wr.cell? ⟨ge, 1, none⟩ = some (.slice vo j vc) := HU.out.c1
      have HB0 : Hid (Below wr.heap.size wr wr.drew) := below_drewN wr 1
      have HP0 : Hid (p = 4 + 8 * j) := hp0
      have hjb : j ≤ 1048576 := by omega
      clear hx hy hsj hK hp0
      go_wp2
      have K1 : Hid True := trivial
      go_region_law (first
        | (go_simp; go_at_call 39; have hk1 := K1; clear hk1 K1; refine Calls.mono (HA.out _ HB0.out) ?_; rintro e W5 ⟨rfl, m5, m5a, HB5, HU5⟩; dsimp only)
        | (go_simp; go_at_call 39; refine Calls.mono (HB.out W5 HB5.out) ?_; rintro e W6 ⟨rfl, m6, m6a, HB6, HU6⟩; clear HA HB; dsimp only)
        | (refine step_append_lies _ (by rfl) _ _ 65 (by rfl) WB.heap.size 116 i0 (.agg #[.int .u64 0, .int .u64 0]) 2 16 Tryz.underlying65 hi hz0 hz1 hz2 rfl (by decide) (.slice vo j vc) j ((sV l 4 4 j).flatMap (fun x : Nat × Nat => [Value.int .u64 (x.1 : Int), Value.int .u64 (x.2 : Int)])) (by rfl) HU6.out.rowA ⟨W6.heap.size, 0, none⟩ 1 1 [.int .u64 (x : Int), .int .u64 (y : Int)] (by rfl) rfl (World.news_of_block (heap_alloc_new W6 _)) (by simp [Value.oneCell']) (by decide) (by unfold maxLen; omega) (by omega) HU6.out.szA _ rfl ?_; intro g8 cp8 W8 ho8 hg8 _ _; have hgr := HU6.out.growB hg8; have z1 : W8.cell? ⟨ge, 1, none⟩ = some (.slice vo j vc) := (blk_at hgr 1).trans rfl; have zf : W8.frozen? ⟨ge, 1, none⟩ = false := blk_free hgr 1; have HU8 : Hid _ := HU6.out.grow ho8 hg8; clear ho8 hg8 hgr))
      all_goals go_wp2
      all_goals go_roundw
      all_goals first
        | exact ⟨j + 1, p + 8, some ⟨g8, 0, none⟩, cp8, by omega, by have := HP0.out; omega, by go_num, by rw [HV9.out]; exact HU8.out⟩
        | (have h1 := HKn.out; have h2 := HP0.out; simp [intOf]; omega)
    · obtain rfl : j = K := by omega
      have hpn : p = n := by omega
      have n9 : decide ((p : Int) < (n : Int)) = false := by simp; omega
      have n8 : ¬ (p : Int) < (n : Int) := by omega
      have y0 := HU.out.c0
      have y1 := HU.out.c1
      have HX9 : Hid (Bx1 w wr #[.int .u32 0, .slice none 0 0] 67) := HXB.out.later HU.out.bel
      have za0 : wr.cell? ⟨w.heap.size, 0, none⟩ = some (.int .u32 0) := (blk_at HX9.out.a 0).trans rfl
      have zb0 : wr.frozen? ⟨w.heap.size, 0, none⟩ = false := blk_free HX9.out.a 0
      have za1 : wr.cell? ⟨w.heap.size, 1, none⟩ = some (.slice none 0 0) := (blk_at HX9.out.a 1).trans rfl
      have zb1 : wr.frozen? ⟨w.heap.size, 1, none⟩ = false := blk_free HX9.out.a 1
      clear hsj hK hp0 hpn
      go_wp2
      obtain ⟨hp, hq⟩ := putc2 HX9.out.a (.int .u32 (c : Int)) (.slice vo j vc)
      have h9 := owns_sameU HU.out.row (fun g hg => hq.block g (owns_typeU HU.out.row g hg).2.2 (by have h1 := (owns_typeU HU.out.row g hg).2.1; have h2 := HXB.out.size; omega))
      have h8 : ∀ x ∈ sV l 4 4 j, x.1 < 18446744073709551616 ∧ x.2 < 18446744073709551616 := sV_lt l 4 (by decide) HC.out.row.lt 4 j
      have h7 := runs_own h9 h8
      have h6 := HX9.out.bel.trans (hq.below HX9.out.bel.size (fun g hg => by omega))
      refine bodyPost_ret (results_cell_tmp1 rfl _ _ w.heap.size 67 _ (0, 0) _ rfl hp Tryz.underlying67 rfl infoT) rfl ?_
      first | exact ⟨vo, vc, rfl, h7, h6⟩ | exact ⟨vo, ⟨vc, rfl⟩, h7, h6⟩
end Go.Proofs.YtfifaaopdhcaaaaGreatDoor
