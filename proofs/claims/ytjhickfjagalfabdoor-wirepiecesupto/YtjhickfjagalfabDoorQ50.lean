import Derived.Test.YtjhickfjagalfabDoorQ49
import Derived.Deep.CutRange
import Derived.Deep.RegionHeld3
namespace Go.Proofs.YtjhickfjagalfabDoor
open Go.RowKit
set_option linter.unusedVariables false
set_option linter.unusedSimpArgs false
set_option maxRecDepth 100000
set_option maxHeartbeats 64000000 in
theorem wirePieces_some (ad : Addr) (cap : Nat) (l : List Nat) (most cut : Nat) (w : World) (hT : Tb w) (h : CRow w (some ad) cap l) (hn : l.length ≤ 1048576) (hm4 : most < 4294967296) (hc : cut ≤ l.length) :
    Calls Tryd.prog 4 #[.slice (some ad) l.length cap, .int .u32 (most : Int), .int .i64 (cut : Int)] w fun e w' => e = .returned (.bool true) ∧ Below w.heap.size w w' := by
  have HTb : Hid (Tb w) := hT
  have HR : Hid (CRow w (some ad) cap l ∧ l.length ≤ 1048576 ∧ cut ≤ l.length) := ⟨h, hn, hc⟩
  have hlc : (l.take cut).length = cut := by simp; omega
  have HLc : Hid ((l.take cut).length = cut) := hlc
  have hcap1 := h.cap1
  have hcap2 := h.cap2
  have q1 : ¬ (cut : Int) < 0 := by omega
  have q2 : ¬ (l.length : Int) < (cut : Int) := by omega
  have q3 : decide (l.length < cut) = false := by simp; omega
  have q4 : (cut : Int) ≤ (cap : Int) := by omega
  have q5 : (0 : Int) ≤ (cut : Int) := by omega
  have q6 : ¬ l.length < cut := by omega
  clear hn
  clear hT h hlc
  go_enter Tryd.func4, Tryd.ntmps4
  go_wp2
  go_loopw [7] (fun i wr => ∃ k : Nat, i = .int .i64 k ∧ k ≤ 11 ∧ Hid (Below w.heap.size w wr)) (fun i _ => 11 - (intOf i).toNat)
  case atStart => exact ⟨0, rfl, by decide, Below.refl _ _⟩
  case round =>
    obtain ⟨k, rfl, hk, HB⟩ := hrel
    by_cases hlt : k < 11
    · have hk11 : (k : Int) < 11 := by omega
      go_wp2_with fail
      refine (twin_e (some ad) cap l.length l wr (HR.out.1.later HB.out).row rfl HR.out.2.1).mono ?_
      rintro e W1 ⟨g, rfl, hc1, hb⟩
      have HC : Hid _ := hc1
      replace HB : Hid (Below w.heap.size w W1) := HB.out.trans (hb.mono HB.out.size)
      clear hb hc1
      go_wp2_with fail
      refine (told_n k l.length hlt (some ⟨g, 0, none⟩) (l.length + 4) l rfl most W1 HC.out HR.out.2.1 hm4).mono ?_
      rintro e W2 ⟨N, E, m, ao3, cap3, rfl, hto, hrow⟩
      have HTo : Hid (toD k most l = (N, E, m)) := hto
      replace HB : Hid (Below w.heap.size w W2) := HB.out.trans (hrow.bel.mono HB.out.size)
      have HRw : Hid (Row W1 W2 ao3 cap3 m) := hrow
      clear hto hrow HC
      obtain ⟨V, hV⟩ : ∃ V, V = W2.alloc (.cells #[.int .i64 (N : Int), .int .i64 (E : Int), .slice ao3 m.length cap3] 25) := ⟨_, rfl⟩
      obtain ⟨p, hp⟩ : ∃ p, p = W2.heap.size := ⟨_, rfl⟩
      have hal : Below W2.heap.size W2 V := by rw [hV]; exact (Below.refl _ _).alloc (Nat.le_refl _) _
      have HP8 : Hid (V.heap[p]? = some (.cells #[.int .i64 (N : Int), .int .i64 (E : Int), .slice ao3 m.length cap3] 25 (0, 0))) := by show _ = _; rw [hV, hp]; exact heap_new W2 _
      replace HB : Hid (Below w.heap.size w V) := HB.out.trans (hal.mono HB.out.size)
      have HA : Hid (Below W2.heap.size W2 V) := hal
      clear hal
      go_wp2_with fail
      rw [← hV, ← hp]
      clear hV hp
      refine (twin_e (some ad) cap cut (l.take cut) V ((HR.out.1.later HB.out).row.take cut cap (fun e => by cases e)) HLc.out (by have := HR.out.2; omega)).mono ?_
      rintro e W3 ⟨g2, rfl, hc1, hb⟩
      have HC : Hid _ := hc1
      replace HB : Hid (Below w.heap.size w W3) := HB.out.trans (hb.mono HB.out.size)
      replace HA : Hid (Below W2.heap.size W2 W3) := HA.out.trans (hb.mono HA.out.size)
      replace HP8 : Hid (W3.heap[p]? = some _) := (hb.block _ (block_lt HP8.out)).trans HP8.out
      clear hb hc1
      go_wp2_with fail
      refine (told_n k cut hlt (some ⟨g2, 0, none⟩) (cut + 4) (l.take cut) HLc.out most W3 HC.out (by have := HR.out.2; omega) hm4).mono ?_
      rintro e W4 ⟨N', E', m', ao4, cap4, rfl, hto, hrow⟩
      have HW : Hid (Pw k most cut l N E m N' E' m') := pw_of hlt HR.out.1.row.lt HR.out.2.2 HTo.out hto
      replace HB : Hid (Below w.heap.size w W4) := HB.out.trans (hrow.bel.mono HB.out.size)
      replace HA : Hid (Below W2.heap.size W2 W4) := HA.out.trans (hrow.bel.mono HA.out.size)
      replace HP8 : Hid (W4.heap[p]? = some _) := (hrow.bel.block _ (block_lt HP8.out)).trans HP8.out
      have HRx : Hid (Row W3 W4 ao4 cap4 m') := hrow
      clear hto hrow HC HTo
      obtain ⟨V2, hV⟩ : ∃ V, V = W4.alloc (.cells #[.int .i64 (N' : Int), .int .i64 (E' : Int), .slice ao4 m'.length cap4] 25) := ⟨_, rfl⟩
      obtain ⟨p2, hp⟩ : ∃ p, p = W4.heap.size := ⟨_, rfl⟩
      have hal : Below W4.heap.size W4 V2 := by rw [hV]; exact (Below.refl _ _).alloc (Nat.le_refl _) _
      have HP9 : Hid (V2.heap[p2]? = some (.cells #[.int .i64 (N' : Int), .int .i64 (E' : Int), .slice ao4 m'.length cap4] 25 (0, 0))) := by show _ = _; rw [hV, hp]; exact heap_new W4 _
      replace HB : Hid (Below w.heap.size w V2) := HB.out.trans (hal.mono HB.out.size)
      replace HA : Hid (Below W2.heap.size W2 V2) := HA.out.trans (hal.mono HA.out.size)
      replace HP8 : Hid (V2.heap[p]? = some _) := (hal.block _ (block_lt HP8.out)).trans HP8.out
      have HA4 : Hid (Below W4.heap.size W4 V2) := hal
      clear hal
      go_upto_region 8 with fail
      rw [← hV, ← hp]
      clear hV hp
      have x0 := blk_at HP8.out 0
      have x1 := blk_at HP8.out 1
      have x2 := blk_at HP8.out 2
      have y0 := blk_at HP9.out 0
      have y1 := blk_at HP9.out 1
      have y2 := blk_at HP9.out 2
      simp at x0 x1 x2 y0 y1 y2
      by_cases hE10 : 10 = E
      · subst hE10
        obtain ⟨e1, e2⟩ := HW.out.pc.ten rfl
        simp only at e1 e2
        subst e1
        have hN : l.length < N := HW.out.sg rfl
        have s1 : ¬ (N : Int) < (N' : Int) := by omega
        have s2 : decide (N < N') = false := by simp; omega
        have s3 : ¬ (N : Int) ≤ (l.length : Int) := by omega
        have s4 : decide (N ≤ l.length) = false := by simp; omega
        have hsg : cut < N' := HW.out.sg' rfl
        have r1 : ¬ (N' : Int) ≤ (cut : Int) := by omega
        have r2 : decide (N' ≤ cut) = false := by simp; omega
        clear HW HRw HRx HA HA4
        go_upto_region 17 with fail
        by_cases hNl : N' ≤ l.length
        · skip
          obtain ⟨N2, E2, m2, hT2⟩ : ∃ N2 E2 m2, toD k most (l.take N') = (N2, E2, m2) := ⟨_, _, _, rfl⟩
          have HT2 : Hid (toD k most (l.take N') = (N2, E2, m2)) := hT2
          have HS2 : Hid (E2 = 10 → (l.take N').length < N2) := fun h => by have h1 := short_gt k most (l.take N') hlt; rw [hT2] at h1; exact h1 h
          clear hT2
          by_cases hE2 : 10 = E2
          · skip
            have r3 : (N' : Int) ≤ (l.length : Int) := by omega
            have r4 : decide (N' ≤ l.length) = true := by simp; omega
            have r5 : (N' : Int) ≤ (cap : Int) := by omega
            have r6 : (0 : Int) ≤ (N' : Int) := by omega
            have HlN : Hid ((l.take N').length = N') := by show _ = _; rw [List.length_take]; omega
            have HnN : Hid (N' ≤ 1048576) := by have := HR.out.2.1; show N' ≤ _; omega
            subst hE2
            have t3 : N' < N2 := by have := HS2.out rfl; rw [HlN.out] at this; exact this
            have t4 : ¬ (N2 : Int) ≤ (N' : Int) := by omega
            have t5 : decide (N2 ≤ N') = false := by simp; omega
            have hf0 : ∀ (w : World) (a : Option Addr) (c d : Nat), (Instr.field 25 (.agg #[.int .i64 (N2 : Int), .int .i64 10, .slice a c d]) 0).run Tryd.prog w = .ok (.int .i64 (N2 : Int)) w := fun _ _ _ _ => by kernel_rfl
            have hf1 : ∀ (w : World) (a : Option Addr) (c d : Nat), (Instr.field 25 (.agg #[.int .i64 (N2 : Int), .int .i64 10, .slice a c d]) 1).run Tryd.prog w = .ok (.int .i64 10) w := fun _ _ _ _ => by kernel_rfl
            have HBd : Hid (Below w.heap.size w V2.drew) := HB.out.trans ⟨rfl, rfl, rfl, Nat.le_refl _, fun _ _ => rfl⟩
            go_wp2
            refine wp_region_held_drew (S := fun w' => w'.cell? ⟨p2, 0, none⟩ = some (.int .i64 (N' : Int)) ∧ w'.cell? ⟨p2, 1, none⟩ = some (.int .i64 10)) (by kernel_rfl) ⟨y0, y1⟩ ?_
            intro hHeld
            refine' wpAnyH_take (i := 0) (oi := { dst := some 117, op := Op.fieldAddr 25 (Operand.tmp 9) 1, type := 0, pos := _, after := #[], guard := none }) (v := _) rfl (by kernel_rfl) (by kernel_rfl) (by kernel_rfl) (fun _ _ _ h => h) (Or.inl ⟨by rfl, ?hy1⟩) hHeld ?rest1
            case' hy1 =>
              intro w hSw
              (try dsimp only at hSw)
              first | (go_simp; done) | (go_simp; with_reducible rfl)
            simp only [Act.put, List.setIfInBounds_toArray, List.set_cons_zero, List.set_cons_succ]
            refine' wpAnyH_take (i := 1) (oi := { dst := some 118, op := Op.load 3 (Operand.tmp 117), type := 3, pos := _, after := #[{ on := 0, ground := Ground.data }], guard := none }) (v := _) rfl (by kernel_rfl) (by kernel_rfl) (by kernel_rfl) (fun _ _ _ h => h) (Or.inl ⟨by rfl, ?hy2⟩) hHeld ?rest2
            case' hy2 =>
              intro w hSw
              (try dsimp only at hSw)
              first | (go_simp; done) | (go_simp; with_reducible rfl)
            simp only [Act.put, List.setIfInBounds_toArray, List.set_cons_zero, List.set_cons_succ]
            refine' wpAnyH_take (i := 2) (oi := { dst := some 119, op := Op.binOp BinOp.eql 3 (Operand.tmp 118) (Operand.const (Value.int IntKind.i64 10)) 3, type := 4, pos := _, after := #[{ on := 1, ground := Ground.data }], guard := none }) (v := _) rfl (by kernel_rfl) (by kernel_rfl) (by kernel_rfl) (fun _ _ _ h => h) (Or.inl ⟨by rfl, ?hy3⟩) hHeld ?rest3
            case' hy3 =>
              intro w hSw
              (try dsimp only at hSw)
              first | (go_simp; done) | (go_simp; with_reducible rfl)
            simp only [Act.put, List.setIfInBounds_toArray, List.set_cons_zero, List.set_cons_succ]
            refine' wpAnyH_take (i := 3) (oi := { dst := some 120, op := Op.move (Operand.tmp 119), type := 4, pos := _, after := #[{ on := 2, ground := Ground.data }], guard := none }) (v := _) rfl (by kernel_rfl) (by kernel_rfl) (by kernel_rfl) (fun _ _ _ h => h) (Or.inl ⟨by rfl, ?hy4⟩) hHeld ?rest4
            case' hy4 =>
              intro w hSw
              (try dsimp only at hSw)
              first | (go_simp; done) | (go_simp; with_reducible rfl)
            simp only [Act.put, List.setIfInBounds_toArray, List.set_cons_zero, List.set_cons_succ]
            refine' wpAnyH_take (i := 4) (oi := { dst := some 121, op := Op.fieldAddr 25 (Operand.tmp 9) 0, type := 0, pos := _, after := #[{ on := 3, ground := Ground.guard }], guard := some (3, true) }) (v := _) rfl (by kernel_rfl) (by kernel_rfl) (by kernel_rfl) (fun _ _ _ h => h) (Or.inl ⟨by rfl, ?hy5⟩) hHeld ?rest5
            case' hy5 =>
              intro w hSw
              (try dsimp only at hSw)
              first | (go_simp; done) | (go_simp; with_reducible rfl)
            simp only [Act.put, List.setIfInBounds_toArray, List.set_cons_zero, List.set_cons_succ]
            refine' wpAnyH_take (i := 5) (oi := { dst := some 122, op := Op.load 3 (Operand.tmp 121), type := 3, pos := _, after := #[{ on := 4, ground := Ground.data }, { on := 3, ground := Ground.guard }], guard := some (3, true) }) (v := _) rfl (by kernel_rfl) (by kernel_rfl) (by kernel_rfl) (fun _ _ _ h => h) (Or.inl ⟨by rfl, ?hy6⟩) hHeld ?rest6
            case' hy6 =>
              intro w hSw
              (try dsimp only at hSw)
              first | (go_simp; done) | (go_simp; with_reducible rfl)
            simp only [Act.put, List.setIfInBounds_toArray, List.set_cons_zero, List.set_cons_succ]
            refine' wpAnyH_take (i := 6) (oi := { dst := some 123, op := Op.move (Operand.tmp 2), type := 3, pos := _, after := #[{ on := 3, ground := Ground.guard }], guard := some (3, true) }) (v := _) rfl (by kernel_rfl) (by kernel_rfl) (by kernel_rfl) (fun _ _ _ h => h) (Or.inl ⟨by rfl, ?hy7⟩) hHeld ?rest7
            case' hy7 =>
              intro w hSw
              (try dsimp only at hSw)
              first | (go_simp; done) | (go_simp; with_reducible rfl)
            simp only [Act.put, List.setIfInBounds_toArray, List.set_cons_zero, List.set_cons_succ]
            refine' wpAnyH_take (i := 7) (oi := { dst := some 124, op := Op.binOp BinOp.leq 3 (Operand.tmp 122) (Operand.tmp 123) 3, type := 4, pos := _, after := #[{ on := 5, ground := Ground.data }, { on := 6, ground := Ground.data }, { on := 3, ground := Ground.guard }], guard := some (3, true) }) (v := _) rfl (by kernel_rfl) (by kernel_rfl) (by kernel_rfl) (fun _ _ _ h => h) (Or.inl ⟨by rfl, ?hy8⟩) hHeld ?rest8
            case' hy8 =>
              intro w hSw
              (try dsimp only at hSw)
              first | (go_simp; done) | (go_simp; with_reducible rfl)
            simp only [Act.put, List.setIfInBounds_toArray, List.set_cons_zero, List.set_cons_succ]
            refine' wpAnyH_take (i := 8) (oi := { dst := some 125, op := Op.move (Operand.tmp 124), type := 4, pos := _, after := #[{ on := 7, ground := Ground.data }, { on := 3, ground := Ground.chain }, { on := 3, ground := Ground.guard }], guard := some (3, true) }) (v := _) rfl (by kernel_rfl) (by kernel_rfl) (by kernel_rfl) (fun _ _ _ h => h) (Or.inl ⟨by rfl, ?hy9⟩) hHeld ?rest9
            case' hy9 =>
              intro w hSw
              (try dsimp only at hSw)
              first | (go_simp; done) | (go_simp; with_reducible rfl)
            simp only [Act.put, List.setIfInBounds_toArray, List.set_cons_zero, List.set_cons_succ]
            refine' wpAnyH_take (i := 9) (oi := { dst := some 126, op := Op.fieldAddr 25 (Operand.tmp 9) 0, type := 0, pos := _, after := #[{ on := 8, ground := Ground.guard }], guard := some (8, false) }) (v := _) rfl (by kernel_rfl) (by kernel_rfl) (by kernel_rfl) (fun _ _ _ h => h) (Or.inl ⟨by rfl, ?hy10⟩) hHeld ?rest10
            case' hy10 =>
              intro w hSw
              (try dsimp only at hSw)
              first | (go_simp; done) | (go_simp; with_reducible rfl)
            simp only [Act.put, List.setIfInBounds_toArray, List.set_cons_zero, List.set_cons_succ]
            refine' wpAnyH_take (i := 10) (oi := { dst := some 127, op := Op.load 3 (Operand.tmp 126), type := 3, pos := _, after := #[{ on := 9, ground := Ground.data }, { on := 8, ground := Ground.guard }], guard := some (8, false) }) (v := _) rfl (by kernel_rfl) (by kernel_rfl) (by kernel_rfl) (fun _ _ _ h => h) (Or.inl ⟨by rfl, ?hy11⟩) hHeld ?rest11
            case' hy11 =>
              intro w hSw
              (try dsimp only at hSw)
              first | (go_simp; done) | (go_simp; with_reducible rfl)
            simp only [Act.put, List.setIfInBounds_toArray, List.set_cons_zero, List.set_cons_succ]
            refine' wpAnyH_take (i := 11) (oi := { dst := some 128, op := Op.move (Operand.tmp 0), type := 22, pos := _, after := #[{ on := 8, ground := Ground.guard }], guard := some (8, false) }) (v := _) rfl (by kernel_rfl) (by kernel_rfl) (by kernel_rfl) (fun _ _ _ h => h) (Or.inl ⟨by rfl, ?hy12⟩) hHeld ?rest12
            case' hy12 =>
              intro w hSw
              (try dsimp only at hSw)
              first | (go_simp; done) | (go_simp; with_reducible rfl)
            simp only [Act.put, List.setIfInBounds_toArray, List.set_cons_zero, List.set_cons_succ]
            refine' wpAnyH_take (i := 12) (oi := { dst := some 129, op := Op.call { callee := Callee.builtin Builtin.len, args := #[Operand.tmp 128], argTypes := #[22] }, type := 3, pos := _, after := #[{ on := 11, ground := Ground.data }, { on := 8, ground := Ground.guard }], guard := some (8, false) }) (v := _) rfl (by kernel_rfl) (by kernel_rfl) (by kernel_rfl) (fun _ _ _ h => h) (Or.inl ⟨by rfl, ?hy13⟩) hHeld ?rest13
            case' hy13 =>
              intro w hSw
              (try dsimp only at hSw)
              first | (go_simp; done) | (go_simp; with_reducible rfl)
            simp only [Act.put, List.setIfInBounds_toArray, List.set_cons_zero, List.set_cons_succ]
            refine' wpAnyH_take (i := 13) (oi := { dst := some 130, op := Op.binOp BinOp.leq 3 (Operand.tmp 127) (Operand.tmp 129) 3, type := 4, pos := _, after := #[{ on := 10, ground := Ground.data }, { on := 12, ground := Ground.data }, { on := 8, ground := Ground.guard }], guard := some (8, false) }) (v := _) rfl (by kernel_rfl) (by kernel_rfl) (by kernel_rfl) (fun _ _ _ h => h) (Or.inl ⟨by rfl, ?hy14⟩) hHeld ?rest14
            case' hy14 =>
              intro w hSw
              (try dsimp only at hSw)
              first | (go_simp; done) | (go_simp; with_reducible rfl)
            simp only [Act.put, List.setIfInBounds_toArray, List.set_cons_zero, List.set_cons_succ]
            refine' wpAnyH_take (i := 14) (oi := { dst := some 131, op := Op.move (Operand.tmp 130), type := 4, pos := _, after := #[{ on := 13, ground := Ground.data }, { on := 8, ground := Ground.chain }, { on := 8, ground := Ground.guard }], guard := some (8, false) }) (v := _) rfl (by kernel_rfl) (by kernel_rfl) (by kernel_rfl) (fun _ _ _ h => h) (Or.inl ⟨by rfl, ?hy15⟩) hHeld ?rest15
            case' hy15 =>
              intro w hSw
              (try dsimp only at hSw)
              first | (go_simp; done) | (go_simp; with_reducible rfl)
            simp only [Act.put, List.setIfInBounds_toArray, List.set_cons_zero, List.set_cons_succ]
            refine' wpAnyH_take (i := 15) (oi := { dst := some 132, op := Op.move (Operand.tmp 7), type := 3, pos := _, after := #[{ on := 14, ground := Ground.guard }], guard := some (14, true) }) (v := _) rfl (by kernel_rfl) (by kernel_rfl) (by kernel_rfl) (fun _ _ _ h => h) (Or.inl ⟨by rfl, ?hy16⟩) hHeld ?rest16
            case' hy16 =>
              intro w hSw
              (try dsimp only at hSw)
              first | (go_simp; done) | (go_simp; with_reducible rfl)
            simp only [Act.put, List.setIfInBounds_toArray, List.set_cons_zero, List.set_cons_succ]
            refine' wpAnyH_take (i := 16) (oi := { dst := some 133, op := Op.move (Operand.tmp 0), type := 22, pos := _, after := #[{ on := 14, ground := Ground.guard }], guard := some (14, true) }) (v := _) rfl (by kernel_rfl) (by kernel_rfl) (by kernel_rfl) (fun _ _ _ h => h) (Or.inl ⟨by rfl, ?hy17⟩) hHeld ?rest17
            case' hy17 =>
              intro w hSw
              (try dsimp only at hSw)
              first | (go_simp; done) | (go_simp; with_reducible rfl)
            simp only [Act.put, List.setIfInBounds_toArray, List.set_cons_zero, List.set_cons_succ]
            refine' wpAnyH_take (i := 17) (oi := { dst := some 134, op := Op.fieldAddr 25 (Operand.tmp 9) 0, type := 0, pos := _, after := #[{ on := 14, ground := Ground.guard }], guard := some (14, true) }) (v := _) rfl (by kernel_rfl) (by kernel_rfl) (by kernel_rfl) (fun _ _ _ h => h) (Or.inl ⟨by rfl, ?hy18⟩) hHeld ?rest18
            case' hy18 =>
              intro w hSw
              (try dsimp only at hSw)
              first | (go_simp; done) | (go_simp; with_reducible rfl)
            simp only [Act.put, List.setIfInBounds_toArray, List.set_cons_zero, List.set_cons_succ]
            refine' wpAnyH_take (i := 18) (oi := { dst := some 135, op := Op.load 3 (Operand.tmp 134), type := 3, pos := _, after := #[{ on := 17, ground := Ground.data }, { on := 14, ground := Ground.guard }], guard := some (14, true) }) (v := _) rfl (by kernel_rfl) (by kernel_rfl) (by kernel_rfl) (fun _ _ _ h => h) (Or.inl ⟨by rfl, ?hy19⟩) hHeld ?rest19
            case' hy19 =>
              intro w hSw
              (try dsimp only at hSw)
              first | (go_simp; done) | (go_simp; with_reducible rfl)
            simp only [Act.put, List.setIfInBounds_toArray, List.set_cons_zero, List.set_cons_succ]
            refine' wpAnyH_take (i := 19) (oi := { dst := some 136, op := Op.slice 22 (Operand.tmp 133) none (some (Operand.tmp 135)) none, type := 22, pos := _, after := #[{ on := 16, ground := Ground.data }, { on := 18, ground := Ground.data }, { on := 14, ground := Ground.guard }], guard := some (14, true) }) (v := _) rfl (by kernel_rfl) (by kernel_rfl) (by kernel_rfl) (fun _ _ _ h => h) (Or.inl ⟨by rfl, ?hy20⟩) hHeld ?rest20
            case' hy20 =>
              intro w hSw
              (try dsimp only at hSw)
              first | (go_simp; done) | (go_simp; with_reducible rfl)
            simp only [Act.put, List.setIfInBounds_toArray, List.set_cons_zero, List.set_cons_succ]
            refine' wpAnyH_take (i := 21) (oi := { dst := some 138, op := Op.move (Operand.tmp 1), type := 23, pos := _, after := #[{ on := 14, ground := Ground.guard }], guard := some (14, true) }) (v := _) rfl (by kernel_rfl) (by kernel_rfl) (by kernel_rfl) (fun _ _ _ h => h) (Or.inl ⟨by rfl, ?hy21⟩) hHeld ?rest21
            case' hy21 =>
              intro w hSw
              (try dsimp only at hSw)
              first | (go_simp; done) | (go_simp; with_reducible rfl)
            simp only [Act.put, List.setIfInBounds_toArray, List.set_cons_zero, List.set_cons_succ]
            refine wpAnyH_ready (rs := [20]) (by kernel_rfl) (by simp) ?_
            refine AllReadyH.cons (o := { dst := some 137, op := Op.call { callee := Callee.value (Operand.func 9), args := #[Operand.tmp 136], argTypes := #[22] }, type := 22, pos := _, after := #[{ on := 19, ground := Ground.data }, { on := 14, ground := Ground.chain }, { on := 14, ground := Ground.guard }], guard := some (14, true) }) rfl (fun K hK => ?_) AllReadyH.nil
            go_simp
            refine Calls.mono (twin_e (some ad) cap N' (l.take N') _ ?bx22 HlN.out HnN.out) ?_
            case bx22 => exact (HR.out.1.later HBd.out).row.take N' cap (fun e => by cases e)
            rintro e X5 ⟨g5, rfl, hc5, hb⟩
            have HCX5 : Hid _ := hc5
            replace HB : Hid (Below w.heap.size w X5) := HBd.out.trans (hb.mono HBd.out.size)
            replace HP9 : Hid (X5.heap[p2]? = some _) := (hb.block _ (block_lt HP9.out)).trans HP9.out
            clear hb hc5
            go_wp2_with fail
            refine hK.out _ _ ?hS23 (fun hHeld => ?rest23)
            case hS23 => exact ⟨blk_at HP9.out 0, blk_at HP9.out 1⟩
            clear hK K
            refine wpAnyH_ready (rs := [22]) (by kernel_rfl) (by simp) ?_
            refine AllReadyH.cons (o := { dst := some 139, op := Op.call { callee := Callee.value (Operand.func 8), args := #[Operand.tmp 132, Operand.tmp 137, Operand.tmp 138], argTypes := #[3, 22, 23] }, type := 25, pos := _, after := #[{ on := 15, ground := Ground.data }, { on := 20, ground := Ground.data }, { on := 21, ground := Ground.data }, { on := 20, ground := Ground.chain }, { on := 14, ground := Ground.guard }], guard := some (14, true) }) rfl (fun K hK => ?_) AllReadyH.nil
            go_simp
            refine Calls.mono (told_n k N' hlt (some ⟨g5, 0, none⟩) (N' + 4) (l.take N') HlN.out most X5 HCX5.out HnN.out hm4) ?_
            rintro e X6 ⟨N6, E6, m6, ao6, cp6, rfl, hto6, hrow6⟩
            rw [HT2.out] at hto6
            simp only [Prod.mk.injEq] at hto6
            obtain ⟨rfl, rfl, _⟩ := hto6
            have hb := hrow6.bel
            replace HB : Hid (Below w.heap.size w X6) := HB.out.trans (hb.mono HB.out.size)
            replace HP9 : Hid (X6.heap[p2]? = some _) := (hb.block _ (block_lt HP9.out)).trans HP9.out
            clear hb hrow6 HCX5
            go_wp2_with fail
            refine hK.out _ _ ?hS24 (fun hHeld => ?rest24)
            case hS24 => exact ⟨blk_at HP9.out 0, blk_at HP9.out 1⟩
            clear hK K
            refine' wpAnyH_take (i := 23) (oi := { dst := some 140, op := Op.field 25 (Operand.tmp 139) 1, type := 3, pos := _, after := #[{ on := 22, ground := Ground.data }, { on := 14, ground := Ground.guard }], guard := some (14, true) }) (v := _) rfl (by kernel_rfl) (by kernel_rfl) (by kernel_rfl) (fun _ _ _ h => h) (Or.inl ⟨by rfl, ?hy25⟩) hHeld ?rest25
            case' hy25 =>
              intro w hSw
              (try dsimp only at hSw)
              first | (go_simp; done) | (go_simp; with_reducible rfl)
            simp only [Act.put, List.setIfInBounds_toArray, List.set_cons_zero, List.set_cons_succ]
            refine' wpAnyH_take (i := 24) (oi := { dst := some 141, op := Op.binOp BinOp.eql 3 (Operand.tmp 140) (Operand.const (Value.int IntKind.i64 10)) 3, type := 4, pos := _, after := #[{ on := 23, ground := Ground.data }, { on := 14, ground := Ground.guard }], guard := some (14, true) }) (v := _) rfl (by kernel_rfl) (by kernel_rfl) (by kernel_rfl) (fun _ _ _ h => h) (Or.inl ⟨by rfl, ?hy26⟩) hHeld ?rest26
            case' hy26 =>
              intro w hSw
              (try dsimp only at hSw)
              first | (go_simp; done) | (go_simp; with_reducible rfl)
            simp only [Act.put, List.setIfInBounds_toArray, List.set_cons_zero, List.set_cons_succ]
            refine' wpAnyH_take (i := 25) (oi := { dst := some 142, op := Op.pick (Operand.tmp 131) (Operand.tmp 141) (Operand.const (Value.bool false)), type := 4, pos := _, after := #[{ on := 14, ground := Ground.data }, { on := 24, ground := Ground.data }, { on := 8, ground := Ground.guard }], guard := some (8, false) }) (v := _) rfl (by kernel_rfl) (by kernel_rfl) (by kernel_rfl) (fun _ _ _ h => h) (Or.inl ⟨by rfl, ?hy27⟩) hHeld ?rest27
            case' hy27 =>
              intro w hSw
              (try dsimp only at hSw)
              first | (go_simp; done) | (go_simp; with_reducible rfl)
            simp only [Act.put, List.setIfInBounds_toArray, List.set_cons_zero, List.set_cons_succ]
            refine' wpAnyH_take (i := 26) (oi := { dst := some 143, op := Op.move (Operand.tmp 142), type := 4, pos := _, after := #[{ on := 25, ground := Ground.data }, { on := 22, ground := Ground.chain }, { on := 8, ground := Ground.guard }], guard := some (8, false) }) (v := _) rfl (by kernel_rfl) (by kernel_rfl) (by kernel_rfl) (fun _ _ _ h => h) (Or.inl ⟨by rfl, ?hy28⟩) hHeld ?rest28
            case' hy28 =>
              intro w hSw
              (try dsimp only at hSw)
              first | (go_simp; done) | (go_simp; with_reducible rfl)
            simp only [Act.put, List.setIfInBounds_toArray, List.set_cons_zero, List.set_cons_succ]
            refine' wpAnyH_take (i := 27) (oi := { dst := some 144, op := Op.move (Operand.tmp 7), type := 3, pos := _, after := #[{ on := 26, ground := Ground.guard }], guard := some (26, true) }) (v := _) rfl (by kernel_rfl) (by kernel_rfl) (by kernel_rfl) (fun _ _ _ h => h) (Or.inl ⟨by rfl, ?hy29⟩) hHeld ?rest29
            case' hy29 =>
              intro w hSw
              (try dsimp only at hSw)
              first | (go_simp; done) | (go_simp; with_reducible rfl)
            simp only [Act.put, List.setIfInBounds_toArray, List.set_cons_zero, List.set_cons_succ]
            refine' wpAnyH_take (i := 28) (oi := { dst := some 145, op := Op.move (Operand.tmp 0), type := 22, pos := _, after := #[{ on := 26, ground := Ground.guard }], guard := some (26, true) }) (v := _) rfl (by kernel_rfl) (by kernel_rfl) (by kernel_rfl) (fun _ _ _ h => h) (Or.inl ⟨by rfl, ?hy30⟩) hHeld ?rest30
            case' hy30 =>
              intro w hSw
              (try dsimp only at hSw)
              first | (go_simp; done) | (go_simp; with_reducible rfl)
            simp only [Act.put, List.setIfInBounds_toArray, List.set_cons_zero, List.set_cons_succ]
            refine' wpAnyH_take (i := 29) (oi := { dst := some 146, op := Op.fieldAddr 25 (Operand.tmp 9) 0, type := 0, pos := _, after := #[{ on := 26, ground := Ground.guard }], guard := some (26, true) }) (v := _) rfl (by kernel_rfl) (by kernel_rfl) (by kernel_rfl) (fun _ _ _ h => h) (Or.inl ⟨by rfl, ?hy31⟩) hHeld ?rest31
            case' hy31 =>
              intro w hSw
              (try dsimp only at hSw)
              first | (go_simp; done) | (go_simp; with_reducible rfl)
            simp only [Act.put, List.setIfInBounds_toArray, List.set_cons_zero, List.set_cons_succ]
            refine' wpAnyH_take (i := 30) (oi := { dst := some 147, op := Op.load 3 (Operand.tmp 146), type := 3, pos := _, after := #[{ on := 29, ground := Ground.data }, { on := 26, ground := Ground.guard }], guard := some (26, true) }) (v := _) rfl (by kernel_rfl) (by kernel_rfl) (by kernel_rfl) (fun _ _ _ h => h) (Or.inl ⟨by rfl, ?hy32⟩) hHeld ?rest32
            case' hy32 =>
              intro w hSw
              (try dsimp only at hSw)
              first | (go_simp; done) | (go_simp; with_reducible rfl)
            simp only [Act.put, List.setIfInBounds_toArray, List.set_cons_zero, List.set_cons_succ]
            refine' wpAnyH_take (i := 31) (oi := { dst := some 148, op := Op.slice 22 (Operand.tmp 145) none (some (Operand.tmp 147)) none, type := 22, pos := _, after := #[{ on := 28, ground := Ground.data }, { on := 30, ground := Ground.data }, { on := 26, ground := Ground.guard }], guard := some (26, true) }) (v := _) rfl (by kernel_rfl) (by kernel_rfl) (by kernel_rfl) (fun _ _ _ h => h) (Or.inl ⟨by rfl, ?hy33⟩) hHeld ?rest33
            case' hy33 =>
              intro w hSw
              (try dsimp only at hSw)
              first | (go_simp; done) | (go_simp; with_reducible rfl)
            simp only [Act.put, List.setIfInBounds_toArray, List.set_cons_zero, List.set_cons_succ]
            refine' wpAnyH_take (i := 33) (oi := { dst := some 150, op := Op.move (Operand.tmp 1), type := 23, pos := _, after := #[{ on := 26, ground := Ground.guard }], guard := some (26, true) }) (v := _) rfl (by kernel_rfl) (by kernel_rfl) (by kernel_rfl) (fun _ _ _ h => h) (Or.inl ⟨by rfl, ?hy34⟩) hHeld ?rest34
            case' hy34 =>
              intro w hSw
              (try dsimp only at hSw)
              first | (go_simp; done) | (go_simp; with_reducible rfl)
            simp only [Act.put, List.setIfInBounds_toArray, List.set_cons_zero, List.set_cons_succ]
            refine' wpAnyH_take (i := 36) (oi := { dst := some 153, op := Op.fieldAddr 25 (Operand.tmp 9) 0, type := 0, pos := _, after := #[{ on := 26, ground := Ground.guard }], guard := some (26, true) }) (v := _) rfl (by kernel_rfl) (by kernel_rfl) (by kernel_rfl) (fun _ _ _ h => h) (Or.inl ⟨by rfl, ?hy35⟩) hHeld ?rest35
            case' hy35 =>
              intro w hSw
              (try dsimp only at hSw)
              first | (go_simp; done) | (go_simp; with_reducible rfl)
            simp only [Act.put, List.setIfInBounds_toArray, List.set_cons_zero, List.set_cons_succ]
            refine' wpAnyH_take (i := 37) (oi := { dst := some 154, op := Op.load 3 (Operand.tmp 153), type := 3, pos := _, after := #[{ on := 36, ground := Ground.data }, { on := 26, ground := Ground.guard }], guard := some (26, true) }) (v := _) rfl (by kernel_rfl) (by kernel_rfl) (by kernel_rfl) (fun _ _ _ h => h) (Or.inl ⟨by rfl, ?hy36⟩) hHeld ?rest36
            case' hy36 =>
              intro w hSw
              (try dsimp only at hSw)
              first | (go_simp; done) | (go_simp; with_reducible rfl)
            simp only [Act.put, List.setIfInBounds_toArray, List.set_cons_zero, List.set_cons_succ]
            refine wpAnyH_ready (rs := [32]) (by kernel_rfl) (by simp) ?_
            refine AllReadyH.cons (o := { dst := some 149, op := Op.call { callee := Callee.value (Operand.func 9), args := #[Operand.tmp 148], argTypes := #[22] }, type := 22, pos := _, after := #[{ on := 31, ground := Ground.data }, { on := 26, ground := Ground.chain }, { on := 26, ground := Ground.guard }], guard := some (26, true) }) rfl (fun K hK => ?_) AllReadyH.nil
            go_simp
            refine Calls.mono (twin_e (some ad) cap N' (l.take N') _ ?bx37 HlN.out HnN.out) ?_
            case bx37 => exact (HR.out.1.later HB.out).row.take N' cap (fun e => by cases e)
            rintro e X7 ⟨g7, rfl, hc7, hb⟩
            have HCX7 : Hid _ := hc7
            replace HB : Hid (Below w.heap.size w X7) := HB.out.trans (hb.mono HB.out.size)
            replace HP9 : Hid (X7.heap[p2]? = some _) := (hb.block _ (block_lt HP9.out)).trans HP9.out
            clear hb hc7
            go_wp2_with fail
            refine hK.out _ _ ?hS38 (fun hHeld => ?rest38)
            case hS38 => exact ⟨blk_at HP9.out 0, blk_at HP9.out 1⟩
            clear hK K
            refine wpAnyH_ready (rs := [34]) (by kernel_rfl) (by simp) ?_
            refine AllReadyH.cons (o := { dst := some 151, op := Op.call { callee := Callee.value (Operand.func 8), args := #[Operand.tmp 144, Operand.tmp 149, Operand.tmp 150], argTypes := #[3, 22, 23] }, type := 25, pos := _, after := #[{ on := 27, ground := Ground.data }, { on := 32, ground := Ground.data }, { on := 33, ground := Ground.data }, { on := 32, ground := Ground.chain }, { on := 26, ground := Ground.guard }], guard := some (26, true) }) rfl (fun K hK => ?_) AllReadyH.nil
            go_simp
            refine Calls.mono (told_n k N' hlt (some ⟨g7, 0, none⟩) (N' + 4) (l.take N') HlN.out most X7 HCX7.out HnN.out hm4) ?_
            rintro e X8 ⟨N8, E8, m8, ao8, cp8, rfl, hto8, hrow8⟩
            rw [HT2.out] at hto8
            simp only [Prod.mk.injEq] at hto8
            obtain ⟨rfl, rfl, _⟩ := hto8
            have hb := hrow8.bel
            replace HB : Hid (Below w.heap.size w X8) := HB.out.trans (hb.mono HB.out.size)
            replace HP9 : Hid (X8.heap[p2]? = some _) := (hb.block _ (block_lt HP9.out)).trans HP9.out
            clear hb hrow8 HCX7
            go_wp2_with fail
            refine hK.out _ _ ?hS39 (fun hHeld => ?rest39)
            case hS39 => exact ⟨blk_at HP9.out 0, blk_at HP9.out 1⟩
            clear hK K
            refine' wpAnyH_take (i := 35) (oi := { dst := some 152, op := Op.field 25 (Operand.tmp 151) 0, type := 3, pos := _, after := #[{ on := 34, ground := Ground.data }, { on := 26, ground := Ground.guard }], guard := some (26, true) }) (v := _) rfl (by kernel_rfl) (by kernel_rfl) (by kernel_rfl) (fun _ _ _ h => h) (Or.inl ⟨by rfl, ?hy40⟩) hHeld ?rest40
            case' hy40 =>
              intro w hSw
              (try dsimp only at hSw)
              first | (go_simp; done) | (go_simp; with_reducible rfl)
            simp only [Act.put, List.setIfInBounds_toArray, List.set_cons_zero, List.set_cons_succ]
            refine' wpAnyH_take (i := 38) (oi := { dst := some 155, op := Op.binOp BinOp.leq 3 (Operand.tmp 152) (Operand.tmp 154) 3, type := 4, pos := _, after := #[{ on := 35, ground := Ground.data }, { on := 37, ground := Ground.data }, { on := 26, ground := Ground.guard }], guard := some (26, true) }) (v := _) rfl (by kernel_rfl) (by kernel_rfl) (by kernel_rfl) (fun _ _ _ h => h) (Or.inl ⟨by rfl, ?hy41⟩) hHeld ?rest41
            case' hy41 =>
              intro w hSw
              (try dsimp only at hSw)
              first | (go_simp; done) | (go_simp; with_reducible rfl)
            simp only [Act.put, List.setIfInBounds_toArray, List.set_cons_zero, List.set_cons_succ]
            refine' wpAnyH_take (i := 39) (oi := { dst := some 156, op := Op.pick (Operand.tmp 143) (Operand.tmp 155) (Operand.const (Value.bool false)), type := 4, pos := _, after := #[{ on := 26, ground := Ground.data }, { on := 38, ground := Ground.data }, { on := 8, ground := Ground.guard }], guard := some (8, false) }) (v := _) rfl (by kernel_rfl) (by kernel_rfl) (by kernel_rfl) (fun _ _ _ h => h) (Or.inl ⟨by rfl, ?hy42⟩) hHeld ?rest42
            case' hy42 =>
              intro w hSw
              (try dsimp only at hSw)
              first | (go_simp; done) | (go_simp; with_reducible rfl)
            simp only [Act.put, List.setIfInBounds_toArray, List.set_cons_zero, List.set_cons_succ]
            refine' wpAnyH_take (i := 40) (oi := { dst := some 157, op := Op.pick (Operand.tmp 125) (Operand.const (Value.bool true)) (Operand.tmp 156), type := 4, pos := _, after := #[{ on := 8, ground := Ground.data }, { on := 39, ground := Ground.data }, { on := 3, ground := Ground.guard }], guard := some (3, true) }) (v := _) rfl (by kernel_rfl) (by kernel_rfl) (by kernel_rfl) (fun _ _ _ h => h) (Or.inl ⟨by rfl, ?hy43⟩) hHeld ?rest43
            case' hy43 =>
              intro w hSw
              (try dsimp only at hSw)
              first | (go_simp; done) | (go_simp; with_reducible rfl)
            simp only [Act.put, List.setIfInBounds_toArray, List.set_cons_zero, List.set_cons_succ]
            refine' wpAnyH_take (i := 41) (oi := { dst := some 158, op := Op.pick (Operand.tmp 120) (Operand.tmp 157) (Operand.const (Value.bool false)), type := 4, pos := _, after := #[{ on := 3, ground := Ground.data }, { on := 40, ground := Ground.data }], guard := none }) (v := _) rfl (by kernel_rfl) (by kernel_rfl) (by kernel_rfl) (fun _ _ _ h => h) (Or.inl ⟨by rfl, ?hy44⟩) hHeld ?rest44
            case' hy44 =>
              intro w hSw
              (try dsimp only at hSw)
              first | (go_simp; done) | (go_simp; with_reducible rfl)
            simp only [Act.put, List.setIfInBounds_toArray, List.set_cons_zero, List.set_cons_succ]
            refine wpAnyH_done (by kernel_rfl) ?_ _
            go_wp2
            go_roundw
            case rel => exact ⟨k + 1, by go_num, by omega, HB.out.trans ⟨rfl, rfl, rfl, Nat.le_refl _, fun _ _ => rfl⟩⟩
            case measure => simp [intOf]; omega
          · skip
            have r3 : (N' : Int) ≤ (l.length : Int) := by omega
            have r4 : decide (N' ≤ l.length) = true := by simp; omega
            have r5 : (N' : Int) ≤ (cap : Int) := by omega
            have r6 : (0 : Int) ≤ (N' : Int) := by omega
            have HlN : Hid ((l.take N').length = N') := by show _ = _; rw [List.length_take]; omega
            have HnN : Hid (N' ≤ 1048576) := by have := HR.out.2.1; show N' ≤ _; omega
            have t1 : ¬ (E2 : Int) = 10 := by omega
            have t2 : ((E2 : Int) == 10) = false := by simp; omega
            have hf0 : ∀ (w : World) (a : Option Addr) (c d : Nat), (Instr.field 25 (.agg #[.int .i64 (N2 : Int), .int .i64 (E2 : Int), .slice a c d]) 0).run Tryd.prog w = .ok (.int .i64 (N2 : Int)) w := fun _ _ _ _ => by kernel_rfl
            have hf1 : ∀ (w : World) (a : Option Addr) (c d : Nat), (Instr.field 25 (.agg #[.int .i64 (N2 : Int), .int .i64 (E2 : Int), .slice a c d]) 1).run Tryd.prog w = .ok (.int .i64 (E2 : Int)) w := fun _ _ _ _ => by kernel_rfl
            have HBd : Hid (Below w.heap.size w V2.drew) := HB.out.trans ⟨rfl, rfl, rfl, Nat.le_refl _, fun _ _ => rfl⟩
            go_wp2
            refine wp_region_held_drew (S := fun w' => w'.cell? ⟨p2, 0, none⟩ = some (.int .i64 (N' : Int)) ∧ w'.cell? ⟨p2, 1, none⟩ = some (.int .i64 10)) (by kernel_rfl) ⟨y0, y1⟩ ?_
            intro hHeld
            refine' wpAnyH_take (i := 0) (oi := { dst := some 117, op := Op.fieldAddr 25 (Operand.tmp 9) 1, type := 0, pos := _, after := #[], guard := none }) (v := _) rfl (by kernel_rfl) (by kernel_rfl) (by kernel_rfl) (fun _ _ _ h => h) (Or.inl ⟨by rfl, ?hy45⟩) hHeld ?rest45
            case' hy45 =>
              intro w hSw
              (try dsimp only at hSw)
              first | (go_simp; done) | (go_simp; with_reducible rfl)
            simp only [Act.put, List.setIfInBounds_toArray, List.set_cons_zero, List.set_cons_succ]
            refine' wpAnyH_take (i := 1) (oi := { dst := some 118, op := Op.load 3 (Operand.tmp 117), type := 3, pos := _, after := #[{ on := 0, ground := Ground.data }], guard := none }) (v := _) rfl (by kernel_rfl) (by kernel_rfl) (by kernel_rfl) (fun _ _ _ h => h) (Or.inl ⟨by rfl, ?hy46⟩) hHeld ?rest46
            case' hy46 =>
              intro w hSw
              (try dsimp only at hSw)
              first | (go_simp; done) | (go_simp; with_reducible rfl)
            simp only [Act.put, List.setIfInBounds_toArray, List.set_cons_zero, List.set_cons_succ]
            refine' wpAnyH_take (i := 2) (oi := { dst := some 119, op := Op.binOp BinOp.eql 3 (Operand.tmp 118) (Operand.const (Value.int IntKind.i64 10)) 3, type := 4, pos := _, after := #[{ on := 1, ground := Ground.data }], guard := none }) (v := _) rfl (by kernel_rfl) (by kernel_rfl) (by kernel_rfl) (fun _ _ _ h => h) (Or.inl ⟨by rfl, ?hy47⟩) hHeld ?rest47
            case' hy47 =>
              intro w hSw
              (try dsimp only at hSw)
              first | (go_simp; done) | (go_simp; with_reducible rfl)
            simp only [Act.put, List.setIfInBounds_toArray, List.set_cons_zero, List.set_cons_succ]
            refine' wpAnyH_take (i := 3) (oi := { dst := some 120, op := Op.move (Operand.tmp 119), type := 4, pos := _, after := #[{ on := 2, ground := Ground.data }], guard := none }) (v := _) rfl (by kernel_rfl) (by kernel_rfl) (by kernel_rfl) (fun _ _ _ h => h) (Or.inl ⟨by rfl, ?hy48⟩) hHeld ?rest48
            case' hy48 =>
              intro w hSw
              (try dsimp only at hSw)
              first | (go_simp; done) | (go_simp; with_reducible rfl)
            simp only [Act.put, List.setIfInBounds_toArray, List.set_cons_zero, List.set_cons_succ]
            refine' wpAnyH_take (i := 4) (oi := { dst := some 121, op := Op.fieldAddr 25 (Operand.tmp 9) 0, type := 0, pos := _, after := #[{ on := 3, ground := Ground.guard }], guard := some (3, true) }) (v := _) rfl (by kernel_rfl) (by kernel_rfl) (by kernel_rfl) (fun _ _ _ h => h) (Or.inl ⟨by rfl, ?hy49⟩) hHeld ?rest49
            case' hy49 =>
              intro w hSw
              (try dsimp only at hSw)
              first | (go_simp; done) | (go_simp; with_reducible rfl)
            simp only [Act.put, List.setIfInBounds_toArray, List.set_cons_zero, List.set_cons_succ]
            refine' wpAnyH_take (i := 5) (oi := { dst := some 122, op := Op.load 3 (Operand.tmp 121), type := 3, pos := _, after := #[{ on := 4, ground := Ground.data }, { on := 3, ground := Ground.guard }], guard := some (3, true) }) (v := _) rfl (by kernel_rfl) (by kernel_rfl) (by kernel_rfl) (fun _ _ _ h => h) (Or.inl ⟨by rfl, ?hy50⟩) hHeld ?rest50
            case' hy50 =>
              intro w hSw
              (try dsimp only at hSw)
              first | (go_simp; done) | (go_simp; with_reducible rfl)
            simp only [Act.put, List.setIfInBounds_toArray, List.set_cons_zero, List.set_cons_succ]
            refine' wpAnyH_take (i := 6) (oi := { dst := some 123, op := Op.move (Operand.tmp 2), type := 3, pos := _, after := #[{ on := 3, ground := Ground.guard }], guard := some (3, true) }) (v := _) rfl (by kernel_rfl) (by kernel_rfl) (by kernel_rfl) (fun _ _ _ h => h) (Or.inl ⟨by rfl, ?hy51⟩) hHeld ?rest51
            case' hy51 =>
              intro w hSw
              (try dsimp only at hSw)
              first | (go_simp; done) | (go_simp; with_reducible rfl)
            simp only [Act.put, List.setIfInBounds_toArray, List.set_cons_zero, List.set_cons_succ]
            refine' wpAnyH_take (i := 7) (oi := { dst := some 124, op := Op.binOp BinOp.leq 3 (Operand.tmp 122) (Operand.tmp 123) 3, type := 4, pos := _, after := #[{ on := 5, ground := Ground.data }, { on := 6, ground := Ground.data }, { on := 3, ground := Ground.guard }], guard := some (3, true) }) (v := _) rfl (by kernel_rfl) (by kernel_rfl) (by kernel_rfl) (fun _ _ _ h => h) (Or.inl ⟨by rfl, ?hy52⟩) hHeld ?rest52
            case' hy52 =>
              intro w hSw
              (try dsimp only at hSw)
              first | (go_simp; done) | (go_simp; with_reducible rfl)
            simp only [Act.put, List.setIfInBounds_toArray, List.set_cons_zero, List.set_cons_succ]
            refine' wpAnyH_take (i := 8) (oi := { dst := some 125, op := Op.move (Operand.tmp 124), type := 4, pos := _, after := #[{ on := 7, ground := Ground.data }, { on := 3, ground := Ground.chain }, { on := 3, ground := Ground.guard }], guard := some (3, true) }) (v := _) rfl (by kernel_rfl) (by kernel_rfl) (by kernel_rfl) (fun _ _ _ h => h) (Or.inl ⟨by rfl, ?hy53⟩) hHeld ?rest53
            case' hy53 =>
              intro w hSw
              (try dsimp only at hSw)
              first | (go_simp; done) | (go_simp; with_reducible rfl)
            simp only [Act.put, List.setIfInBounds_toArray, List.set_cons_zero, List.set_cons_succ]
            refine' wpAnyH_take (i := 9) (oi := { dst := some 126, op := Op.fieldAddr 25 (Operand.tmp 9) 0, type := 0, pos := _, after := #[{ on := 8, ground := Ground.guard }], guard := some (8, false) }) (v := _) rfl (by kernel_rfl) (by kernel_rfl) (by kernel_rfl) (fun _ _ _ h => h) (Or.inl ⟨by rfl, ?hy54⟩) hHeld ?rest54
            case' hy54 =>
              intro w hSw
              (try dsimp only at hSw)
              first | (go_simp; done) | (go_simp; with_reducible rfl)
            simp only [Act.put, List.setIfInBounds_toArray, List.set_cons_zero, List.set_cons_succ]
            refine' wpAnyH_take (i := 10) (oi := { dst := some 127, op := Op.load 3 (Operand.tmp 126), type := 3, pos := _, after := #[{ on := 9, ground := Ground.data }, { on := 8, ground := Ground.guard }], guard := some (8, false) }) (v := _) rfl (by kernel_rfl) (by kernel_rfl) (by kernel_rfl) (fun _ _ _ h => h) (Or.inl ⟨by rfl, ?hy55⟩) hHeld ?rest55
            case' hy55 =>
              intro w hSw
              (try dsimp only at hSw)
              first | (go_simp; done) | (go_simp; with_reducible rfl)
            simp only [Act.put, List.setIfInBounds_toArray, List.set_cons_zero, List.set_cons_succ]
            refine' wpAnyH_take (i := 11) (oi := { dst := some 128, op := Op.move (Operand.tmp 0), type := 22, pos := _, after := #[{ on := 8, ground := Ground.guard }], guard := some (8, false) }) (v := _) rfl (by kernel_rfl) (by kernel_rfl) (by kernel_rfl) (fun _ _ _ h => h) (Or.inl ⟨by rfl, ?hy56⟩) hHeld ?rest56
            case' hy56 =>
              intro w hSw
              (try dsimp only at hSw)
              first | (go_simp; done) | (go_simp; with_reducible rfl)
            simp only [Act.put, List.setIfInBounds_toArray, List.set_cons_zero, List.set_cons_succ]
            refine' wpAnyH_take (i := 12) (oi := { dst := some 129, op := Op.call { callee := Callee.builtin Builtin.len, args := #[Operand.tmp 128], argTypes := #[22] }, type := 3, pos := _, after := #[{ on := 11, ground := Ground.data }, { on := 8, ground := Ground.guard }], guard := some (8, false) }) (v := _) rfl (by kernel_rfl) (by kernel_rfl) (by kernel_rfl) (fun _ _ _ h => h) (Or.inl ⟨by rfl, ?hy57⟩) hHeld ?rest57
            case' hy57 =>
              intro w hSw
              (try dsimp only at hSw)
              first | (go_simp; done) | (go_simp; with_reducible rfl)
            simp only [Act.put, List.setIfInBounds_toArray, List.set_cons_zero, List.set_cons_succ]
            refine' wpAnyH_take (i := 13) (oi := { dst := some 130, op := Op.binOp BinOp.leq 3 (Operand.tmp 127) (Operand.tmp 129) 3, type := 4, pos := _, after := #[{ on := 10, ground := Ground.data }, { on := 12, ground := Ground.data }, { on := 8, ground := Ground.guard }], guard := some (8, false) }) (v := _) rfl (by kernel_rfl) (by kernel_rfl) (by kernel_rfl) (fun _ _ _ h => h) (Or.inl ⟨by rfl, ?hy58⟩) hHeld ?rest58
            case' hy58 =>
              intro w hSw
              (try dsimp only at hSw)
              first | (go_simp; done) | (go_simp; with_reducible rfl)
            simp only [Act.put, List.setIfInBounds_toArray, List.set_cons_zero, List.set_cons_succ]
            refine' wpAnyH_take (i := 14) (oi := { dst := some 131, op := Op.move (Operand.tmp 130), type := 4, pos := _, after := #[{ on := 13, ground := Ground.data }, { on := 8, ground := Ground.chain }, { on := 8, ground := Ground.guard }], guard := some (8, false) }) (v := _) rfl (by kernel_rfl) (by kernel_rfl) (by kernel_rfl) (fun _ _ _ h => h) (Or.inl ⟨by rfl, ?hy59⟩) hHeld ?rest59
            case' hy59 =>
              intro w hSw
              (try dsimp only at hSw)
              first | (go_simp; done) | (go_simp; with_reducible rfl)
            simp only [Act.put, List.setIfInBounds_toArray, List.set_cons_zero, List.set_cons_succ]
            refine' wpAnyH_take (i := 15) (oi := { dst := some 132, op := Op.move (Operand.tmp 7), type := 3, pos := _, after := #[{ on := 14, ground := Ground.guard }], guard := some (14, true) }) (v := _) rfl (by kernel_rfl) (by kernel_rfl) (by kernel_rfl) (fun _ _ _ h => h) (Or.inl ⟨by rfl, ?hy60⟩) hHeld ?rest60
            case' hy60 =>
              intro w hSw
              (try dsimp only at hSw)
              first | (go_simp; done) | (go_simp; with_reducible rfl)
            simp only [Act.put, List.setIfInBounds_toArray, List.set_cons_zero, List.set_cons_succ]
            refine' wpAnyH_take (i := 16) (oi := { dst := some 133, op := Op.move (Operand.tmp 0), type := 22, pos := _, after := #[{ on := 14, ground := Ground.guard }], guard := some (14, true) }) (v := _) rfl (by kernel_rfl) (by kernel_rfl) (by kernel_rfl) (fun _ _ _ h => h) (Or.inl ⟨by rfl, ?hy61⟩) hHeld ?rest61
            case' hy61 =>
              intro w hSw
              (try dsimp only at hSw)
              first | (go_simp; done) | (go_simp; with_reducible rfl)
            simp only [Act.put, List.setIfInBounds_toArray, List.set_cons_zero, List.set_cons_succ]
            refine' wpAnyH_take (i := 17) (oi := { dst := some 134, op := Op.fieldAddr 25 (Operand.tmp 9) 0, type := 0, pos := _, after := #[{ on := 14, ground := Ground.guard }], guard := some (14, true) }) (v := _) rfl (by kernel_rfl) (by kernel_rfl) (by kernel_rfl) (fun _ _ _ h => h) (Or.inl ⟨by rfl, ?hy62⟩) hHeld ?rest62
            case' hy62 =>
              intro w hSw
              (try dsimp only at hSw)
              first | (go_simp; done) | (go_simp; with_reducible rfl)
            simp only [Act.put, List.setIfInBounds_toArray, List.set_cons_zero, List.set_cons_succ]
            refine' wpAnyH_take (i := 18) (oi := { dst := some 135, op := Op.load 3 (Operand.tmp 134), type := 3, pos := _, after := #[{ on := 17, ground := Ground.data }, { on := 14, ground := Ground.guard }], guard := some (14, true) }) (v := _) rfl (by kernel_rfl) (by kernel_rfl) (by kernel_rfl) (fun _ _ _ h => h) (Or.inl ⟨by rfl, ?hy63⟩) hHeld ?rest63
            case' hy63 =>
              intro w hSw
              (try dsimp only at hSw)
              first | (go_simp; done) | (go_simp; with_reducible rfl)
            simp only [Act.put, List.setIfInBounds_toArray, List.set_cons_zero, List.set_cons_succ]
            refine' wpAnyH_take (i := 19) (oi := { dst := some 136, op := Op.slice 22 (Operand.tmp 133) none (some (Operand.tmp 135)) none, type := 22, pos := _, after := #[{ on := 16, ground := Ground.data }, { on := 18, ground := Ground.data }, { on := 14, ground := Ground.guard }], guard := some (14, true) }) (v := _) rfl (by kernel_rfl) (by kernel_rfl) (by kernel_rfl) (fun _ _ _ h => h) (Or.inl ⟨by rfl, ?hy64⟩) hHeld ?rest64
            case' hy64 =>
              intro w hSw
              (try dsimp only at hSw)
              first | (go_simp; done) | (go_simp; with_reducible rfl)
            simp only [Act.put, List.setIfInBounds_toArray, List.set_cons_zero, List.set_cons_succ]
            refine' wpAnyH_take (i := 21) (oi := { dst := some 138, op := Op.move (Operand.tmp 1), type := 23, pos := _, after := #[{ on := 14, ground := Ground.guard }], guard := some (14, true) }) (v := _) rfl (by kernel_rfl) (by kernel_rfl) (by kernel_rfl) (fun _ _ _ h => h) (Or.inl ⟨by rfl, ?hy65⟩) hHeld ?rest65
            case' hy65 =>
              intro w hSw
              (try dsimp only at hSw)
              first | (go_simp; done) | (go_simp; with_reducible rfl)
            simp only [Act.put, List.setIfInBounds_toArray, List.set_cons_zero, List.set_cons_succ]
            refine wpAnyH_ready (rs := [20]) (by kernel_rfl) (by simp) ?_
            refine AllReadyH.cons (o := { dst := some 137, op := Op.call { callee := Callee.value (Operand.func 9), args := #[Operand.tmp 136], argTypes := #[22] }, type := 22, pos := _, after := #[{ on := 19, ground := Ground.data }, { on := 14, ground := Ground.chain }, { on := 14, ground := Ground.guard }], guard := some (14, true) }) rfl (fun K hK => ?_) AllReadyH.nil
            go_simp
            refine Calls.mono (twin_e (some ad) cap N' (l.take N') _ ?bx66 HlN.out HnN.out) ?_
            case bx66 => exact (HR.out.1.later HBd.out).row.take N' cap (fun e => by cases e)
            rintro e X5 ⟨g5, rfl, hc5, hb⟩
            have HCX5 : Hid _ := hc5
            replace HB : Hid (Below w.heap.size w X5) := HBd.out.trans (hb.mono HBd.out.size)
            replace HP9 : Hid (X5.heap[p2]? = some _) := (hb.block _ (block_lt HP9.out)).trans HP9.out
            clear hb hc5
            go_wp2_with fail
            refine hK.out _ _ ?hS67 (fun hHeld => ?rest67)
            case hS67 => exact ⟨blk_at HP9.out 0, blk_at HP9.out 1⟩
            clear hK K
            refine wpAnyH_ready (rs := [22]) (by kernel_rfl) (by simp) ?_
            refine AllReadyH.cons (o := { dst := some 139, op := Op.call { callee := Callee.value (Operand.func 8), args := #[Operand.tmp 132, Operand.tmp 137, Operand.tmp 138], argTypes := #[3, 22, 23] }, type := 25, pos := _, after := #[{ on := 15, ground := Ground.data }, { on := 20, ground := Ground.data }, { on := 21, ground := Ground.data }, { on := 20, ground := Ground.chain }, { on := 14, ground := Ground.guard }], guard := some (14, true) }) rfl (fun K hK => ?_) AllReadyH.nil
            go_simp
            refine Calls.mono (told_n k N' hlt (some ⟨g5, 0, none⟩) (N' + 4) (l.take N') HlN.out most X5 HCX5.out HnN.out hm4) ?_
            rintro e X6 ⟨N6, E6, m6, ao6, cp6, rfl, hto6, hrow6⟩
            rw [HT2.out] at hto6
            simp only [Prod.mk.injEq] at hto6
            obtain ⟨rfl, rfl, _⟩ := hto6
            have hb := hrow6.bel
            replace HB : Hid (Below w.heap.size w X6) := HB.out.trans (hb.mono HB.out.size)
            replace HP9 : Hid (X6.heap[p2]? = some _) := (hb.block _ (block_lt HP9.out)).trans HP9.out
            clear hb hrow6 HCX5
            go_wp2_with fail
            refine hK.out _ _ ?hS68 (fun hHeld => ?rest68)
            case hS68 => exact ⟨blk_at HP9.out 0, blk_at HP9.out 1⟩
            clear hK K
            refine' wpAnyH_take (i := 23) (oi := { dst := some 140, op := Op.field 25 (Operand.tmp 139) 1, type := 3, pos := _, after := #[{ on := 22, ground := Ground.data }, { on := 14, ground := Ground.guard }], guard := some (14, true) }) (v := _) rfl (by kernel_rfl) (by kernel_rfl) (by kernel_rfl) (fun _ _ _ h => h) (Or.inl ⟨by rfl, ?hy69⟩) hHeld ?rest69
            case' hy69 =>
              intro w hSw
              (try dsimp only at hSw)
              first | (go_simp; done) | (go_simp; with_reducible rfl)
            simp only [Act.put, List.setIfInBounds_toArray, List.set_cons_zero, List.set_cons_succ]
            refine' wpAnyH_take (i := 24) (oi := { dst := some 141, op := Op.binOp BinOp.eql 3 (Operand.tmp 140) (Operand.const (Value.int IntKind.i64 10)) 3, type := 4, pos := _, after := #[{ on := 23, ground := Ground.data }, { on := 14, ground := Ground.guard }], guard := some (14, true) }) (v := _) rfl (by kernel_rfl) (by kernel_rfl) (by kernel_rfl) (fun _ _ _ h => h) (Or.inl ⟨by rfl, ?hy70⟩) hHeld ?rest70
            case' hy70 =>
              intro w hSw
              (try dsimp only at hSw)
              first | (go_simp; done) | (go_simp; with_reducible rfl)
            simp only [Act.put, List.setIfInBounds_toArray, List.set_cons_zero, List.set_cons_succ]
            refine' wpAnyH_take (i := 25) (oi := { dst := some 142, op := Op.pick (Operand.tmp 131) (Operand.tmp 141) (Operand.const (Value.bool false)), type := 4, pos := _, after := #[{ on := 14, ground := Ground.data }, { on := 24, ground := Ground.data }, { on := 8, ground := Ground.guard }], guard := some (8, false) }) (v := _) rfl (by kernel_rfl) (by kernel_rfl) (by kernel_rfl) (fun _ _ _ h => h) (Or.inl ⟨by rfl, ?hy71⟩) hHeld ?rest71
            case' hy71 =>
              intro w hSw
              (try dsimp only at hSw)
              first | (go_simp; done) | (go_simp; with_reducible rfl)
            simp only [Act.put, List.setIfInBounds_toArray, List.set_cons_zero, List.set_cons_succ]
            refine' wpAnyH_take (i := 26) (oi := { dst := some 143, op := Op.move (Operand.tmp 142), type := 4, pos := _, after := #[{ on := 25, ground := Ground.data }, { on := 22, ground := Ground.chain }, { on := 8, ground := Ground.guard }], guard := some (8, false) }) (v := _) rfl (by kernel_rfl) (by kernel_rfl) (by kernel_rfl) (fun _ _ _ h => h) (Or.inl ⟨by rfl, ?hy72⟩) hHeld ?rest72
            case' hy72 =>
              intro w hSw
              (try dsimp only at hSw)
              first | (go_simp; done) | (go_simp; with_reducible rfl)
            simp only [Act.put, List.setIfInBounds_toArray, List.set_cons_zero, List.set_cons_succ]
            refine' wpAnyH_take (i := 27) (oi := { dst := some 144, op := Op.move (Operand.tmp 7), type := 3, pos := _, after := #[{ on := 26, ground := Ground.guard }], guard := some (26, true) }) (v := undef) rfl (by kernel_rfl) (by kernel_rfl) (by kernel_rfl) (fun _ _ _ h => h) (Or.inr ⟨by rfl, rfl⟩) hHeld ?_
            simp only [Act.put, List.setIfInBounds_toArray, List.set_cons_zero, List.set_cons_succ]
            refine' wpAnyH_take (i := 28) (oi := { dst := some 145, op := Op.move (Operand.tmp 0), type := 22, pos := _, after := #[{ on := 26, ground := Ground.guard }], guard := some (26, true) }) (v := undef) rfl (by kernel_rfl) (by kernel_rfl) (by kernel_rfl) (fun _ _ _ h => h) (Or.inr ⟨by rfl, rfl⟩) hHeld ?_
            simp only [Act.put, List.setIfInBounds_toArray, List.set_cons_zero, List.set_cons_succ]
            refine' wpAnyH_take (i := 29) (oi := { dst := some 146, op := Op.fieldAddr 25 (Operand.tmp 9) 0, type := 0, pos := _, after := #[{ on := 26, ground := Ground.guard }], guard := some (26, true) }) (v := undef) rfl (by kernel_rfl) (by kernel_rfl) (by kernel_rfl) (fun _ _ _ h => h) (Or.inr ⟨by rfl, rfl⟩) hHeld ?_
            simp only [Act.put, List.setIfInBounds_toArray, List.set_cons_zero, List.set_cons_succ]
            refine' wpAnyH_take (i := 30) (oi := { dst := some 147, op := Op.load 3 (Operand.tmp 146), type := 3, pos := _, after := #[{ on := 29, ground := Ground.data }, { on := 26, ground := Ground.guard }], guard := some (26, true) }) (v := undef) rfl (by kernel_rfl) (by kernel_rfl) (by kernel_rfl) (fun _ _ _ h => h) (Or.inr ⟨by rfl, rfl⟩) hHeld ?_
            simp only [Act.put, List.setIfInBounds_toArray, List.set_cons_zero, List.set_cons_succ]
            refine' wpAnyH_take (i := 31) (oi := { dst := some 148, op := Op.slice 22 (Operand.tmp 145) none (some (Operand.tmp 147)) none, type := 22, pos := _, after := #[{ on := 28, ground := Ground.data }, { on := 30, ground := Ground.data }, { on := 26, ground := Ground.guard }], guard := some (26, true) }) (v := undef) rfl (by kernel_rfl) (by kernel_rfl) (by kernel_rfl) (fun _ _ _ h => h) (Or.inr ⟨by rfl, rfl⟩) hHeld ?_
            simp only [Act.put, List.setIfInBounds_toArray, List.set_cons_zero, List.set_cons_succ]
            refine' wpAnyH_take (i := 32) (oi := { dst := some 149, op := Op.call { callee := Callee.value (Operand.func 9), args := #[Operand.tmp 148], argTypes := #[22] }, type := 22, pos := _, after := #[{ on := 31, ground := Ground.data }, { on := 26, ground := Ground.chain }, { on := 26, ground := Ground.guard }], guard := some (26, true) }) (v := undef) rfl (by kernel_rfl) (by kernel_rfl) (by kernel_rfl) (fun _ _ _ h => h) (Or.inr ⟨by rfl, rfl⟩) hHeld ?_
            simp only [Act.put, List.setIfInBounds_toArray, List.set_cons_zero, List.set_cons_succ]
            refine' wpAnyH_take (i := 33) (oi := { dst := some 150, op := Op.move (Operand.tmp 1), type := 23, pos := _, after := #[{ on := 26, ground := Ground.guard }], guard := some (26, true) }) (v := undef) rfl (by kernel_rfl) (by kernel_rfl) (by kernel_rfl) (fun _ _ _ h => h) (Or.inr ⟨by rfl, rfl⟩) hHeld ?_
            simp only [Act.put, List.setIfInBounds_toArray, List.set_cons_zero, List.set_cons_succ]
            refine' wpAnyH_take (i := 34) (oi := { dst := some 151, op := Op.call { callee := Callee.value (Operand.func 8), args := #[Operand.tmp 144, Operand.tmp 149, Operand.tmp 150], argTypes := #[3, 22, 23] }, type := 25, pos := _, after := #[{ on := 27, ground := Ground.data }, { on := 32, ground := Ground.data }, { on := 33, ground := Ground.data }, { on := 32, ground := Ground.chain }, { on := 26, ground := Ground.guard }], guard := some (26, true) }) (v := undef) rfl (by kernel_rfl) (by kernel_rfl) (by kernel_rfl) (fun _ _ _ h => h) (Or.inr ⟨by rfl, rfl⟩) hHeld ?_
            simp only [Act.put, List.setIfInBounds_toArray, List.set_cons_zero, List.set_cons_succ]
            refine' wpAnyH_take (i := 35) (oi := { dst := some 152, op := Op.field 25 (Operand.tmp 151) 0, type := 3, pos := _, after := #[{ on := 34, ground := Ground.data }, { on := 26, ground := Ground.guard }], guard := some (26, true) }) (v := undef) rfl (by kernel_rfl) (by kernel_rfl) (by kernel_rfl) (fun _ _ _ h => h) (Or.inr ⟨by rfl, rfl⟩) hHeld ?_
            simp only [Act.put, List.setIfInBounds_toArray, List.set_cons_zero, List.set_cons_succ]
            refine' wpAnyH_take (i := 36) (oi := { dst := some 153, op := Op.fieldAddr 25 (Operand.tmp 9) 0, type := 0, pos := _, after := #[{ on := 26, ground := Ground.guard }], guard := some (26, true) }) (v := undef) rfl (by kernel_rfl) (by kernel_rfl) (by kernel_rfl) (fun _ _ _ h => h) (Or.inr ⟨by rfl, rfl⟩) hHeld ?_
            simp only [Act.put, List.setIfInBounds_toArray, List.set_cons_zero, List.set_cons_succ]
            refine' wpAnyH_take (i := 37) (oi := { dst := some 154, op := Op.load 3 (Operand.tmp 153), type := 3, pos := _, after := #[{ on := 36, ground := Ground.data }, { on := 26, ground := Ground.guard }], guard := some (26, true) }) (v := undef) rfl (by kernel_rfl) (by kernel_rfl) (by kernel_rfl) (fun _ _ _ h => h) (Or.inr ⟨by rfl, rfl⟩) hHeld ?_
            simp only [Act.put, List.setIfInBounds_toArray, List.set_cons_zero, List.set_cons_succ]
            refine' wpAnyH_take (i := 38) (oi := { dst := some 155, op := Op.binOp BinOp.leq 3 (Operand.tmp 152) (Operand.tmp 154) 3, type := 4, pos := _, after := #[{ on := 35, ground := Ground.data }, { on := 37, ground := Ground.data }, { on := 26, ground := Ground.guard }], guard := some (26, true) }) (v := undef) rfl (by kernel_rfl) (by kernel_rfl) (by kernel_rfl) (fun _ _ _ h => h) (Or.inr ⟨by rfl, rfl⟩) hHeld ?_
            simp only [Act.put, List.setIfInBounds_toArray, List.set_cons_zero, List.set_cons_succ]
            refine' wpAnyH_take (i := 39) (oi := { dst := some 156, op := Op.pick (Operand.tmp 143) (Operand.tmp 155) (Operand.const (Value.bool false)), type := 4, pos := _, after := #[{ on := 26, ground := Ground.data }, { on := 38, ground := Ground.data }, { on := 8, ground := Ground.guard }], guard := some (8, false) }) (v := _) rfl (by kernel_rfl) (by kernel_rfl) (by kernel_rfl) (fun _ _ _ h => h) (Or.inl ⟨by rfl, ?hy73⟩) hHeld ?rest73
            case' hy73 =>
              intro w hSw
              (try dsimp only at hSw)
              first | (go_simp; done) | (go_simp; with_reducible rfl)
            simp only [Act.put, List.setIfInBounds_toArray, List.set_cons_zero, List.set_cons_succ]
            refine' wpAnyH_take (i := 40) (oi := { dst := some 157, op := Op.pick (Operand.tmp 125) (Operand.const (Value.bool true)) (Operand.tmp 156), type := 4, pos := _, after := #[{ on := 8, ground := Ground.data }, { on := 39, ground := Ground.data }, { on := 3, ground := Ground.guard }], guard := some (3, true) }) (v := _) rfl (by kernel_rfl) (by kernel_rfl) (by kernel_rfl) (fun _ _ _ h => h) (Or.inl ⟨by rfl, ?hy74⟩) hHeld ?rest74
            case' hy74 =>
              intro w hSw
              (try dsimp only at hSw)
              first | (go_simp; done) | (go_simp; with_reducible rfl)
            simp only [Act.put, List.setIfInBounds_toArray, List.set_cons_zero, List.set_cons_succ]
            refine' wpAnyH_take (i := 41) (oi := { dst := some 158, op := Op.pick (Operand.tmp 120) (Operand.tmp 157) (Operand.const (Value.bool false)), type := 4, pos := _, after := #[{ on := 3, ground := Ground.data }, { on := 40, ground := Ground.data }], guard := none }) (v := _) rfl (by kernel_rfl) (by kernel_rfl) (by kernel_rfl) (fun _ _ _ h => h) (Or.inl ⟨by rfl, ?hy75⟩) hHeld ?rest75
            case' hy75 =>
              intro w hSw
              (try dsimp only at hSw)
              first | (go_simp; done) | (go_simp; with_reducible rfl)
            simp only [Act.put, List.setIfInBounds_toArray, List.set_cons_zero, List.set_cons_succ]
            refine wpAnyH_done (by kernel_rfl) ?_ _
            go_wp2
            go_roundw
            case rel => exact ⟨k + 1, by go_num, by omega, HB.out.trans ⟨rfl, rfl, rfl, Nat.le_refl _, fun _ _ => rfl⟩⟩
            case measure => simp [intOf]; omega
        · skip
          have r3 : ¬ (N' : Int) ≤ (l.length : Int) := by omega
          have r4 : decide (N' ≤ l.length) = false := by simp; omega
          go_wp2
          go_quiet (fail)
          go_wp2
          go_roundw
          case rel => exact ⟨k + 1, by go_num, by omega, HB.out.trans ⟨rfl, rfl, rfl, Nat.le_refl _, fun _ _ => rfl⟩⟩
          case measure => simp [intOf]; omega
      · by_cases hE0 : 0 = E
        · subst hE0
          by_cases hcN : N ≤ cut
          · have hq := HW.out.pc.ok1 rfl hcN
            simp only [Prod.mk.injEq] at hq
            obtain ⟨hq1, hq2⟩ := hq
            subst hq1 hq2
            obtain rfl := HW.out.eq rfl hcN
            have hml : m'.length ≤ 140737488351232 := by have h1 := HW.out.ln rfl; have h2 := HR.out.2.1; omega
            have HB1 : Hid (BRow V2 ao3 cap3 m') := (HRw.out.brow hml).later HA.out
            have HB2 : Hid (BRow V2 ao4 cap4 m') := (HRx.out.brow hml).later HA4.out
            have s1 : (N' : Int) ≤ (cut : Int) := by omega
            have s2 : decide (N' ≤ cut) = true := by simp; omega
            have s3 : ¬ (cut : Int) < (N' : Int) := by omega
            have s4 : decide (cut < N') = false := by simp; omega
            clear HW HRw HRx HA HA4
            go_wp2_with fail
            refine (same8_q ao4 ao3 cap4 cap3 m'.length m' V2 HB2.out HB1.out rfl).mono ?_
            rintro e X9 ⟨rfl, q9, hw⟩
            obtain ⟨X, hX⟩ : ∃ X, X = V2.drewN q9 := ⟨_, rfl⟩
            rw [hw, ← hX]
            clear hw
            replace HB : Hid (Below w.heap.size w X) := by show Below _ _ _; rw [hX]; exact HB.out.trans ⟨rfl, rfl, rfl, Nat.le_refl _, fun _ _ => rfl⟩
            have hx8 : X.heap[p]? = V2.heap[p]? := by rw [hX]; rfl
            have hx9 : X.heap[p2]? = V2.heap[p2]? := by rw [hX]; rfl
            replace HP8 : Hid (X.heap[p]? = some _) := hx8.trans HP8.out
            replace HP9 : Hid (X.heap[p2]? = some _) := hx9.trans HP9.out
            clear hx8 hx9
            clear hX x0 x1 x2 y0 y1 y2 HB1 HB2
            have x0 := blk_at HP8.out 0
            have x1 := blk_at HP8.out 1
            have y0 := blk_at HP9.out 0
            have y1 := blk_at HP9.out 1
            simp at x0 x1 y0 y1
            go_upto_region 17 with fail
            go_wp2
            go_quiet (fail)
            go_wp2
            go_roundw
            case rel => exact ⟨k + 1, by go_num, by omega, HB.out.trans ⟨rfl, rfl, rfl, Nat.le_refl _, fun _ _ => rfl⟩⟩
            case measure => simp [intOf]; omega
          · obtain ⟨e1, e2⟩ := HW.out.pc.ok2 rfl (by omega)
            simp only at e1 e2
            subst e1
            have s1 : ¬ (N : Int) ≤ (cut : Int) := by omega
            have s2 : decide (N ≤ cut) = false := by simp; omega
            have s3 : (cut : Int) < (N : Int) := by omega
            have s4 : decide (cut < N) = true := by simp; omega
            have s5 : ¬ (N : Int) < (N' : Int) := by omega
            have s6 : decide (N < N') = false := by simp; omega
            have hsg : cut < N' := HW.out.sg' rfl
            have r1 : ¬ (N' : Int) ≤ (cut : Int) := by omega
            have r2 : decide (N' ≤ cut) = false := by simp; omega
            clear HW HRw HRx HA HA4
            go_upto_region 17 with fail
            by_cases hNl : N' ≤ l.length
            · skip
              obtain ⟨N2, E2, m2, hT2⟩ : ∃ N2 E2 m2, toD k most (l.take N') = (N2, E2, m2) := ⟨_, _, _, rfl⟩
              have HT2 : Hid (toD k most (l.take N') = (N2, E2, m2)) := hT2
              have HS2 : Hid (E2 = 10 → (l.take N').length < N2) := fun h => by have h1 := short_gt k most (l.take N') hlt; rw [hT2] at h1; exact h1 h
              clear hT2
              by_cases hE2 : 10 = E2
              · skip
                have r3 : (N' : Int) ≤ (l.length : Int) := by omega
                have r4 : decide (N' ≤ l.length) = true := by simp; omega
                have r5 : (N' : Int) ≤ (cap : Int) := by omega
                have r6 : (0 : Int) ≤ (N' : Int) := by omega
                have HlN : Hid ((l.take N').length = N') := by show _ = _; rw [List.length_take]; omega
                have HnN : Hid (N' ≤ 1048576) := by have := HR.out.2.1; show N' ≤ _; omega
                subst hE2
                have t3 : N' < N2 := by have := HS2.out rfl; rw [HlN.out] at this; exact this
                have t4 : ¬ (N2 : Int) ≤ (N' : Int) := by omega
                have t5 : decide (N2 ≤ N') = false := by simp; omega
                have hf0 : ∀ (w : World) (a : Option Addr) (c d : Nat), (Instr.field 25 (.agg #[.int .i64 (N2 : Int), .int .i64 10, .slice a c d]) 0).run Tryd.prog w = .ok (.int .i64 (N2 : Int)) w := fun _ _ _ _ => by kernel_rfl
                have hf1 : ∀ (w : World) (a : Option Addr) (c d : Nat), (Instr.field 25 (.agg #[.int .i64 (N2 : Int), .int .i64 10, .slice a c d]) 1).run Tryd.prog w = .ok (.int .i64 10) w := fun _ _ _ _ => by kernel_rfl
                have HBd : Hid (Below w.heap.size w V2.drew) := HB.out.trans ⟨rfl, rfl, rfl, Nat.le_refl _, fun _ _ => rfl⟩
                go_wp2
                refine wp_region_held_drew (S := fun w' => w'.cell? ⟨p2, 0, none⟩ = some (.int .i64 (N' : Int)) ∧ w'.cell? ⟨p2, 1, none⟩ = some (.int .i64 10)) (by kernel_rfl) ⟨y0, y1⟩ ?_
                intro hHeld
                refine' wpAnyH_take (i := 0) (oi := { dst := some 117, op := Op.fieldAddr 25 (Operand.tmp 9) 1, type := 0, pos := _, after := #[], guard := none }) (v := _) rfl (by kernel_rfl) (by kernel_rfl) (by kernel_rfl) (fun _ _ _ h => h) (Or.inl ⟨by rfl, ?hy76⟩) hHeld ?rest76
                case' hy76 =>
                  intro w hSw
                  (try dsimp only at hSw)
                  first | (go_simp; done) | (go_simp; with_reducible rfl)
                simp only [Act.put, List.setIfInBounds_toArray, List.set_cons_zero, List.set_cons_succ]
                refine' wpAnyH_take (i := 1) (oi := { dst := some 118, op := Op.load 3 (Operand.tmp 117), type := 3, pos := _, after := #[{ on := 0, ground := Ground.data }], guard := none }) (v := _) rfl (by kernel_rfl) (by kernel_rfl) (by kernel_rfl) (fun _ _ _ h => h) (Or.inl ⟨by rfl, ?hy77⟩) hHeld ?rest77
                case' hy77 =>
                  intro w hSw
                  (try dsimp only at hSw)
                  first | (go_simp; done) | (go_simp; with_reducible rfl)
                simp only [Act.put, List.setIfInBounds_toArray, List.set_cons_zero, List.set_cons_succ]
                refine' wpAnyH_take (i := 2) (oi := { dst := some 119, op := Op.binOp BinOp.eql 3 (Operand.tmp 118) (Operand.const (Value.int IntKind.i64 10)) 3, type := 4, pos := _, after := #[{ on := 1, ground := Ground.data }], guard := none }) (v := _) rfl (by kernel_rfl) (by kernel_rfl) (by kernel_rfl) (fun _ _ _ h => h) (Or.inl ⟨by rfl, ?hy78⟩) hHeld ?rest78
                case' hy78 =>
                  intro w hSw
                  (try dsimp only at hSw)
                  first | (go_simp; done) | (go_simp; with_reducible rfl)
                simp only [Act.put, List.setIfInBounds_toArray, List.set_cons_zero, List.set_cons_succ]
                refine' wpAnyH_take (i := 3) (oi := { dst := some 120, op := Op.move (Operand.tmp 119), type := 4, pos := _, after := #[{ on := 2, ground := Ground.data }], guard := none }) (v := _) rfl (by kernel_rfl) (by kernel_rfl) (by kernel_rfl) (fun _ _ _ h => h) (Or.inl ⟨by rfl, ?hy79⟩) hHeld ?rest79
                case' hy79 =>
                  intro w hSw
                  (try dsimp only at hSw)
                  first | (go_simp; done) | (go_simp; with_reducible rfl)
                simp only [Act.put, List.setIfInBounds_toArray, List.set_cons_zero, List.set_cons_succ]
                refine' wpAnyH_take (i := 4) (oi := { dst := some 121, op := Op.fieldAddr 25 (Operand.tmp 9) 0, type := 0, pos := _, after := #[{ on := 3, ground := Ground.guard }], guard := some (3, true) }) (v := _) rfl (by kernel_rfl) (by kernel_rfl) (by kernel_rfl) (fun _ _ _ h => h) (Or.inl ⟨by rfl, ?hy80⟩) hHeld ?rest80
                case' hy80 =>
                  intro w hSw
                  (try dsimp only at hSw)
                  first | (go_simp; done) | (go_simp; with_reducible rfl)
                simp only [Act.put, List.setIfInBounds_toArray, List.set_cons_zero, List.set_cons_succ]
                refine' wpAnyH_take (i := 5) (oi := { dst := some 122, op := Op.load 3 (Operand.tmp 121), type := 3, pos := _, after := #[{ on := 4, ground := Ground.data }, { on := 3, ground := Ground.guard }], guard := some (3, true) }) (v := _) rfl (by kernel_rfl) (by kernel_rfl) (by kernel_rfl) (fun _ _ _ h => h) (Or.inl ⟨by rfl, ?hy81⟩) hHeld ?rest81
                case' hy81 =>
                  intro w hSw
                  (try dsimp only at hSw)
                  first | (go_simp; done) | (go_simp; with_reducible rfl)
                simp only [Act.put, List.setIfInBounds_toArray, List.set_cons_zero, List.set_cons_succ]
                refine' wpAnyH_take (i := 6) (oi := { dst := some 123, op := Op.move (Operand.tmp 2), type := 3, pos := _, after := #[{ on := 3, ground := Ground.guard }], guard := some (3, true) }) (v := _) rfl (by kernel_rfl) (by kernel_rfl) (by kernel_rfl) (fun _ _ _ h => h) (Or.inl ⟨by rfl, ?hy82⟩) hHeld ?rest82
                case' hy82 =>
                  intro w hSw
                  (try dsimp only at hSw)
                  first | (go_simp; done) | (go_simp; with_reducible rfl)
                simp only [Act.put, List.setIfInBounds_toArray, List.set_cons_zero, List.set_cons_succ]
                refine' wpAnyH_take (i := 7) (oi := { dst := some 124, op := Op.binOp BinOp.leq 3 (Operand.tmp 122) (Operand.tmp 123) 3, type := 4, pos := _, after := #[{ on := 5, ground := Ground.data }, { on := 6, ground := Ground.data }, { on := 3, ground := Ground.guard }], guard := some (3, true) }) (v := _) rfl (by kernel_rfl) (by kernel_rfl) (by kernel_rfl) (fun _ _ _ h => h) (Or.inl ⟨by rfl, ?hy83⟩) hHeld ?rest83
                case' hy83 =>
                  intro w hSw
                  (try dsimp only at hSw)
                  first | (go_simp; done) | (go_simp; with_reducible rfl)
                simp only [Act.put, List.setIfInBounds_toArray, List.set_cons_zero, List.set_cons_succ]
                refine' wpAnyH_take (i := 8) (oi := { dst := some 125, op := Op.move (Operand.tmp 124), type := 4, pos := _, after := #[{ on := 7, ground := Ground.data }, { on := 3, ground := Ground.chain }, { on := 3, ground := Ground.guard }], guard := some (3, true) }) (v := _) rfl (by kernel_rfl) (by kernel_rfl) (by kernel_rfl) (fun _ _ _ h => h) (Or.inl ⟨by rfl, ?hy84⟩) hHeld ?rest84
                case' hy84 =>
                  intro w hSw
                  (try dsimp only at hSw)
                  first | (go_simp; done) | (go_simp; with_reducible rfl)
                simp only [Act.put, List.setIfInBounds_toArray, List.set_cons_zero, List.set_cons_succ]
                refine' wpAnyH_take (i := 9) (oi := { dst := some 126, op := Op.fieldAddr 25 (Operand.tmp 9) 0, type := 0, pos := _, after := #[{ on := 8, ground := Ground.guard }], guard := some (8, false) }) (v := _) rfl (by kernel_rfl) (by kernel_rfl) (by kernel_rfl) (fun _ _ _ h => h) (Or.inl ⟨by rfl, ?hy85⟩) hHeld ?rest85
                case' hy85 =>
                  intro w hSw
                  (try dsimp only at hSw)
                  first | (go_simp; done) | (go_simp; with_reducible rfl)
                simp only [Act.put, List.setIfInBounds_toArray, List.set_cons_zero, List.set_cons_succ]
                refine' wpAnyH_take (i := 10) (oi := { dst := some 127, op := Op.load 3 (Operand.tmp 126), type := 3, pos := _, after := #[{ on := 9, ground := Ground.data }, { on := 8, ground := Ground.guard }], guard := some (8, false) }) (v := _) rfl (by kernel_rfl) (by kernel_rfl) (by kernel_rfl) (fun _ _ _ h => h) (Or.inl ⟨by rfl, ?hy86⟩) hHeld ?rest86
                case' hy86 =>
                  intro w hSw
                  (try dsimp only at hSw)
                  first | (go_simp; done) | (go_simp; with_reducible rfl)
                simp only [Act.put, List.setIfInBounds_toArray, List.set_cons_zero, List.set_cons_succ]
                refine' wpAnyH_take (i := 11) (oi := { dst := some 128, op := Op.move (Operand.tmp 0), type := 22, pos := _, after := #[{ on := 8, ground := Ground.guard }], guard := some (8, false) }) (v := _) rfl (by kernel_rfl) (by kernel_rfl) (by kernel_rfl) (fun _ _ _ h => h) (Or.inl ⟨by rfl, ?hy87⟩) hHeld ?rest87
                case' hy87 =>
                  intro w hSw
                  (try dsimp only at hSw)
                  first | (go_simp; done) | (go_simp; with_reducible rfl)
                simp only [Act.put, List.setIfInBounds_toArray, List.set_cons_zero, List.set_cons_succ]
                refine' wpAnyH_take (i := 12) (oi := { dst := some 129, op := Op.call { callee := Callee.builtin Builtin.len, args := #[Operand.tmp 128], argTypes := #[22] }, type := 3, pos := _, after := #[{ on := 11, ground := Ground.data }, { on := 8, ground := Ground.guard }], guard := some (8, false) }) (v := _) rfl (by kernel_rfl) (by kernel_rfl) (by kernel_rfl) (fun _ _ _ h => h) (Or.inl ⟨by rfl, ?hy88⟩) hHeld ?rest88
                case' hy88 =>
                  intro w hSw
                  (try dsimp only at hSw)
                  first | (go_simp; done) | (go_simp; with_reducible rfl)
                simp only [Act.put, List.setIfInBounds_toArray, List.set_cons_zero, List.set_cons_succ]
                refine' wpAnyH_take (i := 13) (oi := { dst := some 130, op := Op.binOp BinOp.leq 3 (Operand.tmp 127) (Operand.tmp 129) 3, type := 4, pos := _, after := #[{ on := 10, ground := Ground.data }, { on := 12, ground := Ground.data }, { on := 8, ground := Ground.guard }], guard := some (8, false) }) (v := _) rfl (by kernel_rfl) (by kernel_rfl) (by kernel_rfl) (fun _ _ _ h => h) (Or.inl ⟨by rfl, ?hy89⟩) hHeld ?rest89
                case' hy89 =>
                  intro w hSw
                  (try dsimp only at hSw)
                  first | (go_simp; done) | (go_simp; with_reducible rfl)
                simp only [Act.put, List.setIfInBounds_toArray, List.set_cons_zero, List.set_cons_succ]
                refine' wpAnyH_take (i := 14) (oi := { dst := some 131, op := Op.move (Operand.tmp 130), type := 4, pos := _, after := #[{ on := 13, ground := Ground.data }, { on := 8, ground := Ground.chain }, { on := 8, ground := Ground.guard }], guard := some (8, false) }) (v := _) rfl (by kernel_rfl) (by kernel_rfl) (by kernel_rfl) (fun _ _ _ h => h) (Or.inl ⟨by rfl, ?hy90⟩) hHeld ?rest90
                case' hy90 =>
                  intro w hSw
                  (try dsimp only at hSw)
                  first | (go_simp; done) | (go_simp; with_reducible rfl)
                simp only [Act.put, List.setIfInBounds_toArray, List.set_cons_zero, List.set_cons_succ]
                refine' wpAnyH_take (i := 15) (oi := { dst := some 132, op := Op.move (Operand.tmp 7), type := 3, pos := _, after := #[{ on := 14, ground := Ground.guard }], guard := some (14, true) }) (v := _) rfl (by kernel_rfl) (by kernel_rfl) (by kernel_rfl) (fun _ _ _ h => h) (Or.inl ⟨by rfl, ?hy91⟩) hHeld ?rest91
                case' hy91 =>
                  intro w hSw
                  (try dsimp only at hSw)
                  first | (go_simp; done) | (go_simp; with_reducible rfl)
                simp only [Act.put, List.setIfInBounds_toArray, List.set_cons_zero, List.set_cons_succ]
                refine' wpAnyH_take (i := 16) (oi := { dst := some 133, op := Op.move (Operand.tmp 0), type := 22, pos := _, after := #[{ on := 14, ground := Ground.guard }], guard := some (14, true) }) (v := _) rfl (by kernel_rfl) (by kernel_rfl) (by kernel_rfl) (fun _ _ _ h => h) (Or.inl ⟨by rfl, ?hy92⟩) hHeld ?rest92
                case' hy92 =>
                  intro w hSw
                  (try dsimp only at hSw)
                  first | (go_simp; done) | (go_simp; with_reducible rfl)
                simp only [Act.put, List.setIfInBounds_toArray, List.set_cons_zero, List.set_cons_succ]
                refine' wpAnyH_take (i := 17) (oi := { dst := some 134, op := Op.fieldAddr 25 (Operand.tmp 9) 0, type := 0, pos := _, after := #[{ on := 14, ground := Ground.guard }], guard := some (14, true) }) (v := _) rfl (by kernel_rfl) (by kernel_rfl) (by kernel_rfl) (fun _ _ _ h => h) (Or.inl ⟨by rfl, ?hy93⟩) hHeld ?rest93
                case' hy93 =>
                  intro w hSw
                  (try dsimp only at hSw)
                  first | (go_simp; done) | (go_simp; with_reducible rfl)
                simp only [Act.put, List.setIfInBounds_toArray, List.set_cons_zero, List.set_cons_succ]
                refine' wpAnyH_take (i := 18) (oi := { dst := some 135, op := Op.load 3 (Operand.tmp 134), type := 3, pos := _, after := #[{ on := 17, ground := Ground.data }, { on := 14, ground := Ground.guard }], guard := some (14, true) }) (v := _) rfl (by kernel_rfl) (by kernel_rfl) (by kernel_rfl) (fun _ _ _ h => h) (Or.inl ⟨by rfl, ?hy94⟩) hHeld ?rest94
                case' hy94 =>
                  intro w hSw
                  (try dsimp only at hSw)
                  first | (go_simp; done) | (go_simp; with_reducible rfl)
                simp only [Act.put, List.setIfInBounds_toArray, List.set_cons_zero, List.set_cons_succ]
                refine' wpAnyH_take (i := 19) (oi := { dst := some 136, op := Op.slice 22 (Operand.tmp 133) none (some (Operand.tmp 135)) none, type := 22, pos := _, after := #[{ on := 16, ground := Ground.data }, { on := 18, ground := Ground.data }, { on := 14, ground := Ground.guard }], guard := some (14, true) }) (v := _) rfl (by kernel_rfl) (by kernel_rfl) (by kernel_rfl) (fun _ _ _ h => h) (Or.inl ⟨by rfl, ?hy95⟩) hHeld ?rest95
                case' hy95 =>
                  intro w hSw
                  (try dsimp only at hSw)
                  first | (go_simp; done) | (go_simp; with_reducible rfl)
                simp only [Act.put, List.setIfInBounds_toArray, List.set_cons_zero, List.set_cons_succ]
                refine' wpAnyH_take (i := 21) (oi := { dst := some 138, op := Op.move (Operand.tmp 1), type := 23, pos := _, after := #[{ on := 14, ground := Ground.guard }], guard := some (14, true) }) (v := _) rfl (by kernel_rfl) (by kernel_rfl) (by kernel_rfl) (fun _ _ _ h => h) (Or.inl ⟨by rfl, ?hy96⟩) hHeld ?rest96
                case' hy96 =>
                  intro w hSw
                  (try dsimp only at hSw)
                  first | (go_simp; done) | (go_simp; with_reducible rfl)
                simp only [Act.put, List.setIfInBounds_toArray, List.set_cons_zero, List.set_cons_succ]
                refine wpAnyH_ready (rs := [20]) (by kernel_rfl) (by simp) ?_
                refine AllReadyH.cons (o := { dst := some 137, op := Op.call { callee := Callee.value (Operand.func 9), args := #[Operand.tmp 136], argTypes := #[22] }, type := 22, pos := _, after := #[{ on := 19, ground := Ground.data }, { on := 14, ground := Ground.chain }, { on := 14, ground := Ground.guard }], guard := some (14, true) }) rfl (fun K hK => ?_) AllReadyH.nil
                go_simp
                refine Calls.mono (twin_e (some ad) cap N' (l.take N') _ ?bx97 HlN.out HnN.out) ?_
                case bx97 => exact (HR.out.1.later HBd.out).row.take N' cap (fun e => by cases e)
                rintro e X5 ⟨g5, rfl, hc5, hb⟩
                have HCX5 : Hid _ := hc5
                replace HB : Hid (Below w.heap.size w X5) := HBd.out.trans (hb.mono HBd.out.size)
                replace HP9 : Hid (X5.heap[p2]? = some _) := (hb.block _ (block_lt HP9.out)).trans HP9.out
                clear hb hc5
                go_wp2_with fail
                refine hK.out _ _ ?hS98 (fun hHeld => ?rest98)
                case hS98 => exact ⟨blk_at HP9.out 0, blk_at HP9.out 1⟩
                clear hK K
                refine wpAnyH_ready (rs := [22]) (by kernel_rfl) (by simp) ?_
                refine AllReadyH.cons (o := { dst := some 139, op := Op.call { callee := Callee.value (Operand.func 8), args := #[Operand.tmp 132, Operand.tmp 137, Operand.tmp 138], argTypes := #[3, 22, 23] }, type := 25, pos := _, after := #[{ on := 15, ground := Ground.data }, { on := 20, ground := Ground.data }, { on := 21, ground := Ground.data }, { on := 20, ground := Ground.chain }, { on := 14, ground := Ground.guard }], guard := some (14, true) }) rfl (fun K hK => ?_) AllReadyH.nil
                go_simp
                refine Calls.mono (told_n k N' hlt (some ⟨g5, 0, none⟩) (N' + 4) (l.take N') HlN.out most X5 HCX5.out HnN.out hm4) ?_
                rintro e X6 ⟨N6, E6, m6, ao6, cp6, rfl, hto6, hrow6⟩
                rw [HT2.out] at hto6
                simp only [Prod.mk.injEq] at hto6
                obtain ⟨rfl, rfl, _⟩ := hto6
                have hb := hrow6.bel
                replace HB : Hid (Below w.heap.size w X6) := HB.out.trans (hb.mono HB.out.size)
                replace HP9 : Hid (X6.heap[p2]? = some _) := (hb.block _ (block_lt HP9.out)).trans HP9.out
                clear hb hrow6 HCX5
                go_wp2_with fail
                refine hK.out _ _ ?hS99 (fun hHeld => ?rest99)
                case hS99 => exact ⟨blk_at HP9.out 0, blk_at HP9.out 1⟩
                clear hK K
                refine' wpAnyH_take (i := 23) (oi := { dst := some 140, op := Op.field 25 (Operand.tmp 139) 1, type := 3, pos := _, after := #[{ on := 22, ground := Ground.data }, { on := 14, ground := Ground.guard }], guard := some (14, true) }) (v := _) rfl (by kernel_rfl) (by kernel_rfl) (by kernel_rfl) (fun _ _ _ h => h) (Or.inl ⟨by rfl, ?hy100⟩) hHeld ?rest100
                case' hy100 =>
                  intro w hSw
                  (try dsimp only at hSw)
                  first | (go_simp; done) | (go_simp; with_reducible rfl)
                simp only [Act.put, List.setIfInBounds_toArray, List.set_cons_zero, List.set_cons_succ]
                refine' wpAnyH_take (i := 24) (oi := { dst := some 141, op := Op.binOp BinOp.eql 3 (Operand.tmp 140) (Operand.const (Value.int IntKind.i64 10)) 3, type := 4, pos := _, after := #[{ on := 23, ground := Ground.data }, { on := 14, ground := Ground.guard }], guard := some (14, true) }) (v := _) rfl (by kernel_rfl) (by kernel_rfl) (by kernel_rfl) (fun _ _ _ h => h) (Or.inl ⟨by rfl, ?hy101⟩) hHeld ?rest101
                case' hy101 =>
                  intro w hSw
                  (try dsimp only at hSw)
                  first | (go_simp; done) | (go_simp; with_reducible rfl)
                simp only [Act.put, List.setIfInBounds_toArray, List.set_cons_zero, List.set_cons_succ]
                refine' wpAnyH_take (i := 25) (oi := { dst := some 142, op := Op.pick (Operand.tmp 131) (Operand.tmp 141) (Operand.const (Value.bool false)), type := 4, pos := _, after := #[{ on := 14, ground := Ground.data }, { on := 24, ground := Ground.data }, { on := 8, ground := Ground.guard }], guard := some (8, false) }) (v := _) rfl (by kernel_rfl) (by kernel_rfl) (by kernel_rfl) (fun _ _ _ h => h) (Or.inl ⟨by rfl, ?hy102⟩) hHeld ?rest102
                case' hy102 =>
                  intro w hSw
                  (try dsimp only at hSw)
                  first | (go_simp; done) | (go_simp; with_reducible rfl)
                simp only [Act.put, List.setIfInBounds_toArray, List.set_cons_zero, List.set_cons_succ]
                refine' wpAnyH_take (i := 26) (oi := { dst := some 143, op := Op.move (Operand.tmp 142), type := 4, pos := _, after := #[{ on := 25, ground := Ground.data }, { on := 22, ground := Ground.chain }, { on := 8, ground := Ground.guard }], guard := some (8, false) }) (v := _) rfl (by kernel_rfl) (by kernel_rfl) (by kernel_rfl) (fun _ _ _ h => h) (Or.inl ⟨by rfl, ?hy103⟩) hHeld ?rest103
                case' hy103 =>
                  intro w hSw
                  (try dsimp only at hSw)
                  first | (go_simp; done) | (go_simp; with_reducible rfl)
                simp only [Act.put, List.setIfInBounds_toArray, List.set_cons_zero, List.set_cons_succ]
                refine' wpAnyH_take (i := 27) (oi := { dst := some 144, op := Op.move (Operand.tmp 7), type := 3, pos := _, after := #[{ on := 26, ground := Ground.guard }], guard := some (26, true) }) (v := _) rfl (by kernel_rfl) (by kernel_rfl) (by kernel_rfl) (fun _ _ _ h => h) (Or.inl ⟨by rfl, ?hy104⟩) hHeld ?rest104
                case' hy104 =>
                  intro w hSw
                  (try dsimp only at hSw)
                  first | (go_simp; done) | (go_simp; with_reducible rfl)
                simp only [Act.put, List.setIfInBounds_toArray, List.set_cons_zero, List.set_cons_succ]
                refine' wpAnyH_take (i := 28) (oi := { dst := some 145, op := Op.move (Operand.tmp 0), type := 22, pos := _, after := #[{ on := 26, ground := Ground.guard }], guard := some (26, true) }) (v := _) rfl (by kernel_rfl) (by kernel_rfl) (by kernel_rfl) (fun _ _ _ h => h) (Or.inl ⟨by rfl, ?hy105⟩) hHeld ?rest105
                case' hy105 =>
                  intro w hSw
                  (try dsimp only at hSw)
                  first | (go_simp; done) | (go_simp; with_reducible rfl)
                simp only [Act.put, List.setIfInBounds_toArray, List.set_cons_zero, List.set_cons_succ]
                refine' wpAnyH_take (i := 29) (oi := { dst := some 146, op := Op.fieldAddr 25 (Operand.tmp 9) 0, type := 0, pos := _, after := #[{ on := 26, ground := Ground.guard }], guard := some (26, true) }) (v := _) rfl (by kernel_rfl) (by kernel_rfl) (by kernel_rfl) (fun _ _ _ h => h) (Or.inl ⟨by rfl, ?hy106⟩) hHeld ?rest106
                case' hy106 =>
                  intro w hSw
                  (try dsimp only at hSw)
                  first | (go_simp; done) | (go_simp; with_reducible rfl)
                simp only [Act.put, List.setIfInBounds_toArray, List.set_cons_zero, List.set_cons_succ]
                refine' wpAnyH_take (i := 30) (oi := { dst := some 147, op := Op.load 3 (Operand.tmp 146), type := 3, pos := _, after := #[{ on := 29, ground := Ground.data }, { on := 26, ground := Ground.guard }], guard := some (26, true) }) (v := _) rfl (by kernel_rfl) (by kernel_rfl) (by kernel_rfl) (fun _ _ _ h => h) (Or.inl ⟨by rfl, ?hy107⟩) hHeld ?rest107
                case' hy107 =>
                  intro w hSw
                  (try dsimp only at hSw)
                  first | (go_simp; done) | (go_simp; with_reducible rfl)
                simp only [Act.put, List.setIfInBounds_toArray, List.set_cons_zero, List.set_cons_succ]
                refine' wpAnyH_take (i := 31) (oi := { dst := some 148, op := Op.slice 22 (Operand.tmp 145) none (some (Operand.tmp 147)) none, type := 22, pos := _, after := #[{ on := 28, ground := Ground.data }, { on := 30, ground := Ground.data }, { on := 26, ground := Ground.guard }], guard := some (26, true) }) (v := _) rfl (by kernel_rfl) (by kernel_rfl) (by kernel_rfl) (fun _ _ _ h => h) (Or.inl ⟨by rfl, ?hy108⟩) hHeld ?rest108
                case' hy108 =>
                  intro w hSw
                  (try dsimp only at hSw)
                  first | (go_simp; done) | (go_simp; with_reducible rfl)
                simp only [Act.put, List.setIfInBounds_toArray, List.set_cons_zero, List.set_cons_succ]
                refine' wpAnyH_take (i := 33) (oi := { dst := some 150, op := Op.move (Operand.tmp 1), type := 23, pos := _, after := #[{ on := 26, ground := Ground.guard }], guard := some (26, true) }) (v := _) rfl (by kernel_rfl) (by kernel_rfl) (by kernel_rfl) (fun _ _ _ h => h) (Or.inl ⟨by rfl, ?hy109⟩) hHeld ?rest109
                case' hy109 =>
                  intro w hSw
                  (try dsimp only at hSw)
                  first | (go_simp; done) | (go_simp; with_reducible rfl)
                simp only [Act.put, List.setIfInBounds_toArray, List.set_cons_zero, List.set_cons_succ]
                refine' wpAnyH_take (i := 36) (oi := { dst := some 153, op := Op.fieldAddr 25 (Operand.tmp 9) 0, type := 0, pos := _, after := #[{ on := 26, ground := Ground.guard }], guard := some (26, true) }) (v := _) rfl (by kernel_rfl) (by kernel_rfl) (by kernel_rfl) (fun _ _ _ h => h) (Or.inl ⟨by rfl, ?hy110⟩) hHeld ?rest110
                case' hy110 =>
                  intro w hSw
                  (try dsimp only at hSw)
                  first | (go_simp; done) | (go_simp; with_reducible rfl)
                simp only [Act.put, List.setIfInBounds_toArray, List.set_cons_zero, List.set_cons_succ]
                refine' wpAnyH_take (i := 37) (oi := { dst := some 154, op := Op.load 3 (Operand.tmp 153), type := 3, pos := _, after := #[{ on := 36, ground := Ground.data }, { on := 26, ground := Ground.guard }], guard := some (26, true) }) (v := _) rfl (by kernel_rfl) (by kernel_rfl) (by kernel_rfl) (fun _ _ _ h => h) (Or.inl ⟨by rfl, ?hy111⟩) hHeld ?rest111
                case' hy111 =>
                  intro w hSw
                  (try dsimp only at hSw)
                  first | (go_simp; done) | (go_simp; with_reducible rfl)
                simp only [Act.put, List.setIfInBounds_toArray, List.set_cons_zero, List.set_cons_succ]
                refine wpAnyH_ready (rs := [32]) (by kernel_rfl) (by simp) ?_
                refine AllReadyH.cons (o := { dst := some 149, op := Op.call { callee := Callee.value (Operand.func 9), args := #[Operand.tmp 148], argTypes := #[22] }, type := 22, pos := _, after := #[{ on := 31, ground := Ground.data }, { on := 26, ground := Ground.chain }, { on := 26, ground := Ground.guard }], guard := some (26, true) }) rfl (fun K hK => ?_) AllReadyH.nil
                go_simp
                refine Calls.mono (twin_e (some ad) cap N' (l.take N') _ ?bx112 HlN.out HnN.out) ?_
                case bx112 => exact (HR.out.1.later HB.out).row.take N' cap (fun e => by cases e)
                rintro e X7 ⟨g7, rfl, hc7, hb⟩
                have HCX7 : Hid _ := hc7
                replace HB : Hid (Below w.heap.size w X7) := HB.out.trans (hb.mono HB.out.size)
                replace HP9 : Hid (X7.heap[p2]? = some _) := (hb.block _ (block_lt HP9.out)).trans HP9.out
                clear hb hc7
                go_wp2_with fail
                refine hK.out _ _ ?hS113 (fun hHeld => ?rest113)
                case hS113 => exact ⟨blk_at HP9.out 0, blk_at HP9.out 1⟩
                clear hK K
                refine wpAnyH_ready (rs := [34]) (by kernel_rfl) (by simp) ?_
                refine AllReadyH.cons (o := { dst := some 151, op := Op.call { callee := Callee.value (Operand.func 8), args := #[Operand.tmp 144, Operand.tmp 149, Operand.tmp 150], argTypes := #[3, 22, 23] }, type := 25, pos := _, after := #[{ on := 27, ground := Ground.data }, { on := 32, ground := Ground.data }, { on := 33, ground := Ground.data }, { on := 32, ground := Ground.chain }, { on := 26, ground := Ground.guard }], guard := some (26, true) }) rfl (fun K hK => ?_) AllReadyH.nil
                go_simp
                refine Calls.mono (told_n k N' hlt (some ⟨g7, 0, none⟩) (N' + 4) (l.take N') HlN.out most X7 HCX7.out HnN.out hm4) ?_
                rintro e X8 ⟨N8, E8, m8, ao8, cp8, rfl, hto8, hrow8⟩
                rw [HT2.out] at hto8
                simp only [Prod.mk.injEq] at hto8
                obtain ⟨rfl, rfl, _⟩ := hto8
                have hb := hrow8.bel
                replace HB : Hid (Below w.heap.size w X8) := HB.out.trans (hb.mono HB.out.size)
                replace HP9 : Hid (X8.heap[p2]? = some _) := (hb.block _ (block_lt HP9.out)).trans HP9.out
                clear hb hrow8 HCX7
                go_wp2_with fail
                refine hK.out _ _ ?hS114 (fun hHeld => ?rest114)
                case hS114 => exact ⟨blk_at HP9.out 0, blk_at HP9.out 1⟩
                clear hK K
                refine' wpAnyH_take (i := 35) (oi := { dst := some 152, op := Op.field 25 (Operand.tmp 151) 0, type := 3, pos := _, after := #[{ on := 34, ground := Ground.data }, { on := 26, ground := Ground.guard }], guard := some (26, true) }) (v := _) rfl (by kernel_rfl) (by kernel_rfl) (by kernel_rfl) (fun _ _ _ h => h) (Or.inl ⟨by rfl, ?hy115⟩) hHeld ?rest115
                case' hy115 =>
                  intro w hSw
                  (try dsimp only at hSw)
                  first | (go_simp; done) | (go_simp; with_reducible rfl)
                simp only [Act.put, List.setIfInBounds_toArray, List.set_cons_zero, List.set_cons_succ]
                refine' wpAnyH_take (i := 38) (oi := { dst := some 155, op := Op.binOp BinOp.leq 3 (Operand.tmp 152) (Operand.tmp 154) 3, type := 4, pos := _, after := #[{ on := 35, ground := Ground.data }, { on := 37, ground := Ground.data }, { on := 26, ground := Ground.guard }], guard := some (26, true) }) (v := _) rfl (by kernel_rfl) (by kernel_rfl) (by kernel_rfl) (fun _ _ _ h => h) (Or.inl ⟨by rfl, ?hy116⟩) hHeld ?rest116
                case' hy116 =>
                  intro w hSw
                  (try dsimp only at hSw)
                  first | (go_simp; done) | (go_simp; with_reducible rfl)
                simp only [Act.put, List.setIfInBounds_toArray, List.set_cons_zero, List.set_cons_succ]
                refine' wpAnyH_take (i := 39) (oi := { dst := some 156, op := Op.pick (Operand.tmp 143) (Operand.tmp 155) (Operand.const (Value.bool false)), type := 4, pos := _, after := #[{ on := 26, ground := Ground.data }, { on := 38, ground := Ground.data }, { on := 8, ground := Ground.guard }], guard := some (8, false) }) (v := _) rfl (by kernel_rfl) (by kernel_rfl) (by kernel_rfl) (fun _ _ _ h => h) (Or.inl ⟨by rfl, ?hy117⟩) hHeld ?rest117
                case' hy117 =>
                  intro w hSw
                  (try dsimp only at hSw)
                  first | (go_simp; done) | (go_simp; with_reducible rfl)
                simp only [Act.put, List.setIfInBounds_toArray, List.set_cons_zero, List.set_cons_succ]
                refine' wpAnyH_take (i := 40) (oi := { dst := some 157, op := Op.pick (Operand.tmp 125) (Operand.const (Value.bool true)) (Operand.tmp 156), type := 4, pos := _, after := #[{ on := 8, ground := Ground.data }, { on := 39, ground := Ground.data }, { on := 3, ground := Ground.guard }], guard := some (3, true) }) (v := _) rfl (by kernel_rfl) (by kernel_rfl) (by kernel_rfl) (fun _ _ _ h => h) (Or.inl ⟨by rfl, ?hy118⟩) hHeld ?rest118
                case' hy118 =>
                  intro w hSw
                  (try dsimp only at hSw)
                  first | (go_simp; done) | (go_simp; with_reducible rfl)
                simp only [Act.put, List.setIfInBounds_toArray, List.set_cons_zero, List.set_cons_succ]
                refine' wpAnyH_take (i := 41) (oi := { dst := some 158, op := Op.pick (Operand.tmp 120) (Operand.tmp 157) (Operand.const (Value.bool false)), type := 4, pos := _, after := #[{ on := 3, ground := Ground.data }, { on := 40, ground := Ground.data }], guard := none }) (v := _) rfl (by kernel_rfl) (by kernel_rfl) (by kernel_rfl) (fun _ _ _ h => h) (Or.inl ⟨by rfl, ?hy119⟩) hHeld ?rest119
                case' hy119 =>
                  intro w hSw
                  (try dsimp only at hSw)
                  first | (go_simp; done) | (go_simp; with_reducible rfl)
                simp only [Act.put, List.setIfInBounds_toArray, List.set_cons_zero, List.set_cons_succ]
                refine wpAnyH_done (by kernel_rfl) ?_ _
                go_wp2
                go_roundw
                case rel => exact ⟨k + 1, by go_num, by omega, HB.out.trans ⟨rfl, rfl, rfl, Nat.le_refl _, fun _ _ => rfl⟩⟩
                case measure => simp [intOf]; omega
              · skip
                have r3 : (N' : Int) ≤ (l.length : Int) := by omega
                have r4 : decide (N' ≤ l.length) = true := by simp; omega
                have r5 : (N' : Int) ≤ (cap : Int) := by omega
                have r6 : (0 : Int) ≤ (N' : Int) := by omega
                have HlN : Hid ((l.take N').length = N') := by show _ = _; rw [List.length_take]; omega
                have HnN : Hid (N' ≤ 1048576) := by have := HR.out.2.1; show N' ≤ _; omega
                have t1 : ¬ (E2 : Int) = 10 := by omega
                have t2 : ((E2 : Int) == 10) = false := by simp; omega
                have hf0 : ∀ (w : World) (a : Option Addr) (c d : Nat), (Instr.field 25 (.agg #[.int .i64 (N2 : Int), .int .i64 (E2 : Int), .slice a c d]) 0).run Tryd.prog w = .ok (.int .i64 (N2 : Int)) w := fun _ _ _ _ => by kernel_rfl
                have hf1 : ∀ (w : World) (a : Option Addr) (c d : Nat), (Instr.field 25 (.agg #[.int .i64 (N2 : Int), .int .i64 (E2 : Int), .slice a c d]) 1).run Tryd.prog w = .ok (.int .i64 (E2 : Int)) w := fun _ _ _ _ => by kernel_rfl
                have HBd : Hid (Below w.heap.size w V2.drew) := HB.out.trans ⟨rfl, rfl, rfl, Nat.le_refl _, fun _ _ => rfl⟩
                go_wp2
                refine wp_region_held_drew (S := fun w' => w'.cell? ⟨p2, 0, none⟩ = some (.int .i64 (N' : Int)) ∧ w'.cell? ⟨p2, 1, none⟩ = some (.int .i64 10)) (by kernel_rfl) ⟨y0, y1⟩ ?_
                intro hHeld
                refine' wpAnyH_take (i := 0) (oi := { dst := some 117, op := Op.fieldAddr 25 (Operand.tmp 9) 1, type := 0, pos := _, after := #[], guard := none }) (v := _) rfl (by kernel_rfl) (by kernel_rfl) (by kernel_rfl) (fun _ _ _ h => h) (Or.inl ⟨by rfl, ?hy120⟩) hHeld ?rest120
                case' hy120 =>
                  intro w hSw
                  (try dsimp only at hSw)
                  first | (go_simp; done) | (go_simp; with_reducible rfl)
                simp only [Act.put, List.setIfInBounds_toArray, List.set_cons_zero, List.set_cons_succ]
                refine' wpAnyH_take (i := 1) (oi := { dst := some 118, op := Op.load 3 (Operand.tmp 117), type := 3, pos := _, after := #[{ on := 0, ground := Ground.data }], guard := none }) (v := _) rfl (by kernel_rfl) (by kernel_rfl) (by kernel_rfl) (fun _ _ _ h => h) (Or.inl ⟨by rfl, ?hy121⟩) hHeld ?rest121
                case' hy121 =>
                  intro w hSw
                  (try dsimp only at hSw)
                  first | (go_simp; done) | (go_simp; with_reducible rfl)
                simp only [Act.put, List.setIfInBounds_toArray, List.set_cons_zero, List.set_cons_succ]
                refine' wpAnyH_take (i := 2) (oi := { dst := some 119, op := Op.binOp BinOp.eql 3 (Operand.tmp 118) (Operand.const (Value.int IntKind.i64 10)) 3, type := 4, pos := _, after := #[{ on := 1, ground := Ground.data }], guard := none }) (v := _) rfl (by kernel_rfl) (by kernel_rfl) (by kernel_rfl) (fun _ _ _ h => h) (Or.inl ⟨by rfl, ?hy122⟩) hHeld ?rest122
                case' hy122 =>
                  intro w hSw
                  (try dsimp only at hSw)
                  first | (go_simp; done) | (go_simp; with_reducible rfl)
                simp only [Act.put, List.setIfInBounds_toArray, List.set_cons_zero, List.set_cons_succ]
                refine' wpAnyH_take (i := 3) (oi := { dst := some 120, op := Op.move (Operand.tmp 119), type := 4, pos := _, after := #[{ on := 2, ground := Ground.data }], guard := none }) (v := _) rfl (by kernel_rfl) (by kernel_rfl) (by kernel_rfl) (fun _ _ _ h => h) (Or.inl ⟨by rfl, ?hy123⟩) hHeld ?rest123
                case' hy123 =>
                  intro w hSw
                  (try dsimp only at hSw)
                  first | (go_simp; done) | (go_simp; with_reducible rfl)
                simp only [Act.put, List.setIfInBounds_toArray, List.set_cons_zero, List.set_cons_succ]
                refine' wpAnyH_take (i := 4) (oi := { dst := some 121, op := Op.fieldAddr 25 (Operand.tmp 9) 0, type := 0, pos := _, after := #[{ on := 3, ground := Ground.guard }], guard := some (3, true) }) (v := _) rfl (by kernel_rfl) (by kernel_rfl) (by kernel_rfl) (fun _ _ _ h => h) (Or.inl ⟨by rfl, ?hy124⟩) hHeld ?rest124
                case' hy124 =>
                  intro w hSw
                  (try dsimp only at hSw)
                  first | (go_simp; done) | (go_simp; with_reducible rfl)
                simp only [Act.put, List.setIfInBounds_toArray, List.set_cons_zero, List.set_cons_succ]
                refine' wpAnyH_take (i := 5) (oi := { dst := some 122, op := Op.load 3 (Operand.tmp 121), type := 3, pos := _, after := #[{ on := 4, ground := Ground.data }, { on := 3, ground := Ground.guard }], guard := some (3, true) }) (v := _) rfl (by kernel_rfl) (by kernel_rfl) (by kernel_rfl) (fun _ _ _ h => h) (Or.inl ⟨by rfl, ?hy125⟩) hHeld ?rest125
                case' hy125 =>
                  intro w hSw
                  (try dsimp only at hSw)
                  first | (go_simp; done) | (go_simp; with_reducible rfl)
                simp only [Act.put, List.setIfInBounds_toArray, List.set_cons_zero, List.set_cons_succ]
                refine' wpAnyH_take (i := 6) (oi := { dst := some 123, op := Op.move (Operand.tmp 2), type := 3, pos := _, after := #[{ on := 3, ground := Ground.guard }], guard := some (3, true) }) (v := _) rfl (by kernel_rfl) (by kernel_rfl) (by kernel_rfl) (fun _ _ _ h => h) (Or.inl ⟨by rfl, ?hy126⟩) hHeld ?rest126
                case' hy126 =>
                  intro w hSw
                  (try dsimp only at hSw)
                  first | (go_simp; done) | (go_simp; with_reducible rfl)
                simp only [Act.put, List.setIfInBounds_toArray, List.set_cons_zero, List.set_cons_succ]
                refine' wpAnyH_take (i := 7) (oi := { dst := some 124, op := Op.binOp BinOp.leq 3 (Operand.tmp 122) (Operand.tmp 123) 3, type := 4, pos := _, after := #[{ on := 5, ground := Ground.data }, { on := 6, ground := Ground.data }, { on := 3, ground := Ground.guard }], guard := some (3, true) }) (v := _) rfl (by kernel_rfl) (by kernel_rfl) (by kernel_rfl) (fun _ _ _ h => h) (Or.inl ⟨by rfl, ?hy127⟩) hHeld ?rest127
                case' hy127 =>
                  intro w hSw
                  (try dsimp only at hSw)
                  first | (go_simp; done) | (go_simp; with_reducible rfl)
                simp only [Act.put, List.setIfInBounds_toArray, List.set_cons_zero, List.set_cons_succ]
                refine' wpAnyH_take (i := 8) (oi := { dst := some 125, op := Op.move (Operand.tmp 124), type := 4, pos := _, after := #[{ on := 7, ground := Ground.data }, { on := 3, ground := Ground.chain }, { on := 3, ground := Ground.guard }], guard := some (3, true) }) (v := _) rfl (by kernel_rfl) (by kernel_rfl) (by kernel_rfl) (fun _ _ _ h => h) (Or.inl ⟨by rfl, ?hy128⟩) hHeld ?rest128
                case' hy128 =>
                  intro w hSw
                  (try dsimp only at hSw)
                  first | (go_simp; done) | (go_simp; with_reducible rfl)
                simp only [Act.put, List.setIfInBounds_toArray, List.set_cons_zero, List.set_cons_succ]
                refine' wpAnyH_take (i := 9) (oi := { dst := some 126, op := Op.fieldAddr 25 (Operand.tmp 9) 0, type := 0, pos := _, after := #[{ on := 8, ground := Ground.guard }], guard := some (8, false) }) (v := _) rfl (by kernel_rfl) (by kernel_rfl) (by kernel_rfl) (fun _ _ _ h => h) (Or.inl ⟨by rfl, ?hy129⟩) hHeld ?rest129
                case' hy129 =>
                  intro w hSw
                  (try dsimp only at hSw)
                  first | (go_simp; done) | (go_simp; with_reducible rfl)
                simp only [Act.put, List.setIfInBounds_toArray, List.set_cons_zero, List.set_cons_succ]
                refine' wpAnyH_take (i := 10) (oi := { dst := some 127, op := Op.load 3 (Operand.tmp 126), type := 3, pos := _, after := #[{ on := 9, ground := Ground.data }, { on := 8, ground := Ground.guard }], guard := some (8, false) }) (v := _) rfl (by kernel_rfl) (by kernel_rfl) (by kernel_rfl) (fun _ _ _ h => h) (Or.inl ⟨by rfl, ?hy130⟩) hHeld ?rest130
                case' hy130 =>
                  intro w hSw
                  (try dsimp only at hSw)
                  first | (go_simp; done) | (go_simp; with_reducible rfl)
                simp only [Act.put, List.setIfInBounds_toArray, List.set_cons_zero, List.set_cons_succ]
                refine' wpAnyH_take (i := 11) (oi := { dst := some 128, op := Op.move (Operand.tmp 0), type := 22, pos := _, after := #[{ on := 8, ground := Ground.guard }], guard := some (8, false) }) (v := _) rfl (by kernel_rfl) (by kernel_rfl) (by kernel_rfl) (fun _ _ _ h => h) (Or.inl ⟨by rfl, ?hy131⟩) hHeld ?rest131
                case' hy131 =>
                  intro w hSw
                  (try dsimp only at hSw)
                  first | (go_simp; done) | (go_simp; with_reducible rfl)
                simp only [Act.put, List.setIfInBounds_toArray, List.set_cons_zero, List.set_cons_succ]
                refine' wpAnyH_take (i := 12) (oi := { dst := some 129, op := Op.call { callee := Callee.builtin Builtin.len, args := #[Operand.tmp 128], argTypes := #[22] }, type := 3, pos := _, after := #[{ on := 11, ground := Ground.data }, { on := 8, ground := Ground.guard }], guard := some (8, false) }) (v := _) rfl (by kernel_rfl) (by kernel_rfl) (by kernel_rfl) (fun _ _ _ h => h) (Or.inl ⟨by rfl, ?hy132⟩) hHeld ?rest132
                case' hy132 =>
                  intro w hSw
                  (try dsimp only at hSw)
                  first | (go_simp; done) | (go_simp; with_reducible rfl)
                simp only [Act.put, List.setIfInBounds_toArray, List.set_cons_zero, List.set_cons_succ]
                refine' wpAnyH_take (i := 13) (oi := { dst := some 130, op := Op.binOp BinOp.leq 3 (Operand.tmp 127) (Operand.tmp 129) 3, type := 4, pos := _, after := #[{ on := 10, ground := Ground.data }, { on := 12, ground := Ground.data }, { on := 8, ground := Ground.guard }], guard := some (8, false) }) (v := _) rfl (by kernel_rfl) (by kernel_rfl) (by kernel_rfl) (fun _ _ _ h => h) (Or.inl ⟨by rfl, ?hy133⟩) hHeld ?rest133
                case' hy133 =>
                  intro w hSw
                  (try dsimp only at hSw)
                  first | (go_simp; done) | (go_simp; with_reducible rfl)
                simp only [Act.put, List.setIfInBounds_toArray, List.set_cons_zero, List.set_cons_succ]
                refine' wpAnyH_take (i := 14) (oi := { dst := some 131, op := Op.move (Operand.tmp 130), type := 4, pos := _, after := #[{ on := 13, ground := Ground.data }, { on := 8, ground := Ground.chain }, { on := 8, ground := Ground.guard }], guard := some (8, false) }) (v := _) rfl (by kernel_rfl) (by kernel_rfl) (by kernel_rfl) (fun _ _ _ h => h) (Or.inl ⟨by rfl, ?hy134⟩) hHeld ?rest134
                case' hy134 =>
                  intro w hSw
                  (try dsimp only at hSw)
                  first | (go_simp; done) | (go_simp; with_reducible rfl)
                simp only [Act.put, List.setIfInBounds_toArray, List.set_cons_zero, List.set_cons_succ]
                refine' wpAnyH_take (i := 15) (oi := { dst := some 132, op := Op.move (Operand.tmp 7), type := 3, pos := _, after := #[{ on := 14, ground := Ground.guard }], guard := some (14, true) }) (v := _) rfl (by kernel_rfl) (by kernel_rfl) (by kernel_rfl) (fun _ _ _ h => h) (Or.inl ⟨by rfl, ?hy135⟩) hHeld ?rest135
                case' hy135 =>
                  intro w hSw
                  (try dsimp only at hSw)
                  first | (go_simp; done) | (go_simp; with_reducible rfl)
                simp only [Act.put, List.setIfInBounds_toArray, List.set_cons_zero, List.set_cons_succ]
                refine' wpAnyH_take (i := 16) (oi := { dst := some 133, op := Op.move (Operand.tmp 0), type := 22, pos := _, after := #[{ on := 14, ground := Ground.guard }], guard := some (14, true) }) (v := _) rfl (by kernel_rfl) (by kernel_rfl) (by kernel_rfl) (fun _ _ _ h => h) (Or.inl ⟨by rfl, ?hy136⟩) hHeld ?rest136
                case' hy136 =>
                  intro w hSw
                  (try dsimp only at hSw)
                  first | (go_simp; done) | (go_simp; with_reducible rfl)
                simp only [Act.put, List.setIfInBounds_toArray, List.set_cons_zero, List.set_cons_succ]
                refine' wpAnyH_take (i := 17) (oi := { dst := some 134, op := Op.fieldAddr 25 (Operand.tmp 9) 0, type := 0, pos := _, after := #[{ on := 14, ground := Ground.guard }], guard := some (14, true) }) (v := _) rfl (by kernel_rfl) (by kernel_rfl) (by kernel_rfl) (fun _ _ _ h => h) (Or.inl ⟨by rfl, ?hy137⟩) hHeld ?rest137
                case' hy137 =>
                  intro w hSw
                  (try dsimp only at hSw)
                  first | (go_simp; done) | (go_simp; with_reducible rfl)
                simp only [Act.put, List.setIfInBounds_toArray, List.set_cons_zero, List.set_cons_succ]
                refine' wpAnyH_take (i := 18) (oi := { dst := some 135, op := Op.load 3 (Operand.tmp 134), type := 3, pos := _, after := #[{ on := 17, ground := Ground.data }, { on := 14, ground := Ground.guard }], guard := some (14, true) }) (v := _) rfl (by kernel_rfl) (by kernel_rfl) (by kernel_rfl) (fun _ _ _ h => h) (Or.inl ⟨by rfl, ?hy138⟩) hHeld ?rest138
                case' hy138 =>
                  intro w hSw
                  (try dsimp only at hSw)
                  first | (go_simp; done) | (go_simp; with_reducible rfl)
                simp only [Act.put, List.setIfInBounds_toArray, List.set_cons_zero, List.set_cons_succ]
                refine' wpAnyH_take (i := 19) (oi := { dst := some 136, op := Op.slice 22 (Operand.tmp 133) none (some (Operand.tmp 135)) none, type := 22, pos := _, after := #[{ on := 16, ground := Ground.data }, { on := 18, ground := Ground.data }, { on := 14, ground := Ground.guard }], guard := some (14, true) }) (v := _) rfl (by kernel_rfl) (by kernel_rfl) (by kernel_rfl) (fun _ _ _ h => h) (Or.inl ⟨by rfl, ?hy139⟩) hHeld ?rest139
                case' hy139 =>
                  intro w hSw
                  (try dsimp only at hSw)
                  first | (go_simp; done) | (go_simp; with_reducible rfl)
                simp only [Act.put, List.setIfInBounds_toArray, List.set_cons_zero, List.set_cons_succ]
                refine' wpAnyH_take (i := 21) (oi := { dst := some 138, op := Op.move (Operand.tmp 1), type := 23, pos := _, after := #[{ on := 14, ground := Ground.guard }], guard := some (14, true) }) (v := _) rfl (by kernel_rfl) (by kernel_rfl) (by kernel_rfl) (fun _ _ _ h => h) (Or.inl ⟨by rfl, ?hy140⟩) hHeld ?rest140
                case' hy140 =>
                  intro w hSw
                  (try dsimp only at hSw)
                  first | (go_simp; done) | (go_simp; with_reducible rfl)
                simp only [Act.put, List.setIfInBounds_toArray, List.set_cons_zero, List.set_cons_succ]
                refine wpAnyH_ready (rs := [20]) (by kernel_rfl) (by simp) ?_
                refine AllReadyH.cons (o := { dst := some 137, op := Op.call { callee := Callee.value (Operand.func 9), args := #[Operand.tmp 136], argTypes := #[22] }, type := 22, pos := _, after := #[{ on := 19, ground := Ground.data }, { on := 14, ground := Ground.chain }, { on := 14, ground := Ground.guard }], guard := some (14, true) }) rfl (fun K hK => ?_) AllReadyH.nil
                go_simp
                refine Calls.mono (twin_e (some ad) cap N' (l.take N') _ ?bx141 HlN.out HnN.out) ?_
                case bx141 => exact (HR.out.1.later HBd.out).row.take N' cap (fun e => by cases e)
                rintro e X5 ⟨g5, rfl, hc5, hb⟩
                have HCX5 : Hid _ := hc5
                replace HB : Hid (Below w.heap.size w X5) := HBd.out.trans (hb.mono HBd.out.size)
                replace HP9 : Hid (X5.heap[p2]? = some _) := (hb.block _ (block_lt HP9.out)).trans HP9.out
                clear hb hc5
                go_wp2_with fail
                refine hK.out _ _ ?hS142 (fun hHeld => ?rest142)
                case hS142 => exact ⟨blk_at HP9.out 0, blk_at HP9.out 1⟩
                clear hK K
                refine wpAnyH_ready (rs := [22]) (by kernel_rfl) (by simp) ?_
                refine AllReadyH.cons (o := { dst := some 139, op := Op.call { callee := Callee.value (Operand.func 8), args := #[Operand.tmp 132, Operand.tmp 137, Operand.tmp 138], argTypes := #[3, 22, 23] }, type := 25, pos := _, after := #[{ on := 15, ground := Ground.data }, { on := 20, ground := Ground.data }, { on := 21, ground := Ground.data }, { on := 20, ground := Ground.chain }, { on := 14, ground := Ground.guard }], guard := some (14, true) }) rfl (fun K hK => ?_) AllReadyH.nil
                go_simp
                refine Calls.mono (told_n k N' hlt (some ⟨g5, 0, none⟩) (N' + 4) (l.take N') HlN.out most X5 HCX5.out HnN.out hm4) ?_
                rintro e X6 ⟨N6, E6, m6, ao6, cp6, rfl, hto6, hrow6⟩
                rw [HT2.out] at hto6
                simp only [Prod.mk.injEq] at hto6
                obtain ⟨rfl, rfl, _⟩ := hto6
                have hb := hrow6.bel
                replace HB : Hid (Below w.heap.size w X6) := HB.out.trans (hb.mono HB.out.size)
                replace HP9 : Hid (X6.heap[p2]? = some _) := (hb.block _ (block_lt HP9.out)).trans HP9.out
                clear hb hrow6 HCX5
                go_wp2_with fail
                refine hK.out _ _ ?hS143 (fun hHeld => ?rest143)
                case hS143 => exact ⟨blk_at HP9.out 0, blk_at HP9.out 1⟩
                clear hK K
                refine' wpAnyH_take (i := 23) (oi := { dst := some 140, op := Op.field 25 (Operand.tmp 139) 1, type := 3, pos := _, after := #[{ on := 22, ground := Ground.data }, { on := 14, ground := Ground.guard }], guard := some (14, true) }) (v := _) rfl (by kernel_rfl) (by kernel_rfl) (by kernel_rfl) (fun _ _ _ h => h) (Or.inl ⟨by rfl, ?hy144⟩) hHeld ?rest144
                case' hy144 =>
                  intro w hSw
                  (try dsimp only at hSw)
                  first | (go_simp; done) | (go_simp; with_reducible rfl)
                simp only [Act.put, List.setIfInBounds_toArray, List.set_cons_zero, List.set_cons_succ]
                refine' wpAnyH_take (i := 24) (oi := { dst := some 141, op := Op.binOp BinOp.eql 3 (Operand.tmp 140) (Operand.const (Value.int IntKind.i64 10)) 3, type := 4, pos := _, after := #[{ on := 23, ground := Ground.data }, { on := 14, ground := Ground.guard }], guard := some (14, true) }) (v := _) rfl (by kernel_rfl) (by kernel_rfl) (by kernel_rfl) (fun _ _ _ h => h) (Or.inl ⟨by rfl, ?hy145⟩) hHeld ?rest145
                case' hy145 =>
                  intro w hSw
                  (try dsimp only at hSw)
                  first | (go_simp; done) | (go_simp; with_reducible rfl)
                simp only [Act.put, List.setIfInBounds_toArray, List.set_cons_zero, List.set_cons_succ]
                refine' wpAnyH_take (i := 25) (oi := { dst := some 142, op := Op.pick (Operand.tmp 131) (Operand.tmp 141) (Operand.const (Value.bool false)), type := 4, pos := _, after := #[{ on := 14, ground := Ground.data }, { on := 24, ground := Ground.data }, { on := 8, ground := Ground.guard }], guard := some (8, false) }) (v := _) rfl (by kernel_rfl) (by kernel_rfl) (by kernel_rfl) (fun _ _ _ h => h) (Or.inl ⟨by rfl, ?hy146⟩) hHeld ?rest146
                case' hy146 =>
                  intro w hSw
                  (try dsimp only at hSw)
                  first | (go_simp; done) | (go_simp; with_reducible rfl)
                simp only [Act.put, List.setIfInBounds_toArray, List.set_cons_zero, List.set_cons_succ]
                refine' wpAnyH_take (i := 26) (oi := { dst := some 143, op := Op.move (Operand.tmp 142), type := 4, pos := _, after := #[{ on := 25, ground := Ground.data }, { on := 22, ground := Ground.chain }, { on := 8, ground := Ground.guard }], guard := some (8, false) }) (v := _) rfl (by kernel_rfl) (by kernel_rfl) (by kernel_rfl) (fun _ _ _ h => h) (Or.inl ⟨by rfl, ?hy147⟩) hHeld ?rest147
                case' hy147 =>
                  intro w hSw
                  (try dsimp only at hSw)
                  first | (go_simp; done) | (go_simp; with_reducible rfl)
                simp only [Act.put, List.setIfInBounds_toArray, List.set_cons_zero, List.set_cons_succ]
                refine' wpAnyH_take (i := 27) (oi := { dst := some 144, op := Op.move (Operand.tmp 7), type := 3, pos := _, after := #[{ on := 26, ground := Ground.guard }], guard := some (26, true) }) (v := undef) rfl (by kernel_rfl) (by kernel_rfl) (by kernel_rfl) (fun _ _ _ h => h) (Or.inr ⟨by rfl, rfl⟩) hHeld ?_
                simp only [Act.put, List.setIfInBounds_toArray, List.set_cons_zero, List.set_cons_succ]
                refine' wpAnyH_take (i := 28) (oi := { dst := some 145, op := Op.move (Operand.tmp 0), type := 22, pos := _, after := #[{ on := 26, ground := Ground.guard }], guard := some (26, true) }) (v := undef) rfl (by kernel_rfl) (by kernel_rfl) (by kernel_rfl) (fun _ _ _ h => h) (Or.inr ⟨by rfl, rfl⟩) hHeld ?_
                simp only [Act.put, List.setIfInBounds_toArray, List.set_cons_zero, List.set_cons_succ]
                refine' wpAnyH_take (i := 29) (oi := { dst := some 146, op := Op.fieldAddr 25 (Operand.tmp 9) 0, type := 0, pos := _, after := #[{ on := 26, ground := Ground.guard }], guard := some (26, true) }) (v := undef) rfl (by kernel_rfl) (by kernel_rfl) (by kernel_rfl) (fun _ _ _ h => h) (Or.inr ⟨by rfl, rfl⟩) hHeld ?_
                simp only [Act.put, List.setIfInBounds_toArray, List.set_cons_zero, List.set_cons_succ]
                refine' wpAnyH_take (i := 30) (oi := { dst := some 147, op := Op.load 3 (Operand.tmp 146), type := 3, pos := _, after := #[{ on := 29, ground := Ground.data }, { on := 26, ground := Ground.guard }], guard := some (26, true) }) (v := undef) rfl (by kernel_rfl) (by kernel_rfl) (by kernel_rfl) (fun _ _ _ h => h) (Or.inr ⟨by rfl, rfl⟩) hHeld ?_
                simp only [Act.put, List.setIfInBounds_toArray, List.set_cons_zero, List.set_cons_succ]
                refine' wpAnyH_take (i := 31) (oi := { dst := some 148, op := Op.slice 22 (Operand.tmp 145) none (some (Operand.tmp 147)) none, type := 22, pos := _, after := #[{ on := 28, ground := Ground.data }, { on := 30, ground := Ground.data }, { on := 26, ground := Ground.guard }], guard := some (26, true) }) (v := undef) rfl (by kernel_rfl) (by kernel_rfl) (by kernel_rfl) (fun _ _ _ h => h) (Or.inr ⟨by rfl, rfl⟩) hHeld ?_
                simp only [Act.put, List.setIfInBounds_toArray, List.set_cons_zero, List.set_cons_succ]
                refine' wpAnyH_take (i := 32) (oi := { dst := some 149, op := Op.call { callee := Callee.value (Operand.func 9), args := #[Operand.tmp 148], argTypes := #[22] }, type := 22, pos := _, after := #[{ on := 31, ground := Ground.data }, { on := 26, ground := Ground.chain }, { on := 26, ground := Ground.guard }], guard := some (26, true) }) (v := undef) rfl (by kernel_rfl) (by kernel_rfl) (by kernel_rfl) (fun _ _ _ h => h) (Or.inr ⟨by rfl, rfl⟩) hHeld ?_
                simp only [Act.put, List.setIfInBounds_toArray, List.set_cons_zero, List.set_cons_succ]
                refine' wpAnyH_take (i := 33) (oi := { dst := some 150, op := Op.move (Operand.tmp 1), type := 23, pos := _, after := #[{ on := 26, ground := Ground.guard }], guard := some (26, true) }) (v := undef) rfl (by kernel_rfl) (by kernel_rfl) (by kernel_rfl) (fun _ _ _ h => h) (Or.inr ⟨by rfl, rfl⟩) hHeld ?_
                simp only [Act.put, List.setIfInBounds_toArray, List.set_cons_zero, List.set_cons_succ]
                refine' wpAnyH_take (i := 34) (oi := { dst := some 151, op := Op.call { callee := Callee.value (Operand.func 8), args := #[Operand.tmp 144, Operand.tmp 149, Operand.tmp 150], argTypes := #[3, 22, 23] }, type := 25, pos := _, after := #[{ on := 27, ground := Ground.data }, { on := 32, ground := Ground.data }, { on := 33, ground := Ground.data }, { on := 32, ground := Ground.chain }, { on := 26, ground := Ground.guard }], guard := some (26, true) }) (v := undef) rfl (by kernel_rfl) (by kernel_rfl) (by kernel_rfl) (fun _ _ _ h => h) (Or.inr ⟨by rfl, rfl⟩) hHeld ?_
                simp only [Act.put, List.setIfInBounds_toArray, List.set_cons_zero, List.set_cons_succ]
                refine' wpAnyH_take (i := 35) (oi := { dst := some 152, op := Op.field 25 (Operand.tmp 151) 0, type := 3, pos := _, after := #[{ on := 34, ground := Ground.data }, { on := 26, ground := Ground.guard }], guard := some (26, true) }) (v := undef) rfl (by kernel_rfl) (by kernel_rfl) (by kernel_rfl) (fun _ _ _ h => h) (Or.inr ⟨by rfl, rfl⟩) hHeld ?_
                simp only [Act.put, List.setIfInBounds_toArray, List.set_cons_zero, List.set_cons_succ]
                refine' wpAnyH_take (i := 36) (oi := { dst := some 153, op := Op.fieldAddr 25 (Operand.tmp 9) 0, type := 0, pos := _, after := #[{ on := 26, ground := Ground.guard }], guard := some (26, true) }) (v := undef) rfl (by kernel_rfl) (by kernel_rfl) (by kernel_rfl) (fun _ _ _ h => h) (Or.inr ⟨by rfl, rfl⟩) hHeld ?_
                simp only [Act.put, List.setIfInBounds_toArray, List.set_cons_zero, List.set_cons_succ]
                refine' wpAnyH_take (i := 37) (oi := { dst := some 154, op := Op.load 3 (Operand.tmp 153), type := 3, pos := _, after := #[{ on := 36, ground := Ground.data }, { on := 26, ground := Ground.guard }], guard := some (26, true) }) (v := undef) rfl (by kernel_rfl) (by kernel_rfl) (by kernel_rfl) (fun _ _ _ h => h) (Or.inr ⟨by rfl, rfl⟩) hHeld ?_
                simp only [Act.put, List.setIfInBounds_toArray, List.set_cons_zero, List.set_cons_succ]
                refine' wpAnyH_take (i := 38) (oi := { dst := some 155, op := Op.binOp BinOp.leq 3 (Operand.tmp 152) (Operand.tmp 154) 3, type := 4, pos := _, after := #[{ on := 35, ground := Ground.data }, { on := 37, ground := Ground.data }, { on := 26, ground := Ground.guard }], guard := some (26, true) }) (v := undef) rfl (by kernel_rfl) (by kernel_rfl) (by kernel_rfl) (fun _ _ _ h => h) (Or.inr ⟨by rfl, rfl⟩) hHeld ?_
                simp only [Act.put, List.setIfInBounds_toArray, List.set_cons_zero, List.set_cons_succ]
                refine' wpAnyH_take (i := 39) (oi := { dst := some 156, op := Op.pick (Operand.tmp 143) (Operand.tmp 155) (Operand.const (Value.bool false)), type := 4, pos := _, after := #[{ on := 26, ground := Ground.data }, { on := 38, ground := Ground.data }, { on := 8, ground := Ground.guard }], guard := some (8, false) }) (v := _) rfl (by kernel_rfl) (by kernel_rfl) (by kernel_rfl) (fun _ _ _ h => h) (Or.inl ⟨by rfl, ?hy148⟩) hHeld ?rest148
                case' hy148 =>
                  intro w hSw
                  (try dsimp only at hSw)
                  first | (go_simp; done) | (go_simp; with_reducible rfl)
                simp only [Act.put, List.setIfInBounds_toArray, List.set_cons_zero, List.set_cons_succ]
                refine' wpAnyH_take (i := 40) (oi := { dst := some 157, op := Op.pick (Operand.tmp 125) (Operand.const (Value.bool true)) (Operand.tmp 156), type := 4, pos := _, after := #[{ on := 8, ground := Ground.data }, { on := 39, ground := Ground.data }, { on := 3, ground := Ground.guard }], guard := some (3, true) }) (v := _) rfl (by kernel_rfl) (by kernel_rfl) (by kernel_rfl) (fun _ _ _ h => h) (Or.inl ⟨by rfl, ?hy149⟩) hHeld ?rest149
                case' hy149 =>
                  intro w hSw
                  (try dsimp only at hSw)
                  first | (go_simp; done) | (go_simp; with_reducible rfl)
                simp only [Act.put, List.setIfInBounds_toArray, List.set_cons_zero, List.set_cons_succ]
                refine' wpAnyH_take (i := 41) (oi := { dst := some 158, op := Op.pick (Operand.tmp 120) (Operand.tmp 157) (Operand.const (Value.bool false)), type := 4, pos := _, after := #[{ on := 3, ground := Ground.data }, { on := 40, ground := Ground.data }], guard := none }) (v := _) rfl (by kernel_rfl) (by kernel_rfl) (by kernel_rfl) (fun _ _ _ h => h) (Or.inl ⟨by rfl, ?hy150⟩) hHeld ?rest150
                case' hy150 =>
                  intro w hSw
                  (try dsimp only at hSw)
                  first | (go_simp; done) | (go_simp; with_reducible rfl)
                simp only [Act.put, List.setIfInBounds_toArray, List.set_cons_zero, List.set_cons_succ]
                refine wpAnyH_done (by kernel_rfl) ?_ _
                go_wp2
                go_roundw
                case rel => exact ⟨k + 1, by go_num, by omega, HB.out.trans ⟨rfl, rfl, rfl, Nat.le_refl _, fun _ _ => rfl⟩⟩
                case measure => simp [intOf]; omega
            · skip
              have r3 : ¬ (N' : Int) ≤ (l.length : Int) := by omega
              have r4 : decide (N' ≤ l.length) = false := by simp; omega
              go_wp2
              go_quiet (fail)
              go_wp2
              go_roundw
              case rel => exact ⟨k + 1, by go_num, by omega, HB.out.trans ⟨rfl, rfl, rfl, Nat.le_refl _, fun _ _ => rfl⟩⟩
              case measure => simp [intOf]; omega
        · have s1 : ¬ (E : Int) = 10 := by omega
          have s2 : ((E : Int) == 10) = false := by simp; omega
          have s3 : ¬ (E : Int) = 0 := by omega
          have s4 : ((E : Int) == 0) = false := by simp; omega
          by_cases hE2 : 10 = E'
          · subst hE2
            have hsg : cut < N' := HW.out.sg' rfl
            have r1 : ¬ (N' : Int) ≤ (cut : Int) := by omega
            have r2 : decide (N' ≤ cut) = false := by simp; omega
            clear HW HRw HRx HA HA4
            go_upto_region 17 with fail
            by_cases hNl : N' ≤ l.length
            · skip
              obtain ⟨N2, E2, m2, hT2⟩ : ∃ N2 E2 m2, toD k most (l.take N') = (N2, E2, m2) := ⟨_, _, _, rfl⟩
              have HT2 : Hid (toD k most (l.take N') = (N2, E2, m2)) := hT2
              have HS2 : Hid (E2 = 10 → (l.take N').length < N2) := fun h => by have h1 := short_gt k most (l.take N') hlt; rw [hT2] at h1; exact h1 h
              clear hT2
              by_cases hE2 : 10 = E2
              · skip
                have r3 : (N' : Int) ≤ (l.length : Int) := by omega
                have r4 : decide (N' ≤ l.length) = true := by simp; omega
                have r5 : (N' : Int) ≤ (cap : Int) := by omega
                have r6 : (0 : Int) ≤ (N' : Int) := by omega
                have HlN : Hid ((l.take N').length = N') := by show _ = _; rw [List.length_take]; omega
                have HnN : Hid (N' ≤ 1048576) := by have := HR.out.2.1; show N' ≤ _; omega
                subst hE2
                have t3 : N' < N2 := by have := HS2.out rfl; rw [HlN.out] at this; exact this
                have t4 : ¬ (N2 : Int) ≤ (N' : Int) := by omega
                have t5 : decide (N2 ≤ N') = false := by simp; omega
                have hf0 : ∀ (w : World) (a : Option Addr) (c d : Nat), (Instr.field 25 (.agg #[.int .i64 (N2 : Int), .int .i64 10, .slice a c d]) 0).run Tryd.prog w = .ok (.int .i64 (N2 : Int)) w := fun _ _ _ _ => by kernel_rfl
                have hf1 : ∀ (w : World) (a : Option Addr) (c d : Nat), (Instr.field 25 (.agg #[.int .i64 (N2 : Int), .int .i64 10, .slice a c d]) 1).run Tryd.prog w = .ok (.int .i64 10) w := fun _ _ _ _ => by kernel_rfl
                have HBd : Hid (Below w.heap.size w V2.drew) := HB.out.trans ⟨rfl, rfl, rfl, Nat.le_refl _, fun _ _ => rfl⟩
                go_wp2
                refine wp_region_held_drew (S := fun w' => w'.cell? ⟨p2, 0, none⟩ = some (.int .i64 (N' : Int)) ∧ w'.cell? ⟨p2, 1, none⟩ = some (.int .i64 10)) (by kernel_rfl) ⟨y0, y1⟩ ?_
                intro hHeld
                refine' wpAnyH_take (i := 0) (oi := { dst := some 117, op := Op.fieldAddr 25 (Operand.tmp 9) 1, type := 0, pos := _, after := #[], guard := none }) (v := _) rfl (by kernel_rfl) (by kernel_rfl) (by kernel_rfl) (fun _ _ _ h => h) (Or.inl ⟨by rfl, ?hy151⟩) hHeld ?rest151
                case' hy151 =>
                  intro w hSw
                  (try dsimp only at hSw)
                  first | (go_simp; done) | (go_simp; with_reducible rfl)
                simp only [Act.put, List.setIfInBounds_toArray, List.set_cons_zero, List.set_cons_succ]
                refine' wpAnyH_take (i := 1) (oi := { dst := some 118, op := Op.load 3 (Operand.tmp 117), type := 3, pos := _, after := #[{ on := 0, ground := Ground.data }], guard := none }) (v := _) rfl (by kernel_rfl) (by kernel_rfl) (by kernel_rfl) (fun _ _ _ h => h) (Or.inl ⟨by rfl, ?hy152⟩) hHeld ?rest152
                case' hy152 =>
                  intro w hSw
                  (try dsimp only at hSw)
                  first | (go_simp; done) | (go_simp; with_reducible rfl)
                simp only [Act.put, List.setIfInBounds_toArray, List.set_cons_zero, List.set_cons_succ]
                refine' wpAnyH_take (i := 2) (oi := { dst := some 119, op := Op.binOp BinOp.eql 3 (Operand.tmp 118) (Operand.const (Value.int IntKind.i64 10)) 3, type := 4, pos := _, after := #[{ on := 1, ground := Ground.data }], guard := none }) (v := _) rfl (by kernel_rfl) (by kernel_rfl) (by kernel_rfl) (fun _ _ _ h => h) (Or.inl ⟨by rfl, ?hy153⟩) hHeld ?rest153
                case' hy153 =>
                  intro w hSw
                  (try dsimp only at hSw)
                  first | (go_simp; done) | (go_simp; with_reducible rfl)
                simp only [Act.put, List.setIfInBounds_toArray, List.set_cons_zero, List.set_cons_succ]
                refine' wpAnyH_take (i := 3) (oi := { dst := some 120, op := Op.move (Operand.tmp 119), type := 4, pos := _, after := #[{ on := 2, ground := Ground.data }], guard := none }) (v := _) rfl (by kernel_rfl) (by kernel_rfl) (by kernel_rfl) (fun _ _ _ h => h) (Or.inl ⟨by rfl, ?hy154⟩) hHeld ?rest154
                case' hy154 =>
                  intro w hSw
                  (try dsimp only at hSw)
                  first | (go_simp; done) | (go_simp; with_reducible rfl)
                simp only [Act.put, List.setIfInBounds_toArray, List.set_cons_zero, List.set_cons_succ]
                refine' wpAnyH_take (i := 4) (oi := { dst := some 121, op := Op.fieldAddr 25 (Operand.tmp 9) 0, type := 0, pos := _, after := #[{ on := 3, ground := Ground.guard }], guard := some (3, true) }) (v := _) rfl (by kernel_rfl) (by kernel_rfl) (by kernel_rfl) (fun _ _ _ h => h) (Or.inl ⟨by rfl, ?hy155⟩) hHeld ?rest155
                case' hy155 =>
                  intro w hSw
                  (try dsimp only at hSw)
                  first | (go_simp; done) | (go_simp; with_reducible rfl)
                simp only [Act.put, List.setIfInBounds_toArray, List.set_cons_zero, List.set_cons_succ]
                refine' wpAnyH_take (i := 5) (oi := { dst := some 122, op := Op.load 3 (Operand.tmp 121), type := 3, pos := _, after := #[{ on := 4, ground := Ground.data }, { on := 3, ground := Ground.guard }], guard := some (3, true) }) (v := _) rfl (by kernel_rfl) (by kernel_rfl) (by kernel_rfl) (fun _ _ _ h => h) (Or.inl ⟨by rfl, ?hy156⟩) hHeld ?rest156
                case' hy156 =>
                  intro w hSw
                  (try dsimp only at hSw)
                  first | (go_simp; done) | (go_simp; with_reducible rfl)
                simp only [Act.put, List.setIfInBounds_toArray, List.set_cons_zero, List.set_cons_succ]
                refine' wpAnyH_take (i := 6) (oi := { dst := some 123, op := Op.move (Operand.tmp 2), type := 3, pos := _, after := #[{ on := 3, ground := Ground.guard }], guard := some (3, true) }) (v := _) rfl (by kernel_rfl) (by kernel_rfl) (by kernel_rfl) (fun _ _ _ h => h) (Or.inl ⟨by rfl, ?hy157⟩) hHeld ?rest157
                case' hy157 =>
                  intro w hSw
                  (try dsimp only at hSw)
                  first | (go_simp; done) | (go_simp; with_reducible rfl)
                simp only [Act.put, List.setIfInBounds_toArray, List.set_cons_zero, List.set_cons_succ]
                refine' wpAnyH_take (i := 7) (oi := { dst := some 124, op := Op.binOp BinOp.leq 3 (Operand.tmp 122) (Operand.tmp 123) 3, type := 4, pos := _, after := #[{ on := 5, ground := Ground.data }, { on := 6, ground := Ground.data }, { on := 3, ground := Ground.guard }], guard := some (3, true) }) (v := _) rfl (by kernel_rfl) (by kernel_rfl) (by kernel_rfl) (fun _ _ _ h => h) (Or.inl ⟨by rfl, ?hy158⟩) hHeld ?rest158
                case' hy158 =>
                  intro w hSw
                  (try dsimp only at hSw)
                  first | (go_simp; done) | (go_simp; with_reducible rfl)
                simp only [Act.put, List.setIfInBounds_toArray, List.set_cons_zero, List.set_cons_succ]
                refine' wpAnyH_take (i := 8) (oi := { dst := some 125, op := Op.move (Operand.tmp 124), type := 4, pos := _, after := #[{ on := 7, ground := Ground.data }, { on := 3, ground := Ground.chain }, { on := 3, ground := Ground.guard }], guard := some (3, true) }) (v := _) rfl (by kernel_rfl) (by kernel_rfl) (by kernel_rfl) (fun _ _ _ h => h) (Or.inl ⟨by rfl, ?hy159⟩) hHeld ?rest159
                case' hy159 =>
                  intro w hSw
                  (try dsimp only at hSw)
                  first | (go_simp; done) | (go_simp; with_reducible rfl)
                simp only [Act.put, List.setIfInBounds_toArray, List.set_cons_zero, List.set_cons_succ]
                refine' wpAnyH_take (i := 9) (oi := { dst := some 126, op := Op.fieldAddr 25 (Operand.tmp 9) 0, type := 0, pos := _, after := #[{ on := 8, ground := Ground.guard }], guard := some (8, false) }) (v := _) rfl (by kernel_rfl) (by kernel_rfl) (by kernel_rfl) (fun _ _ _ h => h) (Or.inl ⟨by rfl, ?hy160⟩) hHeld ?rest160
                case' hy160 =>
                  intro w hSw
                  (try dsimp only at hSw)
                  first | (go_simp; done) | (go_simp; with_reducible rfl)
                simp only [Act.put, List.setIfInBounds_toArray, List.set_cons_zero, List.set_cons_succ]
                refine' wpAnyH_take (i := 10) (oi := { dst := some 127, op := Op.load 3 (Operand.tmp 126), type := 3, pos := _, after := #[{ on := 9, ground := Ground.data }, { on := 8, ground := Ground.guard }], guard := some (8, false) }) (v := _) rfl (by kernel_rfl) (by kernel_rfl) (by kernel_rfl) (fun _ _ _ h => h) (Or.inl ⟨by rfl, ?hy161⟩) hHeld ?rest161
                case' hy161 =>
                  intro w hSw
                  (try dsimp only at hSw)
                  first | (go_simp; done) | (go_simp; with_reducible rfl)
                simp only [Act.put, List.setIfInBounds_toArray, List.set_cons_zero, List.set_cons_succ]
                refine' wpAnyH_take (i := 11) (oi := { dst := some 128, op := Op.move (Operand.tmp 0), type := 22, pos := _, after := #[{ on := 8, ground := Ground.guard }], guard := some (8, false) }) (v := _) rfl (by kernel_rfl) (by kernel_rfl) (by kernel_rfl) (fun _ _ _ h => h) (Or.inl ⟨by rfl, ?hy162⟩) hHeld ?rest162
                case' hy162 =>
                  intro w hSw
                  (try dsimp only at hSw)
                  first | (go_simp; done) | (go_simp; with_reducible rfl)
                simp only [Act.put, List.setIfInBounds_toArray, List.set_cons_zero, List.set_cons_succ]
                refine' wpAnyH_take (i := 12) (oi := { dst := some 129, op := Op.call { callee := Callee.builtin Builtin.len, args := #[Operand.tmp 128], argTypes := #[22] }, type := 3, pos := _, after := #[{ on := 11, ground := Ground.data }, { on := 8, ground := Ground.guard }], guard := some (8, false) }) (v := _) rfl (by kernel_rfl) (by kernel_rfl) (by kernel_rfl) (fun _ _ _ h => h) (Or.inl ⟨by rfl, ?hy163⟩) hHeld ?rest163
                case' hy163 =>
                  intro w hSw
                  (try dsimp only at hSw)
                  first | (go_simp; done) | (go_simp; with_reducible rfl)
                simp only [Act.put, List.setIfInBounds_toArray, List.set_cons_zero, List.set_cons_succ]
                refine' wpAnyH_take (i := 13) (oi := { dst := some 130, op := Op.binOp BinOp.leq 3 (Operand.tmp 127) (Operand.tmp 129) 3, type := 4, pos := _, after := #[{ on := 10, ground := Ground.data }, { on := 12, ground := Ground.data }, { on := 8, ground := Ground.guard }], guard := some (8, false) }) (v := _) rfl (by kernel_rfl) (by kernel_rfl) (by kernel_rfl) (fun _ _ _ h => h) (Or.inl ⟨by rfl, ?hy164⟩) hHeld ?rest164
                case' hy164 =>
                  intro w hSw
                  (try dsimp only at hSw)
                  first | (go_simp; done) | (go_simp; with_reducible rfl)
                simp only [Act.put, List.setIfInBounds_toArray, List.set_cons_zero, List.set_cons_succ]
                refine' wpAnyH_take (i := 14) (oi := { dst := some 131, op := Op.move (Operand.tmp 130), type := 4, pos := _, after := #[{ on := 13, ground := Ground.data }, { on := 8, ground := Ground.chain }, { on := 8, ground := Ground.guard }], guard := some (8, false) }) (v := _) rfl (by kernel_rfl) (by kernel_rfl) (by kernel_rfl) (fun _ _ _ h => h) (Or.inl ⟨by rfl, ?hy165⟩) hHeld ?rest165
                case' hy165 =>
                  intro w hSw
                  (try dsimp only at hSw)
                  first | (go_simp; done) | (go_simp; with_reducible rfl)
                simp only [Act.put, List.setIfInBounds_toArray, List.set_cons_zero, List.set_cons_succ]
                refine' wpAnyH_take (i := 15) (oi := { dst := some 132, op := Op.move (Operand.tmp 7), type := 3, pos := _, after := #[{ on := 14, ground := Ground.guard }], guard := some (14, true) }) (v := _) rfl (by kernel_rfl) (by kernel_rfl) (by kernel_rfl) (fun _ _ _ h => h) (Or.inl ⟨by rfl, ?hy166⟩) hHeld ?rest166
                case' hy166 =>
                  intro w hSw
                  (try dsimp only at hSw)
                  first | (go_simp; done) | (go_simp; with_reducible rfl)
                simp only [Act.put, List.setIfInBounds_toArray, List.set_cons_zero, List.set_cons_succ]
                refine' wpAnyH_take (i := 16) (oi := { dst := some 133, op := Op.move (Operand.tmp 0), type := 22, pos := _, after := #[{ on := 14, ground := Ground.guard }], guard := some (14, true) }) (v := _) rfl (by kernel_rfl) (by kernel_rfl) (by kernel_rfl) (fun _ _ _ h => h) (Or.inl ⟨by rfl, ?hy167⟩) hHeld ?rest167
                case' hy167 =>
                  intro w hSw
                  (try dsimp only at hSw)
                  first | (go_simp; done) | (go_simp; with_reducible rfl)
                simp only [Act.put, List.setIfInBounds_toArray, List.set_cons_zero, List.set_cons_succ]
                refine' wpAnyH_take (i := 17) (oi := { dst := some 134, op := Op.fieldAddr 25 (Operand.tmp 9) 0, type := 0, pos := _, after := #[{ on := 14, ground := Ground.guard }], guard := some (14, true) }) (v := _) rfl (by kernel_rfl) (by kernel_rfl) (by kernel_rfl) (fun _ _ _ h => h) (Or.inl ⟨by rfl, ?hy168⟩) hHeld ?rest168
                case' hy168 =>
                  intro w hSw
                  (try dsimp only at hSw)
                  first | (go_simp; done) | (go_simp; with_reducible rfl)
                simp only [Act.put, List.setIfInBounds_toArray, List.set_cons_zero, List.set_cons_succ]
                refine' wpAnyH_take (i := 18) (oi := { dst := some 135, op := Op.load 3 (Operand.tmp 134), type := 3, pos := _, after := #[{ on := 17, ground := Ground.data }, { on := 14, ground := Ground.guard }], guard := some (14, true) }) (v := _) rfl (by kernel_rfl) (by kernel_rfl) (by kernel_rfl) (fun _ _ _ h => h) (Or.inl ⟨by rfl, ?hy169⟩) hHeld ?rest169
                case' hy169 =>
                  intro w hSw
                  (try dsimp only at hSw)
                  first | (go_simp; done) | (go_simp; with_reducible rfl)
                simp only [Act.put, List.setIfInBounds_toArray, List.set_cons_zero, List.set_cons_succ]
                refine' wpAnyH_take (i := 19) (oi := { dst := some 136, op := Op.slice 22 (Operand.tmp 133) none (some (Operand.tmp 135)) none, type := 22, pos := _, after := #[{ on := 16, ground := Ground.data }, { on := 18, ground := Ground.data }, { on := 14, ground := Ground.guard }], guard := some (14, true) }) (v := _) rfl (by kernel_rfl) (by kernel_rfl) (by kernel_rfl) (fun _ _ _ h => h) (Or.inl ⟨by rfl, ?hy170⟩) hHeld ?rest170
                case' hy170 =>
                  intro w hSw
                  (try dsimp only at hSw)
                  first | (go_simp; done) | (go_simp; with_reducible rfl)
                simp only [Act.put, List.setIfInBounds_toArray, List.set_cons_zero, List.set_cons_succ]
                refine' wpAnyH_take (i := 21) (oi := { dst := some 138, op := Op.move (Operand.tmp 1), type := 23, pos := _, after := #[{ on := 14, ground := Ground.guard }], guard := some (14, true) }) (v := _) rfl (by kernel_rfl) (by kernel_rfl) (by kernel_rfl) (fun _ _ _ h => h) (Or.inl ⟨by rfl, ?hy171⟩) hHeld ?rest171
                case' hy171 =>
                  intro w hSw
                  (try dsimp only at hSw)
                  first | (go_simp; done) | (go_simp; with_reducible rfl)
                simp only [Act.put, List.setIfInBounds_toArray, List.set_cons_zero, List.set_cons_succ]
                refine wpAnyH_ready (rs := [20]) (by kernel_rfl) (by simp) ?_
                refine AllReadyH.cons (o := { dst := some 137, op := Op.call { callee := Callee.value (Operand.func 9), args := #[Operand.tmp 136], argTypes := #[22] }, type := 22, pos := _, after := #[{ on := 19, ground := Ground.data }, { on := 14, ground := Ground.chain }, { on := 14, ground := Ground.guard }], guard := some (14, true) }) rfl (fun K hK => ?_) AllReadyH.nil
                go_simp
                refine Calls.mono (twin_e (some ad) cap N' (l.take N') _ ?bx172 HlN.out HnN.out) ?_
                case bx172 => exact (HR.out.1.later HBd.out).row.take N' cap (fun e => by cases e)
                rintro e X5 ⟨g5, rfl, hc5, hb⟩
                have HCX5 : Hid _ := hc5
                replace HB : Hid (Below w.heap.size w X5) := HBd.out.trans (hb.mono HBd.out.size)
                replace HP9 : Hid (X5.heap[p2]? = some _) := (hb.block _ (block_lt HP9.out)).trans HP9.out
                clear hb hc5
                go_wp2_with fail
                refine hK.out _ _ ?hS173 (fun hHeld => ?rest173)
                case hS173 => exact ⟨blk_at HP9.out 0, blk_at HP9.out 1⟩
                clear hK K
                refine wpAnyH_ready (rs := [22]) (by kernel_rfl) (by simp) ?_
                refine AllReadyH.cons (o := { dst := some 139, op := Op.call { callee := Callee.value (Operand.func 8), args := #[Operand.tmp 132, Operand.tmp 137, Operand.tmp 138], argTypes := #[3, 22, 23] }, type := 25, pos := _, after := #[{ on := 15, ground := Ground.data }, { on := 20, ground := Ground.data }, { on := 21, ground := Ground.data }, { on := 20, ground := Ground.chain }, { on := 14, ground := Ground.guard }], guard := some (14, true) }) rfl (fun K hK => ?_) AllReadyH.nil
                go_simp
                refine Calls.mono (told_n k N' hlt (some ⟨g5, 0, none⟩) (N' + 4) (l.take N') HlN.out most X5 HCX5.out HnN.out hm4) ?_
                rintro e X6 ⟨N6, E6, m6, ao6, cp6, rfl, hto6, hrow6⟩
                rw [HT2.out] at hto6
                simp only [Prod.mk.injEq] at hto6
                obtain ⟨rfl, rfl, _⟩ := hto6
                have hb := hrow6.bel
                replace HB : Hid (Below w.heap.size w X6) := HB.out.trans (hb.mono HB.out.size)
                replace HP9 : Hid (X6.heap[p2]? = some _) := (hb.block _ (block_lt HP9.out)).trans HP9.out
                clear hb hrow6 HCX5
                go_wp2_with fail
                refine hK.out _ _ ?hS174 (fun hHeld => ?rest174)
                case hS174 => exact ⟨blk_at HP9.out 0, blk_at HP9.out 1⟩
                clear hK K
                refine' wpAnyH_take (i := 23) (oi := { dst := some 140, op := Op.field 25 (Operand.tmp 139) 1, type := 3, pos := _, after := #[{ on := 22, ground := Ground.data }, { on := 14, ground := Ground.guard }], guard := some (14, true) }) (v := _) rfl (by kernel_rfl) (by kernel_rfl) (by kernel_rfl) (fun _ _ _ h => h) (Or.inl ⟨by rfl, ?hy175⟩) hHeld ?rest175
                case' hy175 =>
                  intro w hSw
                  (try dsimp only at hSw)
                  first | (go_simp; done) | (go_simp; with_reducible rfl)
                simp only [Act.put, List.setIfInBounds_toArray, List.set_cons_zero, List.set_cons_succ]
                refine' wpAnyH_take (i := 24) (oi := { dst := some 141, op := Op.binOp BinOp.eql 3 (Operand.tmp 140) (Operand.const (Value.int IntKind.i64 10)) 3, type := 4, pos := _, after := #[{ on := 23, ground := Ground.data }, { on := 14, ground := Ground.guard }], guard := some (14, true) }) (v := _) rfl (by kernel_rfl) (by kernel_rfl) (by kernel_rfl) (fun _ _ _ h => h) (Or.inl ⟨by rfl, ?hy176⟩) hHeld ?rest176
                case' hy176 =>
                  intro w hSw
                  (try dsimp only at hSw)
                  first | (go_simp; done) | (go_simp; with_reducible rfl)
                simp only [Act.put, List.setIfInBounds_toArray, List.set_cons_zero, List.set_cons_succ]
                refine' wpAnyH_take (i := 25) (oi := { dst := some 142, op := Op.pick (Operand.tmp 131) (Operand.tmp 141) (Operand.const (Value.bool false)), type := 4, pos := _, after := #[{ on := 14, ground := Ground.data }, { on := 24, ground := Ground.data }, { on := 8, ground := Ground.guard }], guard := some (8, false) }) (v := _) rfl (by kernel_rfl) (by kernel_rfl) (by kernel_rfl) (fun _ _ _ h => h) (Or.inl ⟨by rfl, ?hy177⟩) hHeld ?rest177
                case' hy177 =>
                  intro w hSw
                  (try dsimp only at hSw)
                  first | (go_simp; done) | (go_simp; with_reducible rfl)
                simp only [Act.put, List.setIfInBounds_toArray, List.set_cons_zero, List.set_cons_succ]
                refine' wpAnyH_take (i := 26) (oi := { dst := some 143, op := Op.move (Operand.tmp 142), type := 4, pos := _, after := #[{ on := 25, ground := Ground.data }, { on := 22, ground := Ground.chain }, { on := 8, ground := Ground.guard }], guard := some (8, false) }) (v := _) rfl (by kernel_rfl) (by kernel_rfl) (by kernel_rfl) (fun _ _ _ h => h) (Or.inl ⟨by rfl, ?hy178⟩) hHeld ?rest178
                case' hy178 =>
                  intro w hSw
                  (try dsimp only at hSw)
                  first | (go_simp; done) | (go_simp; with_reducible rfl)
                simp only [Act.put, List.setIfInBounds_toArray, List.set_cons_zero, List.set_cons_succ]
                refine' wpAnyH_take (i := 27) (oi := { dst := some 144, op := Op.move (Operand.tmp 7), type := 3, pos := _, after := #[{ on := 26, ground := Ground.guard }], guard := some (26, true) }) (v := _) rfl (by kernel_rfl) (by kernel_rfl) (by kernel_rfl) (fun _ _ _ h => h) (Or.inl ⟨by rfl, ?hy179⟩) hHeld ?rest179
                case' hy179 =>
                  intro w hSw
                  (try dsimp only at hSw)
                  first | (go_simp; done) | (go_simp; with_reducible rfl)
                simp only [Act.put, List.setIfInBounds_toArray, List.set_cons_zero, List.set_cons_succ]
                refine' wpAnyH_take (i := 28) (oi := { dst := some 145, op := Op.move (Operand.tmp 0), type := 22, pos := _, after := #[{ on := 26, ground := Ground.guard }], guard := some (26, true) }) (v := _) rfl (by kernel_rfl) (by kernel_rfl) (by kernel_rfl) (fun _ _ _ h => h) (Or.inl ⟨by rfl, ?hy180⟩) hHeld ?rest180
                case' hy180 =>
                  intro w hSw
                  (try dsimp only at hSw)
                  first | (go_simp; done) | (go_simp; with_reducible rfl)
                simp only [Act.put, List.setIfInBounds_toArray, List.set_cons_zero, List.set_cons_succ]
                refine' wpAnyH_take (i := 29) (oi := { dst := some 146, op := Op.fieldAddr 25 (Operand.tmp 9) 0, type := 0, pos := _, after := #[{ on := 26, ground := Ground.guard }], guard := some (26, true) }) (v := _) rfl (by kernel_rfl) (by kernel_rfl) (by kernel_rfl) (fun _ _ _ h => h) (Or.inl ⟨by rfl, ?hy181⟩) hHeld ?rest181
                case' hy181 =>
                  intro w hSw
                  (try dsimp only at hSw)
                  first | (go_simp; done) | (go_simp; with_reducible rfl)
                simp only [Act.put, List.setIfInBounds_toArray, List.set_cons_zero, List.set_cons_succ]
                refine' wpAnyH_take (i := 30) (oi := { dst := some 147, op := Op.load 3 (Operand.tmp 146), type := 3, pos := _, after := #[{ on := 29, ground := Ground.data }, { on := 26, ground := Ground.guard }], guard := some (26, true) }) (v := _) rfl (by kernel_rfl) (by kernel_rfl) (by kernel_rfl) (fun _ _ _ h => h) (Or.inl ⟨by rfl, ?hy182⟩) hHeld ?rest182
                case' hy182 =>
                  intro w hSw
                  (try dsimp only at hSw)
                  first | (go_simp; done) | (go_simp; with_reducible rfl)
                simp only [Act.put, List.setIfInBounds_toArray, List.set_cons_zero, List.set_cons_succ]
                refine' wpAnyH_take (i := 31) (oi := { dst := some 148, op := Op.slice 22 (Operand.tmp 145) none (some (Operand.tmp 147)) none, type := 22, pos := _, after := #[{ on := 28, ground := Ground.data }, { on := 30, ground := Ground.data }, { on := 26, ground := Ground.guard }], guard := some (26, true) }) (v := _) rfl (by kernel_rfl) (by kernel_rfl) (by kernel_rfl) (fun _ _ _ h => h) (Or.inl ⟨by rfl, ?hy183⟩) hHeld ?rest183
                case' hy183 =>
                  intro w hSw
                  (try dsimp only at hSw)
                  first | (go_simp; done) | (go_simp; with_reducible rfl)
                simp only [Act.put, List.setIfInBounds_toArray, List.set_cons_zero, List.set_cons_succ]
                refine' wpAnyH_take (i := 33) (oi := { dst := some 150, op := Op.move (Operand.tmp 1), type := 23, pos := _, after := #[{ on := 26, ground := Ground.guard }], guard := some (26, true) }) (v := _) rfl (by kernel_rfl) (by kernel_rfl) (by kernel_rfl) (fun _ _ _ h => h) (Or.inl ⟨by rfl, ?hy184⟩) hHeld ?rest184
                case' hy184 =>
                  intro w hSw
                  (try dsimp only at hSw)
                  first | (go_simp; done) | (go_simp; with_reducible rfl)
                simp only [Act.put, List.setIfInBounds_toArray, List.set_cons_zero, List.set_cons_succ]
                refine' wpAnyH_take (i := 36) (oi := { dst := some 153, op := Op.fieldAddr 25 (Operand.tmp 9) 0, type := 0, pos := _, after := #[{ on := 26, ground := Ground.guard }], guard := some (26, true) }) (v := _) rfl (by kernel_rfl) (by kernel_rfl) (by kernel_rfl) (fun _ _ _ h => h) (Or.inl ⟨by rfl, ?hy185⟩) hHeld ?rest185
                case' hy185 =>
                  intro w hSw
                  (try dsimp only at hSw)
                  first | (go_simp; done) | (go_simp; with_reducible rfl)
                simp only [Act.put, List.setIfInBounds_toArray, List.set_cons_zero, List.set_cons_succ]
                refine' wpAnyH_take (i := 37) (oi := { dst := some 154, op := Op.load 3 (Operand.tmp 153), type := 3, pos := _, after := #[{ on := 36, ground := Ground.data }, { on := 26, ground := Ground.guard }], guard := some (26, true) }) (v := _) rfl (by kernel_rfl) (by kernel_rfl) (by kernel_rfl) (fun _ _ _ h => h) (Or.inl ⟨by rfl, ?hy186⟩) hHeld ?rest186
                case' hy186 =>
                  intro w hSw
                  (try dsimp only at hSw)
                  first | (go_simp; done) | (go_simp; with_reducible rfl)
                simp only [Act.put, List.setIfInBounds_toArray, List.set_cons_zero, List.set_cons_succ]
                refine wpAnyH_ready (rs := [32]) (by kernel_rfl) (by simp) ?_
                refine AllReadyH.cons (o := { dst := some 149, op := Op.call { callee := Callee.value (Operand.func 9), args := #[Operand.tmp 148], argTypes := #[22] }, type := 22, pos := _, after := #[{ on := 31, ground := Ground.data }, { on := 26, ground := Ground.chain }, { on := 26, ground := Ground.guard }], guard := some (26, true) }) rfl (fun K hK => ?_) AllReadyH.nil
                go_simp
                refine Calls.mono (twin_e (some ad) cap N' (l.take N') _ ?bx187 HlN.out HnN.out) ?_
                case bx187 => exact (HR.out.1.later HB.out).row.take N' cap (fun e => by cases e)
                rintro e X7 ⟨g7, rfl, hc7, hb⟩
                have HCX7 : Hid _ := hc7
                replace HB : Hid (Below w.heap.size w X7) := HB.out.trans (hb.mono HB.out.size)
                replace HP9 : Hid (X7.heap[p2]? = some _) := (hb.block _ (block_lt HP9.out)).trans HP9.out
                clear hb hc7
                go_wp2_with fail
                refine hK.out _ _ ?hS188 (fun hHeld => ?rest188)
                case hS188 => exact ⟨blk_at HP9.out 0, blk_at HP9.out 1⟩
                clear hK K
                refine wpAnyH_ready (rs := [34]) (by kernel_rfl) (by simp) ?_
                refine AllReadyH.cons (o := { dst := some 151, op := Op.call { callee := Callee.value (Operand.func 8), args := #[Operand.tmp 144, Operand.tmp 149, Operand.tmp 150], argTypes := #[3, 22, 23] }, type := 25, pos := _, after := #[{ on := 27, ground := Ground.data }, { on := 32, ground := Ground.data }, { on := 33, ground := Ground.data }, { on := 32, ground := Ground.chain }, { on := 26, ground := Ground.guard }], guard := some (26, true) }) rfl (fun K hK => ?_) AllReadyH.nil
                go_simp
                refine Calls.mono (told_n k N' hlt (some ⟨g7, 0, none⟩) (N' + 4) (l.take N') HlN.out most X7 HCX7.out HnN.out hm4) ?_
                rintro e X8 ⟨N8, E8, m8, ao8, cp8, rfl, hto8, hrow8⟩
                rw [HT2.out] at hto8
                simp only [Prod.mk.injEq] at hto8
                obtain ⟨rfl, rfl, _⟩ := hto8
                have hb := hrow8.bel
                replace HB : Hid (Below w.heap.size w X8) := HB.out.trans (hb.mono HB.out.size)
                replace HP9 : Hid (X8.heap[p2]? = some _) := (hb.block _ (block_lt HP9.out)).trans HP9.out
                clear hb hrow8 HCX7
                go_wp2_with fail
                refine hK.out _ _ ?hS189 (fun hHeld => ?rest189)
                case hS189 => exact ⟨blk_at HP9.out 0, blk_at HP9.out 1⟩
                clear hK K
                refine' wpAnyH_take (i := 35) (oi := { dst := some 152, op := Op.field 25 (Operand.tmp 151) 0, type := 3, pos := _, after := #[{ on := 34, ground := Ground.data }, { on := 26, ground := Ground.guard }], guard := some (26, true) }) (v := _) rfl (by kernel_rfl) (by kernel_rfl) (by kernel_rfl) (fun _ _ _ h => h) (Or.inl ⟨by rfl, ?hy190⟩) hHeld ?rest190
                case' hy190 =>
                  intro w hSw
                  (try dsimp only at hSw)
                  first | (go_simp; done) | (go_simp; with_reducible rfl)
                simp only [Act.put, List.setIfInBounds_toArray, List.set_cons_zero, List.set_cons_succ]
                refine' wpAnyH_take (i := 38) (oi := { dst := some 155, op := Op.binOp BinOp.leq 3 (Operand.tmp 152) (Operand.tmp 154) 3, type := 4, pos := _, after := #[{ on := 35, ground := Ground.data }, { on := 37, ground := Ground.data }, { on := 26, ground := Ground.guard }], guard := some (26, true) }) (v := _) rfl (by kernel_rfl) (by kernel_rfl) (by kernel_rfl) (fun _ _ _ h => h) (Or.inl ⟨by rfl, ?hy191⟩) hHeld ?rest191
                case' hy191 =>
                  intro w hSw
                  (try dsimp only at hSw)
                  first | (go_simp; done) | (go_simp; with_reducible rfl)
                simp only [Act.put, List.setIfInBounds_toArray, List.set_cons_zero, List.set_cons_succ]
                refine' wpAnyH_take (i := 39) (oi := { dst := some 156, op := Op.pick (Operand.tmp 143) (Operand.tmp 155) (Operand.const (Value.bool false)), type := 4, pos := _, after := #[{ on := 26, ground := Ground.data }, { on := 38, ground := Ground.data }, { on := 8, ground := Ground.guard }], guard := some (8, false) }) (v := _) rfl (by kernel_rfl) (by kernel_rfl) (by kernel_rfl) (fun _ _ _ h => h) (Or.inl ⟨by rfl, ?hy192⟩) hHeld ?rest192
                case' hy192 =>
                  intro w hSw
                  (try dsimp only at hSw)
                  first | (go_simp; done) | (go_simp; with_reducible rfl)
                simp only [Act.put, List.setIfInBounds_toArray, List.set_cons_zero, List.set_cons_succ]
                refine' wpAnyH_take (i := 40) (oi := { dst := some 157, op := Op.pick (Operand.tmp 125) (Operand.const (Value.bool true)) (Operand.tmp 156), type := 4, pos := _, after := #[{ on := 8, ground := Ground.data }, { on := 39, ground := Ground.data }, { on := 3, ground := Ground.guard }], guard := some (3, true) }) (v := _) rfl (by kernel_rfl) (by kernel_rfl) (by kernel_rfl) (fun _ _ _ h => h) (Or.inl ⟨by rfl, ?hy193⟩) hHeld ?rest193
                case' hy193 =>
                  intro w hSw
                  (try dsimp only at hSw)
                  first | (go_simp; done) | (go_simp; with_reducible rfl)
                simp only [Act.put, List.setIfInBounds_toArray, List.set_cons_zero, List.set_cons_succ]
                refine' wpAnyH_take (i := 41) (oi := { dst := some 158, op := Op.pick (Operand.tmp 120) (Operand.tmp 157) (Operand.const (Value.bool false)), type := 4, pos := _, after := #[{ on := 3, ground := Ground.data }, { on := 40, ground := Ground.data }], guard := none }) (v := _) rfl (by kernel_rfl) (by kernel_rfl) (by kernel_rfl) (fun _ _ _ h => h) (Or.inl ⟨by rfl, ?hy194⟩) hHeld ?rest194
                case' hy194 =>
                  intro w hSw
                  (try dsimp only at hSw)
                  first | (go_simp; done) | (go_simp; with_reducible rfl)
                simp only [Act.put, List.setIfInBounds_toArray, List.set_cons_zero, List.set_cons_succ]
                refine wpAnyH_done (by kernel_rfl) ?_ _
                go_wp2
                go_roundw
                case rel => exact ⟨k + 1, by go_num, by omega, HB.out.trans ⟨rfl, rfl, rfl, Nat.le_refl _, fun _ _ => rfl⟩⟩
                case measure => simp [intOf]; omega
              · skip
                have r3 : (N' : Int) ≤ (l.length : Int) := by omega
                have r4 : decide (N' ≤ l.length) = true := by simp; omega
                have r5 : (N' : Int) ≤ (cap : Int) := by omega
                have r6 : (0 : Int) ≤ (N' : Int) := by omega
                have HlN : Hid ((l.take N').length = N') := by show _ = _; rw [List.length_take]; omega
                have HnN : Hid (N' ≤ 1048576) := by have := HR.out.2.1; show N' ≤ _; omega
                have t1 : ¬ (E2 : Int) = 10 := by omega
                have t2 : ((E2 : Int) == 10) = false := by simp; omega
                have hf0 : ∀ (w : World) (a : Option Addr) (c d : Nat), (Instr.field 25 (.agg #[.int .i64 (N2 : Int), .int .i64 (E2 : Int), .slice a c d]) 0).run Tryd.prog w = .ok (.int .i64 (N2 : Int)) w := fun _ _ _ _ => by kernel_rfl
                have hf1 : ∀ (w : World) (a : Option Addr) (c d : Nat), (Instr.field 25 (.agg #[.int .i64 (N2 : Int), .int .i64 (E2 : Int), .slice a c d]) 1).run Tryd.prog w = .ok (.int .i64 (E2 : Int)) w := fun _ _ _ _ => by kernel_rfl
                have HBd : Hid (Below w.heap.size w V2.drew) := HB.out.trans ⟨rfl, rfl, rfl, Nat.le_refl _, fun _ _ => rfl⟩
                go_wp2
                refine wp_region_held_drew (S := fun w' => w'.cell? ⟨p2, 0, none⟩ = some (.int .i64 (N' : Int)) ∧ w'.cell? ⟨p2, 1, none⟩ = some (.int .i64 10)) (by kernel_rfl) ⟨y0, y1⟩ ?_
                intro hHeld
                refine' wpAnyH_take (i := 0) (oi := { dst := some 117, op := Op.fieldAddr 25 (Operand.tmp 9) 1, type := 0, pos := _, after := #[], guard := none }) (v := _) rfl (by kernel_rfl) (by kernel_rfl) (by kernel_rfl) (fun _ _ _ h => h) (Or.inl ⟨by rfl, ?hy195⟩) hHeld ?rest195
                case' hy195 =>
                  intro w hSw
                  (try dsimp only at hSw)
                  first | (go_simp; done) | (go_simp; with_reducible rfl)
                simp only [Act.put, List.setIfInBounds_toArray, List.set_cons_zero, List.set_cons_succ]
                refine' wpAnyH_take (i := 1) (oi := { dst := some 118, op := Op.load 3 (Operand.tmp 117), type := 3, pos := _, after := #[{ on := 0, ground := Ground.data }], guard := none }) (v := _) rfl (by kernel_rfl) (by kernel_rfl) (by kernel_rfl) (fun _ _ _ h => h) (Or.inl ⟨by rfl, ?hy196⟩) hHeld ?rest196
                case' hy196 =>
                  intro w hSw
                  (try dsimp only at hSw)
                  first | (go_simp; done) | (go_simp; with_reducible rfl)
                simp only [Act.put, List.setIfInBounds_toArray, List.set_cons_zero, List.set_cons_succ]
                refine' wpAnyH_take (i := 2) (oi := { dst := some 119, op := Op.binOp BinOp.eql 3 (Operand.tmp 118) (Operand.const (Value.int IntKind.i64 10)) 3, type := 4, pos := _, after := #[{ on := 1, ground := Ground.data }], guard := none }) (v := _) rfl (by kernel_rfl) (by kernel_rfl) (by kernel_rfl) (fun _ _ _ h => h) (Or.inl ⟨by rfl, ?hy197⟩) hHeld ?rest197
                case' hy197 =>
                  intro w hSw
                  (try dsimp only at hSw)
                  first | (go_simp; done) | (go_simp; with_reducible rfl)
                simp only [Act.put, List.setIfInBounds_toArray, List.set_cons_zero, List.set_cons_succ]
                refine' wpAnyH_take (i := 3) (oi := { dst := some 120, op := Op.move (Operand.tmp 119), type := 4, pos := _, after := #[{ on := 2, ground := Ground.data }], guard := none }) (v := _) rfl (by kernel_rfl) (by kernel_rfl) (by kernel_rfl) (fun _ _ _ h => h) (Or.inl ⟨by rfl, ?hy198⟩) hHeld ?rest198
                case' hy198 =>
                  intro w hSw
                  (try dsimp only at hSw)
                  first | (go_simp; done) | (go_simp; with_reducible rfl)
                simp only [Act.put, List.setIfInBounds_toArray, List.set_cons_zero, List.set_cons_succ]
                refine' wpAnyH_take (i := 4) (oi := { dst := some 121, op := Op.fieldAddr 25 (Operand.tmp 9) 0, type := 0, pos := _, after := #[{ on := 3, ground := Ground.guard }], guard := some (3, true) }) (v := _) rfl (by kernel_rfl) (by kernel_rfl) (by kernel_rfl) (fun _ _ _ h => h) (Or.inl ⟨by rfl, ?hy199⟩) hHeld ?rest199
                case' hy199 =>
                  intro w hSw
                  (try dsimp only at hSw)
                  first | (go_simp; done) | (go_simp; with_reducible rfl)
                simp only [Act.put, List.setIfInBounds_toArray, List.set_cons_zero, List.set_cons_succ]
                refine' wpAnyH_take (i := 5) (oi := { dst := some 122, op := Op.load 3 (Operand.tmp 121), type := 3, pos := _, after := #[{ on := 4, ground := Ground.data }, { on := 3, ground := Ground.guard }], guard := some (3, true) }) (v := _) rfl (by kernel_rfl) (by kernel_rfl) (by kernel_rfl) (fun _ _ _ h => h) (Or.inl ⟨by rfl, ?hy200⟩) hHeld ?rest200
                case' hy200 =>
                  intro w hSw
                  (try dsimp only at hSw)
                  first | (go_simp; done) | (go_simp; with_reducible rfl)
                simp only [Act.put, List.setIfInBounds_toArray, List.set_cons_zero, List.set_cons_succ]
                refine' wpAnyH_take (i := 6) (oi := { dst := some 123, op := Op.move (Operand.tmp 2), type := 3, pos := _, after := #[{ on := 3, ground := Ground.guard }], guard := some (3, true) }) (v := _) rfl (by kernel_rfl) (by kernel_rfl) (by kernel_rfl) (fun _ _ _ h => h) (Or.inl ⟨by rfl, ?hy201⟩) hHeld ?rest201
                case' hy201 =>
                  intro w hSw
                  (try dsimp only at hSw)
                  first | (go_simp; done) | (go_simp; with_reducible rfl)
                simp only [Act.put, List.setIfInBounds_toArray, List.set_cons_zero, List.set_cons_succ]
                refine' wpAnyH_take (i := 7) (oi := { dst := some 124, op := Op.binOp BinOp.leq 3 (Operand.tmp 122) (Operand.tmp 123) 3, type := 4, pos := _, after := #[{ on := 5, ground := Ground.data }, { on := 6, ground := Ground.data }, { on := 3, ground := Ground.guard }], guard := some (3, true) }) (v := _) rfl (by kernel_rfl) (by kernel_rfl) (by kernel_rfl) (fun _ _ _ h => h) (Or.inl ⟨by rfl, ?hy202⟩) hHeld ?rest202
                case' hy202 =>
                  intro w hSw
                  (try dsimp only at hSw)
                  first | (go_simp; done) | (go_simp; with_reducible rfl)
                simp only [Act.put, List.setIfInBounds_toArray, List.set_cons_zero, List.set_cons_succ]
                refine' wpAnyH_take (i := 8) (oi := { dst := some 125, op := Op.move (Operand.tmp 124), type := 4, pos := _, after := #[{ on := 7, ground := Ground.data }, { on := 3, ground := Ground.chain }, { on := 3, ground := Ground.guard }], guard := some (3, true) }) (v := _) rfl (by kernel_rfl) (by kernel_rfl) (by kernel_rfl) (fun _ _ _ h => h) (Or.inl ⟨by rfl, ?hy203⟩) hHeld ?rest203
                case' hy203 =>
                  intro w hSw
                  (try dsimp only at hSw)
                  first | (go_simp; done) | (go_simp; with_reducible rfl)
                simp only [Act.put, List.setIfInBounds_toArray, List.set_cons_zero, List.set_cons_succ]
                refine' wpAnyH_take (i := 9) (oi := { dst := some 126, op := Op.fieldAddr 25 (Operand.tmp 9) 0, type := 0, pos := _, after := #[{ on := 8, ground := Ground.guard }], guard := some (8, false) }) (v := _) rfl (by kernel_rfl) (by kernel_rfl) (by kernel_rfl) (fun _ _ _ h => h) (Or.inl ⟨by rfl, ?hy204⟩) hHeld ?rest204
                case' hy204 =>
                  intro w hSw
                  (try dsimp only at hSw)
                  first | (go_simp; done) | (go_simp; with_reducible rfl)
                simp only [Act.put, List.setIfInBounds_toArray, List.set_cons_zero, List.set_cons_succ]
                refine' wpAnyH_take (i := 10) (oi := { dst := some 127, op := Op.load 3 (Operand.tmp 126), type := 3, pos := _, after := #[{ on := 9, ground := Ground.data }, { on := 8, ground := Ground.guard }], guard := some (8, false) }) (v := _) rfl (by kernel_rfl) (by kernel_rfl) (by kernel_rfl) (fun _ _ _ h => h) (Or.inl ⟨by rfl, ?hy205⟩) hHeld ?rest205
                case' hy205 =>
                  intro w hSw
                  (try dsimp only at hSw)
                  first | (go_simp; done) | (go_simp; with_reducible rfl)
                simp only [Act.put, List.setIfInBounds_toArray, List.set_cons_zero, List.set_cons_succ]
                refine' wpAnyH_take (i := 11) (oi := { dst := some 128, op := Op.move (Operand.tmp 0), type := 22, pos := _, after := #[{ on := 8, ground := Ground.guard }], guard := some (8, false) }) (v := _) rfl (by kernel_rfl) (by kernel_rfl) (by kernel_rfl) (fun _ _ _ h => h) (Or.inl ⟨by rfl, ?hy206⟩) hHeld ?rest206
                case' hy206 =>
                  intro w hSw
                  (try dsimp only at hSw)
                  first | (go_simp; done) | (go_simp; with_reducible rfl)
                simp only [Act.put, List.setIfInBounds_toArray, List.set_cons_zero, List.set_cons_succ]
                refine' wpAnyH_take (i := 12) (oi := { dst := some 129, op := Op.call { callee := Callee.builtin Builtin.len, args := #[Operand.tmp 128], argTypes := #[22] }, type := 3, pos := _, after := #[{ on := 11, ground := Ground.data }, { on := 8, ground := Ground.guard }], guard := some (8, false) }) (v := _) rfl (by kernel_rfl) (by kernel_rfl) (by kernel_rfl) (fun _ _ _ h => h) (Or.inl ⟨by rfl, ?hy207⟩) hHeld ?rest207
                case' hy207 =>
                  intro w hSw
                  (try dsimp only at hSw)
                  first | (go_simp; done) | (go_simp; with_reducible rfl)
                simp only [Act.put, List.setIfInBounds_toArray, List.set_cons_zero, List.set_cons_succ]
                refine' wpAnyH_take (i := 13) (oi := { dst := some 130, op := Op.binOp BinOp.leq 3 (Operand.tmp 127) (Operand.tmp 129) 3, type := 4, pos := _, after := #[{ on := 10, ground := Ground.data }, { on := 12, ground := Ground.data }, { on := 8, ground := Ground.guard }], guard := some (8, false) }) (v := _) rfl (by kernel_rfl) (by kernel_rfl) (by kernel_rfl) (fun _ _ _ h => h) (Or.inl ⟨by rfl, ?hy208⟩) hHeld ?rest208
                case' hy208 =>
                  intro w hSw
                  (try dsimp only at hSw)
                  first | (go_simp; done) | (go_simp; with_reducible rfl)
                simp only [Act.put, List.setIfInBounds_toArray, List.set_cons_zero, List.set_cons_succ]
                refine' wpAnyH_take (i := 14) (oi := { dst := some 131, op := Op.move (Operand.tmp 130), type := 4, pos := _, after := #[{ on := 13, ground := Ground.data }, { on := 8, ground := Ground.chain }, { on := 8, ground := Ground.guard }], guard := some (8, false) }) (v := _) rfl (by kernel_rfl) (by kernel_rfl) (by kernel_rfl) (fun _ _ _ h => h) (Or.inl ⟨by rfl, ?hy209⟩) hHeld ?rest209
                case' hy209 =>
                  intro w hSw
                  (try dsimp only at hSw)
                  first | (go_simp; done) | (go_simp; with_reducible rfl)
                simp only [Act.put, List.setIfInBounds_toArray, List.set_cons_zero, List.set_cons_succ]
                refine' wpAnyH_take (i := 15) (oi := { dst := some 132, op := Op.move (Operand.tmp 7), type := 3, pos := _, after := #[{ on := 14, ground := Ground.guard }], guard := some (14, true) }) (v := _) rfl (by kernel_rfl) (by kernel_rfl) (by kernel_rfl) (fun _ _ _ h => h) (Or.inl ⟨by rfl, ?hy210⟩) hHeld ?rest210
                case' hy210 =>
                  intro w hSw
                  (try dsimp only at hSw)
                  first | (go_simp; done) | (go_simp; with_reducible rfl)
                simp only [Act.put, List.setIfInBounds_toArray, List.set_cons_zero, List.set_cons_succ]
                refine' wpAnyH_take (i := 16) (oi := { dst := some 133, op := Op.move (Operand.tmp 0), type := 22, pos := _, after := #[{ on := 14, ground := Ground.guard }], guard := some (14, true) }) (v := _) rfl (by kernel_rfl) (by kernel_rfl) (by kernel_rfl) (fun _ _ _ h => h) (Or.inl ⟨by rfl, ?hy211⟩) hHeld ?rest211
                case' hy211 =>
                  intro w hSw
                  (try dsimp only at hSw)
                  first | (go_simp; done) | (go_simp; with_reducible rfl)
                simp only [Act.put, List.setIfInBounds_toArray, List.set_cons_zero, List.set_cons_succ]
                refine' wpAnyH_take (i := 17) (oi := { dst := some 134, op := Op.fieldAddr 25 (Operand.tmp 9) 0, type := 0, pos := _, after := #[{ on := 14, ground := Ground.guard }], guard := some (14, true) }) (v := _) rfl (by kernel_rfl) (by kernel_rfl) (by kernel_rfl) (fun _ _ _ h => h) (Or.inl ⟨by rfl, ?hy212⟩) hHeld ?rest212
                case' hy212 =>
                  intro w hSw
                  (try dsimp only at hSw)
                  first | (go_simp; done) | (go_simp; with_reducible rfl)
                simp only [Act.put, List.setIfInBounds_toArray, List.set_cons_zero, List.set_cons_succ]
                refine' wpAnyH_take (i := 18) (oi := { dst := some 135, op := Op.load 3 (Operand.tmp 134), type := 3, pos := _, after := #[{ on := 17, ground := Ground.data }, { on := 14, ground := Ground.guard }], guard := some (14, true) }) (v := _) rfl (by kernel_rfl) (by kernel_rfl) (by kernel_rfl) (fun _ _ _ h => h) (Or.inl ⟨by rfl, ?hy213⟩) hHeld ?rest213
                case' hy213 =>
                  intro w hSw
                  (try dsimp only at hSw)
                  first | (go_simp; done) | (go_simp; with_reducible rfl)
                simp only [Act.put, List.setIfInBounds_toArray, List.set_cons_zero, List.set_cons_succ]
                refine' wpAnyH_take (i := 19) (oi := { dst := some 136, op := Op.slice 22 (Operand.tmp 133) none (some (Operand.tmp 135)) none, type := 22, pos := _, after := #[{ on := 16, ground := Ground.data }, { on := 18, ground := Ground.data }, { on := 14, ground := Ground.guard }], guard := some (14, true) }) (v := _) rfl (by kernel_rfl) (by kernel_rfl) (by kernel_rfl) (fun _ _ _ h => h) (Or.inl ⟨by rfl, ?hy214⟩) hHeld ?rest214
                case' hy214 =>
                  intro w hSw
                  (try dsimp only at hSw)
                  first | (go_simp; done) | (go_simp; with_reducible rfl)
                simp only [Act.put, List.setIfInBounds_toArray, List.set_cons_zero, List.set_cons_succ]
                refine' wpAnyH_take (i := 21) (oi := { dst := some 138, op := Op.move (Operand.tmp 1), type := 23, pos := _, after := #[{ on := 14, ground := Ground.guard }], guard := some (14, true) }) (v := _) rfl (by kernel_rfl) (by kernel_rfl) (by kernel_rfl) (fun _ _ _ h => h) (Or.inl ⟨by rfl, ?hy215⟩) hHeld ?rest215
                case' hy215 =>
                  intro w hSw
                  (try dsimp only at hSw)
                  first | (go_simp; done) | (go_simp; with_reducible rfl)
                simp only [Act.put, List.setIfInBounds_toArray, List.set_cons_zero, List.set_cons_succ]
                refine wpAnyH_ready (rs := [20]) (by kernel_rfl) (by simp) ?_
                refine AllReadyH.cons (o := { dst := some 137, op := Op.call { callee := Callee.value (Operand.func 9), args := #[Operand.tmp 136], argTypes := #[22] }, type := 22, pos := _, after := #[{ on := 19, ground := Ground.data }, { on := 14, ground := Ground.chain }, { on := 14, ground := Ground.guard }], guard := some (14, true) }) rfl (fun K hK => ?_) AllReadyH.nil
                go_simp
                refine Calls.mono (twin_e (some ad) cap N' (l.take N') _ ?bx216 HlN.out HnN.out) ?_
                case bx216 => exact (HR.out.1.later HBd.out).row.take N' cap (fun e => by cases e)
                rintro e X5 ⟨g5, rfl, hc5, hb⟩
                have HCX5 : Hid _ := hc5
                replace HB : Hid (Below w.heap.size w X5) := HBd.out.trans (hb.mono HBd.out.size)
                replace HP9 : Hid (X5.heap[p2]? = some _) := (hb.block _ (block_lt HP9.out)).trans HP9.out
                clear hb hc5
                go_wp2_with fail
                refine hK.out _ _ ?hS217 (fun hHeld => ?rest217)
                case hS217 => exact ⟨blk_at HP9.out 0, blk_at HP9.out 1⟩
                clear hK K
                refine wpAnyH_ready (rs := [22]) (by kernel_rfl) (by simp) ?_
                refine AllReadyH.cons (o := { dst := some 139, op := Op.call { callee := Callee.value (Operand.func 8), args := #[Operand.tmp 132, Operand.tmp 137, Operand.tmp 138], argTypes := #[3, 22, 23] }, type := 25, pos := _, after := #[{ on := 15, ground := Ground.data }, { on := 20, ground := Ground.data }, { on := 21, ground := Ground.data }, { on := 20, ground := Ground.chain }, { on := 14, ground := Ground.guard }], guard := some (14, true) }) rfl (fun K hK => ?_) AllReadyH.nil
                go_simp
                refine Calls.mono (told_n k N' hlt (some ⟨g5, 0, none⟩) (N' + 4) (l.take N') HlN.out most X5 HCX5.out HnN.out hm4) ?_
                rintro e X6 ⟨N6, E6, m6, ao6, cp6, rfl, hto6, hrow6⟩
                rw [HT2.out] at hto6
                simp only [Prod.mk.injEq] at hto6
                obtain ⟨rfl, rfl, _⟩ := hto6
                have hb := hrow6.bel
                replace HB : Hid (Below w.heap.size w X6) := HB.out.trans (hb.mono HB.out.size)
                replace HP9 : Hid (X6.heap[p2]? = some _) := (hb.block _ (block_lt HP9.out)).trans HP9.out
                clear hb hrow6 HCX5
                go_wp2_with fail
                refine hK.out _ _ ?hS218 (fun hHeld => ?rest218)
                case hS218 => exact ⟨blk_at HP9.out 0, blk_at HP9.out 1⟩
                clear hK K
                refine' wpAnyH_take (i := 23) (oi := { dst := some 140, op := Op.field 25 (Operand.tmp 139) 1, type := 3, pos := _, after := #[{ on := 22, ground := Ground.data }, { on := 14, ground := Ground.guard }], guard := some (14, true) }) (v := _) rfl (by kernel_rfl) (by kernel_rfl) (by kernel_rfl) (fun _ _ _ h => h) (Or.inl ⟨by rfl, ?hy219⟩) hHeld ?rest219
                case' hy219 =>
                  intro w hSw
                  (try dsimp only at hSw)
                  first | (go_simp; done) | (go_simp; with_reducible rfl)
                simp only [Act.put, List.setIfInBounds_toArray, List.set_cons_zero, List.set_cons_succ]
                refine' wpAnyH_take (i := 24) (oi := { dst := some 141, op := Op.binOp BinOp.eql 3 (Operand.tmp 140) (Operand.const (Value.int IntKind.i64 10)) 3, type := 4, pos := _, after := #[{ on := 23, ground := Ground.data }, { on := 14, ground := Ground.guard }], guard := some (14, true) }) (v := _) rfl (by kernel_rfl) (by kernel_rfl) (by kernel_rfl) (fun _ _ _ h => h) (Or.inl ⟨by rfl, ?hy220⟩) hHeld ?rest220
                case' hy220 =>
                  intro w hSw
                  (try dsimp only at hSw)
                  first | (go_simp; done) | (go_simp; with_reducible rfl)
                simp only [Act.put, List.setIfInBounds_toArray, List.set_cons_zero, List.set_cons_succ]
                refine' wpAnyH_take (i := 25) (oi := { dst := some 142, op := Op.pick (Operand.tmp 131) (Operand.tmp 141) (Operand.const (Value.bool false)), type := 4, pos := _, after := #[{ on := 14, ground := Ground.data }, { on := 24, ground := Ground.data }, { on := 8, ground := Ground.guard }], guard := some (8, false) }) (v := _) rfl (by kernel_rfl) (by kernel_rfl) (by kernel_rfl) (fun _ _ _ h => h) (Or.inl ⟨by rfl, ?hy221⟩) hHeld ?rest221
                case' hy221 =>
                  intro w hSw
                  (try dsimp only at hSw)
                  first | (go_simp; done) | (go_simp; with_reducible rfl)
                simp only [Act.put, List.setIfInBounds_toArray, List.set_cons_zero, List.set_cons_succ]
                refine' wpAnyH_take (i := 26) (oi := { dst := some 143, op := Op.move (Operand.tmp 142), type := 4, pos := _, after := #[{ on := 25, ground := Ground.data }, { on := 22, ground := Ground.chain }, { on := 8, ground := Ground.guard }], guard := some (8, false) }) (v := _) rfl (by kernel_rfl) (by kernel_rfl) (by kernel_rfl) (fun _ _ _ h => h) (Or.inl ⟨by rfl, ?hy222⟩) hHeld ?rest222
                case' hy222 =>
                  intro w hSw
                  (try dsimp only at hSw)
                  first | (go_simp; done) | (go_simp; with_reducible rfl)
                simp only [Act.put, List.setIfInBounds_toArray, List.set_cons_zero, List.set_cons_succ]
                refine' wpAnyH_take (i := 27) (oi := { dst := some 144, op := Op.move (Operand.tmp 7), type := 3, pos := _, after := #[{ on := 26, ground := Ground.guard }], guard := some (26, true) }) (v := undef) rfl (by kernel_rfl) (by kernel_rfl) (by kernel_rfl) (fun _ _ _ h => h) (Or.inr ⟨by rfl, rfl⟩) hHeld ?_
                simp only [Act.put, List.setIfInBounds_toArray, List.set_cons_zero, List.set_cons_succ]
                refine' wpAnyH_take (i := 28) (oi := { dst := some 145, op := Op.move (Operand.tmp 0), type := 22, pos := _, after := #[{ on := 26, ground := Ground.guard }], guard := some (26, true) }) (v := undef) rfl (by kernel_rfl) (by kernel_rfl) (by kernel_rfl) (fun _ _ _ h => h) (Or.inr ⟨by rfl, rfl⟩) hHeld ?_
                simp only [Act.put, List.setIfInBounds_toArray, List.set_cons_zero, List.set_cons_succ]
                refine' wpAnyH_take (i := 29) (oi := { dst := some 146, op := Op.fieldAddr 25 (Operand.tmp 9) 0, type := 0, pos := _, after := #[{ on := 26, ground := Ground.guard }], guard := some (26, true) }) (v := undef) rfl (by kernel_rfl) (by kernel_rfl) (by kernel_rfl) (fun _ _ _ h => h) (Or.inr ⟨by rfl, rfl⟩) hHeld ?_
                simp only [Act.put, List.setIfInBounds_toArray, List.set_cons_zero, List.set_cons_succ]
                refine' wpAnyH_take (i := 30) (oi := { dst := some 147, op := Op.load 3 (Operand.tmp 146), type := 3, pos := _, after := #[{ on := 29, ground := Ground.data }, { on := 26, ground := Ground.guard }], guard := some (26, true) }) (v := undef) rfl (by kernel_rfl) (by kernel_rfl) (by kernel_rfl) (fun _ _ _ h => h) (Or.inr ⟨by rfl, rfl⟩) hHeld ?_
                simp only [Act.put, List.setIfInBounds_toArray, List.set_cons_zero, List.set_cons_succ]
                refine' wpAnyH_take (i := 31) (oi := { dst := some 148, op := Op.slice 22 (Operand.tmp 145) none (some (Operand.tmp 147)) none, type := 22, pos := _, after := #[{ on := 28, ground := Ground.data }, { on := 30, ground := Ground.data }, { on := 26, ground := Ground.guard }], guard := some (26, true) }) (v := undef) rfl (by kernel_rfl) (by kernel_rfl) (by kernel_rfl) (fun _ _ _ h => h) (Or.inr ⟨by rfl, rfl⟩) hHeld ?_
                simp only [Act.put, List.setIfInBounds_toArray, List.set_cons_zero, List.set_cons_succ]
                refine' wpAnyH_take (i := 32) (oi := { dst := some 149, op := Op.call { callee := Callee.value (Operand.func 9), args := #[Operand.tmp 148], argTypes := #[22] }, type := 22, pos := _, after := #[{ on := 31, ground := Ground.data }, { on := 26, ground := Ground.chain }, { on := 26, ground := Ground.guard }], guard := some (26, true) }) (v := undef) rfl (by kernel_rfl) (by kernel_rfl) (by kernel_rfl) (fun _ _ _ h => h) (Or.inr ⟨by rfl, rfl⟩) hHeld ?_
                simp only [Act.put, List.setIfInBounds_toArray, List.set_cons_zero, List.set_cons_succ]
                refine' wpAnyH_take (i := 33) (oi := { dst := some 150, op := Op.move (Operand.tmp 1), type := 23, pos := _, after := #[{ on := 26, ground := Ground.guard }], guard := some (26, true) }) (v := undef) rfl (by kernel_rfl) (by kernel_rfl) (by kernel_rfl) (fun _ _ _ h => h) (Or.inr ⟨by rfl, rfl⟩) hHeld ?_
                simp only [Act.put, List.setIfInBounds_toArray, List.set_cons_zero, List.set_cons_succ]
                refine' wpAnyH_take (i := 34) (oi := { dst := some 151, op := Op.call { callee := Callee.value (Operand.func 8), args := #[Operand.tmp 144, Operand.tmp 149, Operand.tmp 150], argTypes := #[3, 22, 23] }, type := 25, pos := _, after := #[{ on := 27, ground := Ground.data }, { on := 32, ground := Ground.data }, { on := 33, ground := Ground.data }, { on := 32, ground := Ground.chain }, { on := 26, ground := Ground.guard }], guard := some (26, true) }) (v := undef) rfl (by kernel_rfl) (by kernel_rfl) (by kernel_rfl) (fun _ _ _ h => h) (Or.inr ⟨by rfl, rfl⟩) hHeld ?_
                simp only [Act.put, List.setIfInBounds_toArray, List.set_cons_zero, List.set_cons_succ]
                refine' wpAnyH_take (i := 35) (oi := { dst := some 152, op := Op.field 25 (Operand.tmp 151) 0, type := 3, pos := _, after := #[{ on := 34, ground := Ground.data }, { on := 26, ground := Ground.guard }], guard := some (26, true) }) (v := undef) rfl (by kernel_rfl) (by kernel_rfl) (by kernel_rfl) (fun _ _ _ h => h) (Or.inr ⟨by rfl, rfl⟩) hHeld ?_
                simp only [Act.put, List.setIfInBounds_toArray, List.set_cons_zero, List.set_cons_succ]
                refine' wpAnyH_take (i := 36) (oi := { dst := some 153, op := Op.fieldAddr 25 (Operand.tmp 9) 0, type := 0, pos := _, after := #[{ on := 26, ground := Ground.guard }], guard := some (26, true) }) (v := undef) rfl (by kernel_rfl) (by kernel_rfl) (by kernel_rfl) (fun _ _ _ h => h) (Or.inr ⟨by rfl, rfl⟩) hHeld ?_
                simp only [Act.put, List.setIfInBounds_toArray, List.set_cons_zero, List.set_cons_succ]
                refine' wpAnyH_take (i := 37) (oi := { dst := some 154, op := Op.load 3 (Operand.tmp 153), type := 3, pos := _, after := #[{ on := 36, ground := Ground.data }, { on := 26, ground := Ground.guard }], guard := some (26, true) }) (v := undef) rfl (by kernel_rfl) (by kernel_rfl) (by kernel_rfl) (fun _ _ _ h => h) (Or.inr ⟨by rfl, rfl⟩) hHeld ?_
                simp only [Act.put, List.setIfInBounds_toArray, List.set_cons_zero, List.set_cons_succ]
                refine' wpAnyH_take (i := 38) (oi := { dst := some 155, op := Op.binOp BinOp.leq 3 (Operand.tmp 152) (Operand.tmp 154) 3, type := 4, pos := _, after := #[{ on := 35, ground := Ground.data }, { on := 37, ground := Ground.data }, { on := 26, ground := Ground.guard }], guard := some (26, true) }) (v := undef) rfl (by kernel_rfl) (by kernel_rfl) (by kernel_rfl) (fun _ _ _ h => h) (Or.inr ⟨by rfl, rfl⟩) hHeld ?_
                simp only [Act.put, List.setIfInBounds_toArray, List.set_cons_zero, List.set_cons_succ]
                refine' wpAnyH_take (i := 39) (oi := { dst := some 156, op := Op.pick (Operand.tmp 143) (Operand.tmp 155) (Operand.const (Value.bool false)), type := 4, pos := _, after := #[{ on := 26, ground := Ground.data }, { on := 38, ground := Ground.data }, { on := 8, ground := Ground.guard }], guard := some (8, false) }) (v := _) rfl (by kernel_rfl) (by kernel_rfl) (by kernel_rfl) (fun _ _ _ h => h) (Or.inl ⟨by rfl, ?hy223⟩) hHeld ?rest223
                case' hy223 =>
                  intro w hSw
                  (try dsimp only at hSw)
                  first | (go_simp; done) | (go_simp; with_reducible rfl)
                simp only [Act.put, List.setIfInBounds_toArray, List.set_cons_zero, List.set_cons_succ]
                refine' wpAnyH_take (i := 40) (oi := { dst := some 157, op := Op.pick (Operand.tmp 125) (Operand.const (Value.bool true)) (Operand.tmp 156), type := 4, pos := _, after := #[{ on := 8, ground := Ground.data }, { on := 39, ground := Ground.data }, { on := 3, ground := Ground.guard }], guard := some (3, true) }) (v := _) rfl (by kernel_rfl) (by kernel_rfl) (by kernel_rfl) (fun _ _ _ h => h) (Or.inl ⟨by rfl, ?hy224⟩) hHeld ?rest224
                case' hy224 =>
                  intro w hSw
                  (try dsimp only at hSw)
                  first | (go_simp; done) | (go_simp; with_reducible rfl)
                simp only [Act.put, List.setIfInBounds_toArray, List.set_cons_zero, List.set_cons_succ]
                refine' wpAnyH_take (i := 41) (oi := { dst := some 158, op := Op.pick (Operand.tmp 120) (Operand.tmp 157) (Operand.const (Value.bool false)), type := 4, pos := _, after := #[{ on := 3, ground := Ground.data }, { on := 40, ground := Ground.data }], guard := none }) (v := _) rfl (by kernel_rfl) (by kernel_rfl) (by kernel_rfl) (fun _ _ _ h => h) (Or.inl ⟨by rfl, ?hy225⟩) hHeld ?rest225
                case' hy225 =>
                  intro w hSw
                  (try dsimp only at hSw)
                  first | (go_simp; done) | (go_simp; with_reducible rfl)
                simp only [Act.put, List.setIfInBounds_toArray, List.set_cons_zero, List.set_cons_succ]
                refine wpAnyH_done (by kernel_rfl) ?_ _
                go_wp2
                go_roundw
                case rel => exact ⟨k + 1, by go_num, by omega, HB.out.trans ⟨rfl, rfl, rfl, Nat.le_refl _, fun _ _ => rfl⟩⟩
                case measure => simp [intOf]; omega
            · skip
              have r3 : ¬ (N' : Int) ≤ (l.length : Int) := by omega
              have r4 : decide (N' ≤ l.length) = false := by simp; omega
              go_wp2
              go_quiet (fail)
              go_wp2
              go_roundw
              case rel => exact ⟨k + 1, by go_num, by omega, HB.out.trans ⟨rfl, rfl, rfl, Nat.le_refl _, fun _ _ => rfl⟩⟩
              case measure => simp [intOf]; omega
          · have hq := HW.out.pc.els (fun h => hE10 h.symm) (fun h => hE0 h.symm)
            have hq2 : (N', E') = (N, E) := by
              rcases hq with h | h
              · exact absurd h.symm hE2
              · exact h
            simp only [Prod.mk.injEq] at hq2
            obtain ⟨hq1, hq3⟩ := hq2
            subst hq1 hq3
            clear HW HRw HRx HA HA4 hq
            go_upto_region 17 with fail
            go_wp2
            go_quiet (fail)
            go_wp2
            go_roundw
            case rel => exact ⟨k + 1, by go_num, by omega, HB.out.trans ⟨rfl, rfl, rfl, Nat.le_refl _, fun _ _ => rfl⟩⟩
            case measure => simp [intOf]; omega
    · obtain rfl : k = 11 := by omega
      go_wp2_with fail
      refine (alive_any _ (HTb.out.later HB.out)).mono ?_
      rintro e uz ⟨rfl, hb⟩
      have HW2 : Hid (Below w.heap.size w uz) := HB.out.trans (hb.mono HB.out.size)
      clear hb HB
      go_wp2
      go_ret
      exact ⟨rfl, HW2.out⟩
end Go.Proofs.YtjhickfjagalfabDoor
