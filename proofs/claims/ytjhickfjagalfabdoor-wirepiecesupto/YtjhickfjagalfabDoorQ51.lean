import Derived.Test.YtjhickfjagalfabDoorQ49
import Derived.Deep.CutRange
import Derived.Deep.RegionHeld3
namespace Go.Proofs.YtjhickfjagalfabDoor
open Go.RowKit
set_option linter.unusedVariables false
set_option linter.unusedSimpArgs false
set_option maxRecDepth 100000
set_option maxHeartbeats 4000000 in
theorem wirePieces_out (ao : Option Addr) (cap n : Nat) (most : Nat) (z : Int) (w : World) (hT : Tb w) (hz : z < 0 ∨ (n : Int) < z) :
    Calls Tryd.prog 4 #[.slice ao n cap, .int .u32 (most : Int), .int .i64 z] w fun e w' => e = .returned (.bool true) ∧ Below w.heap.size w w' := by
  have HTb : Hid (Tb w) := hT
  clear hT
  by_cases h0 : z < 0
  · clear hz
    go_enter Tryd.func4, Tryd.ntmps4
    go_wp2_with fail
    refine (alive_any _ HTb.out).mono ?_
    rintro e uz ⟨rfl, hb⟩
    have HW2 : Hid (Below w.heap.size w uz) := hb
    clear hb
    go_wp2
    go_ret
    exact ⟨rfl, HW2.out⟩
  · have h1 : (n : Int) < z := by omega
    clear hz
    go_enter Tryd.func4, Tryd.ntmps4
    go_wp2_with fail
    refine (alive_any _ HTb.out).mono ?_
    rintro e uz ⟨rfl, hb⟩
    have HW2 : Hid (Below w.heap.size w uz) := hb
    clear hb
    go_wp2
    go_ret
    exact ⟨rfl, HW2.out⟩
set_option maxHeartbeats 64000000 in
theorem wirePieces_none (most : Nat) (w : World) (hT : Tb w) (hm4 : most < 4294967296) :
    Calls Tryd.prog 4 #[.slice none 0 0, .int .u32 (most : Int), .int .i64 0] w fun e w' => e = .returned (.bool true) ∧ Below w.heap.size w w' := by
  have h : CRow w none 0 [] := ⟨⟨by simp, by simp, fun _ => ⟨rfl, rfl⟩, fun h => absurd rfl h⟩, by simp, by decide⟩
  have HTb : Hid (Tb w) := hT
  have HR : Hid (CRow w none 0 ([] : List Nat) ∧ ([] : List Nat).length ≤ 1048576 ∧ 0 ≤ ([] : List Nat).length) := ⟨h, by simp, by simp⟩
  have hlc : (([] : List Nat).take 0).length = 0 := by simp
  have HLc : Hid ((([] : List Nat).take 0).length = 0) := hlc
  clear hT h hlc
  go_enter Tryd.func4, Tryd.ntmps4
  go_wp2
  go_loopw [7] (fun i wr => ∃ k : Nat, i = .int .i64 k ∧ k ≤ 11 ∧ Hid (Below w.heap.size w wr)) (fun i _ => 11 - (intOf i).toNat)
  case atStart => exact ⟨0, rfl, by decide, Below.refl _ _⟩
  case round =>
    obtain ⟨k, rfl, hk, HB⟩ := hrel
    by_cases hlt : k < 11
    · have hk11 : (k : Int) < 11 := by omega
      go_wp2_with fail
      refine (twin_e none 0 0 ([] : List Nat) wr (HR.out.1.later HB.out).row rfl HR.out.2.1).mono ?_
      rintro e W1 ⟨g, rfl, hc1, hb⟩
      have HC : Hid _ := hc1
      replace HB : Hid (Below w.heap.size w W1) := HB.out.trans (hb.mono HB.out.size)
      clear hb hc1
      go_wp2_with fail
      refine (told_n k 0 hlt (some ⟨g, 0, none⟩) (0 + 4) ([] : List Nat) rfl most W1 HC.out HR.out.2.1 hm4).mono ?_
      rintro e W2 ⟨N, E, m, ao3, cap3, rfl, hto, hrow⟩
      have HTo : Hid (toD k most ([] : List Nat) = (N, E, m)) := hto
      replace HB : Hid (Below w.heap.size w W2) := HB.out.trans (hrow.bel.mono HB.out.size)
      have HRw : Hid (Row W1 W2 ao3 cap3 m) := hrow
      clear hto hrow HC
      obtain ⟨V, hV⟩ : ∃ V, V = W2.alloc (.cells #[.int .i64 (N : Int), .int .i64 (E : Int), .slice ao3 m.length cap3] 25) := ⟨_, rfl⟩
      obtain ⟨p, hp⟩ : ∃ p, p = W2.heap.size := ⟨_, rfl⟩
      have hal : Below W2.heap.size W2 V := by rw [hV]; exact (Below.refl _ _).alloc (Nat.le_refl _) _
      have HP8 : Hid (V.heap[p]? = some (.cells #[.int .i64 (N : Int), .int .i64 (E : Int), .slice ao3 m.length cap3] 25 (0, 0))) := by show _ = _; rw [hV, hp]; exact heap_new W2 _
      replace HB : Hid (Below w.heap.size w V) := HB.out.trans (hal.mono HB.out.size)
      have HA : Hid (Below W2.heap.size W2 V) := hal
      clear hal
      go_wp2_with fail
      rw [← hV, ← hp]
      clear hV hp
      refine (twin_e none 0 0 (([] : List Nat).take 0) V ((HR.out.1.later HB.out).row.take 0 0 (fun e => rfl)) HLc.out (by have := HR.out.2; omega)).mono ?_
      rintro e W3 ⟨g2, rfl, hc1, hb⟩
      have HC : Hid _ := hc1
      replace HB : Hid (Below w.heap.size w W3) := HB.out.trans (hb.mono HB.out.size)
      replace HA : Hid (Below W2.heap.size W2 W3) := HA.out.trans (hb.mono HA.out.size)
      replace HP8 : Hid (W3.heap[p]? = some _) := (hb.block _ (block_lt HP8.out)).trans HP8.out
      clear hb hc1
      go_wp2_with fail
      refine (told_n k 0 hlt (some ⟨g2, 0, none⟩) (0 + 4) (([] : List Nat).take 0) HLc.out most W3 HC.out (by have := HR.out.2; omega) hm4).mono ?_
      rintro e W4 ⟨N', E', m', ao4, cap4, rfl, hto, hrow⟩
      have HW : Hid (Pw k most 0 ([] : List Nat) N E m N' E' m') := pw_of hlt HR.out.1.row.lt HR.out.2.2 HTo.out hto
      replace HB : Hid (Below w.heap.size w W4) := HB.out.trans (hrow.bel.mono HB.out.size)
      replace HA : Hid (Below W2.heap.size W2 W4) := HA.out.trans (hrow.bel.mono HA.out.size)
      replace HP8 : Hid (W4.heap[p]? = some _) := (hrow.bel.block _ (block_lt HP8.out)).trans HP8.out
      have HRx : Hid (Row W3 W4 ao4 cap4 m') := hrow
      clear hto hrow HC HTo
      obtain ⟨V2, hV⟩ : ∃ V, V = W4.alloc (.cells #[.int .i64 (N' : Int), .int .i64 (E' : Int), .slice ao4 m'.length cap4] 25) := ⟨_, rfl⟩
      obtain ⟨p2, hp⟩ : ∃ p, p = W4.heap.size := ⟨_, rfl⟩
      have hal : Below W4.heap.size W4 V2 := by rw [hV]; exact (Below.refl _ _).alloc (Nat.le_refl _) _
      have HP9 : Hid (V2.heap[p2]? = some (.cells #[.int .i64 (N' : Int), .int .i64 (E' : Int), .slice ao4 m'.length cap4] 25 (0, 0))) := by show _ = _; rw [hV, hp]; exact heap_new W4 _
      replace HB : Hid (Below w.heap.size w V2) := HB.out.trans (hal.mono HB.out.size)
      replace HA : Hid (Below W2.heap.size W2 V2) := HA.out.trans (hal.mono HA.out.size)
      replace HP8 : Hid (V2.heap[p]? = some _) := (hal.block _ (block_lt HP8.out)).trans HP8.out
      have HA4 : Hid (Below W4.heap.size W4 V2) := hal
      clear hal
      go_upto_region 8 with fail
      rw [← hV, ← hp]
      clear hV hp
      have x0 := blk_at HP8.out 0
      have x1 := blk_at HP8.out 1
      have x2 := blk_at HP8.out 2
      have y0 := blk_at HP9.out 0
      have y1 := blk_at HP9.out 1
      have y2 := blk_at HP9.out 2
      simp at x0 x1 x2 y0 y1 y2
      by_cases hE10 : 10 = E
      · subst hE10
        obtain ⟨e1, e2⟩ := HW.out.pc.ten rfl
        simp only at e1 e2
        subst e1
        have hN : 0 < N := HW.out.sg rfl
        have s1 : ¬ (N : Int) < (N' : Int) := by omega
        have s2 : decide (N < N') = false := by simp; omega
        have s3 : ¬ (N : Int) ≤ (0 : Int) := by omega
        have s4 : decide (N ≤ 0) = false := by simp; omega
        have hsg : 0 < N' := HW.out.sg' rfl
        have r1 : ¬ (N' : Int) ≤ (0 : Int) := by omega
        have r2 : decide (N' ≤ 0) = false := by simp; omega
        clear HW HRw HRx HA HA4
        go_upto_region 17 with fail
        have r5 : ¬ N' = 0 := by omega
        have r6 : ¬ (N' : Int) = 0 := by omega
        have r7 : decide ((N' : Int) ≤ 0) = false := by simp; omega
        have r8 : decide (N' = 0) = false := by simp; omega
        have r3 : ¬ (N' : Int) ≤ (0 : Int) := by omega
        have r4 : decide (N' ≤ 0) = false := by simp; omega
        go_wp2
        go_quiet (fail)
        go_wp2
        go_roundw
        case rel => exact ⟨k + 1, by go_num, by omega, HB.out.trans ⟨rfl, rfl, rfl, Nat.le_refl _, fun _ _ => rfl⟩⟩
        case measure => simp [intOf]; omega
      · by_cases hE0 : 0 = E
        · subst hE0
          by_cases hcN : N ≤ 0
          · have hq := HW.out.pc.ok1 rfl hcN
            simp only [Prod.mk.injEq] at hq
            obtain ⟨hq1, hq2⟩ := hq
            subst hq1 hq2
            obtain rfl := HW.out.eq rfl hcN
            have hml : m'.length ≤ 140737488351232 := by have h1 := HW.out.ln rfl; have h2 := HR.out.2.1; omega
            have HB1 : Hid (BRow V2 ao3 cap3 m') := (HRw.out.brow hml).later HA.out
            have HB2 : Hid (BRow V2 ao4 cap4 m') := (HRx.out.brow hml).later HA4.out
            have s1 : (N' : Int) ≤ (0 : Int) := by omega
            have s2 : decide (N' ≤ 0) = true := by simp; omega
            have s3 : ¬ (0 : Int) < (N' : Int) := by omega
            have s4 : decide (0 < N') = false := by simp; omega
            clear HW HRw HRx HA HA4
            go_wp2_with fail
            refine (same8_q ao4 ao3 cap4 cap3 m'.length m' V2 HB2.out HB1.out rfl).mono ?_
            rintro e X9 ⟨rfl, q9, hw⟩
            obtain ⟨X, hX⟩ : ∃ X, X = V2.drewN q9 := ⟨_, rfl⟩
            rw [hw, ← hX]
            clear hw
            replace HB : Hid (Below w.heap.size w X) := by show Below _ _ _; rw [hX]; exact HB.out.trans ⟨rfl, rfl, rfl, Nat.le_refl _, fun _ _ => rfl⟩
            have hx8 : X.heap[p]? = V2.heap[p]? := by rw [hX]; rfl
            have hx9 : X.heap[p2]? = V2.heap[p2]? := by rw [hX]; rfl
            replace HP8 : Hid (X.heap[p]? = some _) := hx8.trans HP8.out
            replace HP9 : Hid (X.heap[p2]? = some _) := hx9.trans HP9.out
            clear hx8 hx9
            clear hX x0 x1 x2 y0 y1 y2 HB1 HB2
            have x0 := blk_at HP8.out 0
            have x1 := blk_at HP8.out 1
            have y0 := blk_at HP9.out 0
            have y1 := blk_at HP9.out 1
            simp at x0 x1 y0 y1
            go_upto_region 17 with fail
            go_wp2
            go_quiet (fail)
            go_wp2
            go_roundw
            case rel => exact ⟨k + 1, by go_num, by omega, HB.out.trans ⟨rfl, rfl, rfl, Nat.le_refl _, fun _ _ => rfl⟩⟩
            case measure => simp [intOf]; omega
          · obtain ⟨e1, e2⟩ := HW.out.pc.ok2 rfl (by omega)
            simp only at e1 e2
            subst e1
            have s1 : ¬ (N : Int) ≤ (0 : Int) := by omega
            have s2 : decide (N ≤ 0) = false := by simp; omega
            have s3 : (0 : Int) < (N : Int) := by omega
            have s4 : decide (0 < N) = true := by simp; omega
            have s5 : ¬ (N : Int) < (N' : Int) := by omega
            have s6 : decide (N < N') = false := by simp; omega
            have hsg : 0 < N' := HW.out.sg' rfl
            have r1 : ¬ (N' : Int) ≤ (0 : Int) := by omega
            have r2 : decide (N' ≤ 0) = false := by simp; omega
            clear HW HRw HRx HA HA4
            go_upto_region 17 with fail
            have r5 : ¬ N' = 0 := by omega
            have r6 : ¬ (N' : Int) = 0 := by omega
            have r7 : decide ((N' : Int) ≤ 0) = false := by simp; omega
            have r8 : decide (N' = 0) = false := by simp; omega
            have r3 : ¬ (N' : Int) ≤ (0 : Int) := by omega
            have r4 : decide (N' ≤ 0) = false := by simp; omega
            go_wp2
            go_quiet (fail)
            go_wp2
            go_roundw
            case rel => exact ⟨k + 1, by go_num, by omega, HB.out.trans ⟨rfl, rfl, rfl, Nat.le_refl _, fun _ _ => rfl⟩⟩
            case measure => simp [intOf]; omega
        · have s1 : ¬ (E : Int) = 10 := by omega
          have s2 : ((E : Int) == 10) = false := by simp; omega
          have s3 : ¬ (E : Int) = 0 := by omega
          have s4 : ((E : Int) == 0) = false := by simp; omega
          by_cases hE2 : 10 = E'
          · subst hE2
            have hsg : 0 < N' := HW.out.sg' rfl
            have r1 : ¬ (N' : Int) ≤ (0 : Int) := by omega
            have r2 : decide (N' ≤ 0) = false := by simp; omega
            clear HW HRw HRx HA HA4
            go_upto_region 17 with fail
            have r5 : ¬ N' = 0 := by omega
            have r6 : ¬ (N' : Int) = 0 := by omega
            have r7 : decide ((N' : Int) ≤ 0) = false := by simp; omega
            have r8 : decide (N' = 0) = false := by simp; omega
            have r3 : ¬ (N' : Int) ≤ (0 : Int) := by omega
            have r4 : decide (N' ≤ 0) = false := by simp; omega
            go_wp2
            go_quiet (fail)
            go_wp2
            go_roundw
            case rel => exact ⟨k + 1, by go_num, by omega, HB.out.trans ⟨rfl, rfl, rfl, Nat.le_refl _, fun _ _ => rfl⟩⟩
            case measure => simp [intOf]; omega
          · have hq := HW.out.pc.els (fun h => hE10 h.symm) (fun h => hE0 h.symm)
            have hq2 : (N', E') = (N, E) := by
              rcases hq with h | h
              · exact absurd h.symm hE2
              · exact h
            simp only [Prod.mk.injEq] at hq2
            obtain ⟨hq1, hq3⟩ := hq2
            subst hq1 hq3
            clear HW HRw HRx HA HA4 hq
            go_upto_region 17 with fail
            go_wp2
            go_quiet (fail)
            go_wp2
            go_roundw
            case rel => exact ⟨k + 1, by go_num, by omega, HB.out.trans ⟨rfl, rfl, rfl, Nat.le_refl _, fun _ _ => rfl⟩⟩
            case measure => simp [intOf]; omega
    · obtain rfl : k = 11 := by omega
      go_wp2_with fail
      refine (alive_any _ (HTb.out.later HB.out)).mono ?_
      rintro e uz ⟨rfl, hb⟩
      have HW2 : Hid (Below w.heap.size w uz) := HB.out.trans (hb.mono HB.out.size)
      clear hb HB
      go_wp2
      go_ret
      exact ⟨rfl, HW2.out⟩
end Go.Proofs.YtjhickfjagalfabDoor
