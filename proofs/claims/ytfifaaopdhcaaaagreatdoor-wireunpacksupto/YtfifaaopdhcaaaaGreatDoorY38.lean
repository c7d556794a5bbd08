import Derived.Test.YtfifaaopdhcaaaaGreatDoorY37
import Derived.Deep.RegionHeld3
namespace Go.Proofs.YtfifaaopdhcaaaaGreatDoor
open Go.RowKit
set_option linter.unusedVariables false
set_option linter.unusedSimpArgs false
set_option maxRecDepth 100000
set_option maxHeartbeats 400000 in
theorem same08_any (ao bo : Option Addr) (cap cap' n n' : Nat) (l l' : List Nat) (w : World) (h : BRow w ao cap l) (h' : BRow w bo cap' l') (hn : l.length = n) (hn' : l'.length = n') :
    Calls Tryz.prog 42 #[.slice ao n cap, .slice bo n' cap'] w fun e w' => e = .returned (.bool (decide (l = l'))) ∧ Below w.heap.size w w' := by
  have H1 : Hid (Calls Tryz.prog 73 #[.slice ao n cap, .slice bo n' cap'] w fun e w' => e = .returned (.bool (decide (l = l'))) ∧ ∃ q, w' = w.drewN q) := by
    have := same_any ao bo cap cap' l l' w h h'
    rw [hn, hn'] at this
    exact this
  clear h h'
  go_enter Tryz.func42, Tryz.ntmps42
  go_wp2_with fail
  refine H1.out.mono ?_
  rintro e w1 ⟨rfl, q, hw⟩
  rw [hw]; clear hw
  go_wp2
  go_ret
  exact ⟨rfl, below_drewN _ _⟩
set_option maxHeartbeats 4000000 in
theorem sameInfo_any (k sz fl : Nat) (s : ByteArray) (mn pf mx : Nat) (da : Option Addr) (n dc : Nat) (d : List Nat) (sz2 fl2 : Nat) (s2 : ByteArray) (mn2 pf2 mx2 : Nat) (eb : Option Addr) (m ec : Nat) (d2 : List Nat) (c1 c2 c3 c4 c5 c6 : Bool) (w : World) (hr : BRow w da dc d) (hd : d.length = n) (hr2 : BRow w eb ec d2) (hd2 : d2.length = m) (e1 : ((sz : Int) == (sz2 : Int)) = c1) (e2 : ((fl : Int) == (fl2 : Int)) = c2) (e3 : (s.toList == s2.toList) = c3) (e4 : ((mn : Int) == (mn2 : Int)) = c4) (e5 : ((pf : Int) == (pf2 : Int)) = c5) (e6 : ((mx : Int) == (mx2 : Int)) = c6) :
    Calls Tryz.prog 8 #[.agg #[.int .u16 (k : Int), .int .u64 (sz : Int), .int .u16 (fl : Int), .string s, .int .u32 (mn : Int), .int .u32 (pf : Int), .int .u32 (mx : Int), .slice da n dc], .agg #[.int .u16 (k : Int), .int .u64 (sz2 : Int), .int .u16 (fl2 : Int), .string s2, .int .u32 (mn2 : Int), .int .u32 (pf2 : Int), .int .u32 (mx2 : Int), .slice eb m ec]] w fun e w' => e = .returned (.bool (c1 && (c2 && (c3 && (c4 && (c5 && (c6 && decide (d = d2)))))))) ∧ Below w.heap.size w w' := by
  obtain ⟨c7, h7⟩ : ∃ c, decide (d = d2) = c := ⟨_, rfl⟩
  have HS : Hid (∀ W, Below w.heap.size w W → Calls Tryz.prog 42 #[.slice da n dc, .slice eb m ec] W fun e w' => e = .returned (.bool c7) ∧ Below W.heap.size W w') := fun W hb => by have h := same08_any da eb dc ec n m d d2 W (hr.later hb) (hr2.later hb) hd hd2; rw [h7] at h; exact h
  rw [h7]
  clear hr hd hr2 hd2 h7
  have hx := mkb2 w #[.int .u16 (k : Int), .int .u64 (sz : Int), .int .u16 (fl : Int), .string s, .int .u32 (mn : Int), .int .u32 (pf : Int), .int .u32 (mx : Int), .slice da n dc] #[.int .u16 (k : Int), .int .u64 (sz2 : Int), .int .u16 (fl2 : Int), .string s2, .int .u32 (mn2 : Int), .int .u32 (pf2 : Int), .int .u32 (mx2 : Int), .slice eb m ec] 28 28
  go_enter Tryz.func8, Tryz.ntmps8
  go_upto_region 1 with fail
  generalize (w.alloc (Obj.cells #[.int .u16 (k : Int), .int .u64 (sz : Int), .int .u16 (fl : Int), .string s, .int .u32 (mn : Int), .int .u32 (pf : Int), .int .u32 (mx : Int), .slice da n dc] 28)).alloc (Obj.cells #[.int .u16 (k : Int), .int .u64 (sz2 : Int), .int .u16 (fl2 : Int), .string s2, .int .u32 (mn2 : Int), .int .u32 (pf2 : Int), .int .u32 (mx2 : Int), .slice eb m ec] 28) = W1 at *
  have HY : Hid (Bx2 w W1 #[.int .u16 (k : Int), .int .u64 (sz : Int), .int .u16 (fl : Int), .string s, .int .u32 (mn : Int), .int .u32 (pf : Int), .int .u32 (mx : Int), .slice da n dc] #[.int .u16 (k : Int), .int .u64 (sz2 : Int), .int .u16 (fl2 : Int), .string s2, .int .u32 (mn2 : Int), .int .u32 (pf2 : Int), .int .u32 (mx2 : Int), .slice eb m ec] 28 28) := hx
  clear hx
  have q0 := blk_at HY.out.a 0
  have r0 := blk_at HY.out.b 0
  have q1 := blk_at HY.out.a 1
  have r1 := blk_at HY.out.b 1
  have q2 := blk_at HY.out.a 2
  have r2 := blk_at HY.out.b 2
  have q3 := blk_at HY.out.a 3
  have r3 := blk_at HY.out.b 3
  have q4 := blk_at HY.out.a 4
  have r4 := blk_at HY.out.b 4
  have q5 := blk_at HY.out.a 5
  have r5 := blk_at HY.out.b 5
  have q6 := blk_at HY.out.a 6
  have r6 := blk_at HY.out.b 6
  have q7 := blk_at HY.out.a 7
  have r7 := blk_at HY.out.b 7
  simp at q0 r0 q1 r1 q2 r2 q3 r3 q4 r4 q5 r5 q6 r6 q7 r7
  cases c1 with
  | false =>
    go_wp2
    go_ret
    exact ⟨by simp, HY.out.bel⟩
  | true =>
    cases c2 with
    | false =>
      go_wp2
      go_ret
      exact ⟨by simp, HY.out.bel⟩
    | true =>
      cases c3 with
      | false =>
        go_wp2
        go_ret
        exact ⟨by simp, HY.out.bel⟩
      | true =>
        cases c4 with
        | false =>
          go_wp2
          go_ret
          exact ⟨by simp, HY.out.bel⟩
        | true =>
          cases c5 with
          | false =>
            go_wp2
            go_ret
            exact ⟨by simp, HY.out.bel⟩
          | true =>
            cases c6 with
            | false =>
              go_wp2
              go_ret
              exact ⟨by simp, HY.out.bel⟩
            | true =>
              go_wp2_with fail
              refine (HS.out _ HY.out.bel).mono ?_
              rintro e W5 ⟨rfl, hb5⟩
              have HB5 : Hid (Below w.heap.size w W5) := HY.out.bel.trans (hb5.mono HY.out.bel.size)
              clear hb5
              go_wp2
              go_ret
              exact ⟨by simp, HB5.out⟩
end Go.Proofs.YtfifaaopdhcaaaaGreatDoor
