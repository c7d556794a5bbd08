import Derived.Test.YtjhickfjagalfabDoorQ47
import Derived.Test.YtjhickfjagalfabDoorQ17
import Derived.Test.YtjhickfjagalfabDoorQ16
import Derived.Test.YtjhickfjagalfabDoorQ25
import Derived.Deep.CutRange
namespace Go.Proofs.YtjhickfjagalfabDoor
open Go.RowKit
set_option linter.unusedVariables false
set_option linter.unusedSimpArgs false
set_option maxRecDepth 100000
theorem twin_crow {W : World} {g : Nat} {l : List Nat} (h : W.heap[g]? = some (.cells ((tw l).map bv).toArray 5 (0, 0))) (hlt : ∀ x ∈ l, x < 256) (hl : l.length ≤ 1048576) : CRow W (some ⟨g, 0, none⟩) (l.length + 4) l :=
  ⟨twin_brow h hlt (by omega) _, by omega, by omega⟩
set_option maxHeartbeats 32000000 in
theorem wireAgain_any (ao : Option Addr) (cap : Nat) (l : List Nat) (most : Nat) (w : World) (hT : Tb w) (h : CRow w ao cap l) (hn : l.length ≤ 1048576) (hm4 : most < 4294967296) :
    Calls Tryd.prog 3 #[.slice ao l.length cap, .int .u32 (most : Int)] w fun e w' => e = .returned (.bool true) ∧ Below w.heap.size w w' := by
  have HTb : Hid (Tb w) := hT
  have HR : Hid (CRow w ao cap l ∧ l.length ≤ 1048576) := ⟨h, hn⟩
  have hcap1 := h.cap1
  have hcap2 := h.cap2
  clear hT h hn
  go_enter Tryd.func3, Tryd.ntmps3
  go_wp2
  go_loopw [5] (fun i wr => ∃ k : Nat, i = .int .i64 k ∧ k ≤ 11 ∧ Hid (Below w.heap.size w wr)) (fun i _ => 11 - (intOf i).toNat)
  case atStart => exact ⟨0, rfl, by decide, Below.refl _ _⟩
  case round =>
    obtain ⟨k, rfl, hk, HB⟩ := hrel
    by_cases hlt : k < 11
    · have hk11 : (k : Int) < 11 := by omega
      go_wp2_with fail
      refine (twin_any ao cap l.length l wr (HR.out.1.later HB.out).row rfl (by have := HR.out.2; omega)).mono ?_
      rintro e W1 ⟨rfl, hblk, hb⟩
      obtain ⟨g, hg⟩ : ∃ g, g = wr.heap.size := ⟨_, rfl⟩
      rw [← hg] at hblk ⊢
      clear hg
      have HC : Hid (CRow W1 (some ⟨g, 0, none⟩) (l.length + 4) l) := twin_crow hblk HR.out.1.row.lt HR.out.2
      have HB1 : Hid (Below w.heap.size w W1) := HB.out.trans (hb.mono HB.out.size)
      clear hb hblk HB
      go_wp2_with fail
      refine (told_any k hlt (some ⟨g, 0, none⟩) (l.length + 4) l most W1 HC.out HR.out.2 hm4).mono ?_
      rintro e W2 ⟨N, E, m, ao3, cap3, rfl, hto, hrow⟩
      have hag := again_any HR.out.1.row.lt k most hlt
      rw [hto] at hag
      have HB2 : Hid (Below w.heap.size w W2) := HB1.out.trans (hrow.bel.mono HB1.out.size)
      obtain ⟨V, hV⟩ : ∃ V, V = W2.alloc (.cells #[.int .i64 (N : Int), .int .i64 (E : Int), .slice ao3 m.length cap3] 25) := ⟨_, rfl⟩
      obtain ⟨p, hp⟩ : ∃ p, p = W2.heap.size := ⟨_, rfl⟩
      have hal : Below W2.heap.size W2 V := by rw [hV]; exact (Below.refl _ _).alloc (Nat.le_refl _) _
      have HP : Hid (V.heap[p]? = some (.cells #[.int .i64 (N : Int), .int .i64 (E : Int), .slice ao3 m.length cap3] 25 (0, 0))) := by show _ = _; rw [hV, hp]; exact heap_new W2 _
      have HB3 : Hid (Below w.heap.size w V) := HB2.out.trans (hal.mono HB2.out.size)
      have HRw : Hid (Row W1 W2 ao3 cap3 m) := hrow
      have HAl : Hid (Below W2.heap.size W2 V) := hal
      obtain ⟨her, hag0⟩ := hag
      have HG0 : Hid (E = 0 → 1 ≤ N ∧ N ≤ l.length ∧ m = l.take N) := hag0
      clear hto hrow hal hag0 HC HB1 HB2
      go_upto_region 5 with fail
      rw [← hV, ← hp]
      clear hV hp
      have x0 := blk_at HP.out 0
      have x1 := blk_at HP.out 1
      have x2 := blk_at HP.out 2
      simp at x0 x1 x2
      have her' : E = 0 ∨ E = 10 ∨ E = 12 ∨ E = 80 ∨ E = 81 := her
      clear her
      rcases her' with rfl | rfl | rfl | rfl | rfl
      · obtain ⟨n1, n2, rfl⟩ := HG0.out rfl
        have hml : (l.take N).length = N := by rw [List.length_take]; omega
        have HBm : Hid (BRow V ao3 cap3 (l.take N)) := (HRw.out.brow (by have := HR.out.2; omega)).later HAl.out
        rw [hml] at x2
        have HBb : Hid (BRow V ao cap (l.take N)) := (HR.out.1.later HB3.out).row.take N cap (fun e => ((HR.out.1.row.nil e).2))
        have HSm : Hid (∀ q, Calls Tryd.prog 10 #[.slice ao3 N cap3, .slice ao N cap] (V.drewN q) fun e w' => e = .returned (.bool true) ∧ ∃ q', w' = (V.drewN q).drewN q') := fun q => same8_q ao3 ao cap3 cap N (l.take N) _ (HBm.out.drewN q) (HBb.out.drewN q) hml
        obtain ⟨b, off, rfl⟩ := HR.out.1.some (by omega)
        have q1 : decide ((N : Int) < 1) = false := by simp; omega
        have q2 : ¬ (N : Int) < 1 := by omega
        have q3 : decide ((l.length : Int) < (N : Int)) = false := by simp; omega
        have q4 : ¬ (l.length : Int) < (N : Int) := by omega
        have q5 : (N : Int) ≤ (cap : Int) := by omega
        have q6 : (0 : Int) ≤ (N : Int) := by omega
        clear HBm HBb HG0 HRw HAl hml
        go_wp2
        go_quiet (first | (go_at_call 10; exact Calls.quiet_of (HSm.out _)) | fail)
        go_wp2
        go_roundw
        case rel => exact ⟨k + 1, by go_num, by omega, HB3.out.trans ⟨rfl, rfl, rfl, Nat.le_refl _, fun _ _ => rfl⟩⟩
        case measure => simp [intOf]; omega
      · clear HG0 HRw HAl
        go_wp2
        go_quiet (fail)
        go_wp2
        go_roundw
        case rel => exact ⟨k + 1, by go_num, by omega, HB3.out.trans ⟨rfl, rfl, rfl, Nat.le_refl _, fun _ _ => rfl⟩⟩
        case measure => simp [intOf]; omega
      · clear HG0 HRw HAl
        go_wp2
        go_quiet (fail)
        go_wp2
        go_roundw
        case rel => exact ⟨k + 1, by go_num, by omega, HB3.out.trans ⟨rfl, rfl, rfl, Nat.le_refl _, fun _ _ => rfl⟩⟩
        case measure => simp [intOf]; omega
      · clear HG0 HRw HAl
        go_wp2
        go_quiet (fail)
        go_wp2
        go_roundw
        case rel => exact ⟨k + 1, by go_num, by omega, HB3.out.trans ⟨rfl, rfl, rfl, Nat.le_refl _, fun _ _ => rfl⟩⟩
        case measure => simp [intOf]; omega
      · clear HG0 HRw HAl
        go_wp2
        go_quiet (fail)
        go_wp2
        go_roundw
        case rel => exact ⟨k + 1, by go_num, by omega, HB3.out.trans ⟨rfl, rfl, rfl, Nat.le_refl _, fun _ _ => rfl⟩⟩
        case measure => simp [intOf]; omega
    · obtain rfl : k = 11 := by omega
      go_wp2_with fail
      refine (alive_any _ (HTb.out.later HB.out)).mono ?_
      rintro e uz ⟨rfl, hb⟩
      have HW2 : Hid (Below w.heap.size w uz) := HB.out.trans (hb.mono HB.out.size)
      clear hb HB
      go_wp2
      go_ret
      exact ⟨rfl, HW2.out⟩
end Go.Proofs.YtjhickfjagalfabDoor
