import Derived.Test.YtjikibhhhchgeaaDoorJU
import Derived.Test.YtjikibhhhchgeaaDoorJLx
namespace Go.Proofs.YtjikibhhhchgeaaDoor
open Go.RowKit
set_option linter.unusedVariables false
set_option linter.unusedSimpArgs false
set_option maxRecDepth 100000

set_option maxHeartbeats 400000 in
theorem num_any (e : Int) (w : World) : Calls Tryd.prog 12 #[.int .i64 e] w fun r w' => r = .returned (.int .i64 e) ∧ w' = w := by
  go_enter Tryd.func12, Tryd.ntmps12
  go_wp2
  go_ret
  exact ⟨rfl, rfl⟩
theorem oL3_len : (oL 3 []).length = 16 := by decide
theorem gL3_len : (gL 3).length = 18 := by decide
theorem brow_nil (w : World) : BRow w none 0 [] := ⟨by simp, by simp, fun _ => ⟨rfl, rfl⟩, fun h => absurd rfl h⟩
set_option maxHeartbeats 4000000 in
theorem alive_any (w : World) (hT : Tb w) : Calls Tryd.prog 10 #[] w fun e w' => e = .returned (.bool true) ∧ Below w.heap.size w w' := by
  have HE : Hid (Calls Tryd.prog 48 #[.agg #[.int .u32 3, .int .u32 0, .bool false, .slice none 0 0]] w fun e w' => ∃ ao cap, e = .returned (.tuple #[.slice ao 16 cap, .int .i64 0]) ∧ Row w w' ao cap (oL 3 [])) := by
    have := encOption 3 none 0 [] w (by decide) (brow_nil w) (by simp) (by simp)
    rw [oL3_len] at this
    exact this
  have HTb : Hid (Tb w) := hT
  have HNum : Hid (∀ (e : Int) (w : World), Calls Tryd.prog 12 #[.int .i64 e] w fun r w' => r = .returned (.int .i64 e) ∧ w' = w) := num_any
  clear hT
  go_enter Tryd.func10, Tryd.ntmps10
  go_wp2_with fail
  refine HE.out.mono ?_
  rintro e w1 ⟨ao, cap, rfl, hr⟩
  have hc := hr.crow (by rw [oL3_len]; decide)
  have hb1 := hr.bel
  obtain ⟨b, off, rfl⟩ := hc.some (by rw [oL3_len]; decide)
  have HD : Hid (Calls Tryd.prog 49 #[.slice (some ⟨b, off, none⟩) 16 cap, .int .u32 0] w1 fun e w' => ∃ ao2 cap2, e = .returned (.tuple #[.agg #[.int .u32 3, .int .u32 0, .bool false, .slice ao2 0 cap2], .int .i64 16, .int .i64 0]) ∧ Below w1.heap.size w1 w') :=
    (decOption_ok b off cap 16 (oL 3 []) 0 3 0 w1 hc oL3_len (by decide) (by show valB _ = _; decide) (by show valB _ = _; decide) (by show valB _ = _; decide) (by decide) (by decide) (by decide) (by decide) (by decide) 16 rfl [] (by simp)).mono fun e w' ⟨ao2, cap2, he, _, hb⟩ => ⟨ao2, cap2, he, hb⟩
  have HB1 : Hid (Below w.heap.size w w1) := hb1
  clear hr hc hb1 HE
  go_wp2_with fail
  refine HD.out.mono ?_
  rintro e w2 ⟨ao2, cap2, rfl, hb⟩
  have HB2 : Hid (Below w.heap.size w w2) := HB1.out.trans (hb.mono HB1.out.size)
  clear hb HD HB1
  go_wp2_with (first | (go_at_call 12; refine (HNum.out _ _).mono ?_; rintro e w9 ⟨rfl, rfl⟩))
  obtain ⟨W3, hW3⟩ : ∃ W3, W3 = w2.alloc (.cells #[.int .u32 3, .int .u32 0, .bool false, .slice ao2 0 cap2] 111) := ⟨_, rfl⟩
  have HB3 : Hid (Below w.heap.size w W3) := by rw [hW3]; exact HB2.out.alloc HB2.out.size _
  rw [← hW3]
  clear hW3
  have HG : Hid (Calls Tryd.prog 50 #[.agg #[.int .u16 3]] W3 fun e w' => ∃ ao cap, e = .returned (.slice ao 18 cap) ∧ Row W3 w' ao cap (gL 3)) := by
    have := encGreeting 3 W3 (by decide)
    rw [gL3_len] at this
    exact this
  refine HG.out.mono ?_
  rintro e w4 ⟨ao4, cap4, rfl, hr⟩
  have hb4 : Below w.heap.size w w4 := HB3.out.trans (hr.bel.mono HB3.out.size)
  have HN : Hid (Calls Tryd.prog 51 #[.int .i64 1, .int .u32 7] w4 fun e w' => e = .returned (.string ⟨#[103, 111]⟩) ∧ Below w4.heap.size w4 w') := by
    have := wname_any 1 7 w4 (HTb.out.later hb4)
    rw [show nameOf 1 7 = ⟨#[103, 111]⟩ by kernel_rfl] at this
    exact this
  have HB4 : Hid (Below w.heap.size w w4) := hb4
  clear hr hb4 HG HB3 HB2
  go_wp2_with fail
  refine HN.out.mono ?_
  rintro e w5 ⟨rfl, hb⟩
  have HB5 : Hid (Below w.heap.size w w5) := HB4.out.trans (hb.mono HB4.out.size)
  clear hb HN
  go_wp2
  go_ret
  exact ⟨rfl, HB5.out⟩
end Go.Proofs.YtjikibhhhchgeaaDoor
