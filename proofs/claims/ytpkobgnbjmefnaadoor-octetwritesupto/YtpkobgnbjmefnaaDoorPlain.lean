import Derived.Test.YtpkobgnbjmefnaaDoorPlainW
namespace Go.Proofs.YtpkobgnbjmefnaaDoor
open Go.RowKit
set_option linter.unusedVariables false

theorem Tabs.later {w w' : World} (h : Tabs w) (hb : Below w.heap.size w w') : Tabs w' :=
  ⟨fun c hc => cell_later hb (h.1 c hc), fun i hi => ⟨cell_later hb (h.2 i hi).1, cell_later hb (h.2 i hi).2⟩⟩
theorem plain_ae : plainB [97, 195, 169] = true := by decide +kernel
theorem plain_a0 : plainB [97, 0] = false := by decide +kernel

set_option maxRecDepth 100000 in
set_option maxHeartbeats 1000000 in
theorem plainLaw_any (s : ByteArray) (w : World) (hs : s.size ≤ 9223372036854775807) (hT : Tabs w) :
    Calls Tryd.prog 6 #[.string s] w fun e w' => e = .returned (.bool true) ∧ Below w.heap.size w w' := by
  have HP : Hid (∀ W, Tabs W → Calls Tryd.prog 35 #[.string s] W fun e w' => e = .returned (.bool (plainB s.data.toList)) ∧ Below W.heap.size W w') := fun W hW => plain_any s W hs hW
  have HQ : Hid (∀ W, Calls Tryd.prog 36 #[.string s] W fun e w' => e = .returned (.bool (plainB s.data.toList)) ∧ w' = W) := fun W => refPlain_any s W hs
  have HA : Hid (∀ W, Tabs W → Calls Tryd.prog 35 #[.string ⟨#[97, 195, 169]⟩] W fun e w' => e = .returned (.bool true) ∧ Below W.heap.size W w') := fun W hW => by
    have := plain_any ⟨#[97, 195, 169]⟩ W (by decide) hW
    rw [show plainB (⟨#[97, 195, 169]⟩ : ByteArray).data.toList = true from plain_ae] at this
    exact this
  have HZ : Hid (∀ W, Tabs W → Calls Tryd.prog 35 #[.string ⟨#[97, 0]⟩] W fun e w' => e = .returned (.bool false) ∧ Below W.heap.size W w') := fun W hW => by
    have := plain_any ⟨#[97, 0]⟩ W (by decide) hW
    rw [show plainB (⟨#[97, 0]⟩ : ByteArray).data.toList = false from plain_a0] at this
    exact this
  have HT : Hid (Tabs w) := hT
  clear hT
  generalize plainB s.data.toList = p at *
  go_enter Tryd.func6, Tryd.ntmps6
  go_wp2_with fail
  refine (HP.out w HT.out).mono ?_
  rintro e w1 ⟨rfl, hb1⟩
  have HB1 : Hid (Below w.heap.size w w1) := hb1
  clear hb1
  go_wp2_with fail
  refine (HQ.out w1).mono ?_
  rintro e w2 ⟨rfl, hw⟩
  rw [hw]; clear hw
  have HT1 : Hid (Tabs w1) := HT.out.later HB1.out
  have hpp : (p == p) = true := by simp
  go_wp2_with fail
  refine (HA.out w1 HT1.out).mono ?_
  rintro e w3 ⟨rfl, hb3⟩
  have HB3 : Hid (Below w1.heap.size w1 w3) := hb3
  clear hb3
  have HT3 : Hid (Tabs w3) := HT1.out.later HB3.out
  go_wp2_with fail
  refine (HZ.out w3 HT3.out).mono ?_
  rintro e w4 ⟨rfl, hb4⟩
  have HB4 : Hid (Below w3.heap.size w3 w4) := hb4
  clear hb4
  go_wp2
  go_ret
  have h1 := HB1.out
  have h13 := h1.trans (HB3.out.mono h1.size)
  exact ⟨rfl, h13.trans (HB4.out.mono h13.size)⟩
end Go.Proofs.YtpkobgnbjmefnaaDoor
