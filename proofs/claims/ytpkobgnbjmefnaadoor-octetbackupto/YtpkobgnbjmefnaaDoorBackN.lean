import Derived.Test.YtpkobgnbjmefnaaDoorBackL
namespace Go.Proofs.YtpkobgnbjmefnaaDoor
open Go.RowKit
set_option linter.unusedVariables false
set_option maxRecDepth 100000

set_option maxHeartbeats 4000000 in
theorem back_nil (ao : Option Addr) (cap : Nat) (w : World) (hT : Tabs w) :
    Calls Tryd.prog 5 #[.slice ao 0 cap] w fun e w' => e = .returned (.bool true) ∧ Below w.heap.size w w' := by
  have HT : Hid (Tabs w) := hT
  have HI : Hid (BInv w (w.alloc (.cells #[.bool true, .slice none 0 0] 73)) w.heap.size (.slice none 0 0) (.slice none 0 0) []) := ⟨wok_new w, World.ownsRow_nil _ _ _ _, (Below.refl _ _).alloc (Nat.le_refl _) _⟩
  have HN : Hid (Calls Tryd.prog 7 #[] w fun e w' => e = .returned (.pointer (some ⟨w.heap.size, 0, none⟩)) ∧ w' = w.alloc (.cells #[.bool true, .slice none 0 0] 73)) := newWriter_any w
  clear hT
  generalize w.alloc (.cells #[.bool true, .slice none 0 0] 73) = W1 at *
  have HO : Hid (Calls Tryd.prog 10 #[.pointer (some ⟨w.heap.size, 0, none⟩)] W1 fun e w' => ∃ ao' cap', e = .returned (.slice ao' 0 cap') ∧ w'.ownsRow W1.heap.size 5 1 (.slice ao' 0 cap') 0 [] ∧ Below W1.heap.size W1 w') :=
    wout_any w.heap.size w.heap.size _ [] W1 HI.out.wok (by simp)
  have HRd : Hid (∀ w1 ao1 cap1, w1.ownsRow W1.heap.size 5 1 (.slice ao1 0 cap1) 0 [] → Below W1.heap.size W1 w1 → Calls Tryd.prog 15 #[.slice ao1 0 cap1] w1 fun e w' => ∃ r ao' cap', e = .returned (.pointer (some ⟨r, 0, none⟩)) ∧ RInv w w' r ao' cap' [] 0 (.slice none 0 0) []) := fun w1 ao1 cap1 ho1 hb1 => by
    obtain ⟨ao2, cap2, hv, hb⟩ := BRow.own (l := []) ho1 (by simp) (by simp)
    simp only [Value.slice.injEq] at hv
    obtain ⟨rfl, _, rfl⟩ := hv
    refine (newReader_any ao1 cap1 _ [] w1 hb rfl).mono fun e w' hh => ?_
    obtain ⟨r, ao', cap', he, hr, hb'⟩ := hh
    exact ⟨r, ao', cap', he, rinv_new HI.out hb1 hb' hr⟩
  go_enter Tryd.func5, Tryd.ntmps5
  go_wp2_with fail
  refine HN.out.mono ?_
  rintro e w1 ⟨rfl, hw⟩
  rw [hw]; clear hw
  go_wp2
  refine wp_loop_rounds 1 ?_
  rw [rounds_succ]
  go_wp2_with fail
  refine HO.out.mono ?_
  rintro e w1 ⟨ao1, cap1, rfl, ho1, hb1⟩
  have HO1 : Hid (w1.ownsRow W1.heap.size 5 1 (.slice ao1 0 cap1) 0 []) := ho1
  have HB1 : Hid (Below W1.heap.size W1 w1) := hb1
  clear ho1 hb1 HO
  go_wp2_with fail
  refine (HRd.out w1 ao1 cap1 HO1.out HB1.out).mono ?_
  rintro e wr ⟨r, ao2, cap2, rfl, hri⟩
  have HR2 : Hid (RInv w wr r ao2 cap2 [] 0 (.slice none 0 0) []) := hri
  clear hri
  have HEn : Hid (Calls Tryd.prog 21 #[.pointer (some ⟨r, 0, none⟩)] wr fun e w' => e = .returned (.int .i64 0) ∧ ∃ q, w' = wr.drewN q) := rend_any _ r ao2 cap2 [] wr HR2.out.rok
  have HLf : Hid (∀ q, Calls Tryd.prog 20 #[.pointer (some ⟨r, 0, none⟩)] (wr.drewN q) fun e w' => e = .returned (.int .i64 0) ∧ ∃ q', w' = (wr.drewN q).drewN q') := fun q => by
    have := rleft_any _ r ao2 cap2 [] 0 0 _ (HR2.out.rok.drewN q) rfl
    rwa [Int.sub_self] at this
  have HHd : Hid (∀ q, Calls Tryd.prog 13 #[] (wr.drewN q) fun e w' => e = .returned (.bool true) ∧ Below w.heap.size w w') := fun q => by
    have hb := (HR2.out.drewN q).bel
    exact (heads_any _ (HT.out.later hb)).mono fun e w' hh => ⟨hh.1, hb.trans (hh.2.mono hb.size)⟩
  go_wp2
  refine wp_loop_rounds 1 ?_
  rw [rounds_succ]
  go_wp2_with fail
  refine HEn.out.mono ?_
  rintro e w3 ⟨rfl, q, hw⟩
  rw [hw]; clear hw
  go_wp2_with fail
  refine (HLf.out q).mono ?_
  rintro e w3 ⟨rfl, q', hw⟩
  rw [hw]; clear hw
  go_wp2_with fail
  refine (HHd.out _).mono ?_
  rintro e w3 ⟨rfl, hb⟩
  have HB3 : Hid (Below w.heap.size w w3) := hb
  clear hb
  go_wp2
  go_ret
  exact ⟨rfl, HB3.out⟩
end Go.Proofs.YtpkobgnbjmefnaaDoor
