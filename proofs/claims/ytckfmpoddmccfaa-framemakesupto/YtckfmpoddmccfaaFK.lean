import Derived.Test.YtckfmpoddmccfaaFJ
namespace Go.Proofs.Ytckfmpoddmccfaa
open Go.RowKit
set_option linter.unusedVariables false
set_option linter.unusedSimpArgs false
set_option maxRecDepth 100000

def MadeP (w : World) (r : Nat) (e : Ending) (w' : World) : Prop :=
  ∃ b' B', e = .returned (.tuple #[.pointer (some ⟨w.heap.size, 0, none⟩), .pointer (some ⟨b', 0, none⟩), .bool true]) ∧ Inb w' w.heap.size w.heap.size (.slice none 0 0) r 0 [] ∧ RIn w' B' b' (.slice none 0 0) r 0 [] ∧ w.heap.size ≤ B' ∧ b' ≠ w.heap.size ∧ Below w.heap.size w w'
set_option maxHeartbeats 2000000 in
theorem madeA (r : Nat) (h1 : 1 ≤ r) (h2 : r ≤ 2097152) (w : World) : Calls Try.prog 9 #[.int .i64 (r : Int)] w fun e w' => MadeP w r e w' := by
  have H1 : Hid _ := newI r h1 h2 w
  go_enter Try.func9, Try.ntmps9
  go_wp2_with fail
  refine Calls.mono H1.out ?_
  rintro e w1 ⟨rfl, hI, hb⟩
  have H2 : Hid _ := rnewI r h1 h2 w1
  have HI : Hid _ := hI
  have HB : Hid _ := hb
  clear hI hb H1
  go_wp2_with fail
  refine Calls.mono H2.out ?_
  rintro e w2 ⟨rfl, hR, hb⟩
  have HI2 : Hid _ := HI.out.later hb
  have HR2 : Hid _ := hR
  have HB2 : Hid (Below w.heap.size w w2) := HB.out.trans (hb.mono HB.out.size)
  have hlt : w.heap.size < w1.heap.size := block_lt HI.out.blk
  clear H2 hR hb HI HB
  go_wp2
  go_ret3
  exact ⟨w1.heap.size, w1.heap.size, rfl, HI2.out, HR2.out, by omega, by omega, HB2.out⟩
set_option maxHeartbeats 2000000 in
theorem madeBad (r : Int) (h : r < 1 ∨ 2097152 < r) (w : World) : Calls Try.prog 9 #[.int .i64 r] w fun e w' => e = .returned (.tuple #[.pointer none, .pointer none, .bool true]) ∧ w' = w := by
  have H1 : Hid (Calls Try.prog 18 #[.int .i64 r] w fun e w' => e = .returned (.tuple #[.pointer none, .int .i64 90]) ∧ w' = w) := newI_bad r h w
  have H2 : Hid (Calls Try.prog 26 #[.int .i64 r] w fun e w' => e = .returned (.tuple #[.pointer none, .int .i64 90]) ∧ w' = w) := rnewI_bad r h w
  clear h
  go_enter Try.func9, Try.ntmps9
  go_wp2_with fail
  refine H1.out.mono ?_
  rintro e w1 ⟨rfl, hw⟩
  rw [hw]; clear hw
  go_wp2_with fail
  refine H2.out.mono ?_
  rintro e w1 ⟨rfl, hw⟩
  rw [hw]; clear hw
  go_wp2
  go_ret3
  exact ⟨rfl, rfl⟩
set_option maxHeartbeats 4000000 in
theorem frameMakes_bad (r : Int) (h : r < 1 ∨ 2097152 < r) (v : Value) (w : World) : Calls Try.prog 3 #[.int .i64 r, v] w fun e w' => e = .returned (.bool true) ∧ Below w.heap.size w w' := by
  have H1 : Hid (Calls Try.prog 9 #[.int .i64 r] w fun e w' => e = .returned (.tuple #[.pointer none, .pointer none, .bool true]) ∧ w' = w) := madeBad r h w
  have H2 : Hid (Calls Try.prog 10 #[] w fun e w' => e = .returned (.bool true) ∧ Below w.heap.size w w') := heads_any w
  clear h
  go_enter Try.func3, Try.ntmps3
  go_wp2_with fail
  refine H1.out.mono ?_
  rintro e w1 ⟨rfl, hw⟩
  rw [hw]; clear hw
  go_wp2_with fail
  refine H2.out.mono ?_
  rintro e w1 ⟨rfl, hb⟩
  have HB : Hid _ := hb
  clear hb H1 H2
  go_wp2
  go_ret
  exact ⟨rfl, HB.out⟩
set_option maxHeartbeats 8000000 in
theorem frameMakes_good (r : Nat) (h1 : 1 ≤ r) (h2 : r ≤ 2097152) (ao : Option Addr) (cap : Nat) (m : List Nat) (w : World) (hm : CRow w ao cap m) (hn : m.length ≤ 1099511627776) : Calls Try.prog 3 #[.int .i64 (r : Int), .slice ao m.length cap] w fun e w' => e = .returned (.bool true) ∧ Below w.heap.size w w' := by
  have H1 : Hid (Calls Try.prog 9 #[.int .i64 (r : Int)] w fun e w' => MadeP w r e w') := madeA r h1 h2 w
  have HM : Hid (CRow w ao cap m) := hm
  clear hm
  go_enter Try.func3, Try.ntmps3
  go_wp2_with fail
  refine H1.out.mono ?_
  rintro e w1 ⟨b', B', rfl, hI, hR, hB', hne, hb⟩
  have H2 : Hid (Calls Try.prog 10 #[] w1 fun e w' => e = .returned (.bool true) ∧ Below w1.heap.size w1 w') := heads_any w1
  have HI : Hid _ := hI
  have HR : Hid _ := hR
  have HB : Hid _ := hb
  clear hI hR hb H1
  go_wp2_with fail
  refine H2.out.mono ?_
  rintro e w2 ⟨rfl, hb⟩
  have hI2 := HI.out.later hb
  have hR2 := HR.out.later hb
  have HB2 : Hid (Below w.heap.size w w2) := HB.out.trans (hb.mono HB.out.size)
  have HH : Hid _ := heldI hI2
  have HRm : Hid _ := roomI hI2
  have HI2 : Hid _ := hI2
  have HR2 : Hid _ := hR2
  clear hI2 hR2 hb H2 HI HR HB
  go_wp2_with fail
  refine Calls.mono HH.out ?_
  rintro e w3 ⟨rfl, hw⟩
  rw [hw]; clear hw HH
  go_wp2_with fail
  refine Calls.mono HRm.out ?_
  rintro e w3 ⟨rfl, q, hw⟩
  have hI3 : Inb w3 w.heap.size w.heap.size (.slice none 0 0) r 0 [] := by rw [hw]; exact HI2.out.drewN q
  have hR3 : RIn w3 B' b' (.slice none 0 0) r 0 [] := by rw [hw]; exact HR2.out.drewN q
  have hB3 : Below w.heap.size w w3 := by rw [hw]; exact HB2.out.trans ⟨rfl, rfl, rfl, Nat.le_refl _, fun _ _ => rfl⟩
  have hb'B : B' ≤ b' := hR3.hb
  have hS : ∀ g, g < w.heap.size → ¬ (ifp w.heap.size (.slice none 0 0) g ∨ ifp b' (.slice none 0 0) g) := fun g hg hf => by
    rcases hf with (e | e) | (e | e)
    · omega
    · simp [Value.ownBlock] at e
    · omega
    · simp [Value.ownBlock] at e
  have HFd : Hid _ := fedA hI3 hR3 (fun g hx hy => by
    rcases hx with rfl | hx
    · rcases hy with e | e
      · omega
      · simp [Value.ownBlock] at e
    · simp [Value.ownBlock] at hx) ao cap m (fun W hW => HM.out.later (hB3.trans (hW.below hB3.size hS))) hn
  have HS : Hid _ := hS
  have HB3 : Hid _ := hB3
  clear HRm hw hI3 hR3 hB3 HI2 HR2 HB2 hS
  go_wp2_with fail
  refine Calls.mono HFd.out ?_
  rintro e w4 ⟨rfl, v1, v1', hI4, hR4, hap, hK, _, _⟩
  have HB4 : Hid (Below w.heap.size w w4) := HB3.out.trans (hK.below HB3.out.size HS.out)
  obtain ⟨L, hL⟩ : ∃ L, ([] ++ (m.drop (min m.length 0)).take (min (m.length - min m.length 0) (r - ([] : List Nat).length))) = L := ⟨_, rfl⟩
  rw [hL] at hI4 hR4
  obtain ⟨ao4, c4, rfl, _⟩ := hR4.row.crow
  have k1 := hR4.c 1
  simp at k1
  have hle := hI4.le
  have HH : Hid (∀ q, Calls Try.prog 11 #[.pointer (some ⟨w.heap.size, 0, none⟩)] (w4.drewN q) fun e w' => e = .returned (.int .i64 (L.length : Int)) ∧ w' = w4.drewN q) := fun q => heldI (hI4.drewN q)
  have HRm : Hid (∀ q, Calls Try.prog 12 #[.pointer (some ⟨w.heap.size, 0, none⟩)] (w4.drewN q) fun e w' => e = .returned (.int .i64 ((r - L.length : Nat) : Int)) ∧ ∃ q', w' = (w4.drewN q).drewN q') := fun q => roomI (hI4.drewN q)
  have hwl : IntKind.i64.wrap ((r : Int) - (L.length : Int)) = ((r - L.length : Nat) : Int) := by rw [IntKind.wrap_i64]; omega
  clear HFd hI4 hR4 hap hK hL HS HB3
  go_wp2
  go_quiet (first | (go_at_call 11; exact Calls.quiet_of_same (HH.out _)) | (go_at_call 12; exact Calls.quiet_of (HRm.out _)) | fail)
  go_wp2
  go_ret
  exact ⟨rfl, HB4.out.trans ⟨rfl, rfl, rfl, Nat.le_refl _, fun _ _ => rfl⟩⟩
end Go.Proofs.Ytckfmpoddmccfaa
