import Derived.Test.YtpkobgnbjmefnabDoorNumN
import Derived.Test.YtpkobgnbjmefnabDoorDecW
import Derived.Lib.AppendIntMem
namespace Go.Proofs.YtpkobgnbjmefnabDoor
open Go.RowKit
set_option linter.unusedVariables false
set_option maxRecDepth 100000

theorem numV_dec (u : Nat) (h : u < 18446744073709551616) : numV (Lib.decDigits u) = (u, 0) := by
  unfold numV
  rw [if_pos (dec_form u), dec_parse u (by unfold M64; omega)]
theorem numV_back (l : List UInt8) (h : (numV l).2 = 0) : Lib.decDigits (numV l).1 = l ∧ (numV l).1 < 18446744073709551616 := by
  unfold numV at h ⊢
  by_cases hf : formB l = true
  · rw [if_pos hf] at h ⊢
    cases hp : Lib.parseUintM M64 0 l with
    | ok u =>
      refine ⟨parse_dec l u hf hp, ?_⟩
      have := Lib.parseUintM_le M64 l 0 u (Nat.zero_le _) hp
      show u < _
      unfold M64 at this
      omega
    | range => rw [hp] at h; cases h
    | «syntax» => rw [hp] at h; cases h
  · rw [if_neg hf] at h; cases h
theorem numV_lt (l : List UInt8) : (numV l).1 < 18446744073709551616 := by
  by_cases h : (numV l).2 = 0
  · exact (numV_back l h).2
  · unfold numV at h ⊢
    by_cases hf : formB l = true
    · rw [if_pos hf] at h ⊢
      cases hp : Lib.parseUintM M64 0 l with
      | ok u => rw [hp] at h; exact absurd rfl h
      | range => decide
      | «syntax» => decide
    · rw [if_neg hf]; decide

set_option maxHeartbeats 4000000 in
theorem numbers_any (v : Nat) (s : ByteArray) (w : World) (hv : v < 18446744073709551616) (hs : s.size ≤ 16777216) (htab : Lib.TabIs Tryd.prog w "internal/strconv.uint64pow10" .u64 Lib.pow10Tab) (ev : Value) (hev0 : w.cell? ⟨2, 0, none⟩ = some ev) (hev : ev = .nilIface ∨ ∃ te pe, ev = .iface te pe) :
    Calls Tryd.prog 3 #[.int .u64 (v : Int), .string s] w fun e w' => e = .returned (.bool true) ∧ Below w.heap.size w w' := by
  have HTb : Hid (∀ W, Below w.heap.size w W → Lib.TabIs Tryd.prog W "internal/strconv.uint64pow10" .u64 Lib.pow10Tab) := fun W hW => Lib.tabBelow_of_tabIs htab W hW
  have HEv : Hid (∀ W, Below w.heap.size w W → W.cell? ⟨2, 0, none⟩ = some ev) := fun W hW => cell_later hW hev0
  have HD : Hid (∀ W u, u < 18446744073709551616 → Below w.heap.size w W → Calls Tryd.prog 8 #[.int .u64 ((u : Nat) : Int)] W fun e w' => e = .returned (.string ⟨(Lib.decDigits u).toArray⟩) ∧ Below w.heap.size w w') := fun W u hu hW =>
    (decimal_any u W hu (HTb.out W hW)).mono fun e w' hh => ⟨hh.1, hW.trans (hh.2.mono hW.size)⟩
  have HRD : Hid (∀ W, Below w.heap.size w W → Calls Tryd.prog 11 #[.int .u64 (v : Int)] W fun e w' => e = .returned (.string ⟨(Lib.decDigits v).toArray⟩) ∧ Below w.heap.size w w') := fun W hW =>
    (rdecimal_any v W hv).mono fun e w' hh => ⟨hh.1, hW.trans (hh.2.mono hW.size)⟩
  have HNu : Hid (∀ W (t : ByteArray), t.size ≤ 16777216 → Below w.heap.size w W → Calls Tryd.prog 9 #[.string t] W fun e w' => e = .returned (.tuple #[.int .u64 ((numV t.data.toList).1 : Nat), .int .i64 ((numV t.data.toList).2 : Nat)]) ∧ Below w.heap.size w w') := fun W t ht hW =>
    (numText_any t W ht ev (HEv.out W hW) hev).mono fun e w' hh => ⟨hh.1, hW.trans (hh.2.mono hW.size)⟩
  have HRN : Hid (∀ W, Below w.heap.size w W → Calls Tryd.prog 10 #[.string s] W fun e w' => e = .returned (.tuple #[.int .u64 ((numV s.data.toList).1 : Nat), .int .i64 ((numV s.data.toList).2 : Nat)]) ∧ Below w.heap.size w w') := fun W hW =>
    (rnumber_text s W hs).mono fun e w' hh => ⟨hh.1, by
      obtain ⟨q, hq⟩ := hh.2
      rw [hq]
      exact ⟨hW.os, hW.tape, hW.output, hW.size, hW.block⟩⟩
  have hdl : (Lib.decDigits v).length ≤ 20 := by have := decN_len v hv; unfold decN at this; rwa [List.length_map] at this
  have HNd : Hid (∀ W, Below w.heap.size w W → Calls Tryd.prog 9 #[.string ⟨(Lib.decDigits v).toArray⟩] W fun e w' => e = .returned (.tuple #[.int .u64 (v : Int), .int .i64 0]) ∧ Below w.heap.size w w') := fun W hW => by
    have h9 := HNu.out W ⟨(Lib.decDigits v).toArray⟩ (by show (Lib.decDigits v).toArray.size ≤ _; simp; omega) hW
    rw [show (⟨(Lib.decDigits v).toArray⟩ : ByteArray).data.toList = Lib.decDigits v by simp, numV_dec v hv] at h9
    exact h9
  have HNs := HNu.out
  have HN1 : Hid (∀ W, Below w.heap.size w W → Calls Tryd.prog 9 #[.string s] W fun e w' => e = .returned (.tuple #[.int .u64 ((numV s.data.toList).1 : Nat), .int .i64 ((numV s.data.toList).2 : Nat)]) ∧ Below w.heap.size w w') := fun W hW => HNs W s hs hW
  have HDs : Hid ((numV s.data.toList).2 = 0 → ∀ W, Below w.heap.size w W → Calls Tryd.prog 8 #[.int .u64 ((numV s.data.toList).1 : Nat)] W fun e w' => e = .returned (.string s) ∧ Below w.heap.size w w') := fun h0 W hW => by
    have h9 := HD.out W (numV s.data.toList).1 (numV_lt _) hW
    rw [(numV_back _ h0).1] at h9
    simpa using h9
  have HDv : Hid (∀ W, Below w.heap.size w W → Calls Tryd.prog 8 #[.int .u64 (v : Int)] W fun e w' => e = .returned (.string ⟨(Lib.decDigits v).toArray⟩) ∧ Below w.heap.size w w') := fun W hW => HD.out W v hv hW
  have hc := numV_le s.data.toList
  clear HNs HNu HD HTb HEv htab hev0 hev hdl
  generalize (numV s.data.toList).1 = x at *
  generalize (numV s.data.toList).2 = c at *
  generalize (⟨(Lib.decDigits v).toArray⟩ : ByteArray) = d at *
  go_enter Tryd.func3, Tryd.ntmps3
  go_wp2_with fail
  refine (HDv.out w (Below.refl _ _)).mono ?_
  rintro e w1 ⟨rfl, hb1⟩
  have HB1 : Hid (Below w.heap.size w w1) := hb1
  clear hb1
  go_wp2_with fail
  refine (HN1.out w1 HB1.out).mono ?_
  rintro e w2 ⟨rfl, hb2⟩
  have HB2 : Hid (Below w.heap.size w w2) := hb2
  clear hb2
  go_wp2_with fail
  refine (HRN.out w2 HB2.out).mono ?_
  rintro e w3 ⟨rfl, hb3⟩
  have HB3 : Hid (Below w.heap.size w w3) := hb3
  clear hb3
  go_wp2_with fail
  refine (HNd.out w3 HB3.out).mono ?_
  rintro e w4 ⟨rfl, hb4⟩
  have HB4 : Hid (Below w.heap.size w w4) := hb4
  clear hb4
  go_wp2_with fail
  refine (HRD.out w4 HB4.out).mono ?_
  rintro e w5 ⟨rfl, hb5⟩
  have HB5 : Hid (Below w.heap.size w w5) := hb5
  clear hb5
  by_cases h0 : c = 0
  · have HDz : Hid (∀ W, Below w.heap.size w W → Calls Tryd.prog 8 #[.int .u64 ((x : Nat) : Int)] W fun e w' => e = .returned (.string s) ∧ Below w.heap.size w w') := HDs.out h0
    clear HDs
    subst h0
    go_wp2_with fail
    refine (HDz.out w5 HB5.out).mono ?_
    rintro e w6 ⟨rfl, hb6⟩
    have HB6 : Hid (Below w.heap.size w w6) := hb6
    clear hb6
    go_wp2
    go_ret
    exact ⟨rfl, HB6.out⟩
  · have t0 : ((c : Int) == 0) = false := by rw [beq_eq_false_iff_ne]; omega
    have t1 : ((c : Int) != 0) = true := by rw [bne_iff_ne]; omega
    go_wp2
    go_ret
    exact ⟨rfl, HB5.out⟩
end Go.Proofs.YtpkobgnbjmefnabDoor
