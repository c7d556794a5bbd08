import Derived.Test.YtefgdhoapmikhaaDoorJG
import Derived.Test.YtefgdhoapmikhaaDoorRpX
namespace Go.Proofs.YtefgdhoapmikhaaDoor
open Go.RowKit
set_option linter.unusedVariables false
set_option linter.unusedSimpArgs false
set_option maxRecDepth 100000
def hoL (off ln : Nat) : List Nat := [] ++ bigTo off 8 8 ++ bigTo ln 4 4
def daL (off : Nat) (m : List Nat) : List Nat := [] ++ bigTo off 8 8 ++ m
set_option maxHeartbeats 1000000 in
theorem packHole (off ln : Nat) (w : World) (h1 : off < 18446744073709551616) (h2 : ln < 4294967296) :
    Calls Tryd.prog 99 #[.agg #[.int .u64 (off : Int), .int .u32 (ln : Int)]] w fun e w' => ∃ ao cap, e = .returned (.slice ao (hoL off ln).length cap) ∧ Row w w' ao cap (hoL off ln) := by
  obtain ⟨W0, hW0⟩ : ∃ W0, W0 = w.alloc (.cells #[.int .u64 (off : Int), .int .u32 (ln : Int)] 76) := ⟨_, rfl⟩
  have h0 : Enc w (W0.alloc (.cells #[.bool true, .slice none 0 0] 185)) w.heap.size W0.heap.size (.slice none 0 0) [] (.cells #[.int .u64 (off : Int), .int .u32 (ln : Int)] 76) := Enc.new (by rw [hW0]; exact (Below.refl _ _).alloc (Nat.le_refl _) _) (by rw [hW0]; exact heap_new w _)
  have hbW : Below w.heap.size w W0 := by rw [hW0]; exact below1 w _
  go_enter Tryd.func99, Tryd.ntmps99
  go_wp2_with fail
  rw [← hW0]
  refine (newWriter_any W0).mono ?_
  rintro e w1 ⟨rfl, rfl⟩
  have hbN : Below w.heap.size w (W0.alloc (.cells #[.bool true, .slice none 0 0] 185)) := hbW.alloc hbW.size _
  generalize W0.alloc (.cells #[.bool true, .slice none 0 0] 185) = W1 at *
  generalize W0.heap.size = p at *
  clear hW0 hbW
  have H1 : Hid _ := h0
  clear h0 hbN
  have c1 := H1.out.c 0
  simp at c1
  go_wp2_with fail
  refine (wu64_any w.heap.size p off _ _ W1 H1.out.ok h1 (by simp [bigTo_length] <;> omega) H1.out.hB).mono ?_
  rintro e W2 ⟨rfl, v2, hp⟩
  have H2 : Hid _ := H1.out.step hp
  clear hp H1 c1
  have c2 := H2.out.c 1
  simp at c2
  go_wp2_with fail
  refine (wu32_any w.heap.size p ln v2 _ W2 H2.out.ok h2 (by simp [bigTo_length] <;> omega) H2.out.hB).mono ?_
  rintro e W3 ⟨rfl, v3, hp⟩
  have H3 : Hid _ := H2.out.step hp
  clear hp H2 c2
  go_wp2_with fail
  refine (wout_any w.heap.size p v3 _ W3 H3.out.ok (by simp [bigTo_length] <;> omega)).mono ?_
  rintro e W4 ⟨ao', cap', he, ho, hb⟩
  have H4 : Hid _ := H3.out.out ho hb
  clear ho hb H3
  obtain ⟨m9, hm⟩ : ∃ m9, m9 = (hoL off ln).length := ⟨_, rfl⟩
  obtain rfl : e = .returned (.slice ao' m9 cap') := by rw [hm]; exact he
  have HM : Hid (m9 = (hoL off ln).length) := hm
  clear hm he
  go_wp2
  go_ret
  exact ⟨_, _, by rw [← HM.out]; rfl, H4.out⟩
set_option maxHeartbeats 1000000 in
theorem packData (off n : Nat) (da : Option Addr) (dc : Nat) (m : List Nat) (w : World) (h1 : off < 18446744073709551616) (hr : BRow w da dc m) (hm0 : m.length = n) (hn : 0 < n) (hn2 : n ≤ 70368744177664) :
    Calls Tryd.prog 114 #[.agg #[.int .u64 (off : Int), .slice da n dc]] w fun e w' => ∃ ao cap, e = .returned (.tuple #[.slice ao (daL off m).length cap, .int .i64 0]) ∧ Row w w' ao cap (daL off m) := by
  obtain ⟨W0, hW0⟩ : ∃ W0, W0 = w.alloc (.cells #[.int .u64 (off : Int), .slice da n dc] 72) := ⟨_, rfl⟩
  have h0 : Enc w (W0.alloc (.cells #[.bool true, .slice none 0 0] 185)) w.heap.size W0.heap.size (.slice none 0 0) [] (.cells #[.int .u64 (off : Int), .slice da n dc] 72) := Enc.new (by rw [hW0]; exact (Below.refl _ _).alloc (Nat.le_refl _) _) (by rw [hW0]; exact heap_new w _)
  have hbW : Below w.heap.size w W0 := by rw [hW0]; exact below1 w _
  have HBR : Hid (BRow w da dc m) := hr
  have HM0 : Hid (m.length = n) := hm0
  have f0 : ((n : Int) == 0) = false := by rw [beq_eq_false_iff_ne]; omega
  clear hr
  go_enter Tryd.func114, Tryd.ntmps114
  go_wp2_with fail
  rw [← hW0]
  refine (newWriter_any W0).mono ?_
  rintro e w1 ⟨rfl, rfl⟩
  have hbN : Below w.heap.size w (W0.alloc (.cells #[.bool true, .slice none 0 0] 185)) := hbW.alloc hbW.size _
  generalize W0.alloc (.cells #[.bool true, .slice none 0 0] 185) = W1 at *
  generalize W0.heap.size = p at *
  clear hW0 hbW
  have H1 : Hid _ := h0
  clear h0 hbN
  have c1 := H1.out.c 0
  simp at c1
  go_wp2_with fail
  refine (wu64_any w.heap.size p off _ _ W1 H1.out.ok h1 (by simp [bigTo_length] <;> omega) H1.out.hB).mono ?_
  rintro e W2 ⟨rfl, v2, hp⟩
  have H2 : Hid _ := H1.out.step hp
  clear hp H1 c1
  have c2 := H2.out.c 1
  simp at c2
  go_wp2_with fail
  refine (wraw_any w.heap.size p v2 _ m da dc n W2 H2.out.ok (HBR.out.later H2.out.bel) HM0.out (by simp [bigTo_length] <;> omega) H2.out.hB).mono ?_
  rintro e W3 ⟨rfl, v3, hp⟩
  have H3 : Hid _ := H2.out.step hp
  clear hp H2 c2
  go_wp2_with fail
  refine (wout_any w.heap.size p v3 _ W3 H3.out.ok (by simp [bigTo_length] <;> omega)).mono ?_
  rintro e W4 ⟨ao', cap', he, ho, hb⟩
  have H4 : Hid _ := H3.out.out ho hb
  clear ho hb H3
  obtain ⟨m9, hm⟩ : ∃ m9, m9 = (daL off m).length := ⟨_, rfl⟩
  obtain rfl : e = .returned (.slice ao' m9 cap') := by rw [hm]; exact he
  have HM : Hid (m9 = (daL off m).length) := hm
  clear hm he
  go_wp2
  go_ret2
  exact ⟨_, _, by rw [← HM.out]; rfl, H4.out⟩
end Go.Proofs.YtefgdhoapmikhaaDoor
