import Derived.Test.YtefgdhoapmikhaaDoorRpP
import Derived.Shelf.Small.Strs
import Derived.Shelf.Strings.Search1
import Derived.Ground.NamesProg
import Derived.Lib.ConvBytes
namespace Go.Proofs
open Go.Shelf
def Tryd.lays137_ren : Go.Shelf.Ren := ⟨fun | 137 => 119 | 217 => 124 | 266 => 125 | n => n, fun | 9 => 9 | 5 => 5 | 3 => 3 | n => n, fun | n => n⟩
theorem Tryd.lays137 : Go.Proofs.Lays.n137 Tryd.prog Tryd.lays137_ren := {
  mixed := by kernel_rfl
  f137 := Tryd.func119.trans (congrArg some (by kernel_rfl))
  f217 := Tryd.func124.trans (congrArg some (by kernel_rfl))
  f266 := Tryd.func125.trans (congrArg some (by kernel_rfl))
  t3 := Tryd.underlying3
  a3 := Tryd.isAgg3
  z3 := Tryd.sizeOf3
  v3 := Tryd.zeroValue3
  t5 := Tryd.underlying5
  a5 := Tryd.isAgg5
  z5 := Tryd.sizeOf5
  v5 := Tryd.zeroValue5
  t9 := Tryd.underlying9
  a9 := Tryd.isAgg9
  z9 := Tryd.sizeOf9
  v9 := Tryd.zeroValue9 }
open Go.RowKit in
theorem Tryd.strings_IndexByte (s : ByteArray) (c : Int) (w : World) :
    Calls Tryd.prog 119 #[.string s, .int .u8 c] w fun e w' => e = .returned (.int .i64 (Lib.indexByte s.data.toList c.toNat.toUInt8)) ∧ w' = w := Any.strings_IndexByte Tryd.lays137 s c w
end Go.Proofs
namespace Go.Proofs.YtefgdhoapmikhaaDoor
open Go.RowKit
set_option linter.unusedVariables false
set_option linter.unusedSimpArgs false
set_option maxRecDepth 100000
set_option maxHeartbeats 1000000 in
theorem valid0 (w : World) : Calls Tryd.prog 118 #[.string ⟨#[]⟩] w fun e w' => e = .returned (.bool true) ∧ w' = w := by
  go_enter Tryd.func118, Tryd.ntmps118
  go_wp2
  go_loopw [0] (fun s wr => s = .string ⟨#[]⟩ ∧ wr = w) (fun _ _ => 0)
  case atStart => exact ⟨rfl, rfl⟩
  case round =>
    obtain ⟨rfl, rfl⟩ := hrel
    go_wp2
    go_ret
    exact ⟨rfl, rfl⟩
set_option maxHeartbeats 1000000 in
theorem plain0 (w : World) : Calls Tryd.prog 107 #[.string ⟨#[]⟩] w fun e w' => e = .returned (.bool true) ∧ w' = w := by
  have HI : Hid (∀ w, Calls Tryd.prog 119 #[.string ⟨#[]⟩, .int .u8 0] w fun e w' => e = .returned (.int .i64 (-1)) ∧ w' = w) := fun w => Tryd.strings_IndexByte ⟨#[]⟩ 0 w
  have HV : Hid (∀ w, Calls Tryd.prog 118 #[.string ⟨#[]⟩] w fun e w' => e = .returned (.bool true) ∧ w' = w) := valid0
  go_enter Tryd.func107, Tryd.ntmps107
  go_wp2_with fail
  refine (HV.out _).mono ?_
  rintro e w1 ⟨rfl, rfl⟩
  go_wp2_with fail
  refine (HI.out _).mono ?_
  rintro e w1 ⟨rfl, rfl⟩
  go_wp2
  go_ret
  exact ⟨rfl, rfl⟩
set_option maxHeartbeats 1000000 in
theorem isText0 (w : World) : Calls Tryd.prog 93 #[.string ⟨#[]⟩] w fun e w' => e = .returned (.bool true) ∧ w' = w := by
  have HI : Hid (∀ w, Calls Tryd.prog 107 #[.string ⟨#[]⟩] w fun e w' => e = .returned (.bool true) ∧ w' = w) := plain0
  go_enter Tryd.func93, Tryd.ntmps93
  go_wp2_with fail
  refine (HI.out _).mono ?_
  rintro e w1 ⟨rfl, rfl⟩
  go_wp2
  go_ret
  exact ⟨rfl, rfl⟩
theorem conv0 (w : World) : ∃ w' cp, (convert 9 27 (.string ⟨#[]⟩)).run Tryd.prog w = .ok (.slice (some ⟨w.heap.size, 0, none⟩) 0 cp) w' ∧ Below w.heap.size w w' :=
  ⟨_, _, Lib.run_convert_string_bytes w 9 27 5 ⟨#[]⟩ Tryd.underlying9 Tryd.underlying27 Tryd.underlying5, ⟨rfl, rfl, rfl, by rw [Lib.bytesWorld_size]; omega, fun k hk => Lib.bytesWorld_at_old w 5 _ k hk⟩⟩
theorem brow0 (w : World) (a : Addr) (cp : Nat) : BRow w (some a) cp [] := ⟨by simp, by simp, (fun h => by cases h), fun h => absurd rfl h⟩
def erL (c : Nat) (pl : Bool) (a : Nat) : List Nat := [] ++ bigTo c 4 4 ++ bigTo 0 2 2 ++ [] ++ (if pl = true then bigTo a 8 8 else [])
set_option maxHeartbeats 1000000 in
theorem packError1 (c a : Nat) (w : World) (h1 : c < 4294967296) (h2 : a < 18446744073709551616) :
    Calls Tryd.prog 97 #[.agg #[.int .u32 (c : Int), .string ⟨#[]⟩, .bool true, .int .u64 (a : Int)]] w fun e w' => ∃ ao cap, e = .returned (.tuple #[.slice ao (erL c true a).length cap, .int .i64 0]) ∧ Row w w' ao cap (erL c true a) := by
  obtain ⟨W0, hW0⟩ : ∃ W0, W0 = w.alloc (.cells #[.int .u32 (c : Int), .string ⟨#[]⟩, .bool true, .int .u64 (a : Int)] 81) := ⟨_, rfl⟩
  have h0 : Enc w (W0.alloc (.cells #[.bool true, .slice none 0 0] 185)) w.heap.size W0.heap.size (.slice none 0 0) [] (.cells #[.int .u32 (c : Int), .string ⟨#[]⟩, .bool true, .int .u64 (a : Int)] 81) := Enc.new (by rw [hW0]; exact (Below.refl _ _).alloc (Nat.le_refl _) _) (by rw [hW0]; exact heap_new w _)
  have hbW : Below w.heap.size w W0 := by rw [hW0]; exact below1 w _
  have HTx : Hid (∀ w, Calls Tryd.prog 93 #[.string ⟨#[]⟩] w fun e w' => e = .returned (.bool true) ∧ w' = w) := isText0
  go_enter Tryd.func97, Tryd.ntmps97
  go_wp2_with fail
  rw [← hW0]
  refine (HTx.out _).mono ?_
  rintro e w1 ⟨rfl, hw⟩
  rw [hw]; clear hw HTx
  go_wp2_with fail
  rw [← hW0]
  refine (newWriter_any W0).mono ?_
  rintro e w1 ⟨rfl, rfl⟩
  have hbN : Below w.heap.size w (W0.alloc (.cells #[.bool true, .slice none 0 0] 185)) := hbW.alloc hbW.size _
  generalize W0.alloc (.cells #[.bool true, .slice none 0 0] 185) = W1 at *
  generalize W0.heap.size = p at *
  clear hW0 hbW
  have H1 : Hid _ := h0
  clear h0 hbN
  have c1 := H1.out.c 0
  simp at c1
  go_wp2_with fail
  refine (wu32_any w.heap.size p c _ _ W1 H1.out.ok h1 (by simp [bigTo_length] <;> omega) H1.out.hB).mono ?_
  rintro e W2 ⟨rfl, v2, hp⟩
  have H2 : Hid _ := H1.out.step hp
  clear hp H1 c1
  have c2 := H2.out.c 1
  simp at c2
  go_wp2_with fail
  refine (wu16_any w.heap.size p 0 v2 _ W2 H2.out.ok (by decide) (by simp [bigTo_length] <;> omega) H2.out.hB).mono ?_
  rintro e W3 ⟨rfl, v3, hp⟩
  have H3 : Hid _ := H2.out.step hp
  clear hp H2 c2
  have c3 := H3.out.c 1
  simp at c3
  obtain ⟨W3b, cp3, hcv, hb3⟩ := conv0 W3
  have H3b : Hid _ := H3.out.step (WPost.ofBelow H3.out.ok hb3)
  clear hb3
  go_wp2_with fail
  refine (wraw_any w.heap.size p v3 _ [] (some ⟨W3.heap.size, 0, none⟩) cp3 0 W3b H3b.out.ok (brow0 _ _ _) rfl (by simp [bigTo_length] <;> omega) H3b.out.hB).mono ?_
  rintro e W4 ⟨rfl, v4, hp⟩
  have H4 : Hid _ := H3b.out.step hp
  clear hp H3 c3 H3b hcv
  have c42 := H4.out.c 2
  simp at c42
  have c4 := H4.out.c 3
  simp at c4
  go_wp2_with fail
  refine (wu64_any w.heap.size p a v4 _ W4 H4.out.ok h2 (by simp [bigTo_length] <;> omega) H4.out.hB).mono ?_
  rintro e W5 ⟨rfl, v5, hp⟩
  have H5 : Hid _ := H4.out.step hp
  clear hp H4 c4
  go_wp2_with fail
  refine (wout_any w.heap.size p v5 _ W5 H5.out.ok (by simp [bigTo_length] <;> omega)).mono ?_
  rintro e W6 ⟨ao', cap', he, ho, hb⟩
  have H6 : Hid _ := H5.out.out ho hb
  clear ho hb H5
  obtain ⟨m9, hm⟩ : ∃ m9, m9 = (erL c true a).length := ⟨_, rfl⟩
  obtain rfl : e = .returned (.slice ao' m9 cap') := by rw [hm]; exact he
  have HM : Hid (m9 = (erL c true a).length) := hm
  clear hm he
  go_wp2
  go_ret2
  exact ⟨_, _, by rw [← HM.out]; rfl, by simpa [erL] using H6.out⟩
set_option maxHeartbeats 1000000 in
theorem packError0 (c a : Nat) (w : World) (h1 : c < 4294967296) (h2 : a < 18446744073709551616) (ha : a = 0) :
    Calls Tryd.prog 97 #[.agg #[.int .u32 (c : Int), .string ⟨#[]⟩, .bool false, .int .u64 (a : Int)]] w fun e w' => ∃ ao cap, e = .returned (.tuple #[.slice ao (erL c false a).length cap, .int .i64 0]) ∧ Row w w' ao cap (erL c false a) := by
  obtain ⟨W0, hW0⟩ : ∃ W0, W0 = w.alloc (.cells #[.int .u32 (c : Int), .string ⟨#[]⟩, .bool false, .int .u64 (a : Int)] 81) := ⟨_, rfl⟩
  have h0 : Enc w (W0.alloc (.cells #[.bool true, .slice none 0 0] 185)) w.heap.size W0.heap.size (.slice none 0 0) [] (.cells #[.int .u32 (c : Int), .string ⟨#[]⟩, .bool false, .int .u64 (a : Int)] 81) := Enc.new (by rw [hW0]; exact (Below.refl _ _).alloc (Nat.le_refl _) _) (by rw [hW0]; exact heap_new w _)
  have hbW : Below w.heap.size w W0 := by rw [hW0]; exact below1 w _
  have HTx : Hid (∀ w, Calls Tryd.prog 93 #[.string ⟨#[]⟩] w fun e w' => e = .returned (.bool true) ∧ w' = w) := isText0
  have f0 : ((a : Int) != 0) = false := by rw [bne_eq_false_iff_eq]; omega
  clear ha
  go_enter Tryd.func97, Tryd.ntmps97
  go_wp2_with fail
  rw [← hW0]
  refine (HTx.out _).mono ?_
  rintro e w1 ⟨rfl, hw⟩
  rw [hw]; clear hw HTx
  go_wp2_with fail
  rw [← hW0]
  refine (newWriter_any W0).mono ?_
  rintro e w1 ⟨rfl, rfl⟩
  have hbN : Below w.heap.size w (W0.alloc (.cells #[.bool true, .slice none 0 0] 185)) := hbW.alloc hbW.size _
  generalize W0.alloc (.cells #[.bool true, .slice none 0 0] 185) = W1 at *
  generalize W0.heap.size = p at *
  clear hW0 hbW
  have H1 : Hid _ := h0
  clear h0 hbN
  have c1 := H1.out.c 0
  simp at c1
  go_wp2_with fail
  refine (wu32_any w.heap.size p c _ _ W1 H1.out.ok h1 (by simp [bigTo_length] <;> omega) H1.out.hB).mono ?_
  rintro e W2 ⟨rfl, v2, hp⟩
  have H2 : Hid _ := H1.out.step hp
  clear hp H1 c1
  have c2 := H2.out.c 1
  simp at c2
  go_wp2_with fail
  refine (wu16_any w.heap.size p 0 v2 _ W2 H2.out.ok (by decide) (by simp [bigTo_length] <;> omega) H2.out.hB).mono ?_
  rintro e W3 ⟨rfl, v3, hp⟩
  have H3 : Hid _ := H2.out.step hp
  clear hp H2 c2
  have c3 := H3.out.c 1
  simp at c3
  obtain ⟨W3b, cp3, hcv, hb3⟩ := conv0 W3
  have H3b : Hid _ := H3.out.step (WPost.ofBelow H3.out.ok hb3)
  clear hb3
  go_wp2_with fail
  refine (wraw_any w.heap.size p v3 _ [] (some ⟨W3.heap.size, 0, none⟩) cp3 0 W3b H3b.out.ok (brow0 _ _ _) rfl (by simp [bigTo_length] <;> omega) H3b.out.hB).mono ?_
  rintro e W4 ⟨rfl, v4, hp⟩
  have H4 : Hid _ := H3b.out.step hp
  clear hp H3 c3 H3b hcv
  have c42 := H4.out.c 2
  simp at c42
  go_wp2_with fail
  refine (wout_any w.heap.size p v4 _ W4 H4.out.ok (by simp [bigTo_length] <;> omega)).mono ?_
  rintro e W5 ⟨ao', cap', he, ho, hb⟩
  have H5 : Hid _ := H4.out.out ho hb
  clear ho hb H4
  obtain ⟨m9, hm⟩ : ∃ m9, m9 = (erL c false a).length := ⟨_, rfl⟩
  obtain rfl : e = .returned (.slice ao' m9 cap') := by rw [hm]; exact he
  have HM : Hid (m9 = (erL c false a).length) := hm
  clear hm he
  go_wp2
  go_ret2
  exact ⟨_, _, by rw [← HM.out]; rfl, by simpa [erL] using H5.out⟩
end Go.Proofs.YtefgdhoapmikhaaDoor
