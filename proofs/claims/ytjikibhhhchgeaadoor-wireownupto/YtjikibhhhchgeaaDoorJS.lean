import Derived.Test.YtjikibhhhchgeaaDoorJR
namespace Go.Proofs.YtjikibhhhchgeaaDoor
open Go.RowKit
set_option linter.unusedVariables false
set_option linter.unusedSimpArgs false
set_option maxRecDepth 100000

set_option maxHeartbeats 2000000 in
theorem encChunk_true (f t c o : Nat) (ao : Option Addr) (cap : Nat) (d : List Nat) (w : World) (hf : f < 65536) (ht : t < 65536) (hc : c < 18446744073709551616) (ho : o < 18446744073709551616) (hd : BRow w ao cap d) (hn : d.length ≤ 1099511627776) :
    Calls Tryd.prog 27 #[.agg #[.int .u16 (f : Int), .int .u16 (t : Int), .int .u64 (c : Int), .int .u64 (o : Int), .slice ao d.length cap], .bool true] w fun e w' => ∃ ao cap, e = .returned (.slice ao (cL64 f t c o d).length cap) ∧ Row w w' ao cap (cL64 f t c o d) := by
  have hn0 := hn
  replace hd : Hid (BRow w ao cap d) := hd
  replace hn : Hid (d.length ≤ 1099511627776) := hn
  have hwl : IntKind.u64.wrap (d.length : Int) = (d.length : Int) := by rw [IntKind.wrap_u64]; omega
  obtain ⟨W0, hW0⟩ : ∃ W0, W0 = w.alloc (.cells #[.int .u16 (f : Int), .int .u16 (t : Int), .int .u64 (c : Int), .int .u64 (o : Int), .slice ao d.length cap] 85) := ⟨_, rfl⟩
  have hB0 : Below w.heap.size w W0 := by rw [hW0]; exact (Below.refl _ _).alloc (Nat.le_refl _) _
  have g0 : W0.heap[w.heap.size]? = some (.cells #[.int .u16 (f : Int), .int .u16 (t : Int), .int .u64 (c : Int), .int .u64 (o : Int), .slice ao d.length cap] 85 (0, 0)) := by rw [hW0]; exact heap_new w _
  have HRh : Hid (∀ W : World, Calls Tryd.prog 77 #[.bool true] W fun e W' => e = .returned (.tuple #[.int .u32 (mChunk64 : Nat), .int .i64 32]) ∧ W' = W) := fun W => by
    go_enter Tryd.func77, Tryd.ntmps77
    go_wp2
    go_ret2
    exact ⟨rfl, rfl⟩
  go_enter Tryd.func27, Tryd.ntmps27
  go_wp2_with fail
  rw [← hW0]
  clear hW0
  refine (HRh.out _).mono ?_
  rintro e W9 ⟨rfl, hw⟩
  rw [hw]; clear hw HRh
  have hBa : Hid (Below w.heap.size w W0) := hB0
  have ga : Hid (W0.heap[w.heap.size]? = some (.cells #[.int .u16 (f : Int), .int .u16 (t : Int), .int .u64 (c : Int), .int .u64 (o : Int), .slice ao d.length cap] 85 (0, 0))) := g0
  clear hB0 g0
  go_wp2_with fail
  have h0 : Enc w (W0.alloc (.cells #[.bool true, .slice none 0 0] 189)) w.heap.size W0.heap.size (.slice none 0 0) [] (.cells #[.int .u16 (f : Int), .int .u16 (t : Int), .int .u64 (c : Int), .int .u64 (o : Int), .slice ao d.length cap] 85) := Enc.new hBa.out ga.out
  refine (newWriter_any W0).mono ?_
  rintro e w1 ⟨rfl, rfl⟩
  generalize W0.alloc (.cells #[.bool true, .slice none 0 0] 189) = W1 at *
  generalize W0.heap.size = p at *
  have H1 : Hid _ := h0
  clear h0 hBa ga
  go_wp2_with fail
  refine (wu32_any w.heap.size p mChunk64 _ _ W1 H1.out.ok (by decide) (by simp [bigTo_length, nL_length] <;> omega) H1.out.hB).mono ?_
  rintro e W2 ⟨rfl, v2, hp⟩
  have H2 : Hid _ := H1.out.step hp
  clear hp H1
  have c0 := H2.out.c 0
  simp at c0
  go_wp2_with fail
  refine (wu16_any w.heap.size p f v2 _ W2 H2.out.ok hf (by simp [bigTo_length, nL_length] <;> omega) H2.out.hB).mono ?_
  rintro e W3 ⟨rfl, v3, hp⟩
  have H3 : Hid _ := H2.out.step hp
  clear hp H2 c0
  have c1 := H3.out.c 1
  simp at c1
  go_wp2_with fail
  refine (wu16_any w.heap.size p t v3 _ W3 H3.out.ok ht (by simp [bigTo_length, nL_length] <;> omega) H3.out.hB).mono ?_
  rintro e W4 ⟨rfl, v4, hp⟩
  have H4 : Hid _ := H3.out.step hp
  clear hp H3 c1
  have c2 := H4.out.c 2
  simp at c2
  go_wp2_with fail
  refine (wu64_any w.heap.size p c v4 _ W4 H4.out.ok hc (by simp [bigTo_length, nL_length] <;> omega) H4.out.hB).mono ?_
  rintro e W5 ⟨rfl, v5, hp⟩
  have H5 : Hid _ := H4.out.step hp
  clear hp H4 c2
  have c3 := H5.out.c 3
  simp at c3
  go_wp2_with fail
  refine (wu64_any w.heap.size p o v5 _ W5 H5.out.ok ho (by simp [bigTo_length, nL_length] <;> omega) H5.out.hB).mono ?_
  rintro e W6 ⟨rfl, v6, hp⟩
  have H6 : Hid _ := H5.out.step hp
  clear hp H5 c3
  have c4 := H6.out.c 4
  simp at c4
  go_wp2_with fail
  refine (lay_any w.heap.size p d.length true v6 _ W6 H6.out.ok (by omega) (by simp [bigTo_length, nL_length] <;> omega) H6.out.hB).mono ?_
  rintro e W7 ⟨rfl, v7, hp⟩
  have H7 : Hid _ := H6.out.step hp
  clear hp H6 c4
  have c4 := H7.out.c 4
  simp at c4
  go_wp2_with fail
  refine (wraw_any w.heap.size p v7 _ d ao cap d.length W7 H7.out.ok (hd.out.later H7.out.bel) rfl (by have := hn.out; simp [bigTo_length, nL_length] <;> omega) H7.out.hB).mono ?_
  rintro e W8 ⟨rfl, v8, hp⟩
  have H8 : Hid _ := H7.out.step hp
  clear hp H7 c4
  go_wp2_with fail
  refine (wout_any w.heap.size p v8 _ W8 H8.out.ok (by have := hn.out; simp [bigTo_length, nL_length] <;> omega)).mono ?_
  rintro e W9 ⟨ao', cap', he, ho, hb⟩
  have H9 : Hid _ := H8.out.out ho hb
  clear ho hb H8
  obtain ⟨m, hm⟩ : ∃ m, m = (cL64 f t c o d).length := ⟨_, rfl⟩
  obtain rfl : e = .returned (.slice ao' m cap') := by rw [hm]; exact he
  have HM : Hid (m = (cL64 f t c o d).length) := hm
  clear hm he
  go_wp2
  go_ret
  exact ⟨_, _, by rw [← HM.out]; rfl, H9.out⟩
set_option maxHeartbeats 2000000 in
theorem encChunk_false (f t c o : Nat) (ao : Option Addr) (cap : Nat) (d : List Nat) (w : World) (hf : f < 65536) (ht : t < 65536) (hc : c < 18446744073709551616) (ho : o < 18446744073709551616) (hd : BRow w ao cap d) (hn : d.length ≤ 1099511627776) :
    Calls Tryd.prog 27 #[.agg #[.int .u16 (f : Int), .int .u16 (t : Int), .int .u64 (c : Int), .int .u64 (o : Int), .slice ao d.length cap], .bool false] w fun e w' => ∃ ao cap, e = .returned (.slice ao (cL f t c d).length cap) ∧ Row w w' ao cap (cL f t c d) := by
  have hn0 := hn
  replace hd : Hid (BRow w ao cap d) := hd
  replace hn : Hid (d.length ≤ 1099511627776) := hn
  have hwl : IntKind.u64.wrap (d.length : Int) = (d.length : Int) := by rw [IntKind.wrap_u64]; omega
  obtain ⟨W0, hW0⟩ : ∃ W0, W0 = w.alloc (.cells #[.int .u16 (f : Int), .int .u16 (t : Int), .int .u64 (c : Int), .int .u64 (o : Int), .slice ao d.length cap] 85) := ⟨_, rfl⟩
  have hB0 : Below w.heap.size w W0 := by rw [hW0]; exact (Below.refl _ _).alloc (Nat.le_refl _) _
  have g0 : W0.heap[w.heap.size]? = some (.cells #[.int .u16 (f : Int), .int .u16 (t : Int), .int .u64 (c : Int), .int .u64 (o : Int), .slice ao d.length cap] 85 (0, 0)) := by rw [hW0]; exact heap_new w _
  have HRh : Hid (∀ W : World, Calls Tryd.prog 77 #[.bool false] W fun e W' => e = .returned (.tuple #[.int .u32 (mChunk : Nat), .int .i64 20]) ∧ W' = W) := fun W => by
    go_enter Tryd.func77, Tryd.ntmps77
    go_wp2
    go_ret2
    exact ⟨rfl, rfl⟩
  go_enter Tryd.func27, Tryd.ntmps27
  go_wp2_with fail
  rw [← hW0]
  clear hW0
  refine (HRh.out _).mono ?_
  rintro e W9 ⟨rfl, hw⟩
  rw [hw]; clear hw HRh
  have hBa : Hid (Below w.heap.size w W0) := hB0
  have ga : Hid (W0.heap[w.heap.size]? = some (.cells #[.int .u16 (f : Int), .int .u16 (t : Int), .int .u64 (c : Int), .int .u64 (o : Int), .slice ao d.length cap] 85 (0, 0))) := g0
  clear hB0 g0
  go_wp2_with fail
  have h0 : Enc w (W0.alloc (.cells #[.bool true, .slice none 0 0] 189)) w.heap.size W0.heap.size (.slice none 0 0) [] (.cells #[.int .u16 (f : Int), .int .u16 (t : Int), .int .u64 (c : Int), .int .u64 (o : Int), .slice ao d.length cap] 85) := Enc.new hBa.out ga.out
  refine (newWriter_any W0).mono ?_
  rintro e w1 ⟨rfl, rfl⟩
  generalize W0.alloc (.cells #[.bool true, .slice none 0 0] 189) = W1 at *
  generalize W0.heap.size = p at *
  have H1 : Hid _ := h0
  clear h0 hBa ga
  go_wp2_with fail
  refine (wu32_any w.heap.size p mChunk _ _ W1 H1.out.ok (by decide) (by simp [bigTo_length, nL_length] <;> omega) H1.out.hB).mono ?_
  rintro e W2 ⟨rfl, v2, hp⟩
  have H2 : Hid _ := H1.out.step hp
  clear hp H1
  have c0 := H2.out.c 0
  simp at c0
  go_wp2_with fail
  refine (wu16_any w.heap.size p f v2 _ W2 H2.out.ok hf (by simp [bigTo_length, nL_length] <;> omega) H2.out.hB).mono ?_
  rintro e W3 ⟨rfl, v3, hp⟩
  have H3 : Hid _ := H2.out.step hp
  clear hp H2 c0
  have c1 := H3.out.c 1
  simp at c1
  go_wp2_with fail
  refine (wu16_any w.heap.size p t v3 _ W3 H3.out.ok ht (by simp [bigTo_length, nL_length] <;> omega) H3.out.hB).mono ?_
  rintro e W4 ⟨rfl, v4, hp⟩
  have H4 : Hid _ := H3.out.step hp
  clear hp H3 c1
  have c2 := H4.out.c 2
  simp at c2
  go_wp2_with fail
  refine (wu64_any w.heap.size p c v4 _ W4 H4.out.ok hc (by simp [bigTo_length, nL_length] <;> omega) H4.out.hB).mono ?_
  rintro e W5 ⟨rfl, v5, hp⟩
  have H5 : Hid _ := H4.out.step hp
  clear hp H4 c2
  have c4 := H5.out.c 4
  simp at c4
  go_wp2_with fail
  refine (lay_any w.heap.size p d.length false v5 _ W5 H5.out.ok (by omega) (by simp [bigTo_length, nL_length] <;> omega) H5.out.hB).mono ?_
  rintro e W6 ⟨rfl, v6, hp⟩
  have H6 : Hid _ := H5.out.step hp
  clear hp H5 c4
  have c4 := H6.out.c 4
  simp at c4
  go_wp2_with fail
  refine (wraw_any w.heap.size p v6 _ d ao cap d.length W6 H6.out.ok (hd.out.later H6.out.bel) rfl (by have := hn.out; simp [bigTo_length, nL_length] <;> omega) H6.out.hB).mono ?_
  rintro e W7 ⟨rfl, v7, hp⟩
  have H7 : Hid _ := H6.out.step hp
  clear hp H6 c4
  go_wp2_with fail
  refine (wout_any w.heap.size p v7 _ W7 H7.out.ok (by have := hn.out; simp [bigTo_length, nL_length] <;> omega)).mono ?_
  rintro e W8 ⟨ao', cap', he, ho, hb⟩
  have H8 : Hid _ := H7.out.out ho hb
  clear ho hb H7
  obtain ⟨m, hm⟩ : ∃ m, m = (cL f t c d).length := ⟨_, rfl⟩
  obtain rfl : e = .returned (.slice ao' m cap') := by rw [hm]; exact he
  have HM : Hid (m = (cL f t c d).length) := hm
  clear hm he
  go_wp2
  go_ret
  exact ⟨_, _, by rw [← HM.out]; rfl, H8.out⟩
set_option maxHeartbeats 1000000 in
theorem encOption_bad (c k : Nat) (lg : Bool) (ao : Option Addr) (cap : Nat) (d : List Nat) (w : World) (hk : k < 4294967296) (hn : d.length ≤ 1099511627776) (hbad : lg = true ∨ k ≠ d.length) :
    Calls Tryd.prog 48 #[.agg #[.int .u32 (c : Int), .int .u32 (k : Int), .bool lg, .slice ao d.length cap]] w fun e w' => e = .returned (.tuple #[.slice none 0 0, .int .i64 81]) ∧ Below w.heap.size w w' := by
  have hB0 : Hid (Below w.heap.size w (w.alloc (.cells #[.int .u32 (c : Int), .int .u32 (k : Int), .bool lg, .slice ao d.length cap] 111))) := (Below.refl _ _).alloc (Nat.le_refl _) _
  have hwl : IntKind.u64.wrap (d.length : Int) = (d.length : Int) := by rw [IntKind.wrap_u64]; omega
  cases lg with
  | true =>
    go_enter Tryd.func48, Tryd.ntmps48
    go_wp2
    go_ret2
    exact ⟨rfl, hB0.out⟩
  | false =>
    have hne : k ≠ d.length := hbad.elim (fun h => by cases h) id
    have h1 : ¬ ((k : Int) = (d.length : Int)) := by omega
    have h2 : ((k : Int) != (d.length : Int)) = true := by simp; omega
    go_enter Tryd.func48, Tryd.ntmps48
    go_wp2
    go_ret2
    exact ⟨rfl, hB0.out⟩
end Go.Proofs.YtjikibhhhchgeaaDoor
