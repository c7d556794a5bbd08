import Derived.Test.YtjikibhhhchgeaaDoorY18
namespace Go.Proofs.YtjikibhhhchgeaaDoor
open Go.RowKit
set_option linter.unusedVariables false
set_option linter.unusedSimpArgs false
set_option maxRecDepth 100000
/-- what Pack answers -/
def Pk (w : World) (L : List Nat) (E : Nat) (e : Ending) (w' : World) : Prop := ∃ ao cap n, e = .returned (.tuple #[.slice ao n cap, .int .i64 (E : Int)]) ∧ L.length = n ∧ Row w w' ao cap L
theorem pk_none {w w' : World} {E : Nat} (h : Below w.heap.size w w') : Pk w [] E (.returned (.tuple #[.slice none 0 0, .int .i64 (E : Int)])) w' :=
  ⟨none, 0, 0, rfl, rfl, World.ownsRow_nil _ _ _ _, by simp, h⟩
def hoL (off ln : Nat) : List Nat := [] ++ bigTo off 8 8 ++ bigTo ln 4 4
def daL (off : Nat) (m : List Nat) : List Nat := [] ++ bigTo off 8 8 ++ m
def meL (c : Nat) (s : ByteArray) : List Nat := [] ++ bigTo c 4 4 ++ sbytes s
def seL (s : ByteArray) (m : List Nat) : List Nat := [] ++ (bigTo s.size 4 4 ++ sbytes s) ++ m
def erL1 (c : Nat) (s : ByteArray) (a : Nat) : List Nat := [] ++ bigTo c 4 4 ++ bigTo s.size 2 2 ++ sbytes s ++ bigTo a 8 8
def erL0 (c : Nat) (s : ByteArray) : List Nat := [] ++ bigTo c 4 4 ++ bigTo s.size 2 2 ++ sbytes s
set_option maxHeartbeats 2000000 in
theorem packHole (off ln : Nat) (w : World) (h1 : off < 18446744073709551616) (h2 : ln < 4294967296) :
    Calls Tryd.prog 26 #[.agg #[.int .u64 (off : Int), .int .u32 (ln : Int)]] w fun e w' => ∃ ao cap n, e = .returned (.slice ao n cap) ∧ (hoL off ln).length = n ∧ Row w w' ao cap (hoL off ln) := by
  have hx := mkb1 w #[.int .u64 (off : Int), .int .u32 (ln : Int)] 46
  have HXa := hx.a
  go_enter Tryd.func26, Tryd.ntmps26
  go_wp2_with fail
  clear HXa
  generalize w.alloc (Obj.cells #[.int .u64 (off : Int), .int .u32 (ln : Int)] 46) = W0 at *
  have hy : Bx1 w W0 #[.int .u64 (off : Int), .int .u32 (ln : Int)] 46 := hx
  clear hx
  refine (newWriter_any _).mono ?_
  rintro e w1 ⟨rfl, rfl⟩
  have h0 := Enc.new hy.bel hy.a
  have H1 : Hid _ := h0
  clear h0 hy
  generalize W0.alloc (Obj.cells #[.bool true, .slice none 0 0] 189) = W1 at *
  generalize W0.heap.size = p at *
  have c0 := H1.out.c 0
  simp at c0
  go_wp2_with fail
  refine (wu64_any w.heap.size p off _ _ W1 H1.out.ok h1 (by simp [bigTo_length, sbytes_length] <;> omega) H1.out.hB).mono ?_
  rintro e W2 ⟨rfl, v2, hp⟩
  have H2 : Hid _ := H1.out.step hp
  clear hp H1 c0
  have c1 := H2.out.c 1
  simp at c1
  go_wp2_with fail
  refine (wu32_any w.heap.size p ln _ _ W2 H2.out.ok h2 (by simp [bigTo_length, sbytes_length] <;> omega) H2.out.hB).mono ?_
  rintro e W3 ⟨rfl, v3, hp⟩
  have H3 : Hid _ := H2.out.step hp
  clear hp H2 c1
  go_wp2_with fail
  refine (wout_any w.heap.size p _ _ W3 H3.out.ok (by simp [bigTo_length, sbytes_length] <;> omega)).mono ?_
  rintro e Wz ⟨ao', cap', he, ho, hb⟩
  have HZ : Hid _ := H3.out.out ho hb
  clear ho hb H3
  obtain ⟨m9, hm⟩ : ∃ m9, m9 = (hoL off ln).length := ⟨_, rfl⟩
  obtain rfl : e = .returned (.slice ao' m9 cap') := by rw [hm, he]; simp [hoL]
  have HM : Hid (m9 = (hoL off ln).length) := hm
  clear hm he
  go_wp2
  go_ret
  exact ⟨_, _, m9, rfl, HM.out.symm, by simpa [hoL] using HZ.out⟩
set_option maxHeartbeats 2000000 in
theorem packData_ok (off n : Nat) (da : Option Addr) (dc : Nat) (m : List Nat) (w : World) (h1 : off < 18446744073709551616) (hr : BRow w da dc m) (hm0 : m.length = n) (hn : 0 < n) (hn2 : n ≤ 70368744177664) :
    Calls Tryd.prog 29 #[.agg #[.int .u64 (off : Int), .slice da n dc]] w fun e w' => Pk w (daL off m) 0 e w' := by
  have HBR : Hid (BRow w da dc m) := hr
  have HM0 : Hid (m.length = n) := hm0
  have f0 : ((n : Int) == 0) = false := by rw [beq_eq_false_iff_ne]; omega
  clear hr
  have hx := mkb1 w #[.int .u64 (off : Int), .slice da n dc] 44
  have HXa := hx.a
  go_enter Tryd.func29, Tryd.ntmps29
  go_wp2_with fail
  clear HXa
  generalize w.alloc (Obj.cells #[.int .u64 (off : Int), .slice da n dc] 44) = W0 at *
  have hy : Bx1 w W0 #[.int .u64 (off : Int), .slice da n dc] 44 := hx
  clear hx
  refine (newWriter_any _).mono ?_
  rintro e w1 ⟨rfl, rfl⟩
  have h0 := Enc.new hy.bel hy.a
  have H1 : Hid _ := h0
  clear h0 hy
  generalize W0.alloc (Obj.cells #[.bool true, .slice none 0 0] 189) = W1 at *
  generalize W0.heap.size = p at *
  have c0 := H1.out.c 0
  simp at c0
  go_wp2_with fail
  refine (wu64_any w.heap.size p off _ _ W1 H1.out.ok h1 (by simp [bigTo_length, sbytes_length] <;> omega) H1.out.hB).mono ?_
  rintro e W2 ⟨rfl, v2, hp⟩
  have H2 : Hid _ := H1.out.step hp
  clear hp H1 c0
  have c1 := H2.out.c 1
  simp at c1
  go_wp2_with fail
  refine (wraw_any w.heap.size p _ _ m da dc n W2 H2.out.ok (HBR.out.later H2.out.bel) HM0.out (by simp [bigTo_length, sbytes_length] <;> omega) H2.out.hB).mono ?_
  rintro e W3 ⟨rfl, v3, hp⟩
  have H3 : Hid _ := H2.out.step hp
  clear hp H2 c1
  go_wp2_with fail
  refine (wout_any w.heap.size p _ _ W3 H3.out.ok (by simp [bigTo_length, sbytes_length] <;> omega)).mono ?_
  rintro e Wz ⟨ao', cap', he, ho, hb⟩
  have HZ : Hid _ := H3.out.out ho hb
  clear ho hb H3
  obtain ⟨m9, hm⟩ : ∃ m9, m9 = (daL off m).length := ⟨_, rfl⟩
  obtain rfl : e = .returned (.slice ao' m9 cap') := by rw [hm, he]; simp [daL]
  have HM : Hid (m9 = (daL off m).length) := hm
  clear hm he
  go_wp2
  go_ret2
  exact ⟨_, _, m9, rfl, HM.out.symm, by simpa [daL] using HZ.out⟩
set_option maxHeartbeats 2000000 in
theorem packData_bad (off : Nat) (da : Option Addr) (dc : Nat) (w : World) :
    Calls Tryd.prog 29 #[.agg #[.int .u64 (off : Int), .slice da 0 dc]] w fun e w' => Pk w [] 81 e w' := by
  have hx := mkb1 w #[.int .u64 (off : Int), .slice da 0 dc] 44
  go_enter Tryd.func29, Tryd.ntmps29
  go_wp2
  go_ret2
  exact pk_none hx.bel
set_option maxHeartbeats 2000000 in
theorem packMeta_ok (c : Nat) (s : ByteArray) (w : World) (h1 : c < 4294967296) (hT : Tabs w) (ht : tx s = true) :
    Calls Tryd.prog 34 #[.agg #[.int .u32 (c : Int), .string s]] w fun e w' => Pk w (meL c s) 0 e w' := by
  obtain ⟨hs4, hpl⟩ := tx_true ht
  have HT : Hid (Tabs w) := hT
  have HI : Hid (∀ W, Below w.heap.size w W → Calls Tryd.prog 90 #[.string s] W fun e w' => e = .returned (.bool true) ∧ Below W.heap.size W w') := fun W hb => by have h := isText_any s W (by omega) (HT.out.later hb); rw [ht] at h; exact h
  clear hT ht
  have hx := mkb1 w #[.int .u32 (c : Int), .string s] 35
  have HXa := hx.a
  go_enter Tryd.func34, Tryd.ntmps34
  go_wp2_with fail
  clear HXa
  generalize w.alloc (Obj.cells #[.int .u32 (c : Int), .string s] 35) = W0 at *
  refine (HI.out _ hx.bel).mono ?_
  rintro e Wi ⟨rfl, hb⟩
  have hy : Bx1 w Wi #[.int .u32 (c : Int), .string s] 35 := hx.later hb
  clear hx hb HI
  have k1 := blk_at hy.a 0
  simp at k1
  go_wp2_with fail
  refine (newWriter_any _).mono ?_
  rintro e w1 ⟨rfl, rfl⟩
  have h0 := Enc.new hy.bel hy.a
  have H1 : Hid _ := h0
  clear h0 hy
  generalize Wi.alloc (Obj.cells #[.bool true, .slice none 0 0] 189) = W1 at *
  generalize Wi.heap.size = p at *
  have c0 := H1.out.c 0
  simp at c0
  go_wp2_with fail
  refine (wu32_any w.heap.size p c _ _ W1 H1.out.ok h1 (by simp [bigTo_length, sbytes_length] <;> omega) H1.out.hB).mono ?_
  rintro e W2 ⟨rfl, v2, hp⟩
  have H2 : Hid _ := H1.out.step hp
  clear hp H1 c0
  have c1 := H2.out.c 1
  simp at c1
  obtain ⟨W2b, cp2, hcv, hb3, hr3⟩ := conv_any s W2 hs4
  have H2b : Hid _ := H2.out.step (WPost.ofBelow H2.out.ok hb3)
  have HR2 : Hid (BRow W2b (some ⟨W2.heap.size, 0, none⟩) cp2 (sbytes s)) := hr3
  clear hb3 hr3
  go_wp2_with fail
  refine (wraw_any w.heap.size p _ _ (sbytes s) (some ⟨W2.heap.size, 0, none⟩) cp2 s.size W2b H2b.out.ok HR2.out (sbytes_length s) (by simp [bigTo_length, sbytes_length] <;> omega) H2b.out.hB).mono ?_
  rintro e W3 ⟨rfl, v3, hp⟩
  have H3 : Hid _ := H2b.out.step hp
  clear hp hcv H2 H2b HR2 c1
  go_wp2_with fail
  refine (wout_any w.heap.size p _ _ W3 H3.out.ok (by simp [bigTo_length, sbytes_length] <;> omega)).mono ?_
  rintro e Wz ⟨ao', cap', he, ho, hb⟩
  have HZ : Hid _ := H3.out.out ho hb
  clear ho hb H3
  obtain ⟨m9, hm⟩ : ∃ m9, m9 = (meL c s).length := ⟨_, rfl⟩
  obtain rfl : e = .returned (.slice ao' m9 cap') := by rw [hm, he]; simp [meL]
  have HM : Hid (m9 = (meL c s).length) := hm
  clear hm he
  go_wp2
  go_ret2
  exact ⟨_, _, m9, rfl, HM.out.symm, by simpa [meL] using HZ.out⟩
set_option maxHeartbeats 2000000 in
theorem packMeta_bad (c : Nat) (s : ByteArray) (w : World) (hs : s.size ≤ 9223372036854775807) (hT : Tabs w) (ht : tx s = false) :
    Calls Tryd.prog 34 #[.agg #[.int .u32 (c : Int), .string s]] w fun e w' => Pk w [] 81 e w' := by
  have HT : Hid (Tabs w) := hT
  have HI : Hid (∀ W, Below w.heap.size w W → Calls Tryd.prog 90 #[.string s] W fun e w' => e = .returned (.bool false) ∧ Below W.heap.size W w') := fun W hb => by have h := isText_any s W hs (HT.out.later hb); rw [ht] at h; exact h
  clear hT ht
  have hx := mkb1 w #[.int .u32 (c : Int), .string s] 35
  go_enter Tryd.func34, Tryd.ntmps34
  go_wp2_with fail
  generalize w.alloc (Obj.cells #[.int .u32 (c : Int), .string s] 35) = W0 at *
  refine (HI.out _ hx.bel).mono ?_
  rintro e Wi ⟨rfl, hb⟩
  have hy : Bx1 w Wi #[.int .u32 (c : Int), .string s] 35 := hx.later hb
  clear hx hb HI
  go_wp2
  go_ret2
  exact pk_none hy.bel
set_option maxHeartbeats 2000000 in
theorem packServer_ok (s : ByteArray) (n : Nat) (da : Option Addr) (dc : Nat) (m : List Nat) (w : World) (hr : BRow w da dc m) (hm0 : m.length = n) (hn2 : n ≤ 70368744177664) (hT : Tabs w) (ht : tx s = true) :
    Calls Tryd.prog 35 #[.agg #[.string s, .slice da n dc]] w fun e w' => Pk w (seL s m) 0 e w' := by
  have HBR : Hid (BRow w da dc m) := hr
  have HM0 : Hid (m.length = n) := hm0
  clear hr
  obtain ⟨hs4, hpl⟩ := tx_true ht
  have HT : Hid (Tabs w) := hT
  have HI : Hid (∀ W, Below w.heap.size w W → Calls Tryd.prog 90 #[.string s] W fun e w' => e = .returned (.bool true) ∧ Below W.heap.size W w') := fun W hb => by have h := isText_any s W (by omega) (HT.out.later hb); rw [ht] at h; exact h
  clear hT ht
  have hx := mkb1 w #[.string s, .slice da n dc] 37
  have HXa := hx.a
  go_enter Tryd.func35, Tryd.ntmps35
  go_wp2_with fail
  clear HXa
  generalize w.alloc (Obj.cells #[.string s, .slice da n dc] 37) = W0 at *
  refine (HI.out _ hx.bel).mono ?_
  rintro e Wi ⟨rfl, hb⟩
  have hy : Bx1 w Wi #[.string s, .slice da n dc] 37 := hx.later hb
  clear hx hb HI
  go_wp2_with fail
  refine (newWriter_any _).mono ?_
  rintro e w1 ⟨rfl, rfl⟩
  have h0 := Enc.new hy.bel hy.a
  have H1 : Hid _ := h0
  clear h0 hy
  generalize Wi.alloc (Obj.cells #[.bool true, .slice none 0 0] 189) = W1 at *
  generalize Wi.heap.size = p at *
  have c0 := H1.out.c 0
  simp at c0
  go_wp2_with fail
  refine (wtext_ok w.heap.size p _ _ s W1 H1.out.ok (HT.out.later H1.out.bel) hpl hs4 (by simp [bigTo_length, sbytes_length] <;> omega) H1.out.hB).mono ?_
  rintro e W2 ⟨rfl, v2, hp⟩
  have H2 : Hid _ := H1.out.step hp
  clear hp H1 c0
  have c1 := H2.out.c 1
  simp at c1
  go_wp2_with fail
  refine (wraw_any w.heap.size p _ _ m da dc n W2 H2.out.ok (HBR.out.later H2.out.bel) HM0.out (by simp [bigTo_length, sbytes_length] <;> omega) H2.out.hB).mono ?_
  rintro e W3 ⟨rfl, v3, hp⟩
  have H3 : Hid _ := H2.out.step hp
  clear hp H2 c1
  go_wp2_with fail
  refine (wout_any w.heap.size p _ _ W3 H3.out.ok (by simp [bigTo_length, sbytes_length] <;> omega)).mono ?_
  rintro e Wz ⟨ao', cap', he, ho, hb⟩
  have HZ : Hid _ := H3.out.out ho hb
  clear ho hb H3
  obtain ⟨m9, hm⟩ : ∃ m9, m9 = (seL s m).length := ⟨_, rfl⟩
  obtain rfl : e = .returned (.slice ao' m9 cap') := by rw [hm, he]; simp [seL]
  have HM : Hid (m9 = (seL s m).length) := hm
  clear hm he
  go_wp2
  go_ret2
  exact ⟨_, _, m9, rfl, HM.out.symm, by simpa [seL] using HZ.out⟩
set_option maxHeartbeats 2000000 in
theorem packServer_bad (s : ByteArray) (n : Nat) (da : Option Addr) (dc : Nat) (w : World) (hs : s.size ≤ 9223372036854775807) (hT : Tabs w) (ht : tx s = false) :
    Calls Tryd.prog 35 #[.agg #[.string s, .slice da n dc]] w fun e w' => Pk w [] 81 e w' := by
  have HT : Hid (Tabs w) := hT
  have HI : Hid (∀ W, Below w.heap.size w W → Calls Tryd.prog 90 #[.string s] W fun e w' => e = .returned (.bool false) ∧ Below W.heap.size W w') := fun W hb => by have h := isText_any s W hs (HT.out.later hb); rw [ht] at h; exact h
  clear hT ht
  have hx := mkb1 w #[.string s, .slice da n dc] 37
  go_enter Tryd.func35, Tryd.ntmps35
  go_wp2_with fail
  generalize w.alloc (Obj.cells #[.string s, .slice da n dc] 37) = W0 at *
  refine (HI.out _ hx.bel).mono ?_
  rintro e Wi ⟨rfl, hb⟩
  have hy : Bx1 w Wi #[.string s, .slice da n dc] 37 := hx.later hb
  clear hx hb HI
  go_wp2
  go_ret2
  exact pk_none hy.bel
set_option maxHeartbeats 2000000 in
theorem packError_ok1 (c : Nat) (s : ByteArray) (a : Nat) (w : World) (h1 : c < 4294967296) (h2 : a < 18446744073709551616) (hT : Tabs w) (ht : tx s = true) :
    Calls Tryd.prog 37 #[.agg #[.int .u32 (c : Int), .string s, .bool true, .int .u64 (a : Int)]] w fun e w' => Pk w (erL1 c s a) 0 e w' := by
  have hw16 : IntKind.u16.wrap ((s.size : Nat) : Int) = ((s.size : Nat) : Int) := by have := (tx_true ht).1; rw [IntKind.wrap_u16]; omega
  obtain ⟨hs4, hpl⟩ := tx_true ht
  have HT : Hid (Tabs w) := hT
  have HI : Hid (∀ W, Below w.heap.size w W → Calls Tryd.prog 90 #[.string s] W fun e w' => e = .returned (.bool true) ∧ Below W.heap.size W w') := fun W hb => by have h := isText_any s W (by omega) (HT.out.later hb); rw [ht] at h; exact h
  clear hT ht
  have hx := mkb1 w #[.int .u32 (c : Int), .string s, .bool true, .int .u64 (a : Int)] 42
  have HXa := hx.a
  go_enter Tryd.func37, Tryd.ntmps37
  go_wp2_with fail
  clear HXa
  generalize w.alloc (Obj.cells #[.int .u32 (c : Int), .string s, .bool true, .int .u64 (a : Int)] 42) = W0 at *
  refine (HI.out _ hx.bel).mono ?_
  rintro e Wi ⟨rfl, hb⟩
  have hy : Bx1 w Wi #[.int .u32 (c : Int), .string s, .bool true, .int .u64 (a : Int)] 42 := hx.later hb
  clear hx hb HI
  have k2 := blk_at hy.a 2
  simp at k2
  go_wp2_with fail
  refine (newWriter_any _).mono ?_
  rintro e w1 ⟨rfl, rfl⟩
  have h0 := Enc.new hy.bel hy.a
  have H1 : Hid _ := h0
  clear h0 hy
  generalize Wi.alloc (Obj.cells #[.bool true, .slice none 0 0] 189) = W1 at *
  generalize Wi.heap.size = p at *
  have c0 := H1.out.c 0
  simp at c0
  go_wp2_with fail
  refine (wu32_any w.heap.size p c _ _ W1 H1.out.ok h1 (by simp [bigTo_length, sbytes_length] <;> omega) H1.out.hB).mono ?_
  rintro e W2 ⟨rfl, v2, hp⟩
  have H2 : Hid _ := H1.out.step hp
  clear hp H1 c0
  have c1 := H2.out.c 1
  simp at c1
  go_wp2_with fail
  refine (wu16_any w.heap.size p s.size _ _ W2 H2.out.ok (by omega) (by simp [bigTo_length, sbytes_length] <;> omega) H2.out.hB).mono ?_
  rintro e W3 ⟨rfl, v3, hp⟩
  have H3 : Hid _ := H2.out.step hp
  clear hp H2 c1
  have c1 := H3.out.c 1
  simp at c1
  obtain ⟨W3b, cp3, hcv, hb3, hr3⟩ := conv_any s W3 hs4
  have H3b : Hid _ := H3.out.step (WPost.ofBelow H3.out.ok hb3)
  have HR3 : Hid (BRow W3b (some ⟨W3.heap.size, 0, none⟩) cp3 (sbytes s)) := hr3
  clear hb3 hr3
  go_wp2_with fail
  refine (wraw_any w.heap.size p _ _ (sbytes s) (some ⟨W3.heap.size, 0, none⟩) cp3 s.size W3b H3b.out.ok HR3.out (sbytes_length s) (by simp [bigTo_length, sbytes_length] <;> omega) H3b.out.hB).mono ?_
  rintro e W4 ⟨rfl, v4, hp⟩
  have H4 : Hid _ := H3b.out.step hp
  clear hp hcv H3 H3b HR3 c1
  have k2 := H4.out.c 2
  simp at k2
  have c3 := H4.out.c 3
  simp at c3
  go_wp2_with fail
  refine (wu64_any w.heap.size p a _ _ W4 H4.out.ok h2 (by simp [bigTo_length, sbytes_length] <;> omega) H4.out.hB).mono ?_
  rintro e W5 ⟨rfl, v5, hp⟩
  have H5 : Hid _ := H4.out.step hp
  clear hp H4 c3
  go_wp2_with fail
  refine (wout_any w.heap.size p _ _ W5 H5.out.ok (by simp [bigTo_length, sbytes_length] <;> omega)).mono ?_
  rintro e Wz ⟨ao', cap', he, ho, hb⟩
  have HZ : Hid _ := H5.out.out ho hb
  clear ho hb H5
  obtain ⟨m9, hm⟩ : ∃ m9, m9 = (erL1 c s a).length := ⟨_, rfl⟩
  obtain rfl : e = .returned (.slice ao' m9 cap') := by rw [hm, he]; simp [erL1]
  have HM : Hid (m9 = (erL1 c s a).length) := hm
  clear hm he
  go_wp2
  go_ret2
  exact ⟨_, _, m9, rfl, HM.out.symm, by simpa [erL1] using HZ.out⟩
set_option maxHeartbeats 2000000 in
theorem packError_ok0 (c : Nat) (s : ByteArray) (a : Nat) (w : World) (h1 : c < 4294967296) (ha : a = 0) (hT : Tabs w) (ht : tx s = true) :
    Calls Tryd.prog 37 #[.agg #[.int .u32 (c : Int), .string s, .bool false, .int .u64 (a : Int)]] w fun e w' => Pk w (erL0 c s) 0 e w' := by
  have hw16 : IntKind.u16.wrap ((s.size : Nat) : Int) = ((s.size : Nat) : Int) := by have := (tx_true ht).1; rw [IntKind.wrap_u16]; omega
  have f0 : ((a : Int) != 0) = false := by rw [bne_eq_false_iff_eq]; omega
  clear ha
  obtain ⟨hs4, hpl⟩ := tx_true ht
  have HT : Hid (Tabs w) := hT
  have HI : Hid (∀ W, Below w.heap.size w W → Calls Tryd.prog 90 #[.string s] W fun e w' => e = .returned (.bool true) ∧ Below W.heap.size W w') := fun W hb => by have h := isText_any s W (by omega) (HT.out.later hb); rw [ht] at h; exact h
  clear hT ht
  have hx := mkb1 w #[.int .u32 (c : Int), .string s, .bool false, .int .u64 (a : Int)] 42
  have HXa := hx.a
  go_enter Tryd.func37, Tryd.ntmps37
  go_wp2_with fail
  clear HXa
  generalize w.alloc (Obj.cells #[.int .u32 (c : Int), .string s, .bool false, .int .u64 (a : Int)] 42) = W0 at *
  refine (HI.out _ hx.bel).mono ?_
  rintro e Wi ⟨rfl, hb⟩
  have hy : Bx1 w Wi #[.int .u32 (c : Int), .string s, .bool false, .int .u64 (a : Int)] 42 := hx.later hb
  clear hx hb HI
  have k2 := blk_at hy.a 2
  have k3 := blk_at hy.a 3
  simp at k2 k3
  go_wp2_with fail
  refine (newWriter_any _).mono ?_
  rintro e w1 ⟨rfl, rfl⟩
  have h0 := Enc.new hy.bel hy.a
  have H1 : Hid _ := h0
  clear h0 hy
  generalize Wi.alloc (Obj.cells #[.bool true, .slice none 0 0] 189) = W1 at *
  generalize Wi.heap.size = p at *
  have c0 := H1.out.c 0
  simp at c0
  go_wp2_with fail
  refine (wu32_any w.heap.size p c _ _ W1 H1.out.ok h1 (by simp [bigTo_length, sbytes_length] <;> omega) H1.out.hB).mono ?_
  rintro e W2 ⟨rfl, v2, hp⟩
  have H2 : Hid _ := H1.out.step hp
  clear hp H1 c0
  have c1 := H2.out.c 1
  simp at c1
  go_wp2_with fail
  refine (wu16_any w.heap.size p s.size _ _ W2 H2.out.ok (by omega) (by simp [bigTo_length, sbytes_length] <;> omega) H2.out.hB).mono ?_
  rintro e W3 ⟨rfl, v3, hp⟩
  have H3 : Hid _ := H2.out.step hp
  clear hp H2 c1
  have c1 := H3.out.c 1
  simp at c1
  obtain ⟨W3b, cp3, hcv, hb3, hr3⟩ := conv_any s W3 hs4
  have H3b : Hid _ := H3.out.step (WPost.ofBelow H3.out.ok hb3)
  have HR3 : Hid (BRow W3b (some ⟨W3.heap.size, 0, none⟩) cp3 (sbytes s)) := hr3
  clear hb3 hr3
  go_wp2_with fail
  refine (wraw_any w.heap.size p _ _ (sbytes s) (some ⟨W3.heap.size, 0, none⟩) cp3 s.size W3b H3b.out.ok HR3.out (sbytes_length s) (by simp [bigTo_length, sbytes_length] <;> omega) H3b.out.hB).mono ?_
  rintro e W4 ⟨rfl, v4, hp⟩
  have H4 : Hid _ := H3b.out.step hp
  clear hp hcv H3 H3b HR3 c1
  have k2 := H4.out.c 2
  simp at k2
  go_wp2_with fail
  refine (wout_any w.heap.size p _ _ W4 H4.out.ok (by simp [bigTo_length, sbytes_length] <;> omega)).mono ?_
  rintro e Wz ⟨ao', cap', he, ho, hb⟩
  have HZ : Hid _ := H4.out.out ho hb
  clear ho hb H4
  obtain ⟨m9, hm⟩ : ∃ m9, m9 = (erL0 c s).length := ⟨_, rfl⟩
  obtain rfl : e = .returned (.slice ao' m9 cap') := by rw [hm, he]; simp [erL0]
  have HM : Hid (m9 = (erL0 c s).length) := hm
  clear hm he
  go_wp2
  go_ret2
  exact ⟨_, _, m9, rfl, HM.out.symm, by simpa [erL0] using HZ.out⟩
set_option maxHeartbeats 2000000 in
theorem packError_bad (c : Nat) (s : ByteArray) (b : Bool) (a : Nat) (w : World) (hs : s.size ≤ 9223372036854775807) (hT : Tabs w) (ht : tx s = false) :
    Calls Tryd.prog 37 #[.agg #[.int .u32 (c : Int), .string s, .bool b, .int .u64 (a : Int)]] w fun e w' => Pk w [] 81 e w' := by
  have HT : Hid (Tabs w) := hT
  have HI : Hid (∀ W, Below w.heap.size w W → Calls Tryd.prog 90 #[.string s] W fun e w' => e = .returned (.bool false) ∧ Below W.heap.size W w') := fun W hb => by have h := isText_any s W hs (HT.out.later hb); rw [ht] at h; exact h
  clear hT ht
  have hx := mkb1 w #[.int .u32 (c : Int), .string s, .bool b, .int .u64 (a : Int)] 42
  go_enter Tryd.func37, Tryd.ntmps37
  go_wp2_with fail
  generalize w.alloc (Obj.cells #[.int .u32 (c : Int), .string s, .bool b, .int .u64 (a : Int)] 42) = W0 at *
  refine (HI.out _ hx.bel).mono ?_
  rintro e Wi ⟨rfl, hb⟩
  have hy : Bx1 w Wi #[.int .u32 (c : Int), .string s, .bool b, .int .u64 (a : Int)] 42 := hx.later hb
  clear hx hb HI
  go_wp2
  go_ret2
  exact pk_none hy.bel
set_option maxHeartbeats 2000000 in
theorem packError_at (c : Nat) (s : ByteArray) (a : Nat) (w : World) (hs : s.size ≤ 9223372036854775807) (hT : Tabs w) (ht : tx s = true) (ha : a ≠ 0) :
    Calls Tryd.prog 37 #[.agg #[.int .u32 (c : Int), .string s, .bool false, .int .u64 (a : Int)]] w fun e w' => Pk w [] 81 e w' := by
  have f0 : ((a : Int) != 0) = true := by rw [bne_iff_ne]; omega
  clear ha
  have HT : Hid (Tabs w) := hT
  have HI : Hid (∀ W, Below w.heap.size w W → Calls Tryd.prog 90 #[.string s] W fun e w' => e = .returned (.bool true) ∧ Below W.heap.size W w') := fun W hb => by have h := isText_any s W hs (HT.out.later hb); rw [ht] at h; exact h
  clear hT ht
  have hx := mkb1 w #[.int .u32 (c : Int), .string s, .bool false, .int .u64 (a : Int)] 42
  go_enter Tryd.func37, Tryd.ntmps37
  go_wp2_with fail
  generalize w.alloc (Obj.cells #[.int .u32 (c : Int), .string s, .bool false, .int .u64 (a : Int)] 42) = W0 at *
  refine (HI.out _ hx.bel).mono ?_
  rintro e Wi ⟨rfl, hb⟩
  have hy : Bx1 w Wi #[.int .u32 (c : Int), .string s, .bool false, .int .u64 (a : Int)] 42 := hx.later hb
  clear hx hb HI
  have k2 := blk_at hy.a 2
  have k3 := blk_at hy.a 3
  simp at k2 k3
  go_wp2
  go_ret2
  exact pk_none hy.bel
end Go.Proofs.YtjikibhhhchgeaaDoor
