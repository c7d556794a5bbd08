import Derived.Test.YtjikibhhhchgeaaDoorY33
namespace Go.Proofs.YtjikibhhhchgeaaDoor
open Go.RowKit
set_option linter.unusedVariables false
set_option linter.unusedSimpArgs false
set_option maxRecDepth 100000
/-- the bytes of an information -/
def inL (k sz fl : Nat) (s : ByteArray) (mn pf mx : Nat) (d : List Nat) : List Nat :=
  if k = 0 then [] ++ bigTo k 2 2 ++ bigTo sz 8 8 ++ bigTo fl 2 2
  else if k = 1 ∨ k = 2 then [] ++ bigTo k 2 2 ++ sbytes s
  else if k = 3 then [] ++ bigTo k 2 2 ++ bigTo mn 4 4 ++ bigTo pf 4 4 ++ bigTo mx 4 4
  else [] ++ bigTo k 2 2 ++ d
set_option maxHeartbeats 4000000 in
theorem packInfo_0 (k sz fl : Nat) (s : ByteArray) (mn pf mx : Nat) (da : Option Addr) (n dc : Nat) (d : List Nat) (w : World) (hk : k < 65536) (hsz : sz < 18446744073709551616) (hfl : fl < 65536) (hs : s.size ≤ 9223372036854775807) (hmn : mn < 4294967296) (hpf : pf < 4294967296) (hmx : mx < 4294967296) (hr : BRow w da dc d) (hd : d.length = n) (hn : n ≤ 1048576) (hT : Tabs w) (hfit : ifB k sz fl s mn pf mx n = true) (hkk : k = 0) :
    Calls Tryd.prog 31 #[.agg #[.int .u16 (k : Int), .int .u64 (sz : Int), .int .u16 (fl : Int), .string s, .int .u32 (mn : Int), .int .u32 (pf : Int), .int .u32 (mx : Int), .slice da n dc]] w fun e w' => Pk w (inL k sz fl s mn pf mx d) 0 e w' := by
  have HI : Hid (∀ W, Below w.heap.size w W → Calls Tryd.prog 89 #[.agg #[.int .u16 (k : Int), .int .u64 (sz : Int), .int .u16 (fl : Int), .string s, .int .u32 (mn : Int), .int .u32 (pf : Int), .int .u32 (mx : Int), .slice da n dc]] W fun e w' => e = .returned (.bool true) ∧ Below W.heap.size W w') := fun W hb => by have h := infoFits_any k sz fl s mn pf mx da n dc W hs (hT.later hb); rw [hfit] at h; exact h
  have HBR : Hid (BRow w da dc d) := hr
  have HM0 : Hid (d.length = n) := hd
  have t0 : ((k : Int) == 0) = true := by simp [hkk]
  have t1 : ((k : Int) == 1) = false := by rw [beq_eq_false_iff_ne]; omega
  have t2 : ((k : Int) == 2) = false := by rw [beq_eq_false_iff_ne]; omega
  have t3 : ((k : Int) == 3) = false := by rw [beq_eq_false_iff_ne]; omega
  have HL : Hid (inL k sz fl s mn pf mx d = [] ++ bigTo k 2 2 ++ bigTo sz 8 8 ++ bigTo fl 2 2) := by show _ = _; simp [inL, hkk]
  clear hr hd hT hfit hkk hs
  have hx := mkb1 w #[.int .u16 (k : Int), .int .u64 (sz : Int), .int .u16 (fl : Int), .string s, .int .u32 (mn : Int), .int .u32 (pf : Int), .int .u32 (mx : Int), .slice da n dc] 27
  go_enter Tryd.func31, Tryd.ntmps31
  go_wp2_with fail
  generalize w.alloc (Obj.cells #[.int .u16 (k : Int), .int .u64 (sz : Int), .int .u16 (fl : Int), .string s, .int .u32 (mn : Int), .int .u32 (pf : Int), .int .u32 (mx : Int), .slice da n dc] 27) = W0 at *
  refine (HI.out _ hx.bel).mono ?_
  rintro e Wi ⟨rfl, hb⟩
  have hy : Bx1 w Wi #[.int .u16 (k : Int), .int .u64 (sz : Int), .int .u16 (fl : Int), .string s, .int .u32 (mn : Int), .int .u32 (pf : Int), .int .u32 (mx : Int), .slice da n dc] 27 := hx.later hb
  clear hx hb HI
  go_wp2_with fail
  refine (newWriter_any _).mono ?_
  rintro e w1 ⟨rfl, rfl⟩
  have h0 := Enc.new hy.bel hy.a
  have H1 : Hid _ := h0
  clear h0 hy
  generalize Wi.alloc (Obj.cells #[.bool true, .slice none 0 0] 189) = W1 at *
  generalize Wi.heap.size = p at *
  have c0 := H1.out.c 0
  simp at c0
  go_wp2_with fail
  refine (wu16_any w.heap.size p k _ _ W1 H1.out.ok hk (by simp [bigTo_length, sbytes_length] <;> omega) H1.out.hB).mono ?_
  rintro e W2 ⟨rfl, v2, hp⟩
  have H2 : Hid _ := H1.out.step hp
  clear hp H1 c0
  have c0 := H2.out.c 0
  simp at c0
  have c1 := H2.out.c 1
  simp at c1
  go_wp2_with fail
  refine (wu64_any w.heap.size p sz _ _ W2 H2.out.ok hsz (by simp [bigTo_length, sbytes_length] <;> omega) H2.out.hB).mono ?_
  rintro e W3 ⟨rfl, v3, hp⟩
  have H3 : Hid _ := H2.out.step hp
  clear hp H2 c0 c1
  have c2 := H3.out.c 2
  simp at c2
  go_wp2_with fail
  refine (wu16_any w.heap.size p fl _ _ W3 H3.out.ok hfl (by simp [bigTo_length, sbytes_length] <;> omega) H3.out.hB).mono ?_
  rintro e W4 ⟨rfl, v4, hp⟩
  have H4 : Hid _ := H3.out.step hp
  clear hp H3 c2
  go_wp2_with fail
  refine (wout_any w.heap.size p _ _ W4 H4.out.ok (by have h0 := HM0.out; simp [bigTo_length, sbytes_length] <;> omega)).mono ?_
  rintro e Wz ⟨ao', cap', he, ho, hb⟩
  have HZ : Hid _ := H4.out.out ho hb
  clear ho hb H4
  obtain ⟨m9, hm⟩ : ∃ m9, m9 = (inL k sz fl s mn pf mx d).length := ⟨_, rfl⟩
  obtain rfl : e = .returned (.slice ao' m9 cap') := by rw [hm, he, HL.out]
  have HM : Hid (m9 = (inL k sz fl s mn pf mx d).length) := hm
  clear hm he
  go_wp2
  go_ret2
  exact ⟨_, _, m9, rfl, HM.out.symm, by rw [HL.out]; exact HZ.out⟩
set_option maxHeartbeats 4000000 in
theorem packInfo_1 (k sz fl : Nat) (s : ByteArray) (mn pf mx : Nat) (da : Option Addr) (n dc : Nat) (d : List Nat) (w : World) (hk : k < 65536) (hsz : sz < 18446744073709551616) (hfl : fl < 65536) (hs : s.size ≤ 9223372036854775807) (hmn : mn < 4294967296) (hpf : pf < 4294967296) (hmx : mx < 4294967296) (hr : BRow w da dc d) (hd : d.length = n) (hn : n ≤ 1048576) (hT : Tabs w) (hfit : ifB k sz fl s mn pf mx n = true) (hkk : k = 1) :
    Calls Tryd.prog 31 #[.agg #[.int .u16 (k : Int), .int .u64 (sz : Int), .int .u16 (fl : Int), .string s, .int .u32 (mn : Int), .int .u32 (pf : Int), .int .u32 (mx : Int), .slice da n dc]] w fun e w' => Pk w (inL k sz fl s mn pf mx d) 0 e w' := by
  have HI : Hid (∀ W, Below w.heap.size w W → Calls Tryd.prog 89 #[.agg #[.int .u16 (k : Int), .int .u64 (sz : Int), .int .u16 (fl : Int), .string s, .int .u32 (mn : Int), .int .u32 (pf : Int), .int .u32 (mx : Int), .slice da n dc]] W fun e w' => e = .returned (.bool true) ∧ Below W.heap.size W w') := fun W hb => by have h := infoFits_any k sz fl s mn pf mx da n dc W hs (hT.later hb); rw [hfit] at h; exact h
  have HBR : Hid (BRow w da dc d) := hr
  have HM0 : Hid (d.length = n) := hd
  have hs4 : s.size ≤ 4096 := by have h := hfit; simp [ifB, hkk] at h; exact (tx_true h.2.1).1
  have t0 : ((k : Int) == 0) = false := by rw [beq_eq_false_iff_ne]; omega
  have t1 : ((k : Int) == 1) = true := by simp [hkk]
  have t2 : ((k : Int) == 2) = false := by rw [beq_eq_false_iff_ne]; omega
  have t3 : ((k : Int) == 3) = false := by rw [beq_eq_false_iff_ne]; omega
  have HL : Hid (inL k sz fl s mn pf mx d = [] ++ bigTo k 2 2 ++ sbytes s) := by show _ = _; simp [inL, hkk]
  clear hr hd hT hfit hkk hs
  have hx := mkb1 w #[.int .u16 (k : Int), .int .u64 (sz : Int), .int .u16 (fl : Int), .string s, .int .u32 (mn : Int), .int .u32 (pf : Int), .int .u32 (mx : Int), .slice da n dc] 27
  go_enter Tryd.func31, Tryd.ntmps31
  go_wp2_with fail
  generalize w.alloc (Obj.cells #[.int .u16 (k : Int), .int .u64 (sz : Int), .int .u16 (fl : Int), .string s, .int .u32 (mn : Int), .int .u32 (pf : Int), .int .u32 (mx : Int), .slice da n dc] 27) = W0 at *
  refine (HI.out _ hx.bel).mono ?_
  rintro e Wi ⟨rfl, hb⟩
  have hy : Bx1 w Wi #[.int .u16 (k : Int), .int .u64 (sz : Int), .int .u16 (fl : Int), .string s, .int .u32 (mn : Int), .int .u32 (pf : Int), .int .u32 (mx : Int), .slice da n dc] 27 := hx.later hb
  clear hx hb HI
  go_wp2_with fail
  refine (newWriter_any _).mono ?_
  rintro e w1 ⟨rfl, rfl⟩
  have h0 := Enc.new hy.bel hy.a
  have H1 : Hid _ := h0
  clear h0 hy
  generalize Wi.alloc (Obj.cells #[.bool true, .slice none 0 0] 189) = W1 at *
  generalize Wi.heap.size = p at *
  have c0 := H1.out.c 0
  simp at c0
  go_wp2_with fail
  refine (wu16_any w.heap.size p k _ _ W1 H1.out.ok hk (by simp [bigTo_length, sbytes_length] <;> omega) H1.out.hB).mono ?_
  rintro e W2 ⟨rfl, v2, hp⟩
  have H2 : Hid _ := H1.out.step hp
  clear hp H1 c0
  have c0 := H2.out.c 0
  simp at c0
  have c3 := H2.out.c 3
  simp at c3
  obtain ⟨W2b, cp2, hcv, hb3, hr3⟩ := conv_any s W2 hs4
  have H2b : Hid _ := H2.out.step (WPost.ofBelow H2.out.ok hb3)
  have HR2 : Hid (BRow W2b (some ⟨W2.heap.size, 0, none⟩) cp2 (sbytes s)) := hr3
  clear hb3 hr3
  go_wp2_with fail
  refine (wraw_any w.heap.size p _ _ (sbytes s) (some ⟨W2.heap.size, 0, none⟩) cp2 s.size W2b H2b.out.ok HR2.out (sbytes_length s) (by simp [bigTo_length, sbytes_length] <;> omega) H2b.out.hB).mono ?_
  rintro e W3 ⟨rfl, v3, hp⟩
  have H3 : Hid _ := H2b.out.step hp
  clear hp hcv H2 H2b HR2 c0 c3
  go_wp2_with fail
  refine (wout_any w.heap.size p _ _ W3 H3.out.ok (by have h0 := HM0.out; simp [bigTo_length, sbytes_length] <;> omega)).mono ?_
  rintro e Wz ⟨ao', cap', he, ho, hb⟩
  have HZ : Hid _ := H3.out.out ho hb
  clear ho hb H3
  obtain ⟨m9, hm⟩ : ∃ m9, m9 = (inL k sz fl s mn pf mx d).length := ⟨_, rfl⟩
  obtain rfl : e = .returned (.slice ao' m9 cap') := by rw [hm, he, HL.out]
  have HM : Hid (m9 = (inL k sz fl s mn pf mx d).length) := hm
  clear hm he
  go_wp2
  go_ret2
  exact ⟨_, _, m9, rfl, HM.out.symm, by rw [HL.out]; exact HZ.out⟩
set_option maxHeartbeats 4000000 in
theorem packInfo_2 (k sz fl : Nat) (s : ByteArray) (mn pf mx : Nat) (da : Option Addr) (n dc : Nat) (d : List Nat) (w : World) (hk : k < 65536) (hsz : sz < 18446744073709551616) (hfl : fl < 65536) (hs : s.size ≤ 9223372036854775807) (hmn : mn < 4294967296) (hpf : pf < 4294967296) (hmx : mx < 4294967296) (hr : BRow w da dc d) (hd : d.length = n) (hn : n ≤ 1048576) (hT : Tabs w) (hfit : ifB k sz fl s mn pf mx n = true) (hkk : k = 2) :
    Calls Tryd.prog 31 #[.agg #[.int .u16 (k : Int), .int .u64 (sz : Int), .int .u16 (fl : Int), .string s, .int .u32 (mn : Int), .int .u32 (pf : Int), .int .u32 (mx : Int), .slice da n dc]] w fun e w' => Pk w (inL k sz fl s mn pf mx d) 0 e w' := by
  have HI : Hid (∀ W, Below w.heap.size w W → Calls Tryd.prog 89 #[.agg #[.int .u16 (k : Int), .int .u64 (sz : Int), .int .u16 (fl : Int), .string s, .int .u32 (mn : Int), .int .u32 (pf : Int), .int .u32 (mx : Int), .slice da n dc]] W fun e w' => e = .returned (.bool true) ∧ Below W.heap.size W w') := fun W hb => by have h := infoFits_any k sz fl s mn pf mx da n dc W hs (hT.later hb); rw [hfit] at h; exact h
  have HBR : Hid (BRow w da dc d) := hr
  have HM0 : Hid (d.length = n) := hd
  have hs4 : s.size ≤ 4096 := by have h := hfit; simp [ifB, hkk] at h; exact (tx_true h.2.1).1
  have t0 : ((k : Int) == 0) = false := by rw [beq_eq_false_iff_ne]; omega
  have t1 : ((k : Int) == 1) = false := by rw [beq_eq_false_iff_ne]; omega
  have t2 : ((k : Int) == 2) = true := by simp [hkk]
  have t3 : ((k : Int) == 3) = false := by rw [beq_eq_false_iff_ne]; omega
  have HL : Hid (inL k sz fl s mn pf mx d = [] ++ bigTo k 2 2 ++ sbytes s) := by show _ = _; simp [inL, hkk]
  clear hr hd hT hfit hkk hs
  have hx := mkb1 w #[.int .u16 (k : Int), .int .u64 (sz : Int), .int .u16 (fl : Int), .string s, .int .u32 (mn : Int), .int .u32 (pf : Int), .int .u32 (mx : Int), .slice da n dc] 27
  go_enter Tryd.func31, Tryd.ntmps31
  go_wp2_with fail
  generalize w.alloc (Obj.cells #[.int .u16 (k : Int), .int .u64 (sz : Int), .int .u16 (fl : Int), .string s, .int .u32 (mn : Int), .int .u32 (pf : Int), .int .u32 (mx : Int), .slice da n dc] 27) = W0 at *
  refine (HI.out _ hx.bel).mono ?_
  rintro e Wi ⟨rfl, hb⟩
  have hy : Bx1 w Wi #[.int .u16 (k : Int), .int .u64 (sz : Int), .int .u16 (fl : Int), .string s, .int .u32 (mn : Int), .int .u32 (pf : Int), .int .u32 (mx : Int), .slice da n dc] 27 := hx.later hb
  clear hx hb HI
  go_wp2_with fail
  refine (newWriter_any _).mono ?_
  rintro e w1 ⟨rfl, rfl⟩
  have h0 := Enc.new hy.bel hy.a
  have H1 : Hid _ := h0
  clear h0 hy
  generalize Wi.alloc (Obj.cells #[.bool true, .slice none 0 0] 189) = W1 at *
  generalize Wi.heap.size = p at *
  have c0 := H1.out.c 0
  simp at c0
  go_wp2_with fail
  refine (wu16_any w.heap.size p k _ _ W1 H1.out.ok hk (by simp [bigTo_length, sbytes_length] <;> omega) H1.out.hB).mono ?_
  rintro e W2 ⟨rfl, v2, hp⟩
  have H2 : Hid _ := H1.out.step hp
  clear hp H1 c0
  have c0 := H2.out.c 0
  simp at c0
  have c3 := H2.out.c 3
  simp at c3
  obtain ⟨W2b, cp2, hcv, hb3, hr3⟩ := conv_any s W2 hs4
  have H2b : Hid _ := H2.out.step (WPost.ofBelow H2.out.ok hb3)
  have HR2 : Hid (BRow W2b (some ⟨W2.heap.size, 0, none⟩) cp2 (sbytes s)) := hr3
  clear hb3 hr3
  go_wp2_with fail
  refine (wraw_any w.heap.size p _ _ (sbytes s) (some ⟨W2.heap.size, 0, none⟩) cp2 s.size W2b H2b.out.ok HR2.out (sbytes_length s) (by simp [bigTo_length, sbytes_length] <;> omega) H2b.out.hB).mono ?_
  rintro e W3 ⟨rfl, v3, hp⟩
  have H3 : Hid _ := H2b.out.step hp
  clear hp hcv H2 H2b HR2 c0 c3
  go_wp2_with fail
  refine (wout_any w.heap.size p _ _ W3 H3.out.ok (by have h0 := HM0.out; simp [bigTo_length, sbytes_length] <;> omega)).mono ?_
  rintro e Wz ⟨ao', cap', he, ho, hb⟩
  have HZ : Hid _ := H3.out.out ho hb
  clear ho hb H3
  obtain ⟨m9, hm⟩ : ∃ m9, m9 = (inL k sz fl s mn pf mx d).length := ⟨_, rfl⟩
  obtain rfl : e = .returned (.slice ao' m9 cap') := by rw [hm, he, HL.out]
  have HM : Hid (m9 = (inL k sz fl s mn pf mx d).length) := hm
  clear hm he
  go_wp2
  go_ret2
  exact ⟨_, _, m9, rfl, HM.out.symm, by rw [HL.out]; exact HZ.out⟩
set_option maxHeartbeats 4000000 in
theorem packInfo_3 (k sz fl : Nat) (s : ByteArray) (mn pf mx : Nat) (da : Option Addr) (n dc : Nat) (d : List Nat) (w : World) (hk : k < 65536) (hsz : sz < 18446744073709551616) (hfl : fl < 65536) (hs : s.size ≤ 9223372036854775807) (hmn : mn < 4294967296) (hpf : pf < 4294967296) (hmx : mx < 4294967296) (hr : BRow w da dc d) (hd : d.length = n) (hn : n ≤ 1048576) (hT : Tabs w) (hfit : ifB k sz fl s mn pf mx n = true) (hkk : k = 3) :
    Calls Tryd.prog 31 #[.agg #[.int .u16 (k : Int), .int .u64 (sz : Int), .int .u16 (fl : Int), .string s, .int .u32 (mn : Int), .int .u32 (pf : Int), .int .u32 (mx : Int), .slice da n dc]] w fun e w' => Pk w (inL k sz fl s mn pf mx d) 0 e w' := by
  have HI : Hid (∀ W, Below w.heap.size w W → Calls Tryd.prog 89 #[.agg #[.int .u16 (k : Int), .int .u64 (sz : Int), .int .u16 (fl : Int), .string s, .int .u32 (mn : Int), .int .u32 (pf : Int), .int .u32 (mx : Int), .slice da n dc]] W fun e w' => e = .returned (.bool true) ∧ Below W.heap.size W w') := fun W hb => by have h := infoFits_any k sz fl s mn pf mx da n dc W hs (hT.later hb); rw [hfit] at h; exact h
  have HBR : Hid (BRow w da dc d) := hr
  have HM0 : Hid (d.length = n) := hd
  have t0 : ((k : Int) == 0) = false := by rw [beq_eq_false_iff_ne]; omega
  have t1 : ((k : Int) == 1) = false := by rw [beq_eq_false_iff_ne]; omega
  have t2 : ((k : Int) == 2) = false := by rw [beq_eq_false_iff_ne]; omega
  have t3 : ((k : Int) == 3) = true := by simp [hkk]
  have HL : Hid (inL k sz fl s mn pf mx d = [] ++ bigTo k 2 2 ++ bigTo mn 4 4 ++ bigTo pf 4 4 ++ bigTo mx 4 4) := by show _ = _; simp [inL, hkk]
  clear hr hd hT hfit hkk hs
  have hx := mkb1 w #[.int .u16 (k : Int), .int .u64 (sz : Int), .int .u16 (fl : Int), .string s, .int .u32 (mn : Int), .int .u32 (pf : Int), .int .u32 (mx : Int), .slice da n dc] 27
  go_enter Tryd.func31, Tryd.ntmps31
  go_wp2_with fail
  generalize w.alloc (Obj.cells #[.int .u16 (k : Int), .int .u64 (sz : Int), .int .u16 (fl : Int), .string s, .int .u32 (mn : Int), .int .u32 (pf : Int), .int .u32 (mx : Int), .slice da n dc] 27) = W0 at *
  refine (HI.out _ hx.bel).mono ?_
  rintro e Wi ⟨rfl, hb⟩
  have hy : Bx1 w Wi #[.int .u16 (k : Int), .int .u64 (sz : Int), .int .u16 (fl : Int), .string s, .int .u32 (mn : Int), .int .u32 (pf : Int), .int .u32 (mx : Int), .slice da n dc] 27 := hx.later hb
  clear hx hb HI
  go_wp2_with fail
  refine (newWriter_any _).mono ?_
  rintro e w1 ⟨rfl, rfl⟩
  have h0 := Enc.new hy.bel hy.a
  have H1 : Hid _ := h0
  clear h0 hy
  generalize Wi.alloc (Obj.cells #[.bool true, .slice none 0 0] 189) = W1 at *
  generalize Wi.heap.size = p at *
  have c0 := H1.out.c 0
  simp at c0
  go_wp2_with fail
  refine (wu16_any w.heap.size p k _ _ W1 H1.out.ok hk (by simp [bigTo_length, sbytes_length] <;> omega) H1.out.hB).mono ?_
  rintro e W2 ⟨rfl, v2, hp⟩
  have H2 : Hid _ := H1.out.step hp
  clear hp H1 c0
  have c0 := H2.out.c 0
  simp at c0
  have c4 := H2.out.c 4
  simp at c4
  go_wp2_with fail
  refine (wu32_any w.heap.size p mn _ _ W2 H2.out.ok hmn (by simp [bigTo_length, sbytes_length] <;> omega) H2.out.hB).mono ?_
  rintro e W3 ⟨rfl, v3, hp⟩
  have H3 : Hid _ := H2.out.step hp
  clear hp H2 c0 c4
  have c5 := H3.out.c 5
  simp at c5
  go_wp2_with fail
  refine (wu32_any w.heap.size p pf _ _ W3 H3.out.ok hpf (by simp [bigTo_length, sbytes_length] <;> omega) H3.out.hB).mono ?_
  rintro e W4 ⟨rfl, v4, hp⟩
  have H4 : Hid _ := H3.out.step hp
  clear hp H3 c5
  have c6 := H4.out.c 6
  simp at c6
  go_wp2_with fail
  refine (wu32_any w.heap.size p mx _ _ W4 H4.out.ok hmx (by simp [bigTo_length, sbytes_length] <;> omega) H4.out.hB).mono ?_
  rintro e W5 ⟨rfl, v5, hp⟩
  have H5 : Hid _ := H4.out.step hp
  clear hp H4 c6
  go_wp2_with fail
  refine (wout_any w.heap.size p _ _ W5 H5.out.ok (by have h0 := HM0.out; simp [bigTo_length, sbytes_length] <;> omega)).mono ?_
  rintro e Wz ⟨ao', cap', he, ho, hb⟩
  have HZ : Hid _ := H5.out.out ho hb
  clear ho hb H5
  obtain ⟨m9, hm⟩ : ∃ m9, m9 = (inL k sz fl s mn pf mx d).length := ⟨_, rfl⟩
  obtain rfl : e = .returned (.slice ao' m9 cap') := by rw [hm, he, HL.out]
  have HM : Hid (m9 = (inL k sz fl s mn pf mx d).length) := hm
  clear hm he
  go_wp2
  go_ret2
  exact ⟨_, _, m9, rfl, HM.out.symm, by rw [HL.out]; exact HZ.out⟩
set_option maxHeartbeats 4000000 in
theorem packInfo_o (k sz fl : Nat) (s : ByteArray) (mn pf mx : Nat) (da : Option Addr) (n dc : Nat) (d : List Nat) (w : World) (hk : k < 65536) (hsz : sz < 18446744073709551616) (hfl : fl < 65536) (hs : s.size ≤ 9223372036854775807) (hmn : mn < 4294967296) (hpf : pf < 4294967296) (hmx : mx < 4294967296) (hr : BRow w da dc d) (hd : d.length = n) (hn : n ≤ 1048576) (hT : Tabs w) (hfit : ifB k sz fl s mn pf mx n = true) (hkk : ¬ k = 0 ∧ ¬ k = 1 ∧ ¬ k = 2 ∧ ¬ k = 3) :
    Calls Tryd.prog 31 #[.agg #[.int .u16 (k : Int), .int .u64 (sz : Int), .int .u16 (fl : Int), .string s, .int .u32 (mn : Int), .int .u32 (pf : Int), .int .u32 (mx : Int), .slice da n dc]] w fun e w' => Pk w (inL k sz fl s mn pf mx d) 0 e w' := by
  have HI : Hid (∀ W, Below w.heap.size w W → Calls Tryd.prog 89 #[.agg #[.int .u16 (k : Int), .int .u64 (sz : Int), .int .u16 (fl : Int), .string s, .int .u32 (mn : Int), .int .u32 (pf : Int), .int .u32 (mx : Int), .slice da n dc]] W fun e w' => e = .returned (.bool true) ∧ Below W.heap.size W w') := fun W hb => by have h := infoFits_any k sz fl s mn pf mx da n dc W hs (hT.later hb); rw [hfit] at h; exact h
  have HBR : Hid (BRow w da dc d) := hr
  have HM0 : Hid (d.length = n) := hd
  have t0 : ((k : Int) == 0) = false := by rw [beq_eq_false_iff_ne]; omega
  have t1 : ((k : Int) == 1) = false := by rw [beq_eq_false_iff_ne]; omega
  have t2 : ((k : Int) == 2) = false := by rw [beq_eq_false_iff_ne]; omega
  have t3 : ((k : Int) == 3) = false := by rw [beq_eq_false_iff_ne]; omega
  have HL : Hid (inL k sz fl s mn pf mx d = [] ++ bigTo k 2 2 ++ d) := by show _ = _; simp [inL, hkk]
  clear hr hd hT hfit hkk hs
  have hx := mkb1 w #[.int .u16 (k : Int), .int .u64 (sz : Int), .int .u16 (fl : Int), .string s, .int .u32 (mn : Int), .int .u32 (pf : Int), .int .u32 (mx : Int), .slice da n dc] 27
  go_enter Tryd.func31, Tryd.ntmps31
  go_wp2_with fail
  generalize w.alloc (Obj.cells #[.int .u16 (k : Int), .int .u64 (sz : Int), .int .u16 (fl : Int), .string s, .int .u32 (mn : Int), .int .u32 (pf : Int), .int .u32 (mx : Int), .slice da n dc] 27) = W0 at *
  refine (HI.out _ hx.bel).mono ?_
  rintro e Wi ⟨rfl, hb⟩
  have hy : Bx1 w Wi #[.int .u16 (k : Int), .int .u64 (sz : Int), .int .u16 (fl : Int), .string s, .int .u32 (mn : Int), .int .u32 (pf : Int), .int .u32 (mx : Int), .slice da n dc] 27 := hx.later hb
  clear hx hb HI
  go_wp2_with fail
  refine (newWriter_any _).mono ?_
  rintro e w1 ⟨rfl, rfl⟩
  have h0 := Enc.new hy.bel hy.a
  have H1 : Hid _ := h0
  clear h0 hy
  generalize Wi.alloc (Obj.cells #[.bool true, .slice none 0 0] 189) = W1 at *
  generalize Wi.heap.size = p at *
  have c0 := H1.out.c 0
  simp at c0
  go_wp2_with fail
  refine (wu16_any w.heap.size p k _ _ W1 H1.out.ok hk (by simp [bigTo_length, sbytes_length] <;> omega) H1.out.hB).mono ?_
  rintro e W2 ⟨rfl, v2, hp⟩
  have H2 : Hid _ := H1.out.step hp
  clear hp H1 c0
  have k0 := H2.out.c 0
  simp at k0
  have c7 := H2.out.c 7
  simp at c7
  go_wp2_with fail
  refine (wraw_any w.heap.size p _ _ d da dc n W2 H2.out.ok (HBR.out.later H2.out.bel) HM0.out (by simp [bigTo_length, sbytes_length] <;> omega) H2.out.hB).mono ?_
  rintro e W3 ⟨rfl, v3, hp⟩
  have H3 : Hid _ := H2.out.step hp
  clear hp H2 c7
  go_wp2_with fail
  refine (wout_any w.heap.size p _ _ W3 H3.out.ok (by have h0 := HM0.out; simp [bigTo_length, sbytes_length] <;> omega)).mono ?_
  rintro e Wz ⟨ao', cap', he, ho, hb⟩
  have HZ : Hid _ := H3.out.out ho hb
  clear ho hb H3
  obtain ⟨m9, hm⟩ : ∃ m9, m9 = (inL k sz fl s mn pf mx d).length := ⟨_, rfl⟩
  obtain rfl : e = .returned (.slice ao' m9 cap') := by rw [hm, he, HL.out]
  have HM : Hid (m9 = (inL k sz fl s mn pf mx d).length) := hm
  clear hm he
  go_wp2
  go_ret2
  exact ⟨_, _, m9, rfl, HM.out.symm, by rw [HL.out]; exact HZ.out⟩
set_option maxHeartbeats 2000000 in
theorem packInfo_bad (k sz fl : Nat) (s : ByteArray) (mn pf mx : Nat) (da : Option Addr) (n dc : Nat) (d : List Nat) (w : World) (hk : k < 65536) (hsz : sz < 18446744073709551616) (hfl : fl < 65536) (hs : s.size ≤ 9223372036854775807) (hmn : mn < 4294967296) (hpf : pf < 4294967296) (hmx : mx < 4294967296) (hr : BRow w da dc d) (hd : d.length = n) (hn : n ≤ 1048576) (hT : Tabs w) (hfit : ifB k sz fl s mn pf mx n = false) :
    Calls Tryd.prog 31 #[.agg #[.int .u16 (k : Int), .int .u64 (sz : Int), .int .u16 (fl : Int), .string s, .int .u32 (mn : Int), .int .u32 (pf : Int), .int .u32 (mx : Int), .slice da n dc]] w fun e w' => Pk w [] 81 e w' := by
  have HI : Hid (∀ W, Below w.heap.size w W → Calls Tryd.prog 89 #[.agg #[.int .u16 (k : Int), .int .u64 (sz : Int), .int .u16 (fl : Int), .string s, .int .u32 (mn : Int), .int .u32 (pf : Int), .int .u32 (mx : Int), .slice da n dc]] W fun e w' => e = .returned (.bool false) ∧ Below W.heap.size W w') := fun W hb => by have h := infoFits_any k sz fl s mn pf mx da n dc W hs (hT.later hb); rw [hfit] at h; exact h
  clear hr hd hT hfit hs
  have hx := mkb1 w #[.int .u16 (k : Int), .int .u64 (sz : Int), .int .u16 (fl : Int), .string s, .int .u32 (mn : Int), .int .u32 (pf : Int), .int .u32 (mx : Int), .slice da n dc] 27
  go_enter Tryd.func31, Tryd.ntmps31
  go_wp2_with fail
  generalize w.alloc (Obj.cells #[.int .u16 (k : Int), .int .u64 (sz : Int), .int .u16 (fl : Int), .string s, .int .u32 (mn : Int), .int .u32 (pf : Int), .int .u32 (mx : Int), .slice da n dc] 27) = W0 at *
  refine (HI.out _ hx.bel).mono ?_
  rintro e Wi ⟨rfl, hb⟩
  have hy : Bx1 w Wi #[.int .u16 (k : Int), .int .u64 (sz : Int), .int .u16 (fl : Int), .string s, .int .u32 (mn : Int), .int .u32 (pf : Int), .int .u32 (mx : Int), .slice da n dc] 27 := hx.later hb
  clear hx hb HI
  go_wp2
  go_ret2
  exact pk_none hy.bel
end Go.Proofs.YtjikibhhhchgeaaDoor
