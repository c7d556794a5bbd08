import Derived.Test.YtjikibhhhchgeaaDoorY23
namespace Go.Proofs.YtjikibhhhchgeaaDoor
open Go.RowKit
set_option linter.unusedVariables false
set_option linter.unusedSimpArgs false
set_option maxRecDepth 100000
theorem u16L_lt (l : List Nat) : ∀ x ∈ u16L l, x < 256 := by
  intro x hx
  obtain ⟨y, _, hy⟩ := List.mem_flatMap.1 hx
  exact bigTo_lt _ _ _ x hy
set_option maxHeartbeats 2000000 in
theorem packInfoReq_ok (s : ByteArray) (ia : Option Addr) (k ic : Nat) (ks : List Nat) (w : World) (hu : U16s w ia ks) (hks : ks.length = k) (hk : k ≤ 64) (hT : Tabs w) (ht : tx s = true) :
    Calls Tryd.prog 32 #[.agg #[.string s, .slice ia k ic]] w fun e w' => Pk w (irL s ks) 0 e w' := by
  have HU : Hid (U16s w ia ks) := hu
  have HKs : Hid (ks.length = k) := hks
  have f64 : decide ((64 : Int) < (k : Int)) = false := by simp; omega
  have hwk : IntKind.u16.wrap (k : Int) = (k : Int) := by rw [IntKind.wrap_u16]; omega
  clear hu hks
  obtain ⟨hs4, hpl⟩ := tx_true ht
  have HT : Hid (Tabs w) := hT
  have HI : Hid (∀ W, Below w.heap.size w W → Calls Tryd.prog 90 #[.string s] W fun e w' => e = .returned (.bool true) ∧ Below W.heap.size W w') := fun W hb => by have h := isText_any s W (by omega) (HT.out.later hb); rw [ht] at h; exact h
  clear hT ht
  have hx := mkb1 w #[.string s, .slice ia k ic] 30
  have HXa := hx.a
  go_enter Tryd.func32, Tryd.ntmps32
  go_wp2_with fail
  clear HXa
  generalize w.alloc (Obj.cells #[.string s, .slice ia k ic] 30) = W0 at *
  refine (HI.out _ hx.bel).mono ?_
  rintro e Wi ⟨rfl, hb⟩
  have hy : Bx1 w Wi #[.string s, .slice ia k ic] 30 := hx.later hb
  clear hx hb HI
  have k1 := blk_at hy.a 1
  simp at k1
  go_wp2_with fail
  refine (newWriter_any _).mono ?_
  rintro e w1 ⟨rfl, rfl⟩
  have h0 := Enc.new hy.bel hy.a
  have H1 : Hid _ := h0
  clear h0 hy
  generalize Wi.alloc (Obj.cells #[.bool true, .slice none 0 0] 189) = W1 at *
  generalize Wi.heap.size = p at *
  have c0 := H1.out.c 0
  simp at c0
  go_wp2_with fail
  refine (wtext_ok w.heap.size p _ _ s W1 H1.out.ok (HT.out.later H1.out.bel) hpl hs4 (by simp [bigTo_length, sbytes_length] <;> omega) H1.out.hB).mono ?_
  rintro e W2 ⟨rfl, v2, hp⟩
  have H2 : Hid _ := H1.out.step hp
  clear hp H1 c0
  have c1 := H2.out.c 1
  simp at c1
  go_wp2_with fail
  refine (wu16_any w.heap.size p k _ _ W2 H2.out.ok (by omega) (by simp [bigTo_length, sbytes_length] <;> omega) H2.out.hB).mono ?_
  rintro e W3 ⟨rfl, v3, hp⟩
  have H3 : Hid _ := H2.out.step hp
  clear hp H2 c1
  have cc1 := H3.out.c 1
  simp at cc1
  go_wp2
  clear cc1
  go_loopw [31] (fun iv wr => ∃ (j : Nat) (v : Value), j ≤ k ∧ iv = .int .i64 (j : Nat) ∧ Hid (Enc w wr w.heap.size p v ([] ++ (bigTo s.size 4 4 ++ sbytes s) ++ bigTo k 2 2 ++ u16L (ks.take j)) (.cells #[.string s, .slice ia k ic] 30))) (fun iv _ => k - (intOf iv).toNat)
  case atStart => exact ⟨0, _, Nat.zero_le _, rfl, by simpa [u16L, Hid] using H3.out⟩
  case round =>
    obtain ⟨j, v, hj, rfl, HE⟩ := hrel
    have hLl : (u16L (ks.take j)).length ≤ 128 := by rw [u16L_len, List.length_take]; omega
    by_cases hlt : j < k
    · have hne : ks ≠ [] := by rintro rfl; have := HKs.out; simp at this; omega
      obtain ⟨b, off, rfl, hrow⟩ := (HU.out.later HE.out.bel).at_ hne
      have hjl : j < ks.length := by rw [HKs.out]; exact hlt
      obtain ⟨x, hx⟩ : ∃ x, ks[j] = x := ⟨_, rfl⟩
      have hcell := hrow j hjl
      rw [hx] at hcell
      have hx16 : x < 65536 := by rw [← hx]; exact HU.out.lt _ (List.getElem_mem hjl)
      have HT : Hid (u16L (ks.take (j + 1)) = u16L (ks.take j) ++ bigTo x 2 2) := by show _ = _; rw [List.take_add_one, List.getElem?_eq_getElem hjl, hx]; exact u16L_snoc _ _
      clear hrow hx hne hjl
      go_wp2_with fail
      refine (wu16_any w.heap.size p x _ _ wr HE.out.ok hx16 (by simp [bigTo_length, sbytes_length] <;> omega) HE.out.hB).mono ?_
      rintro e W5 ⟨rfl, v5, hp⟩
      have HE5 : Hid (Enc w W5 w.heap.size p v5 ([] ++ (bigTo s.size 4 4 ++ sbytes s) ++ bigTo k 2 2 ++ u16L (ks.take (j + 1))) (.cells #[.string s, .slice (some ⟨b, off, none⟩) k ic] 30)) := by
        have h := HE.out.step hp
        rw [List.append_assoc, ← HT.out] at h
        exact h
      clear hp hcell
      go_wp2
      go_roundw
      case rel => exact ⟨j + 1, v5, by omega, by go_num, HE5⟩
      case measure => simp [intOf]; omega
    · have e9 : [] ++ (bigTo s.size 4 4 ++ sbytes s) ++ bigTo k 2 2 ++ u16L (ks.take j) = irL s ks := by
        have e1 : ks.take j = ks := List.take_of_length_le (by rw [HKs.out]; omega)
        rw [e1]; simp [irL, HKs.out]
      have h9 := HE.out
      rw [e9] at h9
      have H9 : Hid (Enc w wr w.heap.size p v (irL s ks) (.cells #[.string s, .slice ia k ic] 30)) := h9
      have hl9 : (irL s ks).length ≤ 10000 := by rw [← e9]; simp [bigTo_length, sbytes_length]; omega
      clear h9 e9 HE
      go_wp2_with fail
      refine (wout_any w.heap.size p _ _ wr H9.out.ok (by omega)).mono ?_
      rintro e Wz ⟨ao', cap', he, ho, hb⟩
      have HZ : Hid _ := H9.out.out ho hb
      clear ho hb
      obtain ⟨m9, hm⟩ : ∃ m9, m9 = (irL s ks).length := ⟨_, rfl⟩
      obtain rfl : e = .returned (.slice ao' m9 cap') := by rw [hm, he]
      have HM : Hid (m9 = (irL s ks).length) := hm
      clear hm he
      go_wp2
      go_ret2
      exact ⟨_, _, m9, rfl, HM.out.symm, HZ.out⟩
set_option maxHeartbeats 2000000 in
theorem packInfoReq_bad (s : ByteArray) (ia : Option Addr) (k ic : Nat) (w : World) (hs : s.size ≤ 9223372036854775807) (hT : Tabs w) (ht : tx s = false) :
    Calls Tryd.prog 32 #[.agg #[.string s, .slice ia k ic]] w fun e w' => Pk w [] 81 e w' := by
  have HT : Hid (Tabs w) := hT
  have HI : Hid (∀ W, Below w.heap.size w W → Calls Tryd.prog 90 #[.string s] W fun e w' => e = .returned (.bool false) ∧ Below W.heap.size W w') := fun W hb => by have h := isText_any s W hs (HT.out.later hb); rw [ht] at h; exact h
  clear hT ht
  have hx := mkb1 w #[.string s, .slice ia k ic] 30
  go_enter Tryd.func32, Tryd.ntmps32
  go_wp2_with fail
  generalize w.alloc (Obj.cells #[.string s, .slice ia k ic] 30) = W0 at *
  refine (HI.out _ hx.bel).mono ?_
  rintro e Wi ⟨rfl, hb⟩
  have hy : Bx1 w Wi #[.string s, .slice ia k ic] 30 := hx.later hb
  clear hx hb HI
  go_wp2
  go_ret2
  exact pk_none hy.bel
set_option maxHeartbeats 2000000 in
theorem packInfoReq_many (s : ByteArray) (ia : Option Addr) (k ic : Nat) (w : World) (hs : s.size ≤ 9223372036854775807) (hT : Tabs w) (ht : tx s = true) (hk : 64 < k) :
    Calls Tryd.prog 32 #[.agg #[.string s, .slice ia k ic]] w fun e w' => Pk w [] 170 e w' := by
  have f64 : decide ((64 : Int) < (k : Int)) = true := by simp; omega
  have HT : Hid (Tabs w) := hT
  have HI : Hid (∀ W, Below w.heap.size w W → Calls Tryd.prog 90 #[.string s] W fun e w' => e = .returned (.bool true) ∧ Below W.heap.size W w') := fun W hb => by have h := isText_any s W hs (HT.out.later hb); rw [ht] at h; exact h
  clear hT ht
  have hx := mkb1 w #[.string s, .slice ia k ic] 30
  go_enter Tryd.func32, Tryd.ntmps32
  go_wp2_with fail
  generalize w.alloc (Obj.cells #[.string s, .slice ia k ic] 30) = W0 at *
  refine (HI.out _ hx.bel).mono ?_
  rintro e Wi ⟨rfl, hb⟩
  have hy : Bx1 w Wi #[.string s, .slice ia k ic] 30 := hx.later hb
  clear hx hb HI
  have k1 := blk_at hy.a 1
  simp at k1
  go_wp2
  go_ret2
  exact pk_none hy.bel
end Go.Proofs.YtjikibhhhchgeaaDoor
