import Derived.Test.YtjikibhhhchgeaaDoorY26
namespace Go.Proofs.YtjikibhhhchgeaaDoor
open Go.RowKit
set_option linter.unusedVariables false
set_option linter.unusedSimpArgs false
set_option maxRecDepth 100000
def strL (l : List ByteArray) : List Nat := l.flatMap (fun q => bigTo q.size 4 4 ++ sbytes q)
theorem strL_snoc (l : List ByteArray) (x : ByteArray) : strL (l ++ [x]) = strL l ++ (bigTo x.size 4 4 ++ sbytes x) := by simp [strL]
theorem strL_len (l : List ByteArray) (h : txs l = true) : (strL l).length ≤ 4100 * l.length := by
  induction l with
  | nil => simp [strL]
  | cons x l ih =>
    simp only [txs, List.all_cons, Bool.and_eq_true] at h
    have h1 := (tx_true h.1).1
    have h2 := ih h.2
    simp only [strL, List.flatMap_cons, List.length_append, bigTo_length, sbytes_length, List.length_cons] at h2 ⊢
    omega
theorem txs_mem {l : List ByteArray} (h : txs l = true) (j : Nat) (hj : j < l.length) : tx l[j] = true := List.all_eq_true.1 h _ (List.getElem_mem hj)
theorem txs_some {l : List ByteArray} (h : txs l = true) (j : Nat) : txs (l.take j) = true := by
  rw [txs, List.all_eq_true] at h ⊢
  exact fun x hx => h x (List.mem_of_mem_take hx)
def mqL (s : ByteArray) (qs : List ByteArray) : List Nat := [] ++ (bigTo s.size 4 4 ++ sbytes s) ++ bigTo qs.length 4 4 ++ strL qs
set_option maxHeartbeats 2000000 in
theorem packMetaReq_ok (s : ByteArray) (qa : Option Addr) (k qc : Nat) (qs : List ByteArray) (w : World) (hq : Strs w qa qs) (hks : qs.length = k) (hk : k ≤ 16) (hT : Tabs w) (ht : tx s = true) (htx : txs qs = true) :
    Calls Tryd.prog 33 #[.agg #[.string s, .slice qa k qc]] w fun e w' => Pk w (mqL s qs) 0 e w' := by
  have HQ : Hid (Strs w qa qs) := hq
  have HKs : Hid (qs.length = k) := hks
  have HTX : Hid (txs qs = true) := htx
  clear hq hks htx
  have f16 : decide ((16 : Int) < (k : Int)) = false := by simp; omega
  have hwk : IntKind.u32.wrap (k : Int) = (k : Int) := by rw [IntKind.wrap_u32]; omega
  obtain ⟨hs4, hpl⟩ := tx_true ht
  have HT : Hid (Tabs w) := hT
  have HI : Hid (∀ W, Below w.heap.size w W → Calls Tryd.prog 90 #[.string s] W fun e w' => e = .returned (.bool true) ∧ Below W.heap.size W w') := fun W hb => by have h := isText_any s W (by omega) (HT.out.later hb); rw [ht] at h; exact h
  clear hT ht
  have hx := mkb1 w #[.string s, .slice qa k qc] 33
  have HXa := hx.a
  go_enter Tryd.func33, Tryd.ntmps33
  go_wp2_with fail
  clear HXa
  generalize w.alloc (Obj.cells #[.string s, .slice qa k qc] 33) = W0 at *
  refine (HI.out _ hx.bel).mono ?_
  rintro e Wi ⟨rfl, hb⟩
  have hy : Bx1 w Wi #[.string s, .slice qa k qc] 33 := hx.later hb
  clear hx hb HI
  have k1 := blk_at hy.a 1
  simp at k1
  go_wp2_with fail
  refine (containsF_any qa k qc qs Wi (HQ.out.later hy.bel) HKs.out (by omega) (HT.out.later hy.bel)).mono ?_
  rintro e Wj ⟨rfl, hbj⟩
  rw [HTX.out]
  have hyj := hy.later hbj
  clear hy k1
  have hy := hyj
  clear hyj hbj
  have k1 := blk_at hy.a 1
  simp at k1
  go_wp2_with fail
  refine (newWriter_any _).mono ?_
  rintro e w1 ⟨rfl, rfl⟩
  have h0 := Enc.new hy.bel hy.a
  have H1 : Hid _ := h0
  clear h0 hy
  generalize Wj.alloc (Obj.cells #[.bool true, .slice none 0 0] 189) = W1 at *
  generalize Wj.heap.size = p at *
  have c0 := H1.out.c 0
  simp at c0
  go_wp2_with fail
  refine (wtext_ok w.heap.size p _ _ s W1 H1.out.ok (HT.out.later H1.out.bel) hpl hs4 (by simp [bigTo_length, sbytes_length] <;> omega) H1.out.hB).mono ?_
  rintro e W2 ⟨rfl, v2, hp⟩
  have H2 : Hid _ := H1.out.step hp
  clear hp H1 c0
  have c1 := H2.out.c 1
  simp at c1
  go_wp2_with fail
  refine (wu32_any w.heap.size p k _ _ W2 H2.out.ok (by omega) (by simp [bigTo_length, sbytes_length] <;> omega) H2.out.hB).mono ?_
  rintro e W3 ⟨rfl, v3, hp⟩
  have H3 : Hid _ := H2.out.step hp
  clear hp H2 c1
  have cc1 := H3.out.c 1
  simp at cc1
  go_wp2
  clear cc1
  go_loopw [38] (fun iv wr => ∃ (j : Nat) (v : Value), j ≤ k ∧ iv = .int .i64 (j : Nat) ∧ Hid (Enc w wr w.heap.size p v ([] ++ (bigTo s.size 4 4 ++ sbytes s) ++ bigTo k 4 4 ++ strL (qs.take j)) (.cells #[.string s, .slice qa k qc] 33))) (fun iv _ => k - (intOf iv).toNat)
  case atStart => exact ⟨0, _, Nat.zero_le _, rfl, by simpa [strL, Hid] using H3.out⟩
  case round =>
    obtain ⟨j, v, hj, rfl, HE⟩ := hrel
    have hLl : (strL (qs.take j)).length ≤ 65600 := by have h1 := strL_len _ (txs_some HTX.out j); have h2 := List.length_take_le j qs; rw [List.length_take] at h1; omega
    by_cases hlt : j < k
    · have hne : qs ≠ [] := by rintro rfl; have := HKs.out; simp at this; omega
      obtain ⟨b, off, rfl, hrow⟩ := (HQ.out.later HE.out.bel).at_ hne
      have hjl : j < qs.length := by rw [HKs.out]; exact hlt
      have hxt := txs_mem HTX.out j hjl
      obtain ⟨x, hx⟩ : ∃ x, qs[j] = x := ⟨_, rfl⟩
      have hcell := hrow j hjl
      rw [hx] at hcell hxt
      obtain ⟨hx4, hxp⟩ := tx_true hxt
      have HT9 : Hid (strL (qs.take (j + 1)) = strL (qs.take j) ++ (bigTo x.size 4 4 ++ sbytes x)) := by show _ = _; rw [List.take_add_one, List.getElem?_eq_getElem hjl, hx]; exact strL_snoc _ _
      clear hrow hx hne hjl
      go_wp2_with fail
      refine (wtext_ok w.heap.size p _ _ x wr HE.out.ok (HT.out.later HE.out.bel) hxp hx4 (by simp [bigTo_length, sbytes_length] <;> omega) HE.out.hB).mono ?_
      rintro e W5 ⟨rfl, v5, hp⟩
      have HE5 : Hid (Enc w W5 w.heap.size p v5 ([] ++ (bigTo s.size 4 4 ++ sbytes s) ++ bigTo k 4 4 ++ strL (qs.take (j + 1))) (.cells #[.string s, .slice (some ⟨b, off, none⟩) k qc] 33)) := by
        have h := HE.out.step hp
        rw [List.append_assoc, ← HT9.out] at h
        exact h
      clear hp hcell
      go_wp2
      go_roundw
      case rel => exact ⟨j + 1, v5, by omega, by go_num, HE5⟩
      case measure => simp [intOf]; omega
    · have e9 : [] ++ (bigTo s.size 4 4 ++ sbytes s) ++ bigTo k 4 4 ++ strL (qs.take j) = mqL s qs := by
        have e1 : qs.take j = qs := List.take_of_length_le (by rw [HKs.out]; omega)
        rw [e1]; simp [mqL, HKs.out]
      have h9 := HE.out
      rw [e9] at h9
      have H9 : Hid (Enc w wr w.heap.size p v (mqL s qs) (.cells #[.string s, .slice qa k qc] 33)) := h9
      have hl9 : (mqL s qs).length ≤ 100000 := by rw [← e9]; simp [bigTo_length, sbytes_length]; omega
      clear h9 e9 HE
      go_wp2_with fail
      refine (wout_any w.heap.size p _ _ wr H9.out.ok (by omega)).mono ?_
      rintro e Wz ⟨ao', cap', he, ho, hb⟩
      have HZ : Hid _ := H9.out.out ho hb
      clear ho hb
      obtain ⟨m9, hm⟩ : ∃ m9, m9 = (mqL s qs).length := ⟨_, rfl⟩
      obtain rfl : e = .returned (.slice ao' m9 cap') := by rw [hm, he]
      have HM : Hid (m9 = (mqL s qs).length) := hm
      clear hm he
      go_wp2
      go_ret2
      exact ⟨_, _, m9, rfl, HM.out.symm, HZ.out⟩
set_option maxHeartbeats 2000000 in
theorem packMetaReq_bad (s : ByteArray) (qa : Option Addr) (k qc : Nat) (w : World) (hs : s.size ≤ 9223372036854775807) (hT : Tabs w) (ht : tx s = false) :
    Calls Tryd.prog 33 #[.agg #[.string s, .slice qa k qc]] w fun e w' => Pk w [] 81 e w' := by
  have HT : Hid (Tabs w) := hT
  have HI : Hid (∀ W, Below w.heap.size w W → Calls Tryd.prog 90 #[.string s] W fun e w' => e = .returned (.bool false) ∧ Below W.heap.size W w') := fun W hb => by have h := isText_any s W hs (HT.out.later hb); rw [ht] at h; exact h
  clear hT ht
  have hx := mkb1 w #[.string s, .slice qa k qc] 33
  go_enter Tryd.func33, Tryd.ntmps33
  go_wp2_with fail
  generalize w.alloc (Obj.cells #[.string s, .slice qa k qc] 33) = W0 at *
  refine (HI.out _ hx.bel).mono ?_
  rintro e Wi ⟨rfl, hb⟩
  have hy : Bx1 w Wi #[.string s, .slice qa k qc] 33 := hx.later hb
  clear hx hb HI
  go_wp2
  go_ret2
  exact pk_none hy.bel
set_option maxHeartbeats 2000000 in
theorem packMetaReq_bad2 (s : ByteArray) (qa : Option Addr) (k qc : Nat) (qs : List ByteArray) (w : World) (hq : Strs w qa qs) (hks : qs.length = k) (hk : k ≤ 1048576) (hs : s.size ≤ 9223372036854775807) (hT : Tabs w) (ht : tx s = true) (htx : txs qs = false) :
    Calls Tryd.prog 33 #[.agg #[.string s, .slice qa k qc]] w fun e w' => Pk w [] 81 e w' := by
  have HQ : Hid (Strs w qa qs) := hq
  have HKs : Hid (qs.length = k) := hks
  have HTX : Hid (txs qs = false) := htx
  clear hq hks htx
  have HT : Hid (Tabs w) := hT
  have HI : Hid (∀ W, Below w.heap.size w W → Calls Tryd.prog 90 #[.string s] W fun e w' => e = .returned (.bool true) ∧ Below W.heap.size W w') := fun W hb => by have h := isText_any s W hs (HT.out.later hb); rw [ht] at h; exact h
  clear hT ht
  have hx := mkb1 w #[.string s, .slice qa k qc] 33
  go_enter Tryd.func33, Tryd.ntmps33
  go_wp2_with fail
  generalize w.alloc (Obj.cells #[.string s, .slice qa k qc] 33) = W0 at *
  refine (HI.out _ hx.bel).mono ?_
  rintro e Wi ⟨rfl, hb⟩
  have hy : Bx1 w Wi #[.string s, .slice qa k qc] 33 := hx.later hb
  clear hx hb HI
  have k1 := blk_at hy.a 1
  simp at k1
  go_wp2_with fail
  refine (containsF_any qa k qc qs Wi (HQ.out.later hy.bel) HKs.out (by omega) (HT.out.later hy.bel)).mono ?_
  rintro e Wj ⟨rfl, hbj⟩
  rw [HTX.out]
  have hyj := hy.later hbj
  clear hy k1
  have hy := hyj
  clear hyj hbj
  have k1 := blk_at hy.a 1
  simp at k1
  go_wp2
  go_ret2
  exact pk_none hy.bel
set_option maxHeartbeats 2000000 in
theorem packMetaReq_many (s : ByteArray) (qa : Option Addr) (k qc : Nat) (qs : List ByteArray) (w : World) (hq : Strs w qa qs) (hks : qs.length = k) (hk : k ≤ 1048576) (hk2 : 16 < k) (hs : s.size ≤ 9223372036854775807) (hT : Tabs w) (ht : tx s = true) (htx : txs qs = true) :
    Calls Tryd.prog 33 #[.agg #[.string s, .slice qa k qc]] w fun e w' => Pk w [] 170 e w' := by
  have HQ : Hid (Strs w qa qs) := hq
  have HKs : Hid (qs.length = k) := hks
  have HTX : Hid (txs qs = true) := htx
  clear hq hks htx
  have f16 : decide ((16 : Int) < (k : Int)) = true := by simp; omega
  have HT : Hid (Tabs w) := hT
  have HI : Hid (∀ W, Below w.heap.size w W → Calls Tryd.prog 90 #[.string s] W fun e w' => e = .returned (.bool true) ∧ Below W.heap.size W w') := fun W hb => by have h := isText_any s W hs (HT.out.later hb); rw [ht] at h; exact h
  clear hT ht
  have hx := mkb1 w #[.string s, .slice qa k qc] 33
  go_enter Tryd.func33, Tryd.ntmps33
  go_wp2_with fail
  generalize w.alloc (Obj.cells #[.string s, .slice qa k qc] 33) = W0 at *
  refine (HI.out _ hx.bel).mono ?_
  rintro e Wi ⟨rfl, hb⟩
  have hy : Bx1 w Wi #[.string s, .slice qa k qc] 33 := hx.later hb
  clear hx hb HI
  have k1 := blk_at hy.a 1
  simp at k1
  go_wp2_with fail
  refine (containsF_any qa k qc qs Wi (HQ.out.later hy.bel) HKs.out (by omega) (HT.out.later hy.bel)).mono ?_
  rintro e Wj ⟨rfl, hbj⟩
  rw [HTX.out]
  have hyj := hy.later hbj
  clear hy k1
  have hy := hyj
  clear hyj hbj
  have k1 := blk_at hy.a 1
  simp at k1
  go_wp2
  go_ret2
  exact pk_none hy.bel
end Go.Proofs.YtjikibhhhchgeaaDoor
