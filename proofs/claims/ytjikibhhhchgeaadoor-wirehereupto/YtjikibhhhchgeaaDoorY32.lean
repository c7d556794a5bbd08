import Derived.Test.YtjikibhhhchgeaaDoorY29
namespace Go.Proofs.YtjikibhhhchgeaaDoor
open Go.RowKit
set_option linter.unusedVariables false
set_option linter.unusedSimpArgs false
set_option maxRecDepth 100000
theorem Enc.later {w W W' : World} {b0 p : Nat} {v : Value} {l : List Nat} {ob : Obj} (h : Enc w W b0 p v l ob) (k : Below W.heap.size W W') : Enc w W' b0 p v l ob :=
  ⟨h.ok.later (S := fun _ => False) (KeptIn.ofBelow k) (fun h => h) (fun _ _ h => h), h.bel.trans (k.mono h.bel.size), (k.block _ (block_lt h.box)).trans h.box, h.ne, h.nv⟩
theorem WOk.keep {w w' : World} {B p : Nat} {v : Value} {l : List Nat} (h : WOk w B p v l) (k : KeptIn (wset p v) w w') {g : Nat} {cs : Array Value} {t : TypeId} (hg : w.heap[g]? = some (.cells cs t (0, 0))) (h1 : t ≠ 189) (h2 : t ≠ 5) : w'.heap[g]? = some (.cells cs t (0, 0)) := by
  rw [k.block g (block_lt hg) ?_]
  · exact hg
  · rintro (e | e)
    · subst e; have := h.blk; rw [hg] at this; simp at this; exact h1 this.2
    · obtain ⟨cur, e1⟩ := owns_type h.own g e
      rw [hg] at e1; simp at e1; exact h2 e1.2
def runL (wide : Bool) (l : List (Nat × Nat)) : List Nat := l.flatMap (fun x => nL x.1 wide ++ nL x.2 wide)
theorem runL_snoc (wide : Bool) (l : List (Nat × Nat)) (x : Nat × Nat) : runL wide (l ++ [x]) = runL wide l ++ nL x.1 wide ++ nL x.2 wide := by simp [runL]
theorem runL_len (wide : Bool) (l : List (Nat × Nat)) : (runL wide l).length ≤ 16 * l.length := by
  induction l with
  | nil => simp [runL]
  | cons x l ih =>
    have h1 := nL_le x.1 wide
    have h2 := nL_le x.2 wide
    simp only [runL, List.flatMap_cons, List.length_append, List.length_cons] at ih ⊢
    omega
def stL (wide : Bool) (cx : Nat) (rs : List (Nat × Nat)) : List Nat := [] ++ bigTo cx 4 4 ++ (if wide = true then bigTo rs.length 4 4 else []) ++ runL wide rs
set_option maxHeartbeats 4000000 in
theorem packStatus_ok1 (cx : Nat) (ra : Option Addr) (n rc : Nat) (rs : List (Nat × Nat)) (w : World) (hc : cx < 4294967296) (h : Runs w ra rs) (hn : rs.length = n) (hn2 : n ≤ 1048576) (hn0 : 0 < n) (hfit : fitA true rs = true) :
    Calls Tryd.prog 36 #[.agg #[.int .u32 (cx : Int), .slice ra n rc], .bool true] w fun e w' => Pk w (stL true cx rs) 0 e w' := by
  have HSf : Hid (∀ W, Below w.heap.size w W → Calls Tryd.prog 94 #[.agg #[.int .u32 (cx : Int), .slice ra n rc], .bool true] W fun e w' => e = .returned (.bool true) ∧ Below W.heap.size W w') := fun W hb => by
    have h1 := statusFits_any cx ra n rc true rs W (h.later hb) hn hn2
    rw [hfit, show decide (0 < n) = true by simp; omega] at h1
    exact h1
  have HR : Hid (Runs w ra rs) := h
  have HN : Hid (rs.length = n) := hn
  have hwk : IntKind.u32.wrap (n : Int) = (n : Int) := by rw [IntKind.wrap_u32]; omega
  clear h hn hfit
  have hx := mkb1 w #[.int .u32 (cx : Int), .slice ra n rc] 40
  go_enter Tryd.func36, Tryd.ntmps36
  go_wp2_with fail
  generalize w.alloc (Obj.cells #[.int .u32 (cx : Int), .slice ra n rc] 40) = W0 at *
  refine (HSf.out _ hx.bel).mono ?_
  rintro e Wi ⟨rfl, hb⟩
  have hy : Bx1 w Wi #[.int .u32 (cx : Int), .slice ra n rc] 40 := hx.later hb
  clear hx hb HSf
  go_wp2_with fail
  refine (newWriter_any _).mono ?_
  rintro e w1 ⟨rfl, rfl⟩
  have h0 := Enc.new hy.bel hy.a
  have H1 : Hid _ := h0
  clear h0 hy
  generalize Wi.alloc (Obj.cells #[.bool true, .slice none 0 0] 189) = W1 at *
  generalize Wi.heap.size = p at *
  have c0 := H1.out.c 0
  simp at c0
  go_wp2_with fail
  refine (wu32_any w.heap.size p cx _ _ W1 H1.out.ok hc (by simp [bigTo_length, sbytes_length] <;> omega) H1.out.hB).mono ?_
  rintro e W2 ⟨rfl, v2, hp⟩
  have H2 : Hid _ := H1.out.step hp
  clear hp H1 c0
  have c1 := H2.out.c 1
  simp at c1
  go_wp2_with fail
  refine (wu32_any w.heap.size p n _ _ W2 H2.out.ok (by omega) (by simp [bigTo_length, sbytes_length] <;> omega) H2.out.hB).mono ?_
  rintro e W3 ⟨rfl, v3, hp⟩
  have H3 : Hid _ := H2.out.step hp
  clear hp H2 c1
  have cc1 := H3.out.c 1
  simp at cc1
  go_wp2
  clear cc1
  go_loopw [28] (fun iv wr => ∃ (j : Nat) (v : Value), j ≤ n ∧ iv = .int .i64 (j : Nat) ∧ Hid (Enc w wr w.heap.size p v ([] ++ bigTo cx 4 4 ++ bigTo n 4 4 ++ runL true (rs.take j)) (.cells #[.int .u32 (cx : Int), .slice ra n rc] 40))) (fun iv _ => n - (intOf iv).toNat)
  case atStart => exact ⟨0, _, Nat.zero_le _, rfl, by simpa [runL, Hid] using H3.out⟩
  case round =>
    obtain ⟨j, v, hj, rfl, HE⟩ := hrel
    have hLl : (runL true (rs.take j)).length ≤ 16777216 := by have h1 := runL_len true (rs.take j); rw [List.length_take] at h1; omega
    by_cases hlt : j < n
    · have hne : rs ≠ [] := by rintro rfl; have := HN.out; simp at this; omega
      obtain ⟨b, off, rfl, hrow⟩ := (HR.out.later HE.out.bel).at_ hne
      have hjl : j < rs.length := by rw [HN.out]; exact hlt
      obtain ⟨⟨l, f⟩, hp⟩ : ∃ x, rs[j] = x := ⟨_, rfl⟩
      obtain ⟨g0, g1⟩ := hrow j hjl
      obtain ⟨hl, hf⟩ := HR.out.lt _ (List.getElem_mem hjl)
      rw [hp] at g0 g1 hl hf
      simp only at g0 g1 hl hf
      have HT9 : Hid (runL true (rs.take (j + 1)) = runL true (rs.take j) ++ nL l true ++ nL f true) := by show _ = _; rw [List.take_add_one, List.getElem?_eq_getElem hjl, hp]; exact runL_snoc _ _ _
      clear hrow hp hne hjl
      have HE1 : Hid _ := HE.out.later (below1 wr (.cells #[.int .u64 (l : Int), .int .u64 (f : Int)] 135))
      have HB1 : Hid ((wr.alloc (.cells #[.int .u64 (l : Int), .int .u64 (f : Int)] 135)).heap[wr.heap.size]? = some (.cells #[.int .u64 (l : Int), .int .u64 (f : Int)] 135 (0, 0))) := heap_new _ _
      go_wp2_with fail
      clear g0 g1
      generalize wr.alloc (Obj.cells #[.int .u64 (l : Int), .int .u64 (f : Int)] 135) = Wr at *
      generalize wr.heap.size = rb at *
      refine (lay_any w.heap.size p l true _ _ Wr HE1.out.ok hl (by simp [bigTo_length, sbytes_length] <;> omega) HE1.out.hB).mono ?_
      rintro e W5 ⟨rfl, v5, hp5⟩
      have HE5 : Hid _ := HE1.out.step hp5
      have hb5 := HE1.out.ok.keep hp5.kept HB1.out (by decide) (by decide)
      have HB5 : Hid (W5.heap[rb]? = some (.cells #[.int .u64 (l : Int), .int .u64 (f : Int)] 135 (0, 0))) := hb5
      have y1 := blk_at hb5 1
      simp at y1
      have hnl := nL_le l true
      clear hp5 hb5 HE1 HB1
      go_wp2_with fail
      refine (lay_any w.heap.size p f true _ _ W5 HE5.out.ok hf (by simp [bigTo_length, sbytes_length] <;> omega) HE5.out.hB).mono ?_
      rintro e W6 ⟨rfl, v6, hp6⟩
      have HE6 : Hid (Enc w W6 w.heap.size p v6 ([] ++ bigTo cx 4 4 ++ bigTo n 4 4 ++ runL true (rs.take (j + 1))) (.cells #[.int .u32 (cx : Int), .slice (some ⟨b, off, none⟩) n rc] 40)) := by
        have h := HE5.out.step hp6
        rw [List.append_assoc, List.append_assoc, ← List.append_assoc (runL true (rs.take j)), ← HT9.out] at h
        exact h
      clear hp6 y1 HE5
      go_wp2
      go_roundw
      case rel => exact ⟨j + 1, v6, by omega, by go_num, HE6⟩
      case measure => simp [intOf]; omega
    · have e9 : [] ++ bigTo cx 4 4 ++ bigTo n 4 4 ++ runL true (rs.take j) = stL true cx rs := by
        have e1 : rs.take j = rs := List.take_of_length_le (by rw [HN.out]; omega)
        rw [e1]; simp [stL, HN.out]
      have h9 := HE.out
      rw [e9] at h9
      have H9 : Hid (Enc w wr w.heap.size p v (stL true cx rs) (.cells #[.int .u32 (cx : Int), .slice ra n rc] 40)) := h9
      have hl9 : (stL true cx rs).length ≤ 20000000 := by rw [← e9]; simp [bigTo_length]; omega
      clear h9 e9 HE
      go_wp2_with fail
      refine (wout_any w.heap.size p _ _ wr H9.out.ok (by omega)).mono ?_
      rintro e Wz ⟨ao', cap', he, ho, hb⟩
      have HZ : Hid _ := H9.out.out ho hb
      clear ho hb
      obtain ⟨m9, hm⟩ : ∃ m9, m9 = (stL true cx rs).length := ⟨_, rfl⟩
      obtain rfl : e = .returned (.slice ao' m9 cap') := by rw [hm, he]
      have HM : Hid (m9 = (stL true cx rs).length) := hm
      clear hm he
      go_wp2
      go_ret2
      exact ⟨_, _, m9, rfl, HM.out.symm, HZ.out⟩
set_option maxHeartbeats 4000000 in
theorem packStatus_ok0 (cx : Nat) (ra : Option Addr) (n rc : Nat) (rs : List (Nat × Nat)) (w : World) (hc : cx < 4294967296) (h : Runs w ra rs) (hn : rs.length = n) (hn2 : n ≤ 1048576) (hn0 : 0 < n) (hfit : fitA false rs = true) :
    Calls Tryd.prog 36 #[.agg #[.int .u32 (cx : Int), .slice ra n rc], .bool false] w fun e w' => Pk w (stL false cx rs) 0 e w' := by
  have HSf : Hid (∀ W, Below w.heap.size w W → Calls Tryd.prog 94 #[.agg #[.int .u32 (cx : Int), .slice ra n rc], .bool false] W fun e w' => e = .returned (.bool true) ∧ Below W.heap.size W w') := fun W hb => by
    have h1 := statusFits_any cx ra n rc false rs W (h.later hb) hn hn2
    rw [hfit, show decide (0 < n) = true by simp; omega] at h1
    exact h1
  have HR : Hid (Runs w ra rs) := h
  have HN : Hid (rs.length = n) := hn
  have hwk : IntKind.u32.wrap (n : Int) = (n : Int) := by rw [IntKind.wrap_u32]; omega
  clear h hn hfit
  have hx := mkb1 w #[.int .u32 (cx : Int), .slice ra n rc] 40
  go_enter Tryd.func36, Tryd.ntmps36
  go_wp2_with fail
  generalize w.alloc (Obj.cells #[.int .u32 (cx : Int), .slice ra n rc] 40) = W0 at *
  refine (HSf.out _ hx.bel).mono ?_
  rintro e Wi ⟨rfl, hb⟩
  have hy : Bx1 w Wi #[.int .u32 (cx : Int), .slice ra n rc] 40 := hx.later hb
  clear hx hb HSf
  go_wp2_with fail
  refine (newWriter_any _).mono ?_
  rintro e w1 ⟨rfl, rfl⟩
  have h0 := Enc.new hy.bel hy.a
  have H1 : Hid _ := h0
  clear h0 hy
  generalize Wi.alloc (Obj.cells #[.bool true, .slice none 0 0] 189) = W1 at *
  generalize Wi.heap.size = p at *
  have c0 := H1.out.c 0
  simp at c0
  go_wp2_with fail
  refine (wu32_any w.heap.size p cx _ _ W1 H1.out.ok hc (by simp [bigTo_length, sbytes_length] <;> omega) H1.out.hB).mono ?_
  rintro e W2 ⟨rfl, v2, hp⟩
  have H2 : Hid _ := H1.out.step hp
  clear hp H1 c0
  have cc1 := H2.out.c 1
  simp at cc1
  go_wp2
  clear cc1
  go_loopw [28] (fun iv wr => ∃ (j : Nat) (v : Value), j ≤ n ∧ iv = .int .i64 (j : Nat) ∧ Hid (Enc w wr w.heap.size p v ([] ++ bigTo cx 4 4 ++ runL false (rs.take j)) (.cells #[.int .u32 (cx : Int), .slice ra n rc] 40))) (fun iv _ => n - (intOf iv).toNat)
  case atStart => exact ⟨0, _, Nat.zero_le _, rfl, by simpa [runL, Hid] using H2.out⟩
  case round =>
    obtain ⟨j, v, hj, rfl, HE⟩ := hrel
    have hLl : (runL false (rs.take j)).length ≤ 16777216 := by have h1 := runL_len false (rs.take j); rw [List.length_take] at h1; omega
    by_cases hlt : j < n
    · have hne : rs ≠ [] := by rintro rfl; have := HN.out; simp at this; omega
      obtain ⟨b, off, rfl, hrow⟩ := (HR.out.later HE.out.bel).at_ hne
      have hjl : j < rs.length := by rw [HN.out]; exact hlt
      obtain ⟨⟨l, f⟩, hp⟩ : ∃ x, rs[j] = x := ⟨_, rfl⟩
      obtain ⟨g0, g1⟩ := hrow j hjl
      obtain ⟨hl, hf⟩ := HR.out.lt _ (List.getElem_mem hjl)
      rw [hp] at g0 g1 hl hf
      simp only at g0 g1 hl hf
      have HT9 : Hid (runL false (rs.take (j + 1)) = runL false (rs.take j) ++ nL l false ++ nL f false) := by show _ = _; rw [List.take_add_one, List.getElem?_eq_getElem hjl, hp]; exact runL_snoc _ _ _
      clear hrow hp hne hjl
      have HE1 : Hid _ := HE.out.later (below1 wr (.cells #[.int .u64 (l : Int), .int .u64 (f : Int)] 135))
      have HB1 : Hid ((wr.alloc (.cells #[.int .u64 (l : Int), .int .u64 (f : Int)] 135)).heap[wr.heap.size]? = some (.cells #[.int .u64 (l : Int), .int .u64 (f : Int)] 135 (0, 0))) := heap_new _ _
      go_wp2_with fail
      clear g0 g1
      generalize wr.alloc (Obj.cells #[.int .u64 (l : Int), .int .u64 (f : Int)] 135) = Wr at *
      generalize wr.heap.size = rb at *
      refine (lay_any w.heap.size p l false _ _ Wr HE1.out.ok hl (by simp [bigTo_length, sbytes_length] <;> omega) HE1.out.hB).mono ?_
      rintro e W5 ⟨rfl, v5, hp5⟩
      have HE5 : Hid _ := HE1.out.step hp5
      have hb5 := HE1.out.ok.keep hp5.kept HB1.out (by decide) (by decide)
      have HB5 : Hid (W5.heap[rb]? = some (.cells #[.int .u64 (l : Int), .int .u64 (f : Int)] 135 (0, 0))) := hb5
      have y1 := blk_at hb5 1
      simp at y1
      have hnl := nL_le l false
      clear hp5 hb5 HE1 HB1
      go_wp2_with fail
      refine (lay_any w.heap.size p f false _ _ W5 HE5.out.ok hf (by simp [bigTo_length, sbytes_length] <;> omega) HE5.out.hB).mono ?_
      rintro e W6 ⟨rfl, v6, hp6⟩
      have HE6 : Hid (Enc w W6 w.heap.size p v6 ([] ++ bigTo cx 4 4 ++ runL false (rs.take (j + 1))) (.cells #[.int .u32 (cx : Int), .slice (some ⟨b, off, none⟩) n rc] 40)) := by
        have h := HE5.out.step hp6
        rw [List.append_assoc, List.append_assoc, ← List.append_assoc (runL false (rs.take j)), ← HT9.out] at h
        exact h
      clear hp6 y1 HE5
      go_wp2
      go_roundw
      case rel => exact ⟨j + 1, v6, by omega, by go_num, HE6⟩
      case measure => simp [intOf]; omega
    · have e9 : [] ++ bigTo cx 4 4 ++ runL false (rs.take j) = stL false cx rs := by
        have e1 : rs.take j = rs := List.take_of_length_le (by rw [HN.out]; omega)
        rw [e1]; simp [stL, HN.out]
      have h9 := HE.out
      rw [e9] at h9
      have H9 : Hid (Enc w wr w.heap.size p v (stL false cx rs) (.cells #[.int .u32 (cx : Int), .slice ra n rc] 40)) := h9
      have hl9 : (stL false cx rs).length ≤ 20000000 := by rw [← e9]; simp [bigTo_length]; omega
      clear h9 e9 HE
      go_wp2_with fail
      refine (wout_any w.heap.size p _ _ wr H9.out.ok (by omega)).mono ?_
      rintro e Wz ⟨ao', cap', he, ho, hb⟩
      have HZ : Hid _ := H9.out.out ho hb
      clear ho hb
      obtain ⟨m9, hm⟩ : ∃ m9, m9 = (stL false cx rs).length := ⟨_, rfl⟩
      obtain rfl : e = .returned (.slice ao' m9 cap') := by rw [hm, he]
      have HM : Hid (m9 = (stL false cx rs).length) := hm
      clear hm he
      go_wp2
      go_ret2
      exact ⟨_, _, m9, rfl, HM.out.symm, HZ.out⟩
set_option maxHeartbeats 2000000 in
theorem packStatus_bad (cx : Nat) (ra : Option Addr) (n rc : Nat) (wide : Bool) (rs : List (Nat × Nat)) (w : World) (h : Runs w ra rs) (hn : rs.length = n) (hn2 : n ≤ 1048576) (hfit : (fitA wide rs && decide (0 < n)) = false) :
    Calls Tryd.prog 36 #[.agg #[.int .u32 (cx : Int), .slice ra n rc], .bool wide] w fun e w' => Pk w [] 81 e w' := by
  have HSf : Hid (∀ W, Below w.heap.size w W → Calls Tryd.prog 94 #[.agg #[.int .u32 (cx : Int), .slice ra n rc], .bool wide] W fun e w' => e = .returned (.bool false) ∧ Below W.heap.size W w') := fun W hb => by
    have h1 := statusFits_any cx ra n rc wide rs W (h.later hb) hn hn2
    rw [hfit] at h1
    exact h1
  clear h hn hfit
  have hx := mkb1 w #[.int .u32 (cx : Int), .slice ra n rc] 40
  go_enter Tryd.func36, Tryd.ntmps36
  go_wp2_with fail
  generalize w.alloc (Obj.cells #[.int .u32 (cx : Int), .slice ra n rc] 40) = W0 at *
  refine (HSf.out _ hx.bel).mono ?_
  rintro e Wi ⟨rfl, hb⟩
  have hy : Bx1 w Wi #[.int .u32 (cx : Int), .slice ra n rc] 40 := hx.later hb
  clear hx hb HSf
  go_wp2
  go_ret2
  exact pk_none hy.bel
end Go.Proofs.YtjikibhhhchgeaaDoor
