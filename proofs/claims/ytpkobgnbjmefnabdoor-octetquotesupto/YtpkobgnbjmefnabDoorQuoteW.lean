import Derived.Test.YtpkobgnbjmefnabDoorQuoteB
namespace Go.Proofs.YtpkobgnbjmefnabDoor
open Go.RowKit
set_option linter.unusedVariables false
set_option maxRecDepth 100000

theorem extract_drop (s : ByteArray) (pos : Nat) (h : pos ≤ s.size) : (s.extract pos s.size).data.toList = s.data.toList.drop pos := by
  rw [ByteArray.data_extract]
  simp
  exact List.take_of_length_le (by simp)
theorem goL (s : ByteArray) (pos : Nat) (h : pos < s.size) : Lib.decodeGo (s.extract pos s.size) = Lib.decodeL (s.data.toList.drop pos) := by
  unfold Lib.decodeGo Lib.decodeL
  have hs : (s.extract pos s.size).size ≠ 0 := by rw [ByteArray.size_extract]; omega
  rw [if_neg hs, ← extract_drop s pos (by omega)]
theorem hexL_one (c : UInt8) : bstr (hexL [c.toNat]) = ⟨(hx2 c).toArray⟩ := by
  unfold bstr hx2
  congr 1

theorem piece_le (l : List UInt8) (h : l ≠ []) : (piece l).length ≤ 4 * (Lib.decodeL l).2 := by
  have hw := Lib.decodeL_width l
  unfold piece
  split
  · simp; omega
  split
  · simp; omega
  split
  · simp [hx2]; omega
  · rw [List.length_take]; omega
theorem qbody_le_n (n : Nat) : ∀ l : List UInt8, l.length ≤ n → (qbody l).length ≤ 4 * l.length := by
  induction n with
  | zero =>
    intro l hl
    obtain rfl := List.eq_nil_of_length_eq_zero (by omega : l.length = 0)
    simp [qbody_nil]
  | succ n ih =>
    intro l hl
    by_cases h : l = []
    · subst h; simp [qbody_nil]
    · have hw := Lib.decodeL_width l
      have hle := Lib.decodeL_le l h
      have := ih (l.drop (Lib.decodeL l).2) (by rw [List.length_drop]; omega)
      have hp := piece_le l h
      rw [qbody_step l h, List.length_append]
      rw [List.length_drop] at this
      omega
theorem qbody_le (l : List UInt8) : (qbody l).length ≤ 4 * l.length := qbody_le_n _ l (Nat.le_refl _)
theorem iterPos_of {w : World} {k : Nat} {s : ByteArray} {p : Nat} (h : w.heap[k]? = some (.stringIter s p)) : w.iterPos k = p := by unfold World.iterPos; rw [h]
theorem enc_low (r : Nat) (h : r < 128) : Lib.encodeRune r = [UInt8.ofNat r] := by
  unfold Lib.encodeRune
  rw [Lib.encodeRuneZ_one (by omega) (by omega)]
  simp
theorem getD_drop (s : ByteArray) (pos : Nat) (h : pos < s.size) : (s.data.toList.drop pos).getD 0 0 = s.get! pos := by
  have h1 : s.get! pos = s.data[pos] := getElem!_pos s.data pos h
  rw [h1]
  have h2 : pos < s.data.toList.length := by simpa using h
  rw [List.drop_eq_getElem_cons h2]
  simp

theorem sb_elemQ (s : ByteArray) (j : Nat) (h : j < s.size) : (s[j]'h).toNat = (s.get! j).toNat := by
  have : s.get! j = s[j]'h := by
    show s.data[j]! = s.data[j]
    exact getElem!_pos s.data j h
  rw [this]
set_option maxHeartbeats 8000000 in
theorem quote_any (s : ByteArray) (w : World) (hs : s.size ≤ 16777216) (hT : Tabs w) :
    Calls Tryd.prog 12 #[.string s] w fun e w' => e = .returned (.string ⟨(quoteL s.data.toList).toArray⟩) ∧ Below w.heap.size w w' := by
  have HT : Hid (∀ W, Below w.heap.size w W → Tabs W) := fun W hW => hT.later hW
  clear hT
  have H0 : Hid (Lib.IsBuilderF 75 5 w.heap.size w.heap.size (Lib.byteCells []) (w.alloc (.cells #[.pointer none, .slice none 0 0] 75))) :=
    .inl ⟨Nat.le_refl _, .slice none 0 0, heap_new w _, World.ownsRowF_nil _ _ _ _, by simp [Value.ownBlock]⟩
  go_enter Tryd.func12, Tryd.ntmps12
  go_wp2_with fail
  have HB1 : Hid (Calls Tryd.prog 29 #[.pointer (some ⟨w.heap.size, 0, none⟩), .int .u8 34] (w.alloc (.cells #[.pointer none, .slice none 0 0] 75)) fun e w' => e = .returned .nilIface ∧ Lib.IsBuilderF 75 5 w.heap.size w.heap.size (Lib.byteCells [34]) w' ∧ Below w.heap.size w w') :=
    (Tryd.Builder_WriteByte_k w.heap.size w.heap.size (Lib.byteCells []) 34 _ H0.out (by rw [bytes_len]; simp) (by simp)).mono fun e w' hh => ⟨hh.1, .inr hh.2.1, ((Below.refl _ _).alloc (Nat.le_refl _) _).trans hh.2.2.1⟩
  refine HB1.out.mono ?_
  rintro e w1 ⟨rfl, hbd, hbl⟩
  have HW1 : Hid (Lib.IsBuilderF 75 5 w.heap.size w.heap.size (Lib.byteCells [34]) w1 ∧ Below w.heap.size w w1) := ⟨hbd, hbl⟩
  clear hbd hbl
  have HQ0 : Hid (QS w (w1.iter s 0) w.heap.size w1.heap.size (.stringIter s 0) [34]) := by
    show QS w (w1.alloc (.stringIter s 0)) w.heap.size w1.heap.size (.stringIter s 0) [34]
    have hlt : w.heap.size < w1.heap.size := by
      rcases HW1.out.1 with ⟨_, v, hb, _⟩ | ⟨_, v, hb, _⟩ <;> exact block_lt hb
    have hb9 : Below w1.heap.size w1 (w1.alloc (.stringIter s 0)) := (Below.refl _ _).alloc (Nat.le_refl _) _
    refine ⟨?_, heap_new w1 _, HW1.out.2.trans (hb9.mono HW1.out.2.size), (by intro c t fz e; cases e), by omega⟩
    have go : ∀ p, Lib.BuilderAtF 75 5 w.heap.size w.heap.size p (Lib.byteCells [34]) w1 → Lib.BuilderAtF 75 5 w.heap.size w.heap.size p (Lib.byteCells [34]) (w1.alloc (.stringIter s 0)) := by
      rintro p ⟨hB, v, hbk, hown, hne⟩
      refine ⟨hB, v, by rw [hb9.block _ (block_lt hbk)]; exact hbk, ⟨hown.1, ?_⟩, hne⟩
      rcases hown.2 with hn | ⟨g, cap, cur, fz, hv, hbg, hg, rest⟩
      · exact .inl hn
      · exact .inr ⟨g, cap, cur, fz, hv, hbg, by rw [hb9.block g (block_lt hg)]; exact hg, rest⟩
    exact HW1.out.1.imp (go _) (go _)
  have HZ1 : Hid (w.heap.size ≤ w1.heap.size) := HW1.out.2.size
  go_wp2
  go_loopw [4] (fun _ wr => ∃ (pos : Nat) (acc : List UInt8), QS w wr w.heap.size w1.heap.size (.stringIter s pos) acc ∧ pos ≤ s.size ∧ 34 :: qbody s.data.toList = acc ++ qbody (s.data.toList.drop pos)) (fun _ wr => s.size - wr.iterPos w1.heap.size)
  case atStart => exact ⟨0, [34], HQ0.out, Nat.zero_le _, by simp⟩
  case round =>
    obtain ⟨pos, acc, hq, hpos, hacc⟩ := hrel
    have HQ : Hid (QS w wr w.heap.size w1.heap.size (.stringIter s pos) acc) := hq
    have HAcc : Hid (34 :: qbody s.data.toList = acc ++ qbody (s.data.toList.drop pos)) := hacc
    have hal : acc.length ≤ 67108865 := by
      have h1 := congrArg List.length hacc
      have h2 := qbody_le s.data.toList
      have h3 : s.data.toList.length = s.size := by simp
      simp only [List.length_cons, List.length_append] at h1
      omega
    clear hq hacc
    by_cases hlt : pos < s.size
    · have hne : s.data.toList.drop pos ≠ [] := fun e => by
        have := congrArg List.length e
        rw [List.length_drop] at this
        simp at this; omega
      have hle := Lib.decodeL_le _ hne
      have hw1 := Lib.decodeL_width (s.data.toList.drop pos)
      have hrl := Lib.decodeL_rune (s.data.toList.drop pos)
      have HStep : Hid (qbody (s.data.toList.drop pos) = piece (s.data.toList.drop pos) ++ qbody (s.data.toList.drop (pos + (Lib.decodeL (s.data.toList.drop pos)).2))) := by
        show _ = _
        have := qbody_step _ hne
        rwa [List.drop_drop] at this
      have hnx : ∀ ty, (Instr.next (.pointer (some ⟨w1.heap.size, 0, none⟩)) true ty).run Tryd.prog wr = .ok (.tuple #[.bool true, .int .i64 pos, .int .i32 ((Lib.decodeL (s.data.toList.drop pos)).1 : Nat)]) (wr.iterAt w1.heap.size s (pos + (Lib.decodeL (s.data.toList.drop pos)).2)) := fun ty => by
        rw [Lib.run_next_any_at wr w1.heap.size s pos ty HQ.out.it hlt, Lib.decodeL_drop]
      have HQm : Hid (QS w (wr.iterAt w1.heap.size s (pos + (Lib.decodeL (s.data.toList.drop pos)).2)) w.heap.size w1.heap.size (.stringIter s (pos + (Lib.decodeL (s.data.toList.drop pos)).2)) acc) := HQ.out.move HZ1.out _
      have HLow : Hid ((Lib.decodeL (s.data.toList.drop pos)).1 < 128 → ((s.data.toList.drop pos).getD 0 0).toNat = (Lib.decodeL (s.data.toList.drop pos)).1 ∧ (Lib.decodeL (s.data.toList.drop pos)).2 = 1) := low_rune _ hne
      have HEnc : Hid (¬ ((Lib.decodeL (s.data.toList.drop pos)).1 = 65533 ∧ (Lib.decodeL (s.data.toList.drop pos)).2 = 1) → Lib.encodeRune ((Lib.decodeL (s.data.toList.drop pos)).1 : Int) = (s.data.toList.drop pos).take (Lib.decodeL (s.data.toList.drop pos)).2) := Lib.encode_decode _ hne
      have hdl : (s.data.toList.drop pos).length = s.size - pos := by rw [List.length_drop]; simp
      rw [hdl] at hle
      have HWh : Hid (∀ W, Below w.heap.size w W → Calls Tryd.prog 32 #[.string (s.extract pos s.size)] W fun e w' => e = .returned (.bool (decide (1 < (Lib.decodeL (s.data.toList.drop pos)).2))) ∧ Below W.heap.size W w') := fun W hW => by
        have := whole_any (s.extract pos s.size) W (HT.out W hW)
        rwa [goL s pos hlt] at this
      have HM : Hid (s.size - (pos + (Lib.decodeL (s.data.toList.drop pos)).2) < s.size - wr.iterPos w1.heap.size) := by
        show _ < _
        rw [iterPos_of HQ.out.it]; omega
      have hgd := getD_drop s pos hlt
      have HGd : Hid ((s.data.toList.drop pos).getD 0 0 = s.get! pos) := hgd
      obtain ⟨r, n, hd⟩ : ∃ r n, Lib.decodeL (s.data.toList.drop pos) = (r, n) := ⟨_, _, rfl⟩
      have HD : Hid (Lib.decodeL (s.data.toList.drop pos) = (r, n)) := hd
      rw [hd] at hnx HQm HLow HEnc HWh HM HStep hw1 hle hrl
      dsimp only at hnx HQm HLow HEnc HWh HM HStep hw1 hle hrl
      have HMf : Hid (∀ W {acc' : List UInt8}, QS w W w.heap.size w1.heap.size (.stringIter s (pos + n)) acc' → s.size - W.iterPos w1.heap.size < s.size - wr.iterPos w1.heap.size) := fun W acc' hW => by
        have h1 := HM.out
        rw [iterPos_of hW.it]; exact h1
      clear hd hne hdl HM hgd HQ
      generalize wr.iterAt w1.heap.size s (pos + n) = W at *
      by_cases h34 : r = 34
      · subst h34
        have HPc : Hid (piece (s.data.toList.drop pos) = [92] ++ [UInt8.ofNat 34]) := by
          show piece _ = _
          unfold piece
          rw [HD.out]; rfl
        have HR : Hid (Lib.encodeRune ((34 : Nat) : Int) = [UInt8.ofNat 34]) := enc_low 34 (by decide)
        have HNf : Hid (34 :: qbody s.data.toList = (acc ++ ([92] ++ [UInt8.ofNat 34])) ++ qbody (s.data.toList.drop (pos + n))) := by
          show _ = _
          rw [HAcc.out, HStep.out, HPc.out]; simp
        go_wp2_with fail
        refine (HQm.out.byte 92 (by omega)).mono ?_
        rintro e w2 ⟨rfl, hq⟩
        have HQ2 : Hid (QS w w2 w.heap.size w1.heap.size (.stringIter s (pos + n)) (acc ++ [92])) := hq
        clear hq
        have HRn : Hid (Calls Tryd.prog 30 #[.pointer (some ⟨w.heap.size, 0, none⟩), .int .i32 34] w2 fun e w' => (∃ n, e = .returned (.tuple #[.int .i64 n, .nilIface])) ∧ QS w w' w.heap.size w1.heap.size (.stringIter s (pos + n)) (acc ++ ([92] ++ [UInt8.ofNat 34]))) := by
          have h9 := HQ2.out.rune 34 (by decide) (by simp; omega)
          rw [HR.out, List.append_assoc] at h9
          exact h9
        go_wp2_with fail
        refine HRn.out.mono ?_
        rintro e w3 ⟨⟨nn, rfl⟩, hq⟩
        have HQf : Hid (QS w w3 w.heap.size w1.heap.size (.stringIter s (pos + n)) (acc ++ ([92] ++ [UInt8.ofNat 34]))) := hq
        clear hq
        go_wp2
        go_roundw
        case rel => exact ⟨pos + n, _, HQf.out, by omega, HNf.out⟩
        case measure => exact HMf.out _ HQf.out
      by_cases h92 : r = 92
      · subst h92
        have HPc : Hid (piece (s.data.toList.drop pos) = [92] ++ [UInt8.ofNat 92]) := by
          show piece _ = _
          unfold piece
          rw [HD.out]; rfl
        have HR : Hid (Lib.encodeRune ((92 : Nat) : Int) = [UInt8.ofNat 92]) := enc_low 92 (by decide)
        have HNf : Hid (34 :: qbody s.data.toList = (acc ++ ([92] ++ [UInt8.ofNat 92])) ++ qbody (s.data.toList.drop (pos + n))) := by
          show _ = _
          rw [HAcc.out, HStep.out, HPc.out]; simp
        go_wp2_with fail
        refine (HQm.out.byte 92 (by omega)).mono ?_
        rintro e w2 ⟨rfl, hq⟩
        have HQ2 : Hid (QS w w2 w.heap.size w1.heap.size (.stringIter s (pos + n)) (acc ++ [92])) := hq
        clear hq
        have HRn : Hid (Calls Tryd.prog 30 #[.pointer (some ⟨w.heap.size, 0, none⟩), .int .i32 92] w2 fun e w' => (∃ n, e = .returned (.tuple #[.int .i64 n, .nilIface])) ∧ QS w w' w.heap.size w1.heap.size (.stringIter s (pos + n)) (acc ++ ([92] ++ [UInt8.ofNat 92]))) := by
          have h9 := HQ2.out.rune 92 (by decide) (by simp; omega)
          rw [HR.out, List.append_assoc] at h9
          exact h9
        go_wp2_with fail
        refine HRn.out.mono ?_
        rintro e w3 ⟨⟨nn, rfl⟩, hq⟩
        have HQf : Hid (QS w w3 w.heap.size w1.heap.size (.stringIter s (pos + n)) (acc ++ ([92] ++ [UInt8.ofNat 92]))) := hq
        clear hq
        go_wp2
        go_roundw
        case rel => exact ⟨pos + n, _, HQf.out, by omega, HNf.out⟩
        case measure => exact HMf.out _ HQf.out
      by_cases h10 : r = 10
      · subst h10
        have HPc : Hid (piece (s.data.toList.drop pos) = [92, 110]) := by
          show piece _ = _
          unfold piece
          rw [HD.out]; rfl
        have HNf : Hid (34 :: qbody s.data.toList = (acc ++ [92, 110]) ++ qbody (s.data.toList.drop (pos + n))) := by
          show _ = _
          rw [HAcc.out, HStep.out, HPc.out]; simp
        have HSn : Hid (Calls Tryd.prog 31 #[.pointer (some ⟨w.heap.size, 0, none⟩), .string ⟨#[92, 110]⟩] W fun e w' => (∃ n, e = .returned (.tuple #[.int .i64 n, .nilIface])) ∧ QS w w' w.heap.size w1.heap.size (.stringIter s (pos + n)) (acc ++ [92, 110])) :=
          (HQm.out.str ⟨#[92, 110]⟩ (by omega) (by decide)).mono fun e w' hh => ⟨⟨_, hh.1⟩, hh.2⟩
        go_wp2_with fail
        refine HSn.out.mono ?_
        rintro e w2 ⟨⟨nn, rfl⟩, hq⟩
        have HQf : Hid (QS w w2 w.heap.size w1.heap.size (.stringIter s (pos + n)) (acc ++ [92, 110])) := hq
        clear hq
        go_wp2
        go_roundw
        case rel => exact ⟨pos + n, _, HQf.out, by omega, HNf.out⟩
        case measure => exact HMf.out _ HQf.out
      by_cases h32 : r < 32
      · have HPc : Hid (piece (s.data.toList.drop pos) = [92, 120] ++ hx2 (s.get! pos)) := by
          show piece _ = _
          unfold piece
          have hb : bad (s.data.toList.drop pos) := by rw [bad_iff, HD.out]; dsimp only; omega
          rw [HD.out, if_neg (by dsimp only; omega), if_neg (by dsimp only; omega), if_pos hb, HGd.out]; rfl
        have HNf : Hid (34 :: qbody s.data.toList = (acc ++ ([92, 120] ++ hx2 (s.get! pos))) ++ qbody (s.data.toList.drop (pos + n))) := by
          show _ = _
          rw [HAcc.out, HStep.out, HPc.out]; simp
        have t1 : ((r : Int) == 34) = false := by rw [beq_eq_false_iff_ne]; omega
        have t2 : ((r : Int) == 92) = false := by rw [beq_eq_false_iff_ne]; omega
        have t3 : ((r : Int) == 10) = false := by rw [beq_eq_false_iff_ne]; omega
        have t4 : decide ((r : Int) < 32) = true := by simp; omega
        have g9 := sb_elemQ s pos
        have HSn : Hid (∀ W', QS w W' w.heap.size w1.heap.size (.stringIter s (pos + n)) acc → Calls Tryd.prog 31 #[.pointer (some ⟨w.heap.size, 0, none⟩), .string ⟨#[92, 120]⟩] W' fun e w' => (∃ n, e = .returned (.tuple #[.int .i64 n, .nilIface])) ∧ QS w w' w.heap.size w1.heap.size (.stringIter s (pos + n)) (acc ++ [92, 120])) := fun W' hW' =>
          (hW'.str ⟨#[92, 120]⟩ (by omega) (by decide)).mono fun e w' hh => ⟨⟨_, hh.1⟩, hh.2⟩
        have HHx : Hid (∀ W' : World, Calls Tryd.prog 33 #[.slice (some ⟨W'.heap.size, 0, none⟩) 1 1] (W'.alloc (.cells #[.int .u8 ((s.get! pos).toNat : Int)] 5)) fun e w' => e = .returned (.string ⟨(hx2 (s.get! pos)).toArray⟩) ∧ Below W'.heap.size W' w') := fun W' => by
          have h9 := hex_any (some ⟨W'.heap.size, 0, none⟩) 1 1 [(s.get! pos).toNat] (W'.alloc (.cells #[.int .u8 ((s.get! pos).toNat : Int)] 5)) ⟨fun x hx => by rw [List.mem_singleton.1 hx]; exact UInt8.toNat_lt _, by simp, fun e => by simp at e, fun _ => ⟨_, 0, rfl, fun k hk => by
            have hk0 : k = 0 := by simp at hk; omega
            subst hk0
            rw [World.cell?_alloc_mark]; rfl⟩⟩ rfl (by decide)
          rw [hexL_one] at h9
          refine h9.mono fun e w' hh => ⟨hh.1, ?_⟩
          have hb9 : Below W'.heap.size W' (W'.alloc (.cells #[.int .u8 ((s.get! pos).toNat : Int)] 5)) := (Below.refl _ _).alloc (Nat.le_refl _) _
          exact hb9.trans (hh.2.mono hb9.size)
        go_wp2_with fail
        refine (HSn.out W HQm.out).mono ?_
        rintro e w3 ⟨⟨nn, rfl⟩, hq⟩
        have HQ3 : Hid (QS w w3 w.heap.size w1.heap.size (.stringIter s (pos + n)) (acc ++ [92, 120])) := hq
        clear hq
        go_wp2_with fail
        refine (HHx.out w3).mono ?_
        rintro e w4 ⟨rfl, hb4⟩
        have HQ4 : Hid (QS w w4 w.heap.size w1.heap.size (.stringIter s (pos + n)) (acc ++ [92, 120])) := HQ3.out.below hb4
        clear hb4
        have HS5 : Hid (Calls Tryd.prog 31 #[.pointer (some ⟨w.heap.size, 0, none⟩), .string ⟨(hx2 (s.get! pos)).toArray⟩] w4 fun e w' => (∃ n, e = .returned (.tuple #[.int .i64 n, .nilIface])) ∧ QS w w' w.heap.size w1.heap.size (.stringIter s (pos + n)) (acc ++ ([92, 120] ++ hx2 (s.get! pos)))) := by
          refine (HQ4.out.str ⟨(hx2 (s.get! pos)).toArray⟩ (by simp; omega) (by show (hx2 (s.get! pos)).toArray.size ≤ _; simp [hx2])).mono fun e w' hh => ⟨⟨_, hh.1⟩, ?_⟩
          have h9 := hh.2
          rw [List.append_assoc] at h9
          exact h9
        go_wp2_with fail
        refine HS5.out.mono ?_
        rintro e w5 ⟨⟨nn, rfl⟩, hq⟩
        have HQf : Hid (QS w w5 w.heap.size w1.heap.size (.stringIter s (pos + n)) (acc ++ ([92, 120] ++ hx2 (s.get! pos)))) := hq
        clear hq
        go_wp2
        go_roundw
        case rel => exact ⟨pos + n, _, HQf.out, by omega, HNf.out⟩
        case measure => exact HMf.out _ HQf.out
      by_cases h127 : r = 127
      · have HPc : Hid (piece (s.data.toList.drop pos) = [92, 120] ++ hx2 (s.get! pos)) := by
          show piece _ = _
          unfold piece
          have hb : bad (s.data.toList.drop pos) := by rw [bad_iff, HD.out]; dsimp only; omega
          rw [HD.out, if_neg (by dsimp only; omega), if_neg (by dsimp only; omega), if_pos hb, HGd.out]; rfl
        have HNf : Hid (34 :: qbody s.data.toList = (acc ++ ([92, 120] ++ hx2 (s.get! pos))) ++ qbody (s.data.toList.drop (pos + n))) := by
          show _ = _
          rw [HAcc.out, HStep.out, HPc.out]; simp
        have t1 : ((r : Int) == 34) = false := by rw [beq_eq_false_iff_ne]; omega
        have t2 : ((r : Int) == 92) = false := by rw [beq_eq_false_iff_ne]; omega
        have t3 : ((r : Int) == 10) = false := by rw [beq_eq_false_iff_ne]; omega
        have t4 : decide ((r : Int) < 32) = false := by simp; omega
        have t5 : ((r : Int) == 127) = true := by rw [beq_iff_eq]; omega
        have g9 := sb_elemQ s pos
        have HSn : Hid (∀ W', QS w W' w.heap.size w1.heap.size (.stringIter s (pos + n)) acc → Calls Tryd.prog 31 #[.pointer (some ⟨w.heap.size, 0, none⟩), .string ⟨#[92, 120]⟩] W' fun e w' => (∃ n, e = .returned (.tuple #[.int .i64 n, .nilIface])) ∧ QS w w' w.heap.size w1.heap.size (.stringIter s (pos + n)) (acc ++ [92, 120])) := fun W' hW' =>
          (hW'.str ⟨#[92, 120]⟩ (by omega) (by decide)).mono fun e w' hh => ⟨⟨_, hh.1⟩, hh.2⟩
        have HHx : Hid (∀ W' : World, Calls Tryd.prog 33 #[.slice (some ⟨W'.heap.size, 0, none⟩) 1 1] (W'.alloc (.cells #[.int .u8 ((s.get! pos).toNat : Int)] 5)) fun e w' => e = .returned (.string ⟨(hx2 (s.get! pos)).toArray⟩) ∧ Below W'.heap.size W' w') := fun W' => by
          have h9 := hex_any (some ⟨W'.heap.size, 0, none⟩) 1 1 [(s.get! pos).toNat] (W'.alloc (.cells #[.int .u8 ((s.get! pos).toNat : Int)] 5)) ⟨fun x hx => by rw [List.mem_singleton.1 hx]; exact UInt8.toNat_lt _, by simp, fun e => by simp at e, fun _ => ⟨_, 0, rfl, fun k hk => by
            have hk0 : k = 0 := by simp at hk; omega
            subst hk0
            rw [World.cell?_alloc_mark]; rfl⟩⟩ rfl (by decide)
          rw [hexL_one] at h9
          refine h9.mono fun e w' hh => ⟨hh.1, ?_⟩
          have hb9 : Below W'.heap.size W' (W'.alloc (.cells #[.int .u8 ((s.get! pos).toNat : Int)] 5)) := (Below.refl _ _).alloc (Nat.le_refl _) _
          exact hb9.trans (hh.2.mono hb9.size)
        go_wp2_with fail
        refine (HSn.out W HQm.out).mono ?_
        rintro e w3 ⟨⟨nn, rfl⟩, hq⟩
        have HQ3 : Hid (QS w w3 w.heap.size w1.heap.size (.stringIter s (pos + n)) (acc ++ [92, 120])) := hq
        clear hq
        go_wp2_with fail
        refine (HHx.out w3).mono ?_
        rintro e w4 ⟨rfl, hb4⟩
        have HQ4 : Hid (QS w w4 w.heap.size w1.heap.size (.stringIter s (pos + n)) (acc ++ [92, 120])) := HQ3.out.below hb4
        clear hb4
        have HS5 : Hid (Calls Tryd.prog 31 #[.pointer (some ⟨w.heap.size, 0, none⟩), .string ⟨(hx2 (s.get! pos)).toArray⟩] w4 fun e w' => (∃ n, e = .returned (.tuple #[.int .i64 n, .nilIface])) ∧ QS w w' w.heap.size w1.heap.size (.stringIter s (pos + n)) (acc ++ ([92, 120] ++ hx2 (s.get! pos)))) := by
          refine (HQ4.out.str ⟨(hx2 (s.get! pos)).toArray⟩ (by simp; omega) (by show (hx2 (s.get! pos)).toArray.size ≤ _; simp [hx2])).mono fun e w' hh => ⟨⟨_, hh.1⟩, ?_⟩
          have h9 := hh.2
          rw [List.append_assoc] at h9
          exact h9
        go_wp2_with fail
        refine HS5.out.mono ?_
        rintro e w5 ⟨⟨nn, rfl⟩, hq⟩
        have HQf : Hid (QS w w5 w.heap.size w1.heap.size (.stringIter s (pos + n)) (acc ++ ([92, 120] ++ hx2 (s.get! pos)))) := hq
        clear hq
        go_wp2
        go_roundw
        case rel => exact ⟨pos + n, _, HQf.out, by omega, HNf.out⟩
        case measure => exact HMf.out _ HQf.out
      by_cases hbad : r = 65533 ∧ n = 1
      · obtain ⟨hr1, hn1⟩ := hbad
        have HPc : Hid (piece (s.data.toList.drop pos) = [92, 120] ++ hx2 (s.get! pos)) := by
          show piece _ = _
          unfold piece
          have hb : bad (s.data.toList.drop pos) := by rw [bad_iff, HD.out]; dsimp only; omega
          rw [HD.out, if_neg (by dsimp only; omega), if_neg (by dsimp only; omega), if_pos hb, HGd.out]; rfl
        have HNf : Hid (34 :: qbody s.data.toList = (acc ++ ([92, 120] ++ hx2 (s.get! pos))) ++ qbody (s.data.toList.drop (pos + n))) := by
          show _ = _
          rw [HAcc.out, HStep.out, HPc.out]; simp
        have t1 : ((r : Int) == 34) = false := by rw [beq_eq_false_iff_ne]; omega
        have t2 : ((r : Int) == 92) = false := by rw [beq_eq_false_iff_ne]; omega
        have t3 : ((r : Int) == 10) = false := by rw [beq_eq_false_iff_ne]; omega
        have t4 : decide ((r : Int) < 32) = false := by simp; omega
        have t5 : ((r : Int) == 127) = false := by rw [beq_eq_false_iff_ne]; omega
        have t6 : ((r : Int) == 65533) = true := by rw [beq_iff_eq]; omega
        have t7 : decide (1 < n) = false := by simp; omega
        rw [t7] at HWh
        have g9 := sb_elemQ s pos
        have HSn : Hid (∀ W', QS w W' w.heap.size w1.heap.size (.stringIter s (pos + n)) acc → Calls Tryd.prog 31 #[.pointer (some ⟨w.heap.size, 0, none⟩), .string ⟨#[92, 120]⟩] W' fun e w' => (∃ n, e = .returned (.tuple #[.int .i64 n, .nilIface])) ∧ QS w w' w.heap.size w1.heap.size (.stringIter s (pos + n)) (acc ++ [92, 120])) := fun W' hW' =>
          (hW'.str ⟨#[92, 120]⟩ (by omega) (by decide)).mono fun e w' hh => ⟨⟨_, hh.1⟩, hh.2⟩
        have HHx : Hid (∀ W' : World, Calls Tryd.prog 33 #[.slice (some ⟨W'.heap.size, 0, none⟩) 1 1] (W'.alloc (.cells #[.int .u8 ((s.get! pos).toNat : Int)] 5)) fun e w' => e = .returned (.string ⟨(hx2 (s.get! pos)).toArray⟩) ∧ Below W'.heap.size W' w') := fun W' => by
          have h9 := hex_any (some ⟨W'.heap.size, 0, none⟩) 1 1 [(s.get! pos).toNat] (W'.alloc (.cells #[.int .u8 ((s.get! pos).toNat : Int)] 5)) ⟨fun x hx => by rw [List.mem_singleton.1 hx]; exact UInt8.toNat_lt _, by simp, fun e => by simp at e, fun _ => ⟨_, 0, rfl, fun k hk => by
            have hk0 : k = 0 := by simp at hk; omega
            subst hk0
            rw [World.cell?_alloc_mark]; rfl⟩⟩ rfl (by decide)
          rw [hexL_one] at h9
          refine h9.mono fun e w' hh => ⟨hh.1, ?_⟩
          have hb9 : Below W'.heap.size W' (W'.alloc (.cells #[.int .u8 ((s.get! pos).toNat : Int)] 5)) := (Below.refl _ _).alloc (Nat.le_refl _) _
          exact hb9.trans (hh.2.mono hb9.size)
        go_wp2_with fail
        refine (HWh.out W HQm.out.bel).mono ?_
        rintro e w2 ⟨rfl, hb2⟩
        have HQ2 : Hid (QS w w2 w.heap.size w1.heap.size (.stringIter s (pos + n)) (acc)) := HQm.out.below hb2
        clear hb2
        go_wp2_with fail
        refine (HSn.out w2 HQ2.out).mono ?_
        rintro e w3 ⟨⟨nn, rfl⟩, hq⟩
        have HQ3 : Hid (QS w w3 w.heap.size w1.heap.size (.stringIter s (pos + n)) (acc ++ [92, 120])) := hq
        clear hq
        go_wp2_with fail
        refine (HHx.out w3).mono ?_
        rintro e w4 ⟨rfl, hb4⟩
        have HQ4 : Hid (QS w w4 w.heap.size w1.heap.size (.stringIter s (pos + n)) (acc ++ [92, 120])) := HQ3.out.below hb4
        clear hb4
        have HS5 : Hid (Calls Tryd.prog 31 #[.pointer (some ⟨w.heap.size, 0, none⟩), .string ⟨(hx2 (s.get! pos)).toArray⟩] w4 fun e w' => (∃ n, e = .returned (.tuple #[.int .i64 n, .nilIface])) ∧ QS w w' w.heap.size w1.heap.size (.stringIter s (pos + n)) (acc ++ ([92, 120] ++ hx2 (s.get! pos)))) := by
          refine (HQ4.out.str ⟨(hx2 (s.get! pos)).toArray⟩ (by simp; omega) (by show (hx2 (s.get! pos)).toArray.size ≤ _; simp [hx2])).mono fun e w' hh => ⟨⟨_, hh.1⟩, ?_⟩
          have h9 := hh.2
          rw [List.append_assoc] at h9
          exact h9
        go_wp2_with fail
        refine HS5.out.mono ?_
        rintro e w5 ⟨⟨nn, rfl⟩, hq⟩
        have HQf : Hid (QS w w5 w.heap.size w1.heap.size (.stringIter s (pos + n)) (acc ++ ([92, 120] ++ hx2 (s.get! pos)))) := hq
        clear hq
        go_wp2
        go_roundw
        case rel => exact ⟨pos + n, _, HQf.out, by omega, HNf.out⟩
        case measure => exact HMf.out _ HQf.out
      by_cases h65 : r = 65533
      · have HPc : Hid (piece (s.data.toList.drop pos) = (s.data.toList.drop pos).take n) := by
          show piece _ = _
          unfold piece
          have hb : ¬ bad (s.data.toList.drop pos) := by rw [bad_iff, HD.out]; dsimp only; omega
          rw [HD.out, if_neg (by dsimp only; omega), if_neg (by dsimp only; omega), if_neg hb]
        have HEn : Hid (Lib.encodeRune (r : Int) = (s.data.toList.drop pos).take n) := HEnc.out (by omega)
        have HNf : Hid (34 :: qbody s.data.toList = (acc ++ ((s.data.toList.drop pos).take n)) ++ qbody (s.data.toList.drop (pos + n))) := by
          show _ = _
          rw [HAcc.out, HStep.out, HPc.out]; simp
        have t1 : ((r : Int) == 34) = false := by rw [beq_eq_false_iff_ne]; omega
        have t2 : ((r : Int) == 92) = false := by rw [beq_eq_false_iff_ne]; omega
        have t3 : ((r : Int) == 10) = false := by rw [beq_eq_false_iff_ne]; omega
        have t4 : decide ((r : Int) < 32) = false := by simp; omega
        have t5 : ((r : Int) == 127) = false := by rw [beq_eq_false_iff_ne]; omega
        have t6 : ((r : Int) == 65533) = true := by rw [beq_iff_eq]; omega
        have t7 : decide (1 < n) = true := by simp; omega
        rw [t7] at HWh
        clear h65 hbad h34 h92 h10 h32 h127 t7
        go_wp2_with fail
        refine (HWh.out W HQm.out.bel).mono ?_
        rintro e w2 ⟨rfl, hb2⟩
        have HQ2 : Hid (QS w w2 w.heap.size w1.heap.size (.stringIter s (pos + n)) (acc)) := HQm.out.below hb2
        clear hb2
        have HRn : Hid (Calls Tryd.prog 30 #[.pointer (some ⟨w.heap.size, 0, none⟩), .int .i32 (r : Int)] w2 fun e w' => (∃ n, e = .returned (.tuple #[.int .i64 n, .nilIface])) ∧ QS w w' w.heap.size w1.heap.size (.stringIter s (pos + n)) (acc ++ (s.data.toList.drop pos).take n)) := by
          have h9 := HQ2.out.rune r (by omega) (by omega)
          rw [HEn.out] at h9
          exact h9
        go_wp2_with fail
        refine HRn.out.mono ?_
        rintro e w3 ⟨⟨nn, rfl⟩, hq⟩
        have HQf : Hid (QS w w3 w.heap.size w1.heap.size (.stringIter s (pos + n)) (acc ++ (s.data.toList.drop pos).take n)) := hq
        clear hq
        go_wp2
        go_roundw
        case rel => exact ⟨pos + n, _, HQf.out, by omega, HNf.out⟩
        case measure => exact HMf.out _ HQf.out
      have HPc : Hid (piece (s.data.toList.drop pos) = (s.data.toList.drop pos).take n) := by
        show piece _ = _
        unfold piece
        have hb : ¬ bad (s.data.toList.drop pos) := by rw [bad_iff, HD.out]; dsimp only; omega
        rw [HD.out, if_neg (by dsimp only; omega), if_neg (by dsimp only; omega), if_neg hb]
      have HEn : Hid (Lib.encodeRune (r : Int) = (s.data.toList.drop pos).take n) := HEnc.out (by omega)
      have HNf : Hid (34 :: qbody s.data.toList = (acc ++ ((s.data.toList.drop pos).take n)) ++ qbody (s.data.toList.drop (pos + n))) := by
        show _ = _
        rw [HAcc.out, HStep.out, HPc.out]; simp
      have t1 : ((r : Int) == 34) = false := by rw [beq_eq_false_iff_ne]; omega
      have t2 : ((r : Int) == 92) = false := by rw [beq_eq_false_iff_ne]; omega
      have t3 : ((r : Int) == 10) = false := by rw [beq_eq_false_iff_ne]; omega
      have t4 : decide ((r : Int) < 32) = false := by simp; omega
      have t5 : ((r : Int) == 127) = false := by rw [beq_eq_false_iff_ne]; omega
      have t6 : ((r : Int) == 65533) = false := by rw [beq_eq_false_iff_ne]; omega
      have HRn : Hid (Calls Tryd.prog 30 #[.pointer (some ⟨w.heap.size, 0, none⟩), .int .i32 (r : Int)] W fun e w' => (∃ n, e = .returned (.tuple #[.int .i64 n, .nilIface])) ∧ QS w w' w.heap.size w1.heap.size (.stringIter s (pos + n)) (acc ++ (s.data.toList.drop pos).take n)) := by
        have h9 := HQm.out.rune r (by omega) (by omega)
        rw [HEn.out] at h9
        exact h9
      go_wp2_with fail
      refine HRn.out.mono ?_
      rintro e w3 ⟨⟨nn, rfl⟩, hq⟩
      have HQf : Hid (QS w w3 w.heap.size w1.heap.size (.stringIter s (pos + n)) (acc ++ (s.data.toList.drop pos).take n)) := hq
      clear hq
      go_wp2
      go_roundw
      case rel => exact ⟨pos + n, _, HQf.out, by omega, HNf.out⟩
      case measure => exact HMf.out _ HQf.out
    · obtain rfl : pos = s.size := by omega
      have HAl : Hid (34 :: qbody s.data.toList = acc) := by
        show _ = _
        have h1 := HAcc.out
        rw [List.drop_of_length_le (by simp)] at h1
        simpa [qbody_nil] using h1
      have hnx : ∀ ty, (Instr.next (.pointer (some ⟨w1.heap.size, 0, none⟩)) true ty).run Tryd.prog wr = .ok (.tuple #[.bool false]) wr := fun ty => Lib.run_next_end_at wr w1.heap.size s s.size ty HQ.out.it (by omega)
      go_wp2_with fail
      refine (HQ.out.byte 34 (by omega)).mono ?_
      rintro e w2 ⟨rfl, hq⟩
      have HQ2 : Hid (QS w w2 w.heap.size w1.heap.size (.stringIter s s.size) (acc ++ [34])) := hq
      clear hq
      have HTx : Hid (Calls Tryd.prog 34 #[.pointer (some ⟨w.heap.size, 0, none⟩)] w2 fun e w' => e = .returned (.string ⟨(quoteL s.data.toList).toArray⟩) ∧ Below w.heap.size w w') := by
        have h9 := HQ2.out.text
        rw [← HAl.out] at h9
        exact h9
      obtain ⟨qs, hqs⟩ : ∃ qs : ByteArray, (⟨(quoteL s.data.toList).toArray⟩ : ByteArray) = qs := ⟨_, rfl⟩
      have HE : Hid ((⟨(quoteL s.data.toList).toArray⟩ : ByteArray) = qs) := hqs
      rw [hqs] at HTx
      clear hqs
      go_wp2_with fail
      refine HTx.out.mono ?_
      rintro e w3 ⟨rfl, hb3⟩
      have HB3 : Hid (Below w.heap.size w w3) := hb3
      clear hb3
      go_wp2
      go_ret
      exact ⟨by rw [HE.out]; rfl, HB3.out⟩
end Go.Proofs.YtpkobgnbjmefnabDoor
