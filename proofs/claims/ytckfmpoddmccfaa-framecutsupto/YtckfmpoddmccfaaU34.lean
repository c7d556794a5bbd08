import Derived.Test.YtckfmpoddmccfaaU33
namespace Go.Proofs.Ytckfmpoddmccfaa
open Go.RowKit
set_option linter.unusedVariables false
set_option linter.unusedSimpArgs false
set_option maxRecDepth 100000
set_option maxHeartbeats 8000000 in
theorem decAnswer_chunk0 (b off cap : Nat) (l : List Nat) (most : Nat) (w : World) (h : CRow w (some ⟨b, off, none⟩) cap l) (hm : most < 4294967296) (h4 : 4 ≤ l.length) (hmag : vl l 0 4 = cm false) :
    Calls Try.prog 81 #[.slice (some ⟨b, off, none⟩) l.length cap, .int .u32 (most : Int), .bool false] w fun e w' => AnsP (ansD most false l) w e w' := by
  have h5 : 103 ≠ 5 := by decide
  have h6 : 64 ≠ 5 := by decide
  have h7 : 66 ≠ 5 := by decide
  have HE : Hid (ansD most false l = ((true, 0, 0, (chkD most false l).1.1, (chkD most false l).1.2.1, (chkD most false l).1.2.2.1, (chkD most false l).1.2.2.2.1, (chkD most false l).1.2.2.2.2), (chkD most false l).2)) := by show ansD most false l = _; unfold ansD; rw [if_neg (by omega), if_pos hmag]
  have hc1 := h.cap1
  have hc2 := h.cap2
  obtain ⟨W0, hW0⟩ : ∃ W0, W0 = w.alloc (.cells #[.bool false, .int .u32 0, .int .u64 0, .int .u16 0, .int .u16 0, .int .u64 0, .int .u64 0, Value.slice none 0 0] 103) := ⟨_, rfl⟩
  have hB0 := (Bx.start w).alloc #[.bool false, .int .u32 0, .int .u64 0, .int .u16 0, .int .u16 0, .int .u64 0, .int .u64 0, Value.slice none 0 0] 103 h5
  rw [← hW0] at hB0
  have H0 : Hid _ := hB0
  have HN : Hid (Calls Try.prog 111 #[.slice (some ⟨b, off, none⟩) 4 cap] W0 fun e w' => e = .returned (.int .u32 (vl l 0 4 : Nat)) ∧ ∃ q, w' = W0.drewN q) := number_four (h.later hB0.bel) h4
  have HC : Hid (∀ q, CRow (W0.drewN q) (some ⟨b, off, none⟩) cap l) := fun q => (h.later hB0.bel).later (Below.drewQ _ _)
  rw [show vl l 0 4 = 1720595439 from hmag] at HN
  obtain ⟨ln, hln⟩ : ∃ ln, l.length = ln := ⟨_, rfl⟩
  have t1 : ¬ ((ln : Int) < 4) := by omega
  have t2 : decide ((ln : Int) < 4) = false := by simpa using t1
  rw [hln] at hc1
  rw [hln]
  have hln4 : 4 ≤ ln := by omega
  have c4 : (4 : Int) ≤ (cap : Int) := by omega
  have c5 : 4 ≤ cap := by omega
  clear hB0 h
  go_enter Try.func81, Try.ntmps81
  go_wp2_with fail
  rw [← hW0]
  clear hW0
  refine HN.out.mono ?_
  rintro e W1 ⟨rfl, q, rfl⟩
  have H1 : Hid _ := H0.out.drewN q
  have HC1 : Hid _ := HC.out q
  clear HN H0 HC
  generalize W0.drewN q = W1 at *
  have HD : Hid _ := decChunkA (some ⟨b, off, none⟩) cap l most false W1 HC1.out hm
  rw [hln] at HD
  go_wp2_with fail
  refine Calls.mono HD.out ?_
  rintro e W2 ⟨f, t, c, o, d, n, er, ao2, cap2, rfl, hD, hr⟩
  have HDe : Hid (chkD most false l = ((f, t, c, o, d), n, er)) := hD
  have HR : Hid (∀ x ∈ d, x < 256) := hr.lt
  have H2 : Hid _ := (H1.out.told hr).alloc #[.int .u16 (f : Int), .int .u16 (t : Int), .int .u64 (c : Int), .int .u64 (o : Int), .slice ao2 d.length cap2] 64 h6
  clear H1 HD hD hr HC1
  obtain ⟨r0, f0⟩ := H2.out.c (.tail _ (.head _)) 0
  obtain ⟨r1, f1⟩ := H2.out.c (.tail _ (.head _)) 1
  obtain ⟨r2, f2⟩ := H2.out.c (.tail _ (.head _)) 2
  obtain ⟨r3, f3⟩ := H2.out.c (.tail _ (.head _)) 3
  obtain ⟨r4, f4⟩ := H2.out.c (.tail _ (.head _)) 4
  obtain ⟨r5, f5⟩ := H2.out.c (.tail _ (.head _)) 5
  obtain ⟨r6, f6⟩ := H2.out.c (.tail _ (.head _)) 6
  obtain ⟨r7, f7⟩ := H2.out.c (.tail _ (.head _)) 7
  simp at r0 r1 r2 r3 r4 r5 r6 r7
  obtain ⟨s0, g0⟩ := H2.out.c (.head _) 0
  obtain ⟨s1, g1⟩ := H2.out.c (.head _) 1
  obtain ⟨s2, g2⟩ := H2.out.c (.head _) 2
  obtain ⟨s3, g3⟩ := H2.out.c (.head _) 3
  obtain ⟨s4, g4⟩ := H2.out.c (.head _) 4
  simp at s0 s1 s2 s3 s4
  have H3 : Hid _ := (Bx.put (pre := [_]) (Bx.put (pre := [_]) (Bx.put (pre := [_]) (Bx.put (pre := [_]) (Bx.put (pre := [_]) (Bx.put (pre := [_]) (Bx.put (pre := [_]) (Bx.put (pre := [_]) H2.out 0 (.bool true) (cs' := #[.bool true, .int .u32 0, .int .u64 0, .int .u16 0, .int .u16 0, .int .u64 0, .int .u64 0, Value.slice none 0 0]) rfl) 1 (.int .u32 0) (cs' := #[.bool true, .int .u32 0, .int .u64 0, .int .u16 0, .int .u16 0, .int .u64 0, .int .u64 0, Value.slice none 0 0]) rfl) 2 (.int .u64 0) (cs' := #[.bool true, .int .u32 0, .int .u64 0, .int .u16 0, .int .u16 0, .int .u64 0, .int .u64 0, Value.slice none 0 0]) rfl) 3 (.int .u16 (f : Int)) (cs' := #[.bool true, .int .u32 0, .int .u64 0, .int .u16 (f : Int), .int .u16 0, .int .u64 0, .int .u64 0, Value.slice none 0 0]) rfl) 4 (.int .u16 (t : Int)) (cs' := #[.bool true, .int .u32 0, .int .u64 0, .int .u16 (f : Int), .int .u16 (t : Int), .int .u64 0, .int .u64 0, Value.slice none 0 0]) rfl) 5 (.int .u64 (c : Int)) (cs' := #[.bool true, .int .u32 0, .int .u64 0, .int .u16 (f : Int), .int .u16 (t : Int), .int .u64 (c : Int), .int .u64 0, Value.slice none 0 0]) rfl) 6 (.int .u64 (o : Int)) (cs' := #[.bool true, .int .u32 0, .int .u64 0, .int .u16 (f : Int), .int .u16 (t : Int), .int .u64 (c : Int), .int .u64 (o : Int), Value.slice none 0 0]) rfl) 7 (.slice ao2 d.length cap2) (cs' := #[.bool true, .int .u32 0, .int .u64 0, .int .u16 (f : Int), .int .u16 (t : Int), .int .u64 (c : Int), .int .u64 (o : Int), .slice ao2 d.length cap2]) rfl)
  clear H2
  go_wp2
  exact bodyPost_ret (results_cell_tmp2 rfl _ _ w.heap.size 103 #[.bool true, .int .u32 0, .int .u64 0, .int .u16 (f : Int), .int .u16 (t : Int), .int .u64 (c : Int), .int .u64 (o : Int), .slice ao2 d.length cap2] (0, 0) _ rfl (H3.out.box _ (.tail _ (.head _))).1 Try.underlying103 rfl infoAns) rfl ⟨true, 0, 0, f, t, c, o, d, n, er, ao2, cap2, rfl, by rw [HE.out, HDe.out], H3.out.row, HR.out, H3.out.bel⟩
end Go.Proofs.Ytckfmpoddmccfaa
namespace Go.Proofs.Ytckfmpoddmccfaa
open Go.RowKit
set_option linter.unusedVariables false
set_option linter.unusedSimpArgs false
set_option maxRecDepth 100000
set_option maxHeartbeats 8000000 in
theorem decAnswer_bad1 (b off cap : Nat) (l : List Nat) (most : Nat) (w : World) (h : CRow w (some ⟨b, off, none⟩) cap l) (hm : most < 4294967296) (h4 : 4 ≤ l.length) (hno : ¬ vl l 0 4 = cm true) :
    Calls Try.prog 81 #[.slice (some ⟨b, off, none⟩) l.length cap, .int .u32 (most : Int), .bool true] w fun e w' => AnsP (ansD most true l) w e w' := by
  have h5 : 103 ≠ 5 := by decide
  have h6 : 64 ≠ 5 := by decide
  have h7 : 66 ≠ 5 := by decide
  have HE : Hid (ansD most true l = (ansZ, 0, 80)) := by show ansD most true l = _; unfold ansD; rw [if_neg (by omega), if_neg hno, if_neg (by simp)]
  have hc1 := h.cap1
  have hc2 := h.cap2
  obtain ⟨W0, hW0⟩ : ∃ W0, W0 = w.alloc (.cells #[.bool false, .int .u32 0, .int .u64 0, .int .u16 0, .int .u16 0, .int .u64 0, .int .u64 0, Value.slice none 0 0] 103) := ⟨_, rfl⟩
  have hB0 := (Bx.start w).alloc #[.bool false, .int .u32 0, .int .u64 0, .int .u16 0, .int .u16 0, .int .u64 0, .int .u64 0, Value.slice none 0 0] 103 h5
  rw [← hW0] at hB0
  have H0 : Hid _ := hB0
  have HN : Hid (Calls Try.prog 111 #[.slice (some ⟨b, off, none⟩) 4 cap] W0 fun e w' => e = .returned (.int .u32 (vl l 0 4 : Nat)) ∧ ∃ q, w' = W0.drewN q) := number_four (h.later hB0.bel) h4
  have HC : Hid (∀ q, CRow (W0.drewN q) (some ⟨b, off, none⟩) cap l) := fun q => (h.later hB0.bel).later (Below.drewQ _ _)
  obtain ⟨mg, hmg⟩ : ∃ mg, vl l 0 4 = mg := ⟨_, rfl⟩
  rw [hmg] at HN hno
  have u0 : ¬ ((mg : Int) = 1854547852) := by intro e; exact hno (show mg = 1854547852 by omega)
  have v0 : decide ((mg : Int) = 1854547852) = false := by simpa using u0
  have y0 : ((mg : Int) == 1854547852) = false := by simpa using u0
  obtain ⟨ln, hln⟩ : ∃ ln, l.length = ln := ⟨_, rfl⟩
  have t1 : ¬ ((ln : Int) < 4) := by omega
  have t2 : decide ((ln : Int) < 4) = false := by simpa using t1
  rw [hln] at hc1
  rw [hln]
  have hln4 : 4 ≤ ln := by omega
  have c4 : (4 : Int) ≤ (cap : Int) := by omega
  have c5 : 4 ≤ cap := by omega
  clear hB0 h
  go_enter Try.func81, Try.ntmps81
  go_wp2_with fail
  rw [← hW0]
  clear hW0
  refine HN.out.mono ?_
  rintro e W1 ⟨rfl, q, rfl⟩
  have H1 : Hid _ := H0.out.drewN q
  have HC1 : Hid _ := HC.out q
  clear HN H0 HC
  generalize W0.drewN q = W1 at *
  obtain ⟨r0, f0⟩ := H1.out.c (.head _) 0
  obtain ⟨r1, f1⟩ := H1.out.c (.head _) 1
  obtain ⟨r2, f2⟩ := H1.out.c (.head _) 2
  obtain ⟨r3, f3⟩ := H1.out.c (.head _) 3
  obtain ⟨r4, f4⟩ := H1.out.c (.head _) 4
  obtain ⟨r5, f5⟩ := H1.out.c (.head _) 5
  obtain ⟨r6, f6⟩ := H1.out.c (.head _) 6
  obtain ⟨r7, f7⟩ := H1.out.c (.head _) 7
  simp at r0 r1 r2 r3 r4 r5 r6 r7
  have H3 : Hid _ := (Bx.put (pre := []) (Bx.put (pre := []) (Bx.put (pre := []) (Bx.put (pre := []) (Bx.put (pre := []) (Bx.put (pre := []) (Bx.put (pre := []) (Bx.put (pre := []) H1.out 0 (.bool false) (cs' := #[.bool false, .int .u32 0, .int .u64 0, .int .u16 0, .int .u16 0, .int .u64 0, .int .u64 0, Value.slice none 0 0]) rfl) 1 (.int .u32 0) (cs' := #[.bool false, .int .u32 0, .int .u64 0, .int .u16 0, .int .u16 0, .int .u64 0, .int .u64 0, Value.slice none 0 0]) rfl) 2 (.int .u64 0) (cs' := #[.bool false, .int .u32 0, .int .u64 0, .int .u16 0, .int .u16 0, .int .u64 0, .int .u64 0, Value.slice none 0 0]) rfl) 3 (.int .u16 0) (cs' := #[.bool false, .int .u32 0, .int .u64 0, .int .u16 0, .int .u16 0, .int .u64 0, .int .u64 0, Value.slice none 0 0]) rfl) 4 (.int .u16 0) (cs' := #[.bool false, .int .u32 0, .int .u64 0, .int .u16 0, .int .u16 0, .int .u64 0, .int .u64 0, Value.slice none 0 0]) rfl) 5 (.int .u64 0) (cs' := #[.bool false, .int .u32 0, .int .u64 0, .int .u16 0, .int .u16 0, .int .u64 0, .int .u64 0, Value.slice none 0 0]) rfl) 6 (.int .u64 0) (cs' := #[.bool false, .int .u32 0, .int .u64 0, .int .u16 0, .int .u16 0, .int .u64 0, .int .u64 0, Value.slice none 0 0]) rfl) 7 (Value.slice none 0 0) (cs' := #[.bool false, .int .u32 0, .int .u64 0, .int .u16 0, .int .u16 0, .int .u64 0, .int .u64 0, Value.slice none 0 0]) rfl)
  clear H1
  go_wp2
  exact bodyPost_ret (results_cell_tmp2 rfl _ _ w.heap.size 103 #[.bool false, .int .u32 0, .int .u64 0, .int .u16 0, .int .u16 0, .int .u64 0, .int .u64 0, Value.slice none 0 0] (0, 0) _ rfl (H3.out.box _ (.head _)).1 Try.underlying103 rfl infoAns) rfl ⟨false, 0, 0, 0, 0, 0, 0, [], 0, 80, none, 0, rfl, HE.out, H3.out.row, by simp, H3.out.bel⟩
end Go.Proofs.Ytckfmpoddmccfaa
namespace Go.Proofs.Ytckfmpoddmccfaa
open Go.RowKit
set_option linter.unusedVariables false
set_option linter.unusedSimpArgs false
set_option maxRecDepth 100000
set_option maxHeartbeats 8000000 in
theorem decAnswer_bad0 (b off cap : Nat) (l : List Nat) (most : Nat) (w : World) (h : CRow w (some ⟨b, off, none⟩) cap l) (hm : most < 4294967296) (h4 : 4 ≤ l.length) (hno : ¬ vl l 0 4 = cm false) (hns : ¬ vl l 0 4 = mSimple) :
    Calls Try.prog 81 #[.slice (some ⟨b, off, none⟩) l.length cap, .int .u32 (most : Int), .bool false] w fun e w' => AnsP (ansD most false l) w e w' := by
  have h5 : 103 ≠ 5 := by decide
  have h6 : 64 ≠ 5 := by decide
  have h7 : 66 ≠ 5 := by decide
  have HE : Hid (ansD most false l = (ansZ, 0, 80)) := by show ansD most false l = _; unfold ansD; rw [if_neg (by omega), if_neg hno, if_neg (by simp [hns])]
  have hc1 := h.cap1
  have hc2 := h.cap2
  obtain ⟨W0, hW0⟩ : ∃ W0, W0 = w.alloc (.cells #[.bool false, .int .u32 0, .int .u64 0, .int .u16 0, .int .u16 0, .int .u64 0, .int .u64 0, Value.slice none 0 0] 103) := ⟨_, rfl⟩
  have hB0 := (Bx.start w).alloc #[.bool false, .int .u32 0, .int .u64 0, .int .u16 0, .int .u16 0, .int .u64 0, .int .u64 0, Value.slice none 0 0] 103 h5
  rw [← hW0] at hB0
  have H0 : Hid _ := hB0
  have HN : Hid (Calls Try.prog 111 #[.slice (some ⟨b, off, none⟩) 4 cap] W0 fun e w' => e = .returned (.int .u32 (vl l 0 4 : Nat)) ∧ ∃ q, w' = W0.drewN q) := number_four (h.later hB0.bel) h4
  have HC : Hid (∀ q, CRow (W0.drewN q) (some ⟨b, off, none⟩) cap l) := fun q => (h.later hB0.bel).later (Below.drewQ _ _)
  obtain ⟨mg, hmg⟩ : ∃ mg, vl l 0 4 = mg := ⟨_, rfl⟩
  rw [hmg] at HN hno hns
  have u0 : ¬ ((mg : Int) = 1720595439) := by intro e; exact hno (show mg = 1720595439 by omega)
  have v0 : decide ((mg : Int) = 1720595439) = false := by simpa using u0
  have y0 : ((mg : Int) == 1720595439) = false := by simpa using u0
  have u1 : ¬ ((mg : Int) = 1732535960) := by intro e; exact hns (show mg = 1732535960 by omega)
  have v1 : decide ((mg : Int) = 1732535960) = false := by simpa using u1
  have y1 : ((mg : Int) == 1732535960) = false := by simpa using u1
  obtain ⟨ln, hln⟩ : ∃ ln, l.length = ln := ⟨_, rfl⟩
  have t1 : ¬ ((ln : Int) < 4) := by omega
  have t2 : decide ((ln : Int) < 4) = false := by simpa using t1
  rw [hln] at hc1
  rw [hln]
  have hln4 : 4 ≤ ln := by omega
  have c4 : (4 : Int) ≤ (cap : Int) := by omega
  have c5 : 4 ≤ cap := by omega
  clear hB0 h
  go_enter Try.func81, Try.ntmps81
  go_wp2_with fail
  rw [← hW0]
  clear hW0
  refine HN.out.mono ?_
  rintro e W1 ⟨rfl, q, rfl⟩
  have H1 : Hid _ := H0.out.drewN q
  have HC1 : Hid _ := HC.out q
  clear HN H0 HC
  generalize W0.drewN q = W1 at *
  obtain ⟨r0, f0⟩ := H1.out.c (.head _) 0
  obtain ⟨r1, f1⟩ := H1.out.c (.head _) 1
  obtain ⟨r2, f2⟩ := H1.out.c (.head _) 2
  obtain ⟨r3, f3⟩ := H1.out.c (.head _) 3
  obtain ⟨r4, f4⟩ := H1.out.c (.head _) 4
  obtain ⟨r5, f5⟩ := H1.out.c (.head _) 5
  obtain ⟨r6, f6⟩ := H1.out.c (.head _) 6
  obtain ⟨r7, f7⟩ := H1.out.c (.head _) 7
  simp at r0 r1 r2 r3 r4 r5 r6 r7
  have H3 : Hid _ := (Bx.put (pre := []) (Bx.put (pre := []) (Bx.put (pre := []) (Bx.put (pre := []) (Bx.put (pre := []) (Bx.put (pre := []) (Bx.put (pre := []) (Bx.put (pre := []) H1.out 0 (.bool false) (cs' := #[.bool false, .int .u32 0, .int .u64 0, .int .u16 0, .int .u16 0, .int .u64 0, .int .u64 0, Value.slice none 0 0]) rfl) 1 (.int .u32 0) (cs' := #[.bool false, .int .u32 0, .int .u64 0, .int .u16 0, .int .u16 0, .int .u64 0, .int .u64 0, Value.slice none 0 0]) rfl) 2 (.int .u64 0) (cs' := #[.bool false, .int .u32 0, .int .u64 0, .int .u16 0, .int .u16 0, .int .u64 0, .int .u64 0, Value.slice none 0 0]) rfl) 3 (.int .u16 0) (cs' := #[.bool false, .int .u32 0, .int .u64 0, .int .u16 0, .int .u16 0, .int .u64 0, .int .u64 0, Value.slice none 0 0]) rfl) 4 (.int .u16 0) (cs' := #[.bool false, .int .u32 0, .int .u64 0, .int .u16 0, .int .u16 0, .int .u64 0, .int .u64 0, Value.slice none 0 0]) rfl) 5 (.int .u64 0) (cs' := #[.bool false, .int .u32 0, .int .u64 0, .int .u16 0, .int .u16 0, .int .u64 0, .int .u64 0, Value.slice none 0 0]) rfl) 6 (.int .u64 0) (cs' := #[.bool false, .int .u32 0, .int .u64 0, .int .u16 0, .int .u16 0, .int .u64 0, .int .u64 0, Value.slice none 0 0]) rfl) 7 (Value.slice none 0 0) (cs' := #[.bool false, .int .u32 0, .int .u64 0, .int .u16 0, .int .u16 0, .int .u64 0, .int .u64 0, Value.slice none 0 0]) rfl)
  clear H1
  go_wp2
  exact bodyPost_ret (results_cell_tmp2 rfl _ _ w.heap.size 103 #[.bool false, .int .u32 0, .int .u64 0, .int .u16 0, .int .u16 0, .int .u64 0, .int .u64 0, Value.slice none 0 0] (0, 0) _ rfl (H3.out.box _ (.head _)).1 Try.underlying103 rfl infoAns) rfl ⟨false, 0, 0, 0, 0, 0, 0, [], 0, 80, none, 0, rfl, HE.out, H3.out.row, by simp, H3.out.bel⟩
end Go.Proofs.Ytckfmpoddmccfaa
