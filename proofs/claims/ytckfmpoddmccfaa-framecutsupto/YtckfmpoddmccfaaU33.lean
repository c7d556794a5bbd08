import Derived.Test.YtckfmpoddmccfaaU26
import Derived.Test.YtckfmpoddmccfaaU32
namespace Go.Proofs.Ytckfmpoddmccfaa
open Go.RowKit
set_option linter.unusedVariables false
set_option linter.unusedSimpArgs false
set_option maxRecDepth 100000
theorem or_join32 (v b : Nat) (hv : v < 16777216) (hb : b < 256) : bits .or .u32 ((v : Int) * 256) (b : Int) = ((v * 256 + b : Nat) : Int) := by
  have h1 := u32_or_nat (v * 256) b (by omega) (by omega)
  rw [nat_join 8 (v * 256) b (by omega) (by omega)] at h1
  rw [← h1]; simp
set_option maxHeartbeats 1000000 in
theorem number_some (g off cap n : Nat) (m : List Nat) (w : World) (hn : n ≤ 4) (HM : Hid (m.length = n)) (H256 : Hid (∀ x ∈ m, x < 256)) (HC : Hid (∀ k, k < n → w.cell? ⟨g, off + k, none⟩ = some (.int .u8 ((m[k]?.getD 0 : Nat) : Int)))) :
    Calls Try.prog 111 #[.slice (some ⟨g, off, none⟩) n cap] w fun e w' => e = .returned (.int .u32 (valB m : Nat)) ∧ ∃ q, w' = w.drewN q := by
  go_enter Try.func111, Try.ntmps111
  go_wp2
  go_loopw [3, 8] (fun v i wr => ∃ k q : Nat, k ≤ n ∧ i = .int .i64 k ∧ v = .int .u32 (valB (m.take k) : Nat) ∧ wr = w.drewN q) (fun _ i _ => n - (intOf i).toNat)
  case atStart => exact ⟨0, 0, Nat.zero_le _, rfl, rfl, rfl⟩
  case round =>
    obtain ⟨k, q, hk, rfl, rfl, rfl⟩ := hrel
    by_cases hlt : k < n
    · have hc := HC.out k hlt
      have hx : m[k]?.getD 0 < 256 := getD_lt m H256.out _
      have hv : valB (m.take k) < 256 ^ k := by
        have := valB_lt (m.take k) (fun x hx => H256.out x (List.mem_of_mem_take hx))
        have hln := HM.out
        rwa [List.length_take, Nat.min_eq_left (by omega)] at this
      have hv7 : valB (m.take k) < 16777216 := Nat.lt_of_lt_of_le hv (Nat.pow_le_pow_right (n := 256) (by decide) (by omega : k ≤ 3))
      have HS : Hid (valB (m.take (k + 1)) = valB (m.take k) * 256 + m[k]?.getD 0) := by
        have hln := HM.out
        show valB (m.take (k + 1)) = _
        rw [List.take_succ_eq_append_getElem (by omega), valB_snoc]
        simp [show k < m.length by omega]
      generalize valB (m.take k) = v at *
      generalize m[k]?.getD 0 = x at *
      have hor := or_join32 v x hv7 hx
      clear hv
      go_wp2
      go_roundw
      case rel => exact ⟨k + 1, q, by omega, by go_num, congrArg (Value.int .u32) (by rw [HS.out]; omega), rfl⟩
      case measure => simp [intOf]; omega
    · have ek : n = k := by omega
      subst ek
      have HE : Hid (m.take n = m) := by
        have := HM.out
        show m.take n = m
        exact List.take_of_length_le (by omega)
      go_wp2
      go_ret
      exact ⟨by rw [HE.out]; rfl, q, rfl⟩
/-- the first four bytes, as a number -/
theorem number_four {w : World} {b off cap : Nat} {l : List Nat} (h : CRow w (some ⟨b, off, none⟩) cap l) (h4 : 4 ≤ l.length) :
    Calls Try.prog 111 #[.slice (some ⟨b, off, none⟩) 4 cap] w fun e w' => e = .returned (.int .u32 (vl l 0 4 : Nat)) ∧ ∃ q, w' = w.drewN q := by
  have hne : l ≠ [] := by intro e; rw [e] at h4; simp at h4
  obtain ⟨b', off', e, hc⟩ := h.row.at_ hne
  simp only [Option.some.injEq, Addr.mk.injEq, and_true] at e
  obtain ⟨rfl, rfl⟩ := e
  have := number_some b off cap 4 (l.take 4) w (Nat.le_refl _) (show (l.take 4).length = 4 by rw [List.length_take]; omega) (show ∀ x ∈ l.take 4, x < 256 from fun x hx => h.row.lt x (List.mem_of_mem_take hx)) (show ∀ k, k < 4 → _ from fun k hk => by
    rw [hc k (by omega)]
    simp [bv, List.getElem?_take, hk, show k < l.length by omega])
  refine Calls.mono this ?_
  rintro e W ⟨rfl, hq⟩
  exact ⟨by simp [vl], hq⟩
end Go.Proofs.Ytckfmpoddmccfaa
namespace Go.Proofs.Ytckfmpoddmccfaa
open Go.RowKit
set_option linter.unusedVariables false
set_option linter.unusedSimpArgs false
set_option maxRecDepth 100000
abbrev ansZ : Bool × Nat × Nat × Nat × Nat × Nat × Nat × List Nat := (false, 0, 0, 0, 0, 0, 0, [])
/-- what the bytes of an answer say -/
def ansD (most : Nat) (ext : Bool) (l : List Nat) : (Bool × Nat × Nat × Nat × Nat × Nat × Nat × List Nat) × Nat × Nat :=
  if l.length < 4 then (ansZ, 4, 10)
  else if vl l 0 4 = cm ext then ((true, 0, 0, (chkD most ext l).1.1, (chkD most ext l).1.2.1, (chkD most ext l).1.2.2.1, (chkD most ext l).1.2.2.2.1, (chkD most ext l).1.2.2.2.2), (chkD most ext l).2)
  else if ext = false ∧ vl l 0 4 = mSimple then ((false, (simD l).1.1, (simD l).1.2, 0, 0, 0, 0, []), (simD l).2)
  else (ansZ, 0, 80)
theorem ansD_n (most : Nat) (ext : Bool) (l : List Nat) (h : (ansD most ext l).2.2 = 0) : (ansD most ext l).2.1 ≤ l.length := by
  unfold ansD at h ⊢
  by_cases h0 : l.length < 4
  · rw [if_pos h0] at h; simp at h
  rw [if_neg h0] at h ⊢
  by_cases h1 : vl l 0 4 = cm ext
  · rw [if_pos h1] at h ⊢; exact chkD_n most ext l h
  rw [if_neg h1] at h ⊢
  by_cases h2 : ext = false ∧ vl l 0 4 = mSimple
  · rw [if_pos h2] at h ⊢; exact simD_n l h
  rw [if_neg h2] at h; simp at h
def AnsP (D : (Bool × Nat × Nat × Nat × Nat × Nat × Nat × List Nat) × Nat × Nat) (w : World) (e : Ending) (w' : World) : Prop :=
  ∃ (st : Bool) (sc sk f t c o : Nat) (d : List Nat) (n er : Nat) (ao2 : Option Addr) (cap2 : Nat), e = .returned (.tuple #[.agg #[.bool st, .int .u32 (sc : Int), .int .u64 (sk : Int), .int .u16 (f : Int), .int .u16 (t : Int), .int .u64 (c : Int), .int .u64 (o : Int), .slice ao2 d.length cap2], .int .i64 (n : Int), .int .i64 (er : Int)]) ∧ D = ((st, sc, sk, f, t, c, o, d), n, er) ∧ Row w w' ao2 cap2 d
theorem Bx.drewN {w W : World} {bs : List (Nat × Array Value × TypeId)} {dv : Value} {d : List Nat} (h : Bx w W bs dv d) (q : Nat) : Bx w (W.drewN q) bs dv d := h.later ⟨rfl, rfl, rfl, Nat.le_refl _, fun _ _ => rfl⟩
theorem Below.drewQ (w : World) (q : Nat) : Below w.heap.size w (w.drewN q) := ⟨rfl, rfl, rfl, Nat.le_refl _, fun _ _ => rfl⟩
set_option maxHeartbeats 2000000 in
theorem decAnswer_short (ao : Option Addr) (cap n : Nat) (l : List Nat) (most : Nat) (ext : Bool) (w : World) (hl : l.length = n) (h4 : n < 4) :
    Calls Try.prog 81 #[.slice ao n cap, .int .u32 (most : Int), .bool ext] w fun e w' => AnsP (ansD most ext l) w e w' := by
  have h5 : 103 ≠ 5 := by decide
  have HE : Hid (ansD most ext l = (ansZ, 4, 10)) := by show ansD most ext l = _; unfold ansD; rw [if_pos (by omega)]
  have H3 : Hid _ := (Bx.start w).alloc #[.bool false, .int .u32 0, .int .u64 0, .int .u16 0, .int .u16 0, .int .u64 0, .int .u64 0, Value.slice none 0 0] 103 h5
  have t1 : (n : Int) < 4 := by omega
  have t2 : decide ((n : Int) < 4) = true := by simpa using t1
  clear hl
  go_enter Try.func81, Try.ntmps81
  go_wp2
  exact bodyPost_ret (results_cell_tmp2 rfl _ _ w.heap.size 103 #[.bool false, .int .u32 0, .int .u64 0, .int .u16 0, .int .u16 0, .int .u64 0, .int .u64 0, Value.slice none 0 0] (0, 0) _ rfl (H3.out.box _ (.head _)).1 Try.underlying103 rfl infoAns) rfl ⟨false, 0, 0, 0, 0, 0, 0, [], 4, 10, none, 0, rfl, HE.out, H3.out.row, by simp, H3.out.bel⟩
end Go.Proofs.Ytckfmpoddmccfaa
namespace Go.Proofs.Ytckfmpoddmccfaa
open Go.RowKit
set_option linter.unusedVariables false
set_option linter.unusedSimpArgs false
set_option maxRecDepth 100000
set_option maxHeartbeats 8000000 in
theorem decAnswer_chunk1 (b off cap : Nat) (l : List Nat) (most : Nat) (w : World) (h : CRow w (some ⟨b, off, none⟩) cap l) (hm : most < 4294967296) (h4 : 4 ≤ l.length) (hmag : vl l 0 4 = cm true) :
    Calls Try.prog 81 #[.slice (some ⟨b, off, none⟩) l.length cap, .int .u32 (most : Int), .bool true] w fun e w' => AnsP (ansD most true l) w e w' := by
  have h5 : 103 ≠ 5 := by decide
  have h6 : 64 ≠ 5 := by decide
  have h7 : 66 ≠ 5 := by decide
  have HE : Hid (ansD most true l = ((true, 0, 0, (chkD most true l).1.1, (chkD most true l).1.2.1, (chkD most true l).1.2.2.1, (chkD most true l).1.2.2.2.1, (chkD most true l).1.2.2.2.2), (chkD most true l).2)) := by show ansD most true l = _; unfold ansD; rw [if_neg (by omega), if_pos hmag]
  have hc1 := h.cap1
  have hc2 := h.cap2
  obtain ⟨W0, hW0⟩ : ∃ W0, W0 = w.alloc (.cells #[.bool false, .int .u32 0, .int .u64 0, .int .u16 0, .int .u16 0, .int .u64 0, .int .u64 0, Value.slice none 0 0] 103) := ⟨_, rfl⟩
  have hB0 := (Bx.start w).alloc #[.bool false, .int .u32 0, .int .u64 0, .int .u16 0, .int .u16 0, .int .u64 0, .int .u64 0, Value.slice none 0 0] 103 h5
  rw [← hW0] at hB0
  have H0 : Hid _ := hB0
  have HN : Hid (Calls Try.prog 111 #[.slice (some ⟨b, off, none⟩) 4 cap] W0 fun e w' => e = .returned (.int .u32 (vl l 0 4 : Nat)) ∧ ∃ q, w' = W0.drewN q) := number_four (h.later hB0.bel) h4
  have HC : Hid (∀ q, CRow (W0.drewN q) (some ⟨b, off, none⟩) cap l) := fun q => (h.later hB0.bel).later (Below.drewQ _ _)
  rw [show vl l 0 4 = 1854547852 from hmag] at HN
  obtain ⟨ln, hln⟩ : ∃ ln, l.length = ln := ⟨_, rfl⟩
  have t1 : ¬ ((ln : Int) < 4) := by omega
  have t2 : decide ((ln : Int) < 4) = false := by simpa using t1
  rw [hln] at hc1
  rw [hln]
  have hln4 : 4 ≤ ln := by omega
  have c4 : (4 : Int) ≤ (cap : Int) := by omega
  have c5 : 4 ≤ cap := by omega
  clear hB0 h
  go_enter Try.func81, Try.ntmps81
  go_wp2_with fail
  rw [← hW0]
  clear hW0
  refine HN.out.mono ?_
  rintro e W1 ⟨rfl, q, rfl⟩
  have H1 : Hid _ := H0.out.drewN q
  have HC1 : Hid _ := HC.out q
  clear HN H0 HC
  generalize W0.drewN q = W1 at *
  have HD : Hid _ := decChunkA (some ⟨b, off, none⟩) cap l most true W1 HC1.out hm
  rw [hln] at HD
  go_wp2_with fail
  refine Calls.mono HD.out ?_
  rintro e W2 ⟨f, t, c, o, d, n, er, ao2, cap2, rfl, hD, hr⟩
  have HDe : Hid (chkD most true l = ((f, t, c, o, d), n, er)) := hD
  have HR : Hid (∀ x ∈ d, x < 256) := hr.lt
  have H2 : Hid _ := (H1.out.told hr).alloc #[.int .u16 (f : Int), .int .u16 (t : Int), .int .u64 (c : Int), .int .u64 (o : Int), .slice ao2 d.length cap2] 64 h6
  clear H1 HD hD hr HC1
  obtain ⟨r0, f0⟩ := H2.out.c (.tail _ (.head _)) 0
  obtain ⟨r1, f1⟩ := H2.out.c (.tail _ (.head _)) 1
  obtain ⟨r2, f2⟩ := H2.out.c (.tail _ (.head _)) 2
  obtain ⟨r3, f3⟩ := H2.out.c (.tail _ (.head _)) 3
  obtain ⟨r4, f4⟩ := H2.out.c (.tail _ (.head _)) 4
  obtain ⟨r5, f5⟩ := H2.out.c (.tail _ (.head _)) 5
  obtain ⟨r6, f6⟩ := H2.out.c (.tail _ (.head _)) 6
  obtain ⟨r7, f7⟩ := H2.out.c (.tail _ (.head _)) 7
  simp at r0 r1 r2 r3 r4 r5 r6 r7
  obtain ⟨s0, g0⟩ := H2.out.c (.head _) 0
  obtain ⟨s1, g1⟩ := H2.out.c (.head _) 1
  obtain ⟨s2, g2⟩ := H2.out.c (.head _) 2
  obtain ⟨s3, g3⟩ := H2.out.c (.head _) 3
  obtain ⟨s4, g4⟩ := H2.out.c (.head _) 4
  simp at s0 s1 s2 s3 s4
  have H3 : Hid _ := (Bx.put (pre := [_]) (Bx.put (pre := [_]) (Bx.put (pre := [_]) (Bx.put (pre := [_]) (Bx.put (pre := [_]) (Bx.put (pre := [_]) (Bx.put (pre := [_]) (Bx.put (pre := [_]) H2.out 0 (.bool true) (cs' := #[.bool true, .int .u32 0, .int .u64 0, .int .u16 0, .int .u16 0, .int .u64 0, .int .u64 0, Value.slice none 0 0]) rfl) 1 (.int .u32 0) (cs' := #[.bool true, .int .u32 0, .int .u64 0, .int .u16 0, .int .u16 0, .int .u64 0, .int .u64 0, Value.slice none 0 0]) rfl) 2 (.int .u64 0) (cs' := #[.bool true, .int .u32 0, .int .u64 0, .int .u16 0, .int .u16 0, .int .u64 0, .int .u64 0, Value.slice none 0 0]) rfl) 3 (.int .u16 (f : Int)) (cs' := #[.bool true, .int .u32 0, .int .u64 0, .int .u16 (f : Int), .int .u16 0, .int .u64 0, .int .u64 0, Value.slice none 0 0]) rfl) 4 (.int .u16 (t : Int)) (cs' := #[.bool true, .int .u32 0, .int .u64 0, .int .u16 (f : Int), .int .u16 (t : Int), .int .u64 0, .int .u64 0, Value.slice none 0 0]) rfl) 5 (.int .u64 (c : Int)) (cs' := #[.bool true, .int .u32 0, .int .u64 0, .int .u16 (f : Int), .int .u16 (t : Int), .int .u64 (c : Int), .int .u64 0, Value.slice none 0 0]) rfl) 6 (.int .u64 (o : Int)) (cs' := #[.bool true, .int .u32 0, .int .u64 0, .int .u16 (f : Int), .int .u16 (t : Int), .int .u64 (c : Int), .int .u64 (o : Int), Value.slice none 0 0]) rfl) 7 (.slice ao2 d.length cap2) (cs' := #[.bool true, .int .u32 0, .int .u64 0, .int .u16 (f : Int), .int .u16 (t : Int), .int .u64 (c : Int), .int .u64 (o : Int), .slice ao2 d.length cap2]) rfl)
  clear H2
  go_wp2
  exact bodyPost_ret (results_cell_tmp2 rfl _ _ w.heap.size 103 #[.bool true, .int .u32 0, .int .u64 0, .int .u16 (f : Int), .int .u16 (t : Int), .int .u64 (c : Int), .int .u64 (o : Int), .slice ao2 d.length cap2] (0, 0) _ rfl (H3.out.box _ (.tail _ (.head _))).1 Try.underlying103 rfl infoAns) rfl ⟨true, 0, 0, f, t, c, o, d, n, er, ao2, cap2, rfl, by rw [HE.out, HDe.out], H3.out.row, HR.out, H3.out.bel⟩
end Go.Proofs.Ytckfmpoddmccfaa
namespace Go.Proofs.Ytckfmpoddmccfaa
open Go.RowKit
set_option linter.unusedVariables false
set_option linter.unusedSimpArgs false
set_option maxRecDepth 100000
set_option maxHeartbeats 8000000 in
theorem decAnswer_simple (b off cap : Nat) (l : List Nat) (most : Nat) (w : World) (h : CRow w (some ⟨b, off, none⟩) cap l) (hm : most < 4294967296) (h4 : 4 ≤ l.length) (hmag : vl l 0 4 = mSimple) :
    Calls Try.prog 81 #[.slice (some ⟨b, off, none⟩) l.length cap, .int .u32 (most : Int), .bool false] w fun e w' => AnsP (ansD most false l) w e w' := by
  have h5 : 103 ≠ 5 := by decide
  have h6 : 64 ≠ 5 := by decide
  have h7 : 66 ≠ 5 := by decide
  have HE : Hid (ansD most false l = ((false, (simD l).1.1, (simD l).1.2, 0, 0, 0, 0, []), (simD l).2)) := by show ansD most false l = _; unfold ansD; rw [if_neg (by omega), if_neg (by rw [hmag]; decide), if_pos ⟨rfl, hmag⟩]
  have hc1 := h.cap1
  have hc2 := h.cap2
  obtain ⟨W0, hW0⟩ : ∃ W0, W0 = w.alloc (.cells #[.bool false, .int .u32 0, .int .u64 0, .int .u16 0, .int .u16 0, .int .u64 0, .int .u64 0, Value.slice none 0 0] 103) := ⟨_, rfl⟩
  have hB0 := (Bx.start w).alloc #[.bool false, .int .u32 0, .int .u64 0, .int .u16 0, .int .u16 0, .int .u64 0, .int .u64 0, Value.slice none 0 0] 103 h5
  rw [← hW0] at hB0
  have H0 : Hid _ := hB0
  have HN : Hid (Calls Try.prog 111 #[.slice (some ⟨b, off, none⟩) 4 cap] W0 fun e w' => e = .returned (.int .u32 (vl l 0 4 : Nat)) ∧ ∃ q, w' = W0.drewN q) := number_four (h.later hB0.bel) h4
  have HC : Hid (∀ q, CRow (W0.drewN q) (some ⟨b, off, none⟩) cap l) := fun q => (h.later hB0.bel).later (Below.drewQ _ _)
  rw [show vl l 0 4 = 1732535960 from hmag] at HN
  obtain ⟨ln, hln⟩ : ∃ ln, l.length = ln := ⟨_, rfl⟩
  have t1 : ¬ ((ln : Int) < 4) := by omega
  have t2 : decide ((ln : Int) < 4) = false := by simpa using t1
  rw [hln] at hc1
  rw [hln]
  have hln4 : 4 ≤ ln := by omega
  have c4 : (4 : Int) ≤ (cap : Int) := by omega
  have c5 : 4 ≤ cap := by omega
  clear hB0 h
  go_enter Try.func81, Try.ntmps81
  go_wp2_with fail
  rw [← hW0]
  clear hW0
  refine HN.out.mono ?_
  rintro e W1 ⟨rfl, q, rfl⟩
  have H1 : Hid _ := H0.out.drewN q
  have HC1 : Hid _ := HC.out q
  clear HN H0 HC
  generalize W0.drewN q = W1 at *
  have HD : Hid _ := decSimpleA (some ⟨b, off, none⟩) cap l W1 HC1.out
  rw [hln] at HD
  go_wp2_with fail
  refine Calls.mono HD.out ?_
  rintro e W2 ⟨sc, sk, n, er, rfl, hD, hr⟩
  have HDe : Hid (simD l = ((sc, sk), n, er)) := hD
  have H2 : Hid _ := (H1.out.later hr).alloc #[.int .u32 (sc : Int), .int .u64 (sk : Int)] 66 h7
  clear H1 HD hD hr HC1
  obtain ⟨r0, f0⟩ := H2.out.c (.tail _ (.head _)) 0
  obtain ⟨r1, f1⟩ := H2.out.c (.tail _ (.head _)) 1
  obtain ⟨r2, f2⟩ := H2.out.c (.tail _ (.head _)) 2
  obtain ⟨r3, f3⟩ := H2.out.c (.tail _ (.head _)) 3
  obtain ⟨r4, f4⟩ := H2.out.c (.tail _ (.head _)) 4
  obtain ⟨r5, f5⟩ := H2.out.c (.tail _ (.head _)) 5
  obtain ⟨r6, f6⟩ := H2.out.c (.tail _ (.head _)) 6
  obtain ⟨r7, f7⟩ := H2.out.c (.tail _ (.head _)) 7
  simp at r0 r1 r2 r3 r4 r5 r6 r7
  obtain ⟨s0, g0⟩ := H2.out.c (.head _) 0
  obtain ⟨s1, g1⟩ := H2.out.c (.head _) 1
  simp at s0 s1
  have H3 : Hid _ := (Bx.put (pre := [_]) (Bx.put (pre := [_]) (Bx.put (pre := [_]) (Bx.put (pre := [_]) (Bx.put (pre := [_]) (Bx.put (pre := [_]) (Bx.put (pre := [_]) (Bx.put (pre := [_]) H2.out 0 (.bool false) (cs' := #[.bool false, .int .u32 0, .int .u64 0, .int .u16 0, .int .u16 0, .int .u64 0, .int .u64 0, Value.slice none 0 0]) rfl) 1 (.int .u32 (sc : Int)) (cs' := #[.bool false, .int .u32 (sc : Int), .int .u64 0, .int .u16 0, .int .u16 0, .int .u64 0, .int .u64 0, Value.slice none 0 0]) rfl) 2 (.int .u64 (sk : Int)) (cs' := #[.bool false, .int .u32 (sc : Int), .int .u64 (sk : Int), .int .u16 0, .int .u16 0, .int .u64 0, .int .u64 0, Value.slice none 0 0]) rfl) 3 (.int .u16 0) (cs' := #[.bool false, .int .u32 (sc : Int), .int .u64 (sk : Int), .int .u16 0, .int .u16 0, .int .u64 0, .int .u64 0, Value.slice none 0 0]) rfl) 4 (.int .u16 0) (cs' := #[.bool false, .int .u32 (sc : Int), .int .u64 (sk : Int), .int .u16 0, .int .u16 0, .int .u64 0, .int .u64 0, Value.slice none 0 0]) rfl) 5 (.int .u64 0) (cs' := #[.bool false, .int .u32 (sc : Int), .int .u64 (sk : Int), .int .u16 0, .int .u16 0, .int .u64 0, .int .u64 0, Value.slice none 0 0]) rfl) 6 (.int .u64 0) (cs' := #[.bool false, .int .u32 (sc : Int), .int .u64 (sk : Int), .int .u16 0, .int .u16 0, .int .u64 0, .int .u64 0, Value.slice none 0 0]) rfl) 7 (Value.slice none 0 0) (cs' := #[.bool false, .int .u32 (sc : Int), .int .u64 (sk : Int), .int .u16 0, .int .u16 0, .int .u64 0, .int .u64 0, Value.slice none 0 0]) rfl)
  clear H2
  go_wp2
  exact bodyPost_ret (results_cell_tmp2 rfl _ _ w.heap.size 103 #[.bool false, .int .u32 (sc : Int), .int .u64 (sk : Int), .int .u16 0, .int .u16 0, .int .u64 0, .int .u64 0, Value.slice none 0 0] (0, 0) _ rfl (H3.out.box _ (.tail _ (.head _))).1 Try.underlying103 rfl infoAns) rfl ⟨false, sc, sk, 0, 0, 0, 0, [], n, er, none, 0, rfl, by rw [HE.out, HDe.out], H3.out.row, by simp, H3.out.bel⟩
end Go.Proofs.Ytckfmpoddmccfaa
