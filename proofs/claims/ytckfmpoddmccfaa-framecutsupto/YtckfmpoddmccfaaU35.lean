import Derived.Test.YtckfmpoddmccfaaU33
import Derived.Test.YtckfmpoddmccfaaU34
namespace Go.Proofs.Ytckfmpoddmccfaa
open Go.RowKit
set_option linter.unusedVariables false
set_option maxRecDepth 100000
theorem decAnswerA (ao : Option Addr) (cap : Nat) (l : List Nat) (most : Nat) (ext : Bool) (w : World) (h : CRow w ao cap l) (hm : most < 4294967296) :
    Calls Try.prog 81 #[.slice ao l.length cap, .int .u32 (most : Int), .bool ext] w fun e w' => AnsP (ansD most ext l) w e w' := by
  by_cases h4 : l.length < 4
  · exact decAnswer_short ao cap l.length l most ext w rfl h4
  have hne : l ≠ [] := by intro e; rw [e] at h4; simp at h4
  obtain ⟨b, off, rfl, _⟩ := h.row.at_ hne
  cases ext with
  | true =>
    by_cases hmag : vl l 0 4 = cm true
    · exact decAnswer_chunk1 b off cap l most w h hm (by omega) hmag
    · exact decAnswer_bad1 b off cap l most w h hm (by omega) hmag
  | false =>
    by_cases hmag : vl l 0 4 = cm false
    · exact decAnswer_chunk0 b off cap l most w h hm (by omega) hmag
    by_cases hs : vl l 0 4 = mSimple
    · exact decAnswer_simple b off cap l most w h hm (by omega) hs
    · exact decAnswer_bad0 b off cap l most w h hm (by omega) hmag hs
end Go.Proofs.Ytckfmpoddmccfaa
namespace Go.Proofs.Ytckfmpoddmccfaa
open Go.RowKit
set_option linter.unusedVariables false
set_option linter.unusedSimpArgs false
set_option maxRecDepth 100000
set_option maxHeartbeats 4000000 in
theorem answer1 (ao : Option Addr) (cap : Nat) (l : List Nat) (most : Nat) (ext : Bool) (pmost pext : Nat) (w : World) (h : CRow w ao cap l) (hm : most < 4294967296) (hpmost : w.cell? ⟨pmost, 0, none⟩ = some (.int .u32 (most : Int))) (hpext : w.cell? ⟨pext, 0, none⟩ = some (.bool ext)) :
    Calls Try.prog 80 #[.slice ao l.length cap, .pointer (some ⟨pmost, 0, none⟩), .pointer (some ⟨pext, 0, none⟩)] w fun e w' => ∃ (st : Bool) (sc : Nat) (sk : Nat) (f : Nat) (t : Nat) (c : Nat) (o : Nat) (d : List Nat) (n er : Nat) (ao2 : Option Addr) (cap2 : Nat), e = .returned (.tuple #[.agg #[.bool st, .int .u32 (sc : Int), .int .u64 (sk : Int), .int .u16 (f : Int), .int .u16 (t : Int), .int .u64 (c : Int), .int .u64 (o : Int), .slice ao2 d.length cap2], .int .i64 (n : Int), .int .i64 (er : Int)]) ∧ ansD most ext l = ((st, sc, sk, f, t, c, o, d), n, er) ∧ Row w w' ao2 cap2 d := by
  have h5 : 103 ≠ 5 := by decide
  obtain ⟨W0, hW0⟩ : ∃ W0, W0 = w.alloc (.cells #[.bool false, .int .u32 0, .int .u64 0, .int .u16 0, .int .u16 0, .int .u64 0, .int .u64 0, Value.slice none 0 0] 103) := ⟨_, rfl⟩
  have hB0 := (Bx.start w).alloc #[.bool false, .int .u32 0, .int .u64 0, .int .u16 0, .int .u16 0, .int .u64 0, .int .u64 0, Value.slice none 0 0] 103 h5
  rw [← hW0] at hB0
  have H0 : Hid _ := hB0
  have hqmost : W0.cell? ⟨pmost, 0, none⟩ = some (.int .u32 (most : Int)) := cell_later hB0.bel hpmost
  have hrmost := hqmost
  rw [hW0] at hrmost
  have hqext : W0.cell? ⟨pext, 0, none⟩ = some (.bool ext) := cell_later hB0.bel hpext
  have hrext := hqext
  rw [hW0] at hrext
  have HD : Hid (Calls Try.prog 81 #[.slice ao l.length cap, .int .u32 (most : Int), .bool ext] W0 fun e w' => ∃ (st : Bool) (sc : Nat) (sk : Nat) (f : Nat) (t : Nat) (c : Nat) (o : Nat) (d : List Nat) (n er : Nat) (ao2 : Option Addr) (cap2 : Nat), e = .returned (.tuple #[.agg #[.bool st, .int .u32 (sc : Int), .int .u64 (sk : Int), .int .u16 (f : Int), .int .u16 (t : Int), .int .u64 (c : Int), .int .u64 (o : Int), .slice ao2 d.length cap2], .int .i64 (n : Int), .int .i64 (er : Int)]) ∧ ansD most ext l = ((st, sc, sk, f, t, c, o, d), n, er) ∧ Row W0 w' ao2 cap2 d) := decAnswerA ao cap l most ext W0 (h.later hB0.bel) hm
  obtain ⟨ln, hln⟩ : ∃ ln, l.length = ln := ⟨_, rfl⟩
  rw [hln] at HD
  rw [hln]
  clear hB0 h
  go_enter Try.func80, Try.ntmps80
  go_wp2_with fail
  rw [← hW0]
  clear hW0 hrmost hrext
  refine HD.out.mono ?_
  rintro e W1 ⟨st, sc, sk, f, t, c, o, d, n, er, ao2, cap2, rfl, hD, hr⟩
  have HDe : Hid (ansD most ext l = ((st, sc, sk, f, t, c, o, d), n, er)) := hD
  have HR : Hid (∀ x ∈ d, x < 256) := hr.lt
  have H2 : Hid _ := H0.out.told hr
  clear H0 HD hD hr hqmost hpmost hqext hpext
  obtain ⟨r0, f0⟩ := H2.out.c (.head _) 0
  obtain ⟨r1, f1⟩ := H2.out.c (.head _) 1
  obtain ⟨r2, f2⟩ := H2.out.c (.head _) 2
  obtain ⟨r3, f3⟩ := H2.out.c (.head _) 3
  obtain ⟨r4, f4⟩ := H2.out.c (.head _) 4
  obtain ⟨r5, f5⟩ := H2.out.c (.head _) 5
  obtain ⟨r6, f6⟩ := H2.out.c (.head _) 6
  obtain ⟨r7, f7⟩ := H2.out.c (.head _) 7
  simp at r0 r1 r2 r3 r4 r5 r6 r7
  have H3 : Hid _ := (Bx.put (pre := []) (Bx.put (pre := []) (Bx.put (pre := []) (Bx.put (pre := []) (Bx.put (pre := []) (Bx.put (pre := []) (Bx.put (pre := []) (Bx.put (pre := []) H2.out 0 (.bool st) (cs' := #[.bool st, .int .u32 0, .int .u64 0, .int .u16 0, .int .u16 0, .int .u64 0, .int .u64 0, Value.slice none 0 0]) rfl) 1 (.int .u32 (sc : Int)) (cs' := #[.bool st, .int .u32 (sc : Int), .int .u64 0, .int .u16 0, .int .u16 0, .int .u64 0, .int .u64 0, Value.slice none 0 0]) rfl) 2 (.int .u64 (sk : Int)) (cs' := #[.bool st, .int .u32 (sc : Int), .int .u64 (sk : Int), .int .u16 0, .int .u16 0, .int .u64 0, .int .u64 0, Value.slice none 0 0]) rfl) 3 (.int .u16 (f : Int)) (cs' := #[.bool st, .int .u32 (sc : Int), .int .u64 (sk : Int), .int .u16 (f : Int), .int .u16 0, .int .u64 0, .int .u64 0, Value.slice none 0 0]) rfl) 4 (.int .u16 (t : Int)) (cs' := #[.bool st, .int .u32 (sc : Int), .int .u64 (sk : Int), .int .u16 (f : Int), .int .u16 (t : Int), .int .u64 0, .int .u64 0, Value.slice none 0 0]) rfl) 5 (.int .u64 (c : Int)) (cs' := #[.bool st, .int .u32 (sc : Int), .int .u64 (sk : Int), .int .u16 (f : Int), .int .u16 (t : Int), .int .u64 (c : Int), .int .u64 0, Value.slice none 0 0]) rfl) 6 (.int .u64 (o : Int)) (cs' := #[.bool st, .int .u32 (sc : Int), .int .u64 (sk : Int), .int .u16 (f : Int), .int .u16 (t : Int), .int .u64 (c : Int), .int .u64 (o : Int), Value.slice none 0 0]) rfl) 7 (.slice ao2 d.length cap2) (cs' := #[.bool st, .int .u32 (sc : Int), .int .u64 (sk : Int), .int .u16 (f : Int), .int .u16 (t : Int), .int .u64 (c : Int), .int .u64 (o : Int), .slice ao2 d.length cap2]) rfl)
  clear H2
  go_wp2
  exact bodyPost_ret (results_cell_tmp2 rfl _ _ w.heap.size 103 #[.bool st, .int .u32 (sc : Int), .int .u64 (sk : Int), .int .u16 (f : Int), .int .u16 (t : Int), .int .u64 (c : Int), .int .u64 (o : Int), .slice ao2 d.length cap2] (0, 0) _ rfl (H3.out.box _ (.head _)).1 Try.underlying103 rfl infoAns) rfl ⟨st, sc, sk, f, t, c, o, d, n, er, ao2, cap2, rfl, HDe.out, H3.out.row, HR.out, H3.out.bel⟩
set_option maxHeartbeats 8000000 in
theorem answerI {w : World} {B b : Nat} {v : Value} {rm ov : Nat} {l : List Nat} (h : Inb w B b v rm ov l) (most : Nat) (ext : Bool) (hm : most < 4294967296) :
    Calls Try.prog 38 #[.pointer (some ⟨b, 0, none⟩), .int .u32 (most : Int), .bool ext] w fun e w' => CutAnswer w B b v rm ov l (ansD most ext l) e w' := by
  have h5 : 103 ≠ 5 := by decide
  have g0 : 36 ≠ 5 := by decide
  have g1 : 4 ≠ 5 := by decide
  obtain ⟨ao, cap, hv, hcr⟩ := h.row.crow
  obtain ⟨W0, hW0⟩ : ∃ W0, W0 = ((w.alloc (.cells #[.int .u32 (most : Int)] 36)).alloc (.cells #[.bool ext] 4)).alloc (.cells #[.bool false, .int .u32 0, .int .u64 0, .int .u16 0, .int .u16 0, .int .u64 0, .int .u64 0, Value.slice none 0 0] 103) := ⟨_, rfl⟩
  have hC0 := (((Cf.start h).alloc #[.int .u32 (most : Int)] 36 g0).alloc #[.bool ext] 4 g1).alloc #[.bool false, .int .u32 0, .int .u64 0, .int .u16 0, .int .u16 0, .int .u64 0, .int .u64 0, Value.slice none 0 0] 103 h5
  rw [World.size_alloc, World.size_alloc, ← hW0] at hC0
  have H0 : Hid _ := hC0
  have hb0 : Below w.heap.size w W0 := by rw [hW0]; exact bx3_bel w _ _ _
  have hpmost : W0.cell? ⟨w.heap.size, 0, none⟩ = some (.int .u32 (most : Int)) := by
    have := (hC0.c (.tail _ (.tail _ (.head _))) 0).1
    simpa using this
  have hpext : W0.cell? ⟨w.heap.size + 1, 0, none⟩ = some (.bool ext) := by
    have := (hC0.c (.tail _ (.head _)) 0).1
    simpa using this
  have HCt : Hid _ := cutAnswer hC0.inb #[.pointer (some ⟨w.heap.size, 0, none⟩), .pointer (some ⟨w.heap.size + 1, 0, none⟩)] (ansD most ext l) (ansD_n most ext l) (fun W hW => by
      have hc : CRow W ao cap l := (hcr.later hb0).later hW
      have := answer1 ao cap l most ext (w.heap.size) (w.heap.size + 1) W hc hm (cell_later hW hpmost) (cell_later hW hpext)
      rw [hv]
      exact this)
  clear hC0 hpmost hpext hb0 hcr hv
  go_enter Try.func38, Try.ntmps38
  go_wp2_with fail
  rw [← hW0]
  clear hW0
  refine Calls.mono HCt.out ?_
  rintro e W1 ⟨st, sc, sk, f, t, c, o, d, cu, l', v', ao2, cap2, rfl, hcut, hI, hA, hr, hn⟩
  have HCu : Hid _ := hcut
  have H1 : Hid _ := H0.out.told2 (d' := d) hI hA hr hn
  clear HCt hcut hI hA hr hn H0
  obtain ⟨r0, f0⟩ := H1.out.c (.head _) 0
  obtain ⟨r1, f1⟩ := H1.out.c (.head _) 1
  obtain ⟨r2, f2⟩ := H1.out.c (.head _) 2
  obtain ⟨r3, f3⟩ := H1.out.c (.head _) 3
  obtain ⟨r4, f4⟩ := H1.out.c (.head _) 4
  obtain ⟨r5, f5⟩ := H1.out.c (.head _) 5
  obtain ⟨r6, f6⟩ := H1.out.c (.head _) 6
  obtain ⟨r7, f7⟩ := H1.out.c (.head _) 7
  simp at r0 r1 r2 r3 r4 r5 r6 r7
  have HF : Hid _ := (Cf.put (pre := []) (Cf.put (pre := []) (Cf.put (pre := []) (Cf.put (pre := []) (Cf.put (pre := []) (Cf.put (pre := []) (Cf.put (pre := []) (Cf.put (pre := []) H1.out 0 (.bool st) (cs' := #[.bool st, .int .u32 0, .int .u64 0, .int .u16 0, .int .u16 0, .int .u64 0, .int .u64 0, Value.slice none 0 0]) rfl) 1 (.int .u32 (sc : Int)) (cs' := #[.bool st, .int .u32 (sc : Int), .int .u64 0, .int .u16 0, .int .u16 0, .int .u64 0, .int .u64 0, Value.slice none 0 0]) rfl) 2 (.int .u64 (sk : Int)) (cs' := #[.bool st, .int .u32 (sc : Int), .int .u64 (sk : Int), .int .u16 0, .int .u16 0, .int .u64 0, .int .u64 0, Value.slice none 0 0]) rfl) 3 (.int .u16 (f : Int)) (cs' := #[.bool st, .int .u32 (sc : Int), .int .u64 (sk : Int), .int .u16 (f : Int), .int .u16 0, .int .u64 0, .int .u64 0, Value.slice none 0 0]) rfl) 4 (.int .u16 (t : Int)) (cs' := #[.bool st, .int .u32 (sc : Int), .int .u64 (sk : Int), .int .u16 (f : Int), .int .u16 (t : Int), .int .u64 0, .int .u64 0, Value.slice none 0 0]) rfl) 5 (.int .u64 (c : Int)) (cs' := #[.bool st, .int .u32 (sc : Int), .int .u64 (sk : Int), .int .u16 (f : Int), .int .u16 (t : Int), .int .u64 (c : Int), .int .u64 0, Value.slice none 0 0]) rfl) 6 (.int .u64 (o : Int)) (cs' := #[.bool st, .int .u32 (sc : Int), .int .u64 (sk : Int), .int .u16 (f : Int), .int .u16 (t : Int), .int .u64 (c : Int), .int .u64 (o : Int), Value.slice none 0 0]) rfl) 7 (.slice ao2 d.length cap2) (cs' := #[.bool st, .int .u32 (sc : Int), .int .u64 (sk : Int), .int .u16 (f : Int), .int .u16 (t : Int), .int .u64 (c : Int), .int .u64 (o : Int), .slice ao2 d.length cap2]) rfl)
  clear H1
  go_wp2
  exact bodyPost_ret (results_cell_tmp1 rfl _ _ (w.heap.size + 1 + 1) 103 #[.bool st, .int .u32 (sc : Int), .int .u64 (sk : Int), .int .u16 (f : Int), .int .u16 (t : Int), .int .u64 (c : Int), .int .u64 (o : Int), .slice ao2 d.length cap2] (0, 0) _ rfl (HF.out.box _ (.head _)).1 Try.underlying103 rfl infoAns) rfl ⟨st, sc, sk, f, t, c, o, d, cu, l', v', ao2, cap2, rfl, HCu.out, HF.out.inb, HF.out.act, HF.out.row, HF.out.rn⟩
end Go.Proofs.Ytckfmpoddmccfaa
