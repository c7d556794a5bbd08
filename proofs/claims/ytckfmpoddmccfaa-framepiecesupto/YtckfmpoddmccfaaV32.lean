import Derived.Test.YtckfmpoddmccfaaV27
import Derived.Test.YtckfmpoddmccfaaV28
import Derived.Test.YtckfmpoddmccfaaV29
import Derived.Test.YtckfmpoddmccfaaV30
import Derived.Test.YtckfmpoddmccfaaV31
namespace Go.Proofs.Ytckfmpoddmccfaa
open Go.RowKit
set_option linter.unusedVariables false
set_option linter.unusedSimpArgs false
set_option maxRecDepth 100000

set_option maxHeartbeats 8000000 in
theorem greetingI {w : World} {B b : Nat} {v : Value} {rm ov : Nat} {l : List Nat} (h : Inb w B b v rm ov l)   :
    Calls Try.prog 31 #[.pointer (some ⟨b, 0, none⟩)] w fun e w' => CutGreeting w B b v rm ov l (greD l) e w' := by
  have h5 : 88 ≠ 5 := by decide
  obtain ⟨ao, cap, hv, hcr⟩ := h.row.crow
  obtain ⟨W0, hW0⟩ : ∃ W0, W0 = w.alloc (.cells #[.int .u16 0] 88) := ⟨_, rfl⟩
  have hC0 := (Cf.start h).alloc #[.int .u16 0] 88 h5
  rw [← hW0] at hC0
  have H0 : Hid _ := hC0
  have hb0 : Below w.heap.size w W0 := by rw [hW0]; exact (Below.refl _ _).alloc (Nat.le_refl _) _
  have HCt : Hid _ := cutGreeting hC0.inb #[] (greD l) (greD_n  l) (fun W hW => by
      have hc : CRow W ao cap l := (hcr.later hb0).later hW
      have := decGreetingA ao cap l  W hc 
      rw [hv]
      refine Calls.mono this ?_
      rintro e W' ⟨f, n, er, rfl, hD, hb⟩
      exact ⟨f, n, er, none, 0, rfl, hD, World.ownsRow_nil _ _ _ _, by simp, hb⟩)
  clear hC0  hb0 hcr hv
  go_enter Try.func31, Try.ntmps31
  go_wp2_with fail
  rw [← hW0]
  clear hW0
  refine Calls.mono HCt.out ?_
  rintro e W1 ⟨f, cu, l', v', ao2, cap2, rfl, hcut, hI, hA, hr, hn⟩
  have HCu : Hid _ := hcut
  have H1 : Hid _ := H0.out.told2 (d' := ([] : List Nat)) hI hA hr hn
  clear HCt hcut hI hA hr hn H0
  obtain ⟨r0, f0⟩ := H1.out.c (.head _) 0
  simp at r0
  have HF : Hid _ := (Cf.put (pre := []) H1.out 0 (.int .u16 (f : Int)) (cs' := #[.int .u16 (f : Int)]) rfl)
  clear H1
  go_wp2
  exact bodyPost_ret (results_cell_tmp1 rfl _ _ (w.heap.size) 88 #[.int .u16 (f : Int)] (0, 0) _ rfl (HF.out.box _ (.head _)).1 Try.underlying88 rfl infoGre) rfl ⟨f, cu, l', v', ao2, cap2, rfl, HCu.out, HF.out.inb, HF.out.act, HF.out.row, HF.out.rn⟩
end Go.Proofs.Ytckfmpoddmccfaa

namespace Go.Proofs.Ytckfmpoddmccfaa
open Go.RowKit
set_option linter.unusedVariables false
set_option linter.unusedSimpArgs false
set_option maxRecDepth 100000

set_option maxHeartbeats 4000000 in
theorem reply1 (ao : Option Addr) (cap : Nat) (l : List Nat) (most : Nat) (pmost : Nat) (w : World) (h : CRow w ao cap l) (hm : most < 4294967296) (hpmost : w.cell? ⟨pmost, 0, none⟩ = some (.int .u32 (most : Int))) :
    Calls Try.prog 71 #[.slice ao l.length cap, .pointer (some ⟨pmost, 0, none⟩)] w fun e w' => ∃ (o : Nat) (k : Nat) (d : List Nat) (n er : Nat) (ao2 : Option Addr) (cap2 : Nat), e = .returned (.tuple #[.agg #[.int .u32 (o : Int), .int .u32 (k : Int), .slice ao2 d.length cap2], .int .i64 (n : Int), .int .i64 (er : Int)]) ∧ repD most l = ((o, k, d), n, er) ∧ Row w w' ao2 cap2 d := by
  have h5 : 62 ≠ 5 := by decide
  obtain ⟨W0, hW0⟩ : ∃ W0, W0 = w.alloc (.cells #[.int .u32 0, .int .u32 0, Value.slice none 0 0] 62) := ⟨_, rfl⟩
  have hB0 := (Bx.start w).alloc #[.int .u32 0, .int .u32 0, Value.slice none 0 0] 62 h5
  rw [← hW0] at hB0
  have H0 : Hid _ := hB0
  have hqmost : W0.cell? ⟨pmost, 0, none⟩ = some (.int .u32 (most : Int)) := cell_later hB0.bel hpmost
  have hrmost := hqmost
  rw [hW0] at hrmost
  have HD : Hid (Calls Try.prog 72 #[.slice ao l.length cap, .int .u32 (most : Int)] W0 fun e w' => ∃ (o : Nat) (k : Nat) (d : List Nat) (n er : Nat) (ao2 : Option Addr) (cap2 : Nat), e = .returned (.tuple #[.agg #[.int .u32 (o : Int), .int .u32 (k : Int), .slice ao2 d.length cap2], .int .i64 (n : Int), .int .i64 (er : Int)]) ∧ repD most l = ((o, k, d), n, er) ∧ Row W0 w' ao2 cap2 d) := decReplyA ao cap l most W0 (h.later hB0.bel) hm
  obtain ⟨ln, hln⟩ : ∃ ln, l.length = ln := ⟨_, rfl⟩
  rw [hln] at HD
  rw [hln]
  clear hB0 h
  go_enter Try.func71, Try.ntmps71
  go_wp2_with fail
  rw [← hW0]
  clear hW0 hrmost
  refine HD.out.mono ?_
  rintro e W1 ⟨o, k, d, n, er, ao2, cap2, rfl, hD, hr⟩
  have HDe : Hid (repD most l = ((o, k, d), n, er)) := hD
  have HR : Hid (∀ x ∈ d, x < 256) := hr.lt
  have H2 : Hid _ := H0.out.told hr
  clear H0 HD hD hr hqmost hpmost
  obtain ⟨r0, f0⟩ := H2.out.c (.head _) 0
  obtain ⟨r1, f1⟩ := H2.out.c (.head _) 1
  obtain ⟨r2, f2⟩ := H2.out.c (.head _) 2
  simp at r0 r1 r2
  have H3 : Hid _ := (Bx.put (pre := []) (Bx.put (pre := []) (Bx.put (pre := []) H2.out 0 (.int .u32 (o : Int)) (cs' := #[.int .u32 (o : Int), .int .u32 0, Value.slice none 0 0]) rfl) 1 (.int .u32 (k : Int)) (cs' := #[.int .u32 (o : Int), .int .u32 (k : Int), Value.slice none 0 0]) rfl) 2 (.slice ao2 d.length cap2) (cs' := #[.int .u32 (o : Int), .int .u32 (k : Int), .slice ao2 d.length cap2]) rfl)
  clear H2
  go_wp2
  exact bodyPost_ret (results_cell_tmp2 rfl _ _ w.heap.size 62 #[.int .u32 (o : Int), .int .u32 (k : Int), .slice ao2 d.length cap2] (0, 0) _ rfl (H3.out.box _ (.head _)).1 Try.underlying62 rfl infoRep) rfl ⟨o, k, d, n, er, ao2, cap2, rfl, HDe.out, H3.out.row, HR.out, H3.out.bel⟩
set_option maxHeartbeats 8000000 in
theorem replyI {w : World} {B b : Nat} {v : Value} {rm ov : Nat} {l : List Nat} (h : Inb w B b v rm ov l) (most : Nat) (hm : most < 4294967296) :
    Calls Try.prog 33 #[.pointer (some ⟨b, 0, none⟩), .int .u32 (most : Int)] w fun e w' => CutReply1 w B b v rm ov l (repD most l) e w' := by
  have h5 : 62 ≠ 5 := by decide
  have g0 : 36 ≠ 5 := by decide
  obtain ⟨ao, cap, hv, hcr⟩ := h.row.crow
  obtain ⟨W0, hW0⟩ : ∃ W0, W0 = (w.alloc (.cells #[.int .u32 (most : Int)] 36)).alloc (.cells #[.int .u32 0, .int .u32 0, Value.slice none 0 0] 62) := ⟨_, rfl⟩
  have hC0 := ((Cf.start h).alloc #[.int .u32 (most : Int)] 36 g0).alloc #[.int .u32 0, .int .u32 0, Value.slice none 0 0] 62 h5
  rw [World.size_alloc, ← hW0] at hC0
  have H0 : Hid _ := hC0
  have hb0 : Below w.heap.size w W0 := by rw [hW0]; exact bx2_bel w _ _
  have hpmost : W0.cell? ⟨w.heap.size, 0, none⟩ = some (.int .u32 (most : Int)) := by
    have := (hC0.c (.tail _ (.head _)) 0).1
    simpa using this
  have HCt : Hid _ := cutReply1 hC0.inb #[.pointer (some ⟨w.heap.size, 0, none⟩)] (repD most l) (repD_n most l) (fun W hW => by
      have hc : CRow W ao cap l := (hcr.later hb0).later hW
      have := reply1 ao cap l most (w.heap.size) W hc hm (cell_later hW hpmost)
      rw [hv]
      exact this)
  clear hC0 hpmost hb0 hcr hv
  go_enter Try.func33, Try.ntmps33
  go_wp2_with fail
  rw [← hW0]
  clear hW0
  refine Calls.mono HCt.out ?_
  rintro e W1 ⟨o, k, d, cu, l', v', ao2, cap2, rfl, hcut, hI, hA, hr, hn⟩
  have HCu : Hid _ := hcut
  have H1 : Hid _ := H0.out.told2 (d' := d) hI hA hr hn
  clear HCt hcut hI hA hr hn H0
  obtain ⟨r0, f0⟩ := H1.out.c (.head _) 0
  obtain ⟨r1, f1⟩ := H1.out.c (.head _) 1
  obtain ⟨r2, f2⟩ := H1.out.c (.head _) 2
  simp at r0 r1 r2
  have HF : Hid _ := (Cf.put (pre := []) (Cf.put (pre := []) (Cf.put (pre := []) H1.out 0 (.int .u32 (o : Int)) (cs' := #[.int .u32 (o : Int), .int .u32 0, Value.slice none 0 0]) rfl) 1 (.int .u32 (k : Int)) (cs' := #[.int .u32 (o : Int), .int .u32 (k : Int), Value.slice none 0 0]) rfl) 2 (.slice ao2 d.length cap2) (cs' := #[.int .u32 (o : Int), .int .u32 (k : Int), .slice ao2 d.length cap2]) rfl)
  clear H1
  go_wp2
  exact bodyPost_ret (results_cell_tmp1 rfl _ _ (w.heap.size + 1) 62 #[.int .u32 (o : Int), .int .u32 (k : Int), .slice ao2 d.length cap2] (0, 0) _ rfl (HF.out.box _ (.head _)).1 Try.underlying62 rfl infoRep) rfl ⟨o, k, d, cu, l', v', ao2, cap2, rfl, HCu.out, HF.out.inb, HF.out.act, HF.out.row, HF.out.rn⟩
end Go.Proofs.Ytckfmpoddmccfaa

namespace Go.Proofs.Ytckfmpoddmccfaa
open Go.RowKit
set_option linter.unusedVariables false
set_option linter.unusedSimpArgs false
set_option maxRecDepth 100000

set_option maxHeartbeats 4000000 in
theorem export1 (ao : Option Addr) (cap : Nat) (l : List Nat) (z : Bool) (pz : Nat) (w : World) (h : CRow w ao cap l)  (hpz : w.cell? ⟨pz, 0, none⟩ = some (.bool z)) :
    Calls Try.prog 74 #[.slice ao l.length cap, .pointer (some ⟨pz, 0, none⟩)] w fun e w' => ∃ (s : Nat) (f : Nat) (n er : Nat) (ao2 : Option Addr) (cap2 : Nat), e = .returned (.tuple #[.agg #[.int .u64 (s : Int), .int .u16 (f : Int)], .int .i64 (n : Int), .int .i64 (er : Int)]) ∧ expD z l = ((s, f), n, er) ∧ Row w w' ao2 cap2 ([] : List Nat) := by
  have h5 : 96 ≠ 5 := by decide
  obtain ⟨W0, hW0⟩ : ∃ W0, W0 = w.alloc (.cells #[.int .u64 0, .int .u16 0] 96) := ⟨_, rfl⟩
  have hB0 := (Bx.start w).alloc #[.int .u64 0, .int .u16 0] 96 h5
  rw [← hW0] at hB0
  have H0 : Hid _ := hB0
  have hqz : W0.cell? ⟨pz, 0, none⟩ = some (.bool z) := cell_later hB0.bel hpz
  have hrz := hqz
  rw [hW0] at hrz
  have HD : Hid (Calls Try.prog 75 #[.slice ao l.length cap, .bool z] W0 fun e w' => ∃ (s : Nat) (f : Nat) (n er : Nat), e = .returned (.tuple #[.agg #[.int .u64 (s : Int), .int .u16 (f : Int)], .int .i64 (n : Int), .int .i64 (er : Int)]) ∧ expD z l = ((s, f), n, er) ∧ Below W0.heap.size W0 w') := decExportA ao cap l z W0 (h.later hB0.bel) 
  obtain ⟨ln, hln⟩ : ∃ ln, l.length = ln := ⟨_, rfl⟩
  rw [hln] at HD
  rw [hln]
  clear hB0 h
  go_enter Try.func74, Try.ntmps74
  go_wp2_with fail
  rw [← hW0]
  clear hW0 hrz
  refine HD.out.mono ?_
  rintro e W1 ⟨s, f, n, er, rfl, hD, hr⟩
  have HDe : Hid (expD z l = ((s, f), n, er)) := hD
  have H2 : Hid _ := H0.out.later hr
  clear H0 HD hD hr hqz hpz
  obtain ⟨r0, f0⟩ := H2.out.c (.head _) 0
  obtain ⟨r1, f1⟩ := H2.out.c (.head _) 1
  simp at r0 r1
  have H3 : Hid _ := (Bx.put (pre := []) (Bx.put (pre := []) H2.out 0 (.int .u64 (s : Int)) (cs' := #[.int .u64 (s : Int), .int .u16 0]) rfl) 1 (.int .u16 (f : Int)) (cs' := #[.int .u64 (s : Int), .int .u16 (f : Int)]) rfl)
  clear H2
  go_wp2
  exact bodyPost_ret (results_cell_tmp2 rfl _ _ w.heap.size 96 #[.int .u64 (s : Int), .int .u16 (f : Int)] (0, 0) _ rfl (H3.out.box _ (.head _)).1 Try.underlying96 rfl infoExp) rfl ⟨s, f, n, er, none, 0, rfl, HDe.out, H3.out.row, by simp, H3.out.bel⟩
set_option maxHeartbeats 8000000 in
theorem exportI {w : World} {B b : Nat} {v : Value} {rm ov : Nat} {l : List Nat} (h : Inb w B b v rm ov l) (z : Bool)  :
    Calls Try.prog 35 #[.pointer (some ⟨b, 0, none⟩), .bool z] w fun e w' => CutExport w B b v rm ov l (expD z l) e w' := by
  have h5 : 96 ≠ 5 := by decide
  have g0 : 4 ≠ 5 := by decide
  obtain ⟨ao, cap, hv, hcr⟩ := h.row.crow
  obtain ⟨W0, hW0⟩ : ∃ W0, W0 = (w.alloc (.cells #[.bool z] 4)).alloc (.cells #[.int .u64 0, .int .u16 0] 96) := ⟨_, rfl⟩
  have hC0 := ((Cf.start h).alloc #[.bool z] 4 g0).alloc #[.int .u64 0, .int .u16 0] 96 h5
  rw [World.size_alloc, ← hW0] at hC0
  have H0 : Hid _ := hC0
  have hb0 : Below w.heap.size w W0 := by rw [hW0]; exact bx2_bel w _ _
  have hpz : W0.cell? ⟨w.heap.size, 0, none⟩ = some (.bool z) := by
    have := (hC0.c (.tail _ (.head _)) 0).1
    simpa using this
  have HCt : Hid _ := cutExport hC0.inb #[.pointer (some ⟨w.heap.size, 0, none⟩)] (expD z l) (expD_n z l) (fun W hW => by
      have hc : CRow W ao cap l := (hcr.later hb0).later hW
      have := export1 ao cap l z (w.heap.size) W hc  (cell_later hW hpz)
      rw [hv]
      exact this)
  clear hC0 hpz hb0 hcr hv
  go_enter Try.func35, Try.ntmps35
  go_wp2_with fail
  rw [← hW0]
  clear hW0
  refine Calls.mono HCt.out ?_
  rintro e W1 ⟨s, f, cu, l', v', ao2, cap2, rfl, hcut, hI, hA, hr, hn⟩
  have HCu : Hid _ := hcut
  have H1 : Hid _ := H0.out.told2 (d' := ([] : List Nat)) hI hA hr hn
  clear HCt hcut hI hA hr hn H0
  obtain ⟨r0, f0⟩ := H1.out.c (.head _) 0
  obtain ⟨r1, f1⟩ := H1.out.c (.head _) 1
  simp at r0 r1
  have HF : Hid _ := (Cf.put (pre := []) (Cf.put (pre := []) H1.out 0 (.int .u64 (s : Int)) (cs' := #[.int .u64 (s : Int), .int .u16 0]) rfl) 1 (.int .u16 (f : Int)) (cs' := #[.int .u64 (s : Int), .int .u16 (f : Int)]) rfl)
  clear H1
  go_wp2
  exact bodyPost_ret (results_cell_tmp1 rfl _ _ (w.heap.size + 1) 96 #[.int .u64 (s : Int), .int .u16 (f : Int)] (0, 0) _ rfl (HF.out.box _ (.head _)).1 Try.underlying96 rfl infoExp) rfl ⟨s, f, cu, l', v', ao2, cap2, rfl, HCu.out, HF.out.inb, HF.out.act, HF.out.row, HF.out.rn⟩
end Go.Proofs.Ytckfmpoddmccfaa

namespace Go.Proofs.Ytckfmpoddmccfaa
open Go.RowKit
set_option linter.unusedVariables false
set_option linter.unusedSimpArgs false
set_option maxRecDepth 100000

set_option maxHeartbeats 4000000 in
theorem request1 (ao : Option Addr) (cap : Nat) (l : List Nat) (most : Nat) (ext : Bool) (pmost pext : Nat) (w : World) (h : CRow w ao cap l) (hm : most < 4294967296) (hpmost : w.cell? ⟨pmost, 0, none⟩ = some (.int .u32 (most : Int))) (hpext : w.cell? ⟨pext, 0, none⟩ = some (.bool ext)) :
    Calls Try.prog 77 #[.slice ao l.length cap, .pointer (some ⟨pmost, 0, none⟩), .pointer (some ⟨pext, 0, none⟩)] w fun e w' => ∃ (f : Nat) (t : Nat) (c : Nat) (o : Nat) (k : Nat) (d : List Nat) (n er : Nat) (ao2 : Option Addr) (cap2 : Nat), e = .returned (.tuple #[.agg #[.int .u16 (f : Int), .int .u16 (t : Int), .int .u64 (c : Int), .int .u64 (o : Int), .int .u64 (k : Int), .slice ao2 d.length cap2], .int .i64 (n : Int), .int .i64 (er : Int)]) ∧ reqD most ext l = ((f, t, c, o, k, d), n, er) ∧ Row w w' ao2 cap2 d := by
  have h5 : 60 ≠ 5 := by decide
  obtain ⟨W0, hW0⟩ : ∃ W0, W0 = w.alloc (.cells #[.int .u16 0, .int .u16 0, .int .u64 0, .int .u64 0, .int .u64 0, Value.slice none 0 0] 60) := ⟨_, rfl⟩
  have hB0 := (Bx.start w).alloc #[.int .u16 0, .int .u16 0, .int .u64 0, .int .u64 0, .int .u64 0, Value.slice none 0 0] 60 h5
  rw [← hW0] at hB0
  have H0 : Hid _ := hB0
  have hqmost : W0.cell? ⟨pmost, 0, none⟩ = some (.int .u32 (most : Int)) := cell_later hB0.bel hpmost
  have hrmost := hqmost
  rw [hW0] at hrmost
  have hqext : W0.cell? ⟨pext, 0, none⟩ = some (.bool ext) := cell_later hB0.bel hpext
  have hrext := hqext
  rw [hW0] at hrext
  have HD : Hid (Calls Try.prog 78 #[.slice ao l.length cap, .int .u32 (most : Int), .bool ext] W0 fun e w' => ∃ (f : Nat) (t : Nat) (c : Nat) (o : Nat) (k : Nat) (d : List Nat) (n er : Nat) (ao2 : Option Addr) (cap2 : Nat), e = .returned (.tuple #[.agg #[.int .u16 (f : Int), .int .u16 (t : Int), .int .u64 (c : Int), .int .u64 (o : Int), .int .u64 (k : Int), .slice ao2 d.length cap2], .int .i64 (n : Int), .int .i64 (er : Int)]) ∧ reqD most ext l = ((f, t, c, o, k, d), n, er) ∧ Row W0 w' ao2 cap2 d) := decRequestA ao cap l most ext W0 (h.later hB0.bel) hm
  obtain ⟨ln, hln⟩ : ∃ ln, l.length = ln := ⟨_, rfl⟩
  rw [hln] at HD
  rw [hln]
  clear hB0 h
  go_enter Try.func77, Try.ntmps77
  go_wp2_with fail
  rw [← hW0]
  clear hW0 hrmost hrext
  refine HD.out.mono ?_
  rintro e W1 ⟨f, t, c, o, k, d, n, er, ao2, cap2, rfl, hD, hr⟩
  have HDe : Hid (reqD most ext l = ((f, t, c, o, k, d), n, er)) := hD
  have HR : Hid (∀ x ∈ d, x < 256) := hr.lt
  have H2 : Hid _ := H0.out.told hr
  clear H0 HD hD hr hqmost hpmost hqext hpext
  obtain ⟨r0, f0⟩ := H2.out.c (.head _) 0
  obtain ⟨r1, f1⟩ := H2.out.c (.head _) 1
  obtain ⟨r2, f2⟩ := H2.out.c (.head _) 2
  obtain ⟨r3, f3⟩ := H2.out.c (.head _) 3
  obtain ⟨r4, f4⟩ := H2.out.c (.head _) 4
  obtain ⟨r5, f5⟩ := H2.out.c (.head _) 5
  simp at r0 r1 r2 r3 r4 r5
  have H3 : Hid _ := (Bx.put (pre := []) (Bx.put (pre := []) (Bx.put (pre := []) (Bx.put (pre := []) (Bx.put (pre := []) (Bx.put (pre := []) H2.out 0 (.int .u16 (f : Int)) (cs' := #[.int .u16 (f : Int), .int .u16 0, .int .u64 0, .int .u64 0, .int .u64 0, Value.slice none 0 0]) rfl) 1 (.int .u16 (t : Int)) (cs' := #[.int .u16 (f : Int), .int .u16 (t : Int), .int .u64 0, .int .u64 0, .int .u64 0, Value.slice none 0 0]) rfl) 2 (.int .u64 (c : Int)) (cs' := #[.int .u16 (f : Int), .int .u16 (t : Int), .int .u64 (c : Int), .int .u64 0, .int .u64 0, Value.slice none 0 0]) rfl) 3 (.int .u64 (o : Int)) (cs' := #[.int .u16 (f : Int), .int .u16 (t : Int), .int .u64 (c : Int), .int .u64 (o : Int), .int .u64 0, Value.slice none 0 0]) rfl) 4 (.int .u64 (k : Int)) (cs' := #[.int .u16 (f : Int), .int .u16 (t : Int), .int .u64 (c : Int), .int .u64 (o : Int), .int .u64 (k : Int), Value.slice none 0 0]) rfl) 5 (.slice ao2 d.length cap2) (cs' := #[.int .u16 (f : Int), .int .u16 (t : Int), .int .u64 (c : Int), .int .u64 (o : Int), .int .u64 (k : Int), .slice ao2 d.length cap2]) rfl)
  clear H2
  go_wp2
  exact bodyPost_ret (results_cell_tmp2 rfl _ _ w.heap.size 60 #[.int .u16 (f : Int), .int .u16 (t : Int), .int .u64 (c : Int), .int .u64 (o : Int), .int .u64 (k : Int), .slice ao2 d.length cap2] (0, 0) _ rfl (H3.out.box _ (.head _)).1 Try.underlying60 rfl infoReq) rfl ⟨f, t, c, o, k, d, n, er, ao2, cap2, rfl, HDe.out, H3.out.row, HR.out, H3.out.bel⟩
set_option maxHeartbeats 8000000 in
theorem requestI {w : World} {B b : Nat} {v : Value} {rm ov : Nat} {l : List Nat} (h : Inb w B b v rm ov l) (most : Nat) (ext : Bool) (hm : most < 4294967296) :
    Calls Try.prog 36 #[.pointer (some ⟨b, 0, none⟩), .int .u32 (most : Int), .bool ext] w fun e w' => CutRequest w B b v rm ov l (reqD most ext l) e w' := by
  have h5 : 60 ≠ 5 := by decide
  have g0 : 36 ≠ 5 := by decide
  have g1 : 4 ≠ 5 := by decide
  obtain ⟨ao, cap, hv, hcr⟩ := h.row.crow
  obtain ⟨W0, hW0⟩ : ∃ W0, W0 = ((w.alloc (.cells #[.int .u32 (most : Int)] 36)).alloc (.cells #[.bool ext] 4)).alloc (.cells #[.int .u16 0, .int .u16 0, .int .u64 0, .int .u64 0, .int .u64 0, Value.slice none 0 0] 60) := ⟨_, rfl⟩
  have hC0 := (((Cf.start h).alloc #[.int .u32 (most : Int)] 36 g0).alloc #[.bool ext] 4 g1).alloc #[.int .u16 0, .int .u16 0, .int .u64 0, .int .u64 0, .int .u64 0, Value.slice none 0 0] 60 h5
  rw [World.size_alloc, World.size_alloc, ← hW0] at hC0
  have H0 : Hid _ := hC0
  have hb0 : Below w.heap.size w W0 := by rw [hW0]; exact bx3_bel w _ _ _
  have hpmost : W0.cell? ⟨w.heap.size, 0, none⟩ = some (.int .u32 (most : Int)) := by
    have := (hC0.c (.tail _ (.tail _ (.head _))) 0).1
    simpa using this
  have hpext : W0.cell? ⟨w.heap.size + 1, 0, none⟩ = some (.bool ext) := by
    have := (hC0.c (.tail _ (.head _)) 0).1
    simpa using this
  have HCt : Hid _ := cutRequest hC0.inb #[.pointer (some ⟨w.heap.size, 0, none⟩), .pointer (some ⟨w.heap.size + 1, 0, none⟩)] (reqD most ext l) (reqD_n most ext l) (fun W hW => by
      have hc : CRow W ao cap l := (hcr.later hb0).later hW
      have := request1 ao cap l most ext (w.heap.size) (w.heap.size + 1) W hc hm (cell_later hW hpmost) (cell_later hW hpext)
      rw [hv]
      exact this)
  clear hC0 hpmost hpext hb0 hcr hv
  go_enter Try.func36, Try.ntmps36
  go_wp2_with fail
  rw [← hW0]
  clear hW0
  refine Calls.mono HCt.out ?_
  rintro e W1 ⟨f, t, c, o, k, d, cu, l', v', ao2, cap2, rfl, hcut, hI, hA, hr, hn⟩
  have HCu : Hid _ := hcut
  have H1 : Hid _ := H0.out.told2 (d' := d) hI hA hr hn
  clear HCt hcut hI hA hr hn H0
  obtain ⟨r0, f0⟩ := H1.out.c (.head _) 0
  obtain ⟨r1, f1⟩ := H1.out.c (.head _) 1
  obtain ⟨r2, f2⟩ := H1.out.c (.head _) 2
  obtain ⟨r3, f3⟩ := H1.out.c (.head _) 3
  obtain ⟨r4, f4⟩ := H1.out.c (.head _) 4
  obtain ⟨r5, f5⟩ := H1.out.c (.head _) 5
  simp at r0 r1 r2 r3 r4 r5
  have HF : Hid _ := (Cf.put (pre := []) (Cf.put (pre := []) (Cf.put (pre := []) (Cf.put (pre := []) (Cf.put (pre := []) (Cf.put (pre := []) H1.out 0 (.int .u16 (f : Int)) (cs' := #[.int .u16 (f : Int), .int .u16 0, .int .u64 0, .int .u64 0, .int .u64 0, Value.slice none 0 0]) rfl) 1 (.int .u16 (t : Int)) (cs' := #[.int .u16 (f : Int), .int .u16 (t : Int), .int .u64 0, .int .u64 0, .int .u64 0, Value.slice none 0 0]) rfl) 2 (.int .u64 (c : Int)) (cs' := #[.int .u16 (f : Int), .int .u16 (t : Int), .int .u64 (c : Int), .int .u64 0, .int .u64 0, Value.slice none 0 0]) rfl) 3 (.int .u64 (o : Int)) (cs' := #[.int .u16 (f : Int), .int .u16 (t : Int), .int .u64 (c : Int), .int .u64 (o : Int), .int .u64 0, Value.slice none 0 0]) rfl) 4 (.int .u64 (k : Int)) (cs' := #[.int .u16 (f : Int), .int .u16 (t : Int), .int .u64 (c : Int), .int .u64 (o : Int), .int .u64 (k : Int), Value.slice none 0 0]) rfl) 5 (.slice ao2 d.length cap2) (cs' := #[.int .u16 (f : Int), .int .u16 (t : Int), .int .u64 (c : Int), .int .u64 (o : Int), .int .u64 (k : Int), .slice ao2 d.length cap2]) rfl)
  clear H1
  go_wp2
  exact bodyPost_ret (results_cell_tmp1 rfl _ _ (w.heap.size + 1 + 1) 60 #[.int .u16 (f : Int), .int .u16 (t : Int), .int .u64 (c : Int), .int .u64 (o : Int), .int .u64 (k : Int), .slice ao2 d.length cap2] (0, 0) _ rfl (HF.out.box _ (.head _)).1 Try.underlying60 rfl infoReq) rfl ⟨f, t, c, o, k, d, cu, l', v', ao2, cap2, rfl, HCu.out, HF.out.inb, HF.out.act, HF.out.row, HF.out.rn⟩
end Go.Proofs.Ytckfmpoddmccfaa
