import Derived.Test.YtckfmpoddmccfaaV40
namespace Go.Proofs.Ytckfmpoddmccfaa
open Go.RowKit
set_option linter.unusedVariables false
set_option linter.unusedSimpArgs false
set_option maxRecDepth 100000
theorem optC_b {most ov : Nat} {l : List Nat} (h : ∀ x ∈ l, x < 256) : (optC most ov l).1.1 < 4294967296 ∧ (optC most ov l).1.2.1 < 4294967296 ∧ (optC most ov l).2.1 ≤ 3 := by
  have e1 : (optC most ov l).1 = (cutOf (0, 0, false, []) ov l (optF most l)).1 := by unfold optC; simp only; split <;> rfl
  have e2 : (optC most ov l).2.1 = (cutOf (0, 0, false, []) ov l (optF most l)).2.1 := by unfold optC; simp only; split <;> rfl
  have hcs := cutOf_cases (0, 0, false, []) ov l (optF most l)
  rw [e1, e2]
  refine ⟨?_, ?_, hcs.2⟩
  · rcases hcs.1 with e | e
    · rw [e]; simp
    · rw [e]; exact optD_b h
  · rcases hcs.1 with e | e
    · rw [e]; simp
    · rw [e]; exact optD_k most l h
def cg4 (m : Nat) (z x : Bool) (a : Int) (ov : Nat) (l : List Nat) : (Nat × Nat × Nat × Nat × Nat × Nat × Nat × Nat × Nat × List Nat) × Nat × List Nat :=
  let r := optC m ov l
  ((r.2.1, r.1.1, r.1.2.1, r.1.2.2.1.toNat, 0, 0, 0, 0, 0, r.1.2.2.2), r.2.2.1, r.2.2.2)
set_option maxHeartbeats 8000000 in
theorem cutsI_4 {w : World} {B b : Nat} {v : Value} {rm ov : Nat} {l : List Nat} (h : Inb w B b v rm ov l) (bo : Option Addr) (bn bc m : Nat) (z x : Bool) (a : Int) (hm : m < 4294967296) :
    Calls Try.prog 14 #[.pointer (some ⟨b, 0, none⟩), .agg #[.int .i64 4, .slice bo bn bc, .int .u32 (m : Int), .bool z, .bool x, .int .i64 a]] w fun e w' => CgP w B b v rm (cg4 m z x a ov l) e w' := by
  have h1 : 38 ≠ 5 := by decide
  have h2 : 41 ≠ 5 := by decide
  have h3 : 57 ≠ 5 := by decide
  obtain ⟨ao, cap, hv, hcr⟩ := h.row.crow
  have HLt : Hid (∀ y ∈ l, y < 256) := hcr.row.lt
  obtain ⟨W0, hW0⟩ : ∃ W0, W0 = (w.alloc (.cells #[.int .i64 4, .slice bo bn bc, .int .u32 (m : Int), .bool z, .bool x, .int .i64 a] 38)).alloc (.cells #[.int .i64 0, .int .u64 0, .int .u64 0, .int .u64 0, .int .u64 0, .int .u64 0, .int .u64 0, .int .u64 0, .int .u64 0, Value.slice none 0 0] 41) := ⟨_, rfl⟩
  have hC0 := ((Cf.start h).alloc #[.int .i64 4, .slice bo bn bc, .int .u32 (m : Int), .bool z, .bool x, .int .i64 a] 38 h1).alloc #[.int .i64 0, .int .u64 0, .int .u64 0, .int .u64 0, .int .u64 0, .int .u64 0, .int .u64 0, .int .u64 0, .int .u64 0, Value.slice none 0 0] 41 h2
  rw [World.size_alloc, ← hW0] at hC0
  have H0 : Hid _ := hC0
  have HM : Hid _ := optionI hC0.inb m hm
  clear hC0 hcr hv h
  go_enter Try.func14, Try.ntmps14
  go_wp2_with fail
  rw [← hW0]
  clear hW0
  refine Calls.mono HM.out ?_
  rintro e W1 ⟨c, k, lg, d, cu, ov', l', v', ao2, cap2, rfl, hcut, hI, hA, hr, hn⟩
  have HCu : Hid (optC m ov l = ((c, k, lg, d), cu, ov', l')) := hcut
  have hbb := optC_b (most := m) (ov := ov) HLt.out
  rw [hcut] at hbb
  obtain ⟨e0, e1, hcu⟩ := hbb
  have hcu' : (cu : Int) ≤ 3 := by simp only at hcu; omega
  have hH1 := (H0.out.told2 (d' := d) hI hA hr hn).alloc #[.int .u32 (c : Int), .int .u32 (k : Int), .bool lg, .slice ao2 d.length cap2] 57 h3
  obtain ⟨W2, hW2⟩ : ∃ W2, W2 = W1.alloc (.cells #[.int .u32 (c : Int), .int .u32 (k : Int), .bool lg, .slice ao2 d.length cap2] 57) := ⟨_, rfl⟩
  rw [← hW2] at hH1
  have H1 : Hid _ := hH1
  have HO : Hid _ := ofOptionG W2 c k lg ao2 d.length cap2 (cu : Int) e0 e1
  clear HM hcut hI hA hr hn H0 hH1 hcu
  go_wp2_with fail
  rw [← hW2]
  clear hW2
  refine Calls.mono HO.out ?_
  rintro e W3 ⟨rfl, hb3⟩
  have H2 : Hid _ := H1.out.later hb3
  clear H1 HO hb3
  obtain ⟨r0, f0⟩ := H2.out.c (.tail _ (.head _)) 0
  obtain ⟨r1, f1⟩ := H2.out.c (.tail _ (.head _)) 1
  obtain ⟨r2, f2⟩ := H2.out.c (.tail _ (.head _)) 2
  obtain ⟨r3, f3⟩ := H2.out.c (.tail _ (.head _)) 3
  obtain ⟨r4, f4⟩ := H2.out.c (.tail _ (.head _)) 4
  obtain ⟨r5, f5⟩ := H2.out.c (.tail _ (.head _)) 5
  obtain ⟨r6, f6⟩ := H2.out.c (.tail _ (.head _)) 6
  obtain ⟨r7, f7⟩ := H2.out.c (.tail _ (.head _)) 7
  obtain ⟨r8, f8⟩ := H2.out.c (.tail _ (.head _)) 8
  obtain ⟨r9, f9⟩ := H2.out.c (.tail _ (.head _)) 9
  simp at r0 r1 r2 r3 r4 r5 r6 r7 r8 r9
  have HF : Hid _ := (Cf.put (pre := [_]) (Cf.put (pre := [_]) (Cf.put (pre := [_]) (Cf.put (pre := [_]) (Cf.put (pre := [_]) (Cf.put (pre := [_]) (Cf.put (pre := [_]) (Cf.put (pre := [_]) (Cf.put (pre := [_]) (Cf.put (pre := [_]) H2.out 0 (.int .i64 (cu : Int)) (cs' := #[.int .i64 (cu : Int), .int .u64 0, .int .u64 0, .int .u64 0, .int .u64 0, .int .u64 0, .int .u64 0, .int .u64 0, .int .u64 0, Value.slice none 0 0]) rfl) 1 (.int .u64 (c : Int)) (cs' := #[.int .i64 (cu : Int), .int .u64 (c : Int), .int .u64 0, .int .u64 0, .int .u64 0, .int .u64 0, .int .u64 0, .int .u64 0, .int .u64 0, Value.slice none 0 0]) rfl) 2 (.int .u64 (k : Int)) (cs' := #[.int .i64 (cu : Int), .int .u64 (c : Int), .int .u64 (k : Int), .int .u64 0, .int .u64 0, .int .u64 0, .int .u64 0, .int .u64 0, .int .u64 0, Value.slice none 0 0]) rfl) 3 (.int .u64 (lg.toNat : Int)) (cs' := #[.int .i64 (cu : Int), .int .u64 (c : Int), .int .u64 (k : Int), .int .u64 (lg.toNat : Int), .int .u64 0, .int .u64 0, .int .u64 0, .int .u64 0, .int .u64 0, Value.slice none 0 0]) rfl) 4 (.int .u64 ((0 : Nat) : Int)) (cs' := #[.int .i64 (cu : Int), .int .u64 (c : Int), .int .u64 (k : Int), .int .u64 (lg.toNat : Int), .int .u64 ((0 : Nat) : Int), .int .u64 0, .int .u64 0, .int .u64 0, .int .u64 0, Value.slice none 0 0]) rfl) 5 (.int .u64 ((0 : Nat) : Int)) (cs' := #[.int .i64 (cu : Int), .int .u64 (c : Int), .int .u64 (k : Int), .int .u64 (lg.toNat : Int), .int .u64 ((0 : Nat) : Int), .int .u64 ((0 : Nat) : Int), .int .u64 0, .int .u64 0, .int .u64 0, Value.slice none 0 0]) rfl) 6 (.int .u64 ((0 : Nat) : Int)) (cs' := #[.int .i64 (cu : Int), .int .u64 (c : Int), .int .u64 (k : Int), .int .u64 (lg.toNat : Int), .int .u64 ((0 : Nat) : Int), .int .u64 ((0 : Nat) : Int), .int .u64 ((0 : Nat) : Int), .int .u64 0, .int .u64 0, Value.slice none 0 0]) rfl) 7 (.int .u64 ((0 : Nat) : Int)) (cs' := #[.int .i64 (cu : Int), .int .u64 (c : Int), .int .u64 (k : Int), .int .u64 (lg.toNat : Int), .int .u64 ((0 : Nat) : Int), .int .u64 ((0 : Nat) : Int), .int .u64 ((0 : Nat) : Int), .int .u64 ((0 : Nat) : Int), .int .u64 0, Value.slice none 0 0]) rfl) 8 (.int .u64 ((0 : Nat) : Int)) (cs' := #[.int .i64 (cu : Int), .int .u64 (c : Int), .int .u64 (k : Int), .int .u64 (lg.toNat : Int), .int .u64 ((0 : Nat) : Int), .int .u64 ((0 : Nat) : Int), .int .u64 ((0 : Nat) : Int), .int .u64 ((0 : Nat) : Int), .int .u64 ((0 : Nat) : Int), Value.slice none 0 0]) rfl) 9 (.slice ao2 d.length cap2) (cs' := #[.int .i64 (cu : Int), .int .u64 (c : Int), .int .u64 (k : Int), .int .u64 (lg.toNat : Int), .int .u64 ((0 : Nat) : Int), .int .u64 ((0 : Nat) : Int), .int .u64 ((0 : Nat) : Int), .int .u64 ((0 : Nat) : Int), .int .u64 ((0 : Nat) : Int), .slice ao2 d.length cap2]) rfl)
  clear H2
  go_wp2
  exact bodyPost_ret (results_cell_one rfl _ _ (w.heap.size + 1) 41 #[.int .i64 (cu : Int), .int .u64 (c : Int), .int .u64 (k : Int), .int .u64 (lg.toNat : Int), .int .u64 ((0 : Nat) : Int), .int .u64 ((0 : Nat) : Int), .int .u64 ((0 : Nat) : Int), .int .u64 ((0 : Nat) : Int), .int .u64 ((0 : Nat) : Int), .slice ao2 d.length cap2] (0, 0) _ rfl (HF.out.box _ (.tail _ (.head _))).1 Try.underlying41 rfl infoC) rfl ⟨cu, c, k, lg.toNat, 0, 0, 0, 0, 0, d, ov', l', v', ao2, cap2, rfl, by simp [cg4, HCu.out], HF.out.inb, HF.out.act, HF.out.row, HF.out.rn⟩
end Go.Proofs.Ytckfmpoddmccfaa

namespace Go.Proofs.Ytckfmpoddmccfaa
open Go.RowKit
set_option linter.unusedVariables false
set_option linter.unusedSimpArgs false
set_option maxRecDepth 100000
def cg7 (m : Nat) (z x : Bool) (a : Int) (ov : Nat) (l : List Nat) : (Nat × Nat × Nat × Nat × Nat × Nat × Nat × Nat × Nat × List Nat) × Nat × List Nat :=
  let r := cutOf (0, 0, 0, 0, 0, []) ov l (reqD m x l)
  ((r.2.1, r.1.1, r.1.2.1, r.1.2.2.1, r.1.2.2.2.1, r.1.2.2.2.2.1, 0, 0, 0, r.1.2.2.2.2.2), ov, r.2.2)
set_option maxHeartbeats 8000000 in
theorem cutsI_7 {w : World} {B b : Nat} {v : Value} {rm ov : Nat} {l : List Nat} (h : Inb w B b v rm ov l) (bo : Option Addr) (bn bc m : Nat) (z x : Bool) (a : Int) (hm : m < 4294967296) :
    Calls Try.prog 14 #[.pointer (some ⟨b, 0, none⟩), .agg #[.int .i64 7, .slice bo bn bc, .int .u32 (m : Int), .bool z, .bool x, .int .i64 a]] w fun e w' => CgP w B b v rm (cg7 m z x a ov l) e w' := by
  have h1 : 38 ≠ 5 := by decide
  have h2 : 41 ≠ 5 := by decide
  have h3 : 60 ≠ 5 := by decide
  obtain ⟨ao, cap, hv, hcr⟩ := h.row.crow
  have HLt : Hid (∀ y ∈ l, y < 256) := hcr.row.lt
  obtain ⟨W0, hW0⟩ : ∃ W0, W0 = (w.alloc (.cells #[.int .i64 7, .slice bo bn bc, .int .u32 (m : Int), .bool z, .bool x, .int .i64 a] 38)).alloc (.cells #[.int .i64 0, .int .u64 0, .int .u64 0, .int .u64 0, .int .u64 0, .int .u64 0, .int .u64 0, .int .u64 0, .int .u64 0, Value.slice none 0 0] 41) := ⟨_, rfl⟩
  have hC0 := ((Cf.start h).alloc #[.int .i64 7, .slice bo bn bc, .int .u32 (m : Int), .bool z, .bool x, .int .i64 a] 38 h1).alloc #[.int .i64 0, .int .u64 0, .int .u64 0, .int .u64 0, .int .u64 0, .int .u64 0, .int .u64 0, .int .u64 0, .int .u64 0, Value.slice none 0 0] 41 h2
  rw [World.size_alloc, ← hW0] at hC0
  have H0 : Hid _ := hC0
  have HM : Hid _ := requestI hC0.inb m x hm
  clear hC0 hcr hv h
  go_enter Try.func14, Try.ntmps14
  go_wp2_with fail
  rw [← hW0]
  clear hW0
  refine Calls.mono HM.out ?_
  rintro e W1 ⟨f, t, c, o, k, d, cu, l', v', ao2, cap2, rfl, hcut, hI, hA, hr, hn⟩
  have HCu : Hid (cutOf (0, 0, 0, 0, 0, []) ov l (reqD m x l) = ((f, t, c, o, k, d), cu, l')) := hcut
  have hcs := cutOf_cases (0, 0, 0, 0, 0, []) ov l (reqD m x l)
  have hbb := reqD_b (most := m) (ext := x) HLt.out
  rw [HCu.out] at hcs
  obtain ⟨hcs1, hcu⟩ := hcs
  have e0 : f < 65536 := by
    rcases hcs1 with e | e
    · have := congrArg (fun y => y.1) e; simp only at this; omega
    · have := congrArg (fun y => y.1) e; simp only at this; omega
  have e1 : t < 65536 := by
    rcases hcs1 with e | e
    · have := congrArg (fun y => y.2.1) e; simp only at this; omega
    · have := congrArg (fun y => y.2.1) e; simp only at this; omega
  have hcu' : (cu : Int) ≤ 3 := by simp only at hcu; omega
  have hH1 := (H0.out.told2 (d' := d) hI hA hr hn).alloc #[.int .u16 (f : Int), .int .u16 (t : Int), .int .u64 (c : Int), .int .u64 (o : Int), .int .u64 (k : Int), .slice ao2 d.length cap2] 60 h3
  obtain ⟨W2, hW2⟩ : ∃ W2, W2 = W1.alloc (.cells #[.int .u16 (f : Int), .int .u16 (t : Int), .int .u64 (c : Int), .int .u64 (o : Int), .int .u64 (k : Int), .slice ao2 d.length cap2] 60) := ⟨_, rfl⟩
  rw [← hW2] at hH1
  have H1 : Hid _ := hH1
  have HO : Hid _ := ofRequestG W2 f t c o k ao2 d.length cap2 (cu : Int) e0 e1
  clear HM hcut hI hA hr hn H0 hH1 hbb hcs1 hcu
  go_wp2_with fail
  rw [← hW2]
  clear hW2
  refine Calls.mono HO.out ?_
  rintro e W3 ⟨rfl, hb3⟩
  have H2 : Hid _ := H1.out.later hb3
  clear H1 HO hb3
  obtain ⟨r0, f0⟩ := H2.out.c (.tail _ (.head _)) 0
  obtain ⟨r1, f1⟩ := H2.out.c (.tail _ (.head _)) 1
  obtain ⟨r2, f2⟩ := H2.out.c (.tail _ (.head _)) 2
  obtain ⟨r3, f3⟩ := H2.out.c (.tail _ (.head _)) 3
  obtain ⟨r4, f4⟩ := H2.out.c (.tail _ (.head _)) 4
  obtain ⟨r5, f5⟩ := H2.out.c (.tail _ (.head _)) 5
  obtain ⟨r6, f6⟩ := H2.out.c (.tail _ (.head _)) 6
  obtain ⟨r7, f7⟩ := H2.out.c (.tail _ (.head _)) 7
  obtain ⟨r8, f8⟩ := H2.out.c (.tail _ (.head _)) 8
  obtain ⟨r9, f9⟩ := H2.out.c (.tail _ (.head _)) 9
  simp at r0 r1 r2 r3 r4 r5 r6 r7 r8 r9
  have HF : Hid _ := (Cf.put (pre := [_]) (Cf.put (pre := [_]) (Cf.put (pre := [_]) (Cf.put (pre := [_]) (Cf.put (pre := [_]) (Cf.put (pre := [_]) (Cf.put (pre := [_]) (Cf.put (pre := [_]) (Cf.put (pre := [_]) (Cf.put (pre := [_]) H2.out 0 (.int .i64 (cu : Int)) (cs' := #[.int .i64 (cu : Int), .int .u64 0, .int .u64 0, .int .u64 0, .int .u64 0, .int .u64 0, .int .u64 0, .int .u64 0, .int .u64 0, Value.slice none 0 0]) rfl) 1 (.int .u64 (f : Int)) (cs' := #[.int .i64 (cu : Int), .int .u64 (f : Int), .int .u64 0, .int .u64 0, .int .u64 0, .int .u64 0, .int .u64 0, .int .u64 0, .int .u64 0, Value.slice none 0 0]) rfl) 2 (.int .u64 (t : Int)) (cs' := #[.int .i64 (cu : Int), .int .u64 (f : Int), .int .u64 (t : Int), .int .u64 0, .int .u64 0, .int .u64 0, .int .u64 0, .int .u64 0, .int .u64 0, Value.slice none 0 0]) rfl) 3 (.int .u64 (c : Int)) (cs' := #[.int .i64 (cu : Int), .int .u64 (f : Int), .int .u64 (t : Int), .int .u64 (c : Int), .int .u64 0, .int .u64 0, .int .u64 0, .int .u64 0, .int .u64 0, Value.slice none 0 0]) rfl) 4 (.int .u64 (o : Int)) (cs' := #[.int .i64 (cu : Int), .int .u64 (f : Int), .int .u64 (t : Int), .int .u64 (c : Int), .int .u64 (o : Int), .int .u64 0, .int .u64 0, .int .u64 0, .int .u64 0, Value.slice none 0 0]) rfl) 5 (.int .u64 (k : Int)) (cs' := #[.int .i64 (cu : Int), .int .u64 (f : Int), .int .u64 (t : Int), .int .u64 (c : Int), .int .u64 (o : Int), .int .u64 (k : Int), .int .u64 0, .int .u64 0, .int .u64 0, Value.slice none 0 0]) rfl) 6 (.int .u64 ((0 : Nat) : Int)) (cs' := #[.int .i64 (cu : Int), .int .u64 (f : Int), .int .u64 (t : Int), .int .u64 (c : Int), .int .u64 (o : Int), .int .u64 (k : Int), .int .u64 ((0 : Nat) : Int), .int .u64 0, .int .u64 0, Value.slice none 0 0]) rfl) 7 (.int .u64 ((0 : Nat) : Int)) (cs' := #[.int .i64 (cu : Int), .int .u64 (f : Int), .int .u64 (t : Int), .int .u64 (c : Int), .int .u64 (o : Int), .int .u64 (k : Int), .int .u64 ((0 : Nat) : Int), .int .u64 ((0 : Nat) : Int), .int .u64 0, Value.slice none 0 0]) rfl) 8 (.int .u64 ((0 : Nat) : Int)) (cs' := #[.int .i64 (cu : Int), .int .u64 (f : Int), .int .u64 (t : Int), .int .u64 (c : Int), .int .u64 (o : Int), .int .u64 (k : Int), .int .u64 ((0 : Nat) : Int), .int .u64 ((0 : Nat) : Int), .int .u64 ((0 : Nat) : Int), Value.slice none 0 0]) rfl) 9 (.slice ao2 d.length cap2) (cs' := #[.int .i64 (cu : Int), .int .u64 (f : Int), .int .u64 (t : Int), .int .u64 (c : Int), .int .u64 (o : Int), .int .u64 (k : Int), .int .u64 ((0 : Nat) : Int), .int .u64 ((0 : Nat) : Int), .int .u64 ((0 : Nat) : Int), .slice ao2 d.length cap2]) rfl)
  clear H2
  go_wp2
  exact bodyPost_ret (results_cell_one rfl _ _ (w.heap.size + 1) 41 #[.int .i64 (cu : Int), .int .u64 (f : Int), .int .u64 (t : Int), .int .u64 (c : Int), .int .u64 (o : Int), .int .u64 (k : Int), .int .u64 ((0 : Nat) : Int), .int .u64 ((0 : Nat) : Int), .int .u64 ((0 : Nat) : Int), .slice ao2 d.length cap2] (0, 0) _ rfl (HF.out.box _ (.tail _ (.head _))).1 Try.underlying41 rfl infoC) rfl ⟨cu, f, t, c, o, k, 0, 0, 0, d, ov, l', v', ao2, cap2, rfl, by simp [cg7, HCu.out], HF.out.inb, HF.out.act, HF.out.row, HF.out.rn⟩
end Go.Proofs.Ytckfmpoddmccfaa
