import Derived.Test.YtckfmpoddmccfaaU46
namespace Go.Proofs.Ytckfmpoddmccfaa
open Go.RowKit
set_option linter.unusedVariables false
set_option linter.unusedSimpArgs false
set_option maxRecDepth 100000
set_option maxHeartbeats 8000000 in
theorem wantsR_3 {w : World} {B b : Nat} {v : Value} {rm ov : Nat} {l : List Nat} (h : RIn w B b v rm ov l) (bo : Option Addr) (bn bc m : Nat) (z x : Bool) (a : Int) (hm : m < 4294967296) :
    Calls Try.prog 15 #[.pointer (some ⟨b, 0, none⟩), .agg #[.int .i64 3, .slice bo bn bc, .int .u32 (m : Int), .bool z, .bool x, .int .i64 a]] w fun e w' => CgR w B b v rm (cg3 m z x a ov l) e w' := by
  have h1 : 38 ≠ 5 := by decide
  have h2 : 41 ≠ 5 := by decide
  obtain ⟨ao, cap, hv, hcr⟩ := h.row.crow
  have HLt : Hid (∀ y ∈ l, y < 256) := hcr.row.lt
  obtain ⟨W0, hW0⟩ : ∃ W0, W0 = (w.alloc (.cells #[.int .i64 3, .slice bo bn bc, .int .u32 (m : Int), .bool z, .bool x, .int .i64 a] 38)).alloc (.cells #[.int .i64 0, .int .u64 0, .int .u64 0, .int .u64 0, .int .u64 0, .int .u64 0, .int .u64 0, .int .u64 0, .int .u64 0, Value.slice none 0 0] 41) := ⟨_, rfl⟩
  have hC0 := ((Cr.start h).alloc #[.int .i64 3, .slice bo bn bc, .int .u32 (m : Int), .bool z, .bool x, .int .i64 a] 38 h1).alloc #[.int .i64 0, .int .u64 0, .int .u64 0, .int .u64 0, .int .u64 0, .int .u64 0, .int .u64 0, .int .u64 0, .int .u64 0, Value.slice none 0 0] 41 h2
  rw [World.size_alloc, ← hW0] at hC0
  have H0 : Hid _ := hC0
  have HM : Hid _ := flaV hC0.inb 
  clear hC0 hcr hv h
  go_enter Try.func15, Try.ntmps15
  go_wp2_with fail
  rw [← hW0]
  clear hW0
  refine Calls.mono HM.out ?_
  rintro e W1 ⟨f, cu, l', v', rfl, hcut, hI, hA⟩
  have HCu : Hid (cutOf 0 ov l (flaD l) = (f, cu, l')) := hcut
  have hcs := cutOf_cases 0 ov l (flaD l)
  rw [HCu.out] at hcs
  obtain ⟨hcs1, hcu⟩ := hcs
  have hbb := flaD_b  HLt.out
  have e0 : f < 4294967296 := by
    rcases hcs1 with e | e
    · have := congrArg (fun y => y) e; simp only at this; omega
    · have := congrArg (fun y => y) e; simp only at this; omega
  have i0 : (f : Int) < 4294967296 := by omega
  have hcu' : (cu : Int) ≤ 3 := by simp only at hcu; omega
  have H2 : Hid _ := H0.out.acts hI hA
  clear HM hcut hI hA H0 hbb hcs1 hcu
  obtain ⟨r0, f0⟩ := H2.out.c (.head _) 0
  obtain ⟨r1, f1⟩ := H2.out.c (.head _) 1
  obtain ⟨r2, f2⟩ := H2.out.c (.head _) 2
  obtain ⟨r3, f3⟩ := H2.out.c (.head _) 3
  obtain ⟨r4, f4⟩ := H2.out.c (.head _) 4
  obtain ⟨r5, f5⟩ := H2.out.c (.head _) 5
  obtain ⟨r6, f6⟩ := H2.out.c (.head _) 6
  obtain ⟨r7, f7⟩ := H2.out.c (.head _) 7
  obtain ⟨r8, f8⟩ := H2.out.c (.head _) 8
  obtain ⟨r9, f9⟩ := H2.out.c (.head _) 9
  simp at r0 r1 r2 r3 r4 r5 r6 r7 r8 r9
  have HF : Hid _ := (Cr.put (pre := []) (Cr.put (pre := []) (Cr.put (pre := []) (Cr.put (pre := []) (Cr.put (pre := []) (Cr.put (pre := []) (Cr.put (pre := []) (Cr.put (pre := []) (Cr.put (pre := []) (Cr.put (pre := []) H2.out 0 (.int .i64 (cu : Int)) (cs' := #[.int .i64 (cu : Int), .int .u64 0, .int .u64 0, .int .u64 0, .int .u64 0, .int .u64 0, .int .u64 0, .int .u64 0, .int .u64 0, Value.slice none 0 0]) rfl) 1 (.int .u64 (f : Int)) (cs' := #[.int .i64 (cu : Int), .int .u64 (f : Int), .int .u64 0, .int .u64 0, .int .u64 0, .int .u64 0, .int .u64 0, .int .u64 0, .int .u64 0, Value.slice none 0 0]) rfl) 2 (.int .u64 0) (cs' := #[.int .i64 (cu : Int), .int .u64 (f : Int), .int .u64 0, .int .u64 0, .int .u64 0, .int .u64 0, .int .u64 0, .int .u64 0, .int .u64 0, Value.slice none 0 0]) rfl) 3 (.int .u64 0) (cs' := #[.int .i64 (cu : Int), .int .u64 (f : Int), .int .u64 0, .int .u64 0, .int .u64 0, .int .u64 0, .int .u64 0, .int .u64 0, .int .u64 0, Value.slice none 0 0]) rfl) 4 (.int .u64 0) (cs' := #[.int .i64 (cu : Int), .int .u64 (f : Int), .int .u64 0, .int .u64 0, .int .u64 0, .int .u64 0, .int .u64 0, .int .u64 0, .int .u64 0, Value.slice none 0 0]) rfl) 5 (.int .u64 0) (cs' := #[.int .i64 (cu : Int), .int .u64 (f : Int), .int .u64 0, .int .u64 0, .int .u64 0, .int .u64 0, .int .u64 0, .int .u64 0, .int .u64 0, Value.slice none 0 0]) rfl) 6 (.int .u64 0) (cs' := #[.int .i64 (cu : Int), .int .u64 (f : Int), .int .u64 0, .int .u64 0, .int .u64 0, .int .u64 0, .int .u64 0, .int .u64 0, .int .u64 0, Value.slice none 0 0]) rfl) 7 (.int .u64 0) (cs' := #[.int .i64 (cu : Int), .int .u64 (f : Int), .int .u64 0, .int .u64 0, .int .u64 0, .int .u64 0, .int .u64 0, .int .u64 0, .int .u64 0, Value.slice none 0 0]) rfl) 8 (.int .u64 0) (cs' := #[.int .i64 (cu : Int), .int .u64 (f : Int), .int .u64 0, .int .u64 0, .int .u64 0, .int .u64 0, .int .u64 0, .int .u64 0, .int .u64 0, Value.slice none 0 0]) rfl) 9 (Value.slice none 0 0) (cs' := #[.int .i64 (cu : Int), .int .u64 (f : Int), .int .u64 0, .int .u64 0, .int .u64 0, .int .u64 0, .int .u64 0, .int .u64 0, .int .u64 0, Value.slice none 0 0]) rfl)
  clear H2
  go_wp2
  exact bodyPost_ret (results_cell_one rfl _ _ (w.heap.size + 1) 41 #[.int .i64 (cu : Int), .int .u64 (f : Int), .int .u64 0, .int .u64 0, .int .u64 0, .int .u64 0, .int .u64 0, .int .u64 0, .int .u64 0, Value.slice none 0 0] (0, 0) _ rfl (HF.out.box _ (.head _)).1 Try.underlying41 rfl infoC) rfl ⟨cu, f, 0, 0, 0, 0, 0, 0, 0, [], ov, l', v', none, 0, rfl, by simp [cg3, HCu.out], HF.out.inb, HF.out.act, World.ownsRow_nil _ _ _ _, by simp [Value.ownBlock]⟩
end Go.Proofs.Ytckfmpoddmccfaa
namespace Go.Proofs.Ytckfmpoddmccfaa
open Go.RowKit
set_option linter.unusedVariables false
set_option linter.unusedSimpArgs false
set_option maxRecDepth 100000
set_option maxHeartbeats 8000000 in
theorem wantsR_4 {w : World} {B b : Nat} {v : Value} {rm ov : Nat} {l : List Nat} (h : RIn w B b v rm ov l) (bo : Option Addr) (bn bc m : Nat) (z x : Bool) (a : Int) (hm : m < 4294967296) :
    Calls Try.prog 15 #[.pointer (some ⟨b, 0, none⟩), .agg #[.int .i64 4, .slice bo bn bc, .int .u32 (m : Int), .bool z, .bool x, .int .i64 a]] w fun e w' => CgR w B b v rm (cg4 m z x a ov l) e w' := by
  have h1 : 38 ≠ 5 := by decide
  have h2 : 41 ≠ 5 := by decide
  have h3 : 57 ≠ 5 := by decide
  obtain ⟨ao, cap, hv, hcr⟩ := h.row.crow
  have HLt : Hid (∀ y ∈ l, y < 256) := hcr.row.lt
  obtain ⟨W0, hW0⟩ : ∃ W0, W0 = (w.alloc (.cells #[.int .i64 4, .slice bo bn bc, .int .u32 (m : Int), .bool z, .bool x, .int .i64 a] 38)).alloc (.cells #[.int .i64 0, .int .u64 0, .int .u64 0, .int .u64 0, .int .u64 0, .int .u64 0, .int .u64 0, .int .u64 0, .int .u64 0, Value.slice none 0 0] 41) := ⟨_, rfl⟩
  have hC0 := ((Cr.start h).alloc #[.int .i64 4, .slice bo bn bc, .int .u32 (m : Int), .bool z, .bool x, .int .i64 a] 38 h1).alloc #[.int .i64 0, .int .u64 0, .int .u64 0, .int .u64 0, .int .u64 0, .int .u64 0, .int .u64 0, .int .u64 0, .int .u64 0, Value.slice none 0 0] 41 h2
  rw [World.size_alloc, ← hW0] at hC0
  have H0 : Hid _ := hC0
  have HM : Hid _ := optV hC0.inb m hm
  clear hC0 hcr hv h
  go_enter Try.func15, Try.ntmps15
  go_wp2_with fail
  rw [← hW0]
  clear hW0
  refine Calls.mono HM.out ?_
  rintro e W1 ⟨c, k, lg, d, cu, ov', l', v', ao2, cap2, rfl, hcut, hI, hA, hr, hn⟩
  have HCu : Hid (optC m ov l = ((c, k, lg, d), cu, ov', l')) := hcut
  have hbb := optC_b (most := m) (ov := ov) HLt.out
  rw [hcut] at hbb
  obtain ⟨e0, e1, hcu⟩ := hbb
  have hcu' : (cu : Int) ≤ 3 := by simp only at hcu; omega
  have hH1 := (H0.out.told2 (d' := d) hI hA hr hn).alloc #[.int .u32 (c : Int), .int .u32 (k : Int), .bool lg, .slice ao2 d.length cap2] 57 h3
  obtain ⟨W2, hW2⟩ : ∃ W2, W2 = W1.alloc (.cells #[.int .u32 (c : Int), .int .u32 (k : Int), .bool lg, .slice ao2 d.length cap2] 57) := ⟨_, rfl⟩
  rw [← hW2] at hH1
  have H1 : Hid _ := hH1
  have HO : Hid _ := ofOptionG W2 c k lg ao2 d.length cap2 (cu : Int) e0 e1
  clear HM hcut hI hA hr hn H0 hH1 hcu
  go_wp2_with fail
  rw [← hW2]
  clear hW2
  refine Calls.mono HO.out ?_
  rintro e W3 ⟨rfl, hb3⟩
  have H2 : Hid _ := H1.out.later hb3
  clear H1 HO hb3
  obtain ⟨r0, f0⟩ := H2.out.c (.tail _ (.head _)) 0
  obtain ⟨r1, f1⟩ := H2.out.c (.tail _ (.head _)) 1
  obtain ⟨r2, f2⟩ := H2.out.c (.tail _ (.head _)) 2
  obtain ⟨r3, f3⟩ := H2.out.c (.tail _ (.head _)) 3
  obtain ⟨r4, f4⟩ := H2.out.c (.tail _ (.head _)) 4
  obtain ⟨r5, f5⟩ := H2.out.c (.tail _ (.head _)) 5
  obtain ⟨r6, f6⟩ := H2.out.c (.tail _ (.head _)) 6
  obtain ⟨r7, f7⟩ := H2.out.c (.tail _ (.head _)) 7
  obtain ⟨r8, f8⟩ := H2.out.c (.tail _ (.head _)) 8
  obtain ⟨r9, f9⟩ := H2.out.c (.tail _ (.head _)) 9
  simp at r0 r1 r2 r3 r4 r5 r6 r7 r8 r9
  have HF : Hid _ := (Cr.put (pre := [_]) (Cr.put (pre := [_]) (Cr.put (pre := [_]) (Cr.put (pre := [_]) (Cr.put (pre := [_]) (Cr.put (pre := [_]) (Cr.put (pre := [_]) (Cr.put (pre := [_]) (Cr.put (pre := [_]) (Cr.put (pre := [_]) H2.out 0 (.int .i64 (cu : Int)) (cs' := #[.int .i64 (cu : Int), .int .u64 0, .int .u64 0, .int .u64 0, .int .u64 0, .int .u64 0, .int .u64 0, .int .u64 0, .int .u64 0, Value.slice none 0 0]) rfl) 1 (.int .u64 (c : Int)) (cs' := #[.int .i64 (cu : Int), .int .u64 (c : Int), .int .u64 0, .int .u64 0, .int .u64 0, .int .u64 0, .int .u64 0, .int .u64 0, .int .u64 0, Value.slice none 0 0]) rfl) 2 (.int .u64 (k : Int)) (cs' := #[.int .i64 (cu : Int), .int .u64 (c : Int), .int .u64 (k : Int), .int .u64 0, .int .u64 0, .int .u64 0, .int .u64 0, .int .u64 0, .int .u64 0, Value.slice none 0 0]) rfl) 3 (.int .u64 (lg.toNat : Int)) (cs' := #[.int .i64 (cu : Int), .int .u64 (c : Int), .int .u64 (k : Int), .int .u64 (lg.toNat : Int), .int .u64 0, .int .u64 0, .int .u64 0, .int .u64 0, .int .u64 0, Value.slice none 0 0]) rfl) 4 (.int .u64 ((0 : Nat) : Int)) (cs' := #[.int .i64 (cu : Int), .int .u64 (c : Int), .int .u64 (k : Int), .int .u64 (lg.toNat : Int), .int .u64 ((0 : Nat) : Int), .int .u64 0, .int .u64 0, .int .u64 0, .int .u64 0, Value.slice none 0 0]) rfl) 5 (.int .u64 ((0 : Nat) : Int)) (cs' := #[.int .i64 (cu : Int), .int .u64 (c : Int), .int .u64 (k : Int), .int .u64 (lg.toNat : Int), .int .u64 ((0 : Nat) : Int), .int .u64 ((0 : Nat) : Int), .int .u64 0, .int .u64 0, .int .u64 0, Value.slice none 0 0]) rfl) 6 (.int .u64 ((0 : Nat) : Int)) (cs' := #[.int .i64 (cu : Int), .int .u64 (c : Int), .int .u64 (k : Int), .int .u64 (lg.toNat : Int), .int .u64 ((0 : Nat) : Int), .int .u64 ((0 : Nat) : Int), .int .u64 ((0 : Nat) : Int), .int .u64 0, .int .u64 0, Value.slice none 0 0]) rfl) 7 (.int .u64 ((0 : Nat) : Int)) (cs' := #[.int .i64 (cu : Int), .int .u64 (c : Int), .int .u64 (k : Int), .int .u64 (lg.toNat : Int), .int .u64 ((0 : Nat) : Int), .int .u64 ((0 : Nat) : Int), .int .u64 ((0 : Nat) : Int), .int .u64 ((0 : Nat) : Int), .int .u64 0, Value.slice none 0 0]) rfl) 8 (.int .u64 ((0 : Nat) : Int)) (cs' := #[.int .i64 (cu : Int), .int .u64 (c : Int), .int .u64 (k : Int), .int .u64 (lg.toNat : Int), .int .u64 ((0 : Nat) : Int), .int .u64 ((0 : Nat) : Int), .int .u64 ((0 : Nat) : Int), .int .u64 ((0 : Nat) : Int), .int .u64 ((0 : Nat) : Int), Value.slice none 0 0]) rfl) 9 (.slice ao2 d.length cap2) (cs' := #[.int .i64 (cu : Int), .int .u64 (c : Int), .int .u64 (k : Int), .int .u64 (lg.toNat : Int), .int .u64 ((0 : Nat) : Int), .int .u64 ((0 : Nat) : Int), .int .u64 ((0 : Nat) : Int), .int .u64 ((0 : Nat) : Int), .int .u64 ((0 : Nat) : Int), .slice ao2 d.length cap2]) rfl)
  clear H2
  go_wp2
  exact bodyPost_ret (results_cell_one rfl _ _ (w.heap.size + 1) 41 #[.int .i64 (cu : Int), .int .u64 (c : Int), .int .u64 (k : Int), .int .u64 (lg.toNat : Int), .int .u64 ((0 : Nat) : Int), .int .u64 ((0 : Nat) : Int), .int .u64 ((0 : Nat) : Int), .int .u64 ((0 : Nat) : Int), .int .u64 ((0 : Nat) : Int), .slice ao2 d.length cap2] (0, 0) _ rfl (HF.out.box _ (.tail _ (.head _))).1 Try.underlying41 rfl infoC) rfl ⟨cu, c, k, lg.toNat, 0, 0, 0, 0, 0, d, ov', l', v', ao2, cap2, rfl, by simp [cg4, HCu.out], HF.out.inb, HF.out.act, HF.out.row, HF.out.rn⟩
end Go.Proofs.Ytckfmpoddmccfaa
