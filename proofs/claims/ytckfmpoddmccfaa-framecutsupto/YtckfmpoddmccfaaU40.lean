import Derived.Test.YtckfmpoddmccfaaU39
import Derived.Test.YtckfmpoddmccfaaU37
import Derived.Test.YtckfmpoddmccfaaU26
import Derived.Deep.DeepCutAuto
namespace Go.Proofs.Ytckfmpoddmccfaa
open Go.RowKit
set_option linter.unusedVariables false
set_option linter.unusedSimpArgs false
set_option maxRecDepth 100000
theorem inf_41 : (Try.prog.info? 88).map (·.size) = some 1 := by kernel_rfl
set_option maxHeartbeats 4000000 in
theorem rgre_a {w : World} {B b : Nat} {v : Value} {rm ov : Nat} {l : List Nat} (h : RIn w B b v rm ov l)  (hs : ¬ (ov = 0 ∧ 18 ≤ l.length)) (hres : cutOf 0 ov l (greD l) = (0, 0, l)) :
    Calls Try.prog 41 #[.pointer (some ⟨b, 0, none⟩)] w fun e w' => ∃ (x0 : Nat) (cu : Nat) (l' : List Nat) (v' : Value), e = .returned (.tuple #[.agg #[.int .u16 (x0 : Int)], .int .i64 (cu : Int)]) ∧ cutOf 0 ov l (greD l) = (x0, cu, l') ∧ RIn w' B b v' rm ov l' ∧ RAct w w' b v v' := by
  replace hres : Hid _ := hres
  have h5 : 88 ≠ 5 := by decide
  obtain ⟨W0, hW0⟩ : ∃ W0, W0 = w.alloc (.cells #[.int .u16 0] 88) := ⟨_, rfl⟩
  have hC0 := (Cr.start h).alloc #[.int .u16 0] 88 h5
  rw [← hW0] at hC0
  have H0 : Hid _ := hC0
  clear hC0
  clear h
  go_enter Try.func41, Try.ntmps41
  have HA1 : Hid _ := hasF H0.out.inb (18) hs
  go_wp2_with fail
  rw [← hW0]
  clear hW0
  refine Calls.mono HA1.out ?_
  rintro e Wn ⟨rfl, hw⟩
  rw [hw]; clear hw Wn HA1
  have y0 : W0.cell? ⟨w.heap.size, 0, none⟩ = some (.int .u16 0) := (H0.out.c (.head _) 0).1
  have yf0 : W0.frozen? ⟨w.heap.size, 0, none⟩ = false := (H0.out.c (.head _) 0).2
  have H2 : Hid _ := (Cr.put (pre := []) H0.out 0 (.int .u16 0) (cs' := #[.int .u16 0]) rfl)
  clear H0
  go_wp2
  exact bodyPost_ret (results_cell_tmp1 rfl _ _ (w.heap.size) 88 #[.int .u16 0] (0, 0) _ rfl (H2.out.box _ (.head _)).1 Try.underlying88 rfl inf_41) rfl ⟨0, 0, l, _, rfl, hres, H2.out.inb, H2.out.act⟩
set_option maxHeartbeats 4000000 in
theorem rgre_b {w : World} {B b : Nat} {v : Value} {rm ov : Nat} {l : List Nat} (h : RIn w B b v rm ov l)  (hs : ov = 0 ∧ 18 ≤ l.length) (hx : ((vl l 0 8 : Int) != 5639144782019643715) = true) (hres : cutOf 0 ov l (greD l) = (0, 2, l)) :
    Calls Try.prog 41 #[.pointer (some ⟨b, 0, none⟩)] w fun e w' => ∃ (x0 : Nat) (cu : Nat) (l' : List Nat) (v' : Value), e = .returned (.tuple #[.agg #[.int .u16 (x0 : Int)], .int .i64 (cu : Int)]) ∧ cutOf 0 ov l (greD l) = (x0, cu, l') ∧ RIn w' B b v' rm ov l' ∧ RAct w w' b v v' := by
  replace hres : Hid _ := hres
  have h5 : 88 ≠ 5 := by decide
  obtain ⟨W0, hW0⟩ : ∃ W0, W0 = w.alloc (.cells #[.int .u16 0] 88) := ⟨_, rfl⟩
  have hC0 := (Cr.start h).alloc #[.int .u16 0] 88 h5
  rw [← hW0] at hC0
  have H0 : Hid _ := hC0
  clear hC0
  clear h
  go_enter Try.func41, Try.ntmps41
  have HA1 : Hid _ := hasT H0.out.inb (18) hs
  go_wp2_with fail
  rw [← hW0]
  clear hW0
  refine Calls.mono HA1.out ?_
  rintro e Wn ⟨rfl, hw⟩
  rw [hw]; clear hw Wn HA1
  have HA2 : Hid _ := uRx H0.out.inb 0 8 (by have := hs.2; omega) (by decide) (by decide) rfl
  go_wp2_with fail
  refine Calls.mono HA2.out ?_
  rintro e W2 ⟨rfl, hb⟩
  have H2 : Hid _ := H0.out.later hb
  clear hb H0 HA2
  have y0 : W2.cell? ⟨w.heap.size, 0, none⟩ = some (.int .u16 0) := (H2.out.c (.head _) 0).1
  have yf0 : W2.frozen? ⟨w.heap.size, 0, none⟩ = false := (H2.out.c (.head _) 0).2
  have H3 : Hid _ := (Cr.put (pre := []) H2.out 0 (.int .u16 0) (cs' := #[.int .u16 0]) rfl)
  clear H2
  go_wp2
  exact bodyPost_ret (results_cell_tmp1 rfl _ _ (w.heap.size) 88 #[.int .u16 0] (0, 0) _ rfl (H3.out.box _ (.head _)).1 Try.underlying88 rfl inf_41) rfl ⟨0, 2, l, _, rfl, hres, H3.out.inb, H3.out.act⟩
set_option maxHeartbeats 4000000 in
theorem rgre_c {w : World} {B b : Nat} {v : Value} {rm ov : Nat} {l : List Nat} (h : RIn w B b v rm ov l)  (hs : ov = 0 ∧ 18 ≤ l.length) (hx : vl l 0 8 = 5639144782019643715) (hy : ((vl l 8 8 : Int) != 5280542401877725268) = true) (hres : cutOf 0 ov l (greD l) = (0, 2, l)) :
    Calls Try.prog 41 #[.pointer (some ⟨b, 0, none⟩)] w fun e w' => ∃ (x0 : Nat) (cu : Nat) (l' : List Nat) (v' : Value), e = .returned (.tuple #[.agg #[.int .u16 (x0 : Int)], .int .i64 (cu : Int)]) ∧ cutOf 0 ov l (greD l) = (x0, cu, l') ∧ RIn w' B b v' rm ov l' ∧ RAct w w' b v v' := by
  replace hres : Hid _ := hres
  have h5 : 88 ≠ 5 := by decide
  obtain ⟨W0, hW0⟩ : ∃ W0, W0 = w.alloc (.cells #[.int .u16 0] 88) := ⟨_, rfl⟩
  have hC0 := (Cr.start h).alloc #[.int .u16 0] 88 h5
  rw [← hW0] at hC0
  have H0 : Hid _ := hC0
  clear hC0
  clear h
  go_enter Try.func41, Try.ntmps41
  have HA1 : Hid _ := hasT H0.out.inb (18) hs
  go_wp2_with fail
  rw [← hW0]
  clear hW0
  refine Calls.mono HA1.out ?_
  rintro e Wn ⟨rfl, hw⟩
  rw [hw]; clear hw Wn HA1
  have HA2 : Hid _ := uRx H0.out.inb 0 8 (by have := hs.2; omega) (by decide) (by decide) hx
  go_wp2_with fail
  refine Calls.mono HA2.out ?_
  rintro e W2 ⟨rfl, hb⟩
  have H2 : Hid _ := H0.out.later hb
  clear hb H0 HA2
  have HA3 : Hid _ := uRx H2.out.inb 8 8 (by have := hs.2; omega) (by decide) (by decide) rfl
  go_wp2_with fail
  refine Calls.mono HA3.out ?_
  rintro e W3 ⟨rfl, hb⟩
  have H3 : Hid _ := H2.out.later hb
  clear hb H2 HA3
  have y0 : W3.cell? ⟨w.heap.size, 0, none⟩ = some (.int .u16 0) := (H3.out.c (.head _) 0).1
  have yf0 : W3.frozen? ⟨w.heap.size, 0, none⟩ = false := (H3.out.c (.head _) 0).2
  have H4 : Hid _ := (Cr.put (pre := []) H3.out 0 (.int .u16 0) (cs' := #[.int .u16 0]) rfl)
  clear H3
  go_wp2
  exact bodyPost_ret (results_cell_tmp1 rfl _ _ (w.heap.size) 88 #[.int .u16 0] (0, 0) _ rfl (H4.out.box _ (.head _)).1 Try.underlying88 rfl inf_41) rfl ⟨0, 2, l, _, rfl, hres, H4.out.inb, H4.out.act⟩
set_option maxHeartbeats 4000000 in
theorem rgre_d {w : World} {B b : Nat} {v : Value} {rm ov : Nat} {l : List Nat} (h : RIn w B b v rm ov l)  (hs : ov = 0 ∧ 18 ≤ l.length) (hx : vl l 0 8 = 5639144782019643715) (hy : vl l 8 8 = 5280542401877725268) (x0 : Nat) (hx0 : vl l 16 2 = x0) (b0 : x0 < 65536) (hres : cutOf 0 ov l (greD l) = (x0, 1, l.drop 18)) :
    Calls Try.prog 41 #[.pointer (some ⟨b, 0, none⟩)] w fun e w' => ∃ (x0 : Nat) (cu : Nat) (l' : List Nat) (v' : Value), e = .returned (.tuple #[.agg #[.int .u16 (x0 : Int)], .int .i64 (cu : Int)]) ∧ cutOf 0 ov l (greD l) = (x0, cu, l') ∧ RIn w' B b v' rm ov l' ∧ RAct w w' b v v' := by
  replace hres : Hid _ := hres
  have h5 : 88 ≠ 5 := by decide
  obtain ⟨W0, hW0⟩ : ∃ W0, W0 = w.alloc (.cells #[.int .u16 0] 88) := ⟨_, rfl⟩
  have hC0 := (Cr.start h).alloc #[.int .u16 0] 88 h5
  rw [← hW0] at hC0
  have H0 : Hid _ := hC0
  clear hC0
  clear h
  go_enter Try.func41, Try.ntmps41
  have HA1 : Hid _ := hasT H0.out.inb (18) hs
  go_wp2_with fail
  rw [← hW0]
  clear hW0
  refine Calls.mono HA1.out ?_
  rintro e Wn ⟨rfl, hw⟩
  rw [hw]; clear hw Wn HA1
  have HA2 : Hid _ := uRx H0.out.inb 0 8 (by have := hs.2; omega) (by decide) (by decide) hx
  go_wp2_with fail
  refine Calls.mono HA2.out ?_
  rintro e W2 ⟨rfl, hb⟩
  have H2 : Hid _ := H0.out.later hb
  clear hb H0 HA2
  have HA3 : Hid _ := uRx H2.out.inb 8 8 (by have := hs.2; omega) (by decide) (by decide) hy
  go_wp2_with fail
  refine Calls.mono HA3.out ?_
  rintro e W3 ⟨rfl, hb⟩
  have H3 : Hid _ := H2.out.later hb
  clear hb H2 HA3
  have HA4 : Hid _ := uRx H3.out.inb 16 2 (by have := hs.2; omega) (by decide) (by decide) hx0
  go_wp2_with fail
  refine Calls.mono HA4.out ?_
  rintro e W4 ⟨rfl, hb⟩
  have H4 : Hid _ := H3.out.later hb
  clear hb H3 HA4
  have hq := H4.out.alloc #[.int .u16 (x0 : Int)] 88 (by decide)
  generalize hW5 : W4.alloc (.cells #[.int .u16 (x0 : Int)] 88) = W5 at hq
  have H5 : Hid _ := hq
  clear hq H4
  have HW5 : Hid _ := hW5
  clear hW5
  have HA6 : Hid _ := cutR H5.out.inb 18 (by have := hs.2; omega)
  go_wp2_with fail
  rw [show _ = _ from HW5.out]
  clear HW5
  refine Calls.mono HA6.out ?_
  rintro e W6 ⟨ao1, cap1, vn6, rfl, hI, hA, hr, hn⟩
  have hd6 : (l.take (18)).length = 18 := by rw [List.length_take]; exact Nat.min_eq_left (by have := hs.2; omega)
  have H6 : Hid _ := H5.out.told2 (d' := l.take (18)) hI hA (by rw [hd6]; exact hr) hn
  clear hI hA hr hn H5 HA6
  have q0 : W6.cell? ⟨W4.heap.size, 0, none⟩ = some (.int .u16 (x0 : Int)) := (H6.out.c (.head _) 0).1
  have y0 : W6.cell? ⟨w.heap.size, 0, none⟩ = some (.int .u16 0) := (H6.out.c (.tail _ (.head _)) 0).1
  have yf0 : W6.frozen? ⟨w.heap.size, 0, none⟩ = false := (H6.out.c (.tail _ (.head _)) 0).2
  have H7 : Hid _ := (Cr.put (pre := [(W4.heap.size, #[.int .u16 (x0 : Int)], 88)]) H6.out 0 (.int .u16 (x0 : Int)) (cs' := #[.int .u16 (x0 : Int)]) rfl)
  clear H6
  go_wp2
  exact bodyPost_ret (results_cell_tmp1 rfl _ _ (w.heap.size) 88 #[.int .u16 (x0 : Int)] (0, 0) _ rfl (H7.out.box _ (.tail _ (.head _))).1 Try.underlying88 rfl inf_41) rfl ⟨x0, 1, l.drop 18, _, rfl, hres, H7.out.inb, H7.out.act⟩
theorem greR {w : World} {B b : Nat} {v : Value} {rm ov : Nat} {l : List Nat} (h : RIn w B b v rm ov l) : Calls Try.prog 41 #[.pointer (some ⟨b, 0, none⟩)] w fun e w' => ∃ (x0 : Nat) (cu : Nat) (l' : List Nat) (v' : Value), e = .returned (.tuple #[.agg #[.int .u16 (x0 : Int)], .int .i64 (cu : Int)]) ∧ cutOf 0 ov l (greD l) = (x0, cu, l') ∧ RIn w' B b v' rm ov l' ∧ RAct w w' b v v' := by
  by_cases hs : ov = 0 ∧ 18 ≤ l.length
  · obtain ⟨h0, h1⟩ := hs
    have n1 : ¬ l.length < 18 := by omega
    have n0 : ¬ 0 < ov := by omega
    by_cases hx : vl l 0 8 = 5639144782019643715
    · have hx' : ¬ vl l 0 8 ≠ mInit := fun e => e hx
      by_cases hy : vl l 8 8 = 5280542401877725268
      · have hy' : ¬ vl l 8 8 ≠ mHave := fun e => e hy
        exact rgre_d h ⟨h0, h1⟩ hx hy _ rfl (by have := vlb h.row.lt 16 2; simpa using this) (by unfold cutOf greD; simp [n0, n1, hx', hy'])
      · have hy' : vl l 8 8 ≠ mHave := hy
        exact rgre_c h ⟨h0, h1⟩ hx (by simp; omega) (by unfold cutOf greD; simp [n0, n1, hx', hy'])
    · have hx' : vl l 0 8 ≠ mInit := hx
      exact rgre_b h ⟨h0, h1⟩ (by simp; omega) (by unfold cutOf greD; simp [n0, n1, hx'])
  · refine rgre_a h hs ?_
    unfold cutOf greD
    by_cases h0 : 0 < ov
    · simp [h0]
    · have : l.length < 18 := by omega
      simp [h0, this]
set_option maxHeartbeats 4000000 in
theorem rfla_a {w : World} {B b : Nat} {v : Value} {rm ov : Nat} {l : List Nat} (h : RIn w B b v rm ov l) (hs : ¬ (ov = 0 ∧ 4 ≤ l.length)) (hres : cutOf 0 ov l (flaD l) = (0, 0, l)) :
    Calls Try.prog 42 #[.pointer (some ⟨b, 0, none⟩)] w fun e w' => ∃ (x0 cu : Nat) (l' : List Nat) (v' : Value), e = .returned (.tuple #[.int .u32 (x0 : Int), .int .i64 (cu : Int)]) ∧ cutOf 0 ov l (flaD l) = (x0, cu, l') ∧ RIn w' B b v' rm ov l' ∧ RAct w w' b v v' := by
  replace hres : Hid _ := hres
  have H0 : Hid _ := Cr.start h
  clear h
  go_enter Try.func42, Try.ntmps42
  have HA1 : Hid _ := hasF H0.out.inb (4) hs
  go_wp2_with fail
  refine Calls.mono HA1.out ?_
  rintro e Wn ⟨rfl, hw⟩
  rw [hw]; clear hw Wn HA1
  go_wp2
  go_ret2
  exact ⟨0, 0, l, _, rfl, hres, H0.out.inb, H0.out.act⟩
set_option maxHeartbeats 4000000 in
theorem rfla_b {w : World} {B b : Nat} {v : Value} {rm ov : Nat} {l : List Nat} (h : RIn w B b v rm ov l) (hs : ov = 0 ∧ 4 ≤ l.length) (x0 : Nat) (hx0 : vl l 0 4 = x0) (b0 : x0 < 4294967296) (hres : cutOf 0 ov l (flaD l) = (x0, 1, l.drop 4)) :
    Calls Try.prog 42 #[.pointer (some ⟨b, 0, none⟩)] w fun e w' => ∃ (x0 cu : Nat) (l' : List Nat) (v' : Value), e = .returned (.tuple #[.int .u32 (x0 : Int), .int .i64 (cu : Int)]) ∧ cutOf 0 ov l (flaD l) = (x0, cu, l') ∧ RIn w' B b v' rm ov l' ∧ RAct w w' b v v' := by
  replace hres : Hid _ := hres
  have H0 : Hid _ := Cr.start h
  clear h
  go_enter Try.func42, Try.ntmps42
  have HA1 : Hid _ := hasT H0.out.inb (4) hs
  go_wp2_with fail
  refine Calls.mono HA1.out ?_
  rintro e Wn ⟨rfl, hw⟩
  rw [hw]; clear hw Wn HA1
  have HA2 : Hid _ := uRx H0.out.inb 0 4 (by have := hs.2; omega) (by decide) (by decide) hx0
  go_wp2_with fail
  refine Calls.mono HA2.out ?_
  rintro e W2 ⟨rfl, hb⟩
  have H2 : Hid _ := H0.out.later hb
  clear hb H0 HA2
  have HA3 : Hid _ := cutR H2.out.inb 4 (by have := hs.2; omega)
  go_wp2_with fail
  refine Calls.mono HA3.out ?_
  rintro e W3 ⟨ao1, cap1, vn3, rfl, hI, hA, hr, hn⟩
  have hd3 : (l.take (4)).length = 4 := by rw [List.length_take]; exact Nat.min_eq_left (by have := hs.2; omega)
  have H3 : Hid _ := H2.out.told2 (d' := l.take (4)) hI hA (by rw [hd3]; exact hr) hn
  clear hI hA hr hn H2 HA3
  go_wp2
  go_ret2
  exact ⟨x0, 1, l.drop 4, _, rfl, hres, H3.out.inb, H3.out.act⟩
theorem flaR {w : World} {B b : Nat} {v : Value} {rm ov : Nat} {l : List Nat} (h : RIn w B b v rm ov l) : Calls Try.prog 42 #[.pointer (some ⟨b, 0, none⟩)] w fun e w' => ∃ (x0 cu : Nat) (l' : List Nat) (v' : Value), e = .returned (.tuple #[.int .u32 (x0 : Int), .int .i64 (cu : Int)]) ∧ cutOf 0 ov l (flaD l) = (x0, cu, l') ∧ RIn w' B b v' rm ov l' ∧ RAct w w' b v v' := by
  by_cases hs : ov = 0 ∧ 4 ≤ l.length
  · have n1 : ¬ l.length < 4 := by omega
    have n0 : ¬ 0 < ov := by omega
    exact rfla_b h hs _ rfl (by have := vlb h.row.lt 0 4; simpa using this) (by unfold cutOf flaD; simp [n0, n1])
  · refine rfla_a h hs ?_
    unfold cutOf flaD
    by_cases h0 : 0 < ov
    · simp [h0]
    · have : l.length < 4 := by omega
      simp [h0, this]
set_option maxHeartbeats 4000000 in
theorem rdat_a {w : World} {B b : Nat} {v : Value} {rm ov : Nat} {l : List Nat} (h : RIn w B b v rm ov l) (a : Int) (ho : (0 : Int) < (ov : Int)) (hres : cutOf [] ov l (datD a l) = ([], 0, l)) :
    Calls Try.prog 48 #[.pointer (some ⟨b, 0, none⟩), .int .i64 a] w fun e w' => ∃ (d : List Nat) (dn cu : Nat) (l' : List Nat) (v' : Value) (ao2 : Option Addr) (cap2 : Nat), e = .returned (.tuple #[.slice ao2 dn cap2, .int .i64 (cu : Int)]) ∧ cutOf [] ov l (datD a l) = (d, cu, l') ∧ d.length = dn ∧ RIn w' B b v' rm ov l' ∧ RAct w w' b v v' ∧ w'.ownsRow w.heap.size 5 1 (.slice ao2 dn cap2) dn (d.map bv) ∧ ∀ g, (Value.slice ao2 dn cap2).ownBlock = some g → v'.ownBlock ≠ some g := by
  have c2 : w.cell? ⟨b, 2, none⟩ = some (.int .u64 (ov : Int)) := h.c 2
  replace hres : Hid _ := hres
  have H0 : Hid _ := Cr.start h
  clear h
  go_enter Try.func48, Try.ntmps48
  go_wp2
  go_ret2
  exact ⟨[], 0, 0, l, _, none, 0, rfl, hres, rfl, H0.out.inb, H0.out.act, H0.out.row, H0.out.rn⟩
set_option maxHeartbeats 4000000 in
theorem rdat_b {w : World} {B b : Nat} {v : Value} {rm ov : Nat} {l : List Nat} (h : RIn w B b v rm ov l) (a : Int) (ho : ov = 0) (ha : a < 0) (hres : cutOf [] ov l (datD a l) = ([], 2, l)) :
    Calls Try.prog 48 #[.pointer (some ⟨b, 0, none⟩), .int .i64 a] w fun e w' => ∃ (d : List Nat) (dn cu : Nat) (l' : List Nat) (v' : Value) (ao2 : Option Addr) (cap2 : Nat), e = .returned (.tuple #[.slice ao2 dn cap2, .int .i64 (cu : Int)]) ∧ cutOf [] ov l (datD a l) = (d, cu, l') ∧ d.length = dn ∧ RIn w' B b v' rm ov l' ∧ RAct w w' b v v' ∧ w'.ownsRow w.heap.size 5 1 (.slice ao2 dn cap2) dn (d.map bv) ∧ ∀ g, (Value.slice ao2 dn cap2).ownBlock = some g → v'.ownBlock ≠ some g := by
  have c2 : w.cell? ⟨b, 2, none⟩ = some (.int .u64 0) := by have := h.c 2; rw [ho] at this; exact this
  clear ho
  replace hres : Hid _ := hres
  have H0 : Hid _ := Cr.start h
  clear h
  go_enter Try.func48, Try.ntmps48
  go_wp2
  go_ret2
  exact ⟨[], 0, 2, l, _, none, 0, rfl, hres, rfl, H0.out.inb, H0.out.act, H0.out.row, H0.out.rn⟩
set_option maxHeartbeats 4000000 in
theorem rdat_c {w : World} {B b : Nat} {v : Value} {rm ov : Nat} {l : List Nat} (h : RIn w B b v rm ov l) (a : Int) (ho : ov = 0) (ha : ¬ a < 0) (hl : (l.length : Int) < a) (hres : cutOf [] ov l (datD a l) = ([], 0, l)) :
    Calls Try.prog 48 #[.pointer (some ⟨b, 0, none⟩), .int .i64 a] w fun e w' => ∃ (d : List Nat) (dn cu : Nat) (l' : List Nat) (v' : Value) (ao2 : Option Addr) (cap2 : Nat), e = .returned (.tuple #[.slice ao2 dn cap2, .int .i64 (cu : Int)]) ∧ cutOf [] ov l (datD a l) = (d, cu, l') ∧ d.length = dn ∧ RIn w' B b v' rm ov l' ∧ RAct w w' b v v' ∧ w'.ownsRow w.heap.size 5 1 (.slice ao2 dn cap2) dn (d.map bv) ∧ ∀ g, (Value.slice ao2 dn cap2).ownBlock = some g → v'.ownBlock ≠ some g := by
  have c2 : w.cell? ⟨b, 2, none⟩ = some (.int .u64 0) := by have := h.c 2; rw [ho] at this; exact this
  obtain ⟨ao, cap, hv, hcr⟩ := h.row.crow
  have c1 : w.cell? ⟨b, 1, none⟩ = some (.slice ao l.length cap) := by rw [← hv]; exact h.c 1
  clear hv hcr ho
  replace hres : Hid _ := hres
  have H0 : Hid _ := Cr.start h
  clear h
  go_enter Try.func48, Try.ntmps48
  go_wp2
  go_ret2
  exact ⟨[], 0, 0, l, _, none, 0, rfl, hres, rfl, H0.out.inb, H0.out.act, H0.out.row, H0.out.rn⟩
set_option maxHeartbeats 4000000 in
theorem rdat_d {w : World} {B b : Nat} {v : Value} {rm ov : Nat} {l : List Nat} (h : RIn w B b v rm ov l) (n : Nat) (ho : ov = 0) (hnl : n ≤ l.length) (hl : ¬ (l.length : Int) < (n : Int)) (hres : cutOf [] ov l (datD (n : Int) l) = (l.take n, 1, l.drop n)) :
    Calls Try.prog 48 #[.pointer (some ⟨b, 0, none⟩), .int .i64 (n : Int)] w fun e w' => ∃ (d : List Nat) (dn cu : Nat) (l' : List Nat) (v' : Value) (ao2 : Option Addr) (cap2 : Nat), e = .returned (.tuple #[.slice ao2 dn cap2, .int .i64 (cu : Int)]) ∧ cutOf [] ov l (datD (n : Int) l) = (d, cu, l') ∧ d.length = dn ∧ RIn w' B b v' rm ov l' ∧ RAct w w' b v v' ∧ w'.ownsRow w.heap.size 5 1 (.slice ao2 dn cap2) dn (d.map bv) ∧ ∀ g, (Value.slice ao2 dn cap2).ownBlock = some g → v'.ownBlock ≠ some g := by
  have c2 : w.cell? ⟨b, 2, none⟩ = some (.int .u64 0) := by have := h.c 2; rw [ho] at this; exact this
  obtain ⟨ao, cap, hv, hcr⟩ := h.row.crow
  have c1 : w.cell? ⟨b, 1, none⟩ = some (.slice ao l.length cap) := by rw [← hv]; exact h.c 1
  clear hv hcr ho
  have ha : ¬ (n : Int) < 0 := by omega
  replace hres : Hid _ := hres
  have H0 : Hid _ := Cr.start h
  clear h
  go_enter Try.func48, Try.ntmps48
  have HA1 : Hid _ := cutR H0.out.inb n hnl
  go_wp2_with fail
  refine Calls.mono HA1.out ?_
  rintro e W1 ⟨ao2, cap2, vn1, rfl, hI, hA, hr, hn⟩
  have hd1 : (l.take (n)).length = n := by rw [List.length_take]; exact Nat.min_eq_left hnl
  have H1 : Hid _ := H0.out.told2 (d' := l.take (n)) hI hA (by rw [hd1]; exact hr) hn
  clear hI hA hr hn H0 HA1
  go_wp2
  go_ret2
  exact ⟨l.take n, n, 1, l.drop n, _, ao2, cap2, rfl, hres, hd1, H1.out.inb, H1.out.act, by have q := H1.out.row; rw [hd1] at q; exact q, H1.out.rn⟩
theorem datR {w : World} {B b : Nat} {v : Value} {rm ov : Nat} {l : List Nat} (h : RIn w B b v rm ov l) (a : Int) : Calls Try.prog 48 #[.pointer (some ⟨b, 0, none⟩), .int .i64 a] w fun e w' => ∃ (d : List Nat) (dn cu : Nat) (l' : List Nat) (v' : Value) (ao2 : Option Addr) (cap2 : Nat), e = .returned (.tuple #[.slice ao2 dn cap2, .int .i64 (cu : Int)]) ∧ cutOf [] ov l (datD a l) = (d, cu, l') ∧ d.length = dn ∧ RIn w' B b v' rm ov l' ∧ RAct w w' b v v' ∧ w'.ownsRow w.heap.size 5 1 (.slice ao2 dn cap2) dn (d.map bv) ∧ ∀ g, (Value.slice ao2 dn cap2).ownBlock = some g → v'.ownBlock ≠ some g := by
  by_cases h0 : 0 < ov
  · exact rdat_a h a (by omega) (by unfold cutOf; simp [h0])
  · have ho : ov = 0 := by omega
    by_cases ha : a < 0
    · exact rdat_b h a ho ha (by unfold cutOf datD; simp [h0, ha])
    · by_cases hl : (l.length : Int) < a
      · exact rdat_c h a ho ha hl (by unfold cutOf datD; simp [h0, ha, hl])
      · obtain ⟨n, rfl⟩ := Int.eq_ofNat_of_zero_le (show 0 ≤ a by omega)
        refine rdat_d h n ho (by omega) hl ?_
        unfold cutOf datD
        rw [if_neg h0, if_neg ha, if_neg hl]
        simp
end Go.Proofs.Ytckfmpoddmccfaa
