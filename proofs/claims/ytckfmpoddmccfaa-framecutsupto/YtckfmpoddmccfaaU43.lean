import Derived.Test.YtckfmpoddmccfaaU40
import Derived.Test.YtckfmpoddmccfaaU37
import Derived.Deep.DeepCutAuto
namespace Go.Proofs.Ytckfmpoddmccfaa
open Go.RowKit
set_option linter.unusedVariables false
set_option linter.unusedSimpArgs false
set_option maxRecDepth 100000
theorem inf_46 : (Try.prog.info? 60).map (·.size) = some 6 := by kernel_rfl
set_option maxHeartbeats 4000000 in
theorem rreqf_a {w : World} {B b : Nat} {v : Value} {rm ov : Nat} {l : List Nat} (h : RIn w B b v rm ov l) (m : Nat) (hm : m < 4294967296) (hs : ¬ (ov = 0 ∧ 28 ≤ l.length)) (hres : cutOf (0, 0, 0, 0, 0, []) ov l (reqD m false l) = ((0, 0, 0, 0, 0, []), 0, l)) :
    Calls Try.prog 46 #[.pointer (some ⟨b, 0, none⟩), .int .u32 m, .bool false] w fun e w' => ∃ (x0 : Nat) (x1 : Nat) (x2 : Nat) (x3 : Nat) (x4 : Nat) (d : List Nat) (dn cu : Nat) (l' : List Nat) (v' : Value) (ao2 : Option Addr) (cap2 : Nat), e = .returned (.tuple #[.agg #[.int .u16 x0, .int .u16 x1, .int .u64 x2, .int .u64 x3, .int .u64 x4, .slice ao2 dn cap2], .int .i64 cu]) ∧ cutOf (0, 0, 0, 0, 0, []) ov l (reqD m false l) = ((x0, x1, x2, x3, x4, d), cu, l') ∧ d.length = dn ∧ RIn w' B b v' rm ov l' ∧ RAct w w' b v v' ∧ w'.ownsRow w.heap.size 5 1 (.slice ao2 dn cap2) dn (d.map bv) ∧ ∀ g, (Value.slice ao2 dn cap2).ownBlock = some g → v'.ownBlock ≠ some g := by
  replace hres : Hid _ := hres
  have h5 : 60 ≠ 5 := by decide
  obtain ⟨W0, hW0⟩ : ∃ W0, W0 = w.alloc (.cells #[.int .u16 0, .int .u16 0, .int .u64 0, .int .u64 0, .int .u64 0, .slice none 0 0] 60) := ⟨_, rfl⟩
  have hC0 := (Cr.start h).alloc #[.int .u16 0, .int .u16 0, .int .u64 0, .int .u64 0, .int .u64 0, .slice none 0 0] 60 h5
  rw [← hW0] at hC0
  have H0 : Hid _ := hC0
  clear hC0
  clear h
  go_enter Try.func46, Try.ntmps46
  have HA1 : Hid _ := hasF H0.out.inb (28) hs
  go_wp2_with fail
  rw [← hW0]
  clear hW0
  refine Calls.mono HA1.out ?_
  rintro e Wn ⟨rfl, hw⟩
  rw [hw]; clear hw Wn HA1
  have y0 : W0.cell? ⟨w.heap.size, 0, none⟩ = some (.int .u16 0) := (H0.out.c (.head _) 0).1
  have yf0 : W0.frozen? ⟨w.heap.size, 0, none⟩ = false := (H0.out.c (.head _) 0).2
  have y1 : W0.cell? ⟨w.heap.size, 1, none⟩ = some (.int .u16 0) := (H0.out.c (.head _) 1).1
  have yf1 : W0.frozen? ⟨w.heap.size, 1, none⟩ = false := (H0.out.c (.head _) 1).2
  have y2 : W0.cell? ⟨w.heap.size, 2, none⟩ = some (.int .u64 0) := (H0.out.c (.head _) 2).1
  have yf2 : W0.frozen? ⟨w.heap.size, 2, none⟩ = false := (H0.out.c (.head _) 2).2
  have y3 : W0.cell? ⟨w.heap.size, 3, none⟩ = some (.int .u64 0) := (H0.out.c (.head _) 3).1
  have yf3 : W0.frozen? ⟨w.heap.size, 3, none⟩ = false := (H0.out.c (.head _) 3).2
  have y4 : W0.cell? ⟨w.heap.size, 4, none⟩ = some (.int .u64 0) := (H0.out.c (.head _) 4).1
  have yf4 : W0.frozen? ⟨w.heap.size, 4, none⟩ = false := (H0.out.c (.head _) 4).2
  have y5 : W0.cell? ⟨w.heap.size, 5, none⟩ = some (.slice none 0 0) := (H0.out.c (.head _) 5).1
  have yf5 : W0.frozen? ⟨w.heap.size, 5, none⟩ = false := (H0.out.c (.head _) 5).2
  have H2 : Hid _ := (Cr.put (pre := []) (Cr.put (pre := []) (Cr.put (pre := []) (Cr.put (pre := []) (Cr.put (pre := []) (Cr.put (pre := []) H0.out 0 (.int .u16 0) (cs' := #[.int .u16 0, .int .u16 0, .int .u64 0, .int .u64 0, .int .u64 0, .slice none 0 0]) rfl) 1 (.int .u16 0) (cs' := #[.int .u16 0, .int .u16 0, .int .u64 0, .int .u64 0, .int .u64 0, .slice none 0 0]) rfl) 2 (.int .u64 0) (cs' := #[.int .u16 0, .int .u16 0, .int .u64 0, .int .u64 0, .int .u64 0, .slice none 0 0]) rfl) 3 (.int .u64 0) (cs' := #[.int .u16 0, .int .u16 0, .int .u64 0, .int .u64 0, .int .u64 0, .slice none 0 0]) rfl) 4 (.int .u64 0) (cs' := #[.int .u16 0, .int .u16 0, .int .u64 0, .int .u64 0, .int .u64 0, .slice none 0 0]) rfl) 5 (.slice none 0 0) (cs' := #[.int .u16 0, .int .u16 0, .int .u64 0, .int .u64 0, .int .u64 0, .slice none 0 0]) rfl)
  clear H0
  go_wp2
  exact bodyPost_ret (results_cell_tmp1 rfl _ _ (w.heap.size) 60 #[.int .u16 0, .int .u16 0, .int .u64 0, .int .u64 0, .int .u64 0, .slice none 0 0] (0, 0) _ rfl (H2.out.box _ (.head _)).1 Try.underlying60 rfl inf_46) rfl ⟨0, 0, 0, 0, 0, [], 0, 0, l, _, none, 0, rfl, hres, rfl, H2.out.inb, H2.out.act, H2.out.row, H2.out.rn⟩
set_option maxHeartbeats 4000000 in
theorem rreqf_b {w : World} {B b : Nat} {v : Value} {rm ov : Nat} {l : List Nat} (h : RIn w B b v rm ov l) (m : Nat) (hm : m < 4294967296) (hs : ov = 0 ∧ 28 ≤ l.length) (hx : ((vl l 0 4 : Int) != 627086611) = true) (hres : cutOf (0, 0, 0, 0, 0, []) ov l (reqD m false l) = ((0, 0, 0, 0, 0, []), 2, l)) :
    Calls Try.prog 46 #[.pointer (some ⟨b, 0, none⟩), .int .u32 m, .bool false] w fun e w' => ∃ (x0 : Nat) (x1 : Nat) (x2 : Nat) (x3 : Nat) (x4 : Nat) (d : List Nat) (dn cu : Nat) (l' : List Nat) (v' : Value) (ao2 : Option Addr) (cap2 : Nat), e = .returned (.tuple #[.agg #[.int .u16 x0, .int .u16 x1, .int .u64 x2, .int .u64 x3, .int .u64 x4, .slice ao2 dn cap2], .int .i64 cu]) ∧ cutOf (0, 0, 0, 0, 0, []) ov l (reqD m false l) = ((x0, x1, x2, x3, x4, d), cu, l') ∧ d.length = dn ∧ RIn w' B b v' rm ov l' ∧ RAct w w' b v v' ∧ w'.ownsRow w.heap.size 5 1 (.slice ao2 dn cap2) dn (d.map bv) ∧ ∀ g, (Value.slice ao2 dn cap2).ownBlock = some g → v'.ownBlock ≠ some g := by
  replace hres : Hid _ := hres
  have h5 : 60 ≠ 5 := by decide
  obtain ⟨W0, hW0⟩ : ∃ W0, W0 = w.alloc (.cells #[.int .u16 0, .int .u16 0, .int .u64 0, .int .u64 0, .int .u64 0, .slice none 0 0] 60) := ⟨_, rfl⟩
  have hC0 := (Cr.start h).alloc #[.int .u16 0, .int .u16 0, .int .u64 0, .int .u64 0, .int .u64 0, .slice none 0 0] 60 h5
  rw [← hW0] at hC0
  have H0 : Hid _ := hC0
  clear hC0
  clear h
  go_enter Try.func46, Try.ntmps46
  have HA1 : Hid _ := hasT H0.out.inb (28) hs
  go_wp2_with fail
  rw [← hW0]
  clear hW0
  refine Calls.mono HA1.out ?_
  rintro e Wn ⟨rfl, hw⟩
  rw [hw]; clear hw Wn HA1
  have HA2 : Hid _ := uRx H0.out.inb 0 4 (by have := hs.2; omega) (by decide) (by decide) rfl
  go_wp2_with fail
  refine Calls.mono HA2.out ?_
  rintro e W2 ⟨rfl, hb⟩
  have H2 : Hid _ := H0.out.later hb
  clear hb H0 HA2
  have y0 : W2.cell? ⟨w.heap.size, 0, none⟩ = some (.int .u16 0) := (H2.out.c (.head _) 0).1
  have yf0 : W2.frozen? ⟨w.heap.size, 0, none⟩ = false := (H2.out.c (.head _) 0).2
  have y1 : W2.cell? ⟨w.heap.size, 1, none⟩ = some (.int .u16 0) := (H2.out.c (.head _) 1).1
  have yf1 : W2.frozen? ⟨w.heap.size, 1, none⟩ = false := (H2.out.c (.head _) 1).2
  have y2 : W2.cell? ⟨w.heap.size, 2, none⟩ = some (.int .u64 0) := (H2.out.c (.head _) 2).1
  have yf2 : W2.frozen? ⟨w.heap.size, 2, none⟩ = false := (H2.out.c (.head _) 2).2
  have y3 : W2.cell? ⟨w.heap.size, 3, none⟩ = some (.int .u64 0) := (H2.out.c (.head _) 3).1
  have yf3 : W2.frozen? ⟨w.heap.size, 3, none⟩ = false := (H2.out.c (.head _) 3).2
  have y4 : W2.cell? ⟨w.heap.size, 4, none⟩ = some (.int .u64 0) := (H2.out.c (.head _) 4).1
  have yf4 : W2.frozen? ⟨w.heap.size, 4, none⟩ = false := (H2.out.c (.head _) 4).2
  have y5 : W2.cell? ⟨w.heap.size, 5, none⟩ = some (.slice none 0 0) := (H2.out.c (.head _) 5).1
  have yf5 : W2.frozen? ⟨w.heap.size, 5, none⟩ = false := (H2.out.c (.head _) 5).2
  have H3 : Hid _ := (Cr.put (pre := []) (Cr.put (pre := []) (Cr.put (pre := []) (Cr.put (pre := []) (Cr.put (pre := []) (Cr.put (pre := []) H2.out 0 (.int .u16 0) (cs' := #[.int .u16 0, .int .u16 0, .int .u64 0, .int .u64 0, .int .u64 0, .slice none 0 0]) rfl) 1 (.int .u16 0) (cs' := #[.int .u16 0, .int .u16 0, .int .u64 0, .int .u64 0, .int .u64 0, .slice none 0 0]) rfl) 2 (.int .u64 0) (cs' := #[.int .u16 0, .int .u16 0, .int .u64 0, .int .u64 0, .int .u64 0, .slice none 0 0]) rfl) 3 (.int .u64 0) (cs' := #[.int .u16 0, .int .u16 0, .int .u64 0, .int .u64 0, .int .u64 0, .slice none 0 0]) rfl) 4 (.int .u64 0) (cs' := #[.int .u16 0, .int .u16 0, .int .u64 0, .int .u64 0, .int .u64 0, .slice none 0 0]) rfl) 5 (.slice none 0 0) (cs' := #[.int .u16 0, .int .u16 0, .int .u64 0, .int .u64 0, .int .u64 0, .slice none 0 0]) rfl)
  clear H2
  go_wp2
  exact bodyPost_ret (results_cell_tmp1 rfl _ _ (w.heap.size) 60 #[.int .u16 0, .int .u16 0, .int .u64 0, .int .u64 0, .int .u64 0, .slice none 0 0] (0, 0) _ rfl (H3.out.box _ (.head _)).1 Try.underlying60 rfl inf_46) rfl ⟨0, 0, 0, 0, 0, [], 0, 2, l, _, none, 0, rfl, hres, rfl, H3.out.inb, H3.out.act, H3.out.row, H3.out.rn⟩
set_option maxHeartbeats 4000000 in
theorem rreqf_c {w : World} {B b : Nat} {v : Value} {rm ov : Nat} {l : List Nat} (h : RIn w B b v rm ov l) (m : Nat) (hm : m < 4294967296) (hs : ov = 0 ∧ 28 ≤ l.length) (hx : vl l 0 4 = 627086611) (x0 x1 x2 x3 x4 : Nat) (hx0 : vl l 4 2 = x0) (hx1 : vl l 6 2 = x1) (hx2 : vl l 8 8 = x2) (hx3 : vl l 16 8 = x3) (hx4 : vl l 24 4 = x4) (b0 : x0 < 65536) (b1 : x1 < 65536) (b2 : x2 < 18446744073709551616) (b3 : x3 < 18446744073709551616) (b4 : x4 < 18446744073709551616) (hpay : ((x1 : Int) == 1) = true) (hmk : (m : Int) < (x4 : Int)) (hres : cutOf (0, 0, 0, 0, 0, []) ov l (reqD m false l) = ((0, 0, 0, 0, 0, []), 3, l)) :
    Calls Try.prog 46 #[.pointer (some ⟨b, 0, none⟩), .int .u32 m, .bool false] w fun e w' => ∃ (x0 : Nat) (x1 : Nat) (x2 : Nat) (x3 : Nat) (x4 : Nat) (d : List Nat) (dn cu : Nat) (l' : List Nat) (v' : Value) (ao2 : Option Addr) (cap2 : Nat), e = .returned (.tuple #[.agg #[.int .u16 x0, .int .u16 x1, .int .u64 x2, .int .u64 x3, .int .u64 x4, .slice ao2 dn cap2], .int .i64 cu]) ∧ cutOf (0, 0, 0, 0, 0, []) ov l (reqD m false l) = ((x0, x1, x2, x3, x4, d), cu, l') ∧ d.length = dn ∧ RIn w' B b v' rm ov l' ∧ RAct w w' b v v' ∧ w'.ownsRow w.heap.size 5 1 (.slice ao2 dn cap2) dn (d.map bv) ∧ ∀ g, (Value.slice ao2 dn cap2).ownBlock = some g → v'.ownBlock ≠ some g := by
  replace hres : Hid _ := hres
  have h5 : 60 ≠ 5 := by decide
  obtain ⟨W0, hW0⟩ : ∃ W0, W0 = w.alloc (.cells #[.int .u16 0, .int .u16 0, .int .u64 0, .int .u64 0, .int .u64 0, .slice none 0 0] 60) := ⟨_, rfl⟩
  have hC0 := (Cr.start h).alloc #[.int .u16 0, .int .u16 0, .int .u64 0, .int .u64 0, .int .u64 0, .slice none 0 0] 60 h5
  rw [← hW0] at hC0
  have H0 : Hid _ := hC0
  clear hC0
  clear h
  go_enter Try.func46, Try.ntmps46
  have HA1 : Hid _ := hasT H0.out.inb (28) hs
  go_wp2_with fail
  rw [← hW0]
  clear hW0
  refine Calls.mono HA1.out ?_
  rintro e Wn ⟨rfl, hw⟩
  rw [hw]; clear hw Wn HA1
  have HA2 : Hid _ := uRx H0.out.inb 0 4 (by have := hs.2; omega) (by decide) (by decide) hx
  go_wp2_with fail
  refine Calls.mono HA2.out ?_
  rintro e W2 ⟨rfl, hb⟩
  have H2 : Hid _ := H0.out.later hb
  clear hb H0 HA2
  have HA3 : Hid _ := uRx H2.out.inb 4 2 (by have := hs.2; omega) (by decide) (by decide) hx0
  go_wp2_with fail
  refine Calls.mono HA3.out ?_
  rintro e W3 ⟨rfl, hb⟩
  have H3 : Hid _ := H2.out.later hb
  clear hb H2 HA3
  have HA4 : Hid _ := uRx H3.out.inb 6 2 (by have := hs.2; omega) (by decide) (by decide) hx1
  go_wp2_with fail
  refine Calls.mono HA4.out ?_
  rintro e W4 ⟨rfl, hb⟩
  have H4 : Hid _ := H3.out.later hb
  clear hb H3 HA4
  have HA5 : Hid _ := uRx H4.out.inb 8 8 (by have := hs.2; omega) (by decide) (by decide) hx2
  go_wp2_with fail
  refine Calls.mono HA5.out ?_
  rintro e W5 ⟨rfl, hb⟩
  have H5 : Hid _ := H4.out.later hb
  clear hb H4 HA5
  have HA6 : Hid _ := uRx H5.out.inb 16 8 (by have := hs.2; omega) (by decide) (by decide) hx3
  go_wp2_with fail
  refine Calls.mono HA6.out ?_
  rintro e W6 ⟨rfl, hb⟩
  have H6 : Hid _ := H5.out.later hb
  clear hb H5 HA6
  have HA7 : Hid _ := uRx H6.out.inb 24 4 (by have := hs.2; omega) (by decide) (by decide) hx4
  go_wp2_with fail
  refine Calls.mono HA7.out ?_
  rintro e W7 ⟨rfl, hb⟩
  have H7 : Hid _ := H6.out.later hb
  clear hb H6 HA7
  have hq := H7.out.alloc #[.int .u16 x0, .int .u16 x1, .int .u64 x2, .int .u64 x3, .int .u64 x4, .slice none 0 0] 60 (by decide)
  generalize hW8 : W7.alloc (.cells #[.int .u16 x0, .int .u16 x1, .int .u64 x2, .int .u64 x3, .int .u64 x4, .slice none 0 0] 60) = W8 at hq
  have H8 : Hid _ := hq
  clear hq H7
  have HW8 : Hid _ := hW8
  clear hW8
  go_upto_region 12 with fail
  rw [show _ = _ from HW8.out]
  clear HW8
  have q0 : W8.cell? ⟨W7.heap.size, 0, none⟩ = some (.int .u16 x0) := (H8.out.c (.head _) 0).1
  have q1 : W8.cell? ⟨W7.heap.size, 1, none⟩ = some (.int .u16 x1) := (H8.out.c (.head _) 1).1
  have q2 : W8.cell? ⟨W7.heap.size, 2, none⟩ = some (.int .u64 x2) := (H8.out.c (.head _) 2).1
  have q3 : W8.cell? ⟨W7.heap.size, 3, none⟩ = some (.int .u64 x3) := (H8.out.c (.head _) 3).1
  have q4 : W8.cell? ⟨W7.heap.size, 4, none⟩ = some (.int .u64 x4) := (H8.out.c (.head _) 4).1
  have q5 : W8.cell? ⟨W7.heap.size, 5, none⟩ = some (.slice none 0 0) := (H8.out.c (.head _) 5).1
  have y0 : W8.cell? ⟨w.heap.size, 0, none⟩ = some (.int .u16 0) := (H8.out.c (.tail _ (.head _)) 0).1
  have yf0 : W8.frozen? ⟨w.heap.size, 0, none⟩ = false := (H8.out.c (.tail _ (.head _)) 0).2
  have y1 : W8.cell? ⟨w.heap.size, 1, none⟩ = some (.int .u16 0) := (H8.out.c (.tail _ (.head _)) 1).1
  have yf1 : W8.frozen? ⟨w.heap.size, 1, none⟩ = false := (H8.out.c (.tail _ (.head _)) 1).2
  have y2 : W8.cell? ⟨w.heap.size, 2, none⟩ = some (.int .u64 0) := (H8.out.c (.tail _ (.head _)) 2).1
  have yf2 : W8.frozen? ⟨w.heap.size, 2, none⟩ = false := (H8.out.c (.tail _ (.head _)) 2).2
  have y3 : W8.cell? ⟨w.heap.size, 3, none⟩ = some (.int .u64 0) := (H8.out.c (.tail _ (.head _)) 3).1
  have yf3 : W8.frozen? ⟨w.heap.size, 3, none⟩ = false := (H8.out.c (.tail _ (.head _)) 3).2
  have y4 : W8.cell? ⟨w.heap.size, 4, none⟩ = some (.int .u64 0) := (H8.out.c (.tail _ (.head _)) 4).1
  have yf4 : W8.frozen? ⟨w.heap.size, 4, none⟩ = false := (H8.out.c (.tail _ (.head _)) 4).2
  have y5 : W8.cell? ⟨w.heap.size, 5, none⟩ = some (.slice none 0 0) := (H8.out.c (.tail _ (.head _)) 5).1
  have yf5 : W8.frozen? ⟨w.heap.size, 5, none⟩ = false := (H8.out.c (.tail _ (.head _)) 5).2
  have H9 : Hid _ := (Cr.put (pre := [(W7.heap.size, #[.int .u16 x0, .int .u16 x1, .int .u64 x2, .int .u64 x3, .int .u64 x4, .slice none 0 0], 60)]) (Cr.put (pre := [(W7.heap.size, #[.int .u16 x0, .int .u16 x1, .int .u64 x2, .int .u64 x3, .int .u64 x4, .slice none 0 0], 60)]) (Cr.put (pre := [(W7.heap.size, #[.int .u16 x0, .int .u16 x1, .int .u64 x2, .int .u64 x3, .int .u64 x4, .slice none 0 0], 60)]) (Cr.put (pre := [(W7.heap.size, #[.int .u16 x0, .int .u16 x1, .int .u64 x2, .int .u64 x3, .int .u64 x4, .slice none 0 0], 60)]) (Cr.put (pre := [(W7.heap.size, #[.int .u16 x0, .int .u16 x1, .int .u64 x2, .int .u64 x3, .int .u64 x4, .slice none 0 0], 60)]) (Cr.put (pre := [(W7.heap.size, #[.int .u16 x0, .int .u16 x1, .int .u64 x2, .int .u64 x3, .int .u64 x4, .slice none 0 0], 60)]) H8.out 0 (.int .u16 0) (cs' := #[.int .u16 0, .int .u16 0, .int .u64 0, .int .u64 0, .int .u64 0, .slice none 0 0]) rfl) 1 (.int .u16 0) (cs' := #[.int .u16 0, .int .u16 0, .int .u64 0, .int .u64 0, .int .u64 0, .slice none 0 0]) rfl) 2 (.int .u64 0) (cs' := #[.int .u16 0, .int .u16 0, .int .u64 0, .int .u64 0, .int .u64 0, .slice none 0 0]) rfl) 3 (.int .u64 0) (cs' := #[.int .u16 0, .int .u16 0, .int .u64 0, .int .u64 0, .int .u64 0, .slice none 0 0]) rfl) 4 (.int .u64 0) (cs' := #[.int .u16 0, .int .u16 0, .int .u64 0, .int .u64 0, .int .u64 0, .slice none 0 0]) rfl) 5 (.slice none 0 0) (cs' := #[.int .u16 0, .int .u16 0, .int .u64 0, .int .u64 0, .int .u64 0, .slice none 0 0]) rfl)
  clear H8
  go_wp2
  exact bodyPost_ret (results_cell_tmp1 rfl _ _ (w.heap.size) 60 #[.int .u16 0, .int .u16 0, .int .u64 0, .int .u64 0, .int .u64 0, .slice none 0 0] (0, 0) _ rfl (H9.out.box _ (.tail _ (.head _))).1 Try.underlying60 rfl inf_46) rfl ⟨0, 0, 0, 0, 0, [], 0, 3, l, _, none, 0, rfl, hres, rfl, H9.out.inb, H9.out.act, H9.out.row, H9.out.rn⟩
set_option maxHeartbeats 4000000 in
theorem rreqf_d {w : World} {B b : Nat} {v : Value} {rm ov : Nat} {l : List Nat} (h : RIn w B b v rm ov l) (m : Nat) (hm : m < 4294967296) (hs : ov = 0 ∧ 28 ≤ l.length) (hx : vl l 0 4 = 627086611) (x0 x1 x2 x3 x4 : Nat) (hx0 : vl l 4 2 = x0) (hx1 : vl l 6 2 = x1) (hx2 : vl l 8 8 = x2) (hx3 : vl l 16 8 = x3) (hx4 : vl l 24 4 = x4) (b0 : x0 < 65536) (b1 : x1 < 65536) (b2 : x2 < 18446744073709551616) (b3 : x3 < 18446744073709551616) (b4 : x4 < 18446744073709551616) (hpay : ((x1 : Int) == 1) = true) (hmk : ¬ (m : Int) < (x4 : Int)) (hs2 : ¬ (ov = 0 ∧ 28 + x4 ≤ l.length)) (hres : cutOf (0, 0, 0, 0, 0, []) ov l (reqD m false l) = ((0, 0, 0, 0, 0, []), 0, l)) :
    Calls Try.prog 46 #[.pointer (some ⟨b, 0, none⟩), .int .u32 m, .bool false] w fun e w' => ∃ (x0 : Nat) (x1 : Nat) (x2 : Nat) (x3 : Nat) (x4 : Nat) (d : List Nat) (dn cu : Nat) (l' : List Nat) (v' : Value) (ao2 : Option Addr) (cap2 : Nat), e = .returned (.tuple #[.agg #[.int .u16 x0, .int .u16 x1, .int .u64 x2, .int .u64 x3, .int .u64 x4, .slice ao2 dn cap2], .int .i64 cu]) ∧ cutOf (0, 0, 0, 0, 0, []) ov l (reqD m false l) = ((x0, x1, x2, x3, x4, d), cu, l') ∧ d.length = dn ∧ RIn w' B b v' rm ov l' ∧ RAct w w' b v v' ∧ w'.ownsRow w.heap.size 5 1 (.slice ao2 dn cap2) dn (d.map bv) ∧ ∀ g, (Value.slice ao2 dn cap2).ownBlock = some g → v'.ownBlock ≠ some g := by
  replace hres : Hid _ := hres
  have h5 : 60 ≠ 5 := by decide
  obtain ⟨W0, hW0⟩ : ∃ W0, W0 = w.alloc (.cells #[.int .u16 0, .int .u16 0, .int .u64 0, .int .u64 0, .int .u64 0, .slice none 0 0] 60) := ⟨_, rfl⟩
  have hC0 := (Cr.start h).alloc #[.int .u16 0, .int .u16 0, .int .u64 0, .int .u64 0, .int .u64 0, .slice none 0 0] 60 h5
  rw [← hW0] at hC0
  have H0 : Hid _ := hC0
  clear hC0
  clear h
  go_enter Try.func46, Try.ntmps46
  have HA1 : Hid _ := hasT H0.out.inb (28) hs
  go_wp2_with fail
  rw [← hW0]
  clear hW0
  refine Calls.mono HA1.out ?_
  rintro e Wn ⟨rfl, hw⟩
  rw [hw]; clear hw Wn HA1
  have HA2 : Hid _ := uRx H0.out.inb 0 4 (by have := hs.2; omega) (by decide) (by decide) hx
  go_wp2_with fail
  refine Calls.mono HA2.out ?_
  rintro e W2 ⟨rfl, hb⟩
  have H2 : Hid _ := H0.out.later hb
  clear hb H0 HA2
  have HA3 : Hid _ := uRx H2.out.inb 4 2 (by have := hs.2; omega) (by decide) (by decide) hx0
  go_wp2_with fail
  refine Calls.mono HA3.out ?_
  rintro e W3 ⟨rfl, hb⟩
  have H3 : Hid _ := H2.out.later hb
  clear hb H2 HA3
  have HA4 : Hid _ := uRx H3.out.inb 6 2 (by have := hs.2; omega) (by decide) (by decide) hx1
  go_wp2_with fail
  refine Calls.mono HA4.out ?_
  rintro e W4 ⟨rfl, hb⟩
  have H4 : Hid _ := H3.out.later hb
  clear hb H3 HA4
  have HA5 : Hid _ := uRx H4.out.inb 8 8 (by have := hs.2; omega) (by decide) (by decide) hx2
  go_wp2_with fail
  refine Calls.mono HA5.out ?_
  rintro e W5 ⟨rfl, hb⟩
  have H5 : Hid _ := H4.out.later hb
  clear hb H4 HA5
  have HA6 : Hid _ := uRx H5.out.inb 16 8 (by have := hs.2; omega) (by decide) (by decide) hx3
  go_wp2_with fail
  refine Calls.mono HA6.out ?_
  rintro e W6 ⟨rfl, hb⟩
  have H6 : Hid _ := H5.out.later hb
  clear hb H5 HA6
  have HA7 : Hid _ := uRx H6.out.inb 24 4 (by have := hs.2; omega) (by decide) (by decide) hx4
  go_wp2_with fail
  refine Calls.mono HA7.out ?_
  rintro e W7 ⟨rfl, hb⟩
  have H7 : Hid _ := H6.out.later hb
  clear hb H6 HA7
  have hq := H7.out.alloc #[.int .u16 x0, .int .u16 x1, .int .u64 x2, .int .u64 x3, .int .u64 x4, .slice none 0 0] 60 (by decide)
  generalize hW8 : W7.alloc (.cells #[.int .u16 x0, .int .u16 x1, .int .u64 x2, .int .u64 x3, .int .u64 x4, .slice none 0 0] 60) = W8 at hq
  have H8 : Hid _ := hq
  clear hq H7
  have HW8 : Hid _ := hW8
  clear hW8
  go_upto_region 12 with fail
  rw [show _ = _ from HW8.out]
  clear HW8
  have q0 : W8.cell? ⟨W7.heap.size, 0, none⟩ = some (.int .u16 x0) := (H8.out.c (.head _) 0).1
  have q1 : W8.cell? ⟨W7.heap.size, 1, none⟩ = some (.int .u16 x1) := (H8.out.c (.head _) 1).1
  have q2 : W8.cell? ⟨W7.heap.size, 2, none⟩ = some (.int .u64 x2) := (H8.out.c (.head _) 2).1
  have q3 : W8.cell? ⟨W7.heap.size, 3, none⟩ = some (.int .u64 x3) := (H8.out.c (.head _) 3).1
  have q4 : W8.cell? ⟨W7.heap.size, 4, none⟩ = some (.int .u64 x4) := (H8.out.c (.head _) 4).1
  have q5 : W8.cell? ⟨W7.heap.size, 5, none⟩ = some (.slice none 0 0) := (H8.out.c (.head _) 5).1
  have HA9 : Hid _ := hasFz H8.out.inb (28 + x4) (28 + (x4 : Int)) (by omega) hs2
  go_wp2_with fail
  refine Calls.mono HA9.out ?_
  rintro e Wn ⟨rfl, hw⟩
  rw [hw]; clear hw Wn HA9
  clear q0 q1 q2 q3 q4 q5
  have y0 : W8.cell? ⟨w.heap.size, 0, none⟩ = some (.int .u16 0) := (H8.out.c (.tail _ (.head _)) 0).1
  have yf0 : W8.frozen? ⟨w.heap.size, 0, none⟩ = false := (H8.out.c (.tail _ (.head _)) 0).2
  have y1 : W8.cell? ⟨w.heap.size, 1, none⟩ = some (.int .u16 0) := (H8.out.c (.tail _ (.head _)) 1).1
  have yf1 : W8.frozen? ⟨w.heap.size, 1, none⟩ = false := (H8.out.c (.tail _ (.head _)) 1).2
  have y2 : W8.cell? ⟨w.heap.size, 2, none⟩ = some (.int .u64 0) := (H8.out.c (.tail _ (.head _)) 2).1
  have yf2 : W8.frozen? ⟨w.heap.size, 2, none⟩ = false := (H8.out.c (.tail _ (.head _)) 2).2
  have y3 : W8.cell? ⟨w.heap.size, 3, none⟩ = some (.int .u64 0) := (H8.out.c (.tail _ (.head _)) 3).1
  have yf3 : W8.frozen? ⟨w.heap.size, 3, none⟩ = false := (H8.out.c (.tail _ (.head _)) 3).2
  have y4 : W8.cell? ⟨w.heap.size, 4, none⟩ = some (.int .u64 0) := (H8.out.c (.tail _ (.head _)) 4).1
  have yf4 : W8.frozen? ⟨w.heap.size, 4, none⟩ = false := (H8.out.c (.tail _ (.head _)) 4).2
  have y5 : W8.cell? ⟨w.heap.size, 5, none⟩ = some (.slice none 0 0) := (H8.out.c (.tail _ (.head _)) 5).1
  have yf5 : W8.frozen? ⟨w.heap.size, 5, none⟩ = false := (H8.out.c (.tail _ (.head _)) 5).2
  have H10 : Hid _ := (Cr.put (pre := [(W7.heap.size, #[.int .u16 x0, .int .u16 x1, .int .u64 x2, .int .u64 x3, .int .u64 x4, .slice none 0 0], 60)]) (Cr.put (pre := [(W7.heap.size, #[.int .u16 x0, .int .u16 x1, .int .u64 x2, .int .u64 x3, .int .u64 x4, .slice none 0 0], 60)]) (Cr.put (pre := [(W7.heap.size, #[.int .u16 x0, .int .u16 x1, .int .u64 x2, .int .u64 x3, .int .u64 x4, .slice none 0 0], 60)]) (Cr.put (pre := [(W7.heap.size, #[.int .u16 x0, .int .u16 x1, .int .u64 x2, .int .u64 x3, .int .u64 x4, .slice none 0 0], 60)]) (Cr.put (pre := [(W7.heap.size, #[.int .u16 x0, .int .u16 x1, .int .u64 x2, .int .u64 x3, .int .u64 x4, .slice none 0 0], 60)]) (Cr.put (pre := [(W7.heap.size, #[.int .u16 x0, .int .u16 x1, .int .u64 x2, .int .u64 x3, .int .u64 x4, .slice none 0 0], 60)]) H8.out 0 (.int .u16 0) (cs' := #[.int .u16 0, .int .u16 0, .int .u64 0, .int .u64 0, .int .u64 0, .slice none 0 0]) rfl) 1 (.int .u16 0) (cs' := #[.int .u16 0, .int .u16 0, .int .u64 0, .int .u64 0, .int .u64 0, .slice none 0 0]) rfl) 2 (.int .u64 0) (cs' := #[.int .u16 0, .int .u16 0, .int .u64 0, .int .u64 0, .int .u64 0, .slice none 0 0]) rfl) 3 (.int .u64 0) (cs' := #[.int .u16 0, .int .u16 0, .int .u64 0, .int .u64 0, .int .u64 0, .slice none 0 0]) rfl) 4 (.int .u64 0) (cs' := #[.int .u16 0, .int .u16 0, .int .u64 0, .int .u64 0, .int .u64 0, .slice none 0 0]) rfl) 5 (.slice none 0 0) (cs' := #[.int .u16 0, .int .u16 0, .int .u64 0, .int .u64 0, .int .u64 0, .slice none 0 0]) rfl)
  clear H8
  go_wp2
  exact bodyPost_ret (results_cell_tmp1 rfl _ _ (w.heap.size) 60 #[.int .u16 0, .int .u16 0, .int .u64 0, .int .u64 0, .int .u64 0, .slice none 0 0] (0, 0) _ rfl (H10.out.box _ (.tail _ (.head _))).1 Try.underlying60 rfl inf_46) rfl ⟨0, 0, 0, 0, 0, [], 0, 0, l, _, none, 0, rfl, hres, rfl, H10.out.inb, H10.out.act, H10.out.row, H10.out.rn⟩
set_option maxHeartbeats 4000000 in
theorem rreqf_e {w : World} {B b : Nat} {v : Value} {rm ov : Nat} {l : List Nat} (h : RIn w B b v rm ov l) (m : Nat) (hm : m < 4294967296) (hs : ov = 0 ∧ 28 ≤ l.length) (hx : vl l 0 4 = 627086611) (x0 x1 x2 x3 x4 : Nat) (hx0 : vl l 4 2 = x0) (hx1 : vl l 6 2 = x1) (hx2 : vl l 8 8 = x2) (hx3 : vl l 16 8 = x3) (hx4 : vl l 24 4 = x4) (b0 : x0 < 65536) (b1 : x1 < 65536) (b2 : x2 < 18446744073709551616) (b3 : x3 < 18446744073709551616) (b4 : x4 < 18446744073709551616) (hpay : ((x1 : Int) == 1) = true) (hmk : ¬ (m : Int) < (x4 : Int)) (hs2 : ov = 0 ∧ 28 + x4 ≤ l.length) (hres : cutOf (0, 0, 0, 0, 0, []) ov l (reqD m false l) = ((x0, x1, x2, x3, x4, (l.drop 28).take x4), 1, (l.drop 28).drop x4)) :
    Calls Try.prog 46 #[.pointer (some ⟨b, 0, none⟩), .int .u32 m, .bool false] w fun e w' => ∃ (x0 : Nat) (x1 : Nat) (x2 : Nat) (x3 : Nat) (x4 : Nat) (d : List Nat) (dn cu : Nat) (l' : List Nat) (v' : Value) (ao2 : Option Addr) (cap2 : Nat), e = .returned (.tuple #[.agg #[.int .u16 x0, .int .u16 x1, .int .u64 x2, .int .u64 x3, .int .u64 x4, .slice ao2 dn cap2], .int .i64 cu]) ∧ cutOf (0, 0, 0, 0, 0, []) ov l (reqD m false l) = ((x0, x1, x2, x3, x4, d), cu, l') ∧ d.length = dn ∧ RIn w' B b v' rm ov l' ∧ RAct w w' b v v' ∧ w'.ownsRow w.heap.size 5 1 (.slice ao2 dn cap2) dn (d.map bv) ∧ ∀ g, (Value.slice ao2 dn cap2).ownBlock = some g → v'.ownBlock ≠ some g := by
  replace hres : Hid _ := hres
  have h5 : 60 ≠ 5 := by decide
  obtain ⟨W0, hW0⟩ : ∃ W0, W0 = w.alloc (.cells #[.int .u16 0, .int .u16 0, .int .u64 0, .int .u64 0, .int .u64 0, .slice none 0 0] 60) := ⟨_, rfl⟩
  have hC0 := (Cr.start h).alloc #[.int .u16 0, .int .u16 0, .int .u64 0, .int .u64 0, .int .u64 0, .slice none 0 0] 60 h5
  rw [← hW0] at hC0
  have H0 : Hid _ := hC0
  clear hC0
  clear h
  go_enter Try.func46, Try.ntmps46
  have HA1 : Hid _ := hasT H0.out.inb (28) hs
  go_wp2_with fail
  rw [← hW0]
  clear hW0
  refine Calls.mono HA1.out ?_
  rintro e Wn ⟨rfl, hw⟩
  rw [hw]; clear hw Wn HA1
  have HA2 : Hid _ := uRx H0.out.inb 0 4 (by have := hs.2; omega) (by decide) (by decide) hx
  go_wp2_with fail
  refine Calls.mono HA2.out ?_
  rintro e W2 ⟨rfl, hb⟩
  have H2 : Hid _ := H0.out.later hb
  clear hb H0 HA2
  have HA3 : Hid _ := uRx H2.out.inb 4 2 (by have := hs.2; omega) (by decide) (by decide) hx0
  go_wp2_with fail
  refine Calls.mono HA3.out ?_
  rintro e W3 ⟨rfl, hb⟩
  have H3 : Hid _ := H2.out.later hb
  clear hb H2 HA3
  have HA4 : Hid _ := uRx H3.out.inb 6 2 (by have := hs.2; omega) (by decide) (by decide) hx1
  go_wp2_with fail
  refine Calls.mono HA4.out ?_
  rintro e W4 ⟨rfl, hb⟩
  have H4 : Hid _ := H3.out.later hb
  clear hb H3 HA4
  have HA5 : Hid _ := uRx H4.out.inb 8 8 (by have := hs.2; omega) (by decide) (by decide) hx2
  go_wp2_with fail
  refine Calls.mono HA5.out ?_
  rintro e W5 ⟨rfl, hb⟩
  have H5 : Hid _ := H4.out.later hb
  clear hb H4 HA5
  have HA6 : Hid _ := uRx H5.out.inb 16 8 (by have := hs.2; omega) (by decide) (by decide) hx3
  go_wp2_with fail
  refine Calls.mono HA6.out ?_
  rintro e W6 ⟨rfl, hb⟩
  have H6 : Hid _ := H5.out.later hb
  clear hb H5 HA6
  have HA7 : Hid _ := uRx H6.out.inb 24 4 (by have := hs.2; omega) (by decide) (by decide) hx4
  go_wp2_with fail
  refine Calls.mono HA7.out ?_
  rintro e W7 ⟨rfl, hb⟩
  have H7 : Hid _ := H6.out.later hb
  clear hb H6 HA7
  have hq := H7.out.alloc #[.int .u16 x0, .int .u16 x1, .int .u64 x2, .int .u64 x3, .int .u64 x4, .slice none 0 0] 60 (by decide)
  generalize hW8 : W7.alloc (.cells #[.int .u16 x0, .int .u16 x1, .int .u64 x2, .int .u64 x3, .int .u64 x4, .slice none 0 0] 60) = W8 at hq
  have H8 : Hid _ := hq
  clear hq H7
  have HW8 : Hid _ := hW8
  clear hW8
  go_upto_region 12 with fail
  rw [show _ = _ from HW8.out]
  clear HW8
  have q0 : W8.cell? ⟨W7.heap.size, 0, none⟩ = some (.int .u16 x0) := (H8.out.c (.head _) 0).1
  have q1 : W8.cell? ⟨W7.heap.size, 1, none⟩ = some (.int .u16 x1) := (H8.out.c (.head _) 1).1
  have q2 : W8.cell? ⟨W7.heap.size, 2, none⟩ = some (.int .u64 x2) := (H8.out.c (.head _) 2).1
  have q3 : W8.cell? ⟨W7.heap.size, 3, none⟩ = some (.int .u64 x3) := (H8.out.c (.head _) 3).1
  have q4 : W8.cell? ⟨W7.heap.size, 4, none⟩ = some (.int .u64 x4) := (H8.out.c (.head _) 4).1
  have q5 : W8.cell? ⟨W7.heap.size, 5, none⟩ = some (.slice none 0 0) := (H8.out.c (.head _) 5).1
  have HA9 : Hid _ := hasTz H8.out.inb (28 + x4) (28 + (x4 : Int)) (by omega) hs2
  go_wp2_with fail
  refine Calls.mono HA9.out ?_
  rintro e Wn ⟨rfl, hw⟩
  rw [hw]; clear hw Wn HA9
  clear q0 q1 q2 q3 q4 q5
  have HA10 : Hid _ := cutR H8.out.inb 28 (by have := hs.2; omega)
  go_wp2_with fail
  refine Calls.mono HA10.out ?_
  rintro e W10 ⟨ao1, cap1, vn10, rfl, hI, hA, hr, hn⟩
  have hd10 : (l.take (28)).length = 28 := by rw [List.length_take]; exact Nat.min_eq_left (by have := hs.2; omega)
  have H10 : Hid _ := H8.out.told2 (d' := l.take (28)) hI hA (by rw [hd10]; exact hr) hn
  clear hI hA hr hn H8 HA10
  have HA11 : Hid _ := cutR H10.out.inb x4 (by have := hs2.2; rw [List.length_drop]; omega)
  go_wp2_with fail
  refine Calls.mono HA11.out ?_
  rintro e W11 ⟨ao2, cap2, vn11, rfl, hI, hA, hr, hn⟩
  have hd11 : ((l.drop 28).take (x4)).length = x4 := by rw [List.length_take]; exact Nat.min_eq_left (by have := hs2.2; rw [List.length_drop]; omega)
  have H11 : Hid _ := H10.out.told2 (d' := (l.drop 28).take (x4)) hI hA (by rw [hd11]; exact hr) hn
  clear hI hA hr hn H10 HA11
  have q0 : W11.cell? ⟨W7.heap.size, 0, none⟩ = some (.int .u16 x0) := (H11.out.c (.head _) 0).1
  have qf0 : W11.frozen? ⟨W7.heap.size, 0, none⟩ = false := (H11.out.c (.head _) 0).2
  have q1 : W11.cell? ⟨W7.heap.size, 1, none⟩ = some (.int .u16 x1) := (H11.out.c (.head _) 1).1
  have qf1 : W11.frozen? ⟨W7.heap.size, 1, none⟩ = false := (H11.out.c (.head _) 1).2
  have q2 : W11.cell? ⟨W7.heap.size, 2, none⟩ = some (.int .u64 x2) := (H11.out.c (.head _) 2).1
  have qf2 : W11.frozen? ⟨W7.heap.size, 2, none⟩ = false := (H11.out.c (.head _) 2).2
  have q3 : W11.cell? ⟨W7.heap.size, 3, none⟩ = some (.int .u64 x3) := (H11.out.c (.head _) 3).1
  have qf3 : W11.frozen? ⟨W7.heap.size, 3, none⟩ = false := (H11.out.c (.head _) 3).2
  have q4 : W11.cell? ⟨W7.heap.size, 4, none⟩ = some (.int .u64 x4) := (H11.out.c (.head _) 4).1
  have qf4 : W11.frozen? ⟨W7.heap.size, 4, none⟩ = false := (H11.out.c (.head _) 4).2
  have q5 : W11.cell? ⟨W7.heap.size, 5, none⟩ = some (.slice none 0 0) := (H11.out.c (.head _) 5).1
  have qf5 : W11.frozen? ⟨W7.heap.size, 5, none⟩ = false := (H11.out.c (.head _) 5).2
  have H12 : Hid _ := (Cr.put (pre := []) H11.out 5 (.slice ao2 x4 cap2) (cs' := #[.int .u16 x0, .int .u16 x1, .int .u64 x2, .int .u64 x3, .int .u64 x4, .slice ao2 x4 cap2]) rfl)
  clear H11
  obtain ⟨Wz, hWz⟩ : ∃ Wz, W11.setCell ⟨W7.heap.size, 5, none⟩ (.slice ao2 x4 cap2) = Wz := ⟨_, rfl⟩
  rw [hWz] at H12
  go_upto_region 20 with fail
  clear hWz
  clear q0 qf0 q1 qf1 q2 qf2 q3 qf3 q4 qf4 q5 qf5
  have q0 : Wz.cell? ⟨W7.heap.size, 0, none⟩ = some (.int .u16 x0) := (H12.out.c (.head _) 0).1
  have q1 : Wz.cell? ⟨W7.heap.size, 1, none⟩ = some (.int .u16 x1) := (H12.out.c (.head _) 1).1
  have q2 : Wz.cell? ⟨W7.heap.size, 2, none⟩ = some (.int .u64 x2) := (H12.out.c (.head _) 2).1
  have q3 : Wz.cell? ⟨W7.heap.size, 3, none⟩ = some (.int .u64 x3) := (H12.out.c (.head _) 3).1
  have q4 : Wz.cell? ⟨W7.heap.size, 4, none⟩ = some (.int .u64 x4) := (H12.out.c (.head _) 4).1
  have q5 : Wz.cell? ⟨W7.heap.size, 5, none⟩ = some (.slice ao2 x4 cap2) := (H12.out.c (.head _) 5).1
  have y0 : Wz.cell? ⟨w.heap.size, 0, none⟩ = some (.int .u16 0) := (H12.out.c (.tail _ (.head _)) 0).1
  have yf0 : Wz.frozen? ⟨w.heap.size, 0, none⟩ = false := (H12.out.c (.tail _ (.head _)) 0).2
  have y1 : Wz.cell? ⟨w.heap.size, 1, none⟩ = some (.int .u16 0) := (H12.out.c (.tail _ (.head _)) 1).1
  have yf1 : Wz.frozen? ⟨w.heap.size, 1, none⟩ = false := (H12.out.c (.tail _ (.head _)) 1).2
  have y2 : Wz.cell? ⟨w.heap.size, 2, none⟩ = some (.int .u64 0) := (H12.out.c (.tail _ (.head _)) 2).1
  have yf2 : Wz.frozen? ⟨w.heap.size, 2, none⟩ = false := (H12.out.c (.tail _ (.head _)) 2).2
  have y3 : Wz.cell? ⟨w.heap.size, 3, none⟩ = some (.int .u64 0) := (H12.out.c (.tail _ (.head _)) 3).1
  have yf3 : Wz.frozen? ⟨w.heap.size, 3, none⟩ = false := (H12.out.c (.tail _ (.head _)) 3).2
  have y4 : Wz.cell? ⟨w.heap.size, 4, none⟩ = some (.int .u64 0) := (H12.out.c (.tail _ (.head _)) 4).1
  have yf4 : Wz.frozen? ⟨w.heap.size, 4, none⟩ = false := (H12.out.c (.tail _ (.head _)) 4).2
  have y5 : Wz.cell? ⟨w.heap.size, 5, none⟩ = some (.slice none 0 0) := (H12.out.c (.tail _ (.head _)) 5).1
  have yf5 : Wz.frozen? ⟨w.heap.size, 5, none⟩ = false := (H12.out.c (.tail _ (.head _)) 5).2
  have H13 : Hid _ := (Cr.put (pre := [(W7.heap.size, #[.int .u16 x0, .int .u16 x1, .int .u64 x2, .int .u64 x3, .int .u64 x4, .slice ao2 x4 cap2], 60)]) (Cr.put (pre := [(W7.heap.size, #[.int .u16 x0, .int .u16 x1, .int .u64 x2, .int .u64 x3, .int .u64 x4, .slice ao2 x4 cap2], 60)]) (Cr.put (pre := [(W7.heap.size, #[.int .u16 x0, .int .u16 x1, .int .u64 x2, .int .u64 x3, .int .u64 x4, .slice ao2 x4 cap2], 60)]) (Cr.put (pre := [(W7.heap.size, #[.int .u16 x0, .int .u16 x1, .int .u64 x2, .int .u64 x3, .int .u64 x4, .slice ao2 x4 cap2], 60)]) (Cr.put (pre := [(W7.heap.size, #[.int .u16 x0, .int .u16 x1, .int .u64 x2, .int .u64 x3, .int .u64 x4, .slice ao2 x4 cap2], 60)]) (Cr.put (pre := [(W7.heap.size, #[.int .u16 x0, .int .u16 x1, .int .u64 x2, .int .u64 x3, .int .u64 x4, .slice ao2 x4 cap2], 60)]) H12.out 0 (.int .u16 x0) (cs' := #[.int .u16 x0, .int .u16 0, .int .u64 0, .int .u64 0, .int .u64 0, .slice none 0 0]) rfl) 1 (.int .u16 x1) (cs' := #[.int .u16 x0, .int .u16 x1, .int .u64 0, .int .u64 0, .int .u64 0, .slice none 0 0]) rfl) 2 (.int .u64 x2) (cs' := #[.int .u16 x0, .int .u16 x1, .int .u64 x2, .int .u64 0, .int .u64 0, .slice none 0 0]) rfl) 3 (.int .u64 x3) (cs' := #[.int .u16 x0, .int .u16 x1, .int .u64 x2, .int .u64 x3, .int .u64 0, .slice none 0 0]) rfl) 4 (.int .u64 x4) (cs' := #[.int .u16 x0, .int .u16 x1, .int .u64 x2, .int .u64 x3, .int .u64 x4, .slice none 0 0]) rfl) 5 (.slice ao2 x4 cap2) (cs' := #[.int .u16 x0, .int .u16 x1, .int .u64 x2, .int .u64 x3, .int .u64 x4, .slice ao2 x4 cap2]) rfl)
  clear H12
  go_wp2
  exact bodyPost_ret (results_cell_tmp1 rfl _ _ (w.heap.size) 60 #[.int .u16 x0, .int .u16 x1, .int .u64 x2, .int .u64 x3, .int .u64 x4, .slice ao2 x4 cap2] (0, 0) _ rfl (H13.out.box _ (.tail _ (.head _))).1 Try.underlying60 rfl inf_46) rfl ⟨x0, x1, x2, x3, x4, (l.drop 28).take x4, x4, 1, (l.drop 28).drop x4, _, ao2, cap2, rfl, hres, hd11, H13.out.inb, H13.out.act, by have q := H13.out.row; rw [hd11] at q; exact q, H13.out.rn⟩
set_option maxHeartbeats 4000000 in
theorem rreqf_f {w : World} {B b : Nat} {v : Value} {rm ov : Nat} {l : List Nat} (h : RIn w B b v rm ov l) (m : Nat) (hm : m < 4294967296) (hs : ov = 0 ∧ 28 ≤ l.length) (hx : vl l 0 4 = 627086611) (x0 x1 x2 x3 x4 : Nat) (hx0 : vl l 4 2 = x0) (hx1 : vl l 6 2 = x1) (hx2 : vl l 8 8 = x2) (hx3 : vl l 16 8 = x3) (hx4 : vl l 24 4 = x4) (b0 : x0 < 65536) (b1 : x1 < 65536) (b2 : x2 < 18446744073709551616) (b3 : x3 < 18446744073709551616) (b4 : x4 < 18446744073709551616) (hpay : ((x1 : Int) == 1) = false) (hres : cutOf (0, 0, 0, 0, 0, []) ov l (reqD m false l) = ((x0, x1, x2, x3, x4, (l.drop 28).take 0), 1, (l.drop 28).drop 0)) :
    Calls Try.prog 46 #[.pointer (some ⟨b, 0, none⟩), .int .u32 m, .bool false] w fun e w' => ∃ (x0 : Nat) (x1 : Nat) (x2 : Nat) (x3 : Nat) (x4 : Nat) (d : List Nat) (dn cu : Nat) (l' : List Nat) (v' : Value) (ao2 : Option Addr) (cap2 : Nat), e = .returned (.tuple #[.agg #[.int .u16 x0, .int .u16 x1, .int .u64 x2, .int .u64 x3, .int .u64 x4, .slice ao2 dn cap2], .int .i64 cu]) ∧ cutOf (0, 0, 0, 0, 0, []) ov l (reqD m false l) = ((x0, x1, x2, x3, x4, d), cu, l') ∧ d.length = dn ∧ RIn w' B b v' rm ov l' ∧ RAct w w' b v v' ∧ w'.ownsRow w.heap.size 5 1 (.slice ao2 dn cap2) dn (d.map bv) ∧ ∀ g, (Value.slice ao2 dn cap2).ownBlock = some g → v'.ownBlock ≠ some g := by
  replace hres : Hid _ := hres
  have h5 : 60 ≠ 5 := by decide
  obtain ⟨W0, hW0⟩ : ∃ W0, W0 = w.alloc (.cells #[.int .u16 0, .int .u16 0, .int .u64 0, .int .u64 0, .int .u64 0, .slice none 0 0] 60) := ⟨_, rfl⟩
  have hC0 := (Cr.start h).alloc #[.int .u16 0, .int .u16 0, .int .u64 0, .int .u64 0, .int .u64 0, .slice none 0 0] 60 h5
  rw [← hW0] at hC0
  have H0 : Hid _ := hC0
  clear hC0
  clear h
  go_enter Try.func46, Try.ntmps46
  have HA1 : Hid _ := hasT H0.out.inb (28) hs
  go_wp2_with fail
  rw [← hW0]
  clear hW0
  refine Calls.mono HA1.out ?_
  rintro e Wn ⟨rfl, hw⟩
  rw [hw]; clear hw Wn HA1
  have HA2 : Hid _ := uRx H0.out.inb 0 4 (by have := hs.2; omega) (by decide) (by decide) hx
  go_wp2_with fail
  refine Calls.mono HA2.out ?_
  rintro e W2 ⟨rfl, hb⟩
  have H2 : Hid _ := H0.out.later hb
  clear hb H0 HA2
  have HA3 : Hid _ := uRx H2.out.inb 4 2 (by have := hs.2; omega) (by decide) (by decide) hx0
  go_wp2_with fail
  refine Calls.mono HA3.out ?_
  rintro e W3 ⟨rfl, hb⟩
  have H3 : Hid _ := H2.out.later hb
  clear hb H2 HA3
  have HA4 : Hid _ := uRx H3.out.inb 6 2 (by have := hs.2; omega) (by decide) (by decide) hx1
  go_wp2_with fail
  refine Calls.mono HA4.out ?_
  rintro e W4 ⟨rfl, hb⟩
  have H4 : Hid _ := H3.out.later hb
  clear hb H3 HA4
  have HA5 : Hid _ := uRx H4.out.inb 8 8 (by have := hs.2; omega) (by decide) (by decide) hx2
  go_wp2_with fail
  refine Calls.mono HA5.out ?_
  rintro e W5 ⟨rfl, hb⟩
  have H5 : Hid _ := H4.out.later hb
  clear hb H4 HA5
  have HA6 : Hid _ := uRx H5.out.inb 16 8 (by have := hs.2; omega) (by decide) (by decide) hx3
  go_wp2_with fail
  refine Calls.mono HA6.out ?_
  rintro e W6 ⟨rfl, hb⟩
  have H6 : Hid _ := H5.out.later hb
  clear hb H5 HA6
  have HA7 : Hid _ := uRx H6.out.inb 24 4 (by have := hs.2; omega) (by decide) (by decide) hx4
  go_wp2_with fail
  refine Calls.mono HA7.out ?_
  rintro e W7 ⟨rfl, hb⟩
  have H7 : Hid _ := H6.out.later hb
  clear hb H6 HA7
  have hq := H7.out.alloc #[.int .u16 x0, .int .u16 x1, .int .u64 x2, .int .u64 x3, .int .u64 x4, .slice none 0 0] 60 (by decide)
  generalize hW8 : W7.alloc (.cells #[.int .u16 x0, .int .u16 x1, .int .u64 x2, .int .u64 x3, .int .u64 x4, .slice none 0 0] 60) = W8 at hq
  have H8 : Hid _ := hq
  clear hq H7
  have HW8 : Hid _ := hW8
  clear hW8
  go_upto_region 12 with fail
  rw [show _ = _ from HW8.out]
  clear HW8
  have q0 : W8.cell? ⟨W7.heap.size, 0, none⟩ = some (.int .u16 x0) := (H8.out.c (.head _) 0).1
  have q1 : W8.cell? ⟨W7.heap.size, 1, none⟩ = some (.int .u16 x1) := (H8.out.c (.head _) 1).1
  have q2 : W8.cell? ⟨W7.heap.size, 2, none⟩ = some (.int .u64 x2) := (H8.out.c (.head _) 2).1
  have q3 : W8.cell? ⟨W7.heap.size, 3, none⟩ = some (.int .u64 x3) := (H8.out.c (.head _) 3).1
  have q4 : W8.cell? ⟨W7.heap.size, 4, none⟩ = some (.int .u64 x4) := (H8.out.c (.head _) 4).1
  have q5 : W8.cell? ⟨W7.heap.size, 5, none⟩ = some (.slice none 0 0) := (H8.out.c (.head _) 5).1
  have HA9 : Hid _ := hasT H8.out.inb (28) hs
  go_wp2_with fail
  refine Calls.mono HA9.out ?_
  rintro e Wn ⟨rfl, hw⟩
  rw [hw]; clear hw Wn HA9
  clear q0 q1 q2 q3 q4 q5
  have HA10 : Hid _ := cutR H8.out.inb 28 (by have := hs.2; omega)
  go_wp2_with fail
  refine Calls.mono HA10.out ?_
  rintro e W10 ⟨ao1, cap1, vn10, rfl, hI, hA, hr, hn⟩
  have hd10 : (l.take (28)).length = 28 := by rw [List.length_take]; exact Nat.min_eq_left (by have := hs.2; omega)
  have H10 : Hid _ := H8.out.told2 (d' := l.take (28)) hI hA (by rw [hd10]; exact hr) hn
  clear hI hA hr hn H8 HA10
  have HA11 : Hid _ := cutR H10.out.inb 0 (by omega)
  go_wp2_with fail
  refine Calls.mono HA11.out ?_
  rintro e W11 ⟨ao2, cap2, vn11, rfl, hI, hA, hr, hn⟩
  have hd11 : ((l.drop 28).take (0)).length = 0 := by rw [List.length_take]; exact Nat.min_eq_left (by omega)
  have H11 : Hid _ := H10.out.told2 (d' := (l.drop 28).take (0)) hI hA (by rw [hd11]; exact hr) hn
  clear hI hA hr hn H10 HA11
  have q0 : W11.cell? ⟨W7.heap.size, 0, none⟩ = some (.int .u16 x0) := (H11.out.c (.head _) 0).1
  have qf0 : W11.frozen? ⟨W7.heap.size, 0, none⟩ = false := (H11.out.c (.head _) 0).2
  have q1 : W11.cell? ⟨W7.heap.size, 1, none⟩ = some (.int .u16 x1) := (H11.out.c (.head _) 1).1
  have qf1 : W11.frozen? ⟨W7.heap.size, 1, none⟩ = false := (H11.out.c (.head _) 1).2
  have q2 : W11.cell? ⟨W7.heap.size, 2, none⟩ = some (.int .u64 x2) := (H11.out.c (.head _) 2).1
  have qf2 : W11.frozen? ⟨W7.heap.size, 2, none⟩ = false := (H11.out.c (.head _) 2).2
  have q3 : W11.cell? ⟨W7.heap.size, 3, none⟩ = some (.int .u64 x3) := (H11.out.c (.head _) 3).1
  have qf3 : W11.frozen? ⟨W7.heap.size, 3, none⟩ = false := (H11.out.c (.head _) 3).2
  have q4 : W11.cell? ⟨W7.heap.size, 4, none⟩ = some (.int .u64 x4) := (H11.out.c (.head _) 4).1
  have qf4 : W11.frozen? ⟨W7.heap.size, 4, none⟩ = false := (H11.out.c (.head _) 4).2
  have q5 : W11.cell? ⟨W7.heap.size, 5, none⟩ = some (.slice none 0 0) := (H11.out.c (.head _) 5).1
  have qf5 : W11.frozen? ⟨W7.heap.size, 5, none⟩ = false := (H11.out.c (.head _) 5).2
  have H12 : Hid _ := (Cr.put (pre := []) H11.out 5 (.slice ao2 0 cap2) (cs' := #[.int .u16 x0, .int .u16 x1, .int .u64 x2, .int .u64 x3, .int .u64 x4, .slice ao2 0 cap2]) rfl)
  clear H11
  obtain ⟨Wz, hWz⟩ : ∃ Wz, W11.setCell ⟨W7.heap.size, 5, none⟩ (.slice ao2 0 cap2) = Wz := ⟨_, rfl⟩
  rw [hWz] at H12
  go_upto_region 20 with fail
  clear hWz
  clear q0 qf0 q1 qf1 q2 qf2 q3 qf3 q4 qf4 q5 qf5
  have q0 : Wz.cell? ⟨W7.heap.size, 0, none⟩ = some (.int .u16 x0) := (H12.out.c (.head _) 0).1
  have q1 : Wz.cell? ⟨W7.heap.size, 1, none⟩ = some (.int .u16 x1) := (H12.out.c (.head _) 1).1
  have q2 : Wz.cell? ⟨W7.heap.size, 2, none⟩ = some (.int .u64 x2) := (H12.out.c (.head _) 2).1
  have q3 : Wz.cell? ⟨W7.heap.size, 3, none⟩ = some (.int .u64 x3) := (H12.out.c (.head _) 3).1
  have q4 : Wz.cell? ⟨W7.heap.size, 4, none⟩ = some (.int .u64 x4) := (H12.out.c (.head _) 4).1
  have q5 : Wz.cell? ⟨W7.heap.size, 5, none⟩ = some (.slice ao2 0 cap2) := (H12.out.c (.head _) 5).1
  have y0 : Wz.cell? ⟨w.heap.size, 0, none⟩ = some (.int .u16 0) := (H12.out.c (.tail _ (.head _)) 0).1
  have yf0 : Wz.frozen? ⟨w.heap.size, 0, none⟩ = false := (H12.out.c (.tail _ (.head _)) 0).2
  have y1 : Wz.cell? ⟨w.heap.size, 1, none⟩ = some (.int .u16 0) := (H12.out.c (.tail _ (.head _)) 1).1
  have yf1 : Wz.frozen? ⟨w.heap.size, 1, none⟩ = false := (H12.out.c (.tail _ (.head _)) 1).2
  have y2 : Wz.cell? ⟨w.heap.size, 2, none⟩ = some (.int .u64 0) := (H12.out.c (.tail _ (.head _)) 2).1
  have yf2 : Wz.frozen? ⟨w.heap.size, 2, none⟩ = false := (H12.out.c (.tail _ (.head _)) 2).2
  have y3 : Wz.cell? ⟨w.heap.size, 3, none⟩ = some (.int .u64 0) := (H12.out.c (.tail _ (.head _)) 3).1
  have yf3 : Wz.frozen? ⟨w.heap.size, 3, none⟩ = false := (H12.out.c (.tail _ (.head _)) 3).2
  have y4 : Wz.cell? ⟨w.heap.size, 4, none⟩ = some (.int .u64 0) := (H12.out.c (.tail _ (.head _)) 4).1
  have yf4 : Wz.frozen? ⟨w.heap.size, 4, none⟩ = false := (H12.out.c (.tail _ (.head _)) 4).2
  have y5 : Wz.cell? ⟨w.heap.size, 5, none⟩ = some (.slice none 0 0) := (H12.out.c (.tail _ (.head _)) 5).1
  have yf5 : Wz.frozen? ⟨w.heap.size, 5, none⟩ = false := (H12.out.c (.tail _ (.head _)) 5).2
  have H13 : Hid _ := (Cr.put (pre := [(W7.heap.size, #[.int .u16 x0, .int .u16 x1, .int .u64 x2, .int .u64 x3, .int .u64 x4, .slice ao2 0 cap2], 60)]) (Cr.put (pre := [(W7.heap.size, #[.int .u16 x0, .int .u16 x1, .int .u64 x2, .int .u64 x3, .int .u64 x4, .slice ao2 0 cap2], 60)]) (Cr.put (pre := [(W7.heap.size, #[.int .u16 x0, .int .u16 x1, .int .u64 x2, .int .u64 x3, .int .u64 x4, .slice ao2 0 cap2], 60)]) (Cr.put (pre := [(W7.heap.size, #[.int .u16 x0, .int .u16 x1, .int .u64 x2, .int .u64 x3, .int .u64 x4, .slice ao2 0 cap2], 60)]) (Cr.put (pre := [(W7.heap.size, #[.int .u16 x0, .int .u16 x1, .int .u64 x2, .int .u64 x3, .int .u64 x4, .slice ao2 0 cap2], 60)]) (Cr.put (pre := [(W7.heap.size, #[.int .u16 x0, .int .u16 x1, .int .u64 x2, .int .u64 x3, .int .u64 x4, .slice ao2 0 cap2], 60)]) H12.out 0 (.int .u16 x0) (cs' := #[.int .u16 x0, .int .u16 0, .int .u64 0, .int .u64 0, .int .u64 0, .slice none 0 0]) rfl) 1 (.int .u16 x1) (cs' := #[.int .u16 x0, .int .u16 x1, .int .u64 0, .int .u64 0, .int .u64 0, .slice none 0 0]) rfl) 2 (.int .u64 x2) (cs' := #[.int .u16 x0, .int .u16 x1, .int .u64 x2, .int .u64 0, .int .u64 0, .slice none 0 0]) rfl) 3 (.int .u64 x3) (cs' := #[.int .u16 x0, .int .u16 x1, .int .u64 x2, .int .u64 x3, .int .u64 0, .slice none 0 0]) rfl) 4 (.int .u64 x4) (cs' := #[.int .u16 x0, .int .u16 x1, .int .u64 x2, .int .u64 x3, .int .u64 x4, .slice none 0 0]) rfl) 5 (.slice ao2 0 cap2) (cs' := #[.int .u16 x0, .int .u16 x1, .int .u64 x2, .int .u64 x3, .int .u64 x4, .slice ao2 0 cap2]) rfl)
  clear H12
  go_wp2
  exact bodyPost_ret (results_cell_tmp1 rfl _ _ (w.heap.size) 60 #[.int .u16 x0, .int .u16 x1, .int .u64 x2, .int .u64 x3, .int .u64 x4, .slice ao2 0 cap2] (0, 0) _ rfl (H13.out.box _ (.tail _ (.head _))).1 Try.underlying60 rfl inf_46) rfl ⟨x0, x1, x2, x3, x4, (l.drop 28).take 0, 0, 1, (l.drop 28).drop 0, _, ao2, cap2, rfl, hres, hd11, H13.out.inb, H13.out.act, by have q := H13.out.row; rw [hd11] at q; exact q, H13.out.rn⟩
set_option maxHeartbeats 4000000 in
theorem rreqt_a {w : World} {B b : Nat} {v : Value} {rm ov : Nat} {l : List Nat} (h : RIn w B b v rm ov l) (m : Nat) (hm : m < 4294967296) (hs : ¬ (ov = 0 ∧ 32 ≤ l.length)) (hres : cutOf (0, 0, 0, 0, 0, []) ov l (reqD m true l) = ((0, 0, 0, 0, 0, []), 0, l)) :
    Calls Try.prog 46 #[.pointer (some ⟨b, 0, none⟩), .int .u32 m, .bool true] w fun e w' => ∃ (x0 : Nat) (x1 : Nat) (x2 : Nat) (x3 : Nat) (x4 : Nat) (d : List Nat) (dn cu : Nat) (l' : List Nat) (v' : Value) (ao2 : Option Addr) (cap2 : Nat), e = .returned (.tuple #[.agg #[.int .u16 x0, .int .u16 x1, .int .u64 x2, .int .u64 x3, .int .u64 x4, .slice ao2 dn cap2], .int .i64 cu]) ∧ cutOf (0, 0, 0, 0, 0, []) ov l (reqD m true l) = ((x0, x1, x2, x3, x4, d), cu, l') ∧ d.length = dn ∧ RIn w' B b v' rm ov l' ∧ RAct w w' b v v' ∧ w'.ownsRow w.heap.size 5 1 (.slice ao2 dn cap2) dn (d.map bv) ∧ ∀ g, (Value.slice ao2 dn cap2).ownBlock = some g → v'.ownBlock ≠ some g := by
  replace hres : Hid _ := hres
  have h5 : 60 ≠ 5 := by decide
  obtain ⟨W0, hW0⟩ : ∃ W0, W0 = w.alloc (.cells #[.int .u16 0, .int .u16 0, .int .u64 0, .int .u64 0, .int .u64 0, .slice none 0 0] 60) := ⟨_, rfl⟩
  have hC0 := (Cr.start h).alloc #[.int .u16 0, .int .u16 0, .int .u64 0, .int .u64 0, .int .u64 0, .slice none 0 0] 60 h5
  rw [← hW0] at hC0
  have H0 : Hid _ := hC0
  clear hC0
  clear h
  go_enter Try.func46, Try.ntmps46
  have HA1 : Hid _ := hasF H0.out.inb (32) hs
  go_wp2_with fail
  rw [← hW0]
  clear hW0
  refine Calls.mono HA1.out ?_
  rintro e Wn ⟨rfl, hw⟩
  rw [hw]; clear hw Wn HA1
  have y0 : W0.cell? ⟨w.heap.size, 0, none⟩ = some (.int .u16 0) := (H0.out.c (.head _) 0).1
  have yf0 : W0.frozen? ⟨w.heap.size, 0, none⟩ = false := (H0.out.c (.head _) 0).2
  have y1 : W0.cell? ⟨w.heap.size, 1, none⟩ = some (.int .u16 0) := (H0.out.c (.head _) 1).1
  have yf1 : W0.frozen? ⟨w.heap.size, 1, none⟩ = false := (H0.out.c (.head _) 1).2
  have y2 : W0.cell? ⟨w.heap.size, 2, none⟩ = some (.int .u64 0) := (H0.out.c (.head _) 2).1
  have yf2 : W0.frozen? ⟨w.heap.size, 2, none⟩ = false := (H0.out.c (.head _) 2).2
  have y3 : W0.cell? ⟨w.heap.size, 3, none⟩ = some (.int .u64 0) := (H0.out.c (.head _) 3).1
  have yf3 : W0.frozen? ⟨w.heap.size, 3, none⟩ = false := (H0.out.c (.head _) 3).2
  have y4 : W0.cell? ⟨w.heap.size, 4, none⟩ = some (.int .u64 0) := (H0.out.c (.head _) 4).1
  have yf4 : W0.frozen? ⟨w.heap.size, 4, none⟩ = false := (H0.out.c (.head _) 4).2
  have y5 : W0.cell? ⟨w.heap.size, 5, none⟩ = some (.slice none 0 0) := (H0.out.c (.head _) 5).1
  have yf5 : W0.frozen? ⟨w.heap.size, 5, none⟩ = false := (H0.out.c (.head _) 5).2
  have H2 : Hid _ := (Cr.put (pre := []) (Cr.put (pre := []) (Cr.put (pre := []) (Cr.put (pre := []) (Cr.put (pre := []) (Cr.put (pre := []) H0.out 0 (.int .u16 0) (cs' := #[.int .u16 0, .int .u16 0, .int .u64 0, .int .u64 0, .int .u64 0, .slice none 0 0]) rfl) 1 (.int .u16 0) (cs' := #[.int .u16 0, .int .u16 0, .int .u64 0, .int .u64 0, .int .u64 0, .slice none 0 0]) rfl) 2 (.int .u64 0) (cs' := #[.int .u16 0, .int .u16 0, .int .u64 0, .int .u64 0, .int .u64 0, .slice none 0 0]) rfl) 3 (.int .u64 0) (cs' := #[.int .u16 0, .int .u16 0, .int .u64 0, .int .u64 0, .int .u64 0, .slice none 0 0]) rfl) 4 (.int .u64 0) (cs' := #[.int .u16 0, .int .u16 0, .int .u64 0, .int .u64 0, .int .u64 0, .slice none 0 0]) rfl) 5 (.slice none 0 0) (cs' := #[.int .u16 0, .int .u16 0, .int .u64 0, .int .u64 0, .int .u64 0, .slice none 0 0]) rfl)
  clear H0
  go_wp2
  exact bodyPost_ret (results_cell_tmp1 rfl _ _ (w.heap.size) 60 #[.int .u16 0, .int .u16 0, .int .u64 0, .int .u64 0, .int .u64 0, .slice none 0 0] (0, 0) _ rfl (H2.out.box _ (.head _)).1 Try.underlying60 rfl inf_46) rfl ⟨0, 0, 0, 0, 0, [], 0, 0, l, _, none, 0, rfl, hres, rfl, H2.out.inb, H2.out.act, H2.out.row, H2.out.rn⟩
set_option maxHeartbeats 4000000 in
theorem rreqt_b {w : World} {B b : Nat} {v : Value} {rm ov : Nat} {l : List Nat} (h : RIn w B b v rm ov l) (m : Nat) (hm : m < 4294967296) (hs : ov = 0 ∧ 32 ≤ l.length) (hx : ((vl l 0 4 : Int) != 568597617) = true) (hres : cutOf (0, 0, 0, 0, 0, []) ov l (reqD m true l) = ((0, 0, 0, 0, 0, []), 2, l)) :
    Calls Try.prog 46 #[.pointer (some ⟨b, 0, none⟩), .int .u32 m, .bool true] w fun e w' => ∃ (x0 : Nat) (x1 : Nat) (x2 : Nat) (x3 : Nat) (x4 : Nat) (d : List Nat) (dn cu : Nat) (l' : List Nat) (v' : Value) (ao2 : Option Addr) (cap2 : Nat), e = .returned (.tuple #[.agg #[.int .u16 x0, .int .u16 x1, .int .u64 x2, .int .u64 x3, .int .u64 x4, .slice ao2 dn cap2], .int .i64 cu]) ∧ cutOf (0, 0, 0, 0, 0, []) ov l (reqD m true l) = ((x0, x1, x2, x3, x4, d), cu, l') ∧ d.length = dn ∧ RIn w' B b v' rm ov l' ∧ RAct w w' b v v' ∧ w'.ownsRow w.heap.size 5 1 (.slice ao2 dn cap2) dn (d.map bv) ∧ ∀ g, (Value.slice ao2 dn cap2).ownBlock = some g → v'.ownBlock ≠ some g := by
  replace hres : Hid _ := hres
  have h5 : 60 ≠ 5 := by decide
  obtain ⟨W0, hW0⟩ : ∃ W0, W0 = w.alloc (.cells #[.int .u16 0, .int .u16 0, .int .u64 0, .int .u64 0, .int .u64 0, .slice none 0 0] 60) := ⟨_, rfl⟩
  have hC0 := (Cr.start h).alloc #[.int .u16 0, .int .u16 0, .int .u64 0, .int .u64 0, .int .u64 0, .slice none 0 0] 60 h5
  rw [← hW0] at hC0
  have H0 : Hid _ := hC0
  clear hC0
  clear h
  go_enter Try.func46, Try.ntmps46
  have HA1 : Hid _ := hasT H0.out.inb (32) hs
  go_wp2_with fail
  rw [← hW0]
  clear hW0
  refine Calls.mono HA1.out ?_
  rintro e Wn ⟨rfl, hw⟩
  rw [hw]; clear hw Wn HA1
  have HA2 : Hid _ := uRx H0.out.inb 0 4 (by have := hs.2; omega) (by decide) (by decide) rfl
  go_wp2_with fail
  refine Calls.mono HA2.out ?_
  rintro e W2 ⟨rfl, hb⟩
  have H2 : Hid _ := H0.out.later hb
  clear hb H0 HA2
  have y0 : W2.cell? ⟨w.heap.size, 0, none⟩ = some (.int .u16 0) := (H2.out.c (.head _) 0).1
  have yf0 : W2.frozen? ⟨w.heap.size, 0, none⟩ = false := (H2.out.c (.head _) 0).2
  have y1 : W2.cell? ⟨w.heap.size, 1, none⟩ = some (.int .u16 0) := (H2.out.c (.head _) 1).1
  have yf1 : W2.frozen? ⟨w.heap.size, 1, none⟩ = false := (H2.out.c (.head _) 1).2
  have y2 : W2.cell? ⟨w.heap.size, 2, none⟩ = some (.int .u64 0) := (H2.out.c (.head _) 2).1
  have yf2 : W2.frozen? ⟨w.heap.size, 2, none⟩ = false := (H2.out.c (.head _) 2).2
  have y3 : W2.cell? ⟨w.heap.size, 3, none⟩ = some (.int .u64 0) := (H2.out.c (.head _) 3).1
  have yf3 : W2.frozen? ⟨w.heap.size, 3, none⟩ = false := (H2.out.c (.head _) 3).2
  have y4 : W2.cell? ⟨w.heap.size, 4, none⟩ = some (.int .u64 0) := (H2.out.c (.head _) 4).1
  have yf4 : W2.frozen? ⟨w.heap.size, 4, none⟩ = false := (H2.out.c (.head _) 4).2
  have y5 : W2.cell? ⟨w.heap.size, 5, none⟩ = some (.slice none 0 0) := (H2.out.c (.head _) 5).1
  have yf5 : W2.frozen? ⟨w.heap.size, 5, none⟩ = false := (H2.out.c (.head _) 5).2
  have H3 : Hid _ := (Cr.put (pre := []) (Cr.put (pre := []) (Cr.put (pre := []) (Cr.put (pre := []) (Cr.put (pre := []) (Cr.put (pre := []) H2.out 0 (.int .u16 0) (cs' := #[.int .u16 0, .int .u16 0, .int .u64 0, .int .u64 0, .int .u64 0, .slice none 0 0]) rfl) 1 (.int .u16 0) (cs' := #[.int .u16 0, .int .u16 0, .int .u64 0, .int .u64 0, .int .u64 0, .slice none 0 0]) rfl) 2 (.int .u64 0) (cs' := #[.int .u16 0, .int .u16 0, .int .u64 0, .int .u64 0, .int .u64 0, .slice none 0 0]) rfl) 3 (.int .u64 0) (cs' := #[.int .u16 0, .int .u16 0, .int .u64 0, .int .u64 0, .int .u64 0, .slice none 0 0]) rfl) 4 (.int .u64 0) (cs' := #[.int .u16 0, .int .u16 0, .int .u64 0, .int .u64 0, .int .u64 0, .slice none 0 0]) rfl) 5 (.slice none 0 0) (cs' := #[.int .u16 0, .int .u16 0, .int .u64 0, .int .u64 0, .int .u64 0, .slice none 0 0]) rfl)
  clear H2
  go_wp2
  exact bodyPost_ret (results_cell_tmp1 rfl _ _ (w.heap.size) 60 #[.int .u16 0, .int .u16 0, .int .u64 0, .int .u64 0, .int .u64 0, .slice none 0 0] (0, 0) _ rfl (H3.out.box _ (.head _)).1 Try.underlying60 rfl inf_46) rfl ⟨0, 0, 0, 0, 0, [], 0, 2, l, _, none, 0, rfl, hres, rfl, H3.out.inb, H3.out.act, H3.out.row, H3.out.rn⟩
set_option maxHeartbeats 4000000 in
theorem rreqt_c {w : World} {B b : Nat} {v : Value} {rm ov : Nat} {l : List Nat} (h : RIn w B b v rm ov l) (m : Nat) (hm : m < 4294967296) (hs : ov = 0 ∧ 32 ≤ l.length) (hx : vl l 0 4 = 568597617) (x0 x1 x2 x3 x4 : Nat) (hx0 : vl l 4 2 = x0) (hx1 : vl l 6 2 = x1) (hx2 : vl l 8 8 = x2) (hx3 : vl l 16 8 = x3) (hx4 : vl l 24 8 = x4) (b0 : x0 < 65536) (b1 : x1 < 65536) (b2 : x2 < 18446744073709551616) (b3 : x3 < 18446744073709551616) (b4 : x4 < 18446744073709551616) (y : Nat) (hy : bits BinOp.and IntKind.u16 (x0 : Int) 32 = (y : Int)) (hpay : ((y : Int) != 0) = true) (hmk : (m : Int) < (x4 : Int)) (hres : cutOf (0, 0, 0, 0, 0, []) ov l (reqD m true l) = ((0, 0, 0, 0, 0, []), 3, l)) :
    Calls Try.prog 46 #[.pointer (some ⟨b, 0, none⟩), .int .u32 m, .bool true] w fun e w' => ∃ (x0 : Nat) (x1 : Nat) (x2 : Nat) (x3 : Nat) (x4 : Nat) (d : List Nat) (dn cu : Nat) (l' : List Nat) (v' : Value) (ao2 : Option Addr) (cap2 : Nat), e = .returned (.tuple #[.agg #[.int .u16 x0, .int .u16 x1, .int .u64 x2, .int .u64 x3, .int .u64 x4, .slice ao2 dn cap2], .int .i64 cu]) ∧ cutOf (0, 0, 0, 0, 0, []) ov l (reqD m true l) = ((x0, x1, x2, x3, x4, d), cu, l') ∧ d.length = dn ∧ RIn w' B b v' rm ov l' ∧ RAct w w' b v v' ∧ w'.ownsRow w.heap.size 5 1 (.slice ao2 dn cap2) dn (d.map bv) ∧ ∀ g, (Value.slice ao2 dn cap2).ownBlock = some g → v'.ownBlock ≠ some g := by
  replace hres : Hid _ := hres
  have h5 : 60 ≠ 5 := by decide
  obtain ⟨W0, hW0⟩ : ∃ W0, W0 = w.alloc (.cells #[.int .u16 0, .int .u16 0, .int .u64 0, .int .u64 0, .int .u64 0, .slice none 0 0] 60) := ⟨_, rfl⟩
  have hC0 := (Cr.start h).alloc #[.int .u16 0, .int .u16 0, .int .u64 0, .int .u64 0, .int .u64 0, .slice none 0 0] 60 h5
  rw [← hW0] at hC0
  have H0 : Hid _ := hC0
  clear hC0
  clear h
  go_enter Try.func46, Try.ntmps46
  have HA1 : Hid _ := hasT H0.out.inb (32) hs
  go_wp2_with fail
  rw [← hW0]
  clear hW0
  refine Calls.mono HA1.out ?_
  rintro e Wn ⟨rfl, hw⟩
  rw [hw]; clear hw Wn HA1
  have HA2 : Hid _ := uRx H0.out.inb 0 4 (by have := hs.2; omega) (by decide) (by decide) hx
  go_wp2_with fail
  refine Calls.mono HA2.out ?_
  rintro e W2 ⟨rfl, hb⟩
  have H2 : Hid _ := H0.out.later hb
  clear hb H0 HA2
  have HA3 : Hid _ := uRx H2.out.inb 4 2 (by have := hs.2; omega) (by decide) (by decide) hx0
  go_wp2_with fail
  refine Calls.mono HA3.out ?_
  rintro e W3 ⟨rfl, hb⟩
  have H3 : Hid _ := H2.out.later hb
  clear hb H2 HA3
  have HA4 : Hid _ := uRx H3.out.inb 6 2 (by have := hs.2; omega) (by decide) (by decide) hx1
  go_wp2_with fail
  refine Calls.mono HA4.out ?_
  rintro e W4 ⟨rfl, hb⟩
  have H4 : Hid _ := H3.out.later hb
  clear hb H3 HA4
  have HA5 : Hid _ := uRx H4.out.inb 8 8 (by have := hs.2; omega) (by decide) (by decide) hx2
  go_wp2_with fail
  refine Calls.mono HA5.out ?_
  rintro e W5 ⟨rfl, hb⟩
  have H5 : Hid _ := H4.out.later hb
  clear hb H4 HA5
  have HA6 : Hid _ := uRx H5.out.inb 16 8 (by have := hs.2; omega) (by decide) (by decide) hx3
  go_wp2_with fail
  refine Calls.mono HA6.out ?_
  rintro e W6 ⟨rfl, hb⟩
  have H6 : Hid _ := H5.out.later hb
  clear hb H5 HA6
  have HA7 : Hid _ := uRx H6.out.inb 24 8 (by have := hs.2; omega) (by decide) (by decide) hx4
  go_wp2_with fail
  refine Calls.mono HA7.out ?_
  rintro e W7 ⟨rfl, hb⟩
  have H7 : Hid _ := H6.out.later hb
  clear hb H6 HA7
  have hq := H7.out.alloc #[.int .u16 x0, .int .u16 x1, .int .u64 x2, .int .u64 x3, .int .u64 x4, .slice none 0 0] 60 (by decide)
  generalize hW8 : W7.alloc (.cells #[.int .u16 x0, .int .u16 x1, .int .u64 x2, .int .u64 x3, .int .u64 x4, .slice none 0 0] 60) = W8 at hq
  have H8 : Hid _ := hq
  clear hq H7
  have HW8 : Hid _ := hW8
  clear hW8
  go_upto_region 12 with fail
  rw [show _ = _ from HW8.out]
  clear HW8
  have q0 : W8.cell? ⟨W7.heap.size, 0, none⟩ = some (.int .u16 x0) := (H8.out.c (.head _) 0).1
  have q1 : W8.cell? ⟨W7.heap.size, 1, none⟩ = some (.int .u16 x1) := (H8.out.c (.head _) 1).1
  have q2 : W8.cell? ⟨W7.heap.size, 2, none⟩ = some (.int .u64 x2) := (H8.out.c (.head _) 2).1
  have q3 : W8.cell? ⟨W7.heap.size, 3, none⟩ = some (.int .u64 x3) := (H8.out.c (.head _) 3).1
  have q4 : W8.cell? ⟨W7.heap.size, 4, none⟩ = some (.int .u64 x4) := (H8.out.c (.head _) 4).1
  have q5 : W8.cell? ⟨W7.heap.size, 5, none⟩ = some (.slice none 0 0) := (H8.out.c (.head _) 5).1
  have y0 : W8.cell? ⟨w.heap.size, 0, none⟩ = some (.int .u16 0) := (H8.out.c (.tail _ (.head _)) 0).1
  have yf0 : W8.frozen? ⟨w.heap.size, 0, none⟩ = false := (H8.out.c (.tail _ (.head _)) 0).2
  have y1 : W8.cell? ⟨w.heap.size, 1, none⟩ = some (.int .u16 0) := (H8.out.c (.tail _ (.head _)) 1).1
  have yf1 : W8.frozen? ⟨w.heap.size, 1, none⟩ = false := (H8.out.c (.tail _ (.head _)) 1).2
  have y2 : W8.cell? ⟨w.heap.size, 2, none⟩ = some (.int .u64 0) := (H8.out.c (.tail _ (.head _)) 2).1
  have yf2 : W8.frozen? ⟨w.heap.size, 2, none⟩ = false := (H8.out.c (.tail _ (.head _)) 2).2
  have y3 : W8.cell? ⟨w.heap.size, 3, none⟩ = some (.int .u64 0) := (H8.out.c (.tail _ (.head _)) 3).1
  have yf3 : W8.frozen? ⟨w.heap.size, 3, none⟩ = false := (H8.out.c (.tail _ (.head _)) 3).2
  have y4 : W8.cell? ⟨w.heap.size, 4, none⟩ = some (.int .u64 0) := (H8.out.c (.tail _ (.head _)) 4).1
  have yf4 : W8.frozen? ⟨w.heap.size, 4, none⟩ = false := (H8.out.c (.tail _ (.head _)) 4).2
  have y5 : W8.cell? ⟨w.heap.size, 5, none⟩ = some (.slice none 0 0) := (H8.out.c (.tail _ (.head _)) 5).1
  have yf5 : W8.frozen? ⟨w.heap.size, 5, none⟩ = false := (H8.out.c (.tail _ (.head _)) 5).2
  have H9 : Hid _ := (Cr.put (pre := [(W7.heap.size, #[.int .u16 x0, .int .u16 x1, .int .u64 x2, .int .u64 x3, .int .u64 x4, .slice none 0 0], 60)]) (Cr.put (pre := [(W7.heap.size, #[.int .u16 x0, .int .u16 x1, .int .u64 x2, .int .u64 x3, .int .u64 x4, .slice none 0 0], 60)]) (Cr.put (pre := [(W7.heap.size, #[.int .u16 x0, .int .u16 x1, .int .u64 x2, .int .u64 x3, .int .u64 x4, .slice none 0 0], 60)]) (Cr.put (pre := [(W7.heap.size, #[.int .u16 x0, .int .u16 x1, .int .u64 x2, .int .u64 x3, .int .u64 x4, .slice none 0 0], 60)]) (Cr.put (pre := [(W7.heap.size, #[.int .u16 x0, .int .u16 x1, .int .u64 x2, .int .u64 x3, .int .u64 x4, .slice none 0 0], 60)]) (Cr.put (pre := [(W7.heap.size, #[.int .u16 x0, .int .u16 x1, .int .u64 x2, .int .u64 x3, .int .u64 x4, .slice none 0 0], 60)]) H8.out 0 (.int .u16 0) (cs' := #[.int .u16 0, .int .u16 0, .int .u64 0, .int .u64 0, .int .u64 0, .slice none 0 0]) rfl) 1 (.int .u16 0) (cs' := #[.int .u16 0, .int .u16 0, .int .u64 0, .int .u64 0, .int .u64 0, .slice none 0 0]) rfl) 2 (.int .u64 0) (cs' := #[.int .u16 0, .int .u16 0, .int .u64 0, .int .u64 0, .int .u64 0, .slice none 0 0]) rfl) 3 (.int .u64 0) (cs' := #[.int .u16 0, .int .u16 0, .int .u64 0, .int .u64 0, .int .u64 0, .slice none 0 0]) rfl) 4 (.int .u64 0) (cs' := #[.int .u16 0, .int .u16 0, .int .u64 0, .int .u64 0, .int .u64 0, .slice none 0 0]) rfl) 5 (.slice none 0 0) (cs' := #[.int .u16 0, .int .u16 0, .int .u64 0, .int .u64 0, .int .u64 0, .slice none 0 0]) rfl)
  clear H8
  go_wp2
  exact bodyPost_ret (results_cell_tmp1 rfl _ _ (w.heap.size) 60 #[.int .u16 0, .int .u16 0, .int .u64 0, .int .u64 0, .int .u64 0, .slice none 0 0] (0, 0) _ rfl (H9.out.box _ (.tail _ (.head _))).1 Try.underlying60 rfl inf_46) rfl ⟨0, 0, 0, 0, 0, [], 0, 3, l, _, none, 0, rfl, hres, rfl, H9.out.inb, H9.out.act, H9.out.row, H9.out.rn⟩
set_option maxHeartbeats 4000000 in
theorem rreqt_d {w : World} {B b : Nat} {v : Value} {rm ov : Nat} {l : List Nat} (h : RIn w B b v rm ov l) (m : Nat) (hm : m < 4294967296) (hs : ov = 0 ∧ 32 ≤ l.length) (hx : vl l 0 4 = 568597617) (x0 x1 x2 x3 x4 : Nat) (hx0 : vl l 4 2 = x0) (hx1 : vl l 6 2 = x1) (hx2 : vl l 8 8 = x2) (hx3 : vl l 16 8 = x3) (hx4 : vl l 24 8 = x4) (b0 : x0 < 65536) (b1 : x1 < 65536) (b2 : x2 < 18446744073709551616) (b3 : x3 < 18446744073709551616) (b4 : x4 < 18446744073709551616) (y : Nat) (hy : bits BinOp.and IntKind.u16 (x0 : Int) 32 = (y : Int)) (hpay : ((y : Int) != 0) = true) (hmk : ¬ (m : Int) < (x4 : Int)) (hs2 : ¬ (ov = 0 ∧ 32 + x4 ≤ l.length)) (hres : cutOf (0, 0, 0, 0, 0, []) ov l (reqD m true l) = ((0, 0, 0, 0, 0, []), 0, l)) :
    Calls Try.prog 46 #[.pointer (some ⟨b, 0, none⟩), .int .u32 m, .bool true] w fun e w' => ∃ (x0 : Nat) (x1 : Nat) (x2 : Nat) (x3 : Nat) (x4 : Nat) (d : List Nat) (dn cu : Nat) (l' : List Nat) (v' : Value) (ao2 : Option Addr) (cap2 : Nat), e = .returned (.tuple #[.agg #[.int .u16 x0, .int .u16 x1, .int .u64 x2, .int .u64 x3, .int .u64 x4, .slice ao2 dn cap2], .int .i64 cu]) ∧ cutOf (0, 0, 0, 0, 0, []) ov l (reqD m true l) = ((x0, x1, x2, x3, x4, d), cu, l') ∧ d.length = dn ∧ RIn w' B b v' rm ov l' ∧ RAct w w' b v v' ∧ w'.ownsRow w.heap.size 5 1 (.slice ao2 dn cap2) dn (d.map bv) ∧ ∀ g, (Value.slice ao2 dn cap2).ownBlock = some g → v'.ownBlock ≠ some g := by
  replace hres : Hid _ := hres
  have h5 : 60 ≠ 5 := by decide
  obtain ⟨W0, hW0⟩ : ∃ W0, W0 = w.alloc (.cells #[.int .u16 0, .int .u16 0, .int .u64 0, .int .u64 0, .int .u64 0, .slice none 0 0] 60) := ⟨_, rfl⟩
  have hC0 := (Cr.start h).alloc #[.int .u16 0, .int .u16 0, .int .u64 0, .int .u64 0, .int .u64 0, .slice none 0 0] 60 h5
  rw [← hW0] at hC0
  have H0 : Hid _ := hC0
  clear hC0
  clear h
  go_enter Try.func46, Try.ntmps46
  have HA1 : Hid _ := hasT H0.out.inb (32) hs
  go_wp2_with fail
  rw [← hW0]
  clear hW0
  refine Calls.mono HA1.out ?_
  rintro e Wn ⟨rfl, hw⟩
  rw [hw]; clear hw Wn HA1
  have HA2 : Hid _ := uRx H0.out.inb 0 4 (by have := hs.2; omega) (by decide) (by decide) hx
  go_wp2_with fail
  refine Calls.mono HA2.out ?_
  rintro e W2 ⟨rfl, hb⟩
  have H2 : Hid _ := H0.out.later hb
  clear hb H0 HA2
  have HA3 : Hid _ := uRx H2.out.inb 4 2 (by have := hs.2; omega) (by decide) (by decide) hx0
  go_wp2_with fail
  refine Calls.mono HA3.out ?_
  rintro e W3 ⟨rfl, hb⟩
  have H3 : Hid _ := H2.out.later hb
  clear hb H2 HA3
  have HA4 : Hid _ := uRx H3.out.inb 6 2 (by have := hs.2; omega) (by decide) (by decide) hx1
  go_wp2_with fail
  refine Calls.mono HA4.out ?_
  rintro e W4 ⟨rfl, hb⟩
  have H4 : Hid _ := H3.out.later hb
  clear hb H3 HA4
  have HA5 : Hid _ := uRx H4.out.inb 8 8 (by have := hs.2; omega) (by decide) (by decide) hx2
  go_wp2_with fail
  refine Calls.mono HA5.out ?_
  rintro e W5 ⟨rfl, hb⟩
  have H5 : Hid _ := H4.out.later hb
  clear hb H4 HA5
  have HA6 : Hid _ := uRx H5.out.inb 16 8 (by have := hs.2; omega) (by decide) (by decide) hx3
  go_wp2_with fail
  refine Calls.mono HA6.out ?_
  rintro e W6 ⟨rfl, hb⟩
  have H6 : Hid _ := H5.out.later hb
  clear hb H5 HA6
  have HA7 : Hid _ := uRx H6.out.inb 24 8 (by have := hs.2; omega) (by decide) (by decide) hx4
  go_wp2_with fail
  refine Calls.mono HA7.out ?_
  rintro e W7 ⟨rfl, hb⟩
  have H7 : Hid _ := H6.out.later hb
  clear hb H6 HA7
  have hq := H7.out.alloc #[.int .u16 x0, .int .u16 x1, .int .u64 x2, .int .u64 x3, .int .u64 x4, .slice none 0 0] 60 (by decide)
  generalize hW8 : W7.alloc (.cells #[.int .u16 x0, .int .u16 x1, .int .u64 x2, .int .u64 x3, .int .u64 x4, .slice none 0 0] 60) = W8 at hq
  have H8 : Hid _ := hq
  clear hq H7
  have HW8 : Hid _ := hW8
  clear hW8
  go_upto_region 12 with fail
  rw [show _ = _ from HW8.out]
  clear HW8
  have q0 : W8.cell? ⟨W7.heap.size, 0, none⟩ = some (.int .u16 x0) := (H8.out.c (.head _) 0).1
  have q1 : W8.cell? ⟨W7.heap.size, 1, none⟩ = some (.int .u16 x1) := (H8.out.c (.head _) 1).1
  have q2 : W8.cell? ⟨W7.heap.size, 2, none⟩ = some (.int .u64 x2) := (H8.out.c (.head _) 2).1
  have q3 : W8.cell? ⟨W7.heap.size, 3, none⟩ = some (.int .u64 x3) := (H8.out.c (.head _) 3).1
  have q4 : W8.cell? ⟨W7.heap.size, 4, none⟩ = some (.int .u64 x4) := (H8.out.c (.head _) 4).1
  have q5 : W8.cell? ⟨W7.heap.size, 5, none⟩ = some (.slice none 0 0) := (H8.out.c (.head _) 5).1
  have HA9 : Hid _ := hasFz H8.out.inb (32 + x4) (32 + (x4 : Int)) (by omega) hs2
  go_wp2_with fail
  refine Calls.mono HA9.out ?_
  rintro e Wn ⟨rfl, hw⟩
  rw [hw]; clear hw Wn HA9
  clear q0 q1 q2 q3 q4 q5
  have y0 : W8.cell? ⟨w.heap.size, 0, none⟩ = some (.int .u16 0) := (H8.out.c (.tail _ (.head _)) 0).1
  have yf0 : W8.frozen? ⟨w.heap.size, 0, none⟩ = false := (H8.out.c (.tail _ (.head _)) 0).2
  have y1 : W8.cell? ⟨w.heap.size, 1, none⟩ = some (.int .u16 0) := (H8.out.c (.tail _ (.head _)) 1).1
  have yf1 : W8.frozen? ⟨w.heap.size, 1, none⟩ = false := (H8.out.c (.tail _ (.head _)) 1).2
  have y2 : W8.cell? ⟨w.heap.size, 2, none⟩ = some (.int .u64 0) := (H8.out.c (.tail _ (.head _)) 2).1
  have yf2 : W8.frozen? ⟨w.heap.size, 2, none⟩ = false := (H8.out.c (.tail _ (.head _)) 2).2
  have y3 : W8.cell? ⟨w.heap.size, 3, none⟩ = some (.int .u64 0) := (H8.out.c (.tail _ (.head _)) 3).1
  have yf3 : W8.frozen? ⟨w.heap.size, 3, none⟩ = false := (H8.out.c (.tail _ (.head _)) 3).2
  have y4 : W8.cell? ⟨w.heap.size, 4, none⟩ = some (.int .u64 0) := (H8.out.c (.tail _ (.head _)) 4).1
  have yf4 : W8.frozen? ⟨w.heap.size, 4, none⟩ = false := (H8.out.c (.tail _ (.head _)) 4).2
  have y5 : W8.cell? ⟨w.heap.size, 5, none⟩ = some (.slice none 0 0) := (H8.out.c (.tail _ (.head _)) 5).1
  have yf5 : W8.frozen? ⟨w.heap.size, 5, none⟩ = false := (H8.out.c (.tail _ (.head _)) 5).2
  have H10 : Hid _ := (Cr.put (pre := [(W7.heap.size, #[.int .u16 x0, .int .u16 x1, .int .u64 x2, .int .u64 x3, .int .u64 x4, .slice none 0 0], 60)]) (Cr.put (pre := [(W7.heap.size, #[.int .u16 x0, .int .u16 x1, .int .u64 x2, .int .u64 x3, .int .u64 x4, .slice none 0 0], 60)]) (Cr.put (pre := [(W7.heap.size, #[.int .u16 x0, .int .u16 x1, .int .u64 x2, .int .u64 x3, .int .u64 x4, .slice none 0 0], 60)]) (Cr.put (pre := [(W7.heap.size, #[.int .u16 x0, .int .u16 x1, .int .u64 x2, .int .u64 x3, .int .u64 x4, .slice none 0 0], 60)]) (Cr.put (pre := [(W7.heap.size, #[.int .u16 x0, .int .u16 x1, .int .u64 x2, .int .u64 x3, .int .u64 x4, .slice none 0 0], 60)]) (Cr.put (pre := [(W7.heap.size, #[.int .u16 x0, .int .u16 x1, .int .u64 x2, .int .u64 x3, .int .u64 x4, .slice none 0 0], 60)]) H8.out 0 (.int .u16 0) (cs' := #[.int .u16 0, .int .u16 0, .int .u64 0, .int .u64 0, .int .u64 0, .slice none 0 0]) rfl) 1 (.int .u16 0) (cs' := #[.int .u16 0, .int .u16 0, .int .u64 0, .int .u64 0, .int .u64 0, .slice none 0 0]) rfl) 2 (.int .u64 0) (cs' := #[.int .u16 0, .int .u16 0, .int .u64 0, .int .u64 0, .int .u64 0, .slice none 0 0]) rfl) 3 (.int .u64 0) (cs' := #[.int .u16 0, .int .u16 0, .int .u64 0, .int .u64 0, .int .u64 0, .slice none 0 0]) rfl) 4 (.int .u64 0) (cs' := #[.int .u16 0, .int .u16 0, .int .u64 0, .int .u64 0, .int .u64 0, .slice none 0 0]) rfl) 5 (.slice none 0 0) (cs' := #[.int .u16 0, .int .u16 0, .int .u64 0, .int .u64 0, .int .u64 0, .slice none 0 0]) rfl)
  clear H8
  go_wp2
  exact bodyPost_ret (results_cell_tmp1 rfl _ _ (w.heap.size) 60 #[.int .u16 0, .int .u16 0, .int .u64 0, .int .u64 0, .int .u64 0, .slice none 0 0] (0, 0) _ rfl (H10.out.box _ (.tail _ (.head _))).1 Try.underlying60 rfl inf_46) rfl ⟨0, 0, 0, 0, 0, [], 0, 0, l, _, none, 0, rfl, hres, rfl, H10.out.inb, H10.out.act, H10.out.row, H10.out.rn⟩
set_option maxHeartbeats 4000000 in
theorem rreqt_e {w : World} {B b : Nat} {v : Value} {rm ov : Nat} {l : List Nat} (h : RIn w B b v rm ov l) (m : Nat) (hm : m < 4294967296) (hs : ov = 0 ∧ 32 ≤ l.length) (hx : vl l 0 4 = 568597617) (x0 x1 x2 x3 x4 : Nat) (hx0 : vl l 4 2 = x0) (hx1 : vl l 6 2 = x1) (hx2 : vl l 8 8 = x2) (hx3 : vl l 16 8 = x3) (hx4 : vl l 24 8 = x4) (b0 : x0 < 65536) (b1 : x1 < 65536) (b2 : x2 < 18446744073709551616) (b3 : x3 < 18446744073709551616) (b4 : x4 < 18446744073709551616) (y : Nat) (hy : bits BinOp.and IntKind.u16 (x0 : Int) 32 = (y : Int)) (hpay : ((y : Int) != 0) = true) (hmk : ¬ (m : Int) < (x4 : Int)) (hs2 : ov = 0 ∧ 32 + x4 ≤ l.length) (hres : cutOf (0, 0, 0, 0, 0, []) ov l (reqD m true l) = ((x0, x1, x2, x3, x4, (l.drop 32).take x4), 1, (l.drop 32).drop x4)) :
    Calls Try.prog 46 #[.pointer (some ⟨b, 0, none⟩), .int .u32 m, .bool true] w fun e w' => ∃ (x0 : Nat) (x1 : Nat) (x2 : Nat) (x3 : Nat) (x4 : Nat) (d : List Nat) (dn cu : Nat) (l' : List Nat) (v' : Value) (ao2 : Option Addr) (cap2 : Nat), e = .returned (.tuple #[.agg #[.int .u16 x0, .int .u16 x1, .int .u64 x2, .int .u64 x3, .int .u64 x4, .slice ao2 dn cap2], .int .i64 cu]) ∧ cutOf (0, 0, 0, 0, 0, []) ov l (reqD m true l) = ((x0, x1, x2, x3, x4, d), cu, l') ∧ d.length = dn ∧ RIn w' B b v' rm ov l' ∧ RAct w w' b v v' ∧ w'.ownsRow w.heap.size 5 1 (.slice ao2 dn cap2) dn (d.map bv) ∧ ∀ g, (Value.slice ao2 dn cap2).ownBlock = some g → v'.ownBlock ≠ some g := by
  replace hres : Hid _ := hres
  have h5 : 60 ≠ 5 := by decide
  obtain ⟨W0, hW0⟩ : ∃ W0, W0 = w.alloc (.cells #[.int .u16 0, .int .u16 0, .int .u64 0, .int .u64 0, .int .u64 0, .slice none 0 0] 60) := ⟨_, rfl⟩
  have hC0 := (Cr.start h).alloc #[.int .u16 0, .int .u16 0, .int .u64 0, .int .u64 0, .int .u64 0, .slice none 0 0] 60 h5
  rw [← hW0] at hC0
  have H0 : Hid _ := hC0
  clear hC0
  clear h
  go_enter Try.func46, Try.ntmps46
  have HA1 : Hid _ := hasT H0.out.inb (32) hs
  go_wp2_with fail
  rw [← hW0]
  clear hW0
  refine Calls.mono HA1.out ?_
  rintro e Wn ⟨rfl, hw⟩
  rw [hw]; clear hw Wn HA1
  have HA2 : Hid _ := uRx H0.out.inb 0 4 (by have := hs.2; omega) (by decide) (by decide) hx
  go_wp2_with fail
  refine Calls.mono HA2.out ?_
  rintro e W2 ⟨rfl, hb⟩
  have H2 : Hid _ := H0.out.later hb
  clear hb H0 HA2
  have HA3 : Hid _ := uRx H2.out.inb 4 2 (by have := hs.2; omega) (by decide) (by decide) hx0
  go_wp2_with fail
  refine Calls.mono HA3.out ?_
  rintro e W3 ⟨rfl, hb⟩
  have H3 : Hid _ := H2.out.later hb
  clear hb H2 HA3
  have HA4 : Hid _ := uRx H3.out.inb 6 2 (by have := hs.2; omega) (by decide) (by decide) hx1
  go_wp2_with fail
  refine Calls.mono HA4.out ?_
  rintro e W4 ⟨rfl, hb⟩
  have H4 : Hid _ := H3.out.later hb
  clear hb H3 HA4
  have HA5 : Hid _ := uRx H4.out.inb 8 8 (by have := hs.2; omega) (by decide) (by decide) hx2
  go_wp2_with fail
  refine Calls.mono HA5.out ?_
  rintro e W5 ⟨rfl, hb⟩
  have H5 : Hid _ := H4.out.later hb
  clear hb H4 HA5
  have HA6 : Hid _ := uRx H5.out.inb 16 8 (by have := hs.2; omega) (by decide) (by decide) hx3
  go_wp2_with fail
  refine Calls.mono HA6.out ?_
  rintro e W6 ⟨rfl, hb⟩
  have H6 : Hid _ := H5.out.later hb
  clear hb H5 HA6
  have HA7 : Hid _ := uRx H6.out.inb 24 8 (by have := hs.2; omega) (by decide) (by decide) hx4
  go_wp2_with fail
  refine Calls.mono HA7.out ?_
  rintro e W7 ⟨rfl, hb⟩
  have H7 : Hid _ := H6.out.later hb
  clear hb H6 HA7
  have hq := H7.out.alloc #[.int .u16 x0, .int .u16 x1, .int .u64 x2, .int .u64 x3, .int .u64 x4, .slice none 0 0] 60 (by decide)
  generalize hW8 : W7.alloc (.cells #[.int .u16 x0, .int .u16 x1, .int .u64 x2, .int .u64 x3, .int .u64 x4, .slice none 0 0] 60) = W8 at hq
  have H8 : Hid _ := hq
  clear hq H7
  have HW8 : Hid _ := hW8
  clear hW8
  go_upto_region 12 with fail
  rw [show _ = _ from HW8.out]
  clear HW8
  have q0 : W8.cell? ⟨W7.heap.size, 0, none⟩ = some (.int .u16 x0) := (H8.out.c (.head _) 0).1
  have q1 : W8.cell? ⟨W7.heap.size, 1, none⟩ = some (.int .u16 x1) := (H8.out.c (.head _) 1).1
  have q2 : W8.cell? ⟨W7.heap.size, 2, none⟩ = some (.int .u64 x2) := (H8.out.c (.head _) 2).1
  have q3 : W8.cell? ⟨W7.heap.size, 3, none⟩ = some (.int .u64 x3) := (H8.out.c (.head _) 3).1
  have q4 : W8.cell? ⟨W7.heap.size, 4, none⟩ = some (.int .u64 x4) := (H8.out.c (.head _) 4).1
  have q5 : W8.cell? ⟨W7.heap.size, 5, none⟩ = some (.slice none 0 0) := (H8.out.c (.head _) 5).1
  have HA9 : Hid _ := hasTz H8.out.inb (32 + x4) (32 + (x4 : Int)) (by omega) hs2
  go_wp2_with fail
  refine Calls.mono HA9.out ?_
  rintro e Wn ⟨rfl, hw⟩
  rw [hw]; clear hw Wn HA9
  clear q0 q1 q2 q3 q4 q5
  have HA10 : Hid _ := cutR H8.out.inb 32 (by have := hs.2; omega)
  go_wp2_with fail
  refine Calls.mono HA10.out ?_
  rintro e W10 ⟨ao1, cap1, vn10, rfl, hI, hA, hr, hn⟩
  have hd10 : (l.take (32)).length = 32 := by rw [List.length_take]; exact Nat.min_eq_left (by have := hs.2; omega)
  have H10 : Hid _ := H8.out.told2 (d' := l.take (32)) hI hA (by rw [hd10]; exact hr) hn
  clear hI hA hr hn H8 HA10
  have HA11 : Hid _ := cutR H10.out.inb x4 (by have := hs2.2; rw [List.length_drop]; omega)
  go_wp2_with fail
  refine Calls.mono HA11.out ?_
  rintro e W11 ⟨ao2, cap2, vn11, rfl, hI, hA, hr, hn⟩
  have hd11 : ((l.drop 32).take (x4)).length = x4 := by rw [List.length_take]; exact Nat.min_eq_left (by have := hs2.2; rw [List.length_drop]; omega)
  have H11 : Hid _ := H10.out.told2 (d' := (l.drop 32).take (x4)) hI hA (by rw [hd11]; exact hr) hn
  clear hI hA hr hn H10 HA11
  have q0 : W11.cell? ⟨W7.heap.size, 0, none⟩ = some (.int .u16 x0) := (H11.out.c (.head _) 0).1
  have qf0 : W11.frozen? ⟨W7.heap.size, 0, none⟩ = false := (H11.out.c (.head _) 0).2
  have q1 : W11.cell? ⟨W7.heap.size, 1, none⟩ = some (.int .u16 x1) := (H11.out.c (.head _) 1).1
  have qf1 : W11.frozen? ⟨W7.heap.size, 1, none⟩ = false := (H11.out.c (.head _) 1).2
  have q2 : W11.cell? ⟨W7.heap.size, 2, none⟩ = some (.int .u64 x2) := (H11.out.c (.head _) 2).1
  have qf2 : W11.frozen? ⟨W7.heap.size, 2, none⟩ = false := (H11.out.c (.head _) 2).2
  have q3 : W11.cell? ⟨W7.heap.size, 3, none⟩ = some (.int .u64 x3) := (H11.out.c (.head _) 3).1
  have qf3 : W11.frozen? ⟨W7.heap.size, 3, none⟩ = false := (H11.out.c (.head _) 3).2
  have q4 : W11.cell? ⟨W7.heap.size, 4, none⟩ = some (.int .u64 x4) := (H11.out.c (.head _) 4).1
  have qf4 : W11.frozen? ⟨W7.heap.size, 4, none⟩ = false := (H11.out.c (.head _) 4).2
  have q5 : W11.cell? ⟨W7.heap.size, 5, none⟩ = some (.slice none 0 0) := (H11.out.c (.head _) 5).1
  have qf5 : W11.frozen? ⟨W7.heap.size, 5, none⟩ = false := (H11.out.c (.head _) 5).2
  have H12 : Hid _ := (Cr.put (pre := []) H11.out 5 (.slice ao2 x4 cap2) (cs' := #[.int .u16 x0, .int .u16 x1, .int .u64 x2, .int .u64 x3, .int .u64 x4, .slice ao2 x4 cap2]) rfl)
  clear H11
  obtain ⟨Wz, hWz⟩ : ∃ Wz, W11.setCell ⟨W7.heap.size, 5, none⟩ (.slice ao2 x4 cap2) = Wz := ⟨_, rfl⟩
  rw [hWz] at H12
  go_upto_region 20 with fail
  clear hWz
  clear q0 qf0 q1 qf1 q2 qf2 q3 qf3 q4 qf4 q5 qf5
  have q0 : Wz.cell? ⟨W7.heap.size, 0, none⟩ = some (.int .u16 x0) := (H12.out.c (.head _) 0).1
  have q1 : Wz.cell? ⟨W7.heap.size, 1, none⟩ = some (.int .u16 x1) := (H12.out.c (.head _) 1).1
  have q2 : Wz.cell? ⟨W7.heap.size, 2, none⟩ = some (.int .u64 x2) := (H12.out.c (.head _) 2).1
  have q3 : Wz.cell? ⟨W7.heap.size, 3, none⟩ = some (.int .u64 x3) := (H12.out.c (.head _) 3).1
  have q4 : Wz.cell? ⟨W7.heap.size, 4, none⟩ = some (.int .u64 x4) := (H12.out.c (.head _) 4).1
  have q5 : Wz.cell? ⟨W7.heap.size, 5, none⟩ = some (.slice ao2 x4 cap2) := (H12.out.c (.head _) 5).1
  have y0 : Wz.cell? ⟨w.heap.size, 0, none⟩ = some (.int .u16 0) := (H12.out.c (.tail _ (.head _)) 0).1
  have yf0 : Wz.frozen? ⟨w.heap.size, 0, none⟩ = false := (H12.out.c (.tail _ (.head _)) 0).2
  have y1 : Wz.cell? ⟨w.heap.size, 1, none⟩ = some (.int .u16 0) := (H12.out.c (.tail _ (.head _)) 1).1
  have yf1 : Wz.frozen? ⟨w.heap.size, 1, none⟩ = false := (H12.out.c (.tail _ (.head _)) 1).2
  have y2 : Wz.cell? ⟨w.heap.size, 2, none⟩ = some (.int .u64 0) := (H12.out.c (.tail _ (.head _)) 2).1
  have yf2 : Wz.frozen? ⟨w.heap.size, 2, none⟩ = false := (H12.out.c (.tail _ (.head _)) 2).2
  have y3 : Wz.cell? ⟨w.heap.size, 3, none⟩ = some (.int .u64 0) := (H12.out.c (.tail _ (.head _)) 3).1
  have yf3 : Wz.frozen? ⟨w.heap.size, 3, none⟩ = false := (H12.out.c (.tail _ (.head _)) 3).2
  have y4 : Wz.cell? ⟨w.heap.size, 4, none⟩ = some (.int .u64 0) := (H12.out.c (.tail _ (.head _)) 4).1
  have yf4 : Wz.frozen? ⟨w.heap.size, 4, none⟩ = false := (H12.out.c (.tail _ (.head _)) 4).2
  have y5 : Wz.cell? ⟨w.heap.size, 5, none⟩ = some (.slice none 0 0) := (H12.out.c (.tail _ (.head _)) 5).1
  have yf5 : Wz.frozen? ⟨w.heap.size, 5, none⟩ = false := (H12.out.c (.tail _ (.head _)) 5).2
  have H13 : Hid _ := (Cr.put (pre := [(W7.heap.size, #[.int .u16 x0, .int .u16 x1, .int .u64 x2, .int .u64 x3, .int .u64 x4, .slice ao2 x4 cap2], 60)]) (Cr.put (pre := [(W7.heap.size, #[.int .u16 x0, .int .u16 x1, .int .u64 x2, .int .u64 x3, .int .u64 x4, .slice ao2 x4 cap2], 60)]) (Cr.put (pre := [(W7.heap.size, #[.int .u16 x0, .int .u16 x1, .int .u64 x2, .int .u64 x3, .int .u64 x4, .slice ao2 x4 cap2], 60)]) (Cr.put (pre := [(W7.heap.size, #[.int .u16 x0, .int .u16 x1, .int .u64 x2, .int .u64 x3, .int .u64 x4, .slice ao2 x4 cap2], 60)]) (Cr.put (pre := [(W7.heap.size, #[.int .u16 x0, .int .u16 x1, .int .u64 x2, .int .u64 x3, .int .u64 x4, .slice ao2 x4 cap2], 60)]) (Cr.put (pre := [(W7.heap.size, #[.int .u16 x0, .int .u16 x1, .int .u64 x2, .int .u64 x3, .int .u64 x4, .slice ao2 x4 cap2], 60)]) H12.out 0 (.int .u16 x0) (cs' := #[.int .u16 x0, .int .u16 0, .int .u64 0, .int .u64 0, .int .u64 0, .slice none 0 0]) rfl) 1 (.int .u16 x1) (cs' := #[.int .u16 x0, .int .u16 x1, .int .u64 0, .int .u64 0, .int .u64 0, .slice none 0 0]) rfl) 2 (.int .u64 x2) (cs' := #[.int .u16 x0, .int .u16 x1, .int .u64 x2, .int .u64 0, .int .u64 0, .slice none 0 0]) rfl) 3 (.int .u64 x3) (cs' := #[.int .u16 x0, .int .u16 x1, .int .u64 x2, .int .u64 x3, .int .u64 0, .slice none 0 0]) rfl) 4 (.int .u64 x4) (cs' := #[.int .u16 x0, .int .u16 x1, .int .u64 x2, .int .u64 x3, .int .u64 x4, .slice none 0 0]) rfl) 5 (.slice ao2 x4 cap2) (cs' := #[.int .u16 x0, .int .u16 x1, .int .u64 x2, .int .u64 x3, .int .u64 x4, .slice ao2 x4 cap2]) rfl)
  clear H12
  go_wp2
  exact bodyPost_ret (results_cell_tmp1 rfl _ _ (w.heap.size) 60 #[.int .u16 x0, .int .u16 x1, .int .u64 x2, .int .u64 x3, .int .u64 x4, .slice ao2 x4 cap2] (0, 0) _ rfl (H13.out.box _ (.tail _ (.head _))).1 Try.underlying60 rfl inf_46) rfl ⟨x0, x1, x2, x3, x4, (l.drop 32).take x4, x4, 1, (l.drop 32).drop x4, _, ao2, cap2, rfl, hres, hd11, H13.out.inb, H13.out.act, by have q := H13.out.row; rw [hd11] at q; exact q, H13.out.rn⟩
set_option maxHeartbeats 4000000 in
theorem rreqt_f {w : World} {B b : Nat} {v : Value} {rm ov : Nat} {l : List Nat} (h : RIn w B b v rm ov l) (m : Nat) (hm : m < 4294967296) (hs : ov = 0 ∧ 32 ≤ l.length) (hx : vl l 0 4 = 568597617) (x0 x1 x2 x3 x4 : Nat) (hx0 : vl l 4 2 = x0) (hx1 : vl l 6 2 = x1) (hx2 : vl l 8 8 = x2) (hx3 : vl l 16 8 = x3) (hx4 : vl l 24 8 = x4) (b0 : x0 < 65536) (b1 : x1 < 65536) (b2 : x2 < 18446744073709551616) (b3 : x3 < 18446744073709551616) (b4 : x4 < 18446744073709551616) (y : Nat) (hy : bits BinOp.and IntKind.u16 (x0 : Int) 32 = (y : Int)) (hpay : ((y : Int) != 0) = false) (hres : cutOf (0, 0, 0, 0, 0, []) ov l (reqD m true l) = ((x0, x1, x2, x3, x4, (l.drop 32).take 0), 1, (l.drop 32).drop 0)) :
    Calls Try.prog 46 #[.pointer (some ⟨b, 0, none⟩), .int .u32 m, .bool true] w fun e w' => ∃ (x0 : Nat) (x1 : Nat) (x2 : Nat) (x3 : Nat) (x4 : Nat) (d : List Nat) (dn cu : Nat) (l' : List Nat) (v' : Value) (ao2 : Option Addr) (cap2 : Nat), e = .returned (.tuple #[.agg #[.int .u16 x0, .int .u16 x1, .int .u64 x2, .int .u64 x3, .int .u64 x4, .slice ao2 dn cap2], .int .i64 cu]) ∧ cutOf (0, 0, 0, 0, 0, []) ov l (reqD m true l) = ((x0, x1, x2, x3, x4, d), cu, l') ∧ d.length = dn ∧ RIn w' B b v' rm ov l' ∧ RAct w w' b v v' ∧ w'.ownsRow w.heap.size 5 1 (.slice ao2 dn cap2) dn (d.map bv) ∧ ∀ g, (Value.slice ao2 dn cap2).ownBlock = some g → v'.ownBlock ≠ some g := by
  replace hres : Hid _ := hres
  have h5 : 60 ≠ 5 := by decide
  obtain ⟨W0, hW0⟩ : ∃ W0, W0 = w.alloc (.cells #[.int .u16 0, .int .u16 0, .int .u64 0, .int .u64 0, .int .u64 0, .slice none 0 0] 60) := ⟨_, rfl⟩
  have hC0 := (Cr.start h).alloc #[.int .u16 0, .int .u16 0, .int .u64 0, .int .u64 0, .int .u64 0, .slice none 0 0] 60 h5
  rw [← hW0] at hC0
  have H0 : Hid _ := hC0
  clear hC0
  clear h
  go_enter Try.func46, Try.ntmps46
  have HA1 : Hid _ := hasT H0.out.inb (32) hs
  go_wp2_with fail
  rw [← hW0]
  clear hW0
  refine Calls.mono HA1.out ?_
  rintro e Wn ⟨rfl, hw⟩
  rw [hw]; clear hw Wn HA1
  have HA2 : Hid _ := uRx H0.out.inb 0 4 (by have := hs.2; omega) (by decide) (by decide) hx
  go_wp2_with fail
  refine Calls.mono HA2.out ?_
  rintro e W2 ⟨rfl, hb⟩
  have H2 : Hid _ := H0.out.later hb
  clear hb H0 HA2
  have HA3 : Hid _ := uRx H2.out.inb 4 2 (by have := hs.2; omega) (by decide) (by decide) hx0
  go_wp2_with fail
  refine Calls.mono HA3.out ?_
  rintro e W3 ⟨rfl, hb⟩
  have H3 : Hid _ := H2.out.later hb
  clear hb H2 HA3
  have HA4 : Hid _ := uRx H3.out.inb 6 2 (by have := hs.2; omega) (by decide) (by decide) hx1
  go_wp2_with fail
  refine Calls.mono HA4.out ?_
  rintro e W4 ⟨rfl, hb⟩
  have H4 : Hid _ := H3.out.later hb
  clear hb H3 HA4
  have HA5 : Hid _ := uRx H4.out.inb 8 8 (by have := hs.2; omega) (by decide) (by decide) hx2
  go_wp2_with fail
  refine Calls.mono HA5.out ?_
  rintro e W5 ⟨rfl, hb⟩
  have H5 : Hid _ := H4.out.later hb
  clear hb H4 HA5
  have HA6 : Hid _ := uRx H5.out.inb 16 8 (by have := hs.2; omega) (by decide) (by decide) hx3
  go_wp2_with fail
  refine Calls.mono HA6.out ?_
  rintro e W6 ⟨rfl, hb⟩
  have H6 : Hid _ := H5.out.later hb
  clear hb H5 HA6
  have HA7 : Hid _ := uRx H6.out.inb 24 8 (by have := hs.2; omega) (by decide) (by decide) hx4
  go_wp2_with fail
  refine Calls.mono HA7.out ?_
  rintro e W7 ⟨rfl, hb⟩
  have H7 : Hid _ := H6.out.later hb
  clear hb H6 HA7
  have hq := H7.out.alloc #[.int .u16 x0, .int .u16 x1, .int .u64 x2, .int .u64 x3, .int .u64 x4, .slice none 0 0] 60 (by decide)
  generalize hW8 : W7.alloc (.cells #[.int .u16 x0, .int .u16 x1, .int .u64 x2, .int .u64 x3, .int .u64 x4, .slice none 0 0] 60) = W8 at hq
  have H8 : Hid _ := hq
  clear hq H7
  have HW8 : Hid _ := hW8
  clear hW8
  go_upto_region 12 with fail
  rw [show _ = _ from HW8.out]
  clear HW8
  have q0 : W8.cell? ⟨W7.heap.size, 0, none⟩ = some (.int .u16 x0) := (H8.out.c (.head _) 0).1
  have q1 : W8.cell? ⟨W7.heap.size, 1, none⟩ = some (.int .u16 x1) := (H8.out.c (.head _) 1).1
  have q2 : W8.cell? ⟨W7.heap.size, 2, none⟩ = some (.int .u64 x2) := (H8.out.c (.head _) 2).1
  have q3 : W8.cell? ⟨W7.heap.size, 3, none⟩ = some (.int .u64 x3) := (H8.out.c (.head _) 3).1
  have q4 : W8.cell? ⟨W7.heap.size, 4, none⟩ = some (.int .u64 x4) := (H8.out.c (.head _) 4).1
  have q5 : W8.cell? ⟨W7.heap.size, 5, none⟩ = some (.slice none 0 0) := (H8.out.c (.head _) 5).1
  have HA9 : Hid _ := hasT H8.out.inb (32) hs
  go_wp2_with fail
  refine Calls.mono HA9.out ?_
  rintro e Wn ⟨rfl, hw⟩
  rw [hw]; clear hw Wn HA9
  clear q0 q1 q2 q3 q4 q5
  have HA10 : Hid _ := cutR H8.out.inb 32 (by have := hs.2; omega)
  go_wp2_with fail
  refine Calls.mono HA10.out ?_
  rintro e W10 ⟨ao1, cap1, vn10, rfl, hI, hA, hr, hn⟩
  have hd10 : (l.take (32)).length = 32 := by rw [List.length_take]; exact Nat.min_eq_left (by have := hs.2; omega)
  have H10 : Hid _ := H8.out.told2 (d' := l.take (32)) hI hA (by rw [hd10]; exact hr) hn
  clear hI hA hr hn H8 HA10
  have HA11 : Hid _ := cutR H10.out.inb 0 (by omega)
  go_wp2_with fail
  refine Calls.mono HA11.out ?_
  rintro e W11 ⟨ao2, cap2, vn11, rfl, hI, hA, hr, hn⟩
  have hd11 : ((l.drop 32).take (0)).length = 0 := by rw [List.length_take]; exact Nat.min_eq_left (by omega)
  have H11 : Hid _ := H10.out.told2 (d' := (l.drop 32).take (0)) hI hA (by rw [hd11]; exact hr) hn
  clear hI hA hr hn H10 HA11
  have q0 : W11.cell? ⟨W7.heap.size, 0, none⟩ = some (.int .u16 x0) := (H11.out.c (.head _) 0).1
  have qf0 : W11.frozen? ⟨W7.heap.size, 0, none⟩ = false := (H11.out.c (.head _) 0).2
  have q1 : W11.cell? ⟨W7.heap.size, 1, none⟩ = some (.int .u16 x1) := (H11.out.c (.head _) 1).1
  have qf1 : W11.frozen? ⟨W7.heap.size, 1, none⟩ = false := (H11.out.c (.head _) 1).2
  have q2 : W11.cell? ⟨W7.heap.size, 2, none⟩ = some (.int .u64 x2) := (H11.out.c (.head _) 2).1
  have qf2 : W11.frozen? ⟨W7.heap.size, 2, none⟩ = false := (H11.out.c (.head _) 2).2
  have q3 : W11.cell? ⟨W7.heap.size, 3, none⟩ = some (.int .u64 x3) := (H11.out.c (.head _) 3).1
  have qf3 : W11.frozen? ⟨W7.heap.size, 3, none⟩ = false := (H11.out.c (.head _) 3).2
  have q4 : W11.cell? ⟨W7.heap.size, 4, none⟩ = some (.int .u64 x4) := (H11.out.c (.head _) 4).1
  have qf4 : W11.frozen? ⟨W7.heap.size, 4, none⟩ = false := (H11.out.c (.head _) 4).2
  have q5 : W11.cell? ⟨W7.heap.size, 5, none⟩ = some (.slice none 0 0) := (H11.out.c (.head _) 5).1
  have qf5 : W11.frozen? ⟨W7.heap.size, 5, none⟩ = false := (H11.out.c (.head _) 5).2
  have H12 : Hid _ := (Cr.put (pre := []) H11.out 5 (.slice ao2 0 cap2) (cs' := #[.int .u16 x0, .int .u16 x1, .int .u64 x2, .int .u64 x3, .int .u64 x4, .slice ao2 0 cap2]) rfl)
  clear H11
  obtain ⟨Wz, hWz⟩ : ∃ Wz, W11.setCell ⟨W7.heap.size, 5, none⟩ (.slice ao2 0 cap2) = Wz := ⟨_, rfl⟩
  rw [hWz] at H12
  go_upto_region 20 with fail
  clear hWz
  clear q0 qf0 q1 qf1 q2 qf2 q3 qf3 q4 qf4 q5 qf5
  have q0 : Wz.cell? ⟨W7.heap.size, 0, none⟩ = some (.int .u16 x0) := (H12.out.c (.head _) 0).1
  have q1 : Wz.cell? ⟨W7.heap.size, 1, none⟩ = some (.int .u16 x1) := (H12.out.c (.head _) 1).1
  have q2 : Wz.cell? ⟨W7.heap.size, 2, none⟩ = some (.int .u64 x2) := (H12.out.c (.head _) 2).1
  have q3 : Wz.cell? ⟨W7.heap.size, 3, none⟩ = some (.int .u64 x3) := (H12.out.c (.head _) 3).1
  have q4 : Wz.cell? ⟨W7.heap.size, 4, none⟩ = some (.int .u64 x4) := (H12.out.c (.head _) 4).1
  have q5 : Wz.cell? ⟨W7.heap.size, 5, none⟩ = some (.slice ao2 0 cap2) := (H12.out.c (.head _) 5).1
  have y0 : Wz.cell? ⟨w.heap.size, 0, none⟩ = some (.int .u16 0) := (H12.out.c (.tail _ (.head _)) 0).1
  have yf0 : Wz.frozen? ⟨w.heap.size, 0, none⟩ = false := (H12.out.c (.tail _ (.head _)) 0).2
  have y1 : Wz.cell? ⟨w.heap.size, 1, none⟩ = some (.int .u16 0) := (H12.out.c (.tail _ (.head _)) 1).1
  have yf1 : Wz.frozen? ⟨w.heap.size, 1, none⟩ = false := (H12.out.c (.tail _ (.head _)) 1).2
  have y2 : Wz.cell? ⟨w.heap.size, 2, none⟩ = some (.int .u64 0) := (H12.out.c (.tail _ (.head _)) 2).1
  have yf2 : Wz.frozen? ⟨w.heap.size, 2, none⟩ = false := (H12.out.c (.tail _ (.head _)) 2).2
  have y3 : Wz.cell? ⟨w.heap.size, 3, none⟩ = some (.int .u64 0) := (H12.out.c (.tail _ (.head _)) 3).1
  have yf3 : Wz.frozen? ⟨w.heap.size, 3, none⟩ = false := (H12.out.c (.tail _ (.head _)) 3).2
  have y4 : Wz.cell? ⟨w.heap.size, 4, none⟩ = some (.int .u64 0) := (H12.out.c (.tail _ (.head _)) 4).1
  have yf4 : Wz.frozen? ⟨w.heap.size, 4, none⟩ = false := (H12.out.c (.tail _ (.head _)) 4).2
  have y5 : Wz.cell? ⟨w.heap.size, 5, none⟩ = some (.slice none 0 0) := (H12.out.c (.tail _ (.head _)) 5).1
  have yf5 : Wz.frozen? ⟨w.heap.size, 5, none⟩ = false := (H12.out.c (.tail _ (.head _)) 5).2
  have H13 : Hid _ := (Cr.put (pre := [(W7.heap.size, #[.int .u16 x0, .int .u16 x1, .int .u64 x2, .int .u64 x3, .int .u64 x4, .slice ao2 0 cap2], 60)]) (Cr.put (pre := [(W7.heap.size, #[.int .u16 x0, .int .u16 x1, .int .u64 x2, .int .u64 x3, .int .u64 x4, .slice ao2 0 cap2], 60)]) (Cr.put (pre := [(W7.heap.size, #[.int .u16 x0, .int .u16 x1, .int .u64 x2, .int .u64 x3, .int .u64 x4, .slice ao2 0 cap2], 60)]) (Cr.put (pre := [(W7.heap.size, #[.int .u16 x0, .int .u16 x1, .int .u64 x2, .int .u64 x3, .int .u64 x4, .slice ao2 0 cap2], 60)]) (Cr.put (pre := [(W7.heap.size, #[.int .u16 x0, .int .u16 x1, .int .u64 x2, .int .u64 x3, .int .u64 x4, .slice ao2 0 cap2], 60)]) (Cr.put (pre := [(W7.heap.size, #[.int .u16 x0, .int .u16 x1, .int .u64 x2, .int .u64 x3, .int .u64 x4, .slice ao2 0 cap2], 60)]) H12.out 0 (.int .u16 x0) (cs' := #[.int .u16 x0, .int .u16 0, .int .u64 0, .int .u64 0, .int .u64 0, .slice none 0 0]) rfl) 1 (.int .u16 x1) (cs' := #[.int .u16 x0, .int .u16 x1, .int .u64 0, .int .u64 0, .int .u64 0, .slice none 0 0]) rfl) 2 (.int .u64 x2) (cs' := #[.int .u16 x0, .int .u16 x1, .int .u64 x2, .int .u64 0, .int .u64 0, .slice none 0 0]) rfl) 3 (.int .u64 x3) (cs' := #[.int .u16 x0, .int .u16 x1, .int .u64 x2, .int .u64 x3, .int .u64 0, .slice none 0 0]) rfl) 4 (.int .u64 x4) (cs' := #[.int .u16 x0, .int .u16 x1, .int .u64 x2, .int .u64 x3, .int .u64 x4, .slice none 0 0]) rfl) 5 (.slice ao2 0 cap2) (cs' := #[.int .u16 x0, .int .u16 x1, .int .u64 x2, .int .u64 x3, .int .u64 x4, .slice ao2 0 cap2]) rfl)
  clear H12
  go_wp2
  exact bodyPost_ret (results_cell_tmp1 rfl _ _ (w.heap.size) 60 #[.int .u16 x0, .int .u16 x1, .int .u64 x2, .int .u64 x3, .int .u64 x4, .slice ao2 0 cap2] (0, 0) _ rfl (H13.out.box _ (.tail _ (.head _))).1 Try.underlying60 rfl inf_46) rfl ⟨x0, x1, x2, x3, x4, (l.drop 32).take 0, 0, 1, (l.drop 32).drop 0, _, ao2, cap2, rfl, hres, hd11, H13.out.inb, H13.out.act, by have q := H13.out.row; rw [hd11] at q; exact q, H13.out.rn⟩
end Go.Proofs.Ytckfmpoddmccfaa
