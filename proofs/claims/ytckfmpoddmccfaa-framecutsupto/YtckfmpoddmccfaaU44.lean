import Derived.Test.YtckfmpoddmccfaaU40
import Derived.Test.YtckfmpoddmccfaaU37
import Derived.Deep.DeepCutAuto
namespace Go.Proofs.Ytckfmpoddmccfaa
open Go.RowKit
set_option linter.unusedVariables false
set_option linter.unusedSimpArgs false
set_option maxRecDepth 100000
theorem inf_45 : (Try.prog.info? 96).map (·.size) = some 2 := by kernel_rfl
theorem zeros_step {l : List Nat} {i : Nat} (hi : i < l.length) (h : ∀ j (hj : j < l.length), 10 ≤ j → j < i → l[j] = 0) (h0 : l[i] = 0) : ∀ j (hj : j < l.length), 10 ≤ j → j < i + 1 → l[j] = 0 := by
  intro j hj h1 h2
  rcases Nat.lt_or_ge j i with h3 | h3
  · exact h j hj h1 h3
  · have h4 : j = i := by omega
    subst h4; exact h0
set_option maxHeartbeats 4000000 in
theorem rexpf_a {w : World} {B b : Nat} {v : Value} {rm ov : Nat} {l : List Nat} (h : RIn w B b v rm ov l)  (hs : ¬ (ov = 0 ∧ 10 ≤ l.length)) (hres : cutOf (0, 0) ov l (expD false l) = ((0, 0), 0, l)) :
    Calls Try.prog 45 #[.pointer (some ⟨b, 0, none⟩), .bool false] w fun e w' => ∃ (x0 : Nat) (x1 : Nat) (cu : Nat) (l' : List Nat) (v' : Value), e = .returned (.tuple #[.agg #[.int .u64 (x0 : Int), .int .u16 (x1 : Int)], .int .i64 (cu : Int)]) ∧ cutOf (0, 0) ov l (expD false l) = ((x0, x1), cu, l') ∧ RIn w' B b v' rm ov l' ∧ RAct w w' b v v' := by
  replace hres : Hid _ := hres
  have h5 : 96 ≠ 5 := by decide
  obtain ⟨W0, hW0⟩ : ∃ W0, W0 = w.alloc (.cells #[.int .u64 0, .int .u16 0] 96) := ⟨_, rfl⟩
  have hC0 := (Cr.start h).alloc #[.int .u64 0, .int .u16 0] 96 h5
  rw [← hW0] at hC0
  have H0 : Hid _ := hC0
  clear hC0
  clear h
  go_enter Try.func45, Try.ntmps45
  have HA1 : Hid _ := hasF H0.out.inb (10) hs
  go_wp2_with fail
  rw [← hW0]
  clear hW0
  refine Calls.mono HA1.out ?_
  rintro e Wn ⟨rfl, hw⟩
  rw [hw]; clear hw Wn HA1
  have y0 : W0.cell? ⟨w.heap.size, 0, none⟩ = some (.int .u64 0) := (H0.out.c (.head _) 0).1
  have yf0 : W0.frozen? ⟨w.heap.size, 0, none⟩ = false := (H0.out.c (.head _) 0).2
  have y1 : W0.cell? ⟨w.heap.size, 1, none⟩ = some (.int .u16 0) := (H0.out.c (.head _) 1).1
  have yf1 : W0.frozen? ⟨w.heap.size, 1, none⟩ = false := (H0.out.c (.head _) 1).2
  have H2 : Hid _ := (Cr.put (pre := []) (Cr.put (pre := []) H0.out 0 (.int .u64 0) (cs' := #[.int .u64 0, .int .u16 0]) rfl) 1 (.int .u16 0) (cs' := #[.int .u64 0, .int .u16 0]) rfl)
  clear H0
  go_wp2
  exact bodyPost_ret (results_cell_tmp1 rfl _ _ (w.heap.size) 96 #[.int .u64 0, .int .u16 0] (0, 0) _ rfl (H2.out.box _ (.head _)).1 Try.underlying96 rfl inf_45) rfl ⟨0, 0, 0, l, _, rfl, hres, H2.out.inb, H2.out.act⟩
set_option maxHeartbeats 4000000 in
theorem rexpf_d {w : World} {B b : Nat} {v : Value} {rm ov : Nat} {l : List Nat} (h : RIn w B b v rm ov l)  (hs : ov = 0 ∧ 10 ≤ l.length) (x0 x1 : Nat) (hx0 : vl l 0 8 = x0) (hx1 : vl l 8 2 = x1) (b0 : x0 < 18446744073709551616) (b1 : x1 < 65536) (hres : cutOf (0, 0) ov l (expD false l) = ((x0, x1), 1, l.drop 10)) :
    Calls Try.prog 45 #[.pointer (some ⟨b, 0, none⟩), .bool false] w fun e w' => ∃ (x0 : Nat) (x1 : Nat) (cu : Nat) (l' : List Nat) (v' : Value), e = .returned (.tuple #[.agg #[.int .u64 (x0 : Int), .int .u16 (x1 : Int)], .int .i64 (cu : Int)]) ∧ cutOf (0, 0) ov l (expD false l) = ((x0, x1), cu, l') ∧ RIn w' B b v' rm ov l' ∧ RAct w w' b v v' := by
  replace hres : Hid _ := hres
  have h5 : 96 ≠ 5 := by decide
  obtain ⟨W0, hW0⟩ : ∃ W0, W0 = w.alloc (.cells #[.int .u64 0, .int .u16 0] 96) := ⟨_, rfl⟩
  have hC0 := (Cr.start h).alloc #[.int .u64 0, .int .u16 0] 96 h5
  rw [← hW0] at hC0
  have H0 : Hid _ := hC0
  clear hC0
  clear h
  go_enter Try.func45, Try.ntmps45
  have HA1 : Hid _ := hasT H0.out.inb (10) hs
  go_wp2_with fail
  rw [← hW0]
  clear hW0
  refine Calls.mono HA1.out ?_
  rintro e Wn ⟨rfl, hw⟩
  rw [hw]; clear hw Wn HA1
  go_wp2_with fail
  go_loopw [7] (fun iv wr => iv = .int .i64 10 ∧ wr = W0) (fun _ _ => 0)
  case atStart => exact ⟨rfl, rfl⟩
  case round =>
    obtain ⟨rfl, rfl⟩ := hrel
    have HA2 : Hid _ := uRx H0.out.inb 0 8 (by have := hs.2; omega) (by decide) (by decide) hx0
    go_wp2_with fail
    refine Calls.mono HA2.out ?_
    rintro e W2 ⟨rfl, hb⟩
    have H2 : Hid _ := H0.out.later hb
    clear hb H0 HA2
    have HA3 : Hid _ := uRx H2.out.inb 8 2 (by have := hs.2; omega) (by decide) (by decide) hx1
    go_wp2_with fail
    refine Calls.mono HA3.out ?_
    rintro e W3 ⟨rfl, hb⟩
    have H3 : Hid _ := H2.out.later hb
    clear hb H2 HA3
    have hq := H3.out.alloc #[.int .u64 (x0 : Int), .int .u16 (x1 : Int)] 96 (by decide)
    generalize hW4 : W3.alloc (.cells #[.int .u64 (x0 : Int), .int .u16 (x1 : Int)] 96) = W4 at hq
    have H4 : Hid _ := hq
    clear hq H3
    have HW4 : Hid _ := hW4
    clear hW4
    have HA5 : Hid _ := cutR H4.out.inb 10 (by have := hs.2; omega)
    go_wp2_with fail
    rw [show _ = _ from HW4.out]
    clear HW4
    refine Calls.mono HA5.out ?_
    rintro e W5 ⟨ao1, cap1, vn5, rfl, hI, hA, hr, hn⟩
    have hd5 : (l.take (10)).length = 10 := by rw [List.length_take]; exact Nat.min_eq_left (by have := hs.2; omega)
    have H5 : Hid _ := H4.out.told2 (d' := l.take (10)) hI hA (by rw [hd5]; exact hr) hn
    clear hI hA hr hn H4 HA5
    have q0 : W5.cell? ⟨W3.heap.size, 0, none⟩ = some (.int .u64 (x0 : Int)) := (H5.out.c (.head _) 0).1
    have q1 : W5.cell? ⟨W3.heap.size, 1, none⟩ = some (.int .u16 (x1 : Int)) := (H5.out.c (.head _) 1).1
    have y0 : W5.cell? ⟨w.heap.size, 0, none⟩ = some (.int .u64 0) := (H5.out.c (.tail _ (.head _)) 0).1
    have yf0 : W5.frozen? ⟨w.heap.size, 0, none⟩ = false := (H5.out.c (.tail _ (.head _)) 0).2
    have y1 : W5.cell? ⟨w.heap.size, 1, none⟩ = some (.int .u16 0) := (H5.out.c (.tail _ (.head _)) 1).1
    have yf1 : W5.frozen? ⟨w.heap.size, 1, none⟩ = false := (H5.out.c (.tail _ (.head _)) 1).2
    have H6 : Hid _ := (Cr.put (pre := [(W3.heap.size, #[.int .u64 (x0 : Int), .int .u16 (x1 : Int)], 96)]) (Cr.put (pre := [(W3.heap.size, #[.int .u64 (x0 : Int), .int .u16 (x1 : Int)], 96)]) H5.out 0 (.int .u64 (x0 : Int)) (cs' := #[.int .u64 (x0 : Int), .int .u16 0]) rfl) 1 (.int .u16 (x1 : Int)) (cs' := #[.int .u64 (x0 : Int), .int .u16 (x1 : Int)]) rfl)
    clear H5
    go_wp2
    exact bodyPost_ret (results_cell_tmp1 rfl _ _ (w.heap.size) 96 #[.int .u64 (x0 : Int), .int .u16 (x1 : Int)] (0, 0) _ rfl (H6.out.box _ (.tail _ (.head _))).1 Try.underlying96 rfl inf_45) rfl ⟨x0, x1, 1, l.drop 10, _, rfl, hres, H6.out.inb, H6.out.act⟩
set_option maxHeartbeats 4000000 in
theorem rexpt_a {w : World} {B b : Nat} {v : Value} {rm ov : Nat} {l : List Nat} (h : RIn w B b v rm ov l)  (hs : ¬ (ov = 0 ∧ 134 ≤ l.length)) (hres : cutOf (0, 0) ov l (expD true l) = ((0, 0), 0, l)) :
    Calls Try.prog 45 #[.pointer (some ⟨b, 0, none⟩), .bool true] w fun e w' => ∃ (x0 : Nat) (x1 : Nat) (cu : Nat) (l' : List Nat) (v' : Value), e = .returned (.tuple #[.agg #[.int .u64 (x0 : Int), .int .u16 (x1 : Int)], .int .i64 (cu : Int)]) ∧ cutOf (0, 0) ov l (expD true l) = ((x0, x1), cu, l') ∧ RIn w' B b v' rm ov l' ∧ RAct w w' b v v' := by
  replace hres : Hid _ := hres
  have h5 : 96 ≠ 5 := by decide
  obtain ⟨W0, hW0⟩ : ∃ W0, W0 = w.alloc (.cells #[.int .u64 0, .int .u16 0] 96) := ⟨_, rfl⟩
  have hC0 := (Cr.start h).alloc #[.int .u64 0, .int .u16 0] 96 h5
  rw [← hW0] at hC0
  have H0 : Hid _ := hC0
  clear hC0
  clear h
  go_enter Try.func45, Try.ntmps45
  have HA1 : Hid _ := hasF H0.out.inb (134) hs
  go_wp2_with fail
  rw [← hW0]
  clear hW0
  refine Calls.mono HA1.out ?_
  rintro e Wn ⟨rfl, hw⟩
  rw [hw]; clear hw Wn HA1
  have y0 : W0.cell? ⟨w.heap.size, 0, none⟩ = some (.int .u64 0) := (H0.out.c (.head _) 0).1
  have yf0 : W0.frozen? ⟨w.heap.size, 0, none⟩ = false := (H0.out.c (.head _) 0).2
  have y1 : W0.cell? ⟨w.heap.size, 1, none⟩ = some (.int .u16 0) := (H0.out.c (.head _) 1).1
  have yf1 : W0.frozen? ⟨w.heap.size, 1, none⟩ = false := (H0.out.c (.head _) 1).2
  have H2 : Hid _ := (Cr.put (pre := []) (Cr.put (pre := []) H0.out 0 (.int .u64 0) (cs' := #[.int .u64 0, .int .u16 0]) rfl) 1 (.int .u16 0) (cs' := #[.int .u64 0, .int .u16 0]) rfl)
  clear H0
  go_wp2
  exact bodyPost_ret (results_cell_tmp1 rfl _ _ (w.heap.size) 96 #[.int .u64 0, .int .u16 0] (0, 0) _ rfl (H2.out.box _ (.head _)).1 Try.underlying96 rfl inf_45) rfl ⟨0, 0, 0, l, _, rfl, hres, H2.out.inb, H2.out.act⟩
set_option maxHeartbeats 4000000 in
theorem rexpt_d {w : World} {B b : Nat} {v : Value} {rm ov : Nat} {l : List Nat} (h : RIn w B b v rm ov l)  (hs : ov = 0 ∧ 134 ≤ l.length) (x0 x1 : Nat) (hx0 : vl l 0 8 = x0) (hx1 : vl l 8 2 = x1) (b0 : x0 < 18446744073709551616) (b1 : x1 < 65536) (hbad : ∀ i (hi : i < l.length), 10 ≤ i → i < 134 → l[i] ≠ 0 → cutOf (0, 0) ov l (expD true l) = ((0, 0), 2, l)) (hgood : (∀ j (hj : j < l.length), 10 ≤ j → j < 134 → l[j] = 0) → cutOf (0, 0) ov l (expD true l) = ((x0, x1), 1, l.drop 134)) (hres : True) :
    Calls Try.prog 45 #[.pointer (some ⟨b, 0, none⟩), .bool true] w fun e w' => ∃ (x0 : Nat) (x1 : Nat) (cu : Nat) (l' : List Nat) (v' : Value), e = .returned (.tuple #[.agg #[.int .u64 (x0 : Int), .int .u16 (x1 : Int)], .int .i64 (cu : Int)]) ∧ cutOf (0, 0) ov l (expD true l) = ((x0, x1), cu, l') ∧ RIn w' B b v' rm ov l' ∧ RAct w w' b v v' := by
  replace hres : Hid _ := hres
  have h5 : 96 ≠ 5 := by decide
  obtain ⟨W0, hW0⟩ : ∃ W0, W0 = w.alloc (.cells #[.int .u64 0, .int .u16 0] 96) := ⟨_, rfl⟩
  have hC0 := (Cr.start h).alloc #[.int .u64 0, .int .u16 0] 96 h5
  rw [← hW0] at hC0
  have H0 : Hid _ := hC0
  clear hC0
  clear h
  go_enter Try.func45, Try.ntmps45
  have HA1 : Hid _ := hasT H0.out.inb (134) hs
  go_wp2_with fail
  rw [← hW0]
  clear hW0
  refine Calls.mono HA1.out ?_
  rintro e Wn ⟨rfl, hw⟩
  rw [hw]; clear hw Wn HA1
  obtain ⟨aoB, capB, hvB, hcB⟩ := H0.out.inb.row.crow
  obtain ⟨gB, oB, rfl, hby⟩ := hcB.row.at_ (by rintro rfl; have := hs.2; simp at this)
  obtain ⟨R, hR⟩ : ∃ R, l.length = R := ⟨_, rfl⟩
  have i1 : W0.cell? ⟨b, 1, none⟩ = some (.slice (some ⟨gB, oB, none⟩) R capB) := by have := H0.out.inb.c 1; rw [hvB, hR] at this; exact this
  have hR134 : 134 ≤ R := by have := hs.2; omega
  have hRb : R ≤ 2097152 := by have := H0.out.inb.row.len; rw [hR] at this; exact this
  have HBy : Hid (∀ i (hi : i < l.length), W0.cell? ⟨gB, oB + i, none⟩ = some (.int .u8 (l[i] : Int))) := fun i hi => hby i hi
  replace hR : Hid (l.length = R) := hR
  clear hvB hcB hby
  go_wp2_with fail
  go_loopw [7] (fun iv wr => ∃ i : Nat, 10 ≤ i ∧ i ≤ 134 ∧ iv = .int .i64 (i : Int) ∧ wr = W0 ∧ ∀ j (hj : j < l.length), 10 ≤ j → j < i → l[j] = 0) (fun iv _ => 134 - (intOf iv).toNat)
  case atStart => exact ⟨10, by omega, by omega, rfl, rfl, fun j _ h1 h2 => by omega⟩
  case round =>
    obtain ⟨i, hi1, hi2, rfl, rfl, hz⟩ := hrel
    have HZ : Hid _ := hz
    clear hz
    by_cases hlt : i < 134
    · have hltz : (i : Int) < 134 := by omega
      have hiR : (i : Int) < (R : Int) := by omega
      have hil : i < l.length := by have := hR.out; omega
      have cb := HBy.out i hil
      by_cases hb0 : l[i] = 0
      · rw [hb0] at cb
        go_wp2
        go_roundw
        case rel => exact ⟨i + 1, by omega, by omega, by go_num, by first | rfl | trivial, zeros_step hil HZ.out hb0⟩
        case measure => simp [intOf]; omega
      · obtain ⟨y, hy⟩ : ∃ y, l[i] = y := ⟨_, rfl⟩
        rw [hy] at cb hb0
        have hyb : ((y : Int) != 0) = true := by simp; omega
        have hres2 : cutOf (0, 0) ov l (expD true l) = ((0, 0), 2, l) := hbad i hil hi1 hlt (by rw [hy]; exact hb0)
        replace hres2 : Hid _ := hres2
        have y0 : wr.cell? ⟨w.heap.size, 0, none⟩ = some (.int .u64 0) := (H0.out.c (.head _) 0).1
        have yf0 : wr.frozen? ⟨w.heap.size, 0, none⟩ = false := (H0.out.c (.head _) 0).2
        have y1 : wr.cell? ⟨w.heap.size, 1, none⟩ = some (.int .u16 0) := (H0.out.c (.head _) 1).1
        have yf1 : wr.frozen? ⟨w.heap.size, 1, none⟩ = false := (H0.out.c (.head _) 1).2
        have HF : Hid _ := (Cr.put (pre := []) (Cr.put (pre := []) H0.out 0 (.int .u64 0) (cs' := #[.int .u64 0, .int .u16 0]) rfl) 1 (.int .u16 0) (cs' := #[.int .u64 0, .int .u16 0]) rfl)
        go_wp2
        exact bodyPost_ret (results_cell_tmp1 rfl _ _ (w.heap.size) 96 #[.int .u64 0, .int .u16 0] (0, 0) _ rfl (HF.out.box _ (.head _)).1 Try.underlying96 rfl inf_45) rfl ⟨0, 0, 2, l, _, rfl, hres2, HF.out.inb, HF.out.act⟩
    · obtain rfl : i = 134 := by omega
      have hres3 : cutOf (0, 0) ov l (expD true l) = ((x0, x1), 1, l.drop 134) := hgood (fun j hj h1 h2 => HZ.out j hj h1 h2)
      replace hres3 : Hid _ := hres3
      clear i1 HBy hres hbad hgood
      have HA2 : Hid _ := uRx H0.out.inb 0 8 (by have := hs.2; omega) (by decide) (by decide) hx0
      go_wp2_with fail
      refine Calls.mono HA2.out ?_
      rintro e W2 ⟨rfl, hb⟩
      have H2 : Hid _ := H0.out.later hb
      clear hb H0 HA2
      have HA3 : Hid _ := uRx H2.out.inb 8 2 (by have := hs.2; omega) (by decide) (by decide) hx1
      go_wp2_with fail
      refine Calls.mono HA3.out ?_
      rintro e W3 ⟨rfl, hb⟩
      have H3 : Hid _ := H2.out.later hb
      clear hb H2 HA3
      have hq := H3.out.alloc #[.int .u64 (x0 : Int), .int .u16 (x1 : Int)] 96 (by decide)
      generalize hW4 : W3.alloc (.cells #[.int .u64 (x0 : Int), .int .u16 (x1 : Int)] 96) = W4 at hq
      have H4 : Hid _ := hq
      clear hq H3
      have HW4 : Hid _ := hW4
      clear hW4
      have HA5 : Hid _ := cutR H4.out.inb 134 (by have := hs.2; omega)
      go_wp2_with fail
      rw [show _ = _ from HW4.out]
      clear HW4
      refine Calls.mono HA5.out ?_
      rintro e W5 ⟨ao1, cap1, vn5, rfl, hI, hA, hr, hn⟩
      have hd5 : (l.take (134)).length = 134 := by rw [List.length_take]; exact Nat.min_eq_left (by have := hs.2; omega)
      have H5 : Hid _ := H4.out.told2 (d' := l.take (134)) hI hA (by rw [hd5]; exact hr) hn
      clear hI hA hr hn H4 HA5
      have q0 : W5.cell? ⟨W3.heap.size, 0, none⟩ = some (.int .u64 (x0 : Int)) := (H5.out.c (.head _) 0).1
      have q1 : W5.cell? ⟨W3.heap.size, 1, none⟩ = some (.int .u16 (x1 : Int)) := (H5.out.c (.head _) 1).1
      have y0 : W5.cell? ⟨w.heap.size, 0, none⟩ = some (.int .u64 0) := (H5.out.c (.tail _ (.head _)) 0).1
      have yf0 : W5.frozen? ⟨w.heap.size, 0, none⟩ = false := (H5.out.c (.tail _ (.head _)) 0).2
      have y1 : W5.cell? ⟨w.heap.size, 1, none⟩ = some (.int .u16 0) := (H5.out.c (.tail _ (.head _)) 1).1
      have yf1 : W5.frozen? ⟨w.heap.size, 1, none⟩ = false := (H5.out.c (.tail _ (.head _)) 1).2
      have H6 : Hid _ := (Cr.put (pre := [(W3.heap.size, #[.int .u64 (x0 : Int), .int .u16 (x1 : Int)], 96)]) (Cr.put (pre := [(W3.heap.size, #[.int .u64 (x0 : Int), .int .u16 (x1 : Int)], 96)]) H5.out 0 (.int .u64 (x0 : Int)) (cs' := #[.int .u64 (x0 : Int), .int .u16 0]) rfl) 1 (.int .u16 (x1 : Int)) (cs' := #[.int .u64 (x0 : Int), .int .u16 (x1 : Int)]) rfl)
      clear H5
      go_wp2
      exact bodyPost_ret (results_cell_tmp1 rfl _ _ (w.heap.size) 96 #[.int .u64 (x0 : Int), .int .u16 (x1 : Int)] (0, 0) _ rfl (H6.out.box _ (.tail _ (.head _))).1 Try.underlying96 rfl inf_45) rfl ⟨x0, x1, 1, l.drop 134, _, rfl, hres3, H6.out.inb, H6.out.act⟩
end Go.Proofs.Ytckfmpoddmccfaa
namespace Go.Proofs.Ytckfmpoddmccfaa
open Go.RowKit
set_option linter.unusedVariables false
set_option linter.unusedSimpArgs false
set_option maxRecDepth 100000
set_option maxHeartbeats 8000000 in
theorem cutsI_other {w : World} {B b : Nat} {v : Value} {rm ov : Nat} {l : List Nat} (h : Inb w B b v rm ov l) (bo : Option Addr) (bn bc m : Nat) (z x : Bool) (a : Int) (kd : Int) (hk : kd < 2 ∨ 9 < kd) :
    Calls Try.prog 14 #[.pointer (some ⟨b, 0, none⟩), .agg #[.int .i64 kd, .slice bo bn bc, .int .u32 (m : Int), .bool z, .bool x, .int .i64 a]] w fun e w' => CgP w B b v rm ((0, 0, 0, 0, 0, 0, 0, 0, 0, []), ov, l) e w' := by
  have h1 : 38 ≠ 5 := by decide
  have h2 : 41 ≠ 5 := by decide
  have e2 : ¬ (kd = 2) := by omega
  have e3 : ¬ (kd = 3) := by omega
  have e4 : ¬ (kd = 4) := by omega
  have e5 : ¬ (kd = 5) := by omega
  have e6 : ¬ (kd = 6) := by omega
  have e7 : ¬ (kd = 7) := by omega
  have e8 : ¬ (kd = 8) := by omega
  have e9 : ¬ (kd = 9) := by omega
  have hC0 := ((Cf.start h).alloc #[.int .i64 kd, .slice bo bn bc, .int .u32 (m : Int), .bool z, .bool x, .int .i64 a] 38 h1).alloc #[.int .i64 0, .int .u64 0, .int .u64 0, .int .u64 0, .int .u64 0, .int .u64 0, .int .u64 0, .int .u64 0, .int .u64 0, Value.slice none 0 0] 41 h2
  rw [World.size_alloc] at hC0
  have HF : Hid _ := hC0
  clear h hk hC0
  go_enter Try.func14, Try.ntmps14
  go_wp2
  exact bodyPost_ret (results_cell_one rfl _ _ (w.heap.size + 1) 41 #[.int .i64 0, .int .u64 0, .int .u64 0, .int .u64 0, .int .u64 0, .int .u64 0, .int .u64 0, .int .u64 0, .int .u64 0, Value.slice none 0 0] (0, 0) _ rfl (HF.out.box _ (.head _)).1 Try.underlying41 rfl infoC) rfl ⟨0, 0, 0, 0, 0, 0, 0, 0, 0, [], ov, l, v, none, 0, rfl, rfl, HF.out.inb, HF.out.act, World.ownsRow_nil _ _ _ _, by simp [Value.ownBlock]⟩
end Go.Proofs.Ytckfmpoddmccfaa
namespace Go.Proofs.Ytckfmpoddmccfaa
open Go.RowKit
set_option linter.unusedVariables false
set_option linter.unusedSimpArgs false
set_option maxRecDepth 100000
def cg5 (m : Nat) (z x : Bool) (a : Int) (ov : Nat) (l : List Nat) : (Nat × Nat × Nat × Nat × Nat × Nat × Nat × Nat × Nat × List Nat) × Nat × List Nat :=
  let r := cutOf (0, 0, []) ov l (repD m l)
  ((r.2.1, r.1.1, r.1.2.1, 0, 0, 0, 0, 0, 0, r.1.2.2), ov, r.2.2)
set_option maxHeartbeats 8000000 in
theorem cutsI_5 {w : World} {B b : Nat} {v : Value} {rm ov : Nat} {l : List Nat} (h : Inb w B b v rm ov l) (bo : Option Addr) (bn bc m : Nat) (z x : Bool) (a : Int) (hm : m < 4294967296) :
    Calls Try.prog 14 #[.pointer (some ⟨b, 0, none⟩), .agg #[.int .i64 5, .slice bo bn bc, .int .u32 (m : Int), .bool z, .bool x, .int .i64 a]] w fun e w' => CgP w B b v rm (cg5 m z x a ov l) e w' := by
  have h1 : 38 ≠ 5 := by decide
  have h2 : 41 ≠ 5 := by decide
  have h3 : 62 ≠ 5 := by decide
  obtain ⟨ao, cap, hv, hcr⟩ := h.row.crow
  have HLt : Hid (∀ y ∈ l, y < 256) := hcr.row.lt
  obtain ⟨W0, hW0⟩ : ∃ W0, W0 = (w.alloc (.cells #[.int .i64 5, .slice bo bn bc, .int .u32 (m : Int), .bool z, .bool x, .int .i64 a] 38)).alloc (.cells #[.int .i64 0, .int .u64 0, .int .u64 0, .int .u64 0, .int .u64 0, .int .u64 0, .int .u64 0, .int .u64 0, .int .u64 0, Value.slice none 0 0] 41) := ⟨_, rfl⟩
  have hC0 := ((Cf.start h).alloc #[.int .i64 5, .slice bo bn bc, .int .u32 (m : Int), .bool z, .bool x, .int .i64 a] 38 h1).alloc #[.int .i64 0, .int .u64 0, .int .u64 0, .int .u64 0, .int .u64 0, .int .u64 0, .int .u64 0, .int .u64 0, .int .u64 0, Value.slice none 0 0] 41 h2
  rw [World.size_alloc, ← hW0] at hC0
  have H0 : Hid _ := hC0
  have HM : Hid _ := replyI hC0.inb m hm
  clear hC0 hcr hv h
  go_enter Try.func14, Try.ntmps14
  go_wp2_with fail
  rw [← hW0]
  clear hW0
  refine Calls.mono HM.out ?_
  rintro e W1 ⟨o, k, d, cu, l', v', ao2, cap2, rfl, hcut, hI, hA, hr, hn⟩
  have HCu : Hid (cutOf (0, 0, []) ov l (repD m l) = ((o, k, d), cu, l')) := hcut
  have hcs := cutOf_cases (0, 0, []) ov l (repD m l)
  have hbb := repD_b (most := m) HLt.out
  rw [HCu.out] at hcs
  obtain ⟨hcs1, hcu⟩ := hcs
  have e0 : o < 4294967296 := by
    rcases hcs1 with e | e
    · have := congrArg (fun y => y.1) e; simp only at this; omega
    · have := congrArg (fun y => y.1) e; simp only at this; omega
  have e1 : k < 4294967296 := by
    rcases hcs1 with e | e
    · have := congrArg (fun y => y.2.1) e; simp only at this; omega
    · have := congrArg (fun y => y.2.1) e; simp only at this; omega
  have hcu' : (cu : Int) ≤ 3 := by simp only at hcu; omega
  have hH1 := (H0.out.told2 (d' := d) hI hA hr hn).alloc #[.int .u32 (o : Int), .int .u32 (k : Int), .slice ao2 d.length cap2] 62 h3
  obtain ⟨W2, hW2⟩ : ∃ W2, W2 = W1.alloc (.cells #[.int .u32 (o : Int), .int .u32 (k : Int), .slice ao2 d.length cap2] 62) := ⟨_, rfl⟩
  rw [← hW2] at hH1
  have H1 : Hid _ := hH1
  have HO : Hid _ := ofReplyG W2 o k ao2 d.length cap2 (cu : Int) e0 e1
  clear HM hcut hI hA hr hn H0 hH1 hbb hcs1 hcu
  go_wp2_with fail
  rw [← hW2]
  clear hW2
  refine Calls.mono HO.out ?_
  rintro e W3 ⟨rfl, hb3⟩
  have H2 : Hid _ := H1.out.later hb3
  clear H1 HO hb3
  obtain ⟨r0, f0⟩ := H2.out.c (.tail _ (.head _)) 0
  obtain ⟨r1, f1⟩ := H2.out.c (.tail _ (.head _)) 1
  obtain ⟨r2, f2⟩ := H2.out.c (.tail _ (.head _)) 2
  obtain ⟨r3, f3⟩ := H2.out.c (.tail _ (.head _)) 3
  obtain ⟨r4, f4⟩ := H2.out.c (.tail _ (.head _)) 4
  obtain ⟨r5, f5⟩ := H2.out.c (.tail _ (.head _)) 5
  obtain ⟨r6, f6⟩ := H2.out.c (.tail _ (.head _)) 6
  obtain ⟨r7, f7⟩ := H2.out.c (.tail _ (.head _)) 7
  obtain ⟨r8, f8⟩ := H2.out.c (.tail _ (.head _)) 8
  obtain ⟨r9, f9⟩ := H2.out.c (.tail _ (.head _)) 9
  simp at r0 r1 r2 r3 r4 r5 r6 r7 r8 r9
  have HF : Hid _ := (Cf.put (pre := [_]) (Cf.put (pre := [_]) (Cf.put (pre := [_]) (Cf.put (pre := [_]) (Cf.put (pre := [_]) (Cf.put (pre := [_]) (Cf.put (pre := [_]) (Cf.put (pre := [_]) (Cf.put (pre := [_]) (Cf.put (pre := [_]) H2.out 0 (.int .i64 (cu : Int)) (cs' := #[.int .i64 (cu : Int), .int .u64 0, .int .u64 0, .int .u64 0, .int .u64 0, .int .u64 0, .int .u64 0, .int .u64 0, .int .u64 0, Value.slice none 0 0]) rfl) 1 (.int .u64 (o : Int)) (cs' := #[.int .i64 (cu : Int), .int .u64 (o : Int), .int .u64 0, .int .u64 0, .int .u64 0, .int .u64 0, .int .u64 0, .int .u64 0, .int .u64 0, Value.slice none 0 0]) rfl) 2 (.int .u64 (k : Int)) (cs' := #[.int .i64 (cu : Int), .int .u64 (o : Int), .int .u64 (k : Int), .int .u64 0, .int .u64 0, .int .u64 0, .int .u64 0, .int .u64 0, .int .u64 0, Value.slice none 0 0]) rfl) 3 (.int .u64 ((0 : Nat) : Int)) (cs' := #[.int .i64 (cu : Int), .int .u64 (o : Int), .int .u64 (k : Int), .int .u64 ((0 : Nat) : Int), .int .u64 0, .int .u64 0, .int .u64 0, .int .u64 0, .int .u64 0, Value.slice none 0 0]) rfl) 4 (.int .u64 ((0 : Nat) : Int)) (cs' := #[.int .i64 (cu : Int), .int .u64 (o : Int), .int .u64 (k : Int), .int .u64 ((0 : Nat) : Int), .int .u64 ((0 : Nat) : Int), .int .u64 0, .int .u64 0, .int .u64 0, .int .u64 0, Value.slice none 0 0]) rfl) 5 (.int .u64 ((0 : Nat) : Int)) (cs' := #[.int .i64 (cu : Int), .int .u64 (o : Int), .int .u64 (k : Int), .int .u64 ((0 : Nat) : Int), .int .u64 ((0 : Nat) : Int), .int .u64 ((0 : Nat) : Int), .int .u64 0, .int .u64 0, .int .u64 0, Value.slice none 0 0]) rfl) 6 (.int .u64 ((0 : Nat) : Int)) (cs' := #[.int .i64 (cu : Int), .int .u64 (o : Int), .int .u64 (k : Int), .int .u64 ((0 : Nat) : Int), .int .u64 ((0 : Nat) : Int), .int .u64 ((0 : Nat) : Int), .int .u64 ((0 : Nat) : Int), .int .u64 0, .int .u64 0, Value.slice none 0 0]) rfl) 7 (.int .u64 ((0 : Nat) : Int)) (cs' := #[.int .i64 (cu : Int), .int .u64 (o : Int), .int .u64 (k : Int), .int .u64 ((0 : Nat) : Int), .int .u64 ((0 : Nat) : Int), .int .u64 ((0 : Nat) : Int), .int .u64 ((0 : Nat) : Int), .int .u64 ((0 : Nat) : Int), .int .u64 0, Value.slice none 0 0]) rfl) 8 (.int .u64 ((0 : Nat) : Int)) (cs' := #[.int .i64 (cu : Int), .int .u64 (o : Int), .int .u64 (k : Int), .int .u64 ((0 : Nat) : Int), .int .u64 ((0 : Nat) : Int), .int .u64 ((0 : Nat) : Int), .int .u64 ((0 : Nat) : Int), .int .u64 ((0 : Nat) : Int), .int .u64 ((0 : Nat) : Int), Value.slice none 0 0]) rfl) 9 (.slice ao2 d.length cap2) (cs' := #[.int .i64 (cu : Int), .int .u64 (o : Int), .int .u64 (k : Int), .int .u64 ((0 : Nat) : Int), .int .u64 ((0 : Nat) : Int), .int .u64 ((0 : Nat) : Int), .int .u64 ((0 : Nat) : Int), .int .u64 ((0 : Nat) : Int), .int .u64 ((0 : Nat) : Int), .slice ao2 d.length cap2]) rfl)
  clear H2
  go_wp2
  exact bodyPost_ret (results_cell_one rfl _ _ (w.heap.size + 1) 41 #[.int .i64 (cu : Int), .int .u64 (o : Int), .int .u64 (k : Int), .int .u64 ((0 : Nat) : Int), .int .u64 ((0 : Nat) : Int), .int .u64 ((0 : Nat) : Int), .int .u64 ((0 : Nat) : Int), .int .u64 ((0 : Nat) : Int), .int .u64 ((0 : Nat) : Int), .slice ao2 d.length cap2] (0, 0) _ rfl (HF.out.box _ (.tail _ (.head _))).1 Try.underlying41 rfl infoC) rfl ⟨cu, o, k, 0, 0, 0, 0, 0, 0, d, ov, l', v', ao2, cap2, rfl, by simp [cg5, HCu.out], HF.out.inb, HF.out.act, HF.out.row, HF.out.rn⟩
end Go.Proofs.Ytckfmpoddmccfaa
namespace Go.Proofs.Ytckfmpoddmccfaa
open Go.RowKit
set_option linter.unusedVariables false
set_option linter.unusedSimpArgs false
set_option maxRecDepth 100000
def cg6 (m : Nat) (z x : Bool) (a : Int) (ov : Nat) (l : List Nat) : (Nat × Nat × Nat × Nat × Nat × Nat × Nat × Nat × Nat × List Nat) × Nat × List Nat :=
  let r := cutOf (0, 0) ov l (expD z l)
  ((r.2.1, r.1.1, r.1.2, 0, 0, 0, 0, 0, 0, []), ov, r.2.2)
set_option maxHeartbeats 8000000 in
theorem cutsI_6 {w : World} {B b : Nat} {v : Value} {rm ov : Nat} {l : List Nat} (h : Inb w B b v rm ov l) (bo : Option Addr) (bn bc m : Nat) (z x : Bool) (a : Int) (hm : m < 4294967296) :
    Calls Try.prog 14 #[.pointer (some ⟨b, 0, none⟩), .agg #[.int .i64 6, .slice bo bn bc, .int .u32 (m : Int), .bool z, .bool x, .int .i64 a]] w fun e w' => CgP w B b v rm (cg6 m z x a ov l) e w' := by
  have h1 : 38 ≠ 5 := by decide
  have h2 : 41 ≠ 5 := by decide
  have h3 : 96 ≠ 5 := by decide
  obtain ⟨ao, cap, hv, hcr⟩ := h.row.crow
  have HLt : Hid (∀ y ∈ l, y < 256) := hcr.row.lt
  obtain ⟨W0, hW0⟩ : ∃ W0, W0 = (w.alloc (.cells #[.int .i64 6, .slice bo bn bc, .int .u32 (m : Int), .bool z, .bool x, .int .i64 a] 38)).alloc (.cells #[.int .i64 0, .int .u64 0, .int .u64 0, .int .u64 0, .int .u64 0, .int .u64 0, .int .u64 0, .int .u64 0, .int .u64 0, Value.slice none 0 0] 41) := ⟨_, rfl⟩
  have hC0 := ((Cf.start h).alloc #[.int .i64 6, .slice bo bn bc, .int .u32 (m : Int), .bool z, .bool x, .int .i64 a] 38 h1).alloc #[.int .i64 0, .int .u64 0, .int .u64 0, .int .u64 0, .int .u64 0, .int .u64 0, .int .u64 0, .int .u64 0, .int .u64 0, Value.slice none 0 0] 41 h2
  rw [World.size_alloc, ← hW0] at hC0
  have H0 : Hid _ := hC0
  have HM : Hid _ := exportI hC0.inb z
  clear hC0 hcr hv h
  go_enter Try.func14, Try.ntmps14
  go_wp2_with fail
  rw [← hW0]
  clear hW0
  refine Calls.mono HM.out ?_
  rintro e W1 ⟨s, f, cu, l', v', ao2, cap2, rfl, hcut, hI, hA, hr, hn⟩
  have HCu : Hid (cutOf (0, 0) ov l (expD z l) = ((s, f), cu, l')) := hcut
  have hcs := cutOf_cases (0, 0) ov l (expD z l)
  rw [HCu.out] at hcs
  obtain ⟨hcs1, hcu⟩ := hcs
  have hbb := expD_b (z := z) HLt.out
  have e0 : f < 65536 := by
    rcases hcs1 with e | e
    · have := congrArg (fun y => y.2) e; simp only at this; omega
    · have := congrArg (fun y => y.2) e; simp only at this; omega
  have i0 : (f : Int) < 65536 := by omega
  have hcu' : (cu : Int) ≤ 3 := by simp only at hcu; omega
  have H2 : Hid _ := (H0.out.told2 (d' := ([] : List Nat)) hI hA hr hn).alloc #[.int .u64 (s : Int), .int .u16 (f : Int)] 96 h3
  clear HM hcut hI hA hr hn H0 hbb hcs1 hcu
  obtain ⟨r0, f0⟩ := H2.out.c (.tail _ (.head _)) 0
  obtain ⟨r1, f1⟩ := H2.out.c (.tail _ (.head _)) 1
  obtain ⟨r2, f2⟩ := H2.out.c (.tail _ (.head _)) 2
  obtain ⟨r3, f3⟩ := H2.out.c (.tail _ (.head _)) 3
  obtain ⟨r4, f4⟩ := H2.out.c (.tail _ (.head _)) 4
  obtain ⟨r5, f5⟩ := H2.out.c (.tail _ (.head _)) 5
  obtain ⟨r6, f6⟩ := H2.out.c (.tail _ (.head _)) 6
  obtain ⟨r7, f7⟩ := H2.out.c (.tail _ (.head _)) 7
  obtain ⟨r8, f8⟩ := H2.out.c (.tail _ (.head _)) 8
  obtain ⟨r9, f9⟩ := H2.out.c (.tail _ (.head _)) 9
  simp at r0 r1 r2 r3 r4 r5 r6 r7 r8 r9
  have HF : Hid _ := (Cf.put (pre := [_]) (Cf.put (pre := [_]) (Cf.put (pre := [_]) (Cf.put (pre := [_]) (Cf.put (pre := [_]) (Cf.put (pre := [_]) (Cf.put (pre := [_]) (Cf.put (pre := [_]) (Cf.put (pre := [_]) (Cf.put (pre := [_]) H2.out 0 (.int .i64 (cu : Int)) (cs' := #[.int .i64 (cu : Int), .int .u64 0, .int .u64 0, .int .u64 0, .int .u64 0, .int .u64 0, .int .u64 0, .int .u64 0, .int .u64 0, Value.slice none 0 0]) rfl) 1 (.int .u64 (s : Int)) (cs' := #[.int .i64 (cu : Int), .int .u64 (s : Int), .int .u64 0, .int .u64 0, .int .u64 0, .int .u64 0, .int .u64 0, .int .u64 0, .int .u64 0, Value.slice none 0 0]) rfl) 2 (.int .u64 (f : Int)) (cs' := #[.int .i64 (cu : Int), .int .u64 (s : Int), .int .u64 (f : Int), .int .u64 0, .int .u64 0, .int .u64 0, .int .u64 0, .int .u64 0, .int .u64 0, Value.slice none 0 0]) rfl) 3 (.int .u64 0) (cs' := #[.int .i64 (cu : Int), .int .u64 (s : Int), .int .u64 (f : Int), .int .u64 0, .int .u64 0, .int .u64 0, .int .u64 0, .int .u64 0, .int .u64 0, Value.slice none 0 0]) rfl) 4 (.int .u64 0) (cs' := #[.int .i64 (cu : Int), .int .u64 (s : Int), .int .u64 (f : Int), .int .u64 0, .int .u64 0, .int .u64 0, .int .u64 0, .int .u64 0, .int .u64 0, Value.slice none 0 0]) rfl) 5 (.int .u64 0) (cs' := #[.int .i64 (cu : Int), .int .u64 (s : Int), .int .u64 (f : Int), .int .u64 0, .int .u64 0, .int .u64 0, .int .u64 0, .int .u64 0, .int .u64 0, Value.slice none 0 0]) rfl) 6 (.int .u64 0) (cs' := #[.int .i64 (cu : Int), .int .u64 (s : Int), .int .u64 (f : Int), .int .u64 0, .int .u64 0, .int .u64 0, .int .u64 0, .int .u64 0, .int .u64 0, Value.slice none 0 0]) rfl) 7 (.int .u64 0) (cs' := #[.int .i64 (cu : Int), .int .u64 (s : Int), .int .u64 (f : Int), .int .u64 0, .int .u64 0, .int .u64 0, .int .u64 0, .int .u64 0, .int .u64 0, Value.slice none 0 0]) rfl) 8 (.int .u64 0) (cs' := #[.int .i64 (cu : Int), .int .u64 (s : Int), .int .u64 (f : Int), .int .u64 0, .int .u64 0, .int .u64 0, .int .u64 0, .int .u64 0, .int .u64 0, Value.slice none 0 0]) rfl) 9 (Value.slice none 0 0) (cs' := #[.int .i64 (cu : Int), .int .u64 (s : Int), .int .u64 (f : Int), .int .u64 0, .int .u64 0, .int .u64 0, .int .u64 0, .int .u64 0, .int .u64 0, Value.slice none 0 0]) rfl)
  clear H2
  go_wp2
  exact bodyPost_ret (results_cell_one rfl _ _ (w.heap.size + 1) 41 #[.int .i64 (cu : Int), .int .u64 (s : Int), .int .u64 (f : Int), .int .u64 0, .int .u64 0, .int .u64 0, .int .u64 0, .int .u64 0, .int .u64 0, Value.slice none 0 0] (0, 0) _ rfl (HF.out.box _ (.tail _ (.head _))).1 Try.underlying41 rfl infoC) rfl ⟨cu, s, f, 0, 0, 0, 0, 0, 0, [], ov, l', v', none, 0, rfl, by simp [cg6, HCu.out], HF.out.inb, HF.out.act, World.ownsRow_nil _ _ _ _, by simp [Value.ownBlock]⟩
end Go.Proofs.Ytckfmpoddmccfaa
namespace Go.Proofs.Ytckfmpoddmccfaa
open Go.RowKit
set_option linter.unusedVariables false
set_option linter.unusedSimpArgs false
set_option maxRecDepth 100000
def cg8 (m : Nat) (z x : Bool) (a : Int) (ov : Nat) (l : List Nat) : (Nat × Nat × Nat × Nat × Nat × Nat × Nat × Nat × Nat × List Nat) × Nat × List Nat :=
  let r := cutOf ansZ ov l (ansD m x l)
  ((r.2.1, r.1.1.toNat, r.1.2.1, r.1.2.2.1, r.1.2.2.2.1, r.1.2.2.2.2.1, r.1.2.2.2.2.2.1, r.1.2.2.2.2.2.2.1, 0, r.1.2.2.2.2.2.2.2), ov, r.2.2)
set_option maxHeartbeats 8000000 in
theorem cutsI_8 {w : World} {B b : Nat} {v : Value} {rm ov : Nat} {l : List Nat} (h : Inb w B b v rm ov l) (bo : Option Addr) (bn bc m : Nat) (z x : Bool) (a : Int) (hm : m < 4294967296) :
    Calls Try.prog 14 #[.pointer (some ⟨b, 0, none⟩), .agg #[.int .i64 8, .slice bo bn bc, .int .u32 (m : Int), .bool z, .bool x, .int .i64 a]] w fun e w' => CgP w B b v rm (cg8 m z x a ov l) e w' := by
  have h1 : 38 ≠ 5 := by decide
  have h2 : 41 ≠ 5 := by decide
  have h3 : 103 ≠ 5 := by decide
  obtain ⟨ao, cap, hv, hcr⟩ := h.row.crow
  have HLt : Hid (∀ y ∈ l, y < 256) := hcr.row.lt
  obtain ⟨W0, hW0⟩ : ∃ W0, W0 = (w.alloc (.cells #[.int .i64 8, .slice bo bn bc, .int .u32 (m : Int), .bool z, .bool x, .int .i64 a] 38)).alloc (.cells #[.int .i64 0, .int .u64 0, .int .u64 0, .int .u64 0, .int .u64 0, .int .u64 0, .int .u64 0, .int .u64 0, .int .u64 0, Value.slice none 0 0] 41) := ⟨_, rfl⟩
  have hC0 := ((Cf.start h).alloc #[.int .i64 8, .slice bo bn bc, .int .u32 (m : Int), .bool z, .bool x, .int .i64 a] 38 h1).alloc #[.int .i64 0, .int .u64 0, .int .u64 0, .int .u64 0, .int .u64 0, .int .u64 0, .int .u64 0, .int .u64 0, .int .u64 0, Value.slice none 0 0] 41 h2
  rw [World.size_alloc, ← hW0] at hC0
  have H0 : Hid _ := hC0
  have HM : Hid _ := answerI hC0.inb m x hm
  clear hC0 hcr hv h
  go_enter Try.func14, Try.ntmps14
  go_wp2_with fail
  rw [← hW0]
  clear hW0
  refine Calls.mono HM.out ?_
  rintro e W1 ⟨st, sc, sk, f, t, c, o, d, cu, l', v', ao2, cap2, rfl, hcut, hI, hA, hr, hn⟩
  have HCu : Hid (cutOf ansZ ov l (ansD m x l) = ((st, sc, sk, f, t, c, o, d), cu, l')) := hcut
  have hcs := cutOf_cases ansZ ov l (ansD m x l)
  have hbb := ansD_b (most := m) (ext := x) HLt.out
  rw [HCu.out] at hcs
  obtain ⟨hcs1, hcu⟩ := hcs
  have e0 : sc < 4294967296 := by
    rcases hcs1 with e | e
    · have := congrArg (fun y => y.2.1) e; simp only at this; omega
    · have := congrArg (fun y => y.2.1) e; simp only at this; omega
  have e1 : f < 65536 := by
    rcases hcs1 with e | e
    · have := congrArg (fun y => y.2.2.2.1) e; simp only at this; omega
    · have := congrArg (fun y => y.2.2.2.1) e; simp only at this; omega
  have e2 : t < 65536 := by
    rcases hcs1 with e | e
    · have := congrArg (fun y => y.2.2.2.2.1) e; simp only at this; omega
    · have := congrArg (fun y => y.2.2.2.2.1) e; simp only at this; omega
  have hcu' : (cu : Int) ≤ 3 := by simp only at hcu; omega
  have hH1 := (H0.out.told2 (d' := d) hI hA hr hn).alloc #[.bool st, .int .u32 (sc : Int), .int .u64 (sk : Int), .int .u16 (f : Int), .int .u16 (t : Int), .int .u64 (c : Int), .int .u64 (o : Int), .slice ao2 d.length cap2] 103 h3
  obtain ⟨W2, hW2⟩ : ∃ W2, W2 = W1.alloc (.cells #[.bool st, .int .u32 (sc : Int), .int .u64 (sk : Int), .int .u16 (f : Int), .int .u16 (t : Int), .int .u64 (c : Int), .int .u64 (o : Int), .slice ao2 d.length cap2] 103) := ⟨_, rfl⟩
  rw [← hW2] at hH1
  have H1 : Hid _ := hH1
  have HO : Hid _ := ofAnswerG W2 st sc sk f t c o ao2 d.length cap2 (cu : Int) e0 e1 e2
  clear HM hcut hI hA hr hn H0 hH1 hbb hcs1 hcu
  go_wp2_with fail
  rw [← hW2]
  clear hW2
  refine Calls.mono HO.out ?_
  rintro e W3 ⟨rfl, hb3⟩
  have H2 : Hid _ := H1.out.later hb3
  clear H1 HO hb3
  obtain ⟨r0, f0⟩ := H2.out.c (.tail _ (.head _)) 0
  obtain ⟨r1, f1⟩ := H2.out.c (.tail _ (.head _)) 1
  obtain ⟨r2, f2⟩ := H2.out.c (.tail _ (.head _)) 2
  obtain ⟨r3, f3⟩ := H2.out.c (.tail _ (.head _)) 3
  obtain ⟨r4, f4⟩ := H2.out.c (.tail _ (.head _)) 4
  obtain ⟨r5, f5⟩ := H2.out.c (.tail _ (.head _)) 5
  obtain ⟨r6, f6⟩ := H2.out.c (.tail _ (.head _)) 6
  obtain ⟨r7, f7⟩ := H2.out.c (.tail _ (.head _)) 7
  obtain ⟨r8, f8⟩ := H2.out.c (.tail _ (.head _)) 8
  obtain ⟨r9, f9⟩ := H2.out.c (.tail _ (.head _)) 9
  simp at r0 r1 r2 r3 r4 r5 r6 r7 r8 r9
  have HF : Hid _ := (Cf.put (pre := [_]) (Cf.put (pre := [_]) (Cf.put (pre := [_]) (Cf.put (pre := [_]) (Cf.put (pre := [_]) (Cf.put (pre := [_]) (Cf.put (pre := [_]) (Cf.put (pre := [_]) (Cf.put (pre := [_]) (Cf.put (pre := [_]) H2.out 0 (.int .i64 (cu : Int)) (cs' := #[.int .i64 (cu : Int), .int .u64 0, .int .u64 0, .int .u64 0, .int .u64 0, .int .u64 0, .int .u64 0, .int .u64 0, .int .u64 0, Value.slice none 0 0]) rfl) 1 (.int .u64 (st.toNat : Int)) (cs' := #[.int .i64 (cu : Int), .int .u64 (st.toNat : Int), .int .u64 0, .int .u64 0, .int .u64 0, .int .u64 0, .int .u64 0, .int .u64 0, .int .u64 0, Value.slice none 0 0]) rfl) 2 (.int .u64 (sc : Int)) (cs' := #[.int .i64 (cu : Int), .int .u64 (st.toNat : Int), .int .u64 (sc : Int), .int .u64 0, .int .u64 0, .int .u64 0, .int .u64 0, .int .u64 0, .int .u64 0, Value.slice none 0 0]) rfl) 3 (.int .u64 (sk : Int)) (cs' := #[.int .i64 (cu : Int), .int .u64 (st.toNat : Int), .int .u64 (sc : Int), .int .u64 (sk : Int), .int .u64 0, .int .u64 0, .int .u64 0, .int .u64 0, .int .u64 0, Value.slice none 0 0]) rfl) 4 (.int .u64 (f : Int)) (cs' := #[.int .i64 (cu : Int), .int .u64 (st.toNat : Int), .int .u64 (sc : Int), .int .u64 (sk : Int), .int .u64 (f : Int), .int .u64 0, .int .u64 0, .int .u64 0, .int .u64 0, Value.slice none 0 0]) rfl) 5 (.int .u64 (t : Int)) (cs' := #[.int .i64 (cu : Int), .int .u64 (st.toNat : Int), .int .u64 (sc : Int), .int .u64 (sk : Int), .int .u64 (f : Int), .int .u64 (t : Int), .int .u64 0, .int .u64 0, .int .u64 0, Value.slice none 0 0]) rfl) 6 (.int .u64 (c : Int)) (cs' := #[.int .i64 (cu : Int), .int .u64 (st.toNat : Int), .int .u64 (sc : Int), .int .u64 (sk : Int), .int .u64 (f : Int), .int .u64 (t : Int), .int .u64 (c : Int), .int .u64 0, .int .u64 0, Value.slice none 0 0]) rfl) 7 (.int .u64 (o : Int)) (cs' := #[.int .i64 (cu : Int), .int .u64 (st.toNat : Int), .int .u64 (sc : Int), .int .u64 (sk : Int), .int .u64 (f : Int), .int .u64 (t : Int), .int .u64 (c : Int), .int .u64 (o : Int), .int .u64 0, Value.slice none 0 0]) rfl) 8 (.int .u64 ((0 : Nat) : Int)) (cs' := #[.int .i64 (cu : Int), .int .u64 (st.toNat : Int), .int .u64 (sc : Int), .int .u64 (sk : Int), .int .u64 (f : Int), .int .u64 (t : Int), .int .u64 (c : Int), .int .u64 (o : Int), .int .u64 ((0 : Nat) : Int), Value.slice none 0 0]) rfl) 9 (.slice ao2 d.length cap2) (cs' := #[.int .i64 (cu : Int), .int .u64 (st.toNat : Int), .int .u64 (sc : Int), .int .u64 (sk : Int), .int .u64 (f : Int), .int .u64 (t : Int), .int .u64 (c : Int), .int .u64 (o : Int), .int .u64 ((0 : Nat) : Int), .slice ao2 d.length cap2]) rfl)
  clear H2
  go_wp2
  exact bodyPost_ret (results_cell_one rfl _ _ (w.heap.size + 1) 41 #[.int .i64 (cu : Int), .int .u64 (st.toNat : Int), .int .u64 (sc : Int), .int .u64 (sk : Int), .int .u64 (f : Int), .int .u64 (t : Int), .int .u64 (c : Int), .int .u64 (o : Int), .int .u64 ((0 : Nat) : Int), .slice ao2 d.length cap2] (0, 0) _ rfl (HF.out.box _ (.tail _ (.head _))).1 Try.underlying41 rfl infoC) rfl ⟨cu, st.toNat, sc, sk, f, t, c, o, 0, d, ov, l', v', ao2, cap2, rfl, by simp [cg8, HCu.out], HF.out.inb, HF.out.act, HF.out.row, HF.out.rn⟩
end Go.Proofs.Ytckfmpoddmccfaa
namespace Go.Proofs.Ytckfmpoddmccfaa
open Go.RowKit
set_option linter.unusedVariables false
set_option linter.unusedSimpArgs false
set_option maxRecDepth 100000
def cg9 (m : Nat) (z x : Bool) (a : Int) (ov : Nat) (l : List Nat) : (Nat × Nat × Nat × Nat × Nat × Nat × Nat × Nat × Nat × List Nat) × Nat × List Nat :=
  let r := cutOf [] ov l (datD a l)
  ((r.2.1, 0, 0, 0, 0, 0, 0, 0, 0, r.1), ov, r.2.2)
set_option maxHeartbeats 8000000 in
theorem cutsI_9 {w : World} {B b : Nat} {v : Value} {rm ov : Nat} {l : List Nat} (h : Inb w B b v rm ov l) (bo : Option Addr) (bn bc m : Nat) (z x : Bool) (a : Int) (hm : m < 4294967296) :
    Calls Try.prog 14 #[.pointer (some ⟨b, 0, none⟩), .agg #[.int .i64 9, .slice bo bn bc, .int .u32 (m : Int), .bool z, .bool x, .int .i64 a]] w fun e w' => CgP w B b v rm (cg9 m z x a ov l) e w' := by
  have h1 : 38 ≠ 5 := by decide
  have h2 : 41 ≠ 5 := by decide
  obtain ⟨ao, cap, hv, hcr⟩ := h.row.crow
  have HLt : Hid (∀ y ∈ l, y < 256) := hcr.row.lt
  obtain ⟨W0, hW0⟩ : ∃ W0, W0 = (w.alloc (.cells #[.int .i64 9, .slice bo bn bc, .int .u32 (m : Int), .bool z, .bool x, .int .i64 a] 38)).alloc (.cells #[.int .i64 0, .int .u64 0, .int .u64 0, .int .u64 0, .int .u64 0, .int .u64 0, .int .u64 0, .int .u64 0, .int .u64 0, Value.slice none 0 0] 41) := ⟨_, rfl⟩
  have hC0 := ((Cf.start h).alloc #[.int .i64 9, .slice bo bn bc, .int .u32 (m : Int), .bool z, .bool x, .int .i64 a] 38 h1).alloc #[.int .i64 0, .int .u64 0, .int .u64 0, .int .u64 0, .int .u64 0, .int .u64 0, .int .u64 0, .int .u64 0, .int .u64 0, Value.slice none 0 0] 41 h2
  rw [World.size_alloc, ← hW0] at hC0
  have H0 : Hid _ := hC0
  have HM : Hid _ := dataI hC0.inb a
  clear hC0 hcr hv h
  go_enter Try.func14, Try.ntmps14
  go_wp2_with fail
  rw [← hW0]
  clear hW0
  refine Calls.mono HM.out ?_
  rintro e W1 ⟨d, cu, l', v', ao2, cap2, rfl, hcut, hI, hA, hr, hn⟩
  have HCu : Hid (cutOf [] ov l (datD a l) = (d, cu, l')) := hcut
  have hcs := cutOf_cases [] ov l (datD a l)
  rw [HCu.out] at hcs
  obtain ⟨hcs1, hcu⟩ := hcs
  have hcu' : (cu : Int) ≤ 3 := by simp only at hcu; omega
  have H2 : Hid _ := H0.out.told2 (d' := d) hI hA hr hn
  clear HM hcut hI hA hr hn H0 hcs1 hcu
  obtain ⟨r0, f0⟩ := H2.out.c (.head _) 0
  obtain ⟨r1, f1⟩ := H2.out.c (.head _) 1
  obtain ⟨r2, f2⟩ := H2.out.c (.head _) 2
  obtain ⟨r3, f3⟩ := H2.out.c (.head _) 3
  obtain ⟨r4, f4⟩ := H2.out.c (.head _) 4
  obtain ⟨r5, f5⟩ := H2.out.c (.head _) 5
  obtain ⟨r6, f6⟩ := H2.out.c (.head _) 6
  obtain ⟨r7, f7⟩ := H2.out.c (.head _) 7
  obtain ⟨r8, f8⟩ := H2.out.c (.head _) 8
  obtain ⟨r9, f9⟩ := H2.out.c (.head _) 9
  simp at r0 r1 r2 r3 r4 r5 r6 r7 r8 r9
  have HF : Hid _ := (Cf.put (pre := []) (Cf.put (pre := []) (Cf.put (pre := []) (Cf.put (pre := []) (Cf.put (pre := []) (Cf.put (pre := []) (Cf.put (pre := []) (Cf.put (pre := []) (Cf.put (pre := []) (Cf.put (pre := []) H2.out 0 (.int .i64 (cu : Int)) (cs' := #[.int .i64 (cu : Int), .int .u64 0, .int .u64 0, .int .u64 0, .int .u64 0, .int .u64 0, .int .u64 0, .int .u64 0, .int .u64 0, Value.slice none 0 0]) rfl) 1 (.int .u64 0) (cs' := #[.int .i64 (cu : Int), .int .u64 0, .int .u64 0, .int .u64 0, .int .u64 0, .int .u64 0, .int .u64 0, .int .u64 0, .int .u64 0, Value.slice none 0 0]) rfl) 2 (.int .u64 0) (cs' := #[.int .i64 (cu : Int), .int .u64 0, .int .u64 0, .int .u64 0, .int .u64 0, .int .u64 0, .int .u64 0, .int .u64 0, .int .u64 0, Value.slice none 0 0]) rfl) 3 (.int .u64 0) (cs' := #[.int .i64 (cu : Int), .int .u64 0, .int .u64 0, .int .u64 0, .int .u64 0, .int .u64 0, .int .u64 0, .int .u64 0, .int .u64 0, Value.slice none 0 0]) rfl) 4 (.int .u64 0) (cs' := #[.int .i64 (cu : Int), .int .u64 0, .int .u64 0, .int .u64 0, .int .u64 0, .int .u64 0, .int .u64 0, .int .u64 0, .int .u64 0, Value.slice none 0 0]) rfl) 5 (.int .u64 0) (cs' := #[.int .i64 (cu : Int), .int .u64 0, .int .u64 0, .int .u64 0, .int .u64 0, .int .u64 0, .int .u64 0, .int .u64 0, .int .u64 0, Value.slice none 0 0]) rfl) 6 (.int .u64 0) (cs' := #[.int .i64 (cu : Int), .int .u64 0, .int .u64 0, .int .u64 0, .int .u64 0, .int .u64 0, .int .u64 0, .int .u64 0, .int .u64 0, Value.slice none 0 0]) rfl) 7 (.int .u64 0) (cs' := #[.int .i64 (cu : Int), .int .u64 0, .int .u64 0, .int .u64 0, .int .u64 0, .int .u64 0, .int .u64 0, .int .u64 0, .int .u64 0, Value.slice none 0 0]) rfl) 8 (.int .u64 0) (cs' := #[.int .i64 (cu : Int), .int .u64 0, .int .u64 0, .int .u64 0, .int .u64 0, .int .u64 0, .int .u64 0, .int .u64 0, .int .u64 0, Value.slice none 0 0]) rfl) 9 (.slice ao2 d.length cap2) (cs' := #[.int .i64 (cu : Int), .int .u64 0, .int .u64 0, .int .u64 0, .int .u64 0, .int .u64 0, .int .u64 0, .int .u64 0, .int .u64 0, .slice ao2 d.length cap2]) rfl)
  clear H2
  go_wp2
  exact bodyPost_ret (results_cell_one rfl _ _ (w.heap.size + 1) 41 #[.int .i64 (cu : Int), .int .u64 0, .int .u64 0, .int .u64 0, .int .u64 0, .int .u64 0, .int .u64 0, .int .u64 0, .int .u64 0, .slice ao2 d.length cap2] (0, 0) _ rfl (HF.out.box _ (.head _)).1 Try.underlying41 rfl infoC) rfl ⟨cu, 0, 0, 0, 0, 0, 0, 0, 0, d, ov, l', v', ao2, cap2, rfl, by simp [cg9, HCu.out], HF.out.inb, HF.out.act, HF.out.row, HF.out.rn⟩
end Go.Proofs.Ytckfmpoddmccfaa
