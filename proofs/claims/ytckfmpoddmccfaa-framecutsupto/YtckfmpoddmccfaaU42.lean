import Derived.Test.YtckfmpoddmccfaaU41
import Derived.Test.YtckfmpoddmccfaaU37
import Derived.Test.YtckfmpoddmccfaaU33
import Derived.Deep.DeepCutAuto
namespace Go.Proofs.Ytckfmpoddmccfaa
open Go.RowKit
set_option linter.unusedVariables false
set_option linter.unusedSimpArgs false
set_option maxRecDepth 100000
theorem inf_89 : (Try.prog.info? 103).map (·.size) = some 8 := by kernel_rfl
theorem inf_47 : (Try.prog.info? 103).map (·.size) = some 8 := by kernel_rfl
set_option maxHeartbeats 4000000 in
theorem rwid_a {w : World} {B b : Nat} {v : Value} {rm ov : Nat} {l : List Nat} (h : RIn w B b v rm ov l) (m : Nat) (hm : m < 4294967296) (mg : Nat) (hmg : mg < 4294967296) (hmgx : ((mg : Int) != 1854547852) = true) (hres : cutOf ansZ ov l (ansD m true l) = ((false, 0, 0, 0, 0, 0, 0, []), 2, l)) :
    Calls Try.prog 89 #[.pointer (some ⟨b, 0, none⟩), .int .u32 mg, .int .u32 m] w fun e w' => ∃ (st : Bool) (x1 : Nat) (x2 : Nat) (x3 : Nat) (x4 : Nat) (x5 : Nat) (x6 : Nat) (d : List Nat) (dn cu : Nat) (l' : List Nat) (v' : Value) (ao2 : Option Addr) (cap2 : Nat), e = .returned (.tuple #[.agg #[.bool st, .int .u32 x1, .int .u64 x2, .int .u16 x3, .int .u16 x4, .int .u64 x5, .int .u64 x6, .slice ao2 dn cap2], .int .i64 cu]) ∧ cutOf ansZ ov l (ansD m true l) = ((st, x1, x2, x3, x4, x5, x6, d), cu, l') ∧ d.length = dn ∧ RIn w' B b v' rm ov l' ∧ RAct w w' b v v' ∧ w'.ownsRow w.heap.size 5 1 (.slice ao2 dn cap2) dn (d.map bv) ∧ ∀ g, (Value.slice ao2 dn cap2).ownBlock = some g → v'.ownBlock ≠ some g := by
  replace hres : Hid _ := hres
  have h5 : 103 ≠ 5 := by decide
  obtain ⟨W0, hW0⟩ : ∃ W0, W0 = w.alloc (.cells #[.bool false, .int .u32 0, .int .u64 0, .int .u16 0, .int .u16 0, .int .u64 0, .int .u64 0, .slice none 0 0] 103) := ⟨_, rfl⟩
  have hC0 := (Cr.start h).alloc #[.bool false, .int .u32 0, .int .u64 0, .int .u16 0, .int .u16 0, .int .u64 0, .int .u64 0, .slice none 0 0] 103 h5
  rw [← hW0] at hC0
  have H0 : Hid _ := hC0
  clear hC0
  clear h
  go_enter Try.func89, Try.ntmps89
  go_wp2
  rw [← hW0]
  exact bodyPost_ret (results_cell_tmp1 rfl _ _ (w.heap.size) 103 #[.bool false, .int .u32 0, .int .u64 0, .int .u16 0, .int .u16 0, .int .u64 0, .int .u64 0, .slice none 0 0] (0, 0) _ rfl (H0.out.box _ (.head _)).1 Try.underlying103 rfl inf_89) rfl ⟨false, 0, 0, 0, 0, 0, 0, [], 0, 2, l, _, none, 0, rfl, hres, rfl, H0.out.inb, H0.out.act, H0.out.row, H0.out.rn⟩
set_option maxHeartbeats 4000000 in
theorem rwid_b {w : World} {B b : Nat} {v : Value} {rm ov : Nat} {l : List Nat} (h : RIn w B b v rm ov l) (m : Nat) (hm : m < 4294967296) (mg : Nat) (hmg : mg < 4294967296) (hmgx : ((mg : Int) != 1854547852) = false) (hs : ¬ (ov = 0 ∧ 32 ≤ l.length)) (hres : cutOf ansZ ov l (ansD m true l) = ((false, 0, 0, 0, 0, 0, 0, []), 0, l)) :
    Calls Try.prog 89 #[.pointer (some ⟨b, 0, none⟩), .int .u32 mg, .int .u32 m] w fun e w' => ∃ (st : Bool) (x1 : Nat) (x2 : Nat) (x3 : Nat) (x4 : Nat) (x5 : Nat) (x6 : Nat) (d : List Nat) (dn cu : Nat) (l' : List Nat) (v' : Value) (ao2 : Option Addr) (cap2 : Nat), e = .returned (.tuple #[.agg #[.bool st, .int .u32 x1, .int .u64 x2, .int .u16 x3, .int .u16 x4, .int .u64 x5, .int .u64 x6, .slice ao2 dn cap2], .int .i64 cu]) ∧ cutOf ansZ ov l (ansD m true l) = ((st, x1, x2, x3, x4, x5, x6, d), cu, l') ∧ d.length = dn ∧ RIn w' B b v' rm ov l' ∧ RAct w w' b v v' ∧ w'.ownsRow w.heap.size 5 1 (.slice ao2 dn cap2) dn (d.map bv) ∧ ∀ g, (Value.slice ao2 dn cap2).ownBlock = some g → v'.ownBlock ≠ some g := by
  replace hres : Hid _ := hres
  have h5 : 103 ≠ 5 := by decide
  obtain ⟨W0, hW0⟩ : ∃ W0, W0 = w.alloc (.cells #[.bool false, .int .u32 0, .int .u64 0, .int .u16 0, .int .u16 0, .int .u64 0, .int .u64 0, .slice none 0 0] 103) := ⟨_, rfl⟩
  have hC0 := (Cr.start h).alloc #[.bool false, .int .u32 0, .int .u64 0, .int .u16 0, .int .u16 0, .int .u64 0, .int .u64 0, .slice none 0 0] 103 h5
  rw [← hW0] at hC0
  have H0 : Hid _ := hC0
  clear hC0
  clear h
  go_enter Try.func89, Try.ntmps89
  have HA1 : Hid _ := hasF H0.out.inb (32) hs
  go_wp2_with fail
  rw [← hW0]
  clear hW0
  refine Calls.mono HA1.out ?_
  rintro e Wn ⟨rfl, hw⟩
  rw [hw]; clear hw Wn HA1
  have y0 : W0.cell? ⟨w.heap.size, 0, none⟩ = some (.bool false) := (H0.out.c (.head _) 0).1
  have yf0 : W0.frozen? ⟨w.heap.size, 0, none⟩ = false := (H0.out.c (.head _) 0).2
  have y1 : W0.cell? ⟨w.heap.size, 1, none⟩ = some (.int .u32 0) := (H0.out.c (.head _) 1).1
  have yf1 : W0.frozen? ⟨w.heap.size, 1, none⟩ = false := (H0.out.c (.head _) 1).2
  have y2 : W0.cell? ⟨w.heap.size, 2, none⟩ = some (.int .u64 0) := (H0.out.c (.head _) 2).1
  have yf2 : W0.frozen? ⟨w.heap.size, 2, none⟩ = false := (H0.out.c (.head _) 2).2
  have y3 : W0.cell? ⟨w.heap.size, 3, none⟩ = some (.int .u16 0) := (H0.out.c (.head _) 3).1
  have yf3 : W0.frozen? ⟨w.heap.size, 3, none⟩ = false := (H0.out.c (.head _) 3).2
  have y4 : W0.cell? ⟨w.heap.size, 4, none⟩ = some (.int .u16 0) := (H0.out.c (.head _) 4).1
  have yf4 : W0.frozen? ⟨w.heap.size, 4, none⟩ = false := (H0.out.c (.head _) 4).2
  have y5 : W0.cell? ⟨w.heap.size, 5, none⟩ = some (.int .u64 0) := (H0.out.c (.head _) 5).1
  have yf5 : W0.frozen? ⟨w.heap.size, 5, none⟩ = false := (H0.out.c (.head _) 5).2
  have y6 : W0.cell? ⟨w.heap.size, 6, none⟩ = some (.int .u64 0) := (H0.out.c (.head _) 6).1
  have yf6 : W0.frozen? ⟨w.heap.size, 6, none⟩ = false := (H0.out.c (.head _) 6).2
  have y7 : W0.cell? ⟨w.heap.size, 7, none⟩ = some (.slice none 0 0) := (H0.out.c (.head _) 7).1
  have yf7 : W0.frozen? ⟨w.heap.size, 7, none⟩ = false := (H0.out.c (.head _) 7).2
  have H2 : Hid _ := (Cr.put (pre := []) (Cr.put (pre := []) (Cr.put (pre := []) (Cr.put (pre := []) (Cr.put (pre := []) (Cr.put (pre := []) (Cr.put (pre := []) (Cr.put (pre := []) H0.out 0 (.bool false) (cs' := #[.bool false, .int .u32 0, .int .u64 0, .int .u16 0, .int .u16 0, .int .u64 0, .int .u64 0, .slice none 0 0]) rfl) 1 (.int .u32 0) (cs' := #[.bool false, .int .u32 0, .int .u64 0, .int .u16 0, .int .u16 0, .int .u64 0, .int .u64 0, .slice none 0 0]) rfl) 2 (.int .u64 0) (cs' := #[.bool false, .int .u32 0, .int .u64 0, .int .u16 0, .int .u16 0, .int .u64 0, .int .u64 0, .slice none 0 0]) rfl) 3 (.int .u16 0) (cs' := #[.bool false, .int .u32 0, .int .u64 0, .int .u16 0, .int .u16 0, .int .u64 0, .int .u64 0, .slice none 0 0]) rfl) 4 (.int .u16 0) (cs' := #[.bool false, .int .u32 0, .int .u64 0, .int .u16 0, .int .u16 0, .int .u64 0, .int .u64 0, .slice none 0 0]) rfl) 5 (.int .u64 0) (cs' := #[.bool false, .int .u32 0, .int .u64 0, .int .u16 0, .int .u16 0, .int .u64 0, .int .u64 0, .slice none 0 0]) rfl) 6 (.int .u64 0) (cs' := #[.bool false, .int .u32 0, .int .u64 0, .int .u16 0, .int .u16 0, .int .u64 0, .int .u64 0, .slice none 0 0]) rfl) 7 (.slice none 0 0) (cs' := #[.bool false, .int .u32 0, .int .u64 0, .int .u16 0, .int .u16 0, .int .u64 0, .int .u64 0, .slice none 0 0]) rfl)
  clear H0
  go_wp2
  exact bodyPost_ret (results_cell_tmp1 rfl _ _ (w.heap.size) 103 #[.bool false, .int .u32 0, .int .u64 0, .int .u16 0, .int .u16 0, .int .u64 0, .int .u64 0, .slice none 0 0] (0, 0) _ rfl (H2.out.box _ (.head _)).1 Try.underlying103 rfl inf_89) rfl ⟨false, 0, 0, 0, 0, 0, 0, [], 0, 0, l, _, none, 0, rfl, hres, rfl, H2.out.inb, H2.out.act, H2.out.row, H2.out.rn⟩
set_option maxHeartbeats 4000000 in
theorem rwid_c {w : World} {B b : Nat} {v : Value} {rm ov : Nat} {l : List Nat} (h : RIn w B b v rm ov l) (m : Nat) (hm : m < 4294967296) (mg : Nat) (hmg : mg < 4294967296) (hmgx : ((mg : Int) != 1854547852) = false) (hs : ov = 0 ∧ 32 ≤ l.length) (k : Nat) (hk : vl l 24 8 = k) (hkb : k < 18446744073709551616) (hmk : (m : Int) < (k : Int)) (hres : cutOf ansZ ov l (ansD m true l) = ((false, 0, 0, 0, 0, 0, 0, []), 3, l)) :
    Calls Try.prog 89 #[.pointer (some ⟨b, 0, none⟩), .int .u32 mg, .int .u32 m] w fun e w' => ∃ (st : Bool) (x1 : Nat) (x2 : Nat) (x3 : Nat) (x4 : Nat) (x5 : Nat) (x6 : Nat) (d : List Nat) (dn cu : Nat) (l' : List Nat) (v' : Value) (ao2 : Option Addr) (cap2 : Nat), e = .returned (.tuple #[.agg #[.bool st, .int .u32 x1, .int .u64 x2, .int .u16 x3, .int .u16 x4, .int .u64 x5, .int .u64 x6, .slice ao2 dn cap2], .int .i64 cu]) ∧ cutOf ansZ ov l (ansD m true l) = ((st, x1, x2, x3, x4, x5, x6, d), cu, l') ∧ d.length = dn ∧ RIn w' B b v' rm ov l' ∧ RAct w w' b v v' ∧ w'.ownsRow w.heap.size 5 1 (.slice ao2 dn cap2) dn (d.map bv) ∧ ∀ g, (Value.slice ao2 dn cap2).ownBlock = some g → v'.ownBlock ≠ some g := by
  replace hres : Hid _ := hres
  have h5 : 103 ≠ 5 := by decide
  obtain ⟨W0, hW0⟩ : ∃ W0, W0 = w.alloc (.cells #[.bool false, .int .u32 0, .int .u64 0, .int .u16 0, .int .u16 0, .int .u64 0, .int .u64 0, .slice none 0 0] 103) := ⟨_, rfl⟩
  have hC0 := (Cr.start h).alloc #[.bool false, .int .u32 0, .int .u64 0, .int .u16 0, .int .u16 0, .int .u64 0, .int .u64 0, .slice none 0 0] 103 h5
  rw [← hW0] at hC0
  have H0 : Hid _ := hC0
  clear hC0
  clear h
  go_enter Try.func89, Try.ntmps89
  have HA1 : Hid _ := hasT H0.out.inb (32) hs
  go_wp2_with fail
  rw [← hW0]
  clear hW0
  refine Calls.mono HA1.out ?_
  rintro e Wn ⟨rfl, hw⟩
  rw [hw]; clear hw Wn HA1
  have HA2 : Hid _ := uRx H0.out.inb 24 8 (by have := hs.2; omega) (by decide) (by decide) hk
  go_wp2_with fail
  refine Calls.mono HA2.out ?_
  rintro e W2 ⟨rfl, hb⟩
  have H2 : Hid _ := H0.out.later hb
  clear hb H0 HA2
  have y0 : W2.cell? ⟨w.heap.size, 0, none⟩ = some (.bool false) := (H2.out.c (.head _) 0).1
  have yf0 : W2.frozen? ⟨w.heap.size, 0, none⟩ = false := (H2.out.c (.head _) 0).2
  have y1 : W2.cell? ⟨w.heap.size, 1, none⟩ = some (.int .u32 0) := (H2.out.c (.head _) 1).1
  have yf1 : W2.frozen? ⟨w.heap.size, 1, none⟩ = false := (H2.out.c (.head _) 1).2
  have y2 : W2.cell? ⟨w.heap.size, 2, none⟩ = some (.int .u64 0) := (H2.out.c (.head _) 2).1
  have yf2 : W2.frozen? ⟨w.heap.size, 2, none⟩ = false := (H2.out.c (.head _) 2).2
  have y3 : W2.cell? ⟨w.heap.size, 3, none⟩ = some (.int .u16 0) := (H2.out.c (.head _) 3).1
  have yf3 : W2.frozen? ⟨w.heap.size, 3, none⟩ = false := (H2.out.c (.head _) 3).2
  have y4 : W2.cell? ⟨w.heap.size, 4, none⟩ = some (.int .u16 0) := (H2.out.c (.head _) 4).1
  have yf4 : W2.frozen? ⟨w.heap.size, 4, none⟩ = false := (H2.out.c (.head _) 4).2
  have y5 : W2.cell? ⟨w.heap.size, 5, none⟩ = some (.int .u64 0) := (H2.out.c (.head _) 5).1
  have yf5 : W2.frozen? ⟨w.heap.size, 5, none⟩ = false := (H2.out.c (.head _) 5).2
  have y6 : W2.cell? ⟨w.heap.size, 6, none⟩ = some (.int .u64 0) := (H2.out.c (.head _) 6).1
  have yf6 : W2.frozen? ⟨w.heap.size, 6, none⟩ = false := (H2.out.c (.head _) 6).2
  have y7 : W2.cell? ⟨w.heap.size, 7, none⟩ = some (.slice none 0 0) := (H2.out.c (.head _) 7).1
  have yf7 : W2.frozen? ⟨w.heap.size, 7, none⟩ = false := (H2.out.c (.head _) 7).2
  have H3 : Hid _ := (Cr.put (pre := []) (Cr.put (pre := []) (Cr.put (pre := []) (Cr.put (pre := []) (Cr.put (pre := []) (Cr.put (pre := []) (Cr.put (pre := []) (Cr.put (pre := []) H2.out 0 (.bool false) (cs' := #[.bool false, .int .u32 0, .int .u64 0, .int .u16 0, .int .u16 0, .int .u64 0, .int .u64 0, .slice none 0 0]) rfl) 1 (.int .u32 0) (cs' := #[.bool false, .int .u32 0, .int .u64 0, .int .u16 0, .int .u16 0, .int .u64 0, .int .u64 0, .slice none 0 0]) rfl) 2 (.int .u64 0) (cs' := #[.bool false, .int .u32 0, .int .u64 0, .int .u16 0, .int .u16 0, .int .u64 0, .int .u64 0, .slice none 0 0]) rfl) 3 (.int .u16 0) (cs' := #[.bool false, .int .u32 0, .int .u64 0, .int .u16 0, .int .u16 0, .int .u64 0, .int .u64 0, .slice none 0 0]) rfl) 4 (.int .u16 0) (cs' := #[.bool false, .int .u32 0, .int .u64 0, .int .u16 0, .int .u16 0, .int .u64 0, .int .u64 0, .slice none 0 0]) rfl) 5 (.int .u64 0) (cs' := #[.bool false, .int .u32 0, .int .u64 0, .int .u16 0, .int .u16 0, .int .u64 0, .int .u64 0, .slice none 0 0]) rfl) 6 (.int .u64 0) (cs' := #[.bool false, .int .u32 0, .int .u64 0, .int .u16 0, .int .u16 0, .int .u64 0, .int .u64 0, .slice none 0 0]) rfl) 7 (.slice none 0 0) (cs' := #[.bool false, .int .u32 0, .int .u64 0, .int .u16 0, .int .u16 0, .int .u64 0, .int .u64 0, .slice none 0 0]) rfl)
  clear H2
  go_wp2
  exact bodyPost_ret (results_cell_tmp1 rfl _ _ (w.heap.size) 103 #[.bool false, .int .u32 0, .int .u64 0, .int .u16 0, .int .u16 0, .int .u64 0, .int .u64 0, .slice none 0 0] (0, 0) _ rfl (H3.out.box _ (.head _)).1 Try.underlying103 rfl inf_89) rfl ⟨false, 0, 0, 0, 0, 0, 0, [], 0, 3, l, _, none, 0, rfl, hres, rfl, H3.out.inb, H3.out.act, H3.out.row, H3.out.rn⟩
set_option maxHeartbeats 4000000 in
theorem rwid_d {w : World} {B b : Nat} {v : Value} {rm ov : Nat} {l : List Nat} (h : RIn w B b v rm ov l) (m : Nat) (hm : m < 4294967296) (mg : Nat) (hmg : mg < 4294967296) (hmgx : ((mg : Int) != 1854547852) = false) (hs : ov = 0 ∧ 32 ≤ l.length) (k : Nat) (hk : vl l 24 8 = k) (hkb : k < 18446744073709551616) (hmk : ¬ (m : Int) < (k : Int)) (hs2 : ¬ (ov = 0 ∧ 32 + k ≤ l.length)) (hres : cutOf ansZ ov l (ansD m true l) = ((false, 0, 0, 0, 0, 0, 0, []), 0, l)) :
    Calls Try.prog 89 #[.pointer (some ⟨b, 0, none⟩), .int .u32 mg, .int .u32 m] w fun e w' => ∃ (st : Bool) (x1 : Nat) (x2 : Nat) (x3 : Nat) (x4 : Nat) (x5 : Nat) (x6 : Nat) (d : List Nat) (dn cu : Nat) (l' : List Nat) (v' : Value) (ao2 : Option Addr) (cap2 : Nat), e = .returned (.tuple #[.agg #[.bool st, .int .u32 x1, .int .u64 x2, .int .u16 x3, .int .u16 x4, .int .u64 x5, .int .u64 x6, .slice ao2 dn cap2], .int .i64 cu]) ∧ cutOf ansZ ov l (ansD m true l) = ((st, x1, x2, x3, x4, x5, x6, d), cu, l') ∧ d.length = dn ∧ RIn w' B b v' rm ov l' ∧ RAct w w' b v v' ∧ w'.ownsRow w.heap.size 5 1 (.slice ao2 dn cap2) dn (d.map bv) ∧ ∀ g, (Value.slice ao2 dn cap2).ownBlock = some g → v'.ownBlock ≠ some g := by
  replace hres : Hid _ := hres
  have h5 : 103 ≠ 5 := by decide
  obtain ⟨W0, hW0⟩ : ∃ W0, W0 = w.alloc (.cells #[.bool false, .int .u32 0, .int .u64 0, .int .u16 0, .int .u16 0, .int .u64 0, .int .u64 0, .slice none 0 0] 103) := ⟨_, rfl⟩
  have hC0 := (Cr.start h).alloc #[.bool false, .int .u32 0, .int .u64 0, .int .u16 0, .int .u16 0, .int .u64 0, .int .u64 0, .slice none 0 0] 103 h5
  rw [← hW0] at hC0
  have H0 : Hid _ := hC0
  clear hC0
  clear h
  go_enter Try.func89, Try.ntmps89
  have HA1 : Hid _ := hasT H0.out.inb (32) hs
  go_wp2_with fail
  rw [← hW0]
  clear hW0
  refine Calls.mono HA1.out ?_
  rintro e Wn ⟨rfl, hw⟩
  rw [hw]; clear hw Wn HA1
  have HA2 : Hid _ := uRx H0.out.inb 24 8 (by have := hs.2; omega) (by decide) (by decide) hk
  go_wp2_with fail
  refine Calls.mono HA2.out ?_
  rintro e W2 ⟨rfl, hb⟩
  have H2 : Hid _ := H0.out.later hb
  clear hb H0 HA2
  have HA3 : Hid _ := hasFz H2.out.inb (32 + k) (32 + (k : Int)) (by omega) hs2
  go_wp2_with fail
  refine Calls.mono HA3.out ?_
  rintro e Wn ⟨rfl, hw⟩
  rw [hw]; clear hw Wn HA3
  have y0 : W2.cell? ⟨w.heap.size, 0, none⟩ = some (.bool false) := (H2.out.c (.head _) 0).1
  have yf0 : W2.frozen? ⟨w.heap.size, 0, none⟩ = false := (H2.out.c (.head _) 0).2
  have y1 : W2.cell? ⟨w.heap.size, 1, none⟩ = some (.int .u32 0) := (H2.out.c (.head _) 1).1
  have yf1 : W2.frozen? ⟨w.heap.size, 1, none⟩ = false := (H2.out.c (.head _) 1).2
  have y2 : W2.cell? ⟨w.heap.size, 2, none⟩ = some (.int .u64 0) := (H2.out.c (.head _) 2).1
  have yf2 : W2.frozen? ⟨w.heap.size, 2, none⟩ = false := (H2.out.c (.head _) 2).2
  have y3 : W2.cell? ⟨w.heap.size, 3, none⟩ = some (.int .u16 0) := (H2.out.c (.head _) 3).1
  have yf3 : W2.frozen? ⟨w.heap.size, 3, none⟩ = false := (H2.out.c (.head _) 3).2
  have y4 : W2.cell? ⟨w.heap.size, 4, none⟩ = some (.int .u16 0) := (H2.out.c (.head _) 4).1
  have yf4 : W2.frozen? ⟨w.heap.size, 4, none⟩ = false := (H2.out.c (.head _) 4).2
  have y5 : W2.cell? ⟨w.heap.size, 5, none⟩ = some (.int .u64 0) := (H2.out.c (.head _) 5).1
  have yf5 : W2.frozen? ⟨w.heap.size, 5, none⟩ = false := (H2.out.c (.head _) 5).2
  have y6 : W2.cell? ⟨w.heap.size, 6, none⟩ = some (.int .u64 0) := (H2.out.c (.head _) 6).1
  have yf6 : W2.frozen? ⟨w.heap.size, 6, none⟩ = false := (H2.out.c (.head _) 6).2
  have y7 : W2.cell? ⟨w.heap.size, 7, none⟩ = some (.slice none 0 0) := (H2.out.c (.head _) 7).1
  have yf7 : W2.frozen? ⟨w.heap.size, 7, none⟩ = false := (H2.out.c (.head _) 7).2
  have H4 : Hid _ := (Cr.put (pre := []) (Cr.put (pre := []) (Cr.put (pre := []) (Cr.put (pre := []) (Cr.put (pre := []) (Cr.put (pre := []) (Cr.put (pre := []) (Cr.put (pre := []) H2.out 0 (.bool false) (cs' := #[.bool false, .int .u32 0, .int .u64 0, .int .u16 0, .int .u16 0, .int .u64 0, .int .u64 0, .slice none 0 0]) rfl) 1 (.int .u32 0) (cs' := #[.bool false, .int .u32 0, .int .u64 0, .int .u16 0, .int .u16 0, .int .u64 0, .int .u64 0, .slice none 0 0]) rfl) 2 (.int .u64 0) (cs' := #[.bool false, .int .u32 0, .int .u64 0, .int .u16 0, .int .u16 0, .int .u64 0, .int .u64 0, .slice none 0 0]) rfl) 3 (.int .u16 0) (cs' := #[.bool false, .int .u32 0, .int .u64 0, .int .u16 0, .int .u16 0, .int .u64 0, .int .u64 0, .slice none 0 0]) rfl) 4 (.int .u16 0) (cs' := #[.bool false, .int .u32 0, .int .u64 0, .int .u16 0, .int .u16 0, .int .u64 0, .int .u64 0, .slice none 0 0]) rfl) 5 (.int .u64 0) (cs' := #[.bool false, .int .u32 0, .int .u64 0, .int .u16 0, .int .u16 0, .int .u64 0, .int .u64 0, .slice none 0 0]) rfl) 6 (.int .u64 0) (cs' := #[.bool false, .int .u32 0, .int .u64 0, .int .u16 0, .int .u16 0, .int .u64 0, .int .u64 0, .slice none 0 0]) rfl) 7 (.slice none 0 0) (cs' := #[.bool false, .int .u32 0, .int .u64 0, .int .u16 0, .int .u16 0, .int .u64 0, .int .u64 0, .slice none 0 0]) rfl)
  clear H2
  go_wp2
  exact bodyPost_ret (results_cell_tmp1 rfl _ _ (w.heap.size) 103 #[.bool false, .int .u32 0, .int .u64 0, .int .u16 0, .int .u16 0, .int .u64 0, .int .u64 0, .slice none 0 0] (0, 0) _ rfl (H4.out.box _ (.head _)).1 Try.underlying103 rfl inf_89) rfl ⟨false, 0, 0, 0, 0, 0, 0, [], 0, 0, l, _, none, 0, rfl, hres, rfl, H4.out.inb, H4.out.act, H4.out.row, H4.out.rn⟩
set_option maxHeartbeats 4000000 in
theorem rwid_e {w : World} {B b : Nat} {v : Value} {rm ov : Nat} {l : List Nat} (h : RIn w B b v rm ov l) (m : Nat) (hm : m < 4294967296) (mg : Nat) (hmg : mg < 4294967296) (hmgx : ((mg : Int) != 1854547852) = false) (hs : ov = 0 ∧ 32 ≤ l.length) (k : Nat) (hk : vl l 24 8 = k) (hkb : k < 18446744073709551616) (hmk : ¬ (m : Int) < (k : Int)) (hs2 : ov = 0 ∧ 32 + k ≤ l.length) (x3 x4 x5 x6 : Nat) (hx3 : vl l 4 2 = x3) (hx4 : vl l 6 2 = x4) (hx5 : vl l 8 8 = x5) (hx6 : vl l 16 8 = x6) (b3 : x3 < 65536) (b4 : x4 < 65536) (b5 : x5 < 18446744073709551616) (b6 : x6 < 18446744073709551616) (hres : cutOf ansZ ov l (ansD m true l) = ((true, 0, 0, x3, x4, x5, x6, (l.drop 32).take k), 1, (l.drop 32).drop k)) :
    Calls Try.prog 89 #[.pointer (some ⟨b, 0, none⟩), .int .u32 mg, .int .u32 m] w fun e w' => ∃ (st : Bool) (x1 : Nat) (x2 : Nat) (x3 : Nat) (x4 : Nat) (x5 : Nat) (x6 : Nat) (d : List Nat) (dn cu : Nat) (l' : List Nat) (v' : Value) (ao2 : Option Addr) (cap2 : Nat), e = .returned (.tuple #[.agg #[.bool st, .int .u32 x1, .int .u64 x2, .int .u16 x3, .int .u16 x4, .int .u64 x5, .int .u64 x6, .slice ao2 dn cap2], .int .i64 cu]) ∧ cutOf ansZ ov l (ansD m true l) = ((st, x1, x2, x3, x4, x5, x6, d), cu, l') ∧ d.length = dn ∧ RIn w' B b v' rm ov l' ∧ RAct w w' b v v' ∧ w'.ownsRow w.heap.size 5 1 (.slice ao2 dn cap2) dn (d.map bv) ∧ ∀ g, (Value.slice ao2 dn cap2).ownBlock = some g → v'.ownBlock ≠ some g := by
  replace hres : Hid _ := hres
  have h5 : 103 ≠ 5 := by decide
  obtain ⟨W0, hW0⟩ : ∃ W0, W0 = w.alloc (.cells #[.bool false, .int .u32 0, .int .u64 0, .int .u16 0, .int .u16 0, .int .u64 0, .int .u64 0, .slice none 0 0] 103) := ⟨_, rfl⟩
  have hC0 := (Cr.start h).alloc #[.bool false, .int .u32 0, .int .u64 0, .int .u16 0, .int .u16 0, .int .u64 0, .int .u64 0, .slice none 0 0] 103 h5
  rw [← hW0] at hC0
  have H0 : Hid _ := hC0
  clear hC0
  clear h
  go_enter Try.func89, Try.ntmps89
  have HA1 : Hid _ := hasT H0.out.inb (32) hs
  go_wp2_with fail
  rw [← hW0]
  clear hW0
  refine Calls.mono HA1.out ?_
  rintro e Wn ⟨rfl, hw⟩
  rw [hw]; clear hw Wn HA1
  have HA2 : Hid _ := uRx H0.out.inb 24 8 (by have := hs.2; omega) (by decide) (by decide) hk
  go_wp2_with fail
  refine Calls.mono HA2.out ?_
  rintro e W2 ⟨rfl, hb⟩
  have H2 : Hid _ := H0.out.later hb
  clear hb H0 HA2
  have HA3 : Hid _ := hasTz H2.out.inb (32 + k) (32 + (k : Int)) (by omega) hs2
  go_wp2_with fail
  refine Calls.mono HA3.out ?_
  rintro e Wn ⟨rfl, hw⟩
  rw [hw]; clear hw Wn HA3
  have HA4 : Hid _ := uRx H2.out.inb 4 2 (by have := hs.2; omega) (by decide) (by decide) hx3
  go_wp2_with fail
  refine Calls.mono HA4.out ?_
  rintro e W4 ⟨rfl, hb⟩
  have H4 : Hid _ := H2.out.later hb
  clear hb H2 HA4
  have HA5 : Hid _ := uRx H4.out.inb 6 2 (by have := hs.2; omega) (by decide) (by decide) hx4
  go_wp2_with fail
  refine Calls.mono HA5.out ?_
  rintro e W5 ⟨rfl, hb⟩
  have H5 : Hid _ := H4.out.later hb
  clear hb H4 HA5
  have HA6 : Hid _ := uRx H5.out.inb 8 8 (by have := hs.2; omega) (by decide) (by decide) hx5
  go_wp2_with fail
  refine Calls.mono HA6.out ?_
  rintro e W6 ⟨rfl, hb⟩
  have H6 : Hid _ := H5.out.later hb
  clear hb H5 HA6
  have HA7 : Hid _ := uRx H6.out.inb 16 8 (by have := hs.2; omega) (by decide) (by decide) hx6
  go_wp2_with fail
  refine Calls.mono HA7.out ?_
  rintro e W7 ⟨rfl, hb⟩
  have H7 : Hid _ := H6.out.later hb
  clear hb H6 HA7
  have hq := H7.out.alloc #[.int .u16 x3, .int .u16 x4, .int .u64 x5, .int .u64 x6, .slice none 0 0] 64 (by decide)
  generalize hW8 : W7.alloc (.cells #[.int .u16 x3, .int .u16 x4, .int .u64 x5, .int .u64 x6, .slice none 0 0] 64) = W8 at hq
  have H8 : Hid _ := hq
  clear hq H7
  have HW8 : Hid _ := hW8
  clear hW8
  have HA9 : Hid _ := cutR H8.out.inb 32 (by have := hs.2; omega)
  go_wp2_with fail
  rw [show _ = _ from HW8.out]
  clear HW8
  refine Calls.mono HA9.out ?_
  rintro e W9 ⟨ao1, cap1, vn9, rfl, hI, hA, hr, hn⟩
  have hd9 : (l.take (32)).length = 32 := by rw [List.length_take]; exact Nat.min_eq_left (by have := hs.2; omega)
  have H9 : Hid _ := H8.out.told2 (d' := l.take (32)) hI hA (by rw [hd9]; exact hr) hn
  clear hI hA hr hn H8 HA9
  have HA10 : Hid _ := cutR H9.out.inb k (by have := hs2.2; rw [List.length_drop]; omega)
  go_wp2_with fail
  refine Calls.mono HA10.out ?_
  rintro e W10 ⟨ao2, cap2, vn10, rfl, hI, hA, hr, hn⟩
  have hd10 : ((l.drop 32).take (k)).length = k := by rw [List.length_take]; exact Nat.min_eq_left (by have := hs2.2; rw [List.length_drop]; omega)
  have H10 : Hid _ := H9.out.told2 (d' := (l.drop 32).take (k)) hI hA (by rw [hd10]; exact hr) hn
  clear hI hA hr hn H9 HA10
  have q0 : W10.cell? ⟨W7.heap.size, 0, none⟩ = some (.int .u16 x3) := (H10.out.c (.head _) 0).1
  have qf0 : W10.frozen? ⟨W7.heap.size, 0, none⟩ = false := (H10.out.c (.head _) 0).2
  have q1 : W10.cell? ⟨W7.heap.size, 1, none⟩ = some (.int .u16 x4) := (H10.out.c (.head _) 1).1
  have qf1 : W10.frozen? ⟨W7.heap.size, 1, none⟩ = false := (H10.out.c (.head _) 1).2
  have q2 : W10.cell? ⟨W7.heap.size, 2, none⟩ = some (.int .u64 x5) := (H10.out.c (.head _) 2).1
  have qf2 : W10.frozen? ⟨W7.heap.size, 2, none⟩ = false := (H10.out.c (.head _) 2).2
  have q3 : W10.cell? ⟨W7.heap.size, 3, none⟩ = some (.int .u64 x6) := (H10.out.c (.head _) 3).1
  have qf3 : W10.frozen? ⟨W7.heap.size, 3, none⟩ = false := (H10.out.c (.head _) 3).2
  have q4 : W10.cell? ⟨W7.heap.size, 4, none⟩ = some (.slice none 0 0) := (H10.out.c (.head _) 4).1
  have qf4 : W10.frozen? ⟨W7.heap.size, 4, none⟩ = false := (H10.out.c (.head _) 4).2
  have H11 : Hid _ := (Cr.put (pre := []) H10.out 4 (.slice ao2 k cap2) (cs' := #[.int .u16 x3, .int .u16 x4, .int .u64 x5, .int .u64 x6, .slice ao2 k cap2]) rfl)
  clear H10
  obtain ⟨Wz, hWz⟩ : ∃ Wz, W10.setCell ⟨W7.heap.size, 4, none⟩ (.slice ao2 k cap2) = Wz := ⟨_, rfl⟩
  rw [hWz] at H11
  go_upto_region 13 with fail
  clear hWz
  clear q0 qf0 q1 qf1 q2 qf2 q3 qf3 q4 qf4
  have q0 : Wz.cell? ⟨W7.heap.size, 0, none⟩ = some (.int .u16 x3) := (H11.out.c (.head _) 0).1
  have q1 : Wz.cell? ⟨W7.heap.size, 1, none⟩ = some (.int .u16 x4) := (H11.out.c (.head _) 1).1
  have q2 : Wz.cell? ⟨W7.heap.size, 2, none⟩ = some (.int .u64 x5) := (H11.out.c (.head _) 2).1
  have q3 : Wz.cell? ⟨W7.heap.size, 3, none⟩ = some (.int .u64 x6) := (H11.out.c (.head _) 3).1
  have q4 : Wz.cell? ⟨W7.heap.size, 4, none⟩ = some (.slice ao2 k cap2) := (H11.out.c (.head _) 4).1
  have y0 : Wz.cell? ⟨w.heap.size, 0, none⟩ = some (.bool false) := (H11.out.c (.tail _ (.head _)) 0).1
  have yf0 : Wz.frozen? ⟨w.heap.size, 0, none⟩ = false := (H11.out.c (.tail _ (.head _)) 0).2
  have y1 : Wz.cell? ⟨w.heap.size, 1, none⟩ = some (.int .u32 0) := (H11.out.c (.tail _ (.head _)) 1).1
  have yf1 : Wz.frozen? ⟨w.heap.size, 1, none⟩ = false := (H11.out.c (.tail _ (.head _)) 1).2
  have y2 : Wz.cell? ⟨w.heap.size, 2, none⟩ = some (.int .u64 0) := (H11.out.c (.tail _ (.head _)) 2).1
  have yf2 : Wz.frozen? ⟨w.heap.size, 2, none⟩ = false := (H11.out.c (.tail _ (.head _)) 2).2
  have y3 : Wz.cell? ⟨w.heap.size, 3, none⟩ = some (.int .u16 0) := (H11.out.c (.tail _ (.head _)) 3).1
  have yf3 : Wz.frozen? ⟨w.heap.size, 3, none⟩ = false := (H11.out.c (.tail _ (.head _)) 3).2
  have y4 : Wz.cell? ⟨w.heap.size, 4, none⟩ = some (.int .u16 0) := (H11.out.c (.tail _ (.head _)) 4).1
  have yf4 : Wz.frozen? ⟨w.heap.size, 4, none⟩ = false := (H11.out.c (.tail _ (.head _)) 4).2
  have y5 : Wz.cell? ⟨w.heap.size, 5, none⟩ = some (.int .u64 0) := (H11.out.c (.tail _ (.head _)) 5).1
  have yf5 : Wz.frozen? ⟨w.heap.size, 5, none⟩ = false := (H11.out.c (.tail _ (.head _)) 5).2
  have y6 : Wz.cell? ⟨w.heap.size, 6, none⟩ = some (.int .u64 0) := (H11.out.c (.tail _ (.head _)) 6).1
  have yf6 : Wz.frozen? ⟨w.heap.size, 6, none⟩ = false := (H11.out.c (.tail _ (.head _)) 6).2
  have y7 : Wz.cell? ⟨w.heap.size, 7, none⟩ = some (.slice none 0 0) := (H11.out.c (.tail _ (.head _)) 7).1
  have yf7 : Wz.frozen? ⟨w.heap.size, 7, none⟩ = false := (H11.out.c (.tail _ (.head _)) 7).2
  have H12 : Hid _ := (Cr.put (pre := [(W7.heap.size, #[.int .u16 x3, .int .u16 x4, .int .u64 x5, .int .u64 x6, .slice ao2 k cap2], 64)]) (Cr.put (pre := [(W7.heap.size, #[.int .u16 x3, .int .u16 x4, .int .u64 x5, .int .u64 x6, .slice ao2 k cap2], 64)]) (Cr.put (pre := [(W7.heap.size, #[.int .u16 x3, .int .u16 x4, .int .u64 x5, .int .u64 x6, .slice ao2 k cap2], 64)]) (Cr.put (pre := [(W7.heap.size, #[.int .u16 x3, .int .u16 x4, .int .u64 x5, .int .u64 x6, .slice ao2 k cap2], 64)]) (Cr.put (pre := [(W7.heap.size, #[.int .u16 x3, .int .u16 x4, .int .u64 x5, .int .u64 x6, .slice ao2 k cap2], 64)]) (Cr.put (pre := [(W7.heap.size, #[.int .u16 x3, .int .u16 x4, .int .u64 x5, .int .u64 x6, .slice ao2 k cap2], 64)]) (Cr.put (pre := [(W7.heap.size, #[.int .u16 x3, .int .u16 x4, .int .u64 x5, .int .u64 x6, .slice ao2 k cap2], 64)]) (Cr.put (pre := [(W7.heap.size, #[.int .u16 x3, .int .u16 x4, .int .u64 x5, .int .u64 x6, .slice ao2 k cap2], 64)]) H11.out 0 (.bool true) (cs' := #[.bool true, .int .u32 0, .int .u64 0, .int .u16 0, .int .u16 0, .int .u64 0, .int .u64 0, .slice none 0 0]) rfl) 1 (.int .u32 0) (cs' := #[.bool true, .int .u32 0, .int .u64 0, .int .u16 0, .int .u16 0, .int .u64 0, .int .u64 0, .slice none 0 0]) rfl) 2 (.int .u64 0) (cs' := #[.bool true, .int .u32 0, .int .u64 0, .int .u16 0, .int .u16 0, .int .u64 0, .int .u64 0, .slice none 0 0]) rfl) 3 (.int .u16 x3) (cs' := #[.bool true, .int .u32 0, .int .u64 0, .int .u16 x3, .int .u16 0, .int .u64 0, .int .u64 0, .slice none 0 0]) rfl) 4 (.int .u16 x4) (cs' := #[.bool true, .int .u32 0, .int .u64 0, .int .u16 x3, .int .u16 x4, .int .u64 0, .int .u64 0, .slice none 0 0]) rfl) 5 (.int .u64 x5) (cs' := #[.bool true, .int .u32 0, .int .u64 0, .int .u16 x3, .int .u16 x4, .int .u64 x5, .int .u64 0, .slice none 0 0]) rfl) 6 (.int .u64 x6) (cs' := #[.bool true, .int .u32 0, .int .u64 0, .int .u16 x3, .int .u16 x4, .int .u64 x5, .int .u64 x6, .slice none 0 0]) rfl) 7 (.slice ao2 k cap2) (cs' := #[.bool true, .int .u32 0, .int .u64 0, .int .u16 x3, .int .u16 x4, .int .u64 x5, .int .u64 x6, .slice ao2 k cap2]) rfl)
  clear H11
  go_wp2
  exact bodyPost_ret (results_cell_tmp1 rfl _ _ (w.heap.size) 103 #[.bool true, .int .u32 0, .int .u64 0, .int .u16 x3, .int .u16 x4, .int .u64 x5, .int .u64 x6, .slice ao2 k cap2] (0, 0) _ rfl (H12.out.box _ (.tail _ (.head _))).1 Try.underlying103 rfl inf_89) rfl ⟨true, 0, 0, x3, x4, x5, x6, (l.drop 32).take k, k, 1, (l.drop 32).drop k, _, ao2, cap2, rfl, hres, hd10, H12.out.inb, H12.out.act, by have q := H12.out.row; rw [hd10] at q; exact q, H12.out.rn⟩
set_option maxHeartbeats 4000000 in
theorem rrf_a {w : World} {B b : Nat} {v : Value} {rm ov : Nat} {l : List Nat} (h : RIn w B b v rm ov l) (m : Nat) (hm : m < 4294967296) (hs : ¬ (ov = 0 ∧ 4 ≤ l.length)) (hres : cutOf ansZ ov l (ansD m false l) = ((false, 0, 0, 0, 0, 0, 0, []), 0, l)) :
    Calls Try.prog 47 #[.pointer (some ⟨b, 0, none⟩), .int .u32 m, .bool false] w fun e w' => ∃ (st : Bool) (x1 : Nat) (x2 : Nat) (x3 : Nat) (x4 : Nat) (x5 : Nat) (x6 : Nat) (d : List Nat) (dn cu : Nat) (l' : List Nat) (v' : Value) (ao2 : Option Addr) (cap2 : Nat), e = .returned (.tuple #[.agg #[.bool st, .int .u32 x1, .int .u64 x2, .int .u16 x3, .int .u16 x4, .int .u64 x5, .int .u64 x6, .slice ao2 dn cap2], .int .i64 cu]) ∧ cutOf ansZ ov l (ansD m false l) = ((st, x1, x2, x3, x4, x5, x6, d), cu, l') ∧ d.length = dn ∧ RIn w' B b v' rm ov l' ∧ RAct w w' b v v' ∧ w'.ownsRow w.heap.size 5 1 (.slice ao2 dn cap2) dn (d.map bv) ∧ ∀ g, (Value.slice ao2 dn cap2).ownBlock = some g → v'.ownBlock ≠ some g := by
  replace hres : Hid _ := hres
  have h5 : 103 ≠ 5 := by decide
  obtain ⟨W0, hW0⟩ : ∃ W0, W0 = w.alloc (.cells #[.bool false, .int .u32 0, .int .u64 0, .int .u16 0, .int .u16 0, .int .u64 0, .int .u64 0, .slice none 0 0] 103) := ⟨_, rfl⟩
  have hC0 := (Cr.start h).alloc #[.bool false, .int .u32 0, .int .u64 0, .int .u16 0, .int .u16 0, .int .u64 0, .int .u64 0, .slice none 0 0] 103 h5
  rw [← hW0] at hC0
  have H0 : Hid _ := hC0
  clear hC0
  clear h
  go_enter Try.func47, Try.ntmps47
  have HA1 : Hid _ := hasF H0.out.inb (4) hs
  go_wp2_with fail
  rw [← hW0]
  clear hW0
  refine Calls.mono HA1.out ?_
  rintro e Wn ⟨rfl, hw⟩
  rw [hw]; clear hw Wn HA1
  have y0 : W0.cell? ⟨w.heap.size, 0, none⟩ = some (.bool false) := (H0.out.c (.head _) 0).1
  have yf0 : W0.frozen? ⟨w.heap.size, 0, none⟩ = false := (H0.out.c (.head _) 0).2
  have y1 : W0.cell? ⟨w.heap.size, 1, none⟩ = some (.int .u32 0) := (H0.out.c (.head _) 1).1
  have yf1 : W0.frozen? ⟨w.heap.size, 1, none⟩ = false := (H0.out.c (.head _) 1).2
  have y2 : W0.cell? ⟨w.heap.size, 2, none⟩ = some (.int .u64 0) := (H0.out.c (.head _) 2).1
  have yf2 : W0.frozen? ⟨w.heap.size, 2, none⟩ = false := (H0.out.c (.head _) 2).2
  have y3 : W0.cell? ⟨w.heap.size, 3, none⟩ = some (.int .u16 0) := (H0.out.c (.head _) 3).1
  have yf3 : W0.frozen? ⟨w.heap.size, 3, none⟩ = false := (H0.out.c (.head _) 3).2
  have y4 : W0.cell? ⟨w.heap.size, 4, none⟩ = some (.int .u16 0) := (H0.out.c (.head _) 4).1
  have yf4 : W0.frozen? ⟨w.heap.size, 4, none⟩ = false := (H0.out.c (.head _) 4).2
  have y5 : W0.cell? ⟨w.heap.size, 5, none⟩ = some (.int .u64 0) := (H0.out.c (.head _) 5).1
  have yf5 : W0.frozen? ⟨w.heap.size, 5, none⟩ = false := (H0.out.c (.head _) 5).2
  have y6 : W0.cell? ⟨w.heap.size, 6, none⟩ = some (.int .u64 0) := (H0.out.c (.head _) 6).1
  have yf6 : W0.frozen? ⟨w.heap.size, 6, none⟩ = false := (H0.out.c (.head _) 6).2
  have y7 : W0.cell? ⟨w.heap.size, 7, none⟩ = some (.slice none 0 0) := (H0.out.c (.head _) 7).1
  have yf7 : W0.frozen? ⟨w.heap.size, 7, none⟩ = false := (H0.out.c (.head _) 7).2
  have H2 : Hid _ := (Cr.put (pre := []) (Cr.put (pre := []) (Cr.put (pre := []) (Cr.put (pre := []) (Cr.put (pre := []) (Cr.put (pre := []) (Cr.put (pre := []) (Cr.put (pre := []) H0.out 0 (.bool false) (cs' := #[.bool false, .int .u32 0, .int .u64 0, .int .u16 0, .int .u16 0, .int .u64 0, .int .u64 0, .slice none 0 0]) rfl) 1 (.int .u32 0) (cs' := #[.bool false, .int .u32 0, .int .u64 0, .int .u16 0, .int .u16 0, .int .u64 0, .int .u64 0, .slice none 0 0]) rfl) 2 (.int .u64 0) (cs' := #[.bool false, .int .u32 0, .int .u64 0, .int .u16 0, .int .u16 0, .int .u64 0, .int .u64 0, .slice none 0 0]) rfl) 3 (.int .u16 0) (cs' := #[.bool false, .int .u32 0, .int .u64 0, .int .u16 0, .int .u16 0, .int .u64 0, .int .u64 0, .slice none 0 0]) rfl) 4 (.int .u16 0) (cs' := #[.bool false, .int .u32 0, .int .u64 0, .int .u16 0, .int .u16 0, .int .u64 0, .int .u64 0, .slice none 0 0]) rfl) 5 (.int .u64 0) (cs' := #[.bool false, .int .u32 0, .int .u64 0, .int .u16 0, .int .u16 0, .int .u64 0, .int .u64 0, .slice none 0 0]) rfl) 6 (.int .u64 0) (cs' := #[.bool false, .int .u32 0, .int .u64 0, .int .u16 0, .int .u16 0, .int .u64 0, .int .u64 0, .slice none 0 0]) rfl) 7 (.slice none 0 0) (cs' := #[.bool false, .int .u32 0, .int .u64 0, .int .u16 0, .int .u16 0, .int .u64 0, .int .u64 0, .slice none 0 0]) rfl)
  clear H0
  go_wp2
  exact bodyPost_ret (results_cell_tmp1 rfl _ _ (w.heap.size) 103 #[.bool false, .int .u32 0, .int .u64 0, .int .u16 0, .int .u16 0, .int .u64 0, .int .u64 0, .slice none 0 0] (0, 0) _ rfl (H2.out.box _ (.head _)).1 Try.underlying103 rfl inf_47) rfl ⟨false, 0, 0, 0, 0, 0, 0, [], 0, 0, l, _, none, 0, rfl, hres, rfl, H2.out.inb, H2.out.act, H2.out.row, H2.out.rn⟩
set_option maxHeartbeats 4000000 in
theorem rrf_s1 {w : World} {B b : Nat} {v : Value} {rm ov : Nat} {l : List Nat} (h : RIn w B b v rm ov l) (m : Nat) (hm : m < 4294967296) (hs : ov = 0 ∧ 4 ≤ l.length) (hx : vl l 0 4 = 1732535960) (hs2 : ¬ (ov = 0 ∧ 16 ≤ l.length)) (hres : cutOf ansZ ov l (ansD m false l) = ((false, 0, 0, 0, 0, 0, 0, []), 0, l)) :
    Calls Try.prog 47 #[.pointer (some ⟨b, 0, none⟩), .int .u32 m, .bool false] w fun e w' => ∃ (st : Bool) (x1 : Nat) (x2 : Nat) (x3 : Nat) (x4 : Nat) (x5 : Nat) (x6 : Nat) (d : List Nat) (dn cu : Nat) (l' : List Nat) (v' : Value) (ao2 : Option Addr) (cap2 : Nat), e = .returned (.tuple #[.agg #[.bool st, .int .u32 x1, .int .u64 x2, .int .u16 x3, .int .u16 x4, .int .u64 x5, .int .u64 x6, .slice ao2 dn cap2], .int .i64 cu]) ∧ cutOf ansZ ov l (ansD m false l) = ((st, x1, x2, x3, x4, x5, x6, d), cu, l') ∧ d.length = dn ∧ RIn w' B b v' rm ov l' ∧ RAct w w' b v v' ∧ w'.ownsRow w.heap.size 5 1 (.slice ao2 dn cap2) dn (d.map bv) ∧ ∀ g, (Value.slice ao2 dn cap2).ownBlock = some g → v'.ownBlock ≠ some g := by
  replace hres : Hid _ := hres
  have h5 : 103 ≠ 5 := by decide
  obtain ⟨W0, hW0⟩ : ∃ W0, W0 = w.alloc (.cells #[.bool false, .int .u32 0, .int .u64 0, .int .u16 0, .int .u16 0, .int .u64 0, .int .u64 0, .slice none 0 0] 103) := ⟨_, rfl⟩
  have hC0 := (Cr.start h).alloc #[.bool false, .int .u32 0, .int .u64 0, .int .u16 0, .int .u16 0, .int .u64 0, .int .u64 0, .slice none 0 0] 103 h5
  rw [← hW0] at hC0
  have H0 : Hid _ := hC0
  clear hC0
  clear h
  go_enter Try.func47, Try.ntmps47
  have HA1 : Hid _ := hasT H0.out.inb (4) hs
  go_wp2_with fail
  rw [← hW0]
  clear hW0
  refine Calls.mono HA1.out ?_
  rintro e Wn ⟨rfl, hw⟩
  rw [hw]; clear hw Wn HA1
  have HA2 : Hid _ := uRx H0.out.inb 0 4 (by have := hs.2; omega) (by decide) (by decide) hx
  go_wp2_with fail
  refine Calls.mono HA2.out ?_
  rintro e W2 ⟨rfl, hb⟩
  have H2 : Hid _ := H0.out.later hb
  clear hb H0 HA2
  have HA3 : Hid _ := hasF H2.out.inb (16) hs2
  go_wp2_with fail
  refine Calls.mono HA3.out ?_
  rintro e Wn ⟨rfl, hw⟩
  rw [hw]; clear hw Wn HA3
  have y0 : W2.cell? ⟨w.heap.size, 0, none⟩ = some (.bool false) := (H2.out.c (.head _) 0).1
  have yf0 : W2.frozen? ⟨w.heap.size, 0, none⟩ = false := (H2.out.c (.head _) 0).2
  have y1 : W2.cell? ⟨w.heap.size, 1, none⟩ = some (.int .u32 0) := (H2.out.c (.head _) 1).1
  have yf1 : W2.frozen? ⟨w.heap.size, 1, none⟩ = false := (H2.out.c (.head _) 1).2
  have y2 : W2.cell? ⟨w.heap.size, 2, none⟩ = some (.int .u64 0) := (H2.out.c (.head _) 2).1
  have yf2 : W2.frozen? ⟨w.heap.size, 2, none⟩ = false := (H2.out.c (.head _) 2).2
  have y3 : W2.cell? ⟨w.heap.size, 3, none⟩ = some (.int .u16 0) := (H2.out.c (.head _) 3).1
  have yf3 : W2.frozen? ⟨w.heap.size, 3, none⟩ = false := (H2.out.c (.head _) 3).2
  have y4 : W2.cell? ⟨w.heap.size, 4, none⟩ = some (.int .u16 0) := (H2.out.c (.head _) 4).1
  have yf4 : W2.frozen? ⟨w.heap.size, 4, none⟩ = false := (H2.out.c (.head _) 4).2
  have y5 : W2.cell? ⟨w.heap.size, 5, none⟩ = some (.int .u64 0) := (H2.out.c (.head _) 5).1
  have yf5 : W2.frozen? ⟨w.heap.size, 5, none⟩ = false := (H2.out.c (.head _) 5).2
  have y6 : W2.cell? ⟨w.heap.size, 6, none⟩ = some (.int .u64 0) := (H2.out.c (.head _) 6).1
  have yf6 : W2.frozen? ⟨w.heap.size, 6, none⟩ = false := (H2.out.c (.head _) 6).2
  have y7 : W2.cell? ⟨w.heap.size, 7, none⟩ = some (.slice none 0 0) := (H2.out.c (.head _) 7).1
  have yf7 : W2.frozen? ⟨w.heap.size, 7, none⟩ = false := (H2.out.c (.head _) 7).2
  have H4 : Hid _ := (Cr.put (pre := []) (Cr.put (pre := []) (Cr.put (pre := []) (Cr.put (pre := []) (Cr.put (pre := []) (Cr.put (pre := []) (Cr.put (pre := []) (Cr.put (pre := []) H2.out 0 (.bool false) (cs' := #[.bool false, .int .u32 0, .int .u64 0, .int .u16 0, .int .u16 0, .int .u64 0, .int .u64 0, .slice none 0 0]) rfl) 1 (.int .u32 0) (cs' := #[.bool false, .int .u32 0, .int .u64 0, .int .u16 0, .int .u16 0, .int .u64 0, .int .u64 0, .slice none 0 0]) rfl) 2 (.int .u64 0) (cs' := #[.bool false, .int .u32 0, .int .u64 0, .int .u16 0, .int .u16 0, .int .u64 0, .int .u64 0, .slice none 0 0]) rfl) 3 (.int .u16 0) (cs' := #[.bool false, .int .u32 0, .int .u64 0, .int .u16 0, .int .u16 0, .int .u64 0, .int .u64 0, .slice none 0 0]) rfl) 4 (.int .u16 0) (cs' := #[.bool false, .int .u32 0, .int .u64 0, .int .u16 0, .int .u16 0, .int .u64 0, .int .u64 0, .slice none 0 0]) rfl) 5 (.int .u64 0) (cs' := #[.bool false, .int .u32 0, .int .u64 0, .int .u16 0, .int .u16 0, .int .u64 0, .int .u64 0, .slice none 0 0]) rfl) 6 (.int .u64 0) (cs' := #[.bool false, .int .u32 0, .int .u64 0, .int .u16 0, .int .u16 0, .int .u64 0, .int .u64 0, .slice none 0 0]) rfl) 7 (.slice none 0 0) (cs' := #[.bool false, .int .u32 0, .int .u64 0, .int .u16 0, .int .u16 0, .int .u64 0, .int .u64 0, .slice none 0 0]) rfl)
  clear H2
  go_wp2
  exact bodyPost_ret (results_cell_tmp1 rfl _ _ (w.heap.size) 103 #[.bool false, .int .u32 0, .int .u64 0, .int .u16 0, .int .u16 0, .int .u64 0, .int .u64 0, .slice none 0 0] (0, 0) _ rfl (H4.out.box _ (.head _)).1 Try.underlying103 rfl inf_47) rfl ⟨false, 0, 0, 0, 0, 0, 0, [], 0, 0, l, _, none, 0, rfl, hres, rfl, H4.out.inb, H4.out.act, H4.out.row, H4.out.rn⟩
set_option maxHeartbeats 4000000 in
theorem rrf_s2 {w : World} {B b : Nat} {v : Value} {rm ov : Nat} {l : List Nat} (h : RIn w B b v rm ov l) (m : Nat) (hm : m < 4294967296) (hs : ov = 0 ∧ 4 ≤ l.length) (hx : vl l 0 4 = 1732535960) (hs2 : ov = 0 ∧ 16 ≤ l.length) (x1 x2 : Nat) (hx1 : vl l 4 4 = x1) (hx2 : vl l 8 8 = x2) (b1 : x1 < 4294967296) (b2 : x2 < 18446744073709551616) (hres : cutOf ansZ ov l (ansD m false l) = ((false, x1, x2, 0, 0, 0, 0, []), 1, l.drop 16)) :
    Calls Try.prog 47 #[.pointer (some ⟨b, 0, none⟩), .int .u32 m, .bool false] w fun e w' => ∃ (st : Bool) (x1 : Nat) (x2 : Nat) (x3 : Nat) (x4 : Nat) (x5 : Nat) (x6 : Nat) (d : List Nat) (dn cu : Nat) (l' : List Nat) (v' : Value) (ao2 : Option Addr) (cap2 : Nat), e = .returned (.tuple #[.agg #[.bool st, .int .u32 x1, .int .u64 x2, .int .u16 x3, .int .u16 x4, .int .u64 x5, .int .u64 x6, .slice ao2 dn cap2], .int .i64 cu]) ∧ cutOf ansZ ov l (ansD m false l) = ((st, x1, x2, x3, x4, x5, x6, d), cu, l') ∧ d.length = dn ∧ RIn w' B b v' rm ov l' ∧ RAct w w' b v v' ∧ w'.ownsRow w.heap.size 5 1 (.slice ao2 dn cap2) dn (d.map bv) ∧ ∀ g, (Value.slice ao2 dn cap2).ownBlock = some g → v'.ownBlock ≠ some g := by
  replace hres : Hid _ := hres
  have h5 : 103 ≠ 5 := by decide
  obtain ⟨W0, hW0⟩ : ∃ W0, W0 = w.alloc (.cells #[.bool false, .int .u32 0, .int .u64 0, .int .u16 0, .int .u16 0, .int .u64 0, .int .u64 0, .slice none 0 0] 103) := ⟨_, rfl⟩
  have hC0 := (Cr.start h).alloc #[.bool false, .int .u32 0, .int .u64 0, .int .u16 0, .int .u16 0, .int .u64 0, .int .u64 0, .slice none 0 0] 103 h5
  rw [← hW0] at hC0
  have H0 : Hid _ := hC0
  clear hC0
  clear h
  go_enter Try.func47, Try.ntmps47
  have HA1 : Hid _ := hasT H0.out.inb (4) hs
  go_wp2_with fail
  rw [← hW0]
  clear hW0
  refine Calls.mono HA1.out ?_
  rintro e Wn ⟨rfl, hw⟩
  rw [hw]; clear hw Wn HA1
  have HA2 : Hid _ := uRx H0.out.inb 0 4 (by have := hs.2; omega) (by decide) (by decide) hx
  go_wp2_with fail
  refine Calls.mono HA2.out ?_
  rintro e W2 ⟨rfl, hb⟩
  have H2 : Hid _ := H0.out.later hb
  clear hb H0 HA2
  have HA3 : Hid _ := hasT H2.out.inb (16) hs2
  go_wp2_with fail
  refine Calls.mono HA3.out ?_
  rintro e Wn ⟨rfl, hw⟩
  rw [hw]; clear hw Wn HA3
  have HA4 : Hid _ := uRx H2.out.inb 4 4 (by have := hs2.2; omega) (by decide) (by decide) hx1
  go_wp2_with fail
  refine Calls.mono HA4.out ?_
  rintro e W4 ⟨rfl, hb⟩
  have H4 : Hid _ := H2.out.later hb
  clear hb H2 HA4
  have HA5 : Hid _ := uRx H4.out.inb 8 8 (by have := hs2.2; omega) (by decide) (by decide) hx2
  go_wp2_with fail
  refine Calls.mono HA5.out ?_
  rintro e W5 ⟨rfl, hb⟩
  have H5 : Hid _ := H4.out.later hb
  clear hb H4 HA5
  have hq := H5.out.alloc #[.int .u32 x1, .int .u64 x2] 66 (by decide)
  generalize hW6 : W5.alloc (.cells #[.int .u32 x1, .int .u64 x2] 66) = W6 at hq
  have H6 : Hid _ := hq
  clear hq H5
  have HW6 : Hid _ := hW6
  clear hW6
  have HA7 : Hid _ := cutR H6.out.inb 16 (by have := hs2.2; omega)
  go_wp2_with fail
  rw [show _ = _ from HW6.out]
  clear HW6
  refine Calls.mono HA7.out ?_
  rintro e W7 ⟨ao1, cap1, vn7, rfl, hI, hA, hr, hn⟩
  have hd7 : (l.take (16)).length = 16 := by rw [List.length_take]; exact Nat.min_eq_left (by have := hs2.2; omega)
  have H7 : Hid _ := H6.out.told2 (d' := l.take (16)) hI hA (by rw [hd7]; exact hr) hn
  clear hI hA hr hn H6 HA7
  have HN : Hid _ := H7.out.nodata
  clear H7
  have q0 : W7.cell? ⟨W5.heap.size, 0, none⟩ = some (.int .u32 x1) := (HN.out.c (.head _) 0).1
  have q1 : W7.cell? ⟨W5.heap.size, 1, none⟩ = some (.int .u64 x2) := (HN.out.c (.head _) 1).1
  have y0 : W7.cell? ⟨w.heap.size, 0, none⟩ = some (.bool false) := (HN.out.c (.tail _ (.head _)) 0).1
  have yf0 : W7.frozen? ⟨w.heap.size, 0, none⟩ = false := (HN.out.c (.tail _ (.head _)) 0).2
  have y1 : W7.cell? ⟨w.heap.size, 1, none⟩ = some (.int .u32 0) := (HN.out.c (.tail _ (.head _)) 1).1
  have yf1 : W7.frozen? ⟨w.heap.size, 1, none⟩ = false := (HN.out.c (.tail _ (.head _)) 1).2
  have y2 : W7.cell? ⟨w.heap.size, 2, none⟩ = some (.int .u64 0) := (HN.out.c (.tail _ (.head _)) 2).1
  have yf2 : W7.frozen? ⟨w.heap.size, 2, none⟩ = false := (HN.out.c (.tail _ (.head _)) 2).2
  have y3 : W7.cell? ⟨w.heap.size, 3, none⟩ = some (.int .u16 0) := (HN.out.c (.tail _ (.head _)) 3).1
  have yf3 : W7.frozen? ⟨w.heap.size, 3, none⟩ = false := (HN.out.c (.tail _ (.head _)) 3).2
  have y4 : W7.cell? ⟨w.heap.size, 4, none⟩ = some (.int .u16 0) := (HN.out.c (.tail _ (.head _)) 4).1
  have yf4 : W7.frozen? ⟨w.heap.size, 4, none⟩ = false := (HN.out.c (.tail _ (.head _)) 4).2
  have y5 : W7.cell? ⟨w.heap.size, 5, none⟩ = some (.int .u64 0) := (HN.out.c (.tail _ (.head _)) 5).1
  have yf5 : W7.frozen? ⟨w.heap.size, 5, none⟩ = false := (HN.out.c (.tail _ (.head _)) 5).2
  have y6 : W7.cell? ⟨w.heap.size, 6, none⟩ = some (.int .u64 0) := (HN.out.c (.tail _ (.head _)) 6).1
  have yf6 : W7.frozen? ⟨w.heap.size, 6, none⟩ = false := (HN.out.c (.tail _ (.head _)) 6).2
  have y7 : W7.cell? ⟨w.heap.size, 7, none⟩ = some (.slice none 0 0) := (HN.out.c (.tail _ (.head _)) 7).1
  have yf7 : W7.frozen? ⟨w.heap.size, 7, none⟩ = false := (HN.out.c (.tail _ (.head _)) 7).2
  have H8 : Hid _ := (Cr.put (pre := [(W5.heap.size, #[.int .u32 x1, .int .u64 x2], 66)]) (Cr.put (pre := [(W5.heap.size, #[.int .u32 x1, .int .u64 x2], 66)]) (Cr.put (pre := [(W5.heap.size, #[.int .u32 x1, .int .u64 x2], 66)]) (Cr.put (pre := [(W5.heap.size, #[.int .u32 x1, .int .u64 x2], 66)]) (Cr.put (pre := [(W5.heap.size, #[.int .u32 x1, .int .u64 x2], 66)]) (Cr.put (pre := [(W5.heap.size, #[.int .u32 x1, .int .u64 x2], 66)]) (Cr.put (pre := [(W5.heap.size, #[.int .u32 x1, .int .u64 x2], 66)]) (Cr.put (pre := [(W5.heap.size, #[.int .u32 x1, .int .u64 x2], 66)]) HN.out 0 (.bool false) (cs' := #[.bool false, .int .u32 0, .int .u64 0, .int .u16 0, .int .u16 0, .int .u64 0, .int .u64 0, .slice none 0 0]) rfl) 1 (.int .u32 x1) (cs' := #[.bool false, .int .u32 x1, .int .u64 0, .int .u16 0, .int .u16 0, .int .u64 0, .int .u64 0, .slice none 0 0]) rfl) 2 (.int .u64 x2) (cs' := #[.bool false, .int .u32 x1, .int .u64 x2, .int .u16 0, .int .u16 0, .int .u64 0, .int .u64 0, .slice none 0 0]) rfl) 3 (.int .u16 0) (cs' := #[.bool false, .int .u32 x1, .int .u64 x2, .int .u16 0, .int .u16 0, .int .u64 0, .int .u64 0, .slice none 0 0]) rfl) 4 (.int .u16 0) (cs' := #[.bool false, .int .u32 x1, .int .u64 x2, .int .u16 0, .int .u16 0, .int .u64 0, .int .u64 0, .slice none 0 0]) rfl) 5 (.int .u64 0) (cs' := #[.bool false, .int .u32 x1, .int .u64 x2, .int .u16 0, .int .u16 0, .int .u64 0, .int .u64 0, .slice none 0 0]) rfl) 6 (.int .u64 0) (cs' := #[.bool false, .int .u32 x1, .int .u64 x2, .int .u16 0, .int .u16 0, .int .u64 0, .int .u64 0, .slice none 0 0]) rfl) 7 (.slice none 0 0) (cs' := #[.bool false, .int .u32 x1, .int .u64 x2, .int .u16 0, .int .u16 0, .int .u64 0, .int .u64 0, .slice none 0 0]) rfl)
  clear HN
  go_wp2
  exact bodyPost_ret (results_cell_tmp1 rfl _ _ (w.heap.size) 103 #[.bool false, .int .u32 x1, .int .u64 x2, .int .u16 0, .int .u16 0, .int .u64 0, .int .u64 0, .slice none 0 0] (0, 0) _ rfl (H8.out.box _ (.tail _ (.head _))).1 Try.underlying103 rfl inf_47) rfl ⟨false, x1, x2, 0, 0, 0, 0, [], 0, 1, l.drop 16, _, none, 0, rfl, hres, rfl, H8.out.inb, H8.out.act, H8.out.row, H8.out.rn⟩
set_option maxHeartbeats 4000000 in
theorem rrf_b {w : World} {B b : Nat} {v : Value} {rm ov : Nat} {l : List Nat} (h : RIn w B b v rm ov l) (m : Nat) (hm : m < 4294967296) (hs : ov = 0 ∧ 4 ≤ l.length) (mg : Nat) (hmg : vl l 0 4 = mg) (hmgb : mg < 4294967296) (hx : ((mg : Int) == 1732535960) = false) (hy : ((mg : Int) != 1720595439) = true) (hres : cutOf ansZ ov l (ansD m false l) = ((false, 0, 0, 0, 0, 0, 0, []), 2, l)) :
    Calls Try.prog 47 #[.pointer (some ⟨b, 0, none⟩), .int .u32 m, .bool false] w fun e w' => ∃ (st : Bool) (x1 : Nat) (x2 : Nat) (x3 : Nat) (x4 : Nat) (x5 : Nat) (x6 : Nat) (d : List Nat) (dn cu : Nat) (l' : List Nat) (v' : Value) (ao2 : Option Addr) (cap2 : Nat), e = .returned (.tuple #[.agg #[.bool st, .int .u32 x1, .int .u64 x2, .int .u16 x3, .int .u16 x4, .int .u64 x5, .int .u64 x6, .slice ao2 dn cap2], .int .i64 cu]) ∧ cutOf ansZ ov l (ansD m false l) = ((st, x1, x2, x3, x4, x5, x6, d), cu, l') ∧ d.length = dn ∧ RIn w' B b v' rm ov l' ∧ RAct w w' b v v' ∧ w'.ownsRow w.heap.size 5 1 (.slice ao2 dn cap2) dn (d.map bv) ∧ ∀ g, (Value.slice ao2 dn cap2).ownBlock = some g → v'.ownBlock ≠ some g := by
  replace hres : Hid _ := hres
  have h5 : 103 ≠ 5 := by decide
  obtain ⟨W0, hW0⟩ : ∃ W0, W0 = w.alloc (.cells #[.bool false, .int .u32 0, .int .u64 0, .int .u16 0, .int .u16 0, .int .u64 0, .int .u64 0, .slice none 0 0] 103) := ⟨_, rfl⟩
  have hC0 := (Cr.start h).alloc #[.bool false, .int .u32 0, .int .u64 0, .int .u16 0, .int .u16 0, .int .u64 0, .int .u64 0, .slice none 0 0] 103 h5
  rw [← hW0] at hC0
  have H0 : Hid _ := hC0
  clear hC0
  clear h
  go_enter Try.func47, Try.ntmps47
  have HA1 : Hid _ := hasT H0.out.inb (4) hs
  go_wp2_with fail
  rw [← hW0]
  clear hW0
  refine Calls.mono HA1.out ?_
  rintro e Wn ⟨rfl, hw⟩
  rw [hw]; clear hw Wn HA1
  have HA2 : Hid _ := uRx H0.out.inb 0 4 (by have := hs.2; omega) (by decide) (by decide) hmg
  go_wp2_with fail
  refine Calls.mono HA2.out ?_
  rintro e W2 ⟨rfl, hb⟩
  have H2 : Hid _ := H0.out.later hb
  clear hb H0 HA2
  have y0 : W2.cell? ⟨w.heap.size, 0, none⟩ = some (.bool false) := (H2.out.c (.head _) 0).1
  have yf0 : W2.frozen? ⟨w.heap.size, 0, none⟩ = false := (H2.out.c (.head _) 0).2
  have y1 : W2.cell? ⟨w.heap.size, 1, none⟩ = some (.int .u32 0) := (H2.out.c (.head _) 1).1
  have yf1 : W2.frozen? ⟨w.heap.size, 1, none⟩ = false := (H2.out.c (.head _) 1).2
  have y2 : W2.cell? ⟨w.heap.size, 2, none⟩ = some (.int .u64 0) := (H2.out.c (.head _) 2).1
  have yf2 : W2.frozen? ⟨w.heap.size, 2, none⟩ = false := (H2.out.c (.head _) 2).2
  have y3 : W2.cell? ⟨w.heap.size, 3, none⟩ = some (.int .u16 0) := (H2.out.c (.head _) 3).1
  have yf3 : W2.frozen? ⟨w.heap.size, 3, none⟩ = false := (H2.out.c (.head _) 3).2
  have y4 : W2.cell? ⟨w.heap.size, 4, none⟩ = some (.int .u16 0) := (H2.out.c (.head _) 4).1
  have yf4 : W2.frozen? ⟨w.heap.size, 4, none⟩ = false := (H2.out.c (.head _) 4).2
  have y5 : W2.cell? ⟨w.heap.size, 5, none⟩ = some (.int .u64 0) := (H2.out.c (.head _) 5).1
  have yf5 : W2.frozen? ⟨w.heap.size, 5, none⟩ = false := (H2.out.c (.head _) 5).2
  have y6 : W2.cell? ⟨w.heap.size, 6, none⟩ = some (.int .u64 0) := (H2.out.c (.head _) 6).1
  have yf6 : W2.frozen? ⟨w.heap.size, 6, none⟩ = false := (H2.out.c (.head _) 6).2
  have y7 : W2.cell? ⟨w.heap.size, 7, none⟩ = some (.slice none 0 0) := (H2.out.c (.head _) 7).1
  have yf7 : W2.frozen? ⟨w.heap.size, 7, none⟩ = false := (H2.out.c (.head _) 7).2
  have H3 : Hid _ := (Cr.put (pre := []) (Cr.put (pre := []) (Cr.put (pre := []) (Cr.put (pre := []) (Cr.put (pre := []) (Cr.put (pre := []) (Cr.put (pre := []) (Cr.put (pre := []) H2.out 0 (.bool false) (cs' := #[.bool false, .int .u32 0, .int .u64 0, .int .u16 0, .int .u16 0, .int .u64 0, .int .u64 0, .slice none 0 0]) rfl) 1 (.int .u32 0) (cs' := #[.bool false, .int .u32 0, .int .u64 0, .int .u16 0, .int .u16 0, .int .u64 0, .int .u64 0, .slice none 0 0]) rfl) 2 (.int .u64 0) (cs' := #[.bool false, .int .u32 0, .int .u64 0, .int .u16 0, .int .u16 0, .int .u64 0, .int .u64 0, .slice none 0 0]) rfl) 3 (.int .u16 0) (cs' := #[.bool false, .int .u32 0, .int .u64 0, .int .u16 0, .int .u16 0, .int .u64 0, .int .u64 0, .slice none 0 0]) rfl) 4 (.int .u16 0) (cs' := #[.bool false, .int .u32 0, .int .u64 0, .int .u16 0, .int .u16 0, .int .u64 0, .int .u64 0, .slice none 0 0]) rfl) 5 (.int .u64 0) (cs' := #[.bool false, .int .u32 0, .int .u64 0, .int .u16 0, .int .u16 0, .int .u64 0, .int .u64 0, .slice none 0 0]) rfl) 6 (.int .u64 0) (cs' := #[.bool false, .int .u32 0, .int .u64 0, .int .u16 0, .int .u16 0, .int .u64 0, .int .u64 0, .slice none 0 0]) rfl) 7 (.slice none 0 0) (cs' := #[.bool false, .int .u32 0, .int .u64 0, .int .u16 0, .int .u16 0, .int .u64 0, .int .u64 0, .slice none 0 0]) rfl)
  clear H2
  go_wp2
  exact bodyPost_ret (results_cell_tmp1 rfl _ _ (w.heap.size) 103 #[.bool false, .int .u32 0, .int .u64 0, .int .u16 0, .int .u16 0, .int .u64 0, .int .u64 0, .slice none 0 0] (0, 0) _ rfl (H3.out.box _ (.head _)).1 Try.underlying103 rfl inf_47) rfl ⟨false, 0, 0, 0, 0, 0, 0, [], 0, 2, l, _, none, 0, rfl, hres, rfl, H3.out.inb, H3.out.act, H3.out.row, H3.out.rn⟩
set_option maxHeartbeats 4000000 in
theorem rrf_c0 {w : World} {B b : Nat} {v : Value} {rm ov : Nat} {l : List Nat} (h : RIn w B b v rm ov l) (m : Nat) (hm : m < 4294967296) (hs : ov = 0 ∧ 4 ≤ l.length) (hx : vl l 0 4 = 1720595439) (hs2 : ¬ (ov = 0 ∧ 20 ≤ l.length)) (hres : cutOf ansZ ov l (ansD m false l) = ((false, 0, 0, 0, 0, 0, 0, []), 0, l)) :
    Calls Try.prog 47 #[.pointer (some ⟨b, 0, none⟩), .int .u32 m, .bool false] w fun e w' => ∃ (st : Bool) (x1 : Nat) (x2 : Nat) (x3 : Nat) (x4 : Nat) (x5 : Nat) (x6 : Nat) (d : List Nat) (dn cu : Nat) (l' : List Nat) (v' : Value) (ao2 : Option Addr) (cap2 : Nat), e = .returned (.tuple #[.agg #[.bool st, .int .u32 x1, .int .u64 x2, .int .u16 x3, .int .u16 x4, .int .u64 x5, .int .u64 x6, .slice ao2 dn cap2], .int .i64 cu]) ∧ cutOf ansZ ov l (ansD m false l) = ((st, x1, x2, x3, x4, x5, x6, d), cu, l') ∧ d.length = dn ∧ RIn w' B b v' rm ov l' ∧ RAct w w' b v v' ∧ w'.ownsRow w.heap.size 5 1 (.slice ao2 dn cap2) dn (d.map bv) ∧ ∀ g, (Value.slice ao2 dn cap2).ownBlock = some g → v'.ownBlock ≠ some g := by
  replace hres : Hid _ := hres
  have h5 : 103 ≠ 5 := by decide
  obtain ⟨W0, hW0⟩ : ∃ W0, W0 = w.alloc (.cells #[.bool false, .int .u32 0, .int .u64 0, .int .u16 0, .int .u16 0, .int .u64 0, .int .u64 0, .slice none 0 0] 103) := ⟨_, rfl⟩
  have hC0 := (Cr.start h).alloc #[.bool false, .int .u32 0, .int .u64 0, .int .u16 0, .int .u16 0, .int .u64 0, .int .u64 0, .slice none 0 0] 103 h5
  rw [← hW0] at hC0
  have H0 : Hid _ := hC0
  clear hC0
  clear h
  go_enter Try.func47, Try.ntmps47
  have HA1 : Hid _ := hasT H0.out.inb (4) hs
  go_wp2_with fail
  rw [← hW0]
  clear hW0
  refine Calls.mono HA1.out ?_
  rintro e Wn ⟨rfl, hw⟩
  rw [hw]; clear hw Wn HA1
  have HA2 : Hid _ := uRx H0.out.inb 0 4 (by have := hs.2; omega) (by decide) (by decide) hx
  go_wp2_with fail
  refine Calls.mono HA2.out ?_
  rintro e W2 ⟨rfl, hb⟩
  have H2 : Hid _ := H0.out.later hb
  clear hb H0 HA2
  have HA3 : Hid _ := hasF H2.out.inb (20) hs2
  go_wp2_with fail
  refine Calls.mono HA3.out ?_
  rintro e Wn ⟨rfl, hw⟩
  rw [hw]; clear hw Wn HA3
  have y0 : W2.cell? ⟨w.heap.size, 0, none⟩ = some (.bool false) := (H2.out.c (.head _) 0).1
  have yf0 : W2.frozen? ⟨w.heap.size, 0, none⟩ = false := (H2.out.c (.head _) 0).2
  have y1 : W2.cell? ⟨w.heap.size, 1, none⟩ = some (.int .u32 0) := (H2.out.c (.head _) 1).1
  have yf1 : W2.frozen? ⟨w.heap.size, 1, none⟩ = false := (H2.out.c (.head _) 1).2
  have y2 : W2.cell? ⟨w.heap.size, 2, none⟩ = some (.int .u64 0) := (H2.out.c (.head _) 2).1
  have yf2 : W2.frozen? ⟨w.heap.size, 2, none⟩ = false := (H2.out.c (.head _) 2).2
  have y3 : W2.cell? ⟨w.heap.size, 3, none⟩ = some (.int .u16 0) := (H2.out.c (.head _) 3).1
  have yf3 : W2.frozen? ⟨w.heap.size, 3, none⟩ = false := (H2.out.c (.head _) 3).2
  have y4 : W2.cell? ⟨w.heap.size, 4, none⟩ = some (.int .u16 0) := (H2.out.c (.head _) 4).1
  have yf4 : W2.frozen? ⟨w.heap.size, 4, none⟩ = false := (H2.out.c (.head _) 4).2
  have y5 : W2.cell? ⟨w.heap.size, 5, none⟩ = some (.int .u64 0) := (H2.out.c (.head _) 5).1
  have yf5 : W2.frozen? ⟨w.heap.size, 5, none⟩ = false := (H2.out.c (.head _) 5).2
  have y6 : W2.cell? ⟨w.heap.size, 6, none⟩ = some (.int .u64 0) := (H2.out.c (.head _) 6).1
  have yf6 : W2.frozen? ⟨w.heap.size, 6, none⟩ = false := (H2.out.c (.head _) 6).2
  have y7 : W2.cell? ⟨w.heap.size, 7, none⟩ = some (.slice none 0 0) := (H2.out.c (.head _) 7).1
  have yf7 : W2.frozen? ⟨w.heap.size, 7, none⟩ = false := (H2.out.c (.head _) 7).2
  have H4 : Hid _ := (Cr.put (pre := []) (Cr.put (pre := []) (Cr.put (pre := []) (Cr.put (pre := []) (Cr.put (pre := []) (Cr.put (pre := []) (Cr.put (pre := []) (Cr.put (pre := []) H2.out 0 (.bool false) (cs' := #[.bool false, .int .u32 0, .int .u64 0, .int .u16 0, .int .u16 0, .int .u64 0, .int .u64 0, .slice none 0 0]) rfl) 1 (.int .u32 0) (cs' := #[.bool false, .int .u32 0, .int .u64 0, .int .u16 0, .int .u16 0, .int .u64 0, .int .u64 0, .slice none 0 0]) rfl) 2 (.int .u64 0) (cs' := #[.bool false, .int .u32 0, .int .u64 0, .int .u16 0, .int .u16 0, .int .u64 0, .int .u64 0, .slice none 0 0]) rfl) 3 (.int .u16 0) (cs' := #[.bool false, .int .u32 0, .int .u64 0, .int .u16 0, .int .u16 0, .int .u64 0, .int .u64 0, .slice none 0 0]) rfl) 4 (.int .u16 0) (cs' := #[.bool false, .int .u32 0, .int .u64 0, .int .u16 0, .int .u16 0, .int .u64 0, .int .u64 0, .slice none 0 0]) rfl) 5 (.int .u64 0) (cs' := #[.bool false, .int .u32 0, .int .u64 0, .int .u16 0, .int .u16 0, .int .u64 0, .int .u64 0, .slice none 0 0]) rfl) 6 (.int .u64 0) (cs' := #[.bool false, .int .u32 0, .int .u64 0, .int .u16 0, .int .u16 0, .int .u64 0, .int .u64 0, .slice none 0 0]) rfl) 7 (.slice none 0 0) (cs' := #[.bool false, .int .u32 0, .int .u64 0, .int .u16 0, .int .u16 0, .int .u64 0, .int .u64 0, .slice none 0 0]) rfl)
  clear H2
  go_wp2
  exact bodyPost_ret (results_cell_tmp1 rfl _ _ (w.heap.size) 103 #[.bool false, .int .u32 0, .int .u64 0, .int .u16 0, .int .u16 0, .int .u64 0, .int .u64 0, .slice none 0 0] (0, 0) _ rfl (H4.out.box _ (.head _)).1 Try.underlying103 rfl inf_47) rfl ⟨false, 0, 0, 0, 0, 0, 0, [], 0, 0, l, _, none, 0, rfl, hres, rfl, H4.out.inb, H4.out.act, H4.out.row, H4.out.rn⟩
set_option maxHeartbeats 4000000 in
theorem rrf_c1 {w : World} {B b : Nat} {v : Value} {rm ov : Nat} {l : List Nat} (h : RIn w B b v rm ov l) (m : Nat) (hm : m < 4294967296) (hs : ov = 0 ∧ 4 ≤ l.length) (hx : vl l 0 4 = 1720595439) (hs2 : ov = 0 ∧ 20 ≤ l.length) (k : Nat) (hk : vl l 16 4 = k) (hkb : k < 4294967296) (hmk : (m : Int) < (k : Int)) (hres : cutOf ansZ ov l (ansD m false l) = ((false, 0, 0, 0, 0, 0, 0, []), 3, l)) :
    Calls Try.prog 47 #[.pointer (some ⟨b, 0, none⟩), .int .u32 m, .bool false] w fun e w' => ∃ (st : Bool) (x1 : Nat) (x2 : Nat) (x3 : Nat) (x4 : Nat) (x5 : Nat) (x6 : Nat) (d : List Nat) (dn cu : Nat) (l' : List Nat) (v' : Value) (ao2 : Option Addr) (cap2 : Nat), e = .returned (.tuple #[.agg #[.bool st, .int .u32 x1, .int .u64 x2, .int .u16 x3, .int .u16 x4, .int .u64 x5, .int .u64 x6, .slice ao2 dn cap2], .int .i64 cu]) ∧ cutOf ansZ ov l (ansD m false l) = ((st, x1, x2, x3, x4, x5, x6, d), cu, l') ∧ d.length = dn ∧ RIn w' B b v' rm ov l' ∧ RAct w w' b v v' ∧ w'.ownsRow w.heap.size 5 1 (.slice ao2 dn cap2) dn (d.map bv) ∧ ∀ g, (Value.slice ao2 dn cap2).ownBlock = some g → v'.ownBlock ≠ some g := by
  replace hres : Hid _ := hres
  have h5 : 103 ≠ 5 := by decide
  obtain ⟨W0, hW0⟩ : ∃ W0, W0 = w.alloc (.cells #[.bool false, .int .u32 0, .int .u64 0, .int .u16 0, .int .u16 0, .int .u64 0, .int .u64 0, .slice none 0 0] 103) := ⟨_, rfl⟩
  have hC0 := (Cr.start h).alloc #[.bool false, .int .u32 0, .int .u64 0, .int .u16 0, .int .u16 0, .int .u64 0, .int .u64 0, .slice none 0 0] 103 h5
  rw [← hW0] at hC0
  have H0 : Hid _ := hC0
  clear hC0
  clear h
  go_enter Try.func47, Try.ntmps47
  have HA1 : Hid _ := hasT H0.out.inb (4) hs
  go_wp2_with fail
  rw [← hW0]
  clear hW0
  refine Calls.mono HA1.out ?_
  rintro e Wn ⟨rfl, hw⟩
  rw [hw]; clear hw Wn HA1
  have HA2 : Hid _ := uRx H0.out.inb 0 4 (by have := hs.2; omega) (by decide) (by decide) hx
  go_wp2_with fail
  refine Calls.mono HA2.out ?_
  rintro e W2 ⟨rfl, hb⟩
  have H2 : Hid _ := H0.out.later hb
  clear hb H0 HA2
  have HA3 : Hid _ := hasT H2.out.inb (20) hs2
  go_wp2_with fail
  refine Calls.mono HA3.out ?_
  rintro e Wn ⟨rfl, hw⟩
  rw [hw]; clear hw Wn HA3
  have HA4 : Hid _ := uRx H2.out.inb 16 4 (by have := hs2.2; omega) (by decide) (by decide) hk
  go_wp2_with fail
  refine Calls.mono HA4.out ?_
  rintro e W4 ⟨rfl, hb⟩
  have H4 : Hid _ := H2.out.later hb
  clear hb H2 HA4
  have y0 : W4.cell? ⟨w.heap.size, 0, none⟩ = some (.bool false) := (H4.out.c (.head _) 0).1
  have yf0 : W4.frozen? ⟨w.heap.size, 0, none⟩ = false := (H4.out.c (.head _) 0).2
  have y1 : W4.cell? ⟨w.heap.size, 1, none⟩ = some (.int .u32 0) := (H4.out.c (.head _) 1).1
  have yf1 : W4.frozen? ⟨w.heap.size, 1, none⟩ = false := (H4.out.c (.head _) 1).2
  have y2 : W4.cell? ⟨w.heap.size, 2, none⟩ = some (.int .u64 0) := (H4.out.c (.head _) 2).1
  have yf2 : W4.frozen? ⟨w.heap.size, 2, none⟩ = false := (H4.out.c (.head _) 2).2
  have y3 : W4.cell? ⟨w.heap.size, 3, none⟩ = some (.int .u16 0) := (H4.out.c (.head _) 3).1
  have yf3 : W4.frozen? ⟨w.heap.size, 3, none⟩ = false := (H4.out.c (.head _) 3).2
  have y4 : W4.cell? ⟨w.heap.size, 4, none⟩ = some (.int .u16 0) := (H4.out.c (.head _) 4).1
  have yf4 : W4.frozen? ⟨w.heap.size, 4, none⟩ = false := (H4.out.c (.head _) 4).2
  have y5 : W4.cell? ⟨w.heap.size, 5, none⟩ = some (.int .u64 0) := (H4.out.c (.head _) 5).1
  have yf5 : W4.frozen? ⟨w.heap.size, 5, none⟩ = false := (H4.out.c (.head _) 5).2
  have y6 : W4.cell? ⟨w.heap.size, 6, none⟩ = some (.int .u64 0) := (H4.out.c (.head _) 6).1
  have yf6 : W4.frozen? ⟨w.heap.size, 6, none⟩ = false := (H4.out.c (.head _) 6).2
  have y7 : W4.cell? ⟨w.heap.size, 7, none⟩ = some (.slice none 0 0) := (H4.out.c (.head _) 7).1
  have yf7 : W4.frozen? ⟨w.heap.size, 7, none⟩ = false := (H4.out.c (.head _) 7).2
  have H5 : Hid _ := (Cr.put (pre := []) (Cr.put (pre := []) (Cr.put (pre := []) (Cr.put (pre := []) (Cr.put (pre := []) (Cr.put (pre := []) (Cr.put (pre := []) (Cr.put (pre := []) H4.out 0 (.bool false) (cs' := #[.bool false, .int .u32 0, .int .u64 0, .int .u16 0, .int .u16 0, .int .u64 0, .int .u64 0, .slice none 0 0]) rfl) 1 (.int .u32 0) (cs' := #[.bool false, .int .u32 0, .int .u64 0, .int .u16 0, .int .u16 0, .int .u64 0, .int .u64 0, .slice none 0 0]) rfl) 2 (.int .u64 0) (cs' := #[.bool false, .int .u32 0, .int .u64 0, .int .u16 0, .int .u16 0, .int .u64 0, .int .u64 0, .slice none 0 0]) rfl) 3 (.int .u16 0) (cs' := #[.bool false, .int .u32 0, .int .u64 0, .int .u16 0, .int .u16 0, .int .u64 0, .int .u64 0, .slice none 0 0]) rfl) 4 (.int .u16 0) (cs' := #[.bool false, .int .u32 0, .int .u64 0, .int .u16 0, .int .u16 0, .int .u64 0, .int .u64 0, .slice none 0 0]) rfl) 5 (.int .u64 0) (cs' := #[.bool false, .int .u32 0, .int .u64 0, .int .u16 0, .int .u16 0, .int .u64 0, .int .u64 0, .slice none 0 0]) rfl) 6 (.int .u64 0) (cs' := #[.bool false, .int .u32 0, .int .u64 0, .int .u16 0, .int .u16 0, .int .u64 0, .int .u64 0, .slice none 0 0]) rfl) 7 (.slice none 0 0) (cs' := #[.bool false, .int .u32 0, .int .u64 0, .int .u16 0, .int .u16 0, .int .u64 0, .int .u64 0, .slice none 0 0]) rfl)
  clear H4
  go_wp2
  exact bodyPost_ret (results_cell_tmp1 rfl _ _ (w.heap.size) 103 #[.bool false, .int .u32 0, .int .u64 0, .int .u16 0, .int .u16 0, .int .u64 0, .int .u64 0, .slice none 0 0] (0, 0) _ rfl (H5.out.box _ (.head _)).1 Try.underlying103 rfl inf_47) rfl ⟨false, 0, 0, 0, 0, 0, 0, [], 0, 3, l, _, none, 0, rfl, hres, rfl, H5.out.inb, H5.out.act, H5.out.row, H5.out.rn⟩
set_option maxHeartbeats 4000000 in
theorem rrf_c2 {w : World} {B b : Nat} {v : Value} {rm ov : Nat} {l : List Nat} (h : RIn w B b v rm ov l) (m : Nat) (hm : m < 4294967296) (hs : ov = 0 ∧ 4 ≤ l.length) (hx : vl l 0 4 = 1720595439) (hs2 : ov = 0 ∧ 20 ≤ l.length) (k : Nat) (hk : vl l 16 4 = k) (hkb : k < 4294967296) (hmk : ¬ (m : Int) < (k : Int)) (hs3 : ¬ (ov = 0 ∧ 20 + k ≤ l.length)) (hres : cutOf ansZ ov l (ansD m false l) = ((false, 0, 0, 0, 0, 0, 0, []), 0, l)) :
    Calls Try.prog 47 #[.pointer (some ⟨b, 0, none⟩), .int .u32 m, .bool false] w fun e w' => ∃ (st : Bool) (x1 : Nat) (x2 : Nat) (x3 : Nat) (x4 : Nat) (x5 : Nat) (x6 : Nat) (d : List Nat) (dn cu : Nat) (l' : List Nat) (v' : Value) (ao2 : Option Addr) (cap2 : Nat), e = .returned (.tuple #[.agg #[.bool st, .int .u32 x1, .int .u64 x2, .int .u16 x3, .int .u16 x4, .int .u64 x5, .int .u64 x6, .slice ao2 dn cap2], .int .i64 cu]) ∧ cutOf ansZ ov l (ansD m false l) = ((st, x1, x2, x3, x4, x5, x6, d), cu, l') ∧ d.length = dn ∧ RIn w' B b v' rm ov l' ∧ RAct w w' b v v' ∧ w'.ownsRow w.heap.size 5 1 (.slice ao2 dn cap2) dn (d.map bv) ∧ ∀ g, (Value.slice ao2 dn cap2).ownBlock = some g → v'.ownBlock ≠ some g := by
  replace hres : Hid _ := hres
  have h5 : 103 ≠ 5 := by decide
  obtain ⟨W0, hW0⟩ : ∃ W0, W0 = w.alloc (.cells #[.bool false, .int .u32 0, .int .u64 0, .int .u16 0, .int .u16 0, .int .u64 0, .int .u64 0, .slice none 0 0] 103) := ⟨_, rfl⟩
  have hC0 := (Cr.start h).alloc #[.bool false, .int .u32 0, .int .u64 0, .int .u16 0, .int .u16 0, .int .u64 0, .int .u64 0, .slice none 0 0] 103 h5
  rw [← hW0] at hC0
  have H0 : Hid _ := hC0
  clear hC0
  clear h
  go_enter Try.func47, Try.ntmps47
  have HA1 : Hid _ := hasT H0.out.inb (4) hs
  go_wp2_with fail
  rw [← hW0]
  clear hW0
  refine Calls.mono HA1.out ?_
  rintro e Wn ⟨rfl, hw⟩
  rw [hw]; clear hw Wn HA1
  have HA2 : Hid _ := uRx H0.out.inb 0 4 (by have := hs.2; omega) (by decide) (by decide) hx
  go_wp2_with fail
  refine Calls.mono HA2.out ?_
  rintro e W2 ⟨rfl, hb⟩
  have H2 : Hid _ := H0.out.later hb
  clear hb H0 HA2
  have HA3 : Hid _ := hasT H2.out.inb (20) hs2
  go_wp2_with fail
  refine Calls.mono HA3.out ?_
  rintro e Wn ⟨rfl, hw⟩
  rw [hw]; clear hw Wn HA3
  have HA4 : Hid _ := uRx H2.out.inb 16 4 (by have := hs2.2; omega) (by decide) (by decide) hk
  go_wp2_with fail
  refine Calls.mono HA4.out ?_
  rintro e W4 ⟨rfl, hb⟩
  have H4 : Hid _ := H2.out.later hb
  clear hb H2 HA4
  have HA5 : Hid _ := hasFz H4.out.inb (20 + k) (20 + (k : Int)) (by omega) hs3
  go_wp2_with fail
  refine Calls.mono HA5.out ?_
  rintro e Wn ⟨rfl, hw⟩
  rw [hw]; clear hw Wn HA5
  have y0 : W4.cell? ⟨w.heap.size, 0, none⟩ = some (.bool false) := (H4.out.c (.head _) 0).1
  have yf0 : W4.frozen? ⟨w.heap.size, 0, none⟩ = false := (H4.out.c (.head _) 0).2
  have y1 : W4.cell? ⟨w.heap.size, 1, none⟩ = some (.int .u32 0) := (H4.out.c (.head _) 1).1
  have yf1 : W4.frozen? ⟨w.heap.size, 1, none⟩ = false := (H4.out.c (.head _) 1).2
  have y2 : W4.cell? ⟨w.heap.size, 2, none⟩ = some (.int .u64 0) := (H4.out.c (.head _) 2).1
  have yf2 : W4.frozen? ⟨w.heap.size, 2, none⟩ = false := (H4.out.c (.head _) 2).2
  have y3 : W4.cell? ⟨w.heap.size, 3, none⟩ = some (.int .u16 0) := (H4.out.c (.head _) 3).1
  have yf3 : W4.frozen? ⟨w.heap.size, 3, none⟩ = false := (H4.out.c (.head _) 3).2
  have y4 : W4.cell? ⟨w.heap.size, 4, none⟩ = some (.int .u16 0) := (H4.out.c (.head _) 4).1
  have yf4 : W4.frozen? ⟨w.heap.size, 4, none⟩ = false := (H4.out.c (.head _) 4).2
  have y5 : W4.cell? ⟨w.heap.size, 5, none⟩ = some (.int .u64 0) := (H4.out.c (.head _) 5).1
  have yf5 : W4.frozen? ⟨w.heap.size, 5, none⟩ = false := (H4.out.c (.head _) 5).2
  have y6 : W4.cell? ⟨w.heap.size, 6, none⟩ = some (.int .u64 0) := (H4.out.c (.head _) 6).1
  have yf6 : W4.frozen? ⟨w.heap.size, 6, none⟩ = false := (H4.out.c (.head _) 6).2
  have y7 : W4.cell? ⟨w.heap.size, 7, none⟩ = some (.slice none 0 0) := (H4.out.c (.head _) 7).1
  have yf7 : W4.frozen? ⟨w.heap.size, 7, none⟩ = false := (H4.out.c (.head _) 7).2
  have H6 : Hid _ := (Cr.put (pre := []) (Cr.put (pre := []) (Cr.put (pre := []) (Cr.put (pre := []) (Cr.put (pre := []) (Cr.put (pre := []) (Cr.put (pre := []) (Cr.put (pre := []) H4.out 0 (.bool false) (cs' := #[.bool false, .int .u32 0, .int .u64 0, .int .u16 0, .int .u16 0, .int .u64 0, .int .u64 0, .slice none 0 0]) rfl) 1 (.int .u32 0) (cs' := #[.bool false, .int .u32 0, .int .u64 0, .int .u16 0, .int .u16 0, .int .u64 0, .int .u64 0, .slice none 0 0]) rfl) 2 (.int .u64 0) (cs' := #[.bool false, .int .u32 0, .int .u64 0, .int .u16 0, .int .u16 0, .int .u64 0, .int .u64 0, .slice none 0 0]) rfl) 3 (.int .u16 0) (cs' := #[.bool false, .int .u32 0, .int .u64 0, .int .u16 0, .int .u16 0, .int .u64 0, .int .u64 0, .slice none 0 0]) rfl) 4 (.int .u16 0) (cs' := #[.bool false, .int .u32 0, .int .u64 0, .int .u16 0, .int .u16 0, .int .u64 0, .int .u64 0, .slice none 0 0]) rfl) 5 (.int .u64 0) (cs' := #[.bool false, .int .u32 0, .int .u64 0, .int .u16 0, .int .u16 0, .int .u64 0, .int .u64 0, .slice none 0 0]) rfl) 6 (.int .u64 0) (cs' := #[.bool false, .int .u32 0, .int .u64 0, .int .u16 0, .int .u16 0, .int .u64 0, .int .u64 0, .slice none 0 0]) rfl) 7 (.slice none 0 0) (cs' := #[.bool false, .int .u32 0, .int .u64 0, .int .u16 0, .int .u16 0, .int .u64 0, .int .u64 0, .slice none 0 0]) rfl)
  clear H4
  go_wp2
  exact bodyPost_ret (results_cell_tmp1 rfl _ _ (w.heap.size) 103 #[.bool false, .int .u32 0, .int .u64 0, .int .u16 0, .int .u16 0, .int .u64 0, .int .u64 0, .slice none 0 0] (0, 0) _ rfl (H6.out.box _ (.head _)).1 Try.underlying103 rfl inf_47) rfl ⟨false, 0, 0, 0, 0, 0, 0, [], 0, 0, l, _, none, 0, rfl, hres, rfl, H6.out.inb, H6.out.act, H6.out.row, H6.out.rn⟩
set_option maxHeartbeats 4000000 in
theorem rrf_c3 {w : World} {B b : Nat} {v : Value} {rm ov : Nat} {l : List Nat} (h : RIn w B b v rm ov l) (m : Nat) (hm : m < 4294967296) (hs : ov = 0 ∧ 4 ≤ l.length) (hx : vl l 0 4 = 1720595439) (hs2 : ov = 0 ∧ 20 ≤ l.length) (k : Nat) (hk : vl l 16 4 = k) (hkb : k < 4294967296) (hmk : ¬ (m : Int) < (k : Int)) (hs3 : ov = 0 ∧ 20 + k ≤ l.length) (x3 x4 x5 : Nat) (hx3 : vl l 4 2 = x3) (hx4 : vl l 6 2 = x4) (hx5 : vl l 8 8 = x5) (b3 : x3 < 65536) (b4 : x4 < 65536) (b5 : x5 < 18446744073709551616) (hres : cutOf ansZ ov l (ansD m false l) = ((true, 0, 0, x3, x4, x5, 0, (l.drop 20).take k), 1, (l.drop 20).drop k)) :
    Calls Try.prog 47 #[.pointer (some ⟨b, 0, none⟩), .int .u32 m, .bool false] w fun e w' => ∃ (st : Bool) (x1 : Nat) (x2 : Nat) (x3 : Nat) (x4 : Nat) (x5 : Nat) (x6 : Nat) (d : List Nat) (dn cu : Nat) (l' : List Nat) (v' : Value) (ao2 : Option Addr) (cap2 : Nat), e = .returned (.tuple #[.agg #[.bool st, .int .u32 x1, .int .u64 x2, .int .u16 x3, .int .u16 x4, .int .u64 x5, .int .u64 x6, .slice ao2 dn cap2], .int .i64 cu]) ∧ cutOf ansZ ov l (ansD m false l) = ((st, x1, x2, x3, x4, x5, x6, d), cu, l') ∧ d.length = dn ∧ RIn w' B b v' rm ov l' ∧ RAct w w' b v v' ∧ w'.ownsRow w.heap.size 5 1 (.slice ao2 dn cap2) dn (d.map bv) ∧ ∀ g, (Value.slice ao2 dn cap2).ownBlock = some g → v'.ownBlock ≠ some g := by
  replace hres : Hid _ := hres
  have h5 : 103 ≠ 5 := by decide
  obtain ⟨W0, hW0⟩ : ∃ W0, W0 = w.alloc (.cells #[.bool false, .int .u32 0, .int .u64 0, .int .u16 0, .int .u16 0, .int .u64 0, .int .u64 0, .slice none 0 0] 103) := ⟨_, rfl⟩
  have hC0 := (Cr.start h).alloc #[.bool false, .int .u32 0, .int .u64 0, .int .u16 0, .int .u16 0, .int .u64 0, .int .u64 0, .slice none 0 0] 103 h5
  rw [← hW0] at hC0
  have H0 : Hid _ := hC0
  clear hC0
  clear h
  go_enter Try.func47, Try.ntmps47
  have HA1 : Hid _ := hasT H0.out.inb (4) hs
  go_wp2_with fail
  rw [← hW0]
  clear hW0
  refine Calls.mono HA1.out ?_
  rintro e Wn ⟨rfl, hw⟩
  rw [hw]; clear hw Wn HA1
  have HA2 : Hid _ := uRx H0.out.inb 0 4 (by have := hs.2; omega) (by decide) (by decide) hx
  go_wp2_with fail
  refine Calls.mono HA2.out ?_
  rintro e W2 ⟨rfl, hb⟩
  have H2 : Hid _ := H0.out.later hb
  clear hb H0 HA2
  have HA3 : Hid _ := hasT H2.out.inb (20) hs2
  go_wp2_with fail
  refine Calls.mono HA3.out ?_
  rintro e Wn ⟨rfl, hw⟩
  rw [hw]; clear hw Wn HA3
  have HA4 : Hid _ := uRx H2.out.inb 16 4 (by have := hs2.2; omega) (by decide) (by decide) hk
  go_wp2_with fail
  refine Calls.mono HA4.out ?_
  rintro e W4 ⟨rfl, hb⟩
  have H4 : Hid _ := H2.out.later hb
  clear hb H2 HA4
  have HA5 : Hid _ := hasTz H4.out.inb (20 + k) (20 + (k : Int)) (by omega) hs3
  go_wp2_with fail
  refine Calls.mono HA5.out ?_
  rintro e Wn ⟨rfl, hw⟩
  rw [hw]; clear hw Wn HA5
  have HA6 : Hid _ := uRx H4.out.inb 4 2 (by have := hs2.2; omega) (by decide) (by decide) hx3
  go_wp2_with fail
  refine Calls.mono HA6.out ?_
  rintro e W6 ⟨rfl, hb⟩
  have H6 : Hid _ := H4.out.later hb
  clear hb H4 HA6
  have HA7 : Hid _ := uRx H6.out.inb 6 2 (by have := hs2.2; omega) (by decide) (by decide) hx4
  go_wp2_with fail
  refine Calls.mono HA7.out ?_
  rintro e W7 ⟨rfl, hb⟩
  have H7 : Hid _ := H6.out.later hb
  clear hb H6 HA7
  have HA8 : Hid _ := uRx H7.out.inb 8 8 (by have := hs2.2; omega) (by decide) (by decide) hx5
  go_wp2_with fail
  refine Calls.mono HA8.out ?_
  rintro e W8 ⟨rfl, hb⟩
  have H8 : Hid _ := H7.out.later hb
  clear hb H7 HA8
  have hq := H8.out.alloc #[.int .u16 x3, .int .u16 x4, .int .u64 x5, .int .u64 0, .slice none 0 0] 64 (by decide)
  generalize hW9 : W8.alloc (.cells #[.int .u16 x3, .int .u16 x4, .int .u64 x5, .int .u64 0, .slice none 0 0] 64) = W9 at hq
  have H9 : Hid _ := hq
  clear hq H8
  have HW9 : Hid _ := hW9
  clear hW9
  have HA10 : Hid _ := cutR H9.out.inb 20 (by have := hs2.2; omega)
  go_wp2_with fail
  rw [show _ = _ from HW9.out]
  clear HW9
  refine Calls.mono HA10.out ?_
  rintro e W10 ⟨ao1, cap1, vn10, rfl, hI, hA, hr, hn⟩
  have hd10 : (l.take (20)).length = 20 := by rw [List.length_take]; exact Nat.min_eq_left (by have := hs2.2; omega)
  have H10 : Hid _ := H9.out.told2 (d' := l.take (20)) hI hA (by rw [hd10]; exact hr) hn
  clear hI hA hr hn H9 HA10
  have HA11 : Hid _ := cutR H10.out.inb k (by have := hs3.2; rw [List.length_drop]; omega)
  go_wp2_with fail
  refine Calls.mono HA11.out ?_
  rintro e W11 ⟨ao2, cap2, vn11, rfl, hI, hA, hr, hn⟩
  have hd11 : ((l.drop 20).take (k)).length = k := by rw [List.length_take]; exact Nat.min_eq_left (by have := hs3.2; rw [List.length_drop]; omega)
  have H11 : Hid _ := H10.out.told2 (d' := (l.drop 20).take (k)) hI hA (by rw [hd11]; exact hr) hn
  clear hI hA hr hn H10 HA11
  have q0 : W11.cell? ⟨W8.heap.size, 0, none⟩ = some (.int .u16 x3) := (H11.out.c (.head _) 0).1
  have qf0 : W11.frozen? ⟨W8.heap.size, 0, none⟩ = false := (H11.out.c (.head _) 0).2
  have q1 : W11.cell? ⟨W8.heap.size, 1, none⟩ = some (.int .u16 x4) := (H11.out.c (.head _) 1).1
  have qf1 : W11.frozen? ⟨W8.heap.size, 1, none⟩ = false := (H11.out.c (.head _) 1).2
  have q2 : W11.cell? ⟨W8.heap.size, 2, none⟩ = some (.int .u64 x5) := (H11.out.c (.head _) 2).1
  have qf2 : W11.frozen? ⟨W8.heap.size, 2, none⟩ = false := (H11.out.c (.head _) 2).2
  have q3 : W11.cell? ⟨W8.heap.size, 3, none⟩ = some (.int .u64 0) := (H11.out.c (.head _) 3).1
  have qf3 : W11.frozen? ⟨W8.heap.size, 3, none⟩ = false := (H11.out.c (.head _) 3).2
  have q4 : W11.cell? ⟨W8.heap.size, 4, none⟩ = some (.slice none 0 0) := (H11.out.c (.head _) 4).1
  have qf4 : W11.frozen? ⟨W8.heap.size, 4, none⟩ = false := (H11.out.c (.head _) 4).2
  have H12 : Hid _ := (Cr.put (pre := []) H11.out 4 (.slice ao2 k cap2) (cs' := #[.int .u16 x3, .int .u16 x4, .int .u64 x5, .int .u64 0, .slice ao2 k cap2]) rfl)
  clear H11
  obtain ⟨Wz, hWz⟩ : ∃ Wz, W11.setCell ⟨W8.heap.size, 4, none⟩ (.slice ao2 k cap2) = Wz := ⟨_, rfl⟩
  rw [hWz] at H12
  go_upto_region 24 with fail
  clear hWz
  clear q0 qf0 q1 qf1 q2 qf2 q3 qf3 q4 qf4
  have q0 : Wz.cell? ⟨W8.heap.size, 0, none⟩ = some (.int .u16 x3) := (H12.out.c (.head _) 0).1
  have q1 : Wz.cell? ⟨W8.heap.size, 1, none⟩ = some (.int .u16 x4) := (H12.out.c (.head _) 1).1
  have q2 : Wz.cell? ⟨W8.heap.size, 2, none⟩ = some (.int .u64 x5) := (H12.out.c (.head _) 2).1
  have q3 : Wz.cell? ⟨W8.heap.size, 3, none⟩ = some (.int .u64 0) := (H12.out.c (.head _) 3).1
  have q4 : Wz.cell? ⟨W8.heap.size, 4, none⟩ = some (.slice ao2 k cap2) := (H12.out.c (.head _) 4).1
  have y0 : Wz.cell? ⟨w.heap.size, 0, none⟩ = some (.bool false) := (H12.out.c (.tail _ (.head _)) 0).1
  have yf0 : Wz.frozen? ⟨w.heap.size, 0, none⟩ = false := (H12.out.c (.tail _ (.head _)) 0).2
  have y1 : Wz.cell? ⟨w.heap.size, 1, none⟩ = some (.int .u32 0) := (H12.out.c (.tail _ (.head _)) 1).1
  have yf1 : Wz.frozen? ⟨w.heap.size, 1, none⟩ = false := (H12.out.c (.tail _ (.head _)) 1).2
  have y2 : Wz.cell? ⟨w.heap.size, 2, none⟩ = some (.int .u64 0) := (H12.out.c (.tail _ (.head _)) 2).1
  have yf2 : Wz.frozen? ⟨w.heap.size, 2, none⟩ = false := (H12.out.c (.tail _ (.head _)) 2).2
  have y3 : Wz.cell? ⟨w.heap.size, 3, none⟩ = some (.int .u16 0) := (H12.out.c (.tail _ (.head _)) 3).1
  have yf3 : Wz.frozen? ⟨w.heap.size, 3, none⟩ = false := (H12.out.c (.tail _ (.head _)) 3).2
  have y4 : Wz.cell? ⟨w.heap.size, 4, none⟩ = some (.int .u16 0) := (H12.out.c (.tail _ (.head _)) 4).1
  have yf4 : Wz.frozen? ⟨w.heap.size, 4, none⟩ = false := (H12.out.c (.tail _ (.head _)) 4).2
  have y5 : Wz.cell? ⟨w.heap.size, 5, none⟩ = some (.int .u64 0) := (H12.out.c (.tail _ (.head _)) 5).1
  have yf5 : Wz.frozen? ⟨w.heap.size, 5, none⟩ = false := (H12.out.c (.tail _ (.head _)) 5).2
  have y6 : Wz.cell? ⟨w.heap.size, 6, none⟩ = some (.int .u64 0) := (H12.out.c (.tail _ (.head _)) 6).1
  have yf6 : Wz.frozen? ⟨w.heap.size, 6, none⟩ = false := (H12.out.c (.tail _ (.head _)) 6).2
  have y7 : Wz.cell? ⟨w.heap.size, 7, none⟩ = some (.slice none 0 0) := (H12.out.c (.tail _ (.head _)) 7).1
  have yf7 : Wz.frozen? ⟨w.heap.size, 7, none⟩ = false := (H12.out.c (.tail _ (.head _)) 7).2
  have H13 : Hid _ := (Cr.put (pre := [(W8.heap.size, #[.int .u16 x3, .int .u16 x4, .int .u64 x5, .int .u64 0, .slice ao2 k cap2], 64)]) (Cr.put (pre := [(W8.heap.size, #[.int .u16 x3, .int .u16 x4, .int .u64 x5, .int .u64 0, .slice ao2 k cap2], 64)]) (Cr.put (pre := [(W8.heap.size, #[.int .u16 x3, .int .u16 x4, .int .u64 x5, .int .u64 0, .slice ao2 k cap2], 64)]) (Cr.put (pre := [(W8.heap.size, #[.int .u16 x3, .int .u16 x4, .int .u64 x5, .int .u64 0, .slice ao2 k cap2], 64)]) (Cr.put (pre := [(W8.heap.size, #[.int .u16 x3, .int .u16 x4, .int .u64 x5, .int .u64 0, .slice ao2 k cap2], 64)]) (Cr.put (pre := [(W8.heap.size, #[.int .u16 x3, .int .u16 x4, .int .u64 x5, .int .u64 0, .slice ao2 k cap2], 64)]) (Cr.put (pre := [(W8.heap.size, #[.int .u16 x3, .int .u16 x4, .int .u64 x5, .int .u64 0, .slice ao2 k cap2], 64)]) (Cr.put (pre := [(W8.heap.size, #[.int .u16 x3, .int .u16 x4, .int .u64 x5, .int .u64 0, .slice ao2 k cap2], 64)]) H12.out 0 (.bool true) (cs' := #[.bool true, .int .u32 0, .int .u64 0, .int .u16 0, .int .u16 0, .int .u64 0, .int .u64 0, .slice none 0 0]) rfl) 1 (.int .u32 0) (cs' := #[.bool true, .int .u32 0, .int .u64 0, .int .u16 0, .int .u16 0, .int .u64 0, .int .u64 0, .slice none 0 0]) rfl) 2 (.int .u64 0) (cs' := #[.bool true, .int .u32 0, .int .u64 0, .int .u16 0, .int .u16 0, .int .u64 0, .int .u64 0, .slice none 0 0]) rfl) 3 (.int .u16 x3) (cs' := #[.bool true, .int .u32 0, .int .u64 0, .int .u16 x3, .int .u16 0, .int .u64 0, .int .u64 0, .slice none 0 0]) rfl) 4 (.int .u16 x4) (cs' := #[.bool true, .int .u32 0, .int .u64 0, .int .u16 x3, .int .u16 x4, .int .u64 0, .int .u64 0, .slice none 0 0]) rfl) 5 (.int .u64 x5) (cs' := #[.bool true, .int .u32 0, .int .u64 0, .int .u16 x3, .int .u16 x4, .int .u64 x5, .int .u64 0, .slice none 0 0]) rfl) 6 (.int .u64 0) (cs' := #[.bool true, .int .u32 0, .int .u64 0, .int .u16 x3, .int .u16 x4, .int .u64 x5, .int .u64 0, .slice none 0 0]) rfl) 7 (.slice ao2 k cap2) (cs' := #[.bool true, .int .u32 0, .int .u64 0, .int .u16 x3, .int .u16 x4, .int .u64 x5, .int .u64 0, .slice ao2 k cap2]) rfl)
  clear H12
  go_wp2
  exact bodyPost_ret (results_cell_tmp1 rfl _ _ (w.heap.size) 103 #[.bool true, .int .u32 0, .int .u64 0, .int .u16 x3, .int .u16 x4, .int .u64 x5, .int .u64 0, .slice ao2 k cap2] (0, 0) _ rfl (H13.out.box _ (.tail _ (.head _))).1 Try.underlying103 rfl inf_47) rfl ⟨true, 0, 0, x3, x4, x5, 0, (l.drop 20).take k, k, 1, (l.drop 20).drop k, _, ao2, cap2, rfl, hres, hd11, H13.out.inb, H13.out.act, by have q := H13.out.row; rw [hd11] at q; exact q, H13.out.rn⟩
end Go.Proofs.Ytckfmpoddmccfaa
