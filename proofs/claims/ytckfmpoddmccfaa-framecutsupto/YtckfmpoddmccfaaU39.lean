import Derived.Test.YtckfmpoddmccfaaU31
import Derived.Test.YtckfmpoddmccfaaU37
import Derived.Deep.DeepCutAuto
namespace Go.Proofs.Ytckfmpoddmccfaa
open Go.RowKit
set_option linter.unusedVariables false
set_option linter.unusedSimpArgs false
set_option maxRecDepth 100000
section
variable {w : World} {B b : Nat} {v : Value} {rm ov : Nat} {l : List Nat}
theorem hasT (h : RIn w B b v rm ov l) (n : Nat) (hh : ov = 0 ∧ n ≤ l.length) : Calls Try.prog 86 #[.pointer (some ⟨b, 0, none⟩), .int .i64 (n : Int)] w fun e w' => e = .returned (.bool true) ∧ w' = w := by
  have := hasR h n
  rwa [show (decide (ov = 0) && decide (n ≤ l.length)) = true by simp [hh.1, hh.2]] at this
theorem hasF (h : RIn w B b v rm ov l) (n : Nat) (hh : ¬ (ov = 0 ∧ n ≤ l.length)) : Calls Try.prog 86 #[.pointer (some ⟨b, 0, none⟩), .int .i64 (n : Int)] w fun e w' => e = .returned (.bool false) ∧ w' = w := by
  have := hasR h n
  rwa [show (decide (ov = 0) && decide (n ≤ l.length)) = false by
    by_cases h0 : ov = 0
    · have : ¬ n ≤ l.length := fun h1 => hh ⟨h0, h1⟩
      simp [this]
    · simp [h0]] at this
theorem hasTz (h : RIn w B b v rm ov l) (n : Nat) (z : Int) (hz : (n : Int) = z) (hh : ov = 0 ∧ n ≤ l.length) : Calls Try.prog 86 #[.pointer (some ⟨b, 0, none⟩), .int .i64 z] w fun e w' => e = .returned (.bool true) ∧ w' = w := by
  rw [← hz]; exact hasT h n hh
theorem hasFz (h : RIn w B b v rm ov l) (n : Nat) (z : Int) (hz : (n : Int) = z) (hh : ¬ (ov = 0 ∧ n ≤ l.length)) : Calls Try.prog 86 #[.pointer (some ⟨b, 0, none⟩), .int .i64 z] w fun e w' => e = .returned (.bool false) ∧ w' = w := by
  rw [← hz]; exact hasF h n hh
theorem uRx (h : RIn w B b v rm ov l) (a k : Nat) (hak : a + k ≤ l.length) (hk : k ≤ 8) (hk0 : 1 ≤ k) {x : Nat} (hx : vl l a k = x) :
    Calls Try.prog 87 #[.pointer (some ⟨b, 0, none⟩), .int .i64 (a : Int), .int .i64 (k : Int)] w fun e w' => e = .returned (.int .u64 (x : Int)) ∧ Below w.heap.size w w' := by
  have := uR h a k hak hk hk0
  rwa [hx] at this
end
theorem inf_44 : (Try.prog.info? 62).map (·.size) = some 3 := by kernel_rfl
set_option maxHeartbeats 4000000 in
theorem rrep_a {w : World} {B b : Nat} {v : Value} {rm ov : Nat} {l : List Nat} (h : RIn w B b v rm ov l) (m : Nat) (hm : m < 4294967296) (hs : ¬ (ov = 0 ∧ 20 ≤ l.length)) (hres : cutOf (0, 0, []) ov l (repD m l) = ((0, 0, []), 0, l)) :
    Calls Try.prog 44 #[.pointer (some ⟨b, 0, none⟩), .int .u32 (m : Int)] w fun e w' => ∃ (x0 : Nat) (x1 : Nat) (d : List Nat) (dn cu : Nat) (l' : List Nat) (v' : Value) (ao2 : Option Addr) (cap2 : Nat), e = .returned (.tuple #[.agg #[.int .u32 (x0 : Int), .int .u32 (x1 : Int), .slice ao2 dn cap2], .int .i64 (cu : Int)]) ∧ cutOf (0, 0, []) ov l (repD m l) = ((x0, x1, d), cu, l') ∧ d.length = dn ∧ RIn w' B b v' rm ov l' ∧ RAct w w' b v v' ∧ w'.ownsRow w.heap.size 5 1 (.slice ao2 dn cap2) dn (d.map bv) ∧ ∀ g, (Value.slice ao2 dn cap2).ownBlock = some g → v'.ownBlock ≠ some g := by
  have h5 : 62 ≠ 5 := by decide
  obtain ⟨W0, hW0⟩ : ∃ W0, W0 = w.alloc (.cells #[.int .u32 0, .int .u32 0, .slice none 0 0] 62) := ⟨_, rfl⟩
  have hC0 := (Cr.start h).alloc #[.int .u32 0, .int .u32 0, .slice none 0 0] 62 h5
  rw [← hW0] at hC0
  have H0 : Hid _ := hC0
  clear hC0
  clear h
  go_enter Try.func44, Try.ntmps44
  have HA1 : Hid _ := hasF H0.out.inb (20) hs
  go_wp2_with fail
  rw [← hW0]
  clear hW0
  refine Calls.mono HA1.out ?_
  rintro e Wn ⟨rfl, hw⟩
  rw [hw]; clear hw Wn HA1
  have y0 : W0.cell? ⟨w.heap.size, 0, none⟩ = some (.int .u32 0) := (H0.out.c (.head _) 0).1
  have yf0 : W0.frozen? ⟨w.heap.size, 0, none⟩ = false := (H0.out.c (.head _) 0).2
  have y1 : W0.cell? ⟨w.heap.size, 1, none⟩ = some (.int .u32 0) := (H0.out.c (.head _) 1).1
  have yf1 : W0.frozen? ⟨w.heap.size, 1, none⟩ = false := (H0.out.c (.head _) 1).2
  have y2 : W0.cell? ⟨w.heap.size, 2, none⟩ = some (.slice none 0 0) := (H0.out.c (.head _) 2).1
  have yf2 : W0.frozen? ⟨w.heap.size, 2, none⟩ = false := (H0.out.c (.head _) 2).2
  have H2 : Hid _ := (Cr.put (pre := []) (Cr.put (pre := []) (Cr.put (pre := []) H0.out 0 (.int .u32 0) (cs' := #[.int .u32 0, .int .u32 0, .slice none 0 0]) rfl) 1 (.int .u32 0) (cs' := #[.int .u32 0, .int .u32 0, .slice none 0 0]) rfl) 2 (.slice none 0 0) (cs' := #[.int .u32 0, .int .u32 0, .slice none 0 0]) rfl)
  clear H0
  go_wp2
  exact bodyPost_ret (results_cell_tmp1 rfl _ _ (w.heap.size) 62 #[.int .u32 0, .int .u32 0, .slice none 0 0] (0, 0) _ rfl (H2.out.box _ (.head _)).1 Try.underlying62 rfl inf_44) rfl ⟨0, 0, [], 0, 0, l, _, none, 0, rfl, hres, rfl, H2.out.inb, H2.out.act, H2.out.row, H2.out.rn⟩
set_option maxHeartbeats 4000000 in
theorem rrep_b {w : World} {B b : Nat} {v : Value} {rm ov : Nat} {l : List Nat} (h : RIn w B b v rm ov l) (m : Nat) (hm : m < 4294967296) (hs : ov = 0 ∧ 20 ≤ l.length) (hx : ((vl l 0 8 : Int) != 1100100111001001) = true) (hres : cutOf (0, 0, []) ov l (repD m l) = ((0, 0, []), 2, l)) :
    Calls Try.prog 44 #[.pointer (some ⟨b, 0, none⟩), .int .u32 (m : Int)] w fun e w' => ∃ (x0 : Nat) (x1 : Nat) (d : List Nat) (dn cu : Nat) (l' : List Nat) (v' : Value) (ao2 : Option Addr) (cap2 : Nat), e = .returned (.tuple #[.agg #[.int .u32 (x0 : Int), .int .u32 (x1 : Int), .slice ao2 dn cap2], .int .i64 (cu : Int)]) ∧ cutOf (0, 0, []) ov l (repD m l) = ((x0, x1, d), cu, l') ∧ d.length = dn ∧ RIn w' B b v' rm ov l' ∧ RAct w w' b v v' ∧ w'.ownsRow w.heap.size 5 1 (.slice ao2 dn cap2) dn (d.map bv) ∧ ∀ g, (Value.slice ao2 dn cap2).ownBlock = some g → v'.ownBlock ≠ some g := by
  have h5 : 62 ≠ 5 := by decide
  obtain ⟨W0, hW0⟩ : ∃ W0, W0 = w.alloc (.cells #[.int .u32 0, .int .u32 0, .slice none 0 0] 62) := ⟨_, rfl⟩
  have hC0 := (Cr.start h).alloc #[.int .u32 0, .int .u32 0, .slice none 0 0] 62 h5
  rw [← hW0] at hC0
  have H0 : Hid _ := hC0
  clear hC0
  clear h
  go_enter Try.func44, Try.ntmps44
  have HA1 : Hid _ := hasT H0.out.inb (20) hs
  go_wp2_with fail
  rw [← hW0]
  clear hW0
  refine Calls.mono HA1.out ?_
  rintro e Wn ⟨rfl, hw⟩
  rw [hw]; clear hw Wn HA1
  have HA2 : Hid _ := uRx H0.out.inb 0 8 (by have := hs.2; omega) (by decide) (by decide) rfl
  go_wp2_with fail
  refine Calls.mono HA2.out ?_
  rintro e W2 ⟨rfl, hb⟩
  have H2 : Hid _ := H0.out.later hb
  clear hb H0 HA2
  have y0 : W2.cell? ⟨w.heap.size, 0, none⟩ = some (.int .u32 0) := (H2.out.c (.head _) 0).1
  have yf0 : W2.frozen? ⟨w.heap.size, 0, none⟩ = false := (H2.out.c (.head _) 0).2
  have y1 : W2.cell? ⟨w.heap.size, 1, none⟩ = some (.int .u32 0) := (H2.out.c (.head _) 1).1
  have yf1 : W2.frozen? ⟨w.heap.size, 1, none⟩ = false := (H2.out.c (.head _) 1).2
  have y2 : W2.cell? ⟨w.heap.size, 2, none⟩ = some (.slice none 0 0) := (H2.out.c (.head _) 2).1
  have yf2 : W2.frozen? ⟨w.heap.size, 2, none⟩ = false := (H2.out.c (.head _) 2).2
  have H3 : Hid _ := (Cr.put (pre := []) (Cr.put (pre := []) (Cr.put (pre := []) H2.out 0 (.int .u32 0) (cs' := #[.int .u32 0, .int .u32 0, .slice none 0 0]) rfl) 1 (.int .u32 0) (cs' := #[.int .u32 0, .int .u32 0, .slice none 0 0]) rfl) 2 (.slice none 0 0) (cs' := #[.int .u32 0, .int .u32 0, .slice none 0 0]) rfl)
  clear H2
  go_wp2
  exact bodyPost_ret (results_cell_tmp1 rfl _ _ (w.heap.size) 62 #[.int .u32 0, .int .u32 0, .slice none 0 0] (0, 0) _ rfl (H3.out.box _ (.head _)).1 Try.underlying62 rfl inf_44) rfl ⟨0, 0, [], 0, 2, l, _, none, 0, rfl, hres, rfl, H3.out.inb, H3.out.act, H3.out.row, H3.out.rn⟩
set_option maxHeartbeats 4000000 in
theorem rrep_c {w : World} {B b : Nat} {v : Value} {rm ov : Nat} {l : List Nat} (h : RIn w B b v rm ov l) (m : Nat) (hm : m < 4294967296) (hs : ov = 0 ∧ 20 ≤ l.length) (hx : vl l 0 8 = 1100100111001001) (k : Nat) (hk : vl l 16 4 = k) (hkb : k < 4294967296) (hmk : (m : Int) < (k : Int)) (hres : cutOf (0, 0, []) ov l (repD m l) = ((0, 0, []), 3, l)) :
    Calls Try.prog 44 #[.pointer (some ⟨b, 0, none⟩), .int .u32 (m : Int)] w fun e w' => ∃ (x0 : Nat) (x1 : Nat) (d : List Nat) (dn cu : Nat) (l' : List Nat) (v' : Value) (ao2 : Option Addr) (cap2 : Nat), e = .returned (.tuple #[.agg #[.int .u32 (x0 : Int), .int .u32 (x1 : Int), .slice ao2 dn cap2], .int .i64 (cu : Int)]) ∧ cutOf (0, 0, []) ov l (repD m l) = ((x0, x1, d), cu, l') ∧ d.length = dn ∧ RIn w' B b v' rm ov l' ∧ RAct w w' b v v' ∧ w'.ownsRow w.heap.size 5 1 (.slice ao2 dn cap2) dn (d.map bv) ∧ ∀ g, (Value.slice ao2 dn cap2).ownBlock = some g → v'.ownBlock ≠ some g := by
  have h5 : 62 ≠ 5 := by decide
  obtain ⟨W0, hW0⟩ : ∃ W0, W0 = w.alloc (.cells #[.int .u32 0, .int .u32 0, .slice none 0 0] 62) := ⟨_, rfl⟩
  have hC0 := (Cr.start h).alloc #[.int .u32 0, .int .u32 0, .slice none 0 0] 62 h5
  rw [← hW0] at hC0
  have H0 : Hid _ := hC0
  clear hC0
  clear h
  go_enter Try.func44, Try.ntmps44
  have HA1 : Hid _ := hasT H0.out.inb (20) hs
  go_wp2_with fail
  rw [← hW0]
  clear hW0
  refine Calls.mono HA1.out ?_
  rintro e Wn ⟨rfl, hw⟩
  rw [hw]; clear hw Wn HA1
  have HA2 : Hid _ := uRx H0.out.inb 0 8 (by have := hs.2; omega) (by decide) (by decide) hx
  go_wp2_with fail
  refine Calls.mono HA2.out ?_
  rintro e W2 ⟨rfl, hb⟩
  have H2 : Hid _ := H0.out.later hb
  clear hb H0 HA2
  have HA3 : Hid _ := uRx H2.out.inb 16 4 (by have := hs.2; omega) (by decide) (by decide) hk
  go_wp2_with fail
  refine Calls.mono HA3.out ?_
  rintro e W3 ⟨rfl, hb⟩
  have H3 : Hid _ := H2.out.later hb
  clear hb H2 HA3
  have y0 : W3.cell? ⟨w.heap.size, 0, none⟩ = some (.int .u32 0) := (H3.out.c (.head _) 0).1
  have yf0 : W3.frozen? ⟨w.heap.size, 0, none⟩ = false := (H3.out.c (.head _) 0).2
  have y1 : W3.cell? ⟨w.heap.size, 1, none⟩ = some (.int .u32 0) := (H3.out.c (.head _) 1).1
  have yf1 : W3.frozen? ⟨w.heap.size, 1, none⟩ = false := (H3.out.c (.head _) 1).2
  have y2 : W3.cell? ⟨w.heap.size, 2, none⟩ = some (.slice none 0 0) := (H3.out.c (.head _) 2).1
  have yf2 : W3.frozen? ⟨w.heap.size, 2, none⟩ = false := (H3.out.c (.head _) 2).2
  have H4 : Hid _ := (Cr.put (pre := []) (Cr.put (pre := []) (Cr.put (pre := []) H3.out 0 (.int .u32 0) (cs' := #[.int .u32 0, .int .u32 0, .slice none 0 0]) rfl) 1 (.int .u32 0) (cs' := #[.int .u32 0, .int .u32 0, .slice none 0 0]) rfl) 2 (.slice none 0 0) (cs' := #[.int .u32 0, .int .u32 0, .slice none 0 0]) rfl)
  clear H3
  go_wp2
  exact bodyPost_ret (results_cell_tmp1 rfl _ _ (w.heap.size) 62 #[.int .u32 0, .int .u32 0, .slice none 0 0] (0, 0) _ rfl (H4.out.box _ (.head _)).1 Try.underlying62 rfl inf_44) rfl ⟨0, 0, [], 0, 3, l, _, none, 0, rfl, hres, rfl, H4.out.inb, H4.out.act, H4.out.row, H4.out.rn⟩
set_option maxHeartbeats 4000000 in
theorem rrep_d {w : World} {B b : Nat} {v : Value} {rm ov : Nat} {l : List Nat} (h : RIn w B b v rm ov l) (m : Nat) (hm : m < 4294967296) (hs : ov = 0 ∧ 20 ≤ l.length) (hx : vl l 0 8 = 1100100111001001) (k : Nat) (hk : vl l 16 4 = k) (hkb : k < 4294967296) (hmk : ¬ (m : Int) < (k : Int)) (hs2 : ¬ (ov = 0 ∧ 20 + k ≤ l.length)) (hres : cutOf (0, 0, []) ov l (repD m l) = ((0, 0, []), 0, l)) :
    Calls Try.prog 44 #[.pointer (some ⟨b, 0, none⟩), .int .u32 (m : Int)] w fun e w' => ∃ (x0 : Nat) (x1 : Nat) (d : List Nat) (dn cu : Nat) (l' : List Nat) (v' : Value) (ao2 : Option Addr) (cap2 : Nat), e = .returned (.tuple #[.agg #[.int .u32 (x0 : Int), .int .u32 (x1 : Int), .slice ao2 dn cap2], .int .i64 (cu : Int)]) ∧ cutOf (0, 0, []) ov l (repD m l) = ((x0, x1, d), cu, l') ∧ d.length = dn ∧ RIn w' B b v' rm ov l' ∧ RAct w w' b v v' ∧ w'.ownsRow w.heap.size 5 1 (.slice ao2 dn cap2) dn (d.map bv) ∧ ∀ g, (Value.slice ao2 dn cap2).ownBlock = some g → v'.ownBlock ≠ some g := by
  have h5 : 62 ≠ 5 := by decide
  obtain ⟨W0, hW0⟩ : ∃ W0, W0 = w.alloc (.cells #[.int .u32 0, .int .u32 0, .slice none 0 0] 62) := ⟨_, rfl⟩
  have hC0 := (Cr.start h).alloc #[.int .u32 0, .int .u32 0, .slice none 0 0] 62 h5
  rw [← hW0] at hC0
  have H0 : Hid _ := hC0
  clear hC0
  clear h
  go_enter Try.func44, Try.ntmps44
  have HA1 : Hid _ := hasT H0.out.inb (20) hs
  go_wp2_with fail
  rw [← hW0]
  clear hW0
  refine Calls.mono HA1.out ?_
  rintro e Wn ⟨rfl, hw⟩
  rw [hw]; clear hw Wn HA1
  have HA2 : Hid _ := uRx H0.out.inb 0 8 (by have := hs.2; omega) (by decide) (by decide) hx
  go_wp2_with fail
  refine Calls.mono HA2.out ?_
  rintro e W2 ⟨rfl, hb⟩
  have H2 : Hid _ := H0.out.later hb
  clear hb H0 HA2
  have HA3 : Hid _ := uRx H2.out.inb 16 4 (by have := hs.2; omega) (by decide) (by decide) hk
  go_wp2_with fail
  refine Calls.mono HA3.out ?_
  rintro e W3 ⟨rfl, hb⟩
  have H3 : Hid _ := H2.out.later hb
  clear hb H2 HA3
  have HA4 : Hid _ := hasFz H3.out.inb (20 + k) (20 + (k : Int)) (by omega) hs2
  go_wp2_with fail
  refine Calls.mono HA4.out ?_
  rintro e Wn ⟨rfl, hw⟩
  rw [hw]; clear hw Wn HA4
  have y0 : W3.cell? ⟨w.heap.size, 0, none⟩ = some (.int .u32 0) := (H3.out.c (.head _) 0).1
  have yf0 : W3.frozen? ⟨w.heap.size, 0, none⟩ = false := (H3.out.c (.head _) 0).2
  have y1 : W3.cell? ⟨w.heap.size, 1, none⟩ = some (.int .u32 0) := (H3.out.c (.head _) 1).1
  have yf1 : W3.frozen? ⟨w.heap.size, 1, none⟩ = false := (H3.out.c (.head _) 1).2
  have y2 : W3.cell? ⟨w.heap.size, 2, none⟩ = some (.slice none 0 0) := (H3.out.c (.head _) 2).1
  have yf2 : W3.frozen? ⟨w.heap.size, 2, none⟩ = false := (H3.out.c (.head _) 2).2
  have H5 : Hid _ := (Cr.put (pre := []) (Cr.put (pre := []) (Cr.put (pre := []) H3.out 0 (.int .u32 0) (cs' := #[.int .u32 0, .int .u32 0, .slice none 0 0]) rfl) 1 (.int .u32 0) (cs' := #[.int .u32 0, .int .u32 0, .slice none 0 0]) rfl) 2 (.slice none 0 0) (cs' := #[.int .u32 0, .int .u32 0, .slice none 0 0]) rfl)
  clear H3
  go_wp2
  exact bodyPost_ret (results_cell_tmp1 rfl _ _ (w.heap.size) 62 #[.int .u32 0, .int .u32 0, .slice none 0 0] (0, 0) _ rfl (H5.out.box _ (.head _)).1 Try.underlying62 rfl inf_44) rfl ⟨0, 0, [], 0, 0, l, _, none, 0, rfl, hres, rfl, H5.out.inb, H5.out.act, H5.out.row, H5.out.rn⟩
set_option maxHeartbeats 4000000 in
theorem rrep_e {w : World} {B b : Nat} {v : Value} {rm ov : Nat} {l : List Nat} (h : RIn w B b v rm ov l) (m : Nat) (hm : m < 4294967296) (hs : ov = 0 ∧ 20 ≤ l.length) (hx : vl l 0 8 = 1100100111001001) (k : Nat) (hk : vl l 16 4 = k) (hkb : k < 4294967296) (hmk : ¬ (m : Int) < (k : Int)) (hs2 : ov = 0 ∧ 20 + k ≤ l.length) (x0 x1 : Nat) (hx0 : vl l 8 4 = x0) (hx1 : vl l 12 4 = x1) (b0 : x0 < 4294967296) (b1 : x1 < 4294967296) (hres : cutOf (0, 0, []) ov l (repD m l) = ((x0, x1, (l.drop 20).take k), 1, (l.drop 20).drop k)) :
    Calls Try.prog 44 #[.pointer (some ⟨b, 0, none⟩), .int .u32 (m : Int)] w fun e w' => ∃ (x0 : Nat) (x1 : Nat) (d : List Nat) (dn cu : Nat) (l' : List Nat) (v' : Value) (ao2 : Option Addr) (cap2 : Nat), e = .returned (.tuple #[.agg #[.int .u32 (x0 : Int), .int .u32 (x1 : Int), .slice ao2 dn cap2], .int .i64 (cu : Int)]) ∧ cutOf (0, 0, []) ov l (repD m l) = ((x0, x1, d), cu, l') ∧ d.length = dn ∧ RIn w' B b v' rm ov l' ∧ RAct w w' b v v' ∧ w'.ownsRow w.heap.size 5 1 (.slice ao2 dn cap2) dn (d.map bv) ∧ ∀ g, (Value.slice ao2 dn cap2).ownBlock = some g → v'.ownBlock ≠ some g := by
  have h5 : 62 ≠ 5 := by decide
  obtain ⟨W0, hW0⟩ : ∃ W0, W0 = w.alloc (.cells #[.int .u32 0, .int .u32 0, .slice none 0 0] 62) := ⟨_, rfl⟩
  have hC0 := (Cr.start h).alloc #[.int .u32 0, .int .u32 0, .slice none 0 0] 62 h5
  rw [← hW0] at hC0
  have H0 : Hid _ := hC0
  clear hC0
  clear h
  go_enter Try.func44, Try.ntmps44
  have HA1 : Hid _ := hasT H0.out.inb (20) hs
  go_wp2_with fail
  rw [← hW0]
  clear hW0
  refine Calls.mono HA1.out ?_
  rintro e Wn ⟨rfl, hw⟩
  rw [hw]; clear hw Wn HA1
  have HA2 : Hid _ := uRx H0.out.inb 0 8 (by have := hs.2; omega) (by decide) (by decide) hx
  go_wp2_with fail
  refine Calls.mono HA2.out ?_
  rintro e W2 ⟨rfl, hb⟩
  have H2 : Hid _ := H0.out.later hb
  clear hb H0 HA2
  have HA3 : Hid _ := uRx H2.out.inb 16 4 (by have := hs.2; omega) (by decide) (by decide) hk
  go_wp2_with fail
  refine Calls.mono HA3.out ?_
  rintro e W3 ⟨rfl, hb⟩
  have H3 : Hid _ := H2.out.later hb
  clear hb H2 HA3
  have HA4 : Hid _ := hasTz H3.out.inb (20 + k) (20 + (k : Int)) (by omega) hs2
  go_wp2_with fail
  refine Calls.mono HA4.out ?_
  rintro e Wn ⟨rfl, hw⟩
  rw [hw]; clear hw Wn HA4
  have HA5 : Hid _ := uRx H3.out.inb 8 4 (by have := hs.2; omega) (by decide) (by decide) hx0
  go_wp2_with fail
  refine Calls.mono HA5.out ?_
  rintro e W5 ⟨rfl, hb⟩
  have H5 : Hid _ := H3.out.later hb
  clear hb H3 HA5
  have HA6 : Hid _ := uRx H5.out.inb 12 4 (by have := hs.2; omega) (by decide) (by decide) hx1
  go_wp2_with fail
  refine Calls.mono HA6.out ?_
  rintro e W6 ⟨rfl, hb⟩
  have H6 : Hid _ := H5.out.later hb
  clear hb H5 HA6
  have hq := H6.out.alloc #[.int .u32 (x0 : Int), .int .u32 (x1 : Int), .slice none 0 0] 62 (by decide)
  generalize hW7 : W6.alloc (.cells #[.int .u32 (x0 : Int), .int .u32 (x1 : Int), .slice none 0 0] 62) = W7 at hq
  have H7 : Hid _ := hq
  clear hq H6
  have HW7 : Hid _ := hW7
  clear hW7
  have HA8 : Hid _ := cutR H7.out.inb 20 (by have := hs.2; omega)
  go_wp2_with fail
  rw [show _ = _ from HW7.out]
  clear HW7
  refine Calls.mono HA8.out ?_
  rintro e W8 ⟨ao1, cap1, vn8, rfl, hI, hA, hr, hn⟩
  have hd8 : (l.take (20)).length = 20 := by rw [List.length_take]; exact Nat.min_eq_left (by have := hs.2; omega)
  have H8 : Hid _ := H7.out.told2 (d' := l.take (20)) hI hA (by rw [hd8]; exact hr) hn
  clear hI hA hr hn H7 HA8
  have HA9 : Hid _ := cutR H8.out.inb k (by have := hs2.2; rw [List.length_drop]; omega)
  go_wp2_with fail
  refine Calls.mono HA9.out ?_
  rintro e W9 ⟨ao2, cap2, vn9, rfl, hI, hA, hr, hn⟩
  have hd9 : ((l.drop 20).take (k)).length = k := by rw [List.length_take]; exact Nat.min_eq_left (by have := hs2.2; rw [List.length_drop]; omega)
  have H9 : Hid _ := H8.out.told2 (d' := (l.drop 20).take (k)) hI hA (by rw [hd9]; exact hr) hn
  clear hI hA hr hn H8 HA9
  have q0 : W9.cell? ⟨W6.heap.size, 0, none⟩ = some (.int .u32 (x0 : Int)) := (H9.out.c (.head _) 0).1
  have qf0 : W9.frozen? ⟨W6.heap.size, 0, none⟩ = false := (H9.out.c (.head _) 0).2
  have q1 : W9.cell? ⟨W6.heap.size, 1, none⟩ = some (.int .u32 (x1 : Int)) := (H9.out.c (.head _) 1).1
  have qf1 : W9.frozen? ⟨W6.heap.size, 1, none⟩ = false := (H9.out.c (.head _) 1).2
  have q2 : W9.cell? ⟨W6.heap.size, 2, none⟩ = some (.slice none 0 0) := (H9.out.c (.head _) 2).1
  have qf2 : W9.frozen? ⟨W6.heap.size, 2, none⟩ = false := (H9.out.c (.head _) 2).2
  have H10 : Hid _ := (Cr.put (pre := []) H9.out 2 (.slice ao2 k cap2) (cs' := #[.int .u32 (x0 : Int), .int .u32 (x1 : Int), .slice ao2 k cap2]) rfl)
  clear H9
  obtain ⟨Wz, hWz⟩ : ∃ Wz, W9.setCell ⟨W6.heap.size, 2, none⟩ (.slice ao2 k cap2) = Wz := ⟨_, rfl⟩
  rw [hWz] at H10
  go_upto_region 13 with fail
  clear hWz
  clear q0 qf0 q1 qf1 q2 qf2
  have q0 : Wz.cell? ⟨W6.heap.size, 0, none⟩ = some (.int .u32 (x0 : Int)) := (H10.out.c (.head _) 0).1
  have q1 : Wz.cell? ⟨W6.heap.size, 1, none⟩ = some (.int .u32 (x1 : Int)) := (H10.out.c (.head _) 1).1
  have q2 : Wz.cell? ⟨W6.heap.size, 2, none⟩ = some (.slice ao2 k cap2) := (H10.out.c (.head _) 2).1
  have y0 : Wz.cell? ⟨w.heap.size, 0, none⟩ = some (.int .u32 0) := (H10.out.c (.tail _ (.head _)) 0).1
  have yf0 : Wz.frozen? ⟨w.heap.size, 0, none⟩ = false := (H10.out.c (.tail _ (.head _)) 0).2
  have y1 : Wz.cell? ⟨w.heap.size, 1, none⟩ = some (.int .u32 0) := (H10.out.c (.tail _ (.head _)) 1).1
  have yf1 : Wz.frozen? ⟨w.heap.size, 1, none⟩ = false := (H10.out.c (.tail _ (.head _)) 1).2
  have y2 : Wz.cell? ⟨w.heap.size, 2, none⟩ = some (.slice none 0 0) := (H10.out.c (.tail _ (.head _)) 2).1
  have yf2 : Wz.frozen? ⟨w.heap.size, 2, none⟩ = false := (H10.out.c (.tail _ (.head _)) 2).2
  have H11 : Hid _ := (Cr.put (pre := [(W6.heap.size, #[.int .u32 (x0 : Int), .int .u32 (x1 : Int), .slice ao2 k cap2], 62)]) (Cr.put (pre := [(W6.heap.size, #[.int .u32 (x0 : Int), .int .u32 (x1 : Int), .slice ao2 k cap2], 62)]) (Cr.put (pre := [(W6.heap.size, #[.int .u32 (x0 : Int), .int .u32 (x1 : Int), .slice ao2 k cap2], 62)]) H10.out 0 (.int .u32 (x0 : Int)) (cs' := #[.int .u32 (x0 : Int), .int .u32 0, .slice none 0 0]) rfl) 1 (.int .u32 (x1 : Int)) (cs' := #[.int .u32 (x0 : Int), .int .u32 (x1 : Int), .slice none 0 0]) rfl) 2 (.slice ao2 k cap2) (cs' := #[.int .u32 (x0 : Int), .int .u32 (x1 : Int), .slice ao2 k cap2]) rfl)
  clear H10
  go_wp2
  exact bodyPost_ret (results_cell_tmp1 rfl _ _ (w.heap.size) 62 #[.int .u32 (x0 : Int), .int .u32 (x1 : Int), .slice ao2 k cap2] (0, 0) _ rfl (H11.out.box _ (.tail _ (.head _))).1 Try.underlying62 rfl inf_44) rfl ⟨x0, x1, (l.drop 20).take k, k, 1, (l.drop 20).drop k, _, ao2, cap2, rfl, hres, hd9, H11.out.inb, H11.out.act, by have q := H11.out.row; rw [hd9] at q; exact q, H11.out.rn⟩
/-- OptionReply of the document -/
theorem repR {w : World} {B b : Nat} {v : Value} {rm ov : Nat} {l : List Nat} (h : RIn w B b v rm ov l) (m : Nat) (hm : m < 4294967296) : Calls Try.prog 44 #[.pointer (some ⟨b, 0, none⟩), .int .u32 (m : Int)] w fun e w' => ∃ (x0 : Nat) (x1 : Nat) (d : List Nat) (dn cu : Nat) (l' : List Nat) (v' : Value) (ao2 : Option Addr) (cap2 : Nat), e = .returned (.tuple #[.agg #[.int .u32 (x0 : Int), .int .u32 (x1 : Int), .slice ao2 dn cap2], .int .i64 (cu : Int)]) ∧ cutOf (0, 0, []) ov l (repD m l) = ((x0, x1, d), cu, l') ∧ d.length = dn ∧ RIn w' B b v' rm ov l' ∧ RAct w w' b v v' ∧ w'.ownsRow w.heap.size 5 1 (.slice ao2 dn cap2) dn (d.map bv) ∧ ∀ g, (Value.slice ao2 dn cap2).ownBlock = some g → v'.ownBlock ≠ some g := by
  by_cases hs : ov = 0 ∧ 20 ≤ l.length
  · obtain ⟨h0, h1⟩ := hs
    have n1 : ¬ l.length < 20 := by omega
    have n0 : ¬ 0 < ov := by omega
    by_cases hx : vl l 0 8 = 1100100111001001
    · have hx' : ¬ vl l 0 8 ≠ mReply := fun e => e hx
      have hkb : vl l 16 4 < 4294967296 := by have := vlb h.row.lt 16 4; simpa using this
      by_cases hmk : m < vl l 16 4
      · exact rrep_c h m hm ⟨h0, h1⟩ hx _ rfl hkb (by omega) (by unfold cutOf repD; simp [n0, n1, hx', hmk])
      · by_cases h2 : 20 + vl l 16 4 ≤ l.length
        · refine rrep_e h m hm ⟨h0, h1⟩ hx _ rfl hkb (by omega) ⟨h0, h2⟩ _ _ rfl rfl (by have := vlb h.row.lt 8 4; simpa using this) (by have := vlb h.row.lt 12 4; simpa using this) ?_
          have n2 : ¬ l.length < 20 + vl l 16 4 := by omega
          unfold cutOf repD
          simp [n0, n1, hx', hmk, n2, List.drop_drop]
        · have n2 : l.length < 20 + vl l 16 4 := by omega
          exact rrep_d h m hm ⟨h0, h1⟩ hx _ rfl hkb (by omega) (fun e => h2 e.2) (by unfold cutOf repD; simp [n0, n1, hx', hmk, n2])
    · have hx' : vl l 0 8 ≠ mReply := hx
      exact rrep_b h m hm ⟨h0, h1⟩ (by simp; omega) (by unfold cutOf repD; simp [n0, n1, hx'])
  · refine rrep_a h m hm hs ?_
    unfold cutOf repD
    by_cases h0 : 0 < ov
    · simp [h0]
    · have : l.length < 20 := by omega
      simp [h0, this]
end Go.Proofs.Ytckfmpoddmccfaa
