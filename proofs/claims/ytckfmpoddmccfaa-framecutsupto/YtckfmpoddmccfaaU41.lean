import Derived.Test.YtckfmpoddmccfaaU40
import Derived.Test.YtckfmpoddmccfaaU37
import Derived.Test.YtckfmpoddmccfaaU26
import Derived.Deep.DeepCutAuto
namespace Go.Proofs.Ytckfmpoddmccfaa
open Go.RowKit
set_option linter.unusedVariables false
set_option linter.unusedSimpArgs false
set_option maxRecDepth 100000
theorem inf_43 : (Try.prog.info? 57).map (·.size) = some 4 := by kernel_rfl
theorem Cr.nodata {w W : World} {B b : Nat} {v v' : Value} {rm ov : Nat} {l : List Nat} {bs : List (Nat × Array Value × TypeId)} {dv : Value} {d : List Nat} (h : Cr w W B b v v' rm ov l bs dv d) : Cr w W B b v v' rm ov l bs (.slice none 0 0) [] :=
  ⟨h.inb, h.act, h.bw, h.box, h.nd, World.ownsRow_nil _ _ _ _, by simp [Value.ownBlock]⟩
theorem Cr.pass {w W : World} {B b : Nat} {v v' : Value} {rm ov : Nat} {l : List Nat} {bs : List (Nat × Array Value × TypeId)} {dv : Value} {d : List Nat} (h : Cr w W B b v v' rm ov l bs dv d) (o : Nat) (ho : o < 4294967296) : Cr w (W.setCell ⟨b, 2, none⟩ (.int .u64 o)) B b v v' rm o l bs dv d :=
  h.acts (h.inb.putO o ho).1 (RAct.ofI (IAct.ofKept (h.inb.putO o ho).2))
set_option maxHeartbeats 4000000 in
theorem ropt_a {w : World} {B b : Nat} {v : Value} {rm ov : Nat} {l : List Nat} (h : RIn w B b v rm ov l) (m : Nat) (hm : m < 4294967296) (hs : ¬ (ov = 0 ∧ 16 ≤ l.length)) (hres : optC m ov l = ((0, 0, false, []), 0, ov, l)) :
    Calls Try.prog 43 #[.pointer (some ⟨b, 0, none⟩), .int .u32 m] w fun e w' => ∃ (x0 x1 : Nat) (lg : Bool) (d : List Nat) (dn cu ov' : Nat) (l' : List Nat) (v' : Value) (ao2 : Option Addr) (cap2 : Nat), e = .returned (.tuple #[.agg #[.int .u32 x0, .int .u32 x1, .bool lg, .slice ao2 dn cap2], .int .i64 cu]) ∧ optC m ov l = ((x0, x1, lg, d), cu, ov', l') ∧ d.length = dn ∧ RIn w' B b v' rm ov' l' ∧ RAct w w' b v v' ∧ w'.ownsRow w.heap.size 5 1 (.slice ao2 dn cap2) dn (d.map bv) ∧ ∀ g, (Value.slice ao2 dn cap2).ownBlock = some g → v'.ownBlock ≠ some g := by
  replace hres : Hid _ := hres
  have h5 : 57 ≠ 5 := by decide
  obtain ⟨W0, hW0⟩ : ∃ W0, W0 = w.alloc (.cells #[.int .u32 0, .int .u32 0, .bool false, .slice none 0 0] 57) := ⟨_, rfl⟩
  have hC0 := (Cr.start h).alloc #[.int .u32 0, .int .u32 0, .bool false, .slice none 0 0] 57 h5
  rw [← hW0] at hC0
  have H0 : Hid _ := hC0
  clear hC0
  clear h
  go_enter Try.func43, Try.ntmps43
  have HA1 : Hid _ := hasF H0.out.inb (16) hs
  go_wp2_with fail
  rw [← hW0]
  clear hW0
  refine Calls.mono HA1.out ?_
  rintro e Wn ⟨rfl, hw⟩
  rw [hw]; clear hw Wn HA1
  have y0 : W0.cell? ⟨w.heap.size, 0, none⟩ = some (.int .u32 0) := (H0.out.c (.head _) 0).1
  have yf0 : W0.frozen? ⟨w.heap.size, 0, none⟩ = false := (H0.out.c (.head _) 0).2
  have y1 : W0.cell? ⟨w.heap.size, 1, none⟩ = some (.int .u32 0) := (H0.out.c (.head _) 1).1
  have yf1 : W0.frozen? ⟨w.heap.size, 1, none⟩ = false := (H0.out.c (.head _) 1).2
  have y2 : W0.cell? ⟨w.heap.size, 2, none⟩ = some (.bool false) := (H0.out.c (.head _) 2).1
  have yf2 : W0.frozen? ⟨w.heap.size, 2, none⟩ = false := (H0.out.c (.head _) 2).2
  have y3 : W0.cell? ⟨w.heap.size, 3, none⟩ = some (.slice none 0 0) := (H0.out.c (.head _) 3).1
  have yf3 : W0.frozen? ⟨w.heap.size, 3, none⟩ = false := (H0.out.c (.head _) 3).2
  have H2 : Hid _ := (Cr.put (pre := []) (Cr.put (pre := []) (Cr.put (pre := []) (Cr.put (pre := []) H0.out 0 (.int .u32 0) (cs' := #[.int .u32 0, .int .u32 0, .bool false, .slice none 0 0]) rfl) 1 (.int .u32 0) (cs' := #[.int .u32 0, .int .u32 0, .bool false, .slice none 0 0]) rfl) 2 (.bool false) (cs' := #[.int .u32 0, .int .u32 0, .bool false, .slice none 0 0]) rfl) 3 (.slice none 0 0) (cs' := #[.int .u32 0, .int .u32 0, .bool false, .slice none 0 0]) rfl)
  clear H0
  go_wp2
  exact bodyPost_ret (results_cell_tmp1 rfl _ _ (w.heap.size) 57 #[.int .u32 0, .int .u32 0, .bool false, .slice none 0 0] (0, 0) _ rfl (H2.out.box _ (.head _)).1 Try.underlying57 rfl inf_43) rfl ⟨0, 0, false, [], 0, 0, ov, l, _, none, 0, rfl, hres, rfl, H2.out.inb, H2.out.act, H2.out.row, H2.out.rn⟩
set_option maxHeartbeats 4000000 in
theorem ropt_b {w : World} {B b : Nat} {v : Value} {rm ov : Nat} {l : List Nat} (h : RIn w B b v rm ov l) (m : Nat) (hm : m < 4294967296) (hs : ov = 0 ∧ 16 ≤ l.length) (hx : ((vl l 0 8 : Int) != 5280542401877725268) = true) (hres : optC m ov l = ((0, 0, false, []), 2, ov, l)) :
    Calls Try.prog 43 #[.pointer (some ⟨b, 0, none⟩), .int .u32 m] w fun e w' => ∃ (x0 x1 : Nat) (lg : Bool) (d : List Nat) (dn cu ov' : Nat) (l' : List Nat) (v' : Value) (ao2 : Option Addr) (cap2 : Nat), e = .returned (.tuple #[.agg #[.int .u32 x0, .int .u32 x1, .bool lg, .slice ao2 dn cap2], .int .i64 cu]) ∧ optC m ov l = ((x0, x1, lg, d), cu, ov', l') ∧ d.length = dn ∧ RIn w' B b v' rm ov' l' ∧ RAct w w' b v v' ∧ w'.ownsRow w.heap.size 5 1 (.slice ao2 dn cap2) dn (d.map bv) ∧ ∀ g, (Value.slice ao2 dn cap2).ownBlock = some g → v'.ownBlock ≠ some g := by
  replace hres : Hid _ := hres
  have h5 : 57 ≠ 5 := by decide
  obtain ⟨W0, hW0⟩ : ∃ W0, W0 = w.alloc (.cells #[.int .u32 0, .int .u32 0, .bool false, .slice none 0 0] 57) := ⟨_, rfl⟩
  have hC0 := (Cr.start h).alloc #[.int .u32 0, .int .u32 0, .bool false, .slice none 0 0] 57 h5
  rw [← hW0] at hC0
  have H0 : Hid _ := hC0
  clear hC0
  clear h
  go_enter Try.func43, Try.ntmps43
  have HA1 : Hid _ := hasT H0.out.inb (16) hs
  go_wp2_with fail
  rw [← hW0]
  clear hW0
  refine Calls.mono HA1.out ?_
  rintro e Wn ⟨rfl, hw⟩
  rw [hw]; clear hw Wn HA1
  have HA2 : Hid _ := uRx H0.out.inb 0 8 (by have := hs.2; omega) (by decide) (by decide) rfl
  go_wp2_with fail
  refine Calls.mono HA2.out ?_
  rintro e W2 ⟨rfl, hb⟩
  have H2 : Hid _ := H0.out.later hb
  clear hb H0 HA2
  have y0 : W2.cell? ⟨w.heap.size, 0, none⟩ = some (.int .u32 0) := (H2.out.c (.head _) 0).1
  have yf0 : W2.frozen? ⟨w.heap.size, 0, none⟩ = false := (H2.out.c (.head _) 0).2
  have y1 : W2.cell? ⟨w.heap.size, 1, none⟩ = some (.int .u32 0) := (H2.out.c (.head _) 1).1
  have yf1 : W2.frozen? ⟨w.heap.size, 1, none⟩ = false := (H2.out.c (.head _) 1).2
  have y2 : W2.cell? ⟨w.heap.size, 2, none⟩ = some (.bool false) := (H2.out.c (.head _) 2).1
  have yf2 : W2.frozen? ⟨w.heap.size, 2, none⟩ = false := (H2.out.c (.head _) 2).2
  have y3 : W2.cell? ⟨w.heap.size, 3, none⟩ = some (.slice none 0 0) := (H2.out.c (.head _) 3).1
  have yf3 : W2.frozen? ⟨w.heap.size, 3, none⟩ = false := (H2.out.c (.head _) 3).2
  have H3 : Hid _ := (Cr.put (pre := []) (Cr.put (pre := []) (Cr.put (pre := []) (Cr.put (pre := []) H2.out 0 (.int .u32 0) (cs' := #[.int .u32 0, .int .u32 0, .bool false, .slice none 0 0]) rfl) 1 (.int .u32 0) (cs' := #[.int .u32 0, .int .u32 0, .bool false, .slice none 0 0]) rfl) 2 (.bool false) (cs' := #[.int .u32 0, .int .u32 0, .bool false, .slice none 0 0]) rfl) 3 (.slice none 0 0) (cs' := #[.int .u32 0, .int .u32 0, .bool false, .slice none 0 0]) rfl)
  clear H2
  go_wp2
  exact bodyPost_ret (results_cell_tmp1 rfl _ _ (w.heap.size) 57 #[.int .u32 0, .int .u32 0, .bool false, .slice none 0 0] (0, 0) _ rfl (H3.out.box _ (.head _)).1 Try.underlying57 rfl inf_43) rfl ⟨0, 0, false, [], 0, 2, ov, l, _, none, 0, rfl, hres, rfl, H3.out.inb, H3.out.act, H3.out.row, H3.out.rn⟩
set_option maxHeartbeats 4000000 in
theorem ropt_d {w : World} {B b : Nat} {v : Value} {rm ov : Nat} {l : List Nat} (h : RIn w B b v rm ov l) (m : Nat) (hm : m < 4294967296) (hs : ov = 0 ∧ 16 ≤ l.length) (hx : vl l 0 8 = 5280542401877725268) (x0 x1 : Nat) (hx0 : vl l 8 4 = x0) (hx1 : vl l 12 4 = x1) (b0 : x0 < 4294967296) (b1 : x1 < 4294967296) (hmk : ¬ (m : Int) < (x1 : Int)) (hs2 : ¬ (ov = 0 ∧ 16 + x1 ≤ l.length)) (hres : optC m ov l = ((0, 0, false, []), 0, ov, l)) :
    Calls Try.prog 43 #[.pointer (some ⟨b, 0, none⟩), .int .u32 m] w fun e w' => ∃ (x0 x1 : Nat) (lg : Bool) (d : List Nat) (dn cu ov' : Nat) (l' : List Nat) (v' : Value) (ao2 : Option Addr) (cap2 : Nat), e = .returned (.tuple #[.agg #[.int .u32 x0, .int .u32 x1, .bool lg, .slice ao2 dn cap2], .int .i64 cu]) ∧ optC m ov l = ((x0, x1, lg, d), cu, ov', l') ∧ d.length = dn ∧ RIn w' B b v' rm ov' l' ∧ RAct w w' b v v' ∧ w'.ownsRow w.heap.size 5 1 (.slice ao2 dn cap2) dn (d.map bv) ∧ ∀ g, (Value.slice ao2 dn cap2).ownBlock = some g → v'.ownBlock ≠ some g := by
  replace hres : Hid _ := hres
  have h5 : 57 ≠ 5 := by decide
  obtain ⟨W0, hW0⟩ : ∃ W0, W0 = w.alloc (.cells #[.int .u32 0, .int .u32 0, .bool false, .slice none 0 0] 57) := ⟨_, rfl⟩
  have hC0 := (Cr.start h).alloc #[.int .u32 0, .int .u32 0, .bool false, .slice none 0 0] 57 h5
  rw [← hW0] at hC0
  have H0 : Hid _ := hC0
  clear hC0
  clear h
  go_enter Try.func43, Try.ntmps43
  have HA1 : Hid _ := hasT H0.out.inb (16) hs
  go_wp2_with fail
  rw [← hW0]
  clear hW0
  refine Calls.mono HA1.out ?_
  rintro e Wn ⟨rfl, hw⟩
  rw [hw]; clear hw Wn HA1
  have HA2 : Hid _ := uRx H0.out.inb 0 8 (by have := hs.2; omega) (by decide) (by decide) hx
  go_wp2_with fail
  refine Calls.mono HA2.out ?_
  rintro e W2 ⟨rfl, hb⟩
  have H2 : Hid _ := H0.out.later hb
  clear hb H0 HA2
  have HA3 : Hid _ := uRx H2.out.inb 8 4 (by have := hs.2; omega) (by decide) (by decide) hx0
  go_wp2_with fail
  refine Calls.mono HA3.out ?_
  rintro e W3 ⟨rfl, hb⟩
  have H3 : Hid _ := H2.out.later hb
  clear hb H2 HA3
  have HA4 : Hid _ := uRx H3.out.inb 12 4 (by have := hs.2; omega) (by decide) (by decide) hx1
  go_wp2_with fail
  refine Calls.mono HA4.out ?_
  rintro e W4 ⟨rfl, hb⟩
  have H4 : Hid _ := H3.out.later hb
  clear hb H3 HA4
  have hq := H4.out.alloc #[.int .u32 x0, .int .u32 x1, .bool false, .slice none 0 0] 57 (by decide)
  generalize hW5 : W4.alloc (.cells #[.int .u32 x0, .int .u32 x1, .bool false, .slice none 0 0] 57) = W5 at hq
  have H5 : Hid _ := hq
  clear hq H4
  have HW5 : Hid _ := hW5
  clear hW5
  go_upto_region 6 with fail
  rw [show _ = _ from HW5.out]
  clear HW5
  have q0 : W5.cell? ⟨W4.heap.size, 0, none⟩ = some (.int .u32 x0) := (H5.out.c (.head _) 0).1
  have q1 : W5.cell? ⟨W4.heap.size, 1, none⟩ = some (.int .u32 x1) := (H5.out.c (.head _) 1).1
  have q2 : W5.cell? ⟨W4.heap.size, 2, none⟩ = some (.bool false) := (H5.out.c (.head _) 2).1
  have q3 : W5.cell? ⟨W4.heap.size, 3, none⟩ = some (.slice none 0 0) := (H5.out.c (.head _) 3).1
  have HA6 : Hid _ := hasFz H5.out.inb (16 + x1) (16 + (x1 : Int)) (by omega) hs2
  go_wp2_with fail
  refine Calls.mono HA6.out ?_
  rintro e Wn ⟨rfl, hw⟩
  rw [hw]; clear hw Wn HA6
  clear q0 q1 q2 q3
  have y0 : W5.cell? ⟨w.heap.size, 0, none⟩ = some (.int .u32 0) := (H5.out.c (.tail _ (.head _)) 0).1
  have yf0 : W5.frozen? ⟨w.heap.size, 0, none⟩ = false := (H5.out.c (.tail _ (.head _)) 0).2
  have y1 : W5.cell? ⟨w.heap.size, 1, none⟩ = some (.int .u32 0) := (H5.out.c (.tail _ (.head _)) 1).1
  have yf1 : W5.frozen? ⟨w.heap.size, 1, none⟩ = false := (H5.out.c (.tail _ (.head _)) 1).2
  have y2 : W5.cell? ⟨w.heap.size, 2, none⟩ = some (.bool false) := (H5.out.c (.tail _ (.head _)) 2).1
  have yf2 : W5.frozen? ⟨w.heap.size, 2, none⟩ = false := (H5.out.c (.tail _ (.head _)) 2).2
  have y3 : W5.cell? ⟨w.heap.size, 3, none⟩ = some (.slice none 0 0) := (H5.out.c (.tail _ (.head _)) 3).1
  have yf3 : W5.frozen? ⟨w.heap.size, 3, none⟩ = false := (H5.out.c (.tail _ (.head _)) 3).2
  have H7 : Hid _ := (Cr.put (pre := [(W4.heap.size, #[.int .u32 x0, .int .u32 x1, .bool false, .slice none 0 0], 57)]) (Cr.put (pre := [(W4.heap.size, #[.int .u32 x0, .int .u32 x1, .bool false, .slice none 0 0], 57)]) (Cr.put (pre := [(W4.heap.size, #[.int .u32 x0, .int .u32 x1, .bool false, .slice none 0 0], 57)]) (Cr.put (pre := [(W4.heap.size, #[.int .u32 x0, .int .u32 x1, .bool false, .slice none 0 0], 57)]) H5.out 0 (.int .u32 0) (cs' := #[.int .u32 0, .int .u32 0, .bool false, .slice none 0 0]) rfl) 1 (.int .u32 0) (cs' := #[.int .u32 0, .int .u32 0, .bool false, .slice none 0 0]) rfl) 2 (.bool false) (cs' := #[.int .u32 0, .int .u32 0, .bool false, .slice none 0 0]) rfl) 3 (.slice none 0 0) (cs' := #[.int .u32 0, .int .u32 0, .bool false, .slice none 0 0]) rfl)
  clear H5
  go_wp2
  exact bodyPost_ret (results_cell_tmp1 rfl _ _ (w.heap.size) 57 #[.int .u32 0, .int .u32 0, .bool false, .slice none 0 0] (0, 0) _ rfl (H7.out.box _ (.tail _ (.head _))).1 Try.underlying57 rfl inf_43) rfl ⟨0, 0, false, [], 0, 0, ov, l, _, none, 0, rfl, hres, rfl, H7.out.inb, H7.out.act, H7.out.row, H7.out.rn⟩
set_option maxHeartbeats 4000000 in
theorem ropt_e {w : World} {B b : Nat} {v : Value} {rm ov : Nat} {l : List Nat} (h : RIn w B b v rm ov l) (m : Nat) (hm : m < 4294967296) (hs : ov = 0 ∧ 16 ≤ l.length) (hx : vl l 0 8 = 5280542401877725268) (x0 x1 : Nat) (hx0 : vl l 8 4 = x0) (hx1 : vl l 12 4 = x1) (b0 : x0 < 4294967296) (b1 : x1 < 4294967296) (hmk : ¬ (m : Int) < (x1 : Int)) (hs2 : ov = 0 ∧ 16 + x1 ≤ l.length) (hres : optC m ov l = ((x0, x1, false, (l.drop 16).take x1), 1, ov, (l.drop 16).drop x1)) :
    Calls Try.prog 43 #[.pointer (some ⟨b, 0, none⟩), .int .u32 m] w fun e w' => ∃ (x0 x1 : Nat) (lg : Bool) (d : List Nat) (dn cu ov' : Nat) (l' : List Nat) (v' : Value) (ao2 : Option Addr) (cap2 : Nat), e = .returned (.tuple #[.agg #[.int .u32 x0, .int .u32 x1, .bool lg, .slice ao2 dn cap2], .int .i64 cu]) ∧ optC m ov l = ((x0, x1, lg, d), cu, ov', l') ∧ d.length = dn ∧ RIn w' B b v' rm ov' l' ∧ RAct w w' b v v' ∧ w'.ownsRow w.heap.size 5 1 (.slice ao2 dn cap2) dn (d.map bv) ∧ ∀ g, (Value.slice ao2 dn cap2).ownBlock = some g → v'.ownBlock ≠ some g := by
  replace hres : Hid _ := hres
  have h5 : 57 ≠ 5 := by decide
  obtain ⟨W0, hW0⟩ : ∃ W0, W0 = w.alloc (.cells #[.int .u32 0, .int .u32 0, .bool false, .slice none 0 0] 57) := ⟨_, rfl⟩
  have hC0 := (Cr.start h).alloc #[.int .u32 0, .int .u32 0, .bool false, .slice none 0 0] 57 h5
  rw [← hW0] at hC0
  have H0 : Hid _ := hC0
  clear hC0
  clear h
  go_enter Try.func43, Try.ntmps43
  have HA1 : Hid _ := hasT H0.out.inb (16) hs
  go_wp2_with fail
  rw [← hW0]
  clear hW0
  refine Calls.mono HA1.out ?_
  rintro e Wn ⟨rfl, hw⟩
  rw [hw]; clear hw Wn HA1
  have HA2 : Hid _ := uRx H0.out.inb 0 8 (by have := hs.2; omega) (by decide) (by decide) hx
  go_wp2_with fail
  refine Calls.mono HA2.out ?_
  rintro e W2 ⟨rfl, hb⟩
  have H2 : Hid _ := H0.out.later hb
  clear hb H0 HA2
  have HA3 : Hid _ := uRx H2.out.inb 8 4 (by have := hs.2; omega) (by decide) (by decide) hx0
  go_wp2_with fail
  refine Calls.mono HA3.out ?_
  rintro e W3 ⟨rfl, hb⟩
  have H3 : Hid _ := H2.out.later hb
  clear hb H2 HA3
  have HA4 : Hid _ := uRx H3.out.inb 12 4 (by have := hs.2; omega) (by decide) (by decide) hx1
  go_wp2_with fail
  refine Calls.mono HA4.out ?_
  rintro e W4 ⟨rfl, hb⟩
  have H4 : Hid _ := H3.out.later hb
  clear hb H3 HA4
  have hq := H4.out.alloc #[.int .u32 x0, .int .u32 x1, .bool false, .slice none 0 0] 57 (by decide)
  generalize hW5 : W4.alloc (.cells #[.int .u32 x0, .int .u32 x1, .bool false, .slice none 0 0] 57) = W5 at hq
  have H5 : Hid _ := hq
  clear hq H4
  have HW5 : Hid _ := hW5
  clear hW5
  go_upto_region 6 with fail
  rw [show _ = _ from HW5.out]
  clear HW5
  have q0 : W5.cell? ⟨W4.heap.size, 0, none⟩ = some (.int .u32 x0) := (H5.out.c (.head _) 0).1
  have q1 : W5.cell? ⟨W4.heap.size, 1, none⟩ = some (.int .u32 x1) := (H5.out.c (.head _) 1).1
  have q2 : W5.cell? ⟨W4.heap.size, 2, none⟩ = some (.bool false) := (H5.out.c (.head _) 2).1
  have q3 : W5.cell? ⟨W4.heap.size, 3, none⟩ = some (.slice none 0 0) := (H5.out.c (.head _) 3).1
  have HA6 : Hid _ := hasTz H5.out.inb (16 + x1) (16 + (x1 : Int)) (by omega) hs2
  go_wp2_with fail
  refine Calls.mono HA6.out ?_
  rintro e Wn ⟨rfl, hw⟩
  rw [hw]; clear hw Wn HA6
  clear q0 q1 q2 q3
  have HA7 : Hid _ := cutR H5.out.inb 16 (by have := hs.2; omega)
  go_wp2_with fail
  refine Calls.mono HA7.out ?_
  rintro e W7 ⟨ao1, cap1, vn7, rfl, hI, hA, hr, hn⟩
  have hd7 : (l.take (16)).length = 16 := by rw [List.length_take]; exact Nat.min_eq_left (by have := hs.2; omega)
  have H7 : Hid _ := H5.out.told2 (d' := l.take (16)) hI hA (by rw [hd7]; exact hr) hn
  clear hI hA hr hn H5 HA7
  have q0 : W7.cell? ⟨W4.heap.size, 0, none⟩ = some (.int .u32 x0) := (H7.out.c (.head _) 0).1
  have q1 : W7.cell? ⟨W4.heap.size, 1, none⟩ = some (.int .u32 x1) := (H7.out.c (.head _) 1).1
  have q2 : W7.cell? ⟨W4.heap.size, 2, none⟩ = some (.bool false) := (H7.out.c (.head _) 2).1
  have q3 : W7.cell? ⟨W4.heap.size, 3, none⟩ = some (.slice none 0 0) := (H7.out.c (.head _) 3).1
  have HA8 : Hid _ := cutR H7.out.inb x1 (by have := hs2.2; rw [List.length_drop]; omega)
  go_wp2_with fail
  refine Calls.mono HA8.out ?_
  rintro e W8 ⟨ao2, cap2, vn8, rfl, hI, hA, hr, hn⟩
  have hd8 : ((l.drop 16).take (x1)).length = x1 := by rw [List.length_take]; exact Nat.min_eq_left (by have := hs2.2; rw [List.length_drop]; omega)
  have H8 : Hid _ := H7.out.told2 (d' := (l.drop 16).take (x1)) hI hA (by rw [hd8]; exact hr) hn
  clear hI hA hr hn H7 HA8
  clear q0 q1 q2 q3
  have q0 : W8.cell? ⟨W4.heap.size, 0, none⟩ = some (.int .u32 x0) := (H8.out.c (.head _) 0).1
  have qf0 : W8.frozen? ⟨W4.heap.size, 0, none⟩ = false := (H8.out.c (.head _) 0).2
  have q1 : W8.cell? ⟨W4.heap.size, 1, none⟩ = some (.int .u32 x1) := (H8.out.c (.head _) 1).1
  have qf1 : W8.frozen? ⟨W4.heap.size, 1, none⟩ = false := (H8.out.c (.head _) 1).2
  have q2 : W8.cell? ⟨W4.heap.size, 2, none⟩ = some (.bool false) := (H8.out.c (.head _) 2).1
  have qf2 : W8.frozen? ⟨W4.heap.size, 2, none⟩ = false := (H8.out.c (.head _) 2).2
  have q3 : W8.cell? ⟨W4.heap.size, 3, none⟩ = some (.slice none 0 0) := (H8.out.c (.head _) 3).1
  have qf3 : W8.frozen? ⟨W4.heap.size, 3, none⟩ = false := (H8.out.c (.head _) 3).2
  have H9 : Hid _ := (Cr.put (pre := []) H8.out 3 (.slice ao2 x1 cap2) (cs' := #[.int .u32 x0, .int .u32 x1, .bool false, .slice ao2 x1 cap2]) rfl)
  clear H8
  obtain ⟨Wz, hWz⟩ : ∃ Wz, W8.setCell ⟨W4.heap.size, 3, none⟩ (.slice ao2 x1 cap2) = Wz := ⟨_, rfl⟩
  rw [hWz] at H9
  go_upto_region 20 with fail
  clear hWz
  clear q0 qf0 q1 qf1 q2 qf2 q3 qf3
  have q0 : Wz.cell? ⟨W4.heap.size, 0, none⟩ = some (.int .u32 x0) := (H9.out.c (.head _) 0).1
  have q1 : Wz.cell? ⟨W4.heap.size, 1, none⟩ = some (.int .u32 x1) := (H9.out.c (.head _) 1).1
  have q2 : Wz.cell? ⟨W4.heap.size, 2, none⟩ = some (.bool false) := (H9.out.c (.head _) 2).1
  have q3 : Wz.cell? ⟨W4.heap.size, 3, none⟩ = some (.slice ao2 x1 cap2) := (H9.out.c (.head _) 3).1
  have y0 : Wz.cell? ⟨w.heap.size, 0, none⟩ = some (.int .u32 0) := (H9.out.c (.tail _ (.head _)) 0).1
  have yf0 : Wz.frozen? ⟨w.heap.size, 0, none⟩ = false := (H9.out.c (.tail _ (.head _)) 0).2
  have y1 : Wz.cell? ⟨w.heap.size, 1, none⟩ = some (.int .u32 0) := (H9.out.c (.tail _ (.head _)) 1).1
  have yf1 : Wz.frozen? ⟨w.heap.size, 1, none⟩ = false := (H9.out.c (.tail _ (.head _)) 1).2
  have y2 : Wz.cell? ⟨w.heap.size, 2, none⟩ = some (.bool false) := (H9.out.c (.tail _ (.head _)) 2).1
  have yf2 : Wz.frozen? ⟨w.heap.size, 2, none⟩ = false := (H9.out.c (.tail _ (.head _)) 2).2
  have y3 : Wz.cell? ⟨w.heap.size, 3, none⟩ = some (.slice none 0 0) := (H9.out.c (.tail _ (.head _)) 3).1
  have yf3 : Wz.frozen? ⟨w.heap.size, 3, none⟩ = false := (H9.out.c (.tail _ (.head _)) 3).2
  have H10 : Hid _ := (Cr.put (pre := [(W4.heap.size, #[.int .u32 x0, .int .u32 x1, .bool false, .slice ao2 x1 cap2], 57)]) (Cr.put (pre := [(W4.heap.size, #[.int .u32 x0, .int .u32 x1, .bool false, .slice ao2 x1 cap2], 57)]) (Cr.put (pre := [(W4.heap.size, #[.int .u32 x0, .int .u32 x1, .bool false, .slice ao2 x1 cap2], 57)]) (Cr.put (pre := [(W4.heap.size, #[.int .u32 x0, .int .u32 x1, .bool false, .slice ao2 x1 cap2], 57)]) H9.out 0 (.int .u32 x0) (cs' := #[.int .u32 x0, .int .u32 0, .bool false, .slice none 0 0]) rfl) 1 (.int .u32 x1) (cs' := #[.int .u32 x0, .int .u32 x1, .bool false, .slice none 0 0]) rfl) 2 (.bool false) (cs' := #[.int .u32 x0, .int .u32 x1, .bool false, .slice none 0 0]) rfl) 3 (.slice ao2 x1 cap2) (cs' := #[.int .u32 x0, .int .u32 x1, .bool false, .slice ao2 x1 cap2]) rfl)
  clear H9
  go_wp2
  exact bodyPost_ret (results_cell_tmp1 rfl _ _ (w.heap.size) 57 #[.int .u32 x0, .int .u32 x1, .bool false, .slice ao2 x1 cap2] (0, 0) _ rfl (H10.out.box _ (.tail _ (.head _))).1 Try.underlying57 rfl inf_43) rfl ⟨x0, x1, false, (l.drop 16).take x1, x1, 1, ov, (l.drop 16).drop x1, _, ao2, cap2, rfl, hres, hd8, H10.out.inb, H10.out.act, by have q := H10.out.row; rw [hd8] at q; exact q, H10.out.rn⟩
set_option maxHeartbeats 4000000 in
theorem ropt_c {w : World} {B b : Nat} {v : Value} {rm ov : Nat} {l : List Nat} (h : RIn w B b v rm ov l) (m : Nat) (hm : m < 4294967296) (hs : ov = 0 ∧ 16 ≤ l.length) (hx : vl l 0 8 = 5280542401877725268) (x0 x1 : Nat) (hx0 : vl l 8 4 = x0) (hx1 : vl l 12 4 = x1) (b0 : x0 < 4294967296) (b1 : x1 < 4294967296) (hmk : (m : Int) < (x1 : Int)) (R : Nat) (hR : (l.drop 16).length = R) (hRk : ¬ (x1 : Int) < (R : Int)) (hres : optC m ov l = ((x0, x1, true, []), 1, x1 - R, (l.drop 16).drop R)) :
    Calls Try.prog 43 #[.pointer (some ⟨b, 0, none⟩), .int .u32 m] w fun e w' => ∃ (x0 x1 : Nat) (lg : Bool) (d : List Nat) (dn cu ov' : Nat) (l' : List Nat) (v' : Value) (ao2 : Option Addr) (cap2 : Nat), e = .returned (.tuple #[.agg #[.int .u32 x0, .int .u32 x1, .bool lg, .slice ao2 dn cap2], .int .i64 cu]) ∧ optC m ov l = ((x0, x1, lg, d), cu, ov', l') ∧ d.length = dn ∧ RIn w' B b v' rm ov' l' ∧ RAct w w' b v v' ∧ w'.ownsRow w.heap.size 5 1 (.slice ao2 dn cap2) dn (d.map bv) ∧ ∀ g, (Value.slice ao2 dn cap2).ownBlock = some g → v'.ownBlock ≠ some g := by
  replace hres : Hid _ := hres
  have h5 : 57 ≠ 5 := by decide
  obtain ⟨W0, hW0⟩ : ∃ W0, W0 = w.alloc (.cells #[.int .u32 0, .int .u32 0, .bool false, .slice none 0 0] 57) := ⟨_, rfl⟩
  have hC0 := (Cr.start h).alloc #[.int .u32 0, .int .u32 0, .bool false, .slice none 0 0] 57 h5
  rw [← hW0] at hC0
  have H0 : Hid _ := hC0
  clear hC0
  clear h
  go_enter Try.func43, Try.ntmps43
  have HA1 : Hid _ := hasT H0.out.inb (16) hs
  go_wp2_with fail
  rw [← hW0]
  clear hW0
  refine Calls.mono HA1.out ?_
  rintro e Wn ⟨rfl, hw⟩
  rw [hw]; clear hw Wn HA1
  have HA2 : Hid _ := uRx H0.out.inb 0 8 (by have := hs.2; omega) (by decide) (by decide) hx
  go_wp2_with fail
  refine Calls.mono HA2.out ?_
  rintro e W2 ⟨rfl, hb⟩
  have H2 : Hid _ := H0.out.later hb
  clear hb H0 HA2
  have HA3 : Hid _ := uRx H2.out.inb 8 4 (by have := hs.2; omega) (by decide) (by decide) hx0
  go_wp2_with fail
  refine Calls.mono HA3.out ?_
  rintro e W3 ⟨rfl, hb⟩
  have H3 : Hid _ := H2.out.later hb
  clear hb H2 HA3
  have HA4 : Hid _ := uRx H3.out.inb 12 4 (by have := hs.2; omega) (by decide) (by decide) hx1
  go_wp2_with fail
  refine Calls.mono HA4.out ?_
  rintro e W4 ⟨rfl, hb⟩
  have H4 : Hid _ := H3.out.later hb
  clear hb H3 HA4
  have hq := H4.out.alloc #[.int .u32 x0, .int .u32 x1, .bool false, .slice none 0 0] 57 (by decide)
  generalize hW5 : W4.alloc (.cells #[.int .u32 x0, .int .u32 x1, .bool false, .slice none 0 0] 57) = W5 at hq
  have H5 : Hid _ := hq
  clear hq H4
  have HW5 : Hid _ := hW5
  clear hW5
  go_upto_region 6 with fail
  rw [show _ = _ from HW5.out]
  clear HW5
  have q0 : W5.cell? ⟨W4.heap.size, 0, none⟩ = some (.int .u32 x0) := (H5.out.c (.head _) 0).1
  have qf0 : W5.frozen? ⟨W4.heap.size, 0, none⟩ = false := (H5.out.c (.head _) 0).2
  have q1 : W5.cell? ⟨W4.heap.size, 1, none⟩ = some (.int .u32 x1) := (H5.out.c (.head _) 1).1
  have qf1 : W5.frozen? ⟨W4.heap.size, 1, none⟩ = false := (H5.out.c (.head _) 1).2
  have q2 : W5.cell? ⟨W4.heap.size, 2, none⟩ = some (.bool false) := (H5.out.c (.head _) 2).1
  have qf2 : W5.frozen? ⟨W4.heap.size, 2, none⟩ = false := (H5.out.c (.head _) 2).2
  have q3 : W5.cell? ⟨W4.heap.size, 3, none⟩ = some (.slice none 0 0) := (H5.out.c (.head _) 3).1
  have qf3 : W5.frozen? ⟨W4.heap.size, 3, none⟩ = false := (H5.out.c (.head _) 3).2
  have H6 : Hid _ := (Cr.put (pre := []) H5.out 2 (.bool true) (cs' := #[.int .u32 x0, .int .u32 x1, .bool true, .slice none 0 0]) rfl)
  clear H5
  obtain ⟨Wz, hWz⟩ : ∃ Wz, W5.setCell ⟨W4.heap.size, 2, none⟩ (.bool true) = Wz := ⟨_, rfl⟩
  rw [hWz] at H6
  go_upto_region 8 with fail
  clear hWz
  clear q0 qf0 q1 qf1 q2 qf2 q3 qf3
  have HA7 : Hid _ := cutR H6.out.inb 16 (by have := hs.2; omega)
  go_wp2_with fail
  refine Calls.mono HA7.out ?_
  rintro e W7 ⟨ao1, cap1, vn7, rfl, hI, hA, hr, hn⟩
  have hd7 : (l.take (16)).length = 16 := by rw [List.length_take]; exact Nat.min_eq_left (by have := hs.2; omega)
  have H7 : Hid _ := H6.out.told2 (d' := l.take (16)) hI hA (by rw [hd7]; exact hr) hn
  clear hI hA hr hn H6 HA7
  have q1 : W7.cell? ⟨W4.heap.size, 1, none⟩ = some (.int .u32 x1) := (H7.out.c (.head _) 1).1
  have i2 : W7.cell? ⟨b, 2, none⟩ = some (.int .u64 ov) := H7.out.inb.c 2
  have if2 : W7.frozen? ⟨b, 2, none⟩ = false := H7.out.inb.f 2
  obtain ⟨Wp, hWp⟩ : ∃ Wp, W7.setCell ⟨b, 2, none⟩ (.int .u64 x1) = Wp := ⟨_, rfl⟩
  have HP1 : Hid _ := H7.out.pass x1 b1
  rw [hWp] at HP1
  clear H7
  go_upto_region 10 with fail
  clear hWp
  clear q1 i2 if2
  obtain ⟨aoB, capB, hvB, hcB⟩ := HP1.out.inb.row.crow
  clear hcB
  have i1 : Wp.cell? ⟨b, 1, none⟩ = some (.slice aoB R capB) := by have := HP1.out.inb.c 1; rw [hvB, hR] at this; exact this
  clear hvB
  have i2 : Wp.cell? ⟨b, 2, none⟩ = some (.int .u64 x1) := HP1.out.inb.c 2
  have hRb : R ≤ 2097152 := by have := HP1.out.inb.row.len; rw [hR] at this; exact this
  replace hR : Hid _ := hR
  have HA8 : Hid _ := cutR HP1.out.inb R (by have h9 : (l.drop 16).length = R := hR; rw [h9]; omega)
  go_wp2_with fail
  refine Calls.mono HA8.out ?_
  rintro e W8 ⟨ao2, cap2, vn8, rfl, hI, hA, hr, hn⟩
  have hd8 : ((l.drop 16).take (R)).length = R := by rw [List.length_take]; exact Nat.min_eq_left (by have h9 : (l.drop 16).length = R := hR; rw [h9]; omega)
  have H8 : Hid _ := HP1.out.told2 (d' := (l.drop 16).take (R)) hI hA (by rw [hd8]; exact hr) hn
  clear hI hA hr hn HP1 HA8
  clear i1 i2
  have i2 : W8.cell? ⟨b, 2, none⟩ = some (.int .u64 x1) := H8.out.inb.c 2
  have if2 : W8.frozen? ⟨b, 2, none⟩ = false := H8.out.inb.f 2
  obtain ⟨Wq, hWq⟩ : ∃ Wq, W8.setCell ⟨b, 2, none⟩ (.int .u64 ((x1 : Int) - (R : Int))) = Wq := ⟨_, rfl⟩
  have HP2 := H8.out.pass (x1 - R) (by omega)
  rw [show ((x1 - R : Nat) : Int) = (x1 : Int) - (R : Int) by omega] at HP2
  rw [hWq] at HP2
  replace HP2 : Hid _ := HP2
  clear H8
  go_upto_region 15 with fail
  clear hWq
  clear i2 if2
  have HP3 : Hid _ := HP2.out.nodata
  clear HP2
  have q0 : Wq.cell? ⟨W4.heap.size, 0, none⟩ = some (.int .u32 x0) := (HP3.out.c (.head _) 0).1
  have q1 : Wq.cell? ⟨W4.heap.size, 1, none⟩ = some (.int .u32 x1) := (HP3.out.c (.head _) 1).1
  have q2 : Wq.cell? ⟨W4.heap.size, 2, none⟩ = some (.bool true) := (HP3.out.c (.head _) 2).1
  have q3 : Wq.cell? ⟨W4.heap.size, 3, none⟩ = some (.slice none 0 0) := (HP3.out.c (.head _) 3).1
  have y0 : Wq.cell? ⟨w.heap.size, 0, none⟩ = some (.int .u32 0) := (HP3.out.c (.tail _ (.head _)) 0).1
  have yf0 : Wq.frozen? ⟨w.heap.size, 0, none⟩ = false := (HP3.out.c (.tail _ (.head _)) 0).2
  have y1 : Wq.cell? ⟨w.heap.size, 1, none⟩ = some (.int .u32 0) := (HP3.out.c (.tail _ (.head _)) 1).1
  have yf1 : Wq.frozen? ⟨w.heap.size, 1, none⟩ = false := (HP3.out.c (.tail _ (.head _)) 1).2
  have y2 : Wq.cell? ⟨w.heap.size, 2, none⟩ = some (.bool false) := (HP3.out.c (.tail _ (.head _)) 2).1
  have yf2 : Wq.frozen? ⟨w.heap.size, 2, none⟩ = false := (HP3.out.c (.tail _ (.head _)) 2).2
  have y3 : Wq.cell? ⟨w.heap.size, 3, none⟩ = some (.slice none 0 0) := (HP3.out.c (.tail _ (.head _)) 3).1
  have yf3 : Wq.frozen? ⟨w.heap.size, 3, none⟩ = false := (HP3.out.c (.tail _ (.head _)) 3).2
  have H9 : Hid _ := (Cr.put (pre := [(W4.heap.size, #[.int .u32 x0, .int .u32 x1, .bool true, .slice none 0 0], 57)]) (Cr.put (pre := [(W4.heap.size, #[.int .u32 x0, .int .u32 x1, .bool true, .slice none 0 0], 57)]) (Cr.put (pre := [(W4.heap.size, #[.int .u32 x0, .int .u32 x1, .bool true, .slice none 0 0], 57)]) (Cr.put (pre := [(W4.heap.size, #[.int .u32 x0, .int .u32 x1, .bool true, .slice none 0 0], 57)]) HP3.out 0 (.int .u32 x0) (cs' := #[.int .u32 x0, .int .u32 0, .bool false, .slice none 0 0]) rfl) 1 (.int .u32 x1) (cs' := #[.int .u32 x0, .int .u32 x1, .bool false, .slice none 0 0]) rfl) 2 (.bool true) (cs' := #[.int .u32 x0, .int .u32 x1, .bool true, .slice none 0 0]) rfl) 3 (.slice none 0 0) (cs' := #[.int .u32 x0, .int .u32 x1, .bool true, .slice none 0 0]) rfl)
  clear HP3
  go_wp2
  exact bodyPost_ret (results_cell_tmp1 rfl _ _ (w.heap.size) 57 #[.int .u32 x0, .int .u32 x1, .bool true, .slice none 0 0] (0, 0) _ rfl (H9.out.box _ (.tail _ (.head _))).1 Try.underlying57 rfl inf_43) rfl ⟨x0, x1, true, [], 0, 1, x1 - R, (l.drop 16).drop R, _, none, 0, rfl, hres, rfl, H9.out.inb, H9.out.act, H9.out.row, H9.out.rn⟩
set_option maxHeartbeats 4000000 in
theorem ropt_f {w : World} {B b : Nat} {v : Value} {rm ov : Nat} {l : List Nat} (h : RIn w B b v rm ov l) (m : Nat) (hm : m < 4294967296) (hs : ov = 0 ∧ 16 ≤ l.length) (hx : vl l 0 8 = 5280542401877725268) (x0 x1 : Nat) (hx0 : vl l 8 4 = x0) (hx1 : vl l 12 4 = x1) (b0 : x0 < 4294967296) (b1 : x1 < 4294967296) (hmk : (m : Int) < (x1 : Int)) (R : Nat) (hR : (l.drop 16).length = R) (hRk : (x1 : Int) < (R : Int)) (hres : optC m ov l = ((x0, x1, true, []), 1, 0, (l.drop 16).drop x1)) :
    Calls Try.prog 43 #[.pointer (some ⟨b, 0, none⟩), .int .u32 m] w fun e w' => ∃ (x0 x1 : Nat) (lg : Bool) (d : List Nat) (dn cu ov' : Nat) (l' : List Nat) (v' : Value) (ao2 : Option Addr) (cap2 : Nat), e = .returned (.tuple #[.agg #[.int .u32 x0, .int .u32 x1, .bool lg, .slice ao2 dn cap2], .int .i64 cu]) ∧ optC m ov l = ((x0, x1, lg, d), cu, ov', l') ∧ d.length = dn ∧ RIn w' B b v' rm ov' l' ∧ RAct w w' b v v' ∧ w'.ownsRow w.heap.size 5 1 (.slice ao2 dn cap2) dn (d.map bv) ∧ ∀ g, (Value.slice ao2 dn cap2).ownBlock = some g → v'.ownBlock ≠ some g := by
  replace hres : Hid _ := hres
  have h5 : 57 ≠ 5 := by decide
  obtain ⟨W0, hW0⟩ : ∃ W0, W0 = w.alloc (.cells #[.int .u32 0, .int .u32 0, .bool false, .slice none 0 0] 57) := ⟨_, rfl⟩
  have hC0 := (Cr.start h).alloc #[.int .u32 0, .int .u32 0, .bool false, .slice none 0 0] 57 h5
  rw [← hW0] at hC0
  have H0 : Hid _ := hC0
  clear hC0
  clear h
  go_enter Try.func43, Try.ntmps43
  have HA1 : Hid _ := hasT H0.out.inb (16) hs
  go_wp2_with fail
  rw [← hW0]
  clear hW0
  refine Calls.mono HA1.out ?_
  rintro e Wn ⟨rfl, hw⟩
  rw [hw]; clear hw Wn HA1
  have HA2 : Hid _ := uRx H0.out.inb 0 8 (by have := hs.2; omega) (by decide) (by decide) hx
  go_wp2_with fail
  refine Calls.mono HA2.out ?_
  rintro e W2 ⟨rfl, hb⟩
  have H2 : Hid _ := H0.out.later hb
  clear hb H0 HA2
  have HA3 : Hid _ := uRx H2.out.inb 8 4 (by have := hs.2; omega) (by decide) (by decide) hx0
  go_wp2_with fail
  refine Calls.mono HA3.out ?_
  rintro e W3 ⟨rfl, hb⟩
  have H3 : Hid _ := H2.out.later hb
  clear hb H2 HA3
  have HA4 : Hid _ := uRx H3.out.inb 12 4 (by have := hs.2; omega) (by decide) (by decide) hx1
  go_wp2_with fail
  refine Calls.mono HA4.out ?_
  rintro e W4 ⟨rfl, hb⟩
  have H4 : Hid _ := H3.out.later hb
  clear hb H3 HA4
  have hq := H4.out.alloc #[.int .u32 x0, .int .u32 x1, .bool false, .slice none 0 0] 57 (by decide)
  generalize hW5 : W4.alloc (.cells #[.int .u32 x0, .int .u32 x1, .bool false, .slice none 0 0] 57) = W5 at hq
  have H5 : Hid _ := hq
  clear hq H4
  have HW5 : Hid _ := hW5
  clear hW5
  go_upto_region 6 with fail
  rw [show _ = _ from HW5.out]
  clear HW5
  have q0 : W5.cell? ⟨W4.heap.size, 0, none⟩ = some (.int .u32 x0) := (H5.out.c (.head _) 0).1
  have qf0 : W5.frozen? ⟨W4.heap.size, 0, none⟩ = false := (H5.out.c (.head _) 0).2
  have q1 : W5.cell? ⟨W4.heap.size, 1, none⟩ = some (.int .u32 x1) := (H5.out.c (.head _) 1).1
  have qf1 : W5.frozen? ⟨W4.heap.size, 1, none⟩ = false := (H5.out.c (.head _) 1).2
  have q2 : W5.cell? ⟨W4.heap.size, 2, none⟩ = some (.bool false) := (H5.out.c (.head _) 2).1
  have qf2 : W5.frozen? ⟨W4.heap.size, 2, none⟩ = false := (H5.out.c (.head _) 2).2
  have q3 : W5.cell? ⟨W4.heap.size, 3, none⟩ = some (.slice none 0 0) := (H5.out.c (.head _) 3).1
  have qf3 : W5.frozen? ⟨W4.heap.size, 3, none⟩ = false := (H5.out.c (.head _) 3).2
  have H6 : Hid _ := (Cr.put (pre := []) H5.out 2 (.bool true) (cs' := #[.int .u32 x0, .int .u32 x1, .bool true, .slice none 0 0]) rfl)
  clear H5
  obtain ⟨Wz, hWz⟩ : ∃ Wz, W5.setCell ⟨W4.heap.size, 2, none⟩ (.bool true) = Wz := ⟨_, rfl⟩
  rw [hWz] at H6
  go_upto_region 8 with fail
  clear hWz
  clear q0 qf0 q1 qf1 q2 qf2 q3 qf3
  have HA7 : Hid _ := cutR H6.out.inb 16 (by have := hs.2; omega)
  go_wp2_with fail
  refine Calls.mono HA7.out ?_
  rintro e W7 ⟨ao1, cap1, vn7, rfl, hI, hA, hr, hn⟩
  have hd7 : (l.take (16)).length = 16 := by rw [List.length_take]; exact Nat.min_eq_left (by have := hs.2; omega)
  have H7 : Hid _ := H6.out.told2 (d' := l.take (16)) hI hA (by rw [hd7]; exact hr) hn
  clear hI hA hr hn H6 HA7
  have q1 : W7.cell? ⟨W4.heap.size, 1, none⟩ = some (.int .u32 x1) := (H7.out.c (.head _) 1).1
  have i2 : W7.cell? ⟨b, 2, none⟩ = some (.int .u64 ov) := H7.out.inb.c 2
  have if2 : W7.frozen? ⟨b, 2, none⟩ = false := H7.out.inb.f 2
  obtain ⟨Wp, hWp⟩ : ∃ Wp, W7.setCell ⟨b, 2, none⟩ (.int .u64 x1) = Wp := ⟨_, rfl⟩
  have HP1 : Hid _ := H7.out.pass x1 b1
  rw [hWp] at HP1
  clear H7
  go_upto_region 10 with fail
  clear hWp
  clear q1 i2 if2
  obtain ⟨aoB, capB, hvB, hcB⟩ := HP1.out.inb.row.crow
  clear hcB
  have i1 : Wp.cell? ⟨b, 1, none⟩ = some (.slice aoB R capB) := by have := HP1.out.inb.c 1; rw [hvB, hR] at this; exact this
  clear hvB
  have i2 : Wp.cell? ⟨b, 2, none⟩ = some (.int .u64 x1) := HP1.out.inb.c 2
  have hRb : R ≤ 2097152 := by have := HP1.out.inb.row.len; rw [hR] at this; exact this
  replace hR : Hid _ := hR
  have HA8 : Hid _ := cutR HP1.out.inb x1 (by have h9 : (l.drop 16).length = R := hR; rw [h9]; omega)
  go_wp2_with fail
  refine Calls.mono HA8.out ?_
  rintro e W8 ⟨ao2, cap2, vn8, rfl, hI, hA, hr, hn⟩
  have hd8 : ((l.drop 16).take (x1)).length = x1 := by rw [List.length_take]; exact Nat.min_eq_left (by have h9 : (l.drop 16).length = R := hR; rw [h9]; omega)
  have H8 : Hid _ := HP1.out.told2 (d' := (l.drop 16).take (x1)) hI hA (by rw [hd8]; exact hr) hn
  clear hI hA hr hn HP1 HA8
  clear i1 i2
  have i2 : W8.cell? ⟨b, 2, none⟩ = some (.int .u64 x1) := H8.out.inb.c 2
  have if2 : W8.frozen? ⟨b, 2, none⟩ = false := H8.out.inb.f 2
  obtain ⟨Wq, hWq⟩ : ∃ Wq, W8.setCell ⟨b, 2, none⟩ (.int .u64 (0)) = Wq := ⟨_, rfl⟩
  have HP2 := H8.out.pass (0) (by omega)
  rw [show ((0 : Nat) : Int) = 0 from rfl] at HP2
  rw [hWq] at HP2
  replace HP2 : Hid _ := HP2
  clear H8
  go_upto_region 15 with fail
  clear hWq
  clear i2 if2
  have HP3 : Hid _ := HP2.out.nodata
  clear HP2
  have q0 : Wq.cell? ⟨W4.heap.size, 0, none⟩ = some (.int .u32 x0) := (HP3.out.c (.head _) 0).1
  have q1 : Wq.cell? ⟨W4.heap.size, 1, none⟩ = some (.int .u32 x1) := (HP3.out.c (.head _) 1).1
  have q2 : Wq.cell? ⟨W4.heap.size, 2, none⟩ = some (.bool true) := (HP3.out.c (.head _) 2).1
  have q3 : Wq.cell? ⟨W4.heap.size, 3, none⟩ = some (.slice none 0 0) := (HP3.out.c (.head _) 3).1
  have y0 : Wq.cell? ⟨w.heap.size, 0, none⟩ = some (.int .u32 0) := (HP3.out.c (.tail _ (.head _)) 0).1
  have yf0 : Wq.frozen? ⟨w.heap.size, 0, none⟩ = false := (HP3.out.c (.tail _ (.head _)) 0).2
  have y1 : Wq.cell? ⟨w.heap.size, 1, none⟩ = some (.int .u32 0) := (HP3.out.c (.tail _ (.head _)) 1).1
  have yf1 : Wq.frozen? ⟨w.heap.size, 1, none⟩ = false := (HP3.out.c (.tail _ (.head _)) 1).2
  have y2 : Wq.cell? ⟨w.heap.size, 2, none⟩ = some (.bool false) := (HP3.out.c (.tail _ (.head _)) 2).1
  have yf2 : Wq.frozen? ⟨w.heap.size, 2, none⟩ = false := (HP3.out.c (.tail _ (.head _)) 2).2
  have y3 : Wq.cell? ⟨w.heap.size, 3, none⟩ = some (.slice none 0 0) := (HP3.out.c (.tail _ (.head _)) 3).1
  have yf3 : Wq.frozen? ⟨w.heap.size, 3, none⟩ = false := (HP3.out.c (.tail _ (.head _)) 3).2
  have H9 : Hid _ := (Cr.put (pre := [(W4.heap.size, #[.int .u32 x0, .int .u32 x1, .bool true, .slice none 0 0], 57)]) (Cr.put (pre := [(W4.heap.size, #[.int .u32 x0, .int .u32 x1, .bool true, .slice none 0 0], 57)]) (Cr.put (pre := [(W4.heap.size, #[.int .u32 x0, .int .u32 x1, .bool true, .slice none 0 0], 57)]) (Cr.put (pre := [(W4.heap.size, #[.int .u32 x0, .int .u32 x1, .bool true, .slice none 0 0], 57)]) HP3.out 0 (.int .u32 x0) (cs' := #[.int .u32 x0, .int .u32 0, .bool false, .slice none 0 0]) rfl) 1 (.int .u32 x1) (cs' := #[.int .u32 x0, .int .u32 x1, .bool false, .slice none 0 0]) rfl) 2 (.bool true) (cs' := #[.int .u32 x0, .int .u32 x1, .bool true, .slice none 0 0]) rfl) 3 (.slice none 0 0) (cs' := #[.int .u32 x0, .int .u32 x1, .bool true, .slice none 0 0]) rfl)
  clear HP3
  go_wp2
  exact bodyPost_ret (results_cell_tmp1 rfl _ _ (w.heap.size) 57 #[.int .u32 x0, .int .u32 x1, .bool true, .slice none 0 0] (0, 0) _ rfl (H9.out.box _ (.tail _ (.head _))).1 Try.underlying57 rfl inf_43) rfl ⟨x0, x1, true, [], 0, 1, 0, (l.drop 16).drop x1, _, none, 0, rfl, hres, rfl, H9.out.inb, H9.out.act, H9.out.row, H9.out.rn⟩
end Go.Proofs.Ytckfmpoddmccfaa
