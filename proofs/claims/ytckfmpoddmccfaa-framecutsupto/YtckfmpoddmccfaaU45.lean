import Derived.Test.YtckfmpoddmccfaaU42
import Derived.Test.YtckfmpoddmccfaaU37
import Derived.Test.YtckfmpoddmccfaaU33
import Derived.Deep.DeepCutAuto
import Derived.Test.YtckfmpoddmccfaaU44
import Derived.Test.YtckfmpoddmccfaaU38
namespace Go.Proofs.Ytckfmpoddmccfaa
open Go.RowKit
set_option linter.unusedVariables false
set_option linter.unusedSimpArgs false
set_option maxRecDepth 100000
theorem wideR {w : World} {B b : Nat} {v : Value} {rm ov : Nat} {l : List Nat} (h : RIn w B b v rm ov l) (m : Nat) (hm : m < 4294967296) (mg : Nat) (hmg : vl l 0 4 = mg) (hmgb : mg < 4294967296) (hs : ov = 0 ∧ 4 ≤ l.length) : Calls Try.prog 89 #[.pointer (some ⟨b, 0, none⟩), .int .u32 (mg : Int), .int .u32 (m : Int)] w fun e w' => ∃ (st : Bool) (x1 : Nat) (x2 : Nat) (x3 : Nat) (x4 : Nat) (x5 : Nat) (x6 : Nat) (d : List Nat) (dn cu : Nat) (l' : List Nat) (v' : Value) (ao2 : Option Addr) (cap2 : Nat), e = .returned (.tuple #[.agg #[.bool st, .int .u32 (x1 : Int), .int .u64 (x2 : Int), .int .u16 (x3 : Int), .int .u16 (x4 : Int), .int .u64 (x5 : Int), .int .u64 (x6 : Int), .slice ao2 dn cap2], .int .i64 (cu : Int)]) ∧ cutOf ansZ ov l (ansD m true l) = ((st, x1, x2, x3, x4, x5, x6, d), cu, l') ∧ d.length = dn ∧ RIn w' B b v' rm ov l' ∧ RAct w w' b v v' ∧ w'.ownsRow w.heap.size 5 1 (.slice ao2 dn cap2) dn (d.map bv) ∧ ∀ g, (Value.slice ao2 dn cap2).ownBlock = some g → v'.ownBlock ≠ some g := by
  have n0 : ¬ 0 < ov := by omega
  have n4 : ¬ l.length < 4 := by omega
  by_cases hx : mg = 1854547852
  · have hc : vl l 0 4 = cm true := by rw [hmg]; exact hx
    have hc' : ¬ vl l 0 4 ≠ cm true := fun e => e hc
    have hxb : ((mg : Int) != 1854547852) = false := by rw [hx]; rfl
    by_cases h32 : 32 ≤ l.length
    · have n1 : ¬ l.length < cz true := by show ¬ l.length < 32; omega
      by_cases hmk : m < vl l 24 8
      · have hmk' : m < cln true l := hmk
        refine rwid_c h m hm mg hmgb hxb ⟨hs.1, h32⟩ _ rfl (by have := vlb h.row.lt 24 8; simpa using this) (by omega) ?_
        unfold cutOf ansD chkD
        simp only [if_neg n0, if_neg n4, if_pos hc, if_neg n1, if_neg hc', if_pos hmk']
        simp [ansZ]
      · have hmk' : ¬ m < cln true l := hmk
        by_cases h2 : 32 + vl l 24 8 ≤ l.length
        · have n2 : ¬ l.length < cz true + cln true l := by show ¬ l.length < 32 + vl l 24 8; omega
          refine rwid_e h m hm mg hmgb hxb ⟨hs.1, h32⟩ _ rfl (by have := vlb h.row.lt 24 8; simpa using this) (by omega) ⟨hs.1, h2⟩ _ _ _ _ rfl rfl rfl rfl (by have := vlb h.row.lt 4 2; simpa using this) (by have := vlb h.row.lt 6 2; simpa using this) (by have := vlb h.row.lt 8 8; simpa using this) (by have := vlb h.row.lt 16 8; simpa using this) ?_
          unfold cutOf ansD chkD
          simp only [if_neg n0, if_neg n4, if_pos hc, if_neg n1, if_neg hc', if_neg hmk', if_neg n2]
          simp [cz, cln, cof, List.drop_drop]
        · have n2 : l.length < cz true + cln true l := by show l.length < 32 + vl l 24 8; omega
          refine rwid_d h m hm mg hmgb hxb ⟨hs.1, h32⟩ _ rfl (by have := vlb h.row.lt 24 8; simpa using this) (by omega) (fun e => h2 e.2) ?_
          unfold cutOf ansD chkD
          simp only [if_neg n0, if_neg n4, if_pos hc, if_neg n1, if_neg hc', if_neg hmk', if_pos n2]
          simp [ansZ]
    · have n1 : l.length < cz true := by show l.length < 32; omega
      refine rwid_b h m hm mg hmgb hxb (fun e => h32 e.2) ?_
      unfold cutOf ansD chkD
      simp only [if_neg n0, if_neg n4, if_pos hc, if_pos n1]
      simp [ansZ]
  · have hc : ¬ vl l 0 4 = cm true := by rw [hmg]; exact hx
    refine rwid_a h m hm mg hmgb (by simp; omega) ?_
    unfold cutOf ansD
    simp only [if_neg n0, if_neg n4, if_neg hc]
    simp [ansZ]
set_option maxHeartbeats 4000000 in
theorem rrt_a {w : World} {B b : Nat} {v : Value} {rm ov : Nat} {l : List Nat} (h : RIn w B b v rm ov l) (m : Nat) (hm : m < 4294967296) (hs : ¬ (ov = 0 ∧ 4 ≤ l.length)) (hres : cutOf ansZ ov l (ansD m true l) = ((false, 0, 0, 0, 0, 0, 0, []), 0, l)) :
    Calls Try.prog 47 #[.pointer (some ⟨b, 0, none⟩), .int .u32 (m : Int), .bool true] w fun e w' => ∃ (st : Bool) (x1 : Nat) (x2 : Nat) (x3 : Nat) (x4 : Nat) (x5 : Nat) (x6 : Nat) (d : List Nat) (dn cu : Nat) (l' : List Nat) (v' : Value) (ao2 : Option Addr) (cap2 : Nat), e = .returned (.tuple #[.agg #[.bool st, .int .u32 (x1 : Int), .int .u64 (x2 : Int), .int .u16 (x3 : Int), .int .u16 (x4 : Int), .int .u64 (x5 : Int), .int .u64 (x6 : Int), .slice ao2 dn cap2], .int .i64 (cu : Int)]) ∧ cutOf ansZ ov l (ansD m true l) = ((st, x1, x2, x3, x4, x5, x6, d), cu, l') ∧ d.length = dn ∧ RIn w' B b v' rm ov l' ∧ RAct w w' b v v' ∧ w'.ownsRow w.heap.size 5 1 (.slice ao2 dn cap2) dn (d.map bv) ∧ ∀ g, (Value.slice ao2 dn cap2).ownBlock = some g → v'.ownBlock ≠ some g := by
  replace hres : Hid _ := hres
  have h5 : 103 ≠ 5 := by decide
  obtain ⟨W0, hW0⟩ : ∃ W0, W0 = w.alloc (.cells #[.bool false, .int .u32 0, .int .u64 0, .int .u16 0, .int .u16 0, .int .u64 0, .int .u64 0, .slice none 0 0] 103) := ⟨_, rfl⟩
  have hC0 := (Cr.start h).alloc #[.bool false, .int .u32 0, .int .u64 0, .int .u16 0, .int .u16 0, .int .u64 0, .int .u64 0, .slice none 0 0] 103 h5
  rw [← hW0] at hC0
  have H0 : Hid _ := hC0
  clear hC0
  clear h
  go_enter Try.func47, Try.ntmps47
  have HA1 : Hid _ := hasF H0.out.inb (4) hs
  go_wp2_with fail
  rw [← hW0]
  clear hW0
  refine Calls.mono HA1.out ?_
  rintro e Wn ⟨rfl, hw⟩
  rw [hw]; clear hw Wn HA1
  have y0 : W0.cell? ⟨w.heap.size, 0, none⟩ = some (.bool false) := (H0.out.c (.head _) 0).1
  have yf0 : W0.frozen? ⟨w.heap.size, 0, none⟩ = false := (H0.out.c (.head _) 0).2
  have y1 : W0.cell? ⟨w.heap.size, 1, none⟩ = some (.int .u32 0) := (H0.out.c (.head _) 1).1
  have yf1 : W0.frozen? ⟨w.heap.size, 1, none⟩ = false := (H0.out.c (.head _) 1).2
  have y2 : W0.cell? ⟨w.heap.size, 2, none⟩ = some (.int .u64 0) := (H0.out.c (.head _) 2).1
  have yf2 : W0.frozen? ⟨w.heap.size, 2, none⟩ = false := (H0.out.c (.head _) 2).2
  have y3 : W0.cell? ⟨w.heap.size, 3, none⟩ = some (.int .u16 0) := (H0.out.c (.head _) 3).1
  have yf3 : W0.frozen? ⟨w.heap.size, 3, none⟩ = false := (H0.out.c (.head _) 3).2
  have y4 : W0.cell? ⟨w.heap.size, 4, none⟩ = some (.int .u16 0) := (H0.out.c (.head _) 4).1
  have yf4 : W0.frozen? ⟨w.heap.size, 4, none⟩ = false := (H0.out.c (.head _) 4).2
  have y5 : W0.cell? ⟨w.heap.size, 5, none⟩ = some (.int .u64 0) := (H0.out.c (.head _) 5).1
  have yf5 : W0.frozen? ⟨w.heap.size, 5, none⟩ = false := (H0.out.c (.head _) 5).2
  have y6 : W0.cell? ⟨w.heap.size, 6, none⟩ = some (.int .u64 0) := (H0.out.c (.head _) 6).1
  have yf6 : W0.frozen? ⟨w.heap.size, 6, none⟩ = false := (H0.out.c (.head _) 6).2
  have y7 : W0.cell? ⟨w.heap.size, 7, none⟩ = some (.slice none 0 0) := (H0.out.c (.head _) 7).1
  have yf7 : W0.frozen? ⟨w.heap.size, 7, none⟩ = false := (H0.out.c (.head _) 7).2
  have H2 : Hid _ := (Cr.put (pre := []) (Cr.put (pre := []) (Cr.put (pre := []) (Cr.put (pre := []) (Cr.put (pre := []) (Cr.put (pre := []) (Cr.put (pre := []) (Cr.put (pre := []) H0.out 0 (.bool false) (cs' := #[.bool false, .int .u32 0, .int .u64 0, .int .u16 0, .int .u16 0, .int .u64 0, .int .u64 0, .slice none 0 0]) rfl) 1 (.int .u32 0) (cs' := #[.bool false, .int .u32 0, .int .u64 0, .int .u16 0, .int .u16 0, .int .u64 0, .int .u64 0, .slice none 0 0]) rfl) 2 (.int .u64 0) (cs' := #[.bool false, .int .u32 0, .int .u64 0, .int .u16 0, .int .u16 0, .int .u64 0, .int .u64 0, .slice none 0 0]) rfl) 3 (.int .u16 0) (cs' := #[.bool false, .int .u32 0, .int .u64 0, .int .u16 0, .int .u16 0, .int .u64 0, .int .u64 0, .slice none 0 0]) rfl) 4 (.int .u16 0) (cs' := #[.bool false, .int .u32 0, .int .u64 0, .int .u16 0, .int .u16 0, .int .u64 0, .int .u64 0, .slice none 0 0]) rfl) 5 (.int .u64 0) (cs' := #[.bool false, .int .u32 0, .int .u64 0, .int .u16 0, .int .u16 0, .int .u64 0, .int .u64 0, .slice none 0 0]) rfl) 6 (.int .u64 0) (cs' := #[.bool false, .int .u32 0, .int .u64 0, .int .u16 0, .int .u16 0, .int .u64 0, .int .u64 0, .slice none 0 0]) rfl) 7 (.slice none 0 0) (cs' := #[.bool false, .int .u32 0, .int .u64 0, .int .u16 0, .int .u16 0, .int .u64 0, .int .u64 0, .slice none 0 0]) rfl)
  clear H0
  go_wp2
  exact bodyPost_ret (results_cell_tmp1 rfl _ _ (w.heap.size) 103 #[.bool false, .int .u32 0, .int .u64 0, .int .u16 0, .int .u16 0, .int .u64 0, .int .u64 0, .slice none 0 0] (0, 0) _ rfl (H2.out.box _ (.head _)).1 Try.underlying103 rfl inf_47) rfl ⟨false, 0, 0, 0, 0, 0, 0, [], 0, 0, l, _, none, 0, rfl, hres, rfl, H2.out.inb, H2.out.act, H2.out.row, H2.out.rn⟩
set_option maxHeartbeats 4000000 in
theorem rrt_b {w : World} {B b : Nat} {v : Value} {rm ov : Nat} {l : List Nat} (h : RIn w B b v rm ov l) (m : Nat) (hm : m < 4294967296) (hs : ov = 0 ∧ 4 ≤ l.length) (mg : Nat) (hmg : vl l 0 4 = mg) (hmgb : mg < 4294967296) (hres : True) :
    Calls Try.prog 47 #[.pointer (some ⟨b, 0, none⟩), .int .u32 (m : Int), .bool true] w fun e w' => ∃ (st : Bool) (x1 : Nat) (x2 : Nat) (x3 : Nat) (x4 : Nat) (x5 : Nat) (x6 : Nat) (d : List Nat) (dn cu : Nat) (l' : List Nat) (v' : Value) (ao2 : Option Addr) (cap2 : Nat), e = .returned (.tuple #[.agg #[.bool st, .int .u32 (x1 : Int), .int .u64 (x2 : Int), .int .u16 (x3 : Int), .int .u16 (x4 : Int), .int .u64 (x5 : Int), .int .u64 (x6 : Int), .slice ao2 dn cap2], .int .i64 (cu : Int)]) ∧ cutOf ansZ ov l (ansD m true l) = ((st, x1, x2, x3, x4, x5, x6, d), cu, l') ∧ d.length = dn ∧ RIn w' B b v' rm ov l' ∧ RAct w w' b v v' ∧ w'.ownsRow w.heap.size 5 1 (.slice ao2 dn cap2) dn (d.map bv) ∧ ∀ g, (Value.slice ao2 dn cap2).ownBlock = some g → v'.ownBlock ≠ some g := by
  replace hres : Hid _ := hres
  have h5 : 103 ≠ 5 := by decide
  obtain ⟨W0, hW0⟩ : ∃ W0, W0 = w.alloc (.cells #[.bool false, .int .u32 0, .int .u64 0, .int .u16 0, .int .u16 0, .int .u64 0, .int .u64 0, .slice none 0 0] 103) := ⟨_, rfl⟩
  have hC0 := (Cr.start h).alloc #[.bool false, .int .u32 0, .int .u64 0, .int .u16 0, .int .u16 0, .int .u64 0, .int .u64 0, .slice none 0 0] 103 h5
  rw [← hW0] at hC0
  have H0 : Hid _ := hC0
  clear hC0
  clear h
  go_enter Try.func47, Try.ntmps47
  have HA1 : Hid _ := hasT H0.out.inb (4) hs
  go_wp2_with fail
  rw [← hW0]
  clear hW0
  refine Calls.mono HA1.out ?_
  rintro e Wn ⟨rfl, hw⟩
  rw [hw]; clear hw Wn HA1
  have HA2 : Hid _ := uRx H0.out.inb 0 4 (by have := hs.2; omega) (by decide) (by decide) hmg
  go_wp2_with fail
  refine Calls.mono HA2.out ?_
  rintro e W2 ⟨rfl, hb⟩
  have H2 : Hid _ := H0.out.later hb
  clear hb H0 HA2
  have HW : Hid _ := wideR H2.out.inb m hm mg hmg hmgb hs
  go_wp2_with fail
  refine Calls.mono HW.out ?_
  rintro e Wn ⟨st, x1, x2, x3, x4, x5, x6, d, dn, cu, l', vn, ao2, cap2, rfl, hcut, hdn, hI, hA, hr, hn⟩
  have HT : Hid _ := H2.out.told2 (d' := d) hI hA (by rw [hdn]; exact hr) hn
  replace hcut : Hid _ := hcut
  replace hdn : Hid (d.length = dn) := hdn
  clear hI hA hr hn H2 HW
  have y0 : Wn.cell? ⟨w.heap.size, 0, none⟩ = some (.bool false) := (HT.out.c (.head _) 0).1
  have yf0 : Wn.frozen? ⟨w.heap.size, 0, none⟩ = false := (HT.out.c (.head _) 0).2
  have y1 : Wn.cell? ⟨w.heap.size, 1, none⟩ = some (.int .u32 0) := (HT.out.c (.head _) 1).1
  have yf1 : Wn.frozen? ⟨w.heap.size, 1, none⟩ = false := (HT.out.c (.head _) 1).2
  have y2 : Wn.cell? ⟨w.heap.size, 2, none⟩ = some (.int .u64 0) := (HT.out.c (.head _) 2).1
  have yf2 : Wn.frozen? ⟨w.heap.size, 2, none⟩ = false := (HT.out.c (.head _) 2).2
  have y3 : Wn.cell? ⟨w.heap.size, 3, none⟩ = some (.int .u16 0) := (HT.out.c (.head _) 3).1
  have yf3 : Wn.frozen? ⟨w.heap.size, 3, none⟩ = false := (HT.out.c (.head _) 3).2
  have y4 : Wn.cell? ⟨w.heap.size, 4, none⟩ = some (.int .u16 0) := (HT.out.c (.head _) 4).1
  have yf4 : Wn.frozen? ⟨w.heap.size, 4, none⟩ = false := (HT.out.c (.head _) 4).2
  have y5 : Wn.cell? ⟨w.heap.size, 5, none⟩ = some (.int .u64 0) := (HT.out.c (.head _) 5).1
  have yf5 : Wn.frozen? ⟨w.heap.size, 5, none⟩ = false := (HT.out.c (.head _) 5).2
  have y6 : Wn.cell? ⟨w.heap.size, 6, none⟩ = some (.int .u64 0) := (HT.out.c (.head _) 6).1
  have yf6 : Wn.frozen? ⟨w.heap.size, 6, none⟩ = false := (HT.out.c (.head _) 6).2
  have y7 : Wn.cell? ⟨w.heap.size, 7, none⟩ = some (.slice none 0 0) := (HT.out.c (.head _) 7).1
  have yf7 : Wn.frozen? ⟨w.heap.size, 7, none⟩ = false := (HT.out.c (.head _) 7).2
  have H3 : Hid _ := (Cr.put (pre := []) (Cr.put (pre := []) (Cr.put (pre := []) (Cr.put (pre := []) (Cr.put (pre := []) (Cr.put (pre := []) (Cr.put (pre := []) (Cr.put (pre := []) HT.out 0 (.bool st) (cs' := #[.bool st, .int .u32 0, .int .u64 0, .int .u16 0, .int .u16 0, .int .u64 0, .int .u64 0, .slice none 0 0]) rfl) 1 (.int .u32 (x1 : Int)) (cs' := #[.bool st, .int .u32 (x1 : Int), .int .u64 0, .int .u16 0, .int .u16 0, .int .u64 0, .int .u64 0, .slice none 0 0]) rfl) 2 (.int .u64 (x2 : Int)) (cs' := #[.bool st, .int .u32 (x1 : Int), .int .u64 (x2 : Int), .int .u16 0, .int .u16 0, .int .u64 0, .int .u64 0, .slice none 0 0]) rfl) 3 (.int .u16 (x3 : Int)) (cs' := #[.bool st, .int .u32 (x1 : Int), .int .u64 (x2 : Int), .int .u16 (x3 : Int), .int .u16 0, .int .u64 0, .int .u64 0, .slice none 0 0]) rfl) 4 (.int .u16 (x4 : Int)) (cs' := #[.bool st, .int .u32 (x1 : Int), .int .u64 (x2 : Int), .int .u16 (x3 : Int), .int .u16 (x4 : Int), .int .u64 0, .int .u64 0, .slice none 0 0]) rfl) 5 (.int .u64 (x5 : Int)) (cs' := #[.bool st, .int .u32 (x1 : Int), .int .u64 (x2 : Int), .int .u16 (x3 : Int), .int .u16 (x4 : Int), .int .u64 (x5 : Int), .int .u64 0, .slice none 0 0]) rfl) 6 (.int .u64 (x6 : Int)) (cs' := #[.bool st, .int .u32 (x1 : Int), .int .u64 (x2 : Int), .int .u16 (x3 : Int), .int .u16 (x4 : Int), .int .u64 (x5 : Int), .int .u64 (x6 : Int), .slice none 0 0]) rfl) 7 (.slice ao2 dn cap2) (cs' := #[.bool st, .int .u32 (x1 : Int), .int .u64 (x2 : Int), .int .u16 (x3 : Int), .int .u16 (x4 : Int), .int .u64 (x5 : Int), .int .u64 (x6 : Int), .slice ao2 dn cap2]) rfl)
  clear HT
  go_wp2
  exact bodyPost_ret (results_cell_tmp1 rfl _ _ (w.heap.size) 103 #[.bool st, .int .u32 (x1 : Int), .int .u64 (x2 : Int), .int .u16 (x3 : Int), .int .u16 (x4 : Int), .int .u64 (x5 : Int), .int .u64 (x6 : Int), .slice ao2 dn cap2] (0, 0) _ rfl (H3.out.box _ (.head _)).1 Try.underlying103 rfl inf_47) rfl ⟨st, x1, x2, x3, x4, x5, x6, d, dn, cu, l', _, ao2, cap2, rfl, hcut, hdn, H3.out.inb, H3.out.act, by have q := H3.out.row; rw [show d.length = dn from hdn] at q; exact q, H3.out.rn⟩
theorem ansRt {w : World} {B b : Nat} {v : Value} {rm ov : Nat} {l : List Nat} (h : RIn w B b v rm ov l) (m : Nat) (hm : m < 4294967296) : Calls Try.prog 47 #[.pointer (some ⟨b, 0, none⟩), .int .u32 (m : Int), .bool true] w fun e w' => ∃ (st : Bool) (x1 : Nat) (x2 : Nat) (x3 : Nat) (x4 : Nat) (x5 : Nat) (x6 : Nat) (d : List Nat) (dn cu : Nat) (l' : List Nat) (v' : Value) (ao2 : Option Addr) (cap2 : Nat), e = .returned (.tuple #[.agg #[.bool st, .int .u32 (x1 : Int), .int .u64 (x2 : Int), .int .u16 (x3 : Int), .int .u16 (x4 : Int), .int .u64 (x5 : Int), .int .u64 (x6 : Int), .slice ao2 dn cap2], .int .i64 (cu : Int)]) ∧ cutOf ansZ ov l (ansD m true l) = ((st, x1, x2, x3, x4, x5, x6, d), cu, l') ∧ d.length = dn ∧ RIn w' B b v' rm ov l' ∧ RAct w w' b v v' ∧ w'.ownsRow w.heap.size 5 1 (.slice ao2 dn cap2) dn (d.map bv) ∧ ∀ g, (Value.slice ao2 dn cap2).ownBlock = some g → v'.ownBlock ≠ some g := by
  by_cases hs : ov = 0 ∧ 4 ≤ l.length
  · exact rrt_b h m hm hs _ rfl (by have := vlb h.row.lt 0 4; simpa using this) trivial
  · refine rrt_a h m hm hs ?_
    unfold cutOf ansD
    by_cases h0 : 0 < ov
    · simp [h0, ansZ]
    · have n4 : l.length < 4 := by omega
      simp [h0, n4, ansZ]
theorem ansRf {w : World} {B b : Nat} {v : Value} {rm ov : Nat} {l : List Nat} (h : RIn w B b v rm ov l) (m : Nat) (hm : m < 4294967296) : Calls Try.prog 47 #[.pointer (some ⟨b, 0, none⟩), .int .u32 (m : Int), .bool false] w fun e w' => ∃ (st : Bool) (x1 : Nat) (x2 : Nat) (x3 : Nat) (x4 : Nat) (x5 : Nat) (x6 : Nat) (d : List Nat) (dn cu : Nat) (l' : List Nat) (v' : Value) (ao2 : Option Addr) (cap2 : Nat), e = .returned (.tuple #[.agg #[.bool st, .int .u32 (x1 : Int), .int .u64 (x2 : Int), .int .u16 (x3 : Int), .int .u16 (x4 : Int), .int .u64 (x5 : Int), .int .u64 (x6 : Int), .slice ao2 dn cap2], .int .i64 (cu : Int)]) ∧ cutOf ansZ ov l (ansD m false l) = ((st, x1, x2, x3, x4, x5, x6, d), cu, l') ∧ d.length = dn ∧ RIn w' B b v' rm ov l' ∧ RAct w w' b v v' ∧ w'.ownsRow w.heap.size 5 1 (.slice ao2 dn cap2) dn (d.map bv) ∧ ∀ g, (Value.slice ao2 dn cap2).ownBlock = some g → v'.ownBlock ≠ some g := by
  by_cases hs : ov = 0 ∧ 4 ≤ l.length
  · have n0 : ¬ 0 < ov := by omega
    have n4 : ¬ l.length < 4 := by omega
    by_cases hx : vl l 0 4 = 1732535960
    · have hc : ¬ vl l 0 4 = cm false := by rw [hx]; decide
      have hsm : false = false ∧ vl l 0 4 = mSimple := ⟨rfl, hx⟩
      have hsm' : ¬ vl l 0 4 ≠ mSimple := fun e => e hx
      by_cases h16 : 16 ≤ l.length
      · have n1 : ¬ l.length < 16 := by omega
        refine rrf_s2 h m hm hs hx ⟨hs.1, h16⟩ _ _ rfl rfl (by have := vlb h.row.lt 4 4; simpa using this) (by have := vlb h.row.lt 8 8; simpa using this) ?_
        unfold cutOf ansD simD
        simp only [if_neg n0, if_neg n4, if_neg hc, if_pos hsm, if_neg n1, if_neg hsm']
        simp [show vl l 0 4 = mSimple from hx]
      · have n1 : l.length < 16 := by omega
        refine rrf_s1 h m hm hs hx (fun e => h16 e.2) ?_
        unfold cutOf ansD simD
        simp only [if_neg n0, if_neg n4, if_neg hc, if_pos hsm, if_pos n1]
        simp [ansZ, show vl l 0 4 = mSimple from hx]
    · have hsm : ¬ (false = false ∧ vl l 0 4 = mSimple) := fun e => hx e.2
      by_cases hy : vl l 0 4 = 1720595439
      · have hc : vl l 0 4 = cm false := hy
        have hc' : ¬ vl l 0 4 ≠ cm false := fun e => e hc
        by_cases h20 : 20 ≤ l.length
        · have n1 : ¬ l.length < cz false := by show ¬ l.length < 20; omega
          by_cases hmk : m < vl l 16 4
          · have hmk' : m < cln false l := hmk
            refine rrf_c1 h m hm hs hy ⟨hs.1, h20⟩ _ rfl (by have := vlb h.row.lt 16 4; simpa using this) (by omega) ?_
            unfold cutOf ansD chkD
            simp only [if_neg n0, if_neg n4, if_pos hc, if_neg n1, if_neg hc', if_pos hmk']
            simp [ansZ]
          · have hmk' : ¬ m < cln false l := hmk
            by_cases h2 : 20 + vl l 16 4 ≤ l.length
            · have n2 : ¬ l.length < cz false + cln false l := by show ¬ l.length < 20 + vl l 16 4; omega
              refine rrf_c3 h m hm hs hy ⟨hs.1, h20⟩ _ rfl (by have := vlb h.row.lt 16 4; simpa using this) (by omega) ⟨hs.1, h2⟩ _ _ _ rfl rfl rfl (by have := vlb h.row.lt 4 2; simpa using this) (by have := vlb h.row.lt 6 2; simpa using this) (by have := vlb h.row.lt 8 8; simpa using this) ?_
              unfold cutOf ansD chkD
              simp only [if_neg n0, if_neg n4, if_pos hc, if_neg n1, if_neg hc', if_neg hmk', if_neg n2]
              simp [cz, cln, cof, List.drop_drop]
            · have n2 : l.length < cz false + cln false l := by show l.length < 20 + vl l 16 4; omega
              refine rrf_c2 h m hm hs hy ⟨hs.1, h20⟩ _ rfl (by have := vlb h.row.lt 16 4; simpa using this) (by omega) (fun e => h2 e.2) ?_
              unfold cutOf ansD chkD
              simp only [if_neg n0, if_neg n4, if_pos hc, if_neg n1, if_neg hc', if_neg hmk', if_pos n2]
              simp [ansZ]
        · have n1 : l.length < cz false := by show l.length < 20; omega
          refine rrf_c0 h m hm hs hy (fun e => h20 e.2) ?_
          unfold cutOf ansD chkD
          simp only [if_neg n0, if_neg n4, if_pos hc, if_pos n1]
          simp [ansZ]
      · have hc : ¬ vl l 0 4 = cm false := hy
        refine rrf_b h m hm hs _ rfl (by have := vlb h.row.lt 0 4; simpa using this) (by simp; omega) (by simp; omega) ?_
        unfold cutOf ansD
        simp only [if_neg n0, if_neg n4, if_neg hc, if_neg hsm]
        simp [ansZ, show ¬ vl l 0 4 = mSimple from hx]
  · refine rrf_a h m hm hs ?_
    unfold cutOf ansD
    by_cases h0 : 0 < ov
    · simp [h0, ansZ]
    · have n4 : l.length < 4 := by omega
      simp [h0, n4, ansZ]
end Go.Proofs.Ytckfmpoddmccfaa
namespace Go.Proofs.Ytckfmpoddmccfaa
open Go.RowKit
set_option linter.unusedVariables false
set_option linter.unusedSimpArgs false
set_option maxRecDepth 100000
/-- what the law's cuts of a kind come to: its answer, how many bytes are to be passed over, what is held -/
def cgD (kd : Int) (m : Nat) (z x : Bool) (a : Int) (ov : Nat) (l : List Nat) : (Nat × Nat × Nat × Nat × Nat × Nat × Nat × Nat × Nat × List Nat) × Nat × List Nat :=
  if kd = 2 then cg2 m z x a ov l else if kd = 3 then cg3 m z x a ov l else if kd = 4 then cg4 m z x a ov l else if kd = 5 then cg5 m z x a ov l else if kd = 6 then cg6 m z x a ov l else if kd = 7 then cg7 m z x a ov l else if kd = 8 then cg8 m z x a ov l else if kd = 9 then cg9 m z x a ov l else ((0, 0, 0, 0, 0, 0, 0, 0, 0, []), ov, l)
theorem cutsI_any {w : World} {B b : Nat} {v : Value} {rm ov : Nat} {l : List Nat} (h : Inb w B b v rm ov l) (bo : Option Addr) (bn bc m : Nat) (z x : Bool) (a : Int) (kd : Int) (hm : m < 4294967296) :
    Calls Try.prog 14 #[.pointer (some ⟨b, 0, none⟩), .agg #[.int .i64 kd, .slice bo bn bc, .int .u32 (m : Int), .bool z, .bool x, .int .i64 a]] w fun e w' => CgP w B b v rm (cgD kd m z x a ov l) e w' := by
  unfold cgD
  by_cases q2 : kd = 2
  · rw [if_pos q2, q2]; exact cutsI_2 h bo bn bc m z x a hm
  rw [if_neg q2]
  by_cases q3 : kd = 3
  · rw [if_pos q3, q3]; exact cutsI_3 h bo bn bc m z x a hm
  rw [if_neg q3]
  by_cases q4 : kd = 4
  · rw [if_pos q4, q4]; exact cutsI_4 h bo bn bc m z x a hm
  rw [if_neg q4]
  by_cases q5 : kd = 5
  · rw [if_pos q5, q5]; exact cutsI_5 h bo bn bc m z x a hm
  rw [if_neg q5]
  by_cases q6 : kd = 6
  · rw [if_pos q6, q6]; exact cutsI_6 h bo bn bc m z x a hm
  rw [if_neg q6]
  by_cases q7 : kd = 7
  · rw [if_pos q7, q7]; exact cutsI_7 h bo bn bc m z x a hm
  rw [if_neg q7]
  by_cases q8 : kd = 8
  · rw [if_pos q8, q8]; exact cutsI_8 h bo bn bc m z x a hm
  rw [if_neg q8]
  by_cases q9 : kd = 9
  · rw [if_pos q9, q9]; exact cutsI_9 h bo bn bc m z x a hm
  rw [if_neg q9]
  exact cutsI_other h bo bn bc m z x a kd (by omega)
end Go.Proofs.Ytckfmpoddmccfaa
namespace Go.Proofs.Ytckfmpoddmccfaa
open Go.RowKit
set_option linter.unusedVariables false
set_option linter.unusedSimpArgs false
set_option maxRecDepth 100000
theorem cells64G : Try.prog.cellsOf 30 = 1 := by kernel_rfl
theorem eqItemsG (A : Array Value) (hA : ∀ i, i < 8 → ∃ k : Int, A[i]? = some (.int .u64 k)) (d : Nat) (w : World) : ∀ is : List Nat, (∀ i ∈ is, i < 8) → (Op.eqItems (d + 1) 30 (Try.prog.cellsOf 30) A A is).run Try.prog w = .ok true w
  | [], _ => by simp [Op.eqItems]
  | i :: is, h => by
    obtain ⟨k, hk⟩ := hA i (h i (by simp))
    have hp : (part 30 A (i * 1)).run Try.prog w = .ok (.int .u64 k) w := by
      have hk' : A[i * 1]? = some (.int .u64 k) := by simpa using hk
      simp [part, go_sem, hk]
    have ih := eqItemsG A hA d w is (fun j hj => h j (by simp [hj]))
    rw [cells64G] at ih ⊢
    simp only [Op.eqItems, Sem.run_bind, hp, Result.andThen_ok, run_equalIn_int w d _ _ _ _ _ Try.underlying30]
    simp only [beq_self_eq_true, Bool.not_true, Bool.false_eq_true, if_false]
    exact ih
theorem eqG (n0 n1 n2 n3 n4 n5 n6 n7 : Nat) (w : World) : (Op.equalIn 10000 39 (.agg #[.int .u64 (n0 : Int), .int .u64 (n1 : Int), .int .u64 (n2 : Int), .int .u64 (n3 : Int), .int .u64 (n4 : Int), .int .u64 (n5 : Int), .int .u64 (n6 : Int), .int .u64 (n7 : Int)]) (.agg #[.int .u64 (n0 : Int), .int .u64 (n1 : Int), .int .u64 (n2 : Int), .int .u64 (n3 : Int), .int .u64 (n4 : Int), .int .u64 (n5 : Int), .int .u64 (n6 : Int), .int .u64 (n7 : Int)])).run Try.prog w = .ok true w := by
  obtain ⟨i5, h5⟩ : ∃ i5, Try.prog.info? 30 = some i5 := by
    cases h : Try.prog.info? 30 with
    | none => have : (Try.prog.info? 30).isSome = true := by kernel_rfl
              rw [h] at this; cases this
    | some i => exact ⟨i, rfl⟩
  rw [show (10000 : Nat) = 9998 + 1 + 1 from rfl]
  rw [run_equalIn_array w (9998 + 1) _ _ Try.underlying39 h5, eqItemsG _ ?_ 9998 w _ (fun i hi => by simpa using hi)]
  intro i hi
  match i, hi with
  | 0, _ => exact ⟨_, rfl⟩
  | 1, _ => exact ⟨_, rfl⟩
  | 2, _ => exact ⟨_, rfl⟩
  | 3, _ => exact ⟨_, rfl⟩
  | 4, _ => exact ⟨_, rfl⟩
  | 5, _ => exact ⟨_, rfl⟩
  | 6, _ => exact ⟨_, rfl⟩
  | 7, _ => exact ⟨_, rfl⟩
set_option maxHeartbeats 4000000 in
theorem sameG (w : World) (cu n0 n1 n2 n3 n4 n5 n6 n7 : Nat) (d : List Nat) (ao1 ao2 : Option Addr) (cap1 cap2 : Nat) (h1 : BRow w ao1 cap1 d) (h2 : BRow w ao2 cap2 d) : Calls Try.prog 16 #[.agg #[.int .i64 (cu : Int), .int .u64 (n0 : Int), .int .u64 (n1 : Int), .int .u64 (n2 : Int), .int .u64 (n3 : Int), .int .u64 (n4 : Int), .int .u64 (n5 : Int), .int .u64 (n6 : Int), .int .u64 (n7 : Int), .slice ao1 d.length cap1], .agg #[.int .i64 (cu : Int), .int .u64 (n0 : Int), .int .u64 (n1 : Int), .int .u64 (n2 : Int), .int .u64 (n3 : Int), .int .u64 (n4 : Int), .int .u64 (n5 : Int), .int .u64 (n6 : Int), .int .u64 (n7 : Int), .slice ao2 d.length cap2]] w fun e w' => e = .returned (.bool true) ∧ Below w.heap.size w w' := by
  have HS : Hid (∀ W, Below w.heap.size w W → Calls Try.prog 30 #[.slice ao1 d.length cap1, .slice ao2 d.length cap2] W fun e w' => e = .returned (.bool true) ∧ ∃ q, w' = W.drewN q) := fun W hb => by
    have := same_any ao1 ao2 cap1 cap2 d d W (h1.later hb) (h2.later hb)
    simp at this
    exact this
  have HB : Hid (∀ o1 o2, Below w.heap.size w ((w.alloc o1).alloc o2)) := fun _ _ => bx2_bel w _ _
  obtain ⟨dn, hdn⟩ : ∃ dn, d.length = dn := ⟨_, rfl⟩
  rw [hdn] at HS ⊢
  clear h1 h2 hdn
  go_enter Try.func16, Try.ntmps16
  have he : ∀ W : World, (Op.equalIn 10000 39 (.agg #[.int .u64 (n0 : Int), .int .u64 (n1 : Int), .int .u64 (n2 : Int), .int .u64 (n3 : Int), .int .u64 (n4 : Int), .int .u64 (n5 : Int), .int .u64 (n6 : Int), .int .u64 (n7 : Int)]) (.agg #[.int .u64 (n0 : Int), .int .u64 (n1 : Int), .int .u64 (n2 : Int), .int .u64 (n3 : Int), .int .u64 (n4 : Int), .int .u64 (n5 : Int), .int .u64 (n6 : Int), .int .u64 (n7 : Int)])).run Try.prog W = .ok true W := eqG n0 n1 n2 n3 n4 n5 n6 n7
  go_wp2_with fail
  refine (HS.out _ (HB.out _ _)).mono ?_
  rintro e w1 ⟨rfl, q, hw⟩
  have HB1 : Hid (Below w.heap.size w w1) := by
    show Below _ _ _
    rw [hw]; exact (HB.out _ _).trans ⟨rfl, rfl, rfl, Nat.le_refl _, fun _ _ => rfl⟩
  clear hw HB HS he
  go_wp2
  go_ret
  exact ⟨rfl, HB1.out⟩
end Go.Proofs.Ytckfmpoddmccfaa
namespace Go.Proofs.Ytckfmpoddmccfaa
open Go.RowKit
set_option linter.unusedVariables false
set_option linter.unusedSimpArgs false
set_option maxRecDepth 100000
theorem cutOf_sub {X : Type} (f : X → List Nat) (z : X) (hz : f z = []) (ov : Nat) (l : List Nat) (D : X × Nat × Nat) (hD : (f D.1).Sublist l) : (f (cutOf z ov l D).1).Sublist l := by
  rcases (cutOf_cases z ov l D).1 with e | e
  · rw [e, hz]; exact List.nil_sublist _
  · rw [e]; exact hD
theorem part_sub (l : List Nat) (a k : Nat) : ((l.drop a).take k).Sublist l := (List.take_sublist _ _).trans (List.drop_sublist _ _)
theorem cgD_sub (kd : Int) (m : Nat) (z x : Bool) (a : Int) (ov : Nat) (l : List Nat) : ((cgD kd m z x a ov l).1.2.2.2.2.2.2.2.2.2).Sublist l := by
  unfold cgD
  split
  · exact List.nil_sublist _
  split
  · exact List.nil_sublist _
  split
  · have e1 : (optC m ov l).1 = (cutOf (0, 0, false, []) ov l (optF m l)).1 := by unfold optC; simp only; split <;> rfl
    show ((optC m ov l).1.2.2.2).Sublist l
    rw [e1]
    refine cutOf_sub (fun y : Nat × Nat × Bool × List Nat => y.2.2.2) (0, 0, false, []) rfl ov l (optF m l) ?_
    show ((optD m l).1.2.2.2).Sublist l
    unfold optD
    repeat' split
    all_goals first | exact List.nil_sublist _ | exact part_sub _ _ _
  split
  · refine cutOf_sub (fun y : Nat × Nat × List Nat => y.2.2) (0, 0, []) rfl ov l (repD m l) ?_
    unfold repD
    repeat' split
    all_goals first | exact List.nil_sublist _ | exact part_sub _ _ _
  split
  · exact List.nil_sublist _
  split
  · refine cutOf_sub (fun y : Nat × Nat × Nat × Nat × Nat × List Nat => y.2.2.2.2.2) (0, 0, 0, 0, 0, []) rfl ov l (reqD m x l) ?_
    unfold reqD
    repeat' split
    all_goals first | exact List.nil_sublist _ | exact part_sub _ _ _
  split
  · refine cutOf_sub (fun y : Bool × Nat × Nat × Nat × Nat × Nat × Nat × List Nat => y.2.2.2.2.2.2.2) ansZ rfl ov l (ansD m x l) ?_
    have hc : ((chkD m x l).1.2.2.2.2).Sublist l := by
      unfold chkD
      repeat' split
      all_goals first | exact List.nil_sublist _ | exact part_sub _ _ _
    unfold ansD
    repeat' split
    all_goals first | exact List.nil_sublist _ | exact hc
  split
  · refine cutOf_sub (fun y : List Nat => y) [] rfl ov l (datD a l) ?_
    unfold datD
    repeat' split
    all_goals first | exact List.nil_sublist _ | exact List.take_sublist _ _
  exact List.nil_sublist _
end Go.Proofs.Ytckfmpoddmccfaa
namespace Go.Proofs.Ytckfmpoddmccfaa
open Go.RowKit
set_option linter.unusedVariables false
set_option maxRecDepth 100000
structure OpF where
  kd : Int
  bo : Option Addr
  bn : Nat
  bc : Nat
  m : Nat
  z : Bool
  x : Bool
  a : Int
def OpF.cells (o : OpF) : Array Value := #[.int .i64 o.kd, .slice o.bo o.bn o.bc, .int .u32 (o.m : Int), .bool o.z, .bool o.x, .int .i64 o.a]
/-- a script in memory -/
structure SRow (w : World) (so : Option Addr) (sc : Nat) (ops : List OpF) : Prop where
  ok : ∀ o ∈ ops, o.m < 4294967296
  len : ops.length ≤ 1048576
  at_ : ops ≠ [] → ∃ b off, so = some ⟨b, off, none⟩ ∧ ∀ k (hk : k < ops.length) j (hj : j < 6), w.cell? ⟨b, off + k * 6 + j, none⟩ = (ops[k].cells)[j]?
  nil : ops = [] → True
theorem SRow.later {w w' : World} {so : Option Addr} {sc : Nat} {ops : List OpF} (h : SRow w so sc ops) (hb : Below w.heap.size w w') : SRow w' so sc ops := by
  refine ⟨h.ok, h.len, fun hne => ?_, fun _ => trivial⟩
  obtain ⟨b, off, e, hc⟩ := h.at_ hne
  refine ⟨b, off, e, fun k hk j hj => ?_⟩
  have h1 := hc k hk j hj
  have hs : (ops[k].cells).size = 6 := rfl
  obtain ⟨u, hu⟩ : ∃ u, (ops[k].cells)[j]? = some u := ⟨(ops[k].cells)[j]'(by omega), Array.getElem?_eq_getElem (show j < ops[k].cells.size by omega)⟩
  rw [hu] at h1 ⊢
  exact cell_later hb h1
structure Cg where
  c : Nat
  k0 : Nat
  k1 : Nat
  k2 : Nat
  k3 : Nat
  k4 : Nat
  k5 : Nat
  k6 : Nat
  k7 : Nat
  g : List Nat
abbrev Cg.tup (q : Cg) : Nat × Nat × Nat × Nat × Nat × Nat × Nat × Nat × Nat × List Nat := (q.c, q.k0, q.k1, q.k2, q.k3, q.k4, q.k5, q.k6, q.k7, q.g)
theorem cutsQ {w : World} {B b : Nat} {v : Value} {rm ov : Nat} {l : List Nat} (h : Inb w B b v rm ov l) (bo : Option Addr) (bn bc m : Nat) (z x : Bool) (a : Int) (kd : Int) (hm : m < 4294967296) :
    Calls Try.prog 14 #[.pointer (some ⟨b, 0, none⟩), .agg #[.int .i64 kd, .slice bo bn bc, .int .u32 (m : Int), .bool z, .bool x, .int .i64 a]] w fun e w' => ∃ (q : Cg) (ov' : Nat) (l' : List Nat) (v' : Value) (ao2 : Option Addr) (cap2 : Nat), e = .returned (.agg #[.int .i64 (q.c : Int), .int .u64 (q.k0 : Int), .int .u64 (q.k1 : Int), .int .u64 (q.k2 : Int), .int .u64 (q.k3 : Int), .int .u64 (q.k4 : Int), .int .u64 (q.k5 : Int), .int .u64 (q.k6 : Int), .int .u64 (q.k7 : Int), .slice ao2 q.g.length cap2]) ∧ cgD kd m z x a ov l = (q.tup, ov', l') ∧ Inb w' B b v' rm ov' l' ∧ IAct w w' b v v' ∧ w'.ownsRow w.heap.size 5 1 (.slice ao2 q.g.length cap2) q.g.length (q.g.map bv) ∧ ∀ g, (Value.slice ao2 q.g.length cap2).ownBlock = some g → v'.ownBlock ≠ some g := by
  refine (cutsI_any h bo bn bc m z x a kd hm).mono ?_
  rintro e w' ⟨cu, n0, n1, n2, n3, n4, n5, n6, n7, d, ov', l', v', ao2, cap2, he, hx, hI, hA, hr, hn⟩
  exact ⟨⟨cu, n0, n1, n2, n3, n4, n5, n6, n7, d⟩, ov', l', v', ao2, cap2, he, hx, hI, hA, hr, hn⟩
abbrev TOp : TypeId := 38
abbrev TCu : TypeId := 41
end Go.Proofs.Ytckfmpoddmccfaa
