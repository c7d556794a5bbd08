import Derived.Test.YtjhickfjagalfaaDoorNS
import Derived.Test.YtjhickfjagalfaaDoorNM
import Derived.Test.YtjhickfjagalfaaDoorJWp
import Derived.Deep.DeepCutAuto
namespace Go.Proofs.YtjhickfjagalfaaDoor
open Go.RowKit
set_option linter.unusedVariables false
set_option linter.unusedSimpArgs false
set_option maxRecDepth 100000
theorem app_lt2 {l m : List Nat} (h : ∀ x ∈ l, x < 256) (k : ∀ x ∈ m, x < 256) : ∀ x ∈ l ++ m, x < 256 := fun x hx => (List.mem_append.1 hx).elim (h x) (k x)
theorem bx4_get (w : World) (o0 o1 o2 o3 : Obj) : ((((((w.alloc o0).alloc o1).alloc o2).alloc o3)).heap.size = w.heap.size + 4) ∧ Below w.heap.size w ((((w.alloc o0).alloc o1).alloc o2).alloc o3) ∧ ((((w.alloc o0).alloc o1).alloc o2).alloc o3).heap[w.heap.size]? = some o0 ∧ ((((w.alloc o0).alloc o1).alloc o2).alloc o3).heap[w.heap.size + 1]? = some o1 ∧ ((((w.alloc o0).alloc o1).alloc o2).alloc o3).heap[w.heap.size + 1 + 1]? = some o2 ∧ ((((w.alloc o0).alloc o1).alloc o2).alloc o3).heap[w.heap.size + 1 + 1 + 1]? = some o3 := by
  have b0 : Below w.heap.size w (w.alloc o0) := (Below.refl _ _).alloc (Nat.le_refl _) _
  have b1 := b0.alloc b0.size o1
  have b2 := b1.alloc b1.size o2
  have b3 := b2.alloc b2.size o3
  have n0 := heap_new w o0
  have n1 := heap_new (w.alloc o0) o1
  have n2 := heap_new ((w.alloc o0).alloc o1) o2
  have n3 := heap_new (((w.alloc o0).alloc o1).alloc o2) o3
  simp only [World.size_alloc] at n1 n2 n3
  refine ⟨by simp, b3, ?_, ?_, ?_, n3⟩
  · rw [Below.heap_alloc _ _ _ (by simp only [World.size_alloc]; omega), Below.heap_alloc _ _ _ (by simp only [World.size_alloc]; omega), Below.heap_alloc _ _ _ (by simp only [World.size_alloc]; omega)]; exact n0
  · rw [Below.heap_alloc _ _ _ (by simp only [World.size_alloc]; omega), Below.heap_alloc _ _ _ (by simp only [World.size_alloc]; omega)]; exact n1
  · rw [Below.heap_alloc _ _ _ (by simp only [World.size_alloc]; omega)]; exact n2
set_option maxHeartbeats 64000000 in
theorem wireBack0 (oc ok rc rk qf qt qc qo qn cf ct cc co most k1 k2 k3 k4 km F : Nat) (lg : Bool) (a1 a2 a3 a4 am : Option Addr) (p1 p2 p3 p4 pm : Nat) (d1 d2 d3 d4 m : List Nat) (w : World) (hT : Tb w)
    (h1 : BRow w a1 p1 d1) (h2 : BRow w a2 p2 d2) (h3 : BRow w a3 p3 d3) (h4 : BRow w a4 p4 d4) (hm : BRow w am pm m) (e1 : d1.length = k1) (e2 : d2.length = k2) (e3 : d3.length = k3) (e4 : d4.length = k4) (em : m.length = km) (n1 : k1 ≤ 1048576) (n2 : k2 ≤ 1048576) (n3 : k3 ≤ 1048576) (n4 : k4 ≤ 1048576) (nm : km ≤ 1048576)
    (hF : bits .or .u16 (qf : Int) 32 = (F : Int)) (hm4 : most < 4294967296)
    (N1 N2 N3 N4 : Nat) (x1 : 16 + k1 = N1) (x2 : 20 + k2 = N2) (x3 : 28 + k3 = N3) (x4 : 20 + k4 = N4)
    (E1 : Hid (∀ W : World, BRow W a1 p1 d1 → Calls Tryd.prog 29 #[.agg #[.int .u32 (oc : Int), .int .u32 (k1 : Int), .bool false, .slice a1 k1 p1]] W fun e w' => ∃ ao' cap', e = .returned (.tuple #[.slice ao' N1 cap', .int .i64 0]) ∧ Row W w' ao' cap' (oL oc d1)))
    (E2 : Hid (∀ W : World, BRow W a2 p2 d2 → Calls Tryd.prog 30 #[.agg #[.int .u32 (rc : Int), .int .u32 (rk : Int), .slice a2 k2 p2]] W fun e w' => ∃ ao' cap', e = .returned (.slice ao' N2 cap') ∧ Row W w' ao' cap' (rL rc rk d2)))
    (E3 : Hid (∀ W : World, BRow W a3 p3 d3 → Calls Tryd.prog 31 #[.agg #[.int .u16 (F : Int), .int .u16 1, .int .u64 (qc : Int), .int .u64 (qo : Int), .int .u64 (k3 : Int), .slice a3 k3 p3], .bool false] W fun e w' => ∃ ao' cap', e = .returned (.tuple #[.slice ao' N3 cap', .int .i64 0]) ∧ Row W w' ao' cap' (qL F 1 qc qo k3 d3 false)))
    (E4 : Hid (∀ W : World, BRow W a4 p4 d4 → Calls Tryd.prog 32 #[.agg #[.int .u16 (cf : Int), .int .u16 (ct : Int), .int .u64 (cc : Int), .int .u64 0, .slice a4 k4 p4], .bool false] W fun e w' => ∃ ao' cap', e = .returned (.slice ao' N4 cap') ∧ Row W w' ao' cap' (kC cf ct cc 0 d4 false)))
    (l1 : (oL oc d1).length = N1) (l2 : (rL rc rk d2).length = N2) (l3 : (qL F 1 qc qo k3 d3 false).length = N3) (l4 : (kC cf ct cc 0 d4 false).length = N4)
    (D1f : Hid (k1 ≤ most → DOpt oc false most k1 k1 N1 0 d1 d1 m)) (D1l : Hid (most < k1 → DOpt oc true most k1 0 16 12 d1 [] m))
    (D2f : Hid (k2 ≤ most → DRep rc rk false most k2 k2 N2 0 d2 d2 m)) (D2l : Hid (most < k2 → DRep rc rk false most k2 0 20 12 d2 [] m))
    (D3f : Hid (k3 ≤ most → DReq F 1 qc qo false false most k3 k3 N3 0 d3 d3 m)) (D3l : Hid (most < k3 → DReq F 1 qc qo false false most k3 0 28 12 d3 [] m))
    (D4f : Hid (k4 ≤ most → DChk cf ct cc 0 false false most k4 k4 N4 0 d4 d4 m)) (D4l : Hid (most < k4 → DChk cf ct cc 0 false false most k4 0 20 12 d4 [] m)) :
    Calls Tryd.prog 8 #[.agg #[.int .u32 (oc : Int), .int .u32 (ok : Int), .bool lg, .slice a1 k1 p1], .agg #[.int .u32 (rc : Int), .int .u32 (rk : Int), .slice a2 k2 p2], .agg #[.int .u16 (qf : Int), .int .u16 (qt : Int), .int .u64 (qc : Int), .int .u64 (qo : Int), .int .u64 (qn : Int), .slice a3 k3 p3], .agg #[.int .u16 (cf : Int), .int .u16 (ct : Int), .int .u64 (cc : Int), .int .u64 (co : Int), .slice a4 k4 p4], .int .u32 (most : Int), .bool false, .slice am km pm] w fun e w' => e = .returned (.bool true) ∧ Below w.heap.size w w' := by
  obtain ⟨i0, hi, hz0, hz1, hz2⟩ := info_parts Tryd.info5
  obtain ⟨W0, hW0⟩ : ∃ W0, W0 = ((((w.alloc (.cells #[.int .u32 (oc : Int), .int .u32 (k1 : Int), .bool false, .slice a1 k1 p1] 55)).alloc (.cells #[.int .u32 (rc : Int), .int .u32 (rk : Int), .slice a2 k2 p2] 57)).alloc (.cells #[.int .u16 (F : Int), .int .u16 1, .int .u64 (qc : Int), .int .u64 (qo : Int), .int .u64 (k3 : Int), .slice a3 k3 p3] 59)).alloc (.cells #[.int .u16 (cf : Int), .int .u16 (ct : Int), .int .u64 (cc : Int), .int .u64 0, .slice a4 k4 p4] 61)) := ⟨_, rfl⟩
  have v1 : IntKind.u32.wrap (k1 : Int) = (k1 : Int) := by rw [IntKind.wrap_u32]; omega
  have v3 : IntKind.u64.wrap (k3 : Int) = (k3 : Int) := by rw [IntKind.wrap_u64]; omega
  have y1 : IntKind.i64.wrap (16 + (k1 : Int)) = (N1 : Int) := by rw [IntKind.wrap_i64]; omega
  have y2 : IntKind.i64.wrap (20 + (k2 : Int)) = (N2 : Int) := by rw [IntKind.wrap_i64]; omega
  have y3 : IntKind.i64.wrap (28 + (k3 : Int)) = (N3 : Int) := by rw [IntKind.wrap_i64]; omega
  have y4 : IntKind.i64.wrap (20 + (k4 : Int)) = (N4 : Int) := by rw [IntKind.wrap_i64]; omega
  have HX : Hid (16 + k1 = N1 ∧ 20 + k2 = N2 ∧ 28 + k3 = N3 ∧ 20 + k4 = N4) := ⟨x1, x2, x3, x4⟩
  have HK : Hid (k1 ≤ 1048576 ∧ k2 ≤ 1048576 ∧ k3 ≤ 1048576 ∧ k4 ≤ 1048576 ∧ km ≤ 1048576) := ⟨n1, n2, n3, n4, nm⟩
  have HE : Hid (d1.length = k1 ∧ d2.length = k2 ∧ d3.length = k3 ∧ d4.length = k4 ∧ m.length = km) := ⟨e1, e2, e3, e4, em⟩
  have HR : Hid (BRow w a1 p1 d1 ∧ BRow w a2 p2 d2 ∧ BRow w a3 p3 d3 ∧ BRow w a4 p4 d4 ∧ BRow w am pm m) := ⟨h1, h2, h3, h4, hm⟩
  have HL : Hid ((oL oc d1).length = N1 ∧ (rL rc rk d2).length = N2 ∧ (qL F 1 qc qo k3 d3 false).length = N3 ∧ (kC cf ct cc 0 d4 false).length = N4) := ⟨l1, l2, l3, l4⟩
  have HNum : Hid (∀ (e : Int) (w : World), Calls Tryd.prog 27 #[.int .i64 e] w fun r w' => r = .returned (.int .i64 e) ∧ w' = w) := num_any
  have HTb : Hid (Tb w) := hT
  clear hT h1 h2 h3 h4 hm e1 e2 e3 e4 em n1 n2 n3 n4 nm x1 x2 x3 x4 l1 l2 l3 l4
  have hbx := bx4_get w (.cells #[.int .u32 (oc : Int), .int .u32 (k1 : Int), .bool false, .slice a1 k1 p1] 55) (.cells #[.int .u32 (rc : Int), .int .u32 (rk : Int), .slice a2 k2 p2] 57) (.cells #[.int .u16 (F : Int), .int .u16 1, .int .u64 (qc : Int), .int .u64 (qo : Int), .int .u64 (k3 : Int), .slice a3 k3 p3] 59) (.cells #[.int .u16 (cf : Int), .int .u16 (ct : Int), .int .u64 (cc : Int), .int .u64 0, .slice a4 k4 p4] 61)
  rw [← hW0] at hbx
  have HBX : Hid _ := hbx
  clear hbx
  have HC0 : Hid (∀ W : World, Below W0.heap.size W0 W → W.cell? ⟨w.heap.size, 0, none⟩ = some (.int .u32 (oc : Int)) ∧ W.cell? ⟨w.heap.size, 1, none⟩ = some (.int .u32 (k1 : Int)) ∧ W.cell? ⟨w.heap.size, 2, none⟩ = some (.bool false) ∧ W.cell? ⟨w.heap.size, 3, none⟩ = some (.slice a1 k1 p1)) := fun W hb => by
    obtain ⟨hs, _, g0, g1, g2, g3⟩ := HBX.out
    have t := (hb.block _ (by omega)).trans g0
    exact ⟨blk_at t 0, blk_at t 1, blk_at t 2, blk_at t 3⟩
  have HC1 : Hid (∀ W : World, Below W0.heap.size W0 W → W.cell? ⟨w.heap.size + 1, 0, none⟩ = some (.int .u32 (rc : Int)) ∧ W.cell? ⟨w.heap.size + 1, 1, none⟩ = some (.int .u32 (rk : Int)) ∧ W.cell? ⟨w.heap.size + 1, 2, none⟩ = some (.slice a2 k2 p2)) := fun W hb => by
    obtain ⟨hs, _, g0, g1, g2, g3⟩ := HBX.out
    have t := (hb.block _ (by omega)).trans g1
    exact ⟨blk_at t 0, blk_at t 1, blk_at t 2⟩
  have HC2 : Hid (∀ W : World, Below W0.heap.size W0 W → W.cell? ⟨w.heap.size + 1 + 1, 0, none⟩ = some (.int .u16 (F : Int)) ∧ W.cell? ⟨w.heap.size + 1 + 1, 1, none⟩ = some (.int .u16 1) ∧ W.cell? ⟨w.heap.size + 1 + 1, 2, none⟩ = some (.int .u64 (qc : Int)) ∧ W.cell? ⟨w.heap.size + 1 + 1, 3, none⟩ = some (.int .u64 (qo : Int)) ∧ W.cell? ⟨w.heap.size + 1 + 1, 4, none⟩ = some (.int .u64 (k3 : Int)) ∧ W.cell? ⟨w.heap.size + 1 + 1, 5, none⟩ = some (.slice a3 k3 p3)) := fun W hb => by
    obtain ⟨hs, _, g0, g1, g2, g3⟩ := HBX.out
    have t := (hb.block _ (by omega)).trans g2
    exact ⟨blk_at t 0, blk_at t 1, blk_at t 2, blk_at t 3, blk_at t 4, blk_at t 5⟩
  have HC3 : Hid (∀ W : World, Below W0.heap.size W0 W → W.cell? ⟨w.heap.size + 1 + 1 + 1, 0, none⟩ = some (.int .u16 (cf : Int)) ∧ W.cell? ⟨w.heap.size + 1 + 1 + 1, 1, none⟩ = some (.int .u16 (ct : Int)) ∧ W.cell? ⟨w.heap.size + 1 + 1 + 1, 2, none⟩ = some (.int .u64 (cc : Int)) ∧ W.cell? ⟨w.heap.size + 1 + 1 + 1, 3, none⟩ = some (.int .u64 0) ∧ W.cell? ⟨w.heap.size + 1 + 1 + 1, 4, none⟩ = some (.slice a4 k4 p4)) := fun W hb => by
    obtain ⟨hs, _, g0, g1, g2, g3⟩ := HBX.out
    have t := (hb.block _ (by omega)).trans g3
    exact ⟨blk_at t 0, blk_at t 1, blk_at t 2, blk_at t 3, blk_at t 4⟩
  go_enter Tryd.func8, Tryd.ntmps8
  go_wp2_with fail
  rw [← hW0]
  clear hW0
  have Q : Hid (Below W0.heap.size W0 W0) := Below.refl _ _
  refine (E1.out _ (HR.out.1.later HBX.out.2.1)).mono ?_
  rintro e u1x ⟨ao1, cap1, rfl, hr⟩
  have hb := hr.bel
  obtain ⟨B1, hB1⟩ : ∃ B, u1x.heap.size = B := ⟨_, rfl⟩
  have R1 : Hid (RowAt u1x W0.heap.size B1 ao1 N1 cap1 (oL oc d1)) := by have := hr.at HL.out.1; rw [hB1] at this; exact this
  have HBa : Hid (W0.heap.size ≤ B1) := by have := hb.size; rw [hB1] at this; exact this
  replace Q : Hid (Below W0.heap.size W0 u1x) := hb
  clear hr hb E1
  obtain ⟨c20, c21, c22, c23, c24, c25⟩ := HC2.out _ Q.out
  go_wp2_with fail
  refine (E3.out _ (HR.out.2.2.1.later (HBX.out.2.1.trans (Q.out.mono HBX.out.2.1.size)))).mono ?_
  rintro e u2x ⟨ao3, cap3, rfl, hr⟩
  clear c20 c21 c22 c23 c24 c25
  have hb := hr.bel
  obtain ⟨B2, hB2⟩ : ∃ B, u2x.heap.size = B := ⟨_, rfl⟩
  have R3 : Hid (RowAt u2x B1 B2 ao3 N3 cap3 (qL F 1 qc qo k3 d3 false)) := by have := hr.at HL.out.2.2.1; rw [hB1, hB2] at this; exact this
  have HBb : Hid (B1 ≤ B2) := by have := hb.size; rw [hB1, hB2] at this; exact this
  clear hr E3 hB1
  replace Q : Hid (Below W0.heap.size W0 u2x) := Q.out.trans (hb.mono Q.out.size)
  replace R1 : Hid (RowAt u2x W0.heap.size B1 ao1 N1 cap1 (oL oc d1)) := R1.out.later hb
  clear hb
  obtain ⟨c10, c11, c12⟩ := HC1.out _ Q.out
  obtain ⟨c30, c31, c32, c33, c34⟩ := HC3.out _ Q.out
  have HP : Hid (Below w.heap.size w u2x) := HBX.out.2.1.trans (Q.out.mono HBX.out.2.1.size)
  go_wp2_with fail
  go_region_held3 (fun w' => w'.cell? ⟨w.heap.size + 1, 0, none⟩ = some (.int .u32 (rc : Int)) ∧ w'.cell? ⟨w.heap.size + 1, 1, none⟩ = some (.int .u32 (rk : Int)) ∧ w'.cell? ⟨w.heap.size + 1, 2, none⟩ = some (.slice a2 k2 p2) ∧ w'.cell? ⟨w.heap.size + 1 + 1 + 1, 0, none⟩ = some (.int .u16 (cf : Int)) ∧ w'.cell? ⟨w.heap.size + 1 + 1 + 1, 1, none⟩ = some (.int .u16 (ct : Int)) ∧ w'.cell? ⟨w.heap.size + 1 + 1 + 1, 2, none⟩ = some (.int .u64 (cc : Int)) ∧ w'.cell? ⟨w.heap.size + 1 + 1 + 1, 3, none⟩ = some (.int .u64 0) ∧ w'.cell? ⟨w.heap.size + 1 + 1 + 1, 4, none⟩ = some (.slice a4 k4 p4)) (first | exact ⟨(HC1.out _ Q4.out).1, (HC1.out _ Q4.out).2.1, (HC1.out _ Q4.out).2.2, HC3.out _ Q4.out⟩ | exact ⟨(HC1.out _ Q2.out).1, (HC1.out _ Q2.out).2.1, (HC1.out _ Q2.out).2.2, HC3.out _ Q2.out⟩ | go_keep) (first | (go_at_call 30; refine (E2.out _ ?bx).mono ?_; (case bx => exact HR.out.2.1.later ⟨HP.out.os, HP.out.tape, HP.out.output, HP.out.size, HP.out.block⟩); rintro e u3x ⟨ao2, cap2, rfl, h2⟩; have hb2 : Below u2x.heap.size u2x u3x := ⟨h2.bel.os, h2.bel.tape, h2.bel.output, h2.bel.size, h2.bel.block⟩; have Q2 : Hid (Below W0.heap.size W0 u3x) := Q.out.trans (hb2.mono Q.out.size); have T2 : Hid (Row u2x u3x ao2 cap2 (rL rc rk d2)) := ⟨h2.own, h2.lt, hb2⟩; clear h2 hb2) | (go_at_call 32; refine (E4.out _ ?bx).mono ?_; (case bx => exact HR.out.2.2.2.1.later (HBX.out.2.1.trans (Q2.out.mono HBX.out.2.1.size))); rintro e u4x ⟨ao4, cap4, rfl, h4⟩; have Q4 : Hid (Below W0.heap.size W0 u4x) := Q2.out.trans (h4.bel.mono Q2.out.size); have T4 : Hid _ := h4; clear h4))
  clear c10 c11 c12 c30 c31 c32 c33 c34 E2 E4 HP
  obtain ⟨B3, hB3⟩ : ∃ B, u3x.heap.size = B := ⟨_, rfl⟩
  obtain ⟨B4, hB4⟩ : ∃ B, u4x.heap.size = B := ⟨_, rfl⟩
  have hb3 := T2.out.bel
  have hb4 := T4.out.bel
  have hb := hb3.trans (hb4.mono hb3.size)
  have HBc : Hid (B2 ≤ B3) := by have := hb3.size; rw [hB2, hB3] at this; exact this
  have HBd : Hid (B3 ≤ B4) := by have := hb4.size; rw [hB3, hB4] at this; exact this
  have R2 : Hid (RowAt u4x B2 B3 ao2 N2 cap2 (rL rc rk d2)) := by have := T2.out.at HL.out.2.1; rw [hB2, hB3] at this; exact this.later hb4
  have R4 : Hid (RowAt u4x B3 B4 ao4 N4 cap4 (kC cf ct cc 0 d4 false)) := by have := T4.out.at HL.out.2.2.2; rw [hB3, hB4] at this; exact this
  replace Q : Hid (Below W0.heap.size W0 u4x) := Q.out.trans (hb.mono Q.out.size)
  replace R1 : Hid (RowAt u4x W0.heap.size B1 ao1 N1 cap1 (oL oc d1)) := R1.out.later hb
  replace R3 : Hid (RowAt u4x B1 B2 ao3 N3 cap3 (qL F 1 qc qo k3 d3 false)) := R3.out.later hb
  have Z : Hid (B4 ≤ u4x.heap.size) := Nat.le_of_eq hB4.symm
  clear hb hb3 hb4 T2 T4 Q2 Q4 hB2 hB3 hB4
  obtain ⟨c00, c01, c02, c03⟩ := HC0.out _ Q.out
  obtain ⟨c10, c11, c12⟩ := HC1.out _ Q.out
  obtain ⟨c20, c21, c22, c23, c24, c25⟩ := HC2.out _ Q.out
  obtain ⟨c30, c31, c32, c33, c34⟩ := HC3.out _ Q.out
  go_wp2_with fail
  refine (HNum.out _ _).mono ?_
  rintro e wn ⟨rfl, hw⟩
  rw [hw]; clear hw
  go_wp2_with fail
  refine (HNum.out _ _).mono ?_
  rintro e wn ⟨rfl, hw⟩
  rw [hw]; clear hw
  have HO : Hid (W0.heap.size ≤ B1 ∧ B1 ≤ B2 ∧ B2 ≤ B3 ∧ B3 ≤ B4) := ⟨HBa.out, HBb.out, HBc.out, HBd.out⟩
  clear HBa HBb HBc HBd
  go_upto_region 15 with fail
  clear c00 c01 c02 c03 c10 c11 c12 c20 c21 c22 c23 c24 c25 c30 c31 c32 c33 c34
  obtain ⟨lgx, k2x, Nx, Ex, ddx, hD, hcs⟩ : ∃ (lgx : Bool) (k2x Nx Ex : Nat) (ddx : List Nat), DOpt oc lgx most k1 k2x Nx Ex d1 ddx m ∧ ((k1 ≤ most ∧ false = lgx ∧ k1 = k2x ∧ N1 = Nx ∧ 0 = Ex ∧ d1 = ddx) ∨ (most < k1 ∧ true = lgx ∧ 0 = k2x ∧ 16 = Nx ∧ 12 = Ex ∧ [] = ddx)) := by
    rcases Nat.lt_or_ge most k1 with h | h
    · exact ⟨true, 0, 16, 12, [], D1l.out h, .inr ⟨h, rfl, rfl, rfl, rfl, rfl⟩⟩
    · exact ⟨false, k1, N1, 0, d1, D1f.out h, .inl ⟨h, rfl, rfl, rfl, rfl, rfl⟩⟩
  have HD : Hid _ := hD
  have HCS : Hid _ := hcs
  clear hD hcs D1f D1l
  have hw : Below w.heap.size w _ := HBX.out.2.1.trans (Q.out.mono HBX.out.2.1.size)
  have hlo : W0.heap.size ≤ u4x.heap.size := Nat.le_trans (by have := HO.out; omega) Z.out
  have hsz : N1 + km ≤ 2097252 := by have := HX.out; have := HK.out; omega
  go_wp2_with (at_builtin; refine wpList_append_two _ rfl (.tmp 114) (.tmp 115) 37 rfl (W0.heap.size) 5 i0 (.int .u8 0) 1 Tryd.underlying37 hi hz0 hz1 hz2 rfl (.slice ao1 N1 cap1) N1 ((oL oc d1).map bv) rfl R1.out.own am km pm (m.map bv) rfl (fun e => by have := HR.out.2.2.2.2.nil' e; rw [HE.out.2.2.2.2] at this; exact this) (by rw [List.length_map]; exact HE.out.2.2.2.2) (HR.out.2.2.2.2.later hw).news (bv_one m) (by unfold maxLen; omega) (by omega) hlo ?_)
  intro v9 u5x ho hg hf9
  obtain ⟨aq, cq, rfl⟩ := owns_form ho
  have hga : ∀ g, (Value.slice ao1 N1 cap1).ownBlock = some g → W0.heap.size ≤ g ∧ g < B1 := fun g h => ⟨(owns_lt R1.out.own g h).2, R1.out.hi g h⟩
  have hlt9 := R1.out.lt
  have hO := HO.out
  replace Q : Hid (Below W0.heap.size W0 u5x) := Q.out.grown hg Q.out.size (fun g h => by have := hga g h; omega)
  replace Z : Hid (B4 ≤ u5x.heap.size) := Nat.le_trans Z.out hg.size
  replace R3 : Hid (RowAt u5x B1 B2 ao3 N3 cap3 (qL F 1 qc qo k3 d3 false)) := R3.out.grown hg (fun g h => .inl (by have := hga g h; omega))
  replace R2 : Hid (RowAt u5x B2 B3 ao2 N2 cap2 (rL rc rk d2)) := R2.out.grown hg (fun g h => .inl (by have := hga g h; omega))
  replace R4 : Hid (RowAt u5x B3 B4 ao4 N4 cap4 (kC cf ct cc 0 d4 false)) := R4.out.grown hg (fun g h => .inl (by have := hga g h; omega))
  have hlen : ((oL oc d1) ++ m).length = N1 + km := by rw [List.length_append, HL.out.1, HE.out.2.2.2.2]
  have hc : CRow u5x aq cq ((oL oc d1) ++ m) := crow_of (by rw [List.map_append]; exact ho) (app_lt2 hlt9 HR.out.2.2.2.2.lt) hlen (by omega)
  obtain ⟨b9, o9, rfl⟩ := hc.some (by rw [hlen]; have := HX.out; omega)
  have HDc : Hid _ := HD.out b9 o9 cq (N1 + km) _ hc hlen
  clear hw hlo ho hg hf9 hga hc hlt9 hlen hO hsz R1 HD
  go_wp2_with fail
  refine Calls.mono HDc.out ?_
  rintro e u6x ⟨aox, capx, rfl, hbx, hb⟩
  have HBx : Hid (BRow u6x aox capx ddx) := hbx
  clear HDc hbx
  replace Q : Hid (Below W0.heap.size W0 u6x) := Q.out.trans (hb.mono Q.out.size)
  replace Z : Hid (B4 ≤ u6x.heap.size) := Nat.le_trans Z.out hb.size
  replace R3 : Hid (RowAt u6x B1 B2 ao3 N3 cap3 (qL F 1 qc qo k3 d3 false)) := R3.out.later hb
  replace R2 : Hid (RowAt u6x B2 B3 ao2 N2 cap2 (rL rc rk d2)) := R2.out.later hb
  replace R4 : Hid (RowAt u6x B3 B4 ao4 N4 cap4 (kC cf ct cc 0 d4 false)) := R4.out.later hb
  clear hb
  obtain ⟨u7x, hV⟩ : ∃ V, V = u6x.alloc (.cells #[.int .u32 (oc : Int), .int .u32 (k1 : Int), .bool lgx, .slice aox k2x capx] 55) := ⟨_, rfl⟩
  obtain ⟨pb, hpb⟩ : ∃ pb, pb = u6x.heap.size := ⟨_, rfl⟩
  have hal : Below u6x.heap.size u6x u7x := by rw [hV]; exact (Below.refl _ _).alloc (Nat.le_refl _) _
  have HPb : Hid (u7x.heap[pb]? = some (.cells #[.int .u32 (oc : Int), .int .u32 (k1 : Int), .bool lgx, .slice aox k2x capx] 55 (0, 0))) := by show _ = _; rw [hV, hpb]; exact heap_new u6x _
  have HBy : Hid (BRow u7x aox capx ddx) := HBx.out.later hal
  clear HBx
  have HBV : Hid (Below W0.heap.size W0 u7x) := Q.out.trans (hal.mono Q.out.size)
  go_upto_region 16 with fail
  rw [← hV, ← hpb]
  clear hV hpb
  replace Q : Hid (Below W0.heap.size W0 u7x) := Q.out.trans (hal.mono Q.out.size)
  replace Z : Hid (B4 ≤ u7x.heap.size) := Nat.le_trans Z.out hal.size
  replace R3 : Hid (RowAt u7x B1 B2 ao3 N3 cap3 (qL F 1 qc qo k3 d3 false)) := R3.out.later hal
  replace R2 : Hid (RowAt u7x B2 B3 ao2 N2 cap2 (rL rc rk d2)) := R2.out.later hal
  replace R4 : Hid (RowAt u7x B3 B4 ao4 N4 cap4 (kC cf ct cc 0 d4 false)) := R4.out.later hal
  clear hal HBV
  go_cut [185] from 122 to 185 (fun v wc => v = .bool false ∧ Hid (Below u7x.heap.size u7x wc))
  case first =>
    have hk1 : k1 ≤ 1048576 := by have := HK.out; omega
    rcases HCS.out with ⟨hle, rfl, rfl, rfl, rfl, rfl⟩ | ⟨hle, rfl, rfl, rfl, rfl, rfl⟩
    · have HY : Hid (∀ W : World, Calls Tryd.prog 54 #[.slice a1 k1 p1, .int .u32 (most : Int)] W fun e w' => e = .returned (.bool true) ∧ w' = W) := fun W => fits_yes a1 p1 k1 most W hk1 hm4 hle
      clear hle
      have zz0 := blk_at HPb.out 0
      have zz1 := blk_at HPb.out 1
      have zz2 := blk_at HPb.out 2
      have zz3 := blk_at HPb.out 3
      simp at zz0 zz1 zz2 zz3
      obtain ⟨c00, c01, c02, c03⟩ := HC0.out _ Q.out
      go_wp2_with fail
      refine (HY.out _).mono ?_
      rintro e wn ⟨rfl, hw⟩
      rw [hw]; clear hw
      go_wp2_with fail
      refine (HNum.out _ _).mono ?_
      rintro e wn ⟨rfl, hw⟩
      rw [hw]; clear hw
      go_wp2_with fail
      refine (sameOpt oc k1 false aox a1 capx p1 k1 d1 _ HBy.out (HR.out.1.later (HBX.out.2.1.trans (Q.out.mono HBX.out.2.1.size))) HE.out.1).mono ?_
      rintro e uy ⟨rfl, hb⟩
      have HB9 : Hid (Below u7x.heap.size u7x uy) := hb
      clear hb c00 c01 c02 c03 zz0 zz1 zz2 zz3
      obtain ⟨c00, c01, c02, c03⟩ := HC0.out _ (Q.out.trans (HB9.out.mono Q.out.size))
      go_wp2_with fail
      refine (HY.out _).mono ?_
      rintro e wn ⟨rfl, hw⟩
      rw [hw]; clear hw
      go_wp2
      go_meet
      exact ⟨rfl, HB9⟩
    · have HY : Hid (∀ W : World, Calls Tryd.prog 54 #[.slice a1 k1 p1, .int .u32 (most : Int)] W fun e w' => e = .returned (.bool false) ∧ w' = W) := fun W => fits_no a1 p1 k1 most W hk1 hm4 hle
      clear hle
      have zz0 := blk_at HPb.out 0
      have zz1 := blk_at HPb.out 1
      have zz2 := blk_at HPb.out 2
      have zz3 := blk_at HPb.out 3
      simp at zz0 zz1 zz2 zz3
      obtain ⟨c00, c01, c02, c03⟩ := HC0.out _ Q.out
      go_wp2_with fail
      refine (HY.out _).mono ?_
      rintro e wn ⟨rfl, hw⟩
      rw [hw]; clear hw
      go_wp2_with fail
      refine (HY.out _).mono ?_
      rintro e wn ⟨rfl, hw⟩
      rw [hw]; clear hw
      go_wp2_with fail
      refine (HNum.out _ _).mono ?_
      rintro e wn ⟨rfl, hw⟩
      rw [hw]; clear hw
      go_wp2
      go_meet
      exact ⟨rfl, Below.refl _ _⟩
  obtain ⟨rfl, hb9⟩ := hcut
  have hb := hb9.out
  clear hb9 HPb HBy HCS
  replace Q : Hid (Below W0.heap.size W0 wc) := Q.out.trans (hb.mono Q.out.size)
  replace Z : Hid (B4 ≤ wc.heap.size) := Nat.le_trans Z.out hb.size
  replace R3 : Hid (RowAt wc B1 B2 ao3 N3 cap3 (qL F 1 qc qo k3 d3 false)) := R3.out.later hb
  replace R2 : Hid (RowAt wc B2 B3 ao2 N2 cap2 (rL rc rk d2)) := R2.out.later hb
  replace R4 : Hid (RowAt wc B3 B4 ao4 N4 cap4 (kC cf ct cc 0 d4 false)) := R4.out.later hb
  clear hb
  obtain ⟨u8x, hwc⟩ : ∃ X, X = wc := ⟨_, rfl⟩
  subst hwc
  go_upto_region 18 with fail
  obtain ⟨lgx, k2x, Nx, Ex, ddx, hD, hcs⟩ : ∃ (lgx : Bool) (k2x Nx Ex : Nat) (ddx : List Nat), DRep rc rk lgx most k2 k2x Nx Ex d2 ddx m ∧ ((k2 ≤ most ∧ false = lgx ∧ k2 = k2x ∧ N2 = Nx ∧ 0 = Ex ∧ d2 = ddx) ∨ (most < k2 ∧ false = lgx ∧ 0 = k2x ∧ 20 = Nx ∧ 12 = Ex ∧ [] = ddx)) := by
    rcases Nat.lt_or_ge most k2 with h | h
    · exact ⟨false, 0, 20, 12, [], D2l.out h, .inr ⟨h, rfl, rfl, rfl, rfl, rfl⟩⟩
    · exact ⟨false, k2, N2, 0, d2, D2f.out h, .inl ⟨h, rfl, rfl, rfl, rfl, rfl⟩⟩
  have HD : Hid _ := hD
  have HCS : Hid _ := hcs
  clear hD hcs D2f D2l
  have hw : Below w.heap.size w _ := HBX.out.2.1.trans (Q.out.mono HBX.out.2.1.size)
  have hlo : B2 ≤ u8x.heap.size := Nat.le_trans (by have := HO.out; omega) Z.out
  have hsz : N2 + km ≤ 2097252 := by have := HX.out; have := HK.out; omega
  go_wp2_with (at_builtin; refine wpList_append_two _ rfl (.tmp 187) (.tmp 188) 37 rfl (B2) 5 i0 (.int .u8 0) 1 Tryd.underlying37 hi hz0 hz1 hz2 rfl (.slice ao2 N2 cap2) N2 ((rL rc rk d2).map bv) rfl R2.out.own am km pm (m.map bv) rfl (fun e => by have := HR.out.2.2.2.2.nil' e; rw [HE.out.2.2.2.2] at this; exact this) (by rw [List.length_map]; exact HE.out.2.2.2.2) (HR.out.2.2.2.2.later hw).news (bv_one m) (by unfold maxLen; omega) (by omega) hlo ?_)
  intro v9 u9x ho hg hf9
  obtain ⟨aq, cq, rfl⟩ := owns_form ho
  have hga : ∀ g, (Value.slice ao2 N2 cap2).ownBlock = some g → B2 ≤ g ∧ g < B3 := fun g h => ⟨(owns_lt R2.out.own g h).2, R2.out.hi g h⟩
  have hlt9 := R2.out.lt
  have hO := HO.out
  replace Q : Hid (Below W0.heap.size W0 u9x) := Q.out.grown hg Q.out.size (fun g h => by have := hga g h; omega)
  replace Z : Hid (B4 ≤ u9x.heap.size) := Nat.le_trans Z.out hg.size
  replace R3 : Hid (RowAt u9x B1 B2 ao3 N3 cap3 (qL F 1 qc qo k3 d3 false)) := R3.out.grown hg (fun g h => .inr (by have := hga g h; omega))
  replace R4 : Hid (RowAt u9x B3 B4 ao4 N4 cap4 (kC cf ct cc 0 d4 false)) := R4.out.grown hg (fun g h => .inl (by have := hga g h; omega))
  have hlen : ((rL rc rk d2) ++ m).length = N2 + km := by rw [List.length_append, HL.out.2.1, HE.out.2.2.2.2]
  have hc : CRow u9x aq cq ((rL rc rk d2) ++ m) := crow_of (by rw [List.map_append]; exact ho) (app_lt2 hlt9 HR.out.2.2.2.2.lt) hlen (by omega)
  obtain ⟨b9, o9, rfl⟩ := hc.some (by rw [hlen]; have := HX.out; omega)
  have HDc : Hid _ := HD.out b9 o9 cq (N2 + km) _ hc hlen
  clear hw hlo ho hg hf9 hga hc hlt9 hlen hO hsz R2 HD
  go_wp2_with fail
  refine Calls.mono HDc.out ?_
  rintro e u10x ⟨aox, capx, rfl, hbx, hb⟩
  have HBx : Hid (BRow u10x aox capx ddx) := hbx
  clear HDc hbx
  replace Q : Hid (Below W0.heap.size W0 u10x) := Q.out.trans (hb.mono Q.out.size)
  replace Z : Hid (B4 ≤ u10x.heap.size) := Nat.le_trans Z.out hb.size
  replace R3 : Hid (RowAt u10x B1 B2 ao3 N3 cap3 (qL F 1 qc qo k3 d3 false)) := R3.out.later hb
  replace R4 : Hid (RowAt u10x B3 B4 ao4 N4 cap4 (kC cf ct cc 0 d4 false)) := R4.out.later hb
  clear hb
  obtain ⟨u11x, hV⟩ : ∃ V, V = u10x.alloc (.cells #[.int .u32 (rc : Int), .int .u32 (rk : Int), .slice aox k2x capx] 57) := ⟨_, rfl⟩
  obtain ⟨pb, hpb⟩ : ∃ pb, pb = u10x.heap.size := ⟨_, rfl⟩
  have hal : Below u10x.heap.size u10x u11x := by rw [hV]; exact (Below.refl _ _).alloc (Nat.le_refl _) _
  have HPb : Hid (u11x.heap[pb]? = some (.cells #[.int .u32 (rc : Int), .int .u32 (rk : Int), .slice aox k2x capx] 57 (0, 0))) := by show _ = _; rw [hV, hpb]; exact heap_new u10x _
  have HBy : Hid (BRow u11x aox capx ddx) := HBx.out.later hal
  clear HBx
  have HBV : Hid (Below W0.heap.size W0 u11x) := Q.out.trans (hal.mono Q.out.size)
  go_upto_region 19 with fail
  rw [← hV, ← hpb]
  clear hV hpb
  replace Q : Hid (Below W0.heap.size W0 u11x) := Q.out.trans (hal.mono Q.out.size)
  replace Z : Hid (B4 ≤ u11x.heap.size) := Nat.le_trans Z.out hal.size
  replace R3 : Hid (RowAt u11x B1 B2 ao3 N3 cap3 (qL F 1 qc qo k3 d3 false)) := R3.out.later hal
  replace R4 : Hid (RowAt u11x B3 B4 ao4 N4 cap4 (kC cf ct cc 0 d4 false)) := R4.out.later hal
  clear hal HBV
  go_cut [246] from 195 to 246 (fun v wc => v = .bool false ∧ Hid (Below u11x.heap.size u11x wc))
  case first =>
    have hk2 : k2 ≤ 1048576 := by have := HK.out; omega
    rcases HCS.out with ⟨hle, rfl, rfl, rfl, rfl, rfl⟩ | ⟨hle, rfl, rfl, rfl, rfl, rfl⟩
    · have HY : Hid (∀ W : World, Calls Tryd.prog 54 #[.slice a2 k2 p2, .int .u32 (most : Int)] W fun e w' => e = .returned (.bool true) ∧ w' = W) := fun W => fits_yes a2 p2 k2 most W hk2 hm4 hle
      clear hle
      have zz0 := blk_at HPb.out 0
      have zz1 := blk_at HPb.out 1
      have zz2 := blk_at HPb.out 2
      simp at zz0 zz1 zz2
      obtain ⟨c10, c11, c12⟩ := HC1.out _ Q.out
      go_wp2_with fail
      refine (HY.out _).mono ?_
      rintro e wn ⟨rfl, hw⟩
      rw [hw]; clear hw
      go_wp2_with fail
      refine (HNum.out _ _).mono ?_
      rintro e wn ⟨rfl, hw⟩
      rw [hw]; clear hw
      go_wp2_with fail
      refine (sameRep rc rk aox a2 capx p2 k2 d2 _ HBy.out (HR.out.2.1.later (HBX.out.2.1.trans (Q.out.mono HBX.out.2.1.size))) HE.out.2.1).mono ?_
      rintro e uy ⟨rfl, hb⟩
      have HB9 : Hid (Below u11x.heap.size u11x uy) := hb
      clear hb c10 c11 c12 zz0 zz1 zz2
      obtain ⟨c10, c11, c12⟩ := HC1.out _ (Q.out.trans (HB9.out.mono Q.out.size))
      go_wp2_with fail
      refine (HY.out _).mono ?_
      rintro e wn ⟨rfl, hw⟩
      rw [hw]; clear hw
      go_wp2
      go_meet
      exact ⟨rfl, HB9⟩
    · have HY : Hid (∀ W : World, Calls Tryd.prog 54 #[.slice a2 k2 p2, .int .u32 (most : Int)] W fun e w' => e = .returned (.bool false) ∧ w' = W) := fun W => fits_no a2 p2 k2 most W hk2 hm4 hle
      clear hle
      have zz0 := blk_at HPb.out 0
      have zz1 := blk_at HPb.out 1
      have zz2 := blk_at HPb.out 2
      simp at zz0 zz1 zz2
      obtain ⟨c10, c11, c12⟩ := HC1.out _ Q.out
      go_wp2_with fail
      refine (HY.out _).mono ?_
      rintro e wn ⟨rfl, hw⟩
      rw [hw]; clear hw
      go_wp2_with fail
      refine (HY.out _).mono ?_
      rintro e wn ⟨rfl, hw⟩
      rw [hw]; clear hw
      go_wp2_with fail
      refine (HNum.out _ _).mono ?_
      rintro e wn ⟨rfl, hw⟩
      rw [hw]; clear hw
      go_wp2
      go_meet
      exact ⟨rfl, Below.refl _ _⟩
  obtain ⟨rfl, hb9⟩ := hcut
  have hb := hb9.out
  clear hb9 HPb HBy HCS
  replace Q : Hid (Below W0.heap.size W0 wc) := Q.out.trans (hb.mono Q.out.size)
  replace Z : Hid (B4 ≤ wc.heap.size) := Nat.le_trans Z.out hb.size
  replace R3 : Hid (RowAt wc B1 B2 ao3 N3 cap3 (qL F 1 qc qo k3 d3 false)) := R3.out.later hb
  replace R4 : Hid (RowAt wc B3 B4 ao4 N4 cap4 (kC cf ct cc 0 d4 false)) := R4.out.later hb
  clear hb
  obtain ⟨u12x, hwc⟩ : ∃ X, X = wc := ⟨_, rfl⟩
  subst hwc
  go_upto_region 21 with fail
  obtain ⟨lgx, k2x, Nx, Ex, ddx, hD, hcs⟩ : ∃ (lgx : Bool) (k2x Nx Ex : Nat) (ddx : List Nat), DReq F 1 qc qo false lgx most k3 k2x Nx Ex d3 ddx m ∧ ((k3 ≤ most ∧ false = lgx ∧ k3 = k2x ∧ N3 = Nx ∧ 0 = Ex ∧ d3 = ddx) ∨ (most < k3 ∧ false = lgx ∧ 0 = k2x ∧ 28 = Nx ∧ 12 = Ex ∧ [] = ddx)) := by
    rcases Nat.lt_or_ge most k3 with h | h
    · exact ⟨false, 0, 28, 12, [], D3l.out h, .inr ⟨h, rfl, rfl, rfl, rfl, rfl⟩⟩
    · exact ⟨false, k3, N3, 0, d3, D3f.out h, .inl ⟨h, rfl, rfl, rfl, rfl, rfl⟩⟩
  have HD : Hid _ := hD
  have HCS : Hid _ := hcs
  clear hD hcs D3f D3l
  have hw : Below w.heap.size w _ := HBX.out.2.1.trans (Q.out.mono HBX.out.2.1.size)
  have hlo : B1 ≤ u12x.heap.size := Nat.le_trans (by have := HO.out; omega) Z.out
  have hsz : N3 + km ≤ 2097252 := by have := HX.out; have := HK.out; omega
  go_wp2_with (at_builtin; refine wpList_append_two _ rfl (.tmp 248) (.tmp 249) 37 rfl (B1) 5 i0 (.int .u8 0) 1 Tryd.underlying37 hi hz0 hz1 hz2 rfl (.slice ao3 N3 cap3) N3 ((qL F 1 qc qo k3 d3 false).map bv) rfl R3.out.own am km pm (m.map bv) rfl (fun e => by have := HR.out.2.2.2.2.nil' e; rw [HE.out.2.2.2.2] at this; exact this) (by rw [List.length_map]; exact HE.out.2.2.2.2) (HR.out.2.2.2.2.later hw).news (bv_one m) (by unfold maxLen; omega) (by omega) hlo ?_)
  intro v9 u13x ho hg hf9
  obtain ⟨aq, cq, rfl⟩ := owns_form ho
  have hga : ∀ g, (Value.slice ao3 N3 cap3).ownBlock = some g → B1 ≤ g ∧ g < B2 := fun g h => ⟨(owns_lt R3.out.own g h).2, R3.out.hi g h⟩
  have hlt9 := R3.out.lt
  have hO := HO.out
  replace Q : Hid (Below W0.heap.size W0 u13x) := Q.out.grown hg Q.out.size (fun g h => by have := hga g h; omega)
  replace Z : Hid (B4 ≤ u13x.heap.size) := Nat.le_trans Z.out hg.size
  replace R4 : Hid (RowAt u13x B3 B4 ao4 N4 cap4 (kC cf ct cc 0 d4 false)) := R4.out.grown hg (fun g h => .inl (by have := hga g h; omega))
  have hlen : ((qL F 1 qc qo k3 d3 false) ++ m).length = N3 + km := by rw [List.length_append, HL.out.2.2.1, HE.out.2.2.2.2]
  have hc : CRow u13x aq cq ((qL F 1 qc qo k3 d3 false) ++ m) := crow_of (by rw [List.map_append]; exact ho) (app_lt2 hlt9 HR.out.2.2.2.2.lt) hlen (by omega)
  obtain ⟨b9, o9, rfl⟩ := hc.some (by rw [hlen]; have := HX.out; omega)
  have HDc : Hid _ := HD.out b9 o9 cq (N3 + km) _ hc hlen
  clear hw hlo ho hg hf9 hga hc hlt9 hlen hO hsz R3 HD
  go_wp2_with fail
  refine Calls.mono HDc.out ?_
  rintro e u14x ⟨aox, capx, rfl, hbx, hb⟩
  have HBx : Hid (BRow u14x aox capx ddx) := hbx
  clear HDc hbx
  replace Q : Hid (Below W0.heap.size W0 u14x) := Q.out.trans (hb.mono Q.out.size)
  replace Z : Hid (B4 ≤ u14x.heap.size) := Nat.le_trans Z.out hb.size
  replace R4 : Hid (RowAt u14x B3 B4 ao4 N4 cap4 (kC cf ct cc 0 d4 false)) := R4.out.later hb
  clear hb
  obtain ⟨u15x, hV⟩ : ∃ V, V = u14x.alloc (.cells #[.int .u16 (F : Int), .int .u16 1, .int .u64 (qc : Int), .int .u64 (qo : Int), .int .u64 (k3 : Int), .slice aox k2x capx] 59) := ⟨_, rfl⟩
  obtain ⟨pb, hpb⟩ : ∃ pb, pb = u14x.heap.size := ⟨_, rfl⟩
  have hal : Below u14x.heap.size u14x u15x := by rw [hV]; exact (Below.refl _ _).alloc (Nat.le_refl _) _
  have HPb : Hid (u15x.heap[pb]? = some (.cells #[.int .u16 (F : Int), .int .u16 1, .int .u64 (qc : Int), .int .u64 (qo : Int), .int .u64 (k3 : Int), .slice aox k2x capx] 59 (0, 0))) := by show _ = _; rw [hV, hpb]; exact heap_new u14x _
  have HBy : Hid (BRow u15x aox capx ddx) := HBx.out.later hal
  clear HBx
  have HBV : Hid (Below W0.heap.size W0 u15x) := Q.out.trans (hal.mono Q.out.size)
  go_upto_region 22 with fail
  rw [← hV, ← hpb]
  clear hV hpb
  replace Q : Hid (Below W0.heap.size W0 u15x) := Q.out.trans (hal.mono Q.out.size)
  replace Z : Hid (B4 ≤ u15x.heap.size) := Nat.le_trans Z.out hal.size
  replace R4 : Hid (RowAt u15x B3 B4 ao4 N4 cap4 (kC cf ct cc 0 d4 false)) := R4.out.later hal
  clear hal HBV
  go_cut [317] from 257 to 317 (fun v wc => v = .bool false ∧ Hid (Below u15x.heap.size u15x wc))
  case first =>
    have hk3 : k3 ≤ 1048576 := by have := HK.out; omega
    rcases HCS.out with ⟨hle, rfl, rfl, rfl, rfl, rfl⟩ | ⟨hle, rfl, rfl, rfl, rfl, rfl⟩
    · have HY : Hid (∀ W : World, Calls Tryd.prog 54 #[.slice a3 k3 p3, .int .u32 (most : Int)] W fun e w' => e = .returned (.bool true) ∧ w' = W) := fun W => fits_yes a3 p3 k3 most W hk3 hm4 hle
      clear hle
      have zz0 := blk_at HPb.out 0
      have zz1 := blk_at HPb.out 1
      have zz2 := blk_at HPb.out 2
      have zz3 := blk_at HPb.out 3
      have zz4 := blk_at HPb.out 4
      have zz5 := blk_at HPb.out 5
      simp at zz0 zz1 zz2 zz3 zz4 zz5
      obtain ⟨c20, c21, c22, c23, c24, c25⟩ := HC2.out _ Q.out
      go_wp2_with fail
      refine (HY.out _).mono ?_
      rintro e wn ⟨rfl, hw⟩
      rw [hw]; clear hw
      go_wp2_with fail
      refine (HNum.out _ _).mono ?_
      rintro e wn ⟨rfl, hw⟩
      rw [hw]; clear hw
      go_wp2_with fail
      refine (sameReq F 1 qc qo k3 aox a3 capx p3 k3 d3 _ HBy.out (HR.out.2.2.1.later (HBX.out.2.1.trans (Q.out.mono HBX.out.2.1.size))) HE.out.2.2.1).mono ?_
      rintro e uy ⟨rfl, hb⟩
      have HB9 : Hid (Below u15x.heap.size u15x uy) := hb
      clear hb c20 c21 c22 c23 c24 c25 zz0 zz1 zz2 zz3 zz4 zz5
      obtain ⟨c20, c21, c22, c23, c24, c25⟩ := HC2.out _ (Q.out.trans (HB9.out.mono Q.out.size))
      go_wp2_with fail
      refine (HY.out _).mono ?_
      rintro e wn ⟨rfl, hw⟩
      rw [hw]; clear hw
      go_wp2
      go_meet
      exact ⟨rfl, HB9⟩
    · have HY : Hid (∀ W : World, Calls Tryd.prog 54 #[.slice a3 k3 p3, .int .u32 (most : Int)] W fun e w' => e = .returned (.bool false) ∧ w' = W) := fun W => fits_no a3 p3 k3 most W hk3 hm4 hle
      clear hle
      have zz0 := blk_at HPb.out 0
      have zz1 := blk_at HPb.out 1
      have zz2 := blk_at HPb.out 2
      have zz3 := blk_at HPb.out 3
      have zz4 := blk_at HPb.out 4
      have zz5 := blk_at HPb.out 5
      simp at zz0 zz1 zz2 zz3 zz4 zz5
      obtain ⟨c20, c21, c22, c23, c24, c25⟩ := HC2.out _ Q.out
      go_wp2_with fail
      refine (HY.out _).mono ?_
      rintro e wn ⟨rfl, hw⟩
      rw [hw]; clear hw
      go_wp2_with fail
      refine (HY.out _).mono ?_
      rintro e wn ⟨rfl, hw⟩
      rw [hw]; clear hw
      go_wp2_with fail
      refine (HNum.out _ _).mono ?_
      rintro e wn ⟨rfl, hw⟩
      rw [hw]; clear hw
      go_wp2
      go_meet
      exact ⟨rfl, Below.refl _ _⟩
  obtain ⟨rfl, hb9⟩ := hcut
  have hb := hb9.out
  clear hb9 HPb HBy HCS
  replace Q : Hid (Below W0.heap.size W0 wc) := Q.out.trans (hb.mono Q.out.size)
  replace Z : Hid (B4 ≤ wc.heap.size) := Nat.le_trans Z.out hb.size
  replace R4 : Hid (RowAt wc B3 B4 ao4 N4 cap4 (kC cf ct cc 0 d4 false)) := R4.out.later hb
  clear hb
  obtain ⟨u16x, hwc⟩ : ∃ X, X = wc := ⟨_, rfl⟩
  subst hwc
  go_upto_region 24 with fail
  obtain ⟨lgx, k2x, Nx, Ex, ddx, hD, hcs⟩ : ∃ (lgx : Bool) (k2x Nx Ex : Nat) (ddx : List Nat), DChk cf ct cc 0 false lgx most k4 k2x Nx Ex d4 ddx m ∧ ((k4 ≤ most ∧ false = lgx ∧ k4 = k2x ∧ N4 = Nx ∧ 0 = Ex ∧ d4 = ddx) ∨ (most < k4 ∧ false = lgx ∧ 0 = k2x ∧ 20 = Nx ∧ 12 = Ex ∧ [] = ddx)) := by
    rcases Nat.lt_or_ge most k4 with h | h
    · exact ⟨false, 0, 20, 12, [], D4l.out h, .inr ⟨h, rfl, rfl, rfl, rfl, rfl⟩⟩
    · exact ⟨false, k4, N4, 0, d4, D4f.out h, .inl ⟨h, rfl, rfl, rfl, rfl, rfl⟩⟩
  have HD : Hid _ := hD
  have HCS : Hid _ := hcs
  clear hD hcs D4f D4l
  have hw : Below w.heap.size w _ := HBX.out.2.1.trans (Q.out.mono HBX.out.2.1.size)
  have hlo : B3 ≤ u16x.heap.size := Nat.le_trans (by have := HO.out; omega) Z.out
  have hsz : N4 + km ≤ 2097252 := by have := HX.out; have := HK.out; omega
  go_wp2_with (at_builtin; refine wpList_append_two _ rfl (.tmp 319) (.tmp 320) 37 rfl (B3) 5 i0 (.int .u8 0) 1 Tryd.underlying37 hi hz0 hz1 hz2 rfl (.slice ao4 N4 cap4) N4 ((kC cf ct cc 0 d4 false).map bv) rfl R4.out.own am km pm (m.map bv) rfl (fun e => by have := HR.out.2.2.2.2.nil' e; rw [HE.out.2.2.2.2] at this; exact this) (by rw [List.length_map]; exact HE.out.2.2.2.2) (HR.out.2.2.2.2.later hw).news (bv_one m) (by unfold maxLen; omega) (by omega) hlo ?_)
  intro v9 u17x ho hg hf9
  obtain ⟨aq, cq, rfl⟩ := owns_form ho
  have hga : ∀ g, (Value.slice ao4 N4 cap4).ownBlock = some g → B3 ≤ g ∧ g < B4 := fun g h => ⟨(owns_lt R4.out.own g h).2, R4.out.hi g h⟩
  have hlt9 := R4.out.lt
  have hO := HO.out
  replace Q : Hid (Below W0.heap.size W0 u17x) := Q.out.grown hg Q.out.size (fun g h => by have := hga g h; omega)
  replace Z : Hid (B4 ≤ u17x.heap.size) := Nat.le_trans Z.out hg.size
  have hlen : ((kC cf ct cc 0 d4 false) ++ m).length = N4 + km := by rw [List.length_append, HL.out.2.2.2, HE.out.2.2.2.2]
  have hc : CRow u17x aq cq ((kC cf ct cc 0 d4 false) ++ m) := crow_of (by rw [List.map_append]; exact ho) (app_lt2 hlt9 HR.out.2.2.2.2.lt) hlen (by omega)
  obtain ⟨b9, o9, rfl⟩ := hc.some (by rw [hlen]; have := HX.out; omega)
  have HDc : Hid _ := HD.out b9 o9 cq (N4 + km) _ hc hlen
  clear hw hlo ho hg hf9 hga hc hlt9 hlen hO hsz R4 HD
  go_wp2_with fail
  refine Calls.mono HDc.out ?_
  rintro e u18x ⟨aox, capx, rfl, hbx, hb⟩
  have HBx : Hid (BRow u18x aox capx ddx) := hbx
  clear HDc hbx
  replace Q : Hid (Below W0.heap.size W0 u18x) := Q.out.trans (hb.mono Q.out.size)
  replace Z : Hid (B4 ≤ u18x.heap.size) := Nat.le_trans Z.out hb.size
  clear hb
  obtain ⟨u19x, hV⟩ : ∃ V, V = u18x.alloc (.cells #[.int .u16 (cf : Int), .int .u16 (ct : Int), .int .u64 (cc : Int), .int .u64 0, .slice aox k2x capx] 61) := ⟨_, rfl⟩
  obtain ⟨pb, hpb⟩ : ∃ pb, pb = u18x.heap.size := ⟨_, rfl⟩
  have hal : Below u18x.heap.size u18x u19x := by rw [hV]; exact (Below.refl _ _).alloc (Nat.le_refl _) _
  have HPb : Hid (u19x.heap[pb]? = some (.cells #[.int .u16 (cf : Int), .int .u16 (ct : Int), .int .u64 (cc : Int), .int .u64 0, .slice aox k2x capx] 61 (0, 0))) := by show _ = _; rw [hV, hpb]; exact heap_new u18x _
  have HBy : Hid (BRow u19x aox capx ddx) := HBx.out.later hal
  clear HBx
  have HBV : Hid (Below W0.heap.size W0 u19x) := Q.out.trans (hal.mono Q.out.size)
  go_upto_region 25 with fail
  rw [← hV, ← hpb]
  clear hV hpb
  replace Q : Hid (Below W0.heap.size W0 u19x) := Q.out.trans (hal.mono Q.out.size)
  replace Z : Hid (B4 ≤ u19x.heap.size) := Nat.le_trans Z.out hal.size
  clear hal HBV
  go_cut [388] from 328 to 388 (fun v wc => v = .bool false ∧ Hid (Below u19x.heap.size u19x wc))
  case first =>
    have hk4 : k4 ≤ 1048576 := by have := HK.out; omega
    rcases HCS.out with ⟨hle, rfl, rfl, rfl, rfl, rfl⟩ | ⟨hle, rfl, rfl, rfl, rfl, rfl⟩
    · have HY : Hid (∀ W : World, Calls Tryd.prog 54 #[.slice a4 k4 p4, .int .u32 (most : Int)] W fun e w' => e = .returned (.bool true) ∧ w' = W) := fun W => fits_yes a4 p4 k4 most W hk4 hm4 hle
      clear hle
      have zz0 := blk_at HPb.out 0
      have zz1 := blk_at HPb.out 1
      have zz2 := blk_at HPb.out 2
      have zz3 := blk_at HPb.out 3
      have zz4 := blk_at HPb.out 4
      simp at zz0 zz1 zz2 zz3 zz4
      obtain ⟨c30, c31, c32, c33, c34⟩ := HC3.out _ Q.out
      go_wp2_with fail
      refine (HY.out _).mono ?_
      rintro e wn ⟨rfl, hw⟩
      rw [hw]; clear hw
      go_wp2_with fail
      refine (HNum.out _ _).mono ?_
      rintro e wn ⟨rfl, hw⟩
      rw [hw]; clear hw
      go_wp2_with fail
      refine (sameChk cf ct cc 0 aox a4 capx p4 k4 d4 _ HBy.out (HR.out.2.2.2.1.later (HBX.out.2.1.trans (Q.out.mono HBX.out.2.1.size))) HE.out.2.2.2.1).mono ?_
      rintro e uy ⟨rfl, hb⟩
      have HB9 : Hid (Below u19x.heap.size u19x uy) := hb
      clear hb c30 c31 c32 c33 c34 zz0 zz1 zz2 zz3 zz4
      obtain ⟨c30, c31, c32, c33, c34⟩ := HC3.out _ (Q.out.trans (HB9.out.mono Q.out.size))
      go_wp2_with fail
      refine (HY.out _).mono ?_
      rintro e wn ⟨rfl, hw⟩
      rw [hw]; clear hw
      go_wp2
      go_meet
      exact ⟨rfl, HB9⟩
    · have HY : Hid (∀ W : World, Calls Tryd.prog 54 #[.slice a4 k4 p4, .int .u32 (most : Int)] W fun e w' => e = .returned (.bool false) ∧ w' = W) := fun W => fits_no a4 p4 k4 most W hk4 hm4 hle
      clear hle
      have zz0 := blk_at HPb.out 0
      have zz1 := blk_at HPb.out 1
      have zz2 := blk_at HPb.out 2
      have zz3 := blk_at HPb.out 3
      have zz4 := blk_at HPb.out 4
      simp at zz0 zz1 zz2 zz3 zz4
      obtain ⟨c30, c31, c32, c33, c34⟩ := HC3.out _ Q.out
      go_wp2_with fail
      refine (HY.out _).mono ?_
      rintro e wn ⟨rfl, hw⟩
      rw [hw]; clear hw
      go_wp2_with fail
      refine (HY.out _).mono ?_
      rintro e wn ⟨rfl, hw⟩
      rw [hw]; clear hw
      go_wp2_with fail
      refine (HNum.out _ _).mono ?_
      rintro e wn ⟨rfl, hw⟩
      rw [hw]; clear hw
      go_wp2
      go_meet
      exact ⟨rfl, Below.refl _ _⟩
  obtain ⟨rfl, hb9⟩ := hcut
  have hb := hb9.out
  clear hb9 HPb HBy HCS
  replace Q : Hid (Below W0.heap.size W0 wc) := Q.out.trans (hb.mono Q.out.size)
  replace Z : Hid (B4 ≤ wc.heap.size) := Nat.le_trans Z.out hb.size
  clear hb
  obtain ⟨u20x, hwc⟩ : ∃ X, X = wc := ⟨_, rfl⟩
  subst hwc
  have HW : Hid (Below w.heap.size w u20x) := HBX.out.2.1.trans (Q.out.mono HBX.out.2.1.size)
  go_wp2_with fail
  refine (alive_any _ (HTb.out.later HW.out)).mono ?_
  rintro e uz ⟨rfl, hb⟩
  have HW2 : Hid (Below w.heap.size w uz) := HW.out.trans (hb.mono HW.out.size)
  clear hb HW
  go_wp2
  go_ret
  exact ⟨rfl, HW2.out⟩
end Go.Proofs.YtjhickfjagalfaaDoor
