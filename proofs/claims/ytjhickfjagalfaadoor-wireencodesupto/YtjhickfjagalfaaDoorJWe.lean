import Derived.Test.YtjhickfjagalfaaDoorJWj
namespace Go.Proofs.YtjhickfjagalfaaDoor
open Go.RowKit
set_option linter.unusedVariables false
set_option linter.unusedSimpArgs false
set_option maxRecDepth 100000

theorem bx5_get (w : World) (o0 o1 o2 o3 o4 : Obj) : ((((((w.alloc o0).alloc o1).alloc o2).alloc o3).alloc o4).heap.size = w.heap.size + 5) ∧ Below w.heap.size w (((((w.alloc o0).alloc o1).alloc o2).alloc o3).alloc o4) ∧ (((((w.alloc o0).alloc o1).alloc o2).alloc o3).alloc o4).heap[w.heap.size]? = some o0 ∧ (((((w.alloc o0).alloc o1).alloc o2).alloc o3).alloc o4).heap[w.heap.size + 1]? = some o1 ∧ (((((w.alloc o0).alloc o1).alloc o2).alloc o3).alloc o4).heap[w.heap.size + 1 + 1]? = some o2 ∧ (((((w.alloc o0).alloc o1).alloc o2).alloc o3).alloc o4).heap[w.heap.size + 1 + 1 + 1]? = some o3 ∧ (((((w.alloc o0).alloc o1).alloc o2).alloc o3).alloc o4).heap[w.heap.size + 1 + 1 + 1 + 1]? = some o4 := by
  have b0 : Below w.heap.size w (w.alloc o0) := (Below.refl _ _).alloc (Nat.le_refl _) _
  have b1 := b0.alloc b0.size o1
  have b2 := b1.alloc b1.size o2
  have b3 := b2.alloc b2.size o3
  have b4 := b3.alloc b3.size o4
  have n0 := heap_new w o0
  have n1 := heap_new (w.alloc o0) o1
  have n2 := heap_new ((w.alloc o0).alloc o1) o2
  have n3 := heap_new (((w.alloc o0).alloc o1).alloc o2) o3
  have n4 := heap_new ((((w.alloc o0).alloc o1).alloc o2).alloc o3) o4
  simp only [World.size_alloc] at n1 n2 n3 n4
  refine ⟨by simp, b4, ?_, ?_, ?_, ?_, n4⟩
  · rw [Below.heap_alloc _ _ _ (by simp only [World.size_alloc]; omega), Below.heap_alloc _ _ _ (by simp only [World.size_alloc]; omega), Below.heap_alloc _ _ _ (by simp only [World.size_alloc]; omega), Below.heap_alloc _ _ _ (by simp only [World.size_alloc]; omega)]; exact n0
  · rw [Below.heap_alloc _ _ _ (by simp only [World.size_alloc]; omega), Below.heap_alloc _ _ _ (by simp only [World.size_alloc]; omega), Below.heap_alloc _ _ _ (by simp only [World.size_alloc]; omega)]; exact n1
  · rw [Below.heap_alloc _ _ _ (by simp only [World.size_alloc]; omega), Below.heap_alloc _ _ _ (by simp only [World.size_alloc]; omega)]; exact n2
  · rw [Below.heap_alloc _ _ _ (by simp only [World.size_alloc]; omega)]; exact n3
theorem est {u : World} {g0 g1 g2 g3 : Nat} {oc ok rc rk qf qt qc qo qn cf ct cc co : Nat} {lg : Bool} {a1 a2 a3 a4 : Option Addr} {p1 p2 p3 p4 : Nat} {d1 d2 d3 d4 : List Nat} (G0 : u.heap[g0]? = some (.cells #[.int .u32 (oc : Int), .int .u32 (ok : Int), .bool lg, .slice a1 d1.length p1] 55 (0, 0))) (G1 : u.heap[g1]? = some (.cells #[.int .u32 (rc : Int), .int .u32 (rk : Int), .slice a2 d2.length p2] 57 (0, 0))) (G2 : u.heap[g2]? = some (.cells #[.int .u16 (qf : Int), .int .u16 (qt : Int), .int .u64 (qc : Int), .int .u64 (qo : Int), .int .u64 (qn : Int), .slice a3 d3.length p3] 59 (0, 0))) (G3 : u.heap[g3]? = some (.cells #[.int .u16 (cf : Int), .int .u16 (ct : Int), .int .u64 (cc : Int), .int .u64 (co : Int), .slice a4 d4.length p4] 61 (0, 0))) (s1 s2 s3 s4 : Value) :
    ((u.cell? ⟨g0, 3, none⟩ = some (.slice a1 d1.length p1) ∧ u.frozen? ⟨g0, 3, none⟩ = false) ∧ ((u.setCell ⟨g0, 3, none⟩ s1).cell? ⟨g1, 2, none⟩ = some (.slice a2 d2.length p2) ∧ (u.setCell ⟨g0, 3, none⟩ s1).frozen? ⟨g1, 2, none⟩ = false) ∧ (((u.setCell ⟨g0, 3, none⟩ s1).setCell ⟨g1, 2, none⟩ s2).cell? ⟨g2, 5, none⟩ = some (.slice a3 d3.length p3) ∧ ((u.setCell ⟨g0, 3, none⟩ s1).setCell ⟨g1, 2, none⟩ s2).frozen? ⟨g2, 5, none⟩ = false) ∧ ((((u.setCell ⟨g0, 3, none⟩ s1).setCell ⟨g1, 2, none⟩ s2).setCell ⟨g2, 5, none⟩ s3).cell? ⟨g3, 4, none⟩ = some (.slice a4 d4.length p4) ∧ (((u.setCell ⟨g0, 3, none⟩ s1).setCell ⟨g1, 2, none⟩ s2).setCell ⟨g2, 5, none⟩ s3).frozen? ⟨g3, 4, none⟩ = false)) ∧ (∀ k, k ≠ g0 → k ≠ g1 → k ≠ g2 → k ≠ g3 → ((((u.setCell ⟨g0, 3, none⟩ s1).setCell ⟨g1, 2, none⟩ s2).setCell ⟨g2, 5, none⟩ s3).setCell ⟨g3, 4, none⟩ s4).heap[k]? = u.heap[k]?) ∧ ((((u.setCell ⟨g0, 3, none⟩ s1).setCell ⟨g1, 2, none⟩ s2).setCell ⟨g2, 5, none⟩ s3).setCell ⟨g3, 4, none⟩ s4).heap[g0]? = some (.cells #[.int .u32 (oc : Int), .int .u32 (ok : Int), .bool lg, s1] 55 (0, 0)) ∧ ((((u.setCell ⟨g0, 3, none⟩ s1).setCell ⟨g1, 2, none⟩ s2).setCell ⟨g2, 5, none⟩ s3).setCell ⟨g3, 4, none⟩ s4).heap[g1]? = some (.cells #[.int .u32 (rc : Int), .int .u32 (rk : Int), s2] 57 (0, 0)) ∧ ((((u.setCell ⟨g0, 3, none⟩ s1).setCell ⟨g1, 2, none⟩ s2).setCell ⟨g2, 5, none⟩ s3).setCell ⟨g3, 4, none⟩ s4).heap[g2]? = some (.cells #[.int .u16 (qf : Int), .int .u16 (qt : Int), .int .u64 (qc : Int), .int .u64 (qo : Int), .int .u64 (qn : Int), s3] 59 (0, 0)) ∧ ((((u.setCell ⟨g0, 3, none⟩ s1).setCell ⟨g1, 2, none⟩ s2).setCell ⟨g2, 5, none⟩ s3).setCell ⟨g3, 4, none⟩ s4).heap[g3]? = some (.cells #[.int .u16 (cf : Int), .int .u16 (ct : Int), .int .u64 (cc : Int), .int .u64 (co : Int), s4] 61 (0, 0)) := by
  have n01 : g0 ≠ g1 := fun e => by rw [e, G1] at G0; simp at G0
  have n02 : g0 ≠ g2 := fun e => by rw [e, G2] at G0; simp at G0
  have n03 : g0 ≠ g3 := fun e => by rw [e, G3] at G0; simp at G0
  have n12 : g1 ≠ g2 := fun e => by rw [e, G2] at G1; simp at G1
  have n13 : g1 ≠ g3 := fun e => by rw [e, G3] at G1; simp at G1
  have n23 : g2 ≠ g3 := fun e => by rw [e, G3] at G2; simp at G2
  have k00 := G0
  have k10 := G1
  have k20 := G2
  have k30 := G3
  have k01 : (u.setCell ⟨g0, 3, none⟩ s1).heap[g0]? = some (.cells #[.int .u32 (oc : Int), .int .u32 (ok : Int), .bool lg, s1] 55 (0, 0)) := put_box k00 3 s1 (by simp)
  have k11 := (Below.heap_setCell u ⟨g0, 3, none⟩ s1 g1 (Ne.symm n01)).trans k10
  have k21 := (Below.heap_setCell u ⟨g0, 3, none⟩ s1 g2 (Ne.symm n02)).trans k20
  have k31 := (Below.heap_setCell u ⟨g0, 3, none⟩ s1 g3 (Ne.symm n03)).trans k30
  have k02 := (Below.heap_setCell (u.setCell ⟨g0, 3, none⟩ s1) ⟨g1, 2, none⟩ s2 g0 n01).trans k01
  have k12 : ((u.setCell ⟨g0, 3, none⟩ s1).setCell ⟨g1, 2, none⟩ s2).heap[g1]? = some (.cells #[.int .u32 (rc : Int), .int .u32 (rk : Int), s2] 57 (0, 0)) := put_box k11 2 s2 (by simp)
  have k22 := (Below.heap_setCell (u.setCell ⟨g0, 3, none⟩ s1) ⟨g1, 2, none⟩ s2 g2 (Ne.symm n12)).trans k21
  have k32 := (Below.heap_setCell (u.setCell ⟨g0, 3, none⟩ s1) ⟨g1, 2, none⟩ s2 g3 (Ne.symm n13)).trans k31
  have k03 := (Below.heap_setCell ((u.setCell ⟨g0, 3, none⟩ s1).setCell ⟨g1, 2, none⟩ s2) ⟨g2, 5, none⟩ s3 g0 n02).trans k02
  have k13 := (Below.heap_setCell ((u.setCell ⟨g0, 3, none⟩ s1).setCell ⟨g1, 2, none⟩ s2) ⟨g2, 5, none⟩ s3 g1 n12).trans k12
  have k23 : (((u.setCell ⟨g0, 3, none⟩ s1).setCell ⟨g1, 2, none⟩ s2).setCell ⟨g2, 5, none⟩ s3).heap[g2]? = some (.cells #[.int .u16 (qf : Int), .int .u16 (qt : Int), .int .u64 (qc : Int), .int .u64 (qo : Int), .int .u64 (qn : Int), s3] 59 (0, 0)) := put_box k22 5 s3 (by simp)
  have k33 := (Below.heap_setCell ((u.setCell ⟨g0, 3, none⟩ s1).setCell ⟨g1, 2, none⟩ s2) ⟨g2, 5, none⟩ s3 g3 (Ne.symm n23)).trans k32
  have k04 := (Below.heap_setCell (((u.setCell ⟨g0, 3, none⟩ s1).setCell ⟨g1, 2, none⟩ s2).setCell ⟨g2, 5, none⟩ s3) ⟨g3, 4, none⟩ s4 g0 n03).trans k03
  have k14 := (Below.heap_setCell (((u.setCell ⟨g0, 3, none⟩ s1).setCell ⟨g1, 2, none⟩ s2).setCell ⟨g2, 5, none⟩ s3) ⟨g3, 4, none⟩ s4 g1 n13).trans k13
  have k24 := (Below.heap_setCell (((u.setCell ⟨g0, 3, none⟩ s1).setCell ⟨g1, 2, none⟩ s2).setCell ⟨g2, 5, none⟩ s3) ⟨g3, 4, none⟩ s4 g2 n23).trans k23
  have k34 : ((((u.setCell ⟨g0, 3, none⟩ s1).setCell ⟨g1, 2, none⟩ s2).setCell ⟨g2, 5, none⟩ s3).setCell ⟨g3, 4, none⟩ s4).heap[g3]? = some (.cells #[.int .u16 (cf : Int), .int .u16 (ct : Int), .int .u64 (cc : Int), .int .u64 (co : Int), s4] 61 (0, 0)) := put_box k33 4 s4 (by simp)
  refine ⟨⟨⟨blk_at k00 3, blk_free k00 3⟩, ⟨blk_at k11 2, blk_free k11 2⟩, ⟨blk_at k22 5, blk_free k22 5⟩, ⟨blk_at k33 4, blk_free k33 4⟩⟩, fun k h0 h1 h2 h3 => ?_, k04, k14, k24, k34⟩
  rw [Below.heap_setCell _ _ _ _ h3, Below.heap_setCell _ _ _ _ h2, Below.heap_setCell _ _ _ _ h1, Below.heap_setCell _ _ _ _ h0]
set_option maxHeartbeats 16000000 in
theorem wireEncodes_any (oc ok rc rk qf qt qc qo qn cf ct cc co : Nat) (lg ext : Bool) (a1 a2 a3 a4 : Option Addr) (p1 p2 p3 p4 : Nat) (d1 d2 d3 d4 : List Nat) (w : World) (hT : Tb w)
    (h1 : BRow w a1 p1 d1) (h2 : BRow w a2 p2 d2) (h3 : BRow w a3 p3 d3) (h4 : BRow w a4 p4 d4) (n1 : d1.length ≤ 1048576) (n2 : d2.length ≤ 1048576) (n3 : d3.length ≤ 1048576) (n4 : d4.length ≤ 1048576) (b1 : oc < 4294967296) (b2 : ok < 4294967296) (b3 : rc < 4294967296) (b4 : rk < 4294967296) (b5 : qf < 65536) (b6 : qt < 65536) (b7 : qc < 18446744073709551616) (b8 : qo < 18446744073709551616) (b9 : qn < 18446744073709551616) (b10 : cf < 65536) (b11 : ct < 65536) (b12 : cc < 18446744073709551616) (b13 : co < 18446744073709551616) :
    Calls Tryd.prog 6 #[.agg #[.int .u32 (oc : Int), .int .u32 (ok : Int), .bool lg, .slice a1 d1.length p1], .agg #[.int .u32 (rc : Int), .int .u32 (rk : Int), .slice a2 d2.length p2], .agg #[.int .u16 (qf : Int), .int .u16 (qt : Int), .int .u64 (qc : Int), .int .u64 (qo : Int), .int .u64 (qn : Int), .slice a3 d3.length p3], .agg #[.int .u16 (cf : Int), .int .u16 (ct : Int), .int .u64 (cc : Int), .int .u64 (co : Int), .slice a4 d4.length p4], .bool ext] w fun e w' => e = .returned (.bool true) ∧ Below w.heap.size w w' := by
  obtain ⟨W0, hW0⟩ : ∃ W0, W0 = (((((w.alloc (.cells #[.int .u32 (oc : Int), .int .u32 (ok : Int), .bool lg, .slice a1 d1.length p1] 55)).alloc (.cells #[.int .u32 (rc : Int), .int .u32 (rk : Int), .slice a2 d2.length p2] 57)).alloc (.cells #[.int .u16 (qf : Int), .int .u16 (qt : Int), .int .u64 (qc : Int), .int .u64 (qo : Int), .int .u64 (qn : Int), .slice a3 d3.length p3] 59)).alloc (.cells #[.int .u16 (cf : Int), .int .u16 (ct : Int), .int .u64 (cc : Int), .int .u64 (co : Int), .slice a4 d4.length p4] 61)).alloc (.cells #[.slice a1 d1.length p1, .slice a2 d2.length p2, .slice a3 d3.length p3, .slice a4 d4.length p4] 62)) := ⟨_, rfl⟩
  have hbx := bx5_get w (.cells #[.int .u32 (oc : Int), .int .u32 (ok : Int), .bool lg, .slice a1 d1.length p1] 55) (.cells #[.int .u32 (rc : Int), .int .u32 (rk : Int), .slice a2 d2.length p2] 57) (.cells #[.int .u16 (qf : Int), .int .u16 (qt : Int), .int .u64 (qc : Int), .int .u64 (qo : Int), .int .u64 (qn : Int), .slice a3 d3.length p3] 59) (.cells #[.int .u16 (cf : Int), .int .u16 (ct : Int), .int .u64 (cc : Int), .int .u64 (co : Int), .slice a4 d4.length p4] 61) (.cells #[.slice a1 d1.length p1, .slice a2 d2.length p2, .slice a3 d3.length p3, .slice a4 d4.length p4] 62)
  rw [← hW0] at hbx
  have HBX : Hid _ := hbx
  clear hbx
  have HC : Hid (∀ W : World, Below W0.heap.size W0 W → W.cell? ⟨w.heap.size, 0, none⟩ = some (.int .u32 (oc : Int)) ∧ W.cell? ⟨w.heap.size, 1, none⟩ = some (.int .u32 (ok : Int)) ∧ W.cell? ⟨w.heap.size, 2, none⟩ = some (.bool lg) ∧ W.cell? ⟨w.heap.size, 3, none⟩ = some (.slice a1 d1.length p1) ∧ W.cell? ⟨w.heap.size + 1, 0, none⟩ = some (.int .u32 (rc : Int)) ∧ W.cell? ⟨w.heap.size + 1, 1, none⟩ = some (.int .u32 (rk : Int)) ∧ W.cell? ⟨w.heap.size + 1, 2, none⟩ = some (.slice a2 d2.length p2) ∧ W.cell? ⟨w.heap.size + 1 + 1, 0, none⟩ = some (.int .u16 (qf : Int)) ∧ W.cell? ⟨w.heap.size + 1 + 1, 1, none⟩ = some (.int .u16 (qt : Int)) ∧ W.cell? ⟨w.heap.size + 1 + 1, 2, none⟩ = some (.int .u64 (qc : Int)) ∧ W.cell? ⟨w.heap.size + 1 + 1, 3, none⟩ = some (.int .u64 (qo : Int)) ∧ W.cell? ⟨w.heap.size + 1 + 1, 4, none⟩ = some (.int .u64 (qn : Int)) ∧ W.cell? ⟨w.heap.size + 1 + 1, 5, none⟩ = some (.slice a3 d3.length p3) ∧ W.cell? ⟨w.heap.size + 1 + 1 + 1, 0, none⟩ = some (.int .u16 (cf : Int)) ∧ W.cell? ⟨w.heap.size + 1 + 1 + 1, 1, none⟩ = some (.int .u16 (ct : Int)) ∧ W.cell? ⟨w.heap.size + 1 + 1 + 1, 2, none⟩ = some (.int .u64 (cc : Int)) ∧ W.cell? ⟨w.heap.size + 1 + 1 + 1, 3, none⟩ = some (.int .u64 (co : Int)) ∧ W.cell? ⟨w.heap.size + 1 + 1 + 1, 4, none⟩ = some (.slice a4 d4.length p4)) := fun W hb => by
    obtain ⟨hs, _, g0, g1, g2, g3, _⟩ := HBX.out
    have t0 := (hb.block _ (by omega)).trans g0
    have t1 := (hb.block _ (by omega)).trans g1
    have t2 := (hb.block _ (by omega)).trans g2
    have t3 := (hb.block _ (by omega)).trans g3
    exact ⟨blk_at t0 0, blk_at t0 1, blk_at t0 2, blk_at t0 3, blk_at t1 0, blk_at t1 1, blk_at t1 2, blk_at t2 0, blk_at t2 1, blk_at t2 2, blk_at t2 3, blk_at t2 4, blk_at t2 5, blk_at t3 0, blk_at t3 1, blk_at t3 2, blk_at t3 3, blk_at t3 4⟩
  have TW1 : Hid _ := con_twin d1 a1 p1 w h1 (by omega)
  have E1 : Hid _ := cone1 oc ok lg d1 b1 b2 (by omega)
  have R1 : Hid _ := conr1 oc ok lg d1 b1 b2 (by omega)
  obtain ⟨L1, hL⟩ : ∃ L, oC oc ok lg d1 = L := ⟨_, rfl⟩
  rw [hL] at E1 R1
  clear hL
  obtain ⟨m1, hm1⟩ : ∃ m, L1.length = m := ⟨_, rfl⟩
  rw [hm1] at E1 R1
  obtain ⟨e1, he⟩ : ∃ e : Int, ((oE ok lg d1 : Nat) : Int) = e := ⟨_, rfl⟩
  rw [he] at E1 R1
  clear he
  have TW2 : Hid _ := con_twin d2 a2 p2 w h2 (by omega)
  have E2 : Hid _ := cone2 rc rk d2 b3 b4 (by omega)
  have R2 : Hid _ := conr2 rc rk d2 b3 b4 (by omega)
  obtain ⟨L2, hL⟩ : ∃ L, rL rc rk d2 = L := ⟨_, rfl⟩
  rw [hL] at E2 R2
  clear hL
  obtain ⟨m2, hm2⟩ : ∃ m, L2.length = m := ⟨_, rfl⟩
  rw [hm2] at E2 R2
  have TW3 : Hid _ := con_twin d3 a3 p3 w h3 (by omega)
  have E3 : Hid _ := cone3 qf qt qc qo qn ext d3 b5 b6 b7 b8 b9 (by omega)
  have R3 : Hid _ := conr3 qf qt qc qo qn ext d3 b5 b6 b7 b8 b9 (by omega)
  obtain ⟨L3, hL⟩ : ∃ L, qC qf qt qc qo qn d3 ext = L := ⟨_, rfl⟩
  rw [hL] at E3 R3
  clear hL
  obtain ⟨m3, hm3⟩ : ∃ m, L3.length = m := ⟨_, rfl⟩
  rw [hm3] at E3 R3
  obtain ⟨e3, he⟩ : ∃ e : Int, ((qE qf qt qn d3 ext : Nat) : Int) = e := ⟨_, rfl⟩
  rw [he] at E3 R3
  clear he
  have TW4 : Hid _ := con_twin d4 a4 p4 w h4 (by omega)
  have E4 : Hid _ := cone4 cf ct cc co ext d4 b10 b11 b12 b13 (by omega)
  have R4 : Hid _ := conr4 cf ct cc co ext d4 b10 b11 b12 b13 (by omega)
  obtain ⟨L4, hL⟩ : ∃ L, kC cf ct cc co d4 ext = L := ⟨_, rfl⟩
  rw [hL] at E4 R4
  clear hL
  obtain ⟨m4, hm4⟩ : ∃ m, L4.length = m := ⟨_, rfl⟩
  rw [hm4] at E4 R4
  have HNum : Hid (∀ (e : Int) (w : World), Calls Tryd.prog 27 #[.int .i64 e] w fun r w' => r = .returned (.int .i64 e) ∧ w' = w) := num_any
  have HAl : Hid (∀ w, Tb w → Calls Tryd.prog 13 #[] w fun e w' => e = .returned (.bool true) ∧ Below w.heap.size w w') := alive_any
  have HTb : Hid (Tb w) := hT
  have HR1 : Hid (BRow w a1 p1 d1 ∧ d1.length ≤ 1048576) := ⟨h1, n1⟩
  have HM1 : Hid (L1.length = m1) := hm1
  have HR2 : Hid (BRow w a2 p2 d2 ∧ d2.length ≤ 1048576) := ⟨h2, n2⟩
  have HM2 : Hid (L2.length = m2) := hm2
  have HR3 : Hid (BRow w a3 p3 d3 ∧ d3.length ≤ 1048576) := ⟨h3, n3⟩
  have HM3 : Hid (L3.length = m3) := hm3
  have HR4 : Hid (BRow w a4 p4 d4 ∧ d4.length ≤ 1048576) := ⟨h4, n4⟩
  have HM4 : Hid (L4.length = m4) := hm4
  have HD : Hid (∀ W : World, Below W0.heap.size W0 W → W.cell? ⟨w.heap.size + 1 + 1 + 1 + 1, 0, none⟩ = some (.slice a1 d1.length p1) ∧ W.cell? ⟨w.heap.size + 1 + 1 + 1 + 1, 1, none⟩ = some (.slice a2 d2.length p2) ∧ W.cell? ⟨w.heap.size + 1 + 1 + 1 + 1, 2, none⟩ = some (.slice a3 d3.length p3) ∧ W.cell? ⟨w.heap.size + 1 + 1 + 1 + 1, 3, none⟩ = some (.slice a4 d4.length p4)) := fun W hb => by
    obtain ⟨hs, _, _, _, _, _, g4⟩ := HBX.out
    have t4 := (hb.block _ (by omega)).trans g4
    exact ⟨blk_at t4 0, blk_at t4 1, blk_at t4 2, blk_at t4 3⟩
  have HS : Hid (∀ w' : World, Below W0.heap.size W0 w' → (w'.cell? ⟨w.heap.size, 3, none⟩ = some (.slice a1 d1.length p1) ∧ w'.cell? ⟨w.heap.size + 1, 2, none⟩ = some (.slice a2 d2.length p2)) ∧ w'.cell? ⟨w.heap.size + 1 + 1, 5, none⟩ = some (.slice a3 d3.length p3) ∧ w'.cell? ⟨w.heap.size + 1 + 1 + 1, 4, none⟩ = some (.slice a4 d4.length p4)) := fun W hb => by
    obtain ⟨k00, k01, k02, k03, k10, k11, k12, k20, k21, k22, k23, k24, k25, k30, k31, k32, k33, k34⟩ := HC.out W hb
    exact ⟨⟨k03, k12⟩, k25, k34⟩
  clear hT h1 h2 h3 h4 n1 n2 n3 n4 b1 b2 b3 b4 b5 b6 b7 b8 b9 b10 b11 b12 b13 hm1 hm2 hm3 hm4
  go_enter Tryd.func6, Tryd.ntmps6
  go_wp2_with fail
  rw [← hW0]
  clear hW0
  refine wp_region_any (by kernel_rfl) ?_
  refine wpAny_by (fun l' a' w' => ∃ x0 x1 x2 x3 y0 y1 y2 y3, a' = eact w.heap.size #[.int .u32 (oc : Int), .int .u32 (ok : Int), .bool lg, .slice a1 d1.length p1] #[.int .u32 (rc : Int), .int .u32 (rk : Int), .slice a2 d2.length p2] #[.int .u16 (qf : Int), .int .u16 (qt : Int), .int .u64 (qc : Int), .int .u64 (qo : Int), .int .u64 (qn : Int), .slice a3 d3.length p3] #[.int .u16 (cf : Int), .int .u16 (ct : Int), .int .u64 (cc : Int), .int .u64 (co : Int), .slice a4 d4.length p4] ext (.slice a1 d1.length p1) (.slice a2 d2.length p2) (.slice a3 d3.length p3) (.slice a4 d4.length p4) x0 x1 x2 x3 y0 y1 y2 y3 ∧ EI W0 #[.int .u32 (oc : Int), .int .u32 (ok : Int), .bool lg, .slice a1 d1.length p1] #[.int .u32 (rc : Int), .int .u32 (rk : Int), .slice a2 d2.length p2] #[.int .u16 (qf : Int), .int .u16 (qt : Int), .int .u64 (qc : Int), .int .u64 (qo : Int), .int .u64 (qn : Int), .slice a3 d3.length p3] #[.int .u16 (cf : Int), .int .u16 (ct : Int), .int .u64 (cc : Int), .int .u64 (co : Int), .slice a4 d4.length p4] #[.int .u32 0, .int .u32 0, .bool false, .slice none 0 0] #[.int .u32 0, .int .u32 0, .slice none 0 0] #[.int .u16 0, .int .u16 0, .int .u64 0, .int .u64 0, .int .u64 0, .slice none 0 0] #[.int .u16 0, .int .u16 0, .int .u64 0, .int .u64 0, .slice none 0 0] l' x0 x1 x2 x3 y0 y1 y2 y3 w') ?hdone ?hstep _ _ _ _ ?hc ?hi
  case hstep =>
    rintro l' a' wv i ⟨x0, x1, x2, x3, y0, y1, y2, y3, rfl, hE⟩ hm
    obtain ⟨hun, o, ho0, hall⟩ := mem_ready.1 hm
    have ho := ho0
    have hi12 : i < 12 := (Array.getElem?_eq_some_iff.1 ho).1
    have hcase : i = 0 ∨ i = 1 ∨ i = 2 ∨ i = 3 ∨ i = 4 ∨ i = 5 ∨ i = 6 ∨ i = 7 ∨ i = 8 ∨ i = 9 ∨ i = 10 ∨ i = 11 := by omega
    clear hi12 hm
    rcases hcase with rfl | rfl | rfl | rfl | rfl | rfl | rfl | rfl | rfl | rfl | rfl | rfl
    · simp only [List.getElem?_toArray, List.getElem?_cons_succ, List.getElem?_cons_zero, Option.some.injEq] at ho
      subst ho
      obtain ⟨k00, k01, k02, k03, k10, k11, k12, k20, k21, k22, k23, k24, k25, k30, k31, k32, k33, k34⟩ := HC.out wv hE.bel
      have hs := hE.load0
      refine wpOp_want ho0 rfl (fun K hK => ?_)
      clear hE hall ho0
      dsimp only [eact]
      first | go_big_move | go_big_op
      exact hK _ _ ⟨_, _, _, _, _, _, _, _, rfl, hs⟩
    · simp only [List.getElem?_toArray, List.getElem?_cons_succ, List.getElem?_cons_zero, Option.some.injEq] at ho
      subst ho
      obtain ⟨k00, k01, k02, k03, k10, k11, k12, k20, k21, k22, k23, k24, k25, k30, k31, k32, k33, k34⟩ := HC.out wv hE.bel
      have hs := hE.load1
      refine wpOp_want ho0 rfl (fun K hK => ?_)
      clear hE hall ho0
      dsimp only [eact]
      first | go_big_move | go_big_op
      exact hK _ _ ⟨_, _, _, _, _, _, _, _, rfl, hs⟩
    · simp only [List.getElem?_toArray, List.getElem?_cons_succ, List.getElem?_cons_zero, Option.some.injEq] at ho
      subst ho
      obtain ⟨k00, k01, k02, k03, k10, k11, k12, k20, k21, k22, k23, k24, k25, k30, k31, k32, k33, k34⟩ := HC.out wv hE.bel
      have hs := hE.load2
      refine wpOp_want ho0 rfl (fun K hK => ?_)
      clear hE hall ho0
      dsimp only [eact]
      first | go_big_move | go_big_op
      exact hK _ _ ⟨_, _, _, _, _, _, _, _, rfl, hs⟩
    · simp only [List.getElem?_toArray, List.getElem?_cons_succ, List.getElem?_cons_zero, Option.some.injEq] at ho
      subst ho
      obtain ⟨k00, k01, k02, k03, k10, k11, k12, k20, k21, k22, k23, k24, k25, k30, k31, k32, k33, k34⟩ := HC.out wv hE.bel
      have hs := hE.load3
      refine wpOp_want ho0 rfl (fun K hK => ?_)
      clear hE hall ho0
      dsimp only [eact]
      first | go_big_move | go_big_op
      exact hK _ _ ⟨_, _, _, _, _, _, _, _, rfl, hs⟩
    · simp only [List.getElem?_toArray, List.getElem?_cons_succ, List.getElem?_cons_zero, Option.some.injEq] at ho
      subst ho
      have hs := hE.alloc0 hun
      refine wpOp_want ho0 rfl (fun K hK => ?_)
      clear hE hall ho0
      dsimp only [eact]
      first | go_big_move | go_big_op
      exact hK _ _ ⟨_, _, _, _, _, _, _, _, rfl, hs⟩
    · simp only [List.getElem?_toArray, List.getElem?_cons_succ, List.getElem?_cons_zero, Option.some.injEq] at ho
      subst ho
      have hs := hE.alloc1 hun
      refine wpOp_want ho0 rfl (fun K hK => ?_)
      clear hE hall ho0
      dsimp only [eact]
      first | go_big_move | go_big_op
      exact hK _ _ ⟨_, _, _, _, _, _, _, _, rfl, hs⟩
    · simp only [List.getElem?_toArray, List.getElem?_cons_succ, List.getElem?_cons_zero, Option.some.injEq] at ho
      subst ho
      have hs := hE.alloc2 hun
      refine wpOp_want ho0 rfl (fun K hK => ?_)
      clear hE hall ho0
      dsimp only [eact]
      first | go_big_move | go_big_op
      exact hK _ _ ⟨_, _, _, _, _, _, _, _, rfl, hs⟩
    · simp only [List.getElem?_toArray, List.getElem?_cons_succ, List.getElem?_cons_zero, Option.some.injEq] at ho
      subst ho
      have hs := hE.alloc3 hun
      refine wpOp_want ho0 rfl (fun K hK => ?_)
      clear hE hall ho0
      dsimp only [eact]
      first | go_big_move | go_big_op
      exact hK _ _ ⟨_, _, _, _, _, _, _, _, rfl, hs⟩
    · simp only [List.getElem?_toArray, List.getElem?_cons_succ, List.getElem?_cons_zero, Option.some.injEq] at ho
      subst ho
      have e4 := getD_tt (hall ⟨4, .data⟩ (by simp) (by rfl))
      have e0 := getD_tt (hall ⟨0, .data⟩ (by simp) (by rfl))
      have r0 := hE.h0 e0
      obtain ⟨p, r4, hp0, hpz⟩ := hE.b0 e4
      subst r0
      subst r4
      have hun' : l'.getD 8 true = false := hun
      rw [hun'] at hpz
      simp only [Bool.false_eq_true, if_false] at hpz
      have c0 := blk_at hpz 0
      have f0 := blk_free hpz 0
      have c1 := blk_at hpz 1
      have f1 := blk_free hpz 1
      have c2 := blk_at hpz 2
      have f2 := blk_free hpz 2
      have c3 := blk_at hpz 3
      have f3 := blk_free hpz 3
      simp at c0 c1 c2 c3
      have hsame : SameB p wv ((((wv.setCell ⟨p, 0, none⟩ (.int .u32 (oc : Int))).setCell ⟨p, 1, none⟩ (.int .u32 (ok : Int))).setCell ⟨p, 2, none⟩ (.bool lg)).setCell ⟨p, 3, none⟩ (.slice a1 d1.length p1)) := (((((SameB.refl p wv).set 0 _).set 1 _).set 2 _).set 3 _)
      have hblk : ((((wv.setCell ⟨p, 0, none⟩ (.int .u32 (oc : Int))).setCell ⟨p, 1, none⟩ (.int .u32 (ok : Int))).setCell ⟨p, 2, none⟩ (.bool lg)).setCell ⟨p, 3, none⟩ (.slice a1 d1.length p1)).heap[p]? = some (.cells #[.int .u32 (oc : Int), .int .u32 (ok : Int), .bool lg, .slice a1 d1.length p1] 55 (0, 0)) := by
        have q0 : (wv.setCell ⟨p, 0, none⟩ (.int .u32 (oc : Int))).heap[p]? = some (.cells #[.int .u32 (oc : Int), .int .u32 0, .bool false, .slice none 0 0] 55 (0, 0)) := put_box hpz 0 _ (by simp)
        have q1 : ((wv.setCell ⟨p, 0, none⟩ (.int .u32 (oc : Int))).setCell ⟨p, 1, none⟩ (.int .u32 (ok : Int))).heap[p]? = some (.cells #[.int .u32 (oc : Int), .int .u32 (ok : Int), .bool false, .slice none 0 0] 55 (0, 0)) := put_box q0 1 _ (by simp)
        have q2 : (((wv.setCell ⟨p, 0, none⟩ (.int .u32 (oc : Int))).setCell ⟨p, 1, none⟩ (.int .u32 (ok : Int))).setCell ⟨p, 2, none⟩ (.bool lg)).heap[p]? = some (.cells #[.int .u32 (oc : Int), .int .u32 (ok : Int), .bool lg, .slice none 0 0] 55 (0, 0)) := put_box q1 2 _ (by simp)
        have q3 : ((((wv.setCell ⟨p, 0, none⟩ (.int .u32 (oc : Int))).setCell ⟨p, 1, none⟩ (.int .u32 (ok : Int))).setCell ⟨p, 2, none⟩ (.bool lg)).setCell ⟨p, 3, none⟩ (.slice a1 d1.length p1)).heap[p]? = some (.cells #[.int .u32 (oc : Int), .int .u32 (ok : Int), .bool lg, .slice a1 d1.length p1] 55 (0, 0)) := put_box q2 3 _ (by simp)
        exact q3
      have hs := hE.store0 e4 hp0 hpz hsame hblk
      clear hsame hblk
      refine wpOp_want ho0 rfl (fun K hK => ?_)
      clear hall ho0 hE
      dsimp only [eact]
      first | go_big_move | go_big_op
      exact hK _ _ ⟨_, _, _, _, _, _, _, _, rfl, hs⟩
    · simp only [List.getElem?_toArray, List.getElem?_cons_succ, List.getElem?_cons_zero, Option.some.injEq] at ho
      subst ho
      have e4 := getD_tt (hall ⟨5, .data⟩ (by simp) (by rfl))
      have e0 := getD_tt (hall ⟨1, .data⟩ (by simp) (by rfl))
      have r0 := hE.h1 e0
      obtain ⟨p, r4, hp0, hpz⟩ := hE.b1 e4
      subst r0
      subst r4
      have hun' : l'.getD 9 true = false := hun
      rw [hun'] at hpz
      simp only [Bool.false_eq_true, if_false] at hpz
      have c0 := blk_at hpz 0
      have f0 := blk_free hpz 0
      have c1 := blk_at hpz 1
      have f1 := blk_free hpz 1
      have c2 := blk_at hpz 2
      have f2 := blk_free hpz 2
      simp at c0 c1 c2
      have hsame : SameB p wv (((wv.setCell ⟨p, 0, none⟩ (.int .u32 (rc : Int))).setCell ⟨p, 1, none⟩ (.int .u32 (rk : Int))).setCell ⟨p, 2, none⟩ (.slice a2 d2.length p2)) := ((((SameB.refl p wv).set 0 _).set 1 _).set 2 _)
      have hblk : (((wv.setCell ⟨p, 0, none⟩ (.int .u32 (rc : Int))).setCell ⟨p, 1, none⟩ (.int .u32 (rk : Int))).setCell ⟨p, 2, none⟩ (.slice a2 d2.length p2)).heap[p]? = some (.cells #[.int .u32 (rc : Int), .int .u32 (rk : Int), .slice a2 d2.length p2] 57 (0, 0)) := by
        have q0 : (wv.setCell ⟨p, 0, none⟩ (.int .u32 (rc : Int))).heap[p]? = some (.cells #[.int .u32 (rc : Int), .int .u32 0, .slice none 0 0] 57 (0, 0)) := put_box hpz 0 _ (by simp)
        have q1 : ((wv.setCell ⟨p, 0, none⟩ (.int .u32 (rc : Int))).setCell ⟨p, 1, none⟩ (.int .u32 (rk : Int))).heap[p]? = some (.cells #[.int .u32 (rc : Int), .int .u32 (rk : Int), .slice none 0 0] 57 (0, 0)) := put_box q0 1 _ (by simp)
        have q2 : (((wv.setCell ⟨p, 0, none⟩ (.int .u32 (rc : Int))).setCell ⟨p, 1, none⟩ (.int .u32 (rk : Int))).setCell ⟨p, 2, none⟩ (.slice a2 d2.length p2)).heap[p]? = some (.cells #[.int .u32 (rc : Int), .int .u32 (rk : Int), .slice a2 d2.length p2] 57 (0, 0)) := put_box q1 2 _ (by simp)
        exact q2
      have hs := hE.store1 e4 hp0 hpz hsame hblk
      clear hsame hblk
      refine wpOp_want ho0 rfl (fun K hK => ?_)
      clear hall ho0 hE
      dsimp only [eact]
      first | go_big_move | go_big_op
      exact hK _ _ ⟨_, _, _, _, _, _, _, _, rfl, hs⟩
    · simp only [List.getElem?_toArray, List.getElem?_cons_succ, List.getElem?_cons_zero, Option.some.injEq] at ho
      subst ho
      have e4 := getD_tt (hall ⟨6, .data⟩ (by simp) (by rfl))
      have e0 := getD_tt (hall ⟨2, .data⟩ (by simp) (by rfl))
      have r0 := hE.h2 e0
      obtain ⟨p, r4, hp0, hpz⟩ := hE.b2 e4
      subst r0
      subst r4
      have hun' : l'.getD 10 true = false := hun
      rw [hun'] at hpz
      simp only [Bool.false_eq_true, if_false] at hpz
      have c0 := blk_at hpz 0
      have f0 := blk_free hpz 0
      have c1 := blk_at hpz 1
      have f1 := blk_free hpz 1
      have c2 := blk_at hpz 2
      have f2 := blk_free hpz 2
      have c3 := blk_at hpz 3
      have f3 := blk_free hpz 3
      have c4 := blk_at hpz 4
      have f4 := blk_free hpz 4
      have c5 := blk_at hpz 5
      have f5 := blk_free hpz 5
      simp at c0 c1 c2 c3 c4 c5
      have hsame : SameB p wv ((((((wv.setCell ⟨p, 0, none⟩ (.int .u16 (qf : Int))).setCell ⟨p, 1, none⟩ (.int .u16 (qt : Int))).setCell ⟨p, 2, none⟩ (.int .u64 (qc : Int))).setCell ⟨p, 3, none⟩ (.int .u64 (qo : Int))).setCell ⟨p, 4, none⟩ (.int .u64 (qn : Int))).setCell ⟨p, 5, none⟩ (.slice a3 d3.length p3)) := (((((((SameB.refl p wv).set 0 _).set 1 _).set 2 _).set 3 _).set 4 _).set 5 _)
      have hblk : ((((((wv.setCell ⟨p, 0, none⟩ (.int .u16 (qf : Int))).setCell ⟨p, 1, none⟩ (.int .u16 (qt : Int))).setCell ⟨p, 2, none⟩ (.int .u64 (qc : Int))).setCell ⟨p, 3, none⟩ (.int .u64 (qo : Int))).setCell ⟨p, 4, none⟩ (.int .u64 (qn : Int))).setCell ⟨p, 5, none⟩ (.slice a3 d3.length p3)).heap[p]? = some (.cells #[.int .u16 (qf : Int), .int .u16 (qt : Int), .int .u64 (qc : Int), .int .u64 (qo : Int), .int .u64 (qn : Int), .slice a3 d3.length p3] 59 (0, 0)) := by
        have q0 : (wv.setCell ⟨p, 0, none⟩ (.int .u16 (qf : Int))).heap[p]? = some (.cells #[.int .u16 (qf : Int), .int .u16 0, .int .u64 0, .int .u64 0, .int .u64 0, .slice none 0 0] 59 (0, 0)) := put_box hpz 0 _ (by simp)
        have q1 : ((wv.setCell ⟨p, 0, none⟩ (.int .u16 (qf : Int))).setCell ⟨p, 1, none⟩ (.int .u16 (qt : Int))).heap[p]? = some (.cells #[.int .u16 (qf : Int), .int .u16 (qt : Int), .int .u64 0, .int .u64 0, .int .u64 0, .slice none 0 0] 59 (0, 0)) := put_box q0 1 _ (by simp)
        have q2 : (((wv.setCell ⟨p, 0, none⟩ (.int .u16 (qf : Int))).setCell ⟨p, 1, none⟩ (.int .u16 (qt : Int))).setCell ⟨p, 2, none⟩ (.int .u64 (qc : Int))).heap[p]? = some (.cells #[.int .u16 (qf : Int), .int .u16 (qt : Int), .int .u64 (qc : Int), .int .u64 0, .int .u64 0, .slice none 0 0] 59 (0, 0)) := put_box q1 2 _ (by simp)
        have q3 : ((((wv.setCell ⟨p, 0, none⟩ (.int .u16 (qf : Int))).setCell ⟨p, 1, none⟩ (.int .u16 (qt : Int))).setCell ⟨p, 2, none⟩ (.int .u64 (qc : Int))).setCell ⟨p, 3, none⟩ (.int .u64 (qo : Int))).heap[p]? = some (.cells #[.int .u16 (qf : Int), .int .u16 (qt : Int), .int .u64 (qc : Int), .int .u64 (qo : Int), .int .u64 0, .slice none 0 0] 59 (0, 0)) := put_box q2 3 _ (by simp)
        have q4 : (((((wv.setCell ⟨p, 0, none⟩ (.int .u16 (qf : Int))).setCell ⟨p, 1, none⟩ (.int .u16 (qt : Int))).setCell ⟨p, 2, none⟩ (.int .u64 (qc : Int))).setCell ⟨p, 3, none⟩ (.int .u64 (qo : Int))).setCell ⟨p, 4, none⟩ (.int .u64 (qn : Int))).heap[p]? = some (.cells #[.int .u16 (qf : Int), .int .u16 (qt : Int), .int .u64 (qc : Int), .int .u64 (qo : Int), .int .u64 (qn : Int), .slice none 0 0] 59 (0, 0)) := put_box q3 4 _ (by simp)
        have q5 : ((((((wv.setCell ⟨p, 0, none⟩ (.int .u16 (qf : Int))).setCell ⟨p, 1, none⟩ (.int .u16 (qt : Int))).setCell ⟨p, 2, none⟩ (.int .u64 (qc : Int))).setCell ⟨p, 3, none⟩ (.int .u64 (qo : Int))).setCell ⟨p, 4, none⟩ (.int .u64 (qn : Int))).setCell ⟨p, 5, none⟩ (.slice a3 d3.length p3)).heap[p]? = some (.cells #[.int .u16 (qf : Int), .int .u16 (qt : Int), .int .u64 (qc : Int), .int .u64 (qo : Int), .int .u64 (qn : Int), .slice a3 d3.length p3] 59 (0, 0)) := put_box q4 5 _ (by simp)
        exact q5
      have hs := hE.store2 e4 hp0 hpz hsame hblk
      clear hsame hblk
      refine wpOp_want ho0 rfl (fun K hK => ?_)
      clear hall ho0 hE
      dsimp only [eact]
      first | go_big_move | go_big_op
      exact hK _ _ ⟨_, _, _, _, _, _, _, _, rfl, hs⟩
    · simp only [List.getElem?_toArray, List.getElem?_cons_succ, List.getElem?_cons_zero, Option.some.injEq] at ho
      subst ho
      have e4 := getD_tt (hall ⟨7, .data⟩ (by simp) (by rfl))
      have e0 := getD_tt (hall ⟨3, .data⟩ (by simp) (by rfl))
      have r0 := hE.h3 e0
      obtain ⟨p, r4, hp0, hpz⟩ := hE.b3 e4
      subst r0
      subst r4
      have hun' : l'.getD 11 true = false := hun
      rw [hun'] at hpz
      simp only [Bool.false_eq_true, if_false] at hpz
      have c0 := blk_at hpz 0
      have f0 := blk_free hpz 0
      have c1 := blk_at hpz 1
      have f1 := blk_free hpz 1
      have c2 := blk_at hpz 2
      have f2 := blk_free hpz 2
      have c3 := blk_at hpz 3
      have f3 := blk_free hpz 3
      have c4 := blk_at hpz 4
      have f4 := blk_free hpz 4
      simp at c0 c1 c2 c3 c4
      have hsame : SameB p wv (((((wv.setCell ⟨p, 0, none⟩ (.int .u16 (cf : Int))).setCell ⟨p, 1, none⟩ (.int .u16 (ct : Int))).setCell ⟨p, 2, none⟩ (.int .u64 (cc : Int))).setCell ⟨p, 3, none⟩ (.int .u64 (co : Int))).setCell ⟨p, 4, none⟩ (.slice a4 d4.length p4)) := ((((((SameB.refl p wv).set 0 _).set 1 _).set 2 _).set 3 _).set 4 _)
      have hblk : (((((wv.setCell ⟨p, 0, none⟩ (.int .u16 (cf : Int))).setCell ⟨p, 1, none⟩ (.int .u16 (ct : Int))).setCell ⟨p, 2, none⟩ (.int .u64 (cc : Int))).setCell ⟨p, 3, none⟩ (.int .u64 (co : Int))).setCell ⟨p, 4, none⟩ (.slice a4 d4.length p4)).heap[p]? = some (.cells #[.int .u16 (cf : Int), .int .u16 (ct : Int), .int .u64 (cc : Int), .int .u64 (co : Int), .slice a4 d4.length p4] 61 (0, 0)) := by
        have q0 : (wv.setCell ⟨p, 0, none⟩ (.int .u16 (cf : Int))).heap[p]? = some (.cells #[.int .u16 (cf : Int), .int .u16 0, .int .u64 0, .int .u64 0, .slice none 0 0] 61 (0, 0)) := put_box hpz 0 _ (by simp)
        have q1 : ((wv.setCell ⟨p, 0, none⟩ (.int .u16 (cf : Int))).setCell ⟨p, 1, none⟩ (.int .u16 (ct : Int))).heap[p]? = some (.cells #[.int .u16 (cf : Int), .int .u16 (ct : Int), .int .u64 0, .int .u64 0, .slice none 0 0] 61 (0, 0)) := put_box q0 1 _ (by simp)
        have q2 : (((wv.setCell ⟨p, 0, none⟩ (.int .u16 (cf : Int))).setCell ⟨p, 1, none⟩ (.int .u16 (ct : Int))).setCell ⟨p, 2, none⟩ (.int .u64 (cc : Int))).heap[p]? = some (.cells #[.int .u16 (cf : Int), .int .u16 (ct : Int), .int .u64 (cc : Int), .int .u64 0, .slice none 0 0] 61 (0, 0)) := put_box q1 2 _ (by simp)
        have q3 : ((((wv.setCell ⟨p, 0, none⟩ (.int .u16 (cf : Int))).setCell ⟨p, 1, none⟩ (.int .u16 (ct : Int))).setCell ⟨p, 2, none⟩ (.int .u64 (cc : Int))).setCell ⟨p, 3, none⟩ (.int .u64 (co : Int))).heap[p]? = some (.cells #[.int .u16 (cf : Int), .int .u16 (ct : Int), .int .u64 (cc : Int), .int .u64 (co : Int), .slice none 0 0] 61 (0, 0)) := put_box q2 3 _ (by simp)
        have q4 : (((((wv.setCell ⟨p, 0, none⟩ (.int .u16 (cf : Int))).setCell ⟨p, 1, none⟩ (.int .u16 (ct : Int))).setCell ⟨p, 2, none⟩ (.int .u64 (cc : Int))).setCell ⟨p, 3, none⟩ (.int .u64 (co : Int))).setCell ⟨p, 4, none⟩ (.slice a4 d4.length p4)).heap[p]? = some (.cells #[.int .u16 (cf : Int), .int .u16 (ct : Int), .int .u64 (cc : Int), .int .u64 (co : Int), .slice a4 d4.length p4] 61 (0, 0)) := put_box q3 4 _ (by simp)
        exact q4
      have hs := hE.store3 e4 hp0 hpz hsame hblk
      clear hsame hblk
      refine wpOp_want ho0 rfl (fun K hK => ?_)
      clear hall ho0 hE
      dsimp only [eact]
      first | go_big_move | go_big_op
      exact hK _ _ ⟨_, _, _, _, _, _, _, _, rfl, hs⟩
  case hc => decide
  case hi => exact ⟨_, _, _, _, _, _, _, _, rfl, ⟨rfl, ⟨rfl, rfl, rfl, Nat.le_refl _, fun _ _ => rfl⟩, (fun e => absurd (show false = true from e) (by decide)), (fun e => absurd (show false = true from e) (by decide)), (fun e => absurd (show false = true from e) (by decide)), (fun e => absurd (show false = true from e) (by decide)), (fun e => absurd (show false = true from e) (by decide)), (fun e => absurd (show false = true from e) (by decide)), (fun e => absurd (show false = true from e) (by decide)), (fun e => absurd (show false = true from e) (by decide)), (fun e => absurd (show false = true from e) (by decide)), (fun e => absurd (show false = true from e) (by decide)), (fun e => absurd (show false = true from e) (by decide)), (fun e => absurd (show false = true from e) (by decide))⟩⟩
  rintro l' a' w1 ⟨x0, x1, x2, x3, y0, y1, y2, y3, rfl, hE⟩ hre
  have hall := ready_allB (by kernel_rfl) hE.sz hre
  obtain ⟨g0, rfl, l0, G0⟩ := hE.b0 (hall 4)
  obtain ⟨g1, rfl, l1, G1⟩ := hE.b1 (hall 5)
  obtain ⟨g2, rfl, l2, G2⟩ := hE.b2 (hall 6)
  obtain ⟨g3, rfl, l3, G3⟩ := hE.b3 (hall 7)
  rw [if_pos (hall 8)] at G0
  rw [if_pos (hall 9)] at G1
  rw [if_pos (hall 10)] at G2
  rw [if_pos (hall 11)] at G3
  have r0 := hE.h0 (hall 0)
  have r1 := hE.h1 (hall 1)
  have r2 := hE.h2 (hall 2)
  have r3 := hE.h3 (hall 3)
  subst r0 r1 r2 r3
  have Q1 : Hid (Below W0.heap.size W0 w1) := hE.bel
  clear hE hall hre
  have HB1 : Hid (Below w.heap.size w w1) := HBX.out.2.1.trans (Q1.out.mono HBX.out.2.1.size)
  have HG : Hid (((w1.heap[g0]? = some (.cells #[.int .u32 (oc : Int), .int .u32 (ok : Int), .bool lg, .slice a1 d1.length p1] 55 (0, 0)) ∧ w1.heap[g1]? = some (.cells #[.int .u32 (rc : Int), .int .u32 (rk : Int), .slice a2 d2.length p2] 57 (0, 0))) ∧ w1.heap[g2]? = some (.cells #[.int .u16 (qf : Int), .int .u16 (qt : Int), .int .u64 (qc : Int), .int .u64 (qo : Int), .int .u64 (qn : Int), .slice a3 d3.length p3] 59 (0, 0))) ∧ w1.heap[g3]? = some (.cells #[.int .u16 (cf : Int), .int .u16 (ct : Int), .int .u64 (cc : Int), .int .u64 (co : Int), .slice a4 d4.length p4] 61 (0, 0))) := ⟨⟨⟨G0, G1⟩, G2⟩, G3⟩
  have HL : Hid (((W0.heap.size ≤ g0 ∧ W0.heap.size ≤ g1) ∧ W0.heap.size ≤ g2) ∧ W0.heap.size ≤ g3) := ⟨⟨⟨l0, l1⟩, l2⟩, l3⟩
  clear G0 G1 G2 G3 l0 l1 l2 l3
  go_wp2_with fail
  refine wp_region_any (by kernel_rfl) ?_
  refine wpAny_by (fun l' a' w' => ∃ f0 f1 f2 f3 q0 q1 q2 q3 r0 r1 r2 r3 h0 h1 h2 h3, a' = jact w.heap.size g0 g1 g2 g3 #[.int .u32 (oc : Int), .int .u32 (ok : Int), .bool lg, .slice a1 d1.length p1] #[.int .u32 (rc : Int), .int .u32 (rk : Int), .slice a2 d2.length p2] #[.int .u16 (qf : Int), .int .u16 (qt : Int), .int .u64 (qc : Int), .int .u64 (qo : Int), .int .u64 (qn : Int), .slice a3 d3.length p3] #[.int .u16 (cf : Int), .int .u16 (ct : Int), .int .u64 (cc : Int), .int .u64 (co : Int), .slice a4 d4.length p4] ext (.slice a1 d1.length p1) (.slice a2 d2.length p2) (.slice a3 d3.length p3) (.slice a4 d4.length p4) f0 f1 f2 f3 q0 q1 q2 q3 r0 r1 r2 r3 h0 h1 h2 h3 ∧ EJ W0 w.heap.size g0 g1 g2 g3 #[.int .u32 (oc : Int), .int .u32 (ok : Int), .bool lg, .slice a1 d1.length p1] #[.int .u32 (rc : Int), .int .u32 (rk : Int), .slice a2 d2.length p2] #[.int .u16 (qf : Int), .int .u16 (qt : Int), .int .u64 (qc : Int), .int .u64 (qo : Int), .int .u64 (qn : Int), .slice a3 d3.length p3] #[.int .u16 (cf : Int), .int .u16 (ct : Int), .int .u64 (cc : Int), .int .u64 (co : Int), .slice a4 d4.length p4] (.slice a1 d1.length p1) (.slice a2 d2.length p2) (.slice a3 d3.length p3) (.slice a4 d4.length p4) d1 d2 d3 d4 l' f0 f1 f2 f3 q0 q1 q2 q3 r0 r1 r2 r3 h0 h1 h2 h3 w') ?hdoneJ ?hstepJ _ _ _ _ ?hcJ ?hiJ
  case hstepJ =>
    rintro l' a' wv i ⟨f0, f1, f2, f3, q0, q1, q2, q3, r0, r1, r2, r3, h0, h1, h2, h3, rfl, hE⟩ hm
    obtain ⟨hun, o, ho0, hall⟩ := mem_ready.1 hm
    have ho := ho0
    have hi20 : i < 20 := (Array.getElem?_eq_some_iff.1 ho).1
    have hcase : i = 0 ∨ i = 1 ∨ i = 2 ∨ i = 3 ∨ i = 4 ∨ i = 5 ∨ i = 6 ∨ i = 7 ∨ i = 8 ∨ i = 9 ∨ i = 10 ∨ i = 11 ∨ i = 12 ∨ i = 13 ∨ i = 14 ∨ i = 15 ∨ i = 16 ∨ i = 17 ∨ i = 18 ∨ i = 19 := by omega
    clear hi20 hm
    rcases hcase with rfl | rfl | rfl | rfl | rfl | rfl | rfl | rfl | rfl | rfl | rfl | rfl | rfl | rfl | rfl | rfl | rfl | rfl | rfl | rfl
    · simp only [List.getElem?_toArray, List.getElem?_cons_succ, List.getElem?_cons_zero, Option.some.injEq] at ho
      subst ho
      have hs := hE.addr0
      refine wpOp_want ho0 rfl (fun K hK => ?_)
      clear hE hall ho0
      dsimp only [jact]
      first | go_big_move | go_big_op
      exact hK _ _ ⟨_, _, _, _, _, _, _, _, _, _, _, _, _, _, _, _, rfl, hs⟩
    · simp only [List.getElem?_toArray, List.getElem?_cons_succ, List.getElem?_cons_zero, Option.some.injEq] at ho
      subst ho
      have e1 := getD_tt (hall ⟨0, .data⟩ (by simp) (by rfl))
      have r1 := hE.pf0 e1
      subst r1
      obtain ⟨⟨y0, y1⟩, y2, y3⟩ := HS.out wv hE.bel
      have hs := hE.load0
      refine wpOp_want ho0 rfl (fun K hK => ?_)
      clear hE hall ho0
      dsimp only [jact]
      first | go_big_move | go_big_op
      exact hK _ _ ⟨_, _, _, _, _, _, _, _, _, _, _, _, _, _, _, _, rfl, hs⟩
    · simp only [List.getElem?_toArray, List.getElem?_cons_succ, List.getElem?_cons_zero, Option.some.injEq] at ho
      subst ho
      have e1 := getD_tt (hall ⟨1, .data⟩ (by simp) (by rfl))
      have r1 := hE.pq0 e1
      subst r1
      have HB : Hid (Below w.heap.size w wv) := HBX.out.2.1.trans (hE.bel.mono HBX.out.2.1.size)
      refine wpOp_want ho0 rfl (fun K hK => ?_)
      clear hall ho0
      dsimp only [jact]
      first | go_big_op | go_step
      go_at_call 28
      refine (TW1.out _ HB.out).mono ?_
      rintro e u ⟨t, rfl, hl, ht, hb⟩
      have hs := hE.call0 hun hb ht
      exact hK _ _ ⟨_, _, _, _, _, _, _, _, _, _, _, _, _, _, _, _, rfl, hs⟩
    · simp only [List.getElem?_toArray, List.getElem?_cons_succ, List.getElem?_cons_zero, Option.some.injEq] at ho
      subst ho
      have hs := hE.addr1
      refine wpOp_want ho0 rfl (fun K hK => ?_)
      clear hE hall ho0
      dsimp only [jact]
      first | go_big_move | go_big_op
      exact hK _ _ ⟨_, _, _, _, _, _, _, _, _, _, _, _, _, _, _, _, rfl, hs⟩
    · simp only [List.getElem?_toArray, List.getElem?_cons_succ, List.getElem?_cons_zero, Option.some.injEq] at ho
      subst ho
      have e1 := getD_tt (hall ⟨3, .data⟩ (by simp) (by rfl))
      have r1 := hE.pf1 e1
      subst r1
      obtain ⟨⟨y0, y1⟩, y2, y3⟩ := HS.out wv hE.bel
      have hs := hE.load1
      refine wpOp_want ho0 rfl (fun K hK => ?_)
      clear hE hall ho0
      dsimp only [jact]
      first | go_big_move | go_big_op
      exact hK _ _ ⟨_, _, _, _, _, _, _, _, _, _, _, _, _, _, _, _, rfl, hs⟩
    · simp only [List.getElem?_toArray, List.getElem?_cons_succ, List.getElem?_cons_zero, Option.some.injEq] at ho
      subst ho
      have e1 := getD_tt (hall ⟨4, .data⟩ (by simp) (by rfl))
      have r1 := hE.pq1 e1
      subst r1
      have HB : Hid (Below w.heap.size w wv) := HBX.out.2.1.trans (hE.bel.mono HBX.out.2.1.size)
      refine wpOp_want ho0 rfl (fun K hK => ?_)
      clear hall ho0
      dsimp only [jact]
      first | go_big_op | go_step
      go_at_call 28
      refine (TW2.out _ HB.out).mono ?_
      rintro e u ⟨t, rfl, hl, ht, hb⟩
      have hs := hE.call1 hun hb ht
      exact hK _ _ ⟨_, _, _, _, _, _, _, _, _, _, _, _, _, _, _, _, rfl, hs⟩
    · simp only [List.getElem?_toArray, List.getElem?_cons_succ, List.getElem?_cons_zero, Option.some.injEq] at ho
      subst ho
      have hs := hE.addr2
      refine wpOp_want ho0 rfl (fun K hK => ?_)
      clear hE hall ho0
      dsimp only [jact]
      first | go_big_move | go_big_op
      exact hK _ _ ⟨_, _, _, _, _, _, _, _, _, _, _, _, _, _, _, _, rfl, hs⟩
    · simp only [List.getElem?_toArray, List.getElem?_cons_succ, List.getElem?_cons_zero, Option.some.injEq] at ho
      subst ho
      have e1 := getD_tt (hall ⟨6, .data⟩ (by simp) (by rfl))
      have r1 := hE.pf2 e1
      subst r1
      obtain ⟨⟨y0, y1⟩, y2, y3⟩ := HS.out wv hE.bel
      have hs := hE.load2
      refine wpOp_want ho0 rfl (fun K hK => ?_)
      clear hE hall ho0
      dsimp only [jact]
      first | go_big_move | go_big_op
      exact hK _ _ ⟨_, _, _, _, _, _, _, _, _, _, _, _, _, _, _, _, rfl, hs⟩
    · simp only [List.getElem?_toArray, List.getElem?_cons_succ, List.getElem?_cons_zero, Option.some.injEq] at ho
      subst ho
      have e1 := getD_tt (hall ⟨7, .data⟩ (by simp) (by rfl))
      have r1 := hE.pq2 e1
      subst r1
      have HB : Hid (Below w.heap.size w wv) := HBX.out.2.1.trans (hE.bel.mono HBX.out.2.1.size)
      refine wpOp_want ho0 rfl (fun K hK => ?_)
      clear hall ho0
      dsimp only [jact]
      first | go_big_op | go_step
      go_at_call 28
      refine (TW3.out _ HB.out).mono ?_
      rintro e u ⟨t, rfl, hl, ht, hb⟩
      have hs := hE.call2 hun hb ht
      exact hK _ _ ⟨_, _, _, _, _, _, _, _, _, _, _, _, _, _, _, _, rfl, hs⟩
    · simp only [List.getElem?_toArray, List.getElem?_cons_succ, List.getElem?_cons_zero, Option.some.injEq] at ho
      subst ho
      have hs := hE.addr3
      refine wpOp_want ho0 rfl (fun K hK => ?_)
      clear hE hall ho0
      dsimp only [jact]
      first | go_big_move | go_big_op
      exact hK _ _ ⟨_, _, _, _, _, _, _, _, _, _, _, _, _, _, _, _, rfl, hs⟩
    · simp only [List.getElem?_toArray, List.getElem?_cons_succ, List.getElem?_cons_zero, Option.some.injEq] at ho
      subst ho
      have e1 := getD_tt (hall ⟨9, .data⟩ (by simp) (by rfl))
      have r1 := hE.pf3 e1
      subst r1
      obtain ⟨⟨y0, y1⟩, y2, y3⟩ := HS.out wv hE.bel
      have hs := hE.load3
      refine wpOp_want ho0 rfl (fun K hK => ?_)
      clear hE hall ho0
      dsimp only [jact]
      first | go_big_move | go_big_op
      exact hK _ _ ⟨_, _, _, _, _, _, _, _, _, _, _, _, _, _, _, _, rfl, hs⟩
    · simp only [List.getElem?_toArray, List.getElem?_cons_succ, List.getElem?_cons_zero, Option.some.injEq] at ho
      subst ho
      have e1 := getD_tt (hall ⟨10, .data⟩ (by simp) (by rfl))
      have r1 := hE.pq3 e1
      subst r1
      have HB : Hid (Below w.heap.size w wv) := HBX.out.2.1.trans (hE.bel.mono HBX.out.2.1.size)
      refine wpOp_want ho0 rfl (fun K hK => ?_)
      clear hall ho0
      dsimp only [jact]
      first | go_big_op | go_step
      go_at_call 28
      refine (TW4.out _ HB.out).mono ?_
      rintro e u ⟨t, rfl, hl, ht, hb⟩
      have hs := hE.call3 hun hb ht
      exact hK _ _ ⟨_, _, _, _, _, _, _, _, _, _, _, _, _, _, _, _, rfl, hs⟩
    · simp only [List.getElem?_toArray, List.getElem?_cons_succ, List.getElem?_cons_zero, Option.some.injEq] at ho
      subst ho
      have hs := hE.to0
      refine wpOp_want ho0 rfl (fun K hK => ?_)
      clear hE hall ho0
      dsimp only [jact]
      first | go_big_move | go_big_op
      exact hK _ _ ⟨_, _, _, _, _, _, _, _, _, _, _, _, _, _, _, _, rfl, hs⟩
    · simp only [List.getElem?_toArray, List.getElem?_cons_succ, List.getElem?_cons_zero, Option.some.injEq] at ho
      subst ho
      have e1 := getD_tt (hall ⟨12, .data⟩ (by simp) (by rfl))
      have e2 := getD_tt (hall ⟨2, .data⟩ (by simp) (by rfl))
      have r1 := hE.ph0 e1
      obtain ⟨t, r2, ht⟩ := hE.pt0 e2
      subst r1
      subst r2
      have hun' : l'.getD 13 true = false := hun
      have hs := hE.store0 hun' e2 HL.out.1.1.1
      have g := hE.pg0
      rw [hun'] at g
      simp only [Bool.false_eq_true, if_false] at g
      have c0 := blk_at g 3
      have f0 := blk_free g 3
      simp at c0
      refine wpOp_want ho0 rfl (fun K hK => ?_)
      clear hE hall ho0 g ht
      dsimp only [jact]
      first | go_big_move | go_big_op
      exact hK _ _ ⟨_, _, _, _, _, _, _, _, _, _, _, _, _, _, _, _, rfl, hs⟩
    · simp only [List.getElem?_toArray, List.getElem?_cons_succ, List.getElem?_cons_zero, Option.some.injEq] at ho
      subst ho
      have hs := hE.to1
      refine wpOp_want ho0 rfl (fun K hK => ?_)
      clear hE hall ho0
      dsimp only [jact]
      first | go_big_move | go_big_op
      exact hK _ _ ⟨_, _, _, _, _, _, _, _, _, _, _, _, _, _, _, _, rfl, hs⟩
    · simp only [List.getElem?_toArray, List.getElem?_cons_succ, List.getElem?_cons_zero, Option.some.injEq] at ho
      subst ho
      have e1 := getD_tt (hall ⟨14, .data⟩ (by simp) (by rfl))
      have e2 := getD_tt (hall ⟨5, .data⟩ (by simp) (by rfl))
      have r1 := hE.ph1 e1
      obtain ⟨t, r2, ht⟩ := hE.pt1 e2
      subst r1
      subst r2
      have hun' : l'.getD 15 true = false := hun
      have hs := hE.store1 hun' e2 HL.out.1.1.2
      have g := hE.pg1
      rw [hun'] at g
      simp only [Bool.false_eq_true, if_false] at g
      have c0 := blk_at g 2
      have f0 := blk_free g 2
      simp at c0
      refine wpOp_want ho0 rfl (fun K hK => ?_)
      clear hE hall ho0 g ht
      dsimp only [jact]
      first | go_big_move | go_big_op
      exact hK _ _ ⟨_, _, _, _, _, _, _, _, _, _, _, _, _, _, _, _, rfl, hs⟩
    · simp only [List.getElem?_toArray, List.getElem?_cons_succ, List.getElem?_cons_zero, Option.some.injEq] at ho
      subst ho
      have hs := hE.to2
      refine wpOp_want ho0 rfl (fun K hK => ?_)
      clear hE hall ho0
      dsimp only [jact]
      first | go_big_move | go_big_op
      exact hK _ _ ⟨_, _, _, _, _, _, _, _, _, _, _, _, _, _, _, _, rfl, hs⟩
    · simp only [List.getElem?_toArray, List.getElem?_cons_succ, List.getElem?_cons_zero, Option.some.injEq] at ho
      subst ho
      have e1 := getD_tt (hall ⟨16, .data⟩ (by simp) (by rfl))
      have e2 := getD_tt (hall ⟨8, .data⟩ (by simp) (by rfl))
      have r1 := hE.ph2 e1
      obtain ⟨t, r2, ht⟩ := hE.pt2 e2
      subst r1
      subst r2
      have hun' : l'.getD 17 true = false := hun
      have hs := hE.store2 hun' e2 HL.out.1.2
      have g := hE.pg2
      rw [hun'] at g
      simp only [Bool.false_eq_true, if_false] at g
      have c0 := blk_at g 5
      have f0 := blk_free g 5
      simp at c0
      refine wpOp_want ho0 rfl (fun K hK => ?_)
      clear hE hall ho0 g ht
      dsimp only [jact]
      first | go_big_move | go_big_op
      exact hK _ _ ⟨_, _, _, _, _, _, _, _, _, _, _, _, _, _, _, _, rfl, hs⟩
    · simp only [List.getElem?_toArray, List.getElem?_cons_succ, List.getElem?_cons_zero, Option.some.injEq] at ho
      subst ho
      have hs := hE.to3
      refine wpOp_want ho0 rfl (fun K hK => ?_)
      clear hE hall ho0
      dsimp only [jact]
      first | go_big_move | go_big_op
      exact hK _ _ ⟨_, _, _, _, _, _, _, _, _, _, _, _, _, _, _, _, rfl, hs⟩
    · simp only [List.getElem?_toArray, List.getElem?_cons_succ, List.getElem?_cons_zero, Option.some.injEq] at ho
      subst ho
      have e1 := getD_tt (hall ⟨18, .data⟩ (by simp) (by rfl))
      have e2 := getD_tt (hall ⟨11, .data⟩ (by simp) (by rfl))
      have r1 := hE.ph3 e1
      obtain ⟨t, r2, ht⟩ := hE.pt3 e2
      subst r1
      subst r2
      have hun' : l'.getD 19 true = false := hun
      have hs := hE.store3 hun' e2 HL.out.2
      have g := hE.pg3
      rw [hun'] at g
      simp only [Bool.false_eq_true, if_false] at g
      have c0 := blk_at g 4
      have f0 := blk_free g 4
      simp at c0
      refine wpOp_want ho0 rfl (fun K hK => ?_)
      clear hE hall ho0 g ht
      dsimp only [jact]
      first | go_big_move | go_big_op
      exact hK _ _ ⟨_, _, _, _, _, _, _, _, _, _, _, _, _, _, _, _, rfl, hs⟩
  case hcJ => decide
  case hiJ => exact ⟨_, _, _, _, _, _, _, _, _, _, _, _, _, _, _, _, rfl, ⟨rfl, ⟨Q1.out.os, Q1.out.tape, Q1.out.output, Q1.out.size, Q1.out.block⟩, (fun e => absurd (show false = true from e) (by decide)), (fun e => absurd (show false = true from e) (by decide)), (fun e => absurd (show false = true from e) (by decide)), (fun e => absurd (show false = true from e) (by decide)), (fun e => absurd (show false = true from e) (by decide)), (fun e => absurd (show false = true from e) (by decide)), (fun e => absurd (show false = true from e) (by decide)), (fun e => absurd (show false = true from e) (by decide)), (fun e => absurd (show false = true from e) (by decide)), (fun e => absurd (show false = true from e) (by decide)), (fun e => absurd (show false = true from e) (by decide)), (fun e => absurd (show false = true from e) (by decide)), (fun e => absurd (show false = true from e) (by decide)), (fun e => absurd (show false = true from e) (by decide)), (fun e => absurd (show false = true from e) (by decide)), (fun e => absurd (show false = true from e) (by decide)), HG.out.1.1.1, HG.out.1.1.2, HG.out.1.2, HG.out.2, (fun e => absurd (show false = true from e) (by decide)), (fun e => absurd (show false = true from e) (by decide)), (fun e => absurd (show false = true from e) (by decide)), (fun e => absurd (show false = true from e) (by decide))⟩⟩
  rintro l' a' U ⟨f0, f1, f2, f3, q0, q1, q2, q3, r0, r1, r2, r3, h0, h1, h2, h3, rfl, hE⟩ hre
  have hall := ready_allB (by kernel_rfl) hE.sz hre
  obtain ⟨t1, rfl, T1⟩ := hE.pt0 (hall 2)
  have K0 := hE.pg0
  rw [if_pos (hall 13)] at K0
  have z0 := hE.pf0 (hall 0)
  have zq0 := hE.pq0 (hall 1)
  have zh0 := hE.ph0 (hall 12)
  subst z0 zq0 zh0
  simp at K0
  obtain ⟨t2, rfl, T2⟩ := hE.pt1 (hall 5)
  have K1 := hE.pg1
  rw [if_pos (hall 15)] at K1
  have z1 := hE.pf1 (hall 3)
  have zq1 := hE.pq1 (hall 4)
  have zh1 := hE.ph1 (hall 14)
  subst z1 zq1 zh1
  simp at K1
  obtain ⟨t3, rfl, T3⟩ := hE.pt2 (hall 8)
  have K2 := hE.pg2
  rw [if_pos (hall 17)] at K2
  have z2 := hE.pf2 (hall 6)
  have zq2 := hE.pq2 (hall 7)
  have zh2 := hE.ph2 (hall 16)
  subst z2 zq2 zh2
  simp at K2
  obtain ⟨t4, rfl, T4⟩ := hE.pt3 (hall 11)
  have K3 := hE.pg3
  rw [if_pos (hall 19)] at K3
  have z3 := hE.pf3 (hall 9)
  have zq3 := hE.pq3 (hall 10)
  have zh3 := hE.ph3 (hall 18)
  subst z3 zq3 zh3
  simp at K3
  have QU : Hid (Below W0.heap.size W0 U) := hE.bel
  clear hE hall hre
  have HU : Hid (Below w.heap.size w U) := HBX.out.2.1.trans (QU.out.mono HBX.out.2.1.size)
  have HN0 : Hid (∀ W : World, Below U.heap.size U W → W.cell? ⟨g0, 0, none⟩ = some (.int .u32 (oc : Int)) ∧ W.cell? ⟨g0, 1, none⟩ = some (.int .u32 (ok : Int)) ∧ W.cell? ⟨g0, 2, none⟩ = some (.bool lg) ∧ W.cell? ⟨g0, 3, none⟩ = some (.slice (some ⟨t1, 0, none⟩) d1.length (d1.length + 4))) := fun W hb => by
    have k := (hb.block _ (block_lt K0)).trans K0
    exact ⟨blk_at k 0, blk_at k 1, blk_at k 2, blk_at k 3⟩
  have HN1 : Hid (∀ W : World, Below U.heap.size U W → W.cell? ⟨g1, 0, none⟩ = some (.int .u32 (rc : Int)) ∧ W.cell? ⟨g1, 1, none⟩ = some (.int .u32 (rk : Int)) ∧ W.cell? ⟨g1, 2, none⟩ = some (.slice (some ⟨t2, 0, none⟩) d2.length (d2.length + 4))) := fun W hb => by
    have k := (hb.block _ (block_lt K1)).trans K1
    exact ⟨blk_at k 0, blk_at k 1, blk_at k 2⟩
  have HN2 : Hid (∀ W : World, Below U.heap.size U W → W.cell? ⟨g2, 0, none⟩ = some (.int .u16 (qf : Int)) ∧ W.cell? ⟨g2, 1, none⟩ = some (.int .u16 (qt : Int)) ∧ W.cell? ⟨g2, 2, none⟩ = some (.int .u64 (qc : Int)) ∧ W.cell? ⟨g2, 3, none⟩ = some (.int .u64 (qo : Int)) ∧ W.cell? ⟨g2, 4, none⟩ = some (.int .u64 (qn : Int)) ∧ W.cell? ⟨g2, 5, none⟩ = some (.slice (some ⟨t3, 0, none⟩) d3.length (d3.length + 4))) := fun W hb => by
    have k := (hb.block _ (block_lt K2)).trans K2
    exact ⟨blk_at k 0, blk_at k 1, blk_at k 2, blk_at k 3, blk_at k 4, blk_at k 5⟩
  have HN3 : Hid (∀ W : World, Below U.heap.size U W → W.cell? ⟨g3, 0, none⟩ = some (.int .u16 (cf : Int)) ∧ W.cell? ⟨g3, 1, none⟩ = some (.int .u16 (ct : Int)) ∧ W.cell? ⟨g3, 2, none⟩ = some (.int .u64 (cc : Int)) ∧ W.cell? ⟨g3, 3, none⟩ = some (.int .u64 (co : Int)) ∧ W.cell? ⟨g3, 4, none⟩ = some (.slice (some ⟨t4, 0, none⟩) d4.length (d4.length + 4))) := fun W hb => by
    have k := (hb.block _ (block_lt K3)).trans K3
    exact ⟨blk_at k 0, blk_at k 1, blk_at k 2, blk_at k 3, blk_at k 4⟩
  have HT1 : Hid (∀ W : World, Below U.heap.size U W → W.heap[t1]? = some (.cells ((tw d1).map bv).toArray 5 (0, 0)) ∧ BRow W (some ⟨t1, 0, none⟩) (d1.length + 4) d1 ∧ BRow W a1 p1 d1) := fun W hb => by
    have k1 := (hb.block _ (block_lt T1)).trans T1
    exact ⟨k1, twin_brow k1 HR1.out.1.lt HR1.out.1.len _, (HR1.out.1.later HU.out).later hb⟩
  have HT2 : Hid (∀ W : World, Below U.heap.size U W → W.heap[t2]? = some (.cells ((tw d2).map bv).toArray 5 (0, 0)) ∧ BRow W (some ⟨t2, 0, none⟩) (d2.length + 4) d2 ∧ BRow W a2 p2 d2) := fun W hb => by
    have k1 := (hb.block _ (block_lt T2)).trans T2
    exact ⟨k1, twin_brow k1 HR2.out.1.lt HR2.out.1.len _, (HR2.out.1.later HU.out).later hb⟩
  have HT3 : Hid (∀ W : World, Below U.heap.size U W → W.heap[t3]? = some (.cells ((tw d3).map bv).toArray 5 (0, 0)) ∧ BRow W (some ⟨t3, 0, none⟩) (d3.length + 4) d3 ∧ BRow W a3 p3 d3) := fun W hb => by
    have k1 := (hb.block _ (block_lt T3)).trans T3
    exact ⟨k1, twin_brow k1 HR3.out.1.lt HR3.out.1.len _, (HR3.out.1.later HU.out).later hb⟩
  have HT4 : Hid (∀ W : World, Below U.heap.size U W → W.heap[t4]? = some (.cells ((tw d4).map bv).toArray 5 (0, 0)) ∧ BRow W (some ⟨t4, 0, none⟩) (d4.length + 4) d4 ∧ BRow W a4 p4 d4) := fun W hb => by
    have k1 := (hb.block _ (block_lt T4)).trans T4
    exact ⟨k1, twin_brow k1 HR4.out.1.lt HR4.out.1.len _, (HR4.out.1.later HU.out).later hb⟩
  have HO : Hid (∀ W : World, Below U.heap.size U W → Below W0.heap.size W0 W) := fun W hb => QU.out.trans (hb.mono QU.out.size)
  clear K0 K1 K2 K3 T1 T2 T3 T4 TW1 TW2 TW3 TW4 HG HL HS HB1 Q1 QU
  have Z0 : Hid (Below U.heap.size U U) := Below.refl _ _
  obtain ⟨y0, y1, y2, y3⟩ := HN0.out _ Z0.out
  go_wp2_with fail
  refine Calls.mono (E1.out _ _ _ (HT1.out _ Z0.out).2.1) ?_
  rintro e X1 ⟨oA, cA, rfl, hr, hb⟩
  clear y0 y1 y2 y3
  have Z1 : Hid (Below U.heap.size U X1) := Z0.out.trans (hb.mono Z0.out.size)
  clear Z0
  have Ax1 : Hid (BRow X1 oA cA L1) := hr
  clear hr hb
  obtain ⟨y0, y1, y2⟩ := HN1.out _ Z1.out
  go_wp2_with fail
  refine Calls.mono (E2.out _ _ _ (HT2.out _ Z1.out).2.1) ?_
  rintro e X2 ⟨oB, cB, rfl, hr, hb⟩
  clear y0 y1 y2
  have Z2 : Hid (Below U.heap.size U X2) := Z1.out.trans (hb.mono Z1.out.size)
  have Ax2 : Hid (BRow X2 oA cA L1) := Ax1.out.later hb
  clear Z1 Ax1
  have Bx2 : Hid (BRow X2 oB cB L2) := hr
  clear hr hb
  obtain ⟨y0, y1, y2, y3, y4, y5⟩ := HN2.out _ Z2.out
  go_wp2_with fail
  refine Calls.mono (E3.out _ _ _ (HT3.out _ Z2.out).2.1) ?_
  rintro e X3 ⟨oC, cC, rfl, hr, hb⟩
  clear y0 y1 y2 y3 y4 y5
  have Z3 : Hid (Below U.heap.size U X3) := Z2.out.trans (hb.mono Z2.out.size)
  have Ax3 : Hid (BRow X3 oA cA L1) := Ax2.out.later hb
  have Bx3 : Hid (BRow X3 oB cB L2) := Bx2.out.later hb
  clear Z2 Ax2 Bx2
  have Cx3 : Hid (BRow X3 oC cC L3) := hr
  clear hr hb
  obtain ⟨y0, y1, y2, y3, y4⟩ := HN3.out _ Z3.out
  go_wp2_with fail
  refine Calls.mono (E4.out _ _ _ (HT4.out _ Z3.out).2.1) ?_
  rintro e X4 ⟨oD, cD, rfl, hr, hb⟩
  clear y0 y1 y2 y3 y4
  have Z4 : Hid (Below U.heap.size U X4) := Z3.out.trans (hb.mono Z3.out.size)
  have Ax4 : Hid (BRow X4 oA cA L1) := Ax3.out.later hb
  have Bx4 : Hid (BRow X4 oB cB L2) := Bx3.out.later hb
  have Cx4 : Hid (BRow X4 oC cC L3) := Cx3.out.later hb
  clear Z3 Ax3 Bx3 Cx3
  have Dx4 : Hid (BRow X4 oD cD L4) := hr
  clear hr hb
  obtain ⟨k00, k01, k02, k03, k10, k11, k12, k20, k21, k22, k23, k24, k25, k30, k31, k32, k33, k34⟩ := HC.out _ (HO.out _ Z4.out)
  go_wp2_with fail
  refine Calls.mono (R1.out _ _ _ (HT1.out _ Z4.out).2.2) ?_
  rintro e X5 ⟨oAr, cAr, rfl, hr, hb⟩
  clear k00 k01 k02 k03 k10 k11 k12 k20 k21 k22 k23 k24 k25 k30 k31 k32 k33 k34
  have Z5 : Hid (Below U.heap.size U X5) := Z4.out.trans (hb.mono Z4.out.size)
  have Ax5 : Hid (BRow X5 oA cA L1) := Ax4.out.later hb
  have Bx5 : Hid (BRow X5 oB cB L2) := Bx4.out.later hb
  have Cx5 : Hid (BRow X5 oC cC L3) := Cx4.out.later hb
  have Dx5 : Hid (BRow X5 oD cD L4) := Dx4.out.later hb
  clear Z4 Ax4 Bx4 Cx4 Dx4
  have Arx5 : Hid (BRow X5 oAr cAr L1) := hr
  clear hr hb
  obtain ⟨k00, k01, k02, k03, k10, k11, k12, k20, k21, k22, k23, k24, k25, k30, k31, k32, k33, k34⟩ := HC.out _ (HO.out _ Z5.out)
  go_wp2_with fail
  refine Calls.mono (R3.out _ _ _ (HT3.out _ Z5.out).2.2) ?_
  rintro e X6 ⟨oCr, cCr, rfl, hr, hb⟩
  clear k00 k01 k02 k03 k10 k11 k12 k20 k21 k22 k23 k24 k25 k30 k31 k32 k33 k34
  have Z6 : Hid (Below U.heap.size U X6) := Z5.out.trans (hb.mono Z5.out.size)
  have Ax6 : Hid (BRow X6 oA cA L1) := Ax5.out.later hb
  have Bx6 : Hid (BRow X6 oB cB L2) := Bx5.out.later hb
  have Cx6 : Hid (BRow X6 oC cC L3) := Cx5.out.later hb
  have Dx6 : Hid (BRow X6 oD cD L4) := Dx5.out.later hb
  have Arx6 : Hid (BRow X6 oAr cAr L1) := Arx5.out.later hb
  clear Z5 Ax5 Bx5 Cx5 Dx5 Arx5
  have Crx6 : Hid (BRow X6 oCr cCr L3) := hr
  clear hr hb
  clear E1 E2 E3 E4 R1 R3
  go_wp2_with (first | (go_at_call 27; refine (HNum.out _ _).mono ?_; rintro e w9 ⟨rfl, rfl⟩))
  refine Calls.mono (same8_true oA oAr cA cAr m1 L1 _ Ax6.out Arx6.out HM1.out) ?_
  rintro e X7 ⟨rfl, hb⟩
  have Z7 : Hid (Below U.heap.size U X7) := Z6.out.trans (hb.mono Z6.out.size)
  have Ax7 : Hid (BRow X7 oA cA L1) := Ax6.out.later hb
  have Bx7 : Hid (BRow X7 oB cB L2) := Bx6.out.later hb
  have Cx7 : Hid (BRow X7 oC cC L3) := Cx6.out.later hb
  have Dx7 : Hid (BRow X7 oD cD L4) := Dx6.out.later hb
  have Arx7 : Hid (BRow X7 oAr cAr L1) := Arx6.out.later hb
  have Crx7 : Hid (BRow X7 oCr cCr L3) := Crx6.out.later hb
  clear Z6 Ax6 Bx6 Cx6 Dx6 Arx6 Crx6
  clear hb Ax7 Arx7
  go_wp2_with (first | (go_at_call 27; refine (HNum.out _ _).mono ?_; rintro e w9 ⟨rfl, rfl⟩))
  refine Calls.mono (same8_true oC oCr cC cCr m3 L3 _ Cx7.out Crx7.out HM3.out) ?_
  rintro e X8 ⟨rfl, hb⟩
  have Z8 : Hid (Below U.heap.size U X8) := Z7.out.trans (hb.mono Z7.out.size)
  have Bx8 : Hid (BRow X8 oB cB L2) := Bx7.out.later hb
  have Cx8 : Hid (BRow X8 oC cC L3) := Cx7.out.later hb
  have Dx8 : Hid (BRow X8 oD cD L4) := Dx7.out.later hb
  have Crx8 : Hid (BRow X8 oCr cCr L3) := Crx7.out.later hb
  clear Z7 Bx7 Cx7 Dx7 Crx7
  clear hb Cx8 Crx8
  obtain ⟨k00, k01, k02, k03, k10, k11, k12, k20, k21, k22, k23, k24, k25, k30, k31, k32, k33, k34⟩ := HC.out _ (HO.out _ Z8.out)
  go_wp2_with fail
  refine Calls.mono (R2.out _ _ _ (HT2.out _ Z8.out).2.2) ?_
  rintro e X9 ⟨oBr, cBr, rfl, hr, hb⟩
  clear k00 k01 k02 k03 k10 k11 k12 k20 k21 k22 k23 k24 k25 k30 k31 k32 k33 k34
  have Z9 : Hid (Below U.heap.size U X9) := Z8.out.trans (hb.mono Z8.out.size)
  have Bx9 : Hid (BRow X9 oB cB L2) := Bx8.out.later hb
  have Dx9 : Hid (BRow X9 oD cD L4) := Dx8.out.later hb
  clear Z8 Bx8 Dx8
  have Brx9 : Hid (BRow X9 oBr cBr L2) := hr
  clear hr hb
  go_wp2_with fail
  refine Calls.mono (same8_true oB oBr cB cBr m2 L2 _ Bx9.out Brx9.out HM2.out) ?_
  rintro e X10 ⟨rfl, hb⟩
  have Z10 : Hid (Below U.heap.size U X10) := Z9.out.trans (hb.mono Z9.out.size)
  have Bx10 : Hid (BRow X10 oB cB L2) := Bx9.out.later hb
  have Dx10 : Hid (BRow X10 oD cD L4) := Dx9.out.later hb
  have Brx10 : Hid (BRow X10 oBr cBr L2) := Brx9.out.later hb
  clear Z9 Bx9 Dx9 Brx9
  clear hb Bx10 Brx10
  obtain ⟨k00, k01, k02, k03, k10, k11, k12, k20, k21, k22, k23, k24, k25, k30, k31, k32, k33, k34⟩ := HC.out _ (HO.out _ Z10.out)
  go_wp2_with fail
  refine Calls.mono (R4.out _ _ _ (HT4.out _ Z10.out).2.2) ?_
  rintro e X11 ⟨oDr, cDr, rfl, hr, hb⟩
  clear k00 k01 k02 k03 k10 k11 k12 k20 k21 k22 k23 k24 k25 k30 k31 k32 k33 k34
  have Z11 : Hid (Below U.heap.size U X11) := Z10.out.trans (hb.mono Z10.out.size)
  have Dx11 : Hid (BRow X11 oD cD L4) := Dx10.out.later hb
  clear Z10 Dx10
  have Drx11 : Hid (BRow X11 oDr cDr L4) := hr
  clear hr hb
  go_wp2_with fail
  refine Calls.mono (same8_true oD oDr cD cDr m4 L4 _ Dx11.out Drx11.out HM4.out) ?_
  rintro e X12 ⟨rfl, hb⟩
  have Z12 : Hid (Below U.heap.size U X12) := Z11.out.trans (hb.mono Z11.out.size)
  have Dx12 : Hid (BRow X12 oD cD L4) := Dx11.out.later hb
  have Drx12 : Hid (BRow X12 oDr cDr L4) := Drx11.out.later hb
  clear Z11 Dx11 Drx11
  clear hb Dx12 Drx12
  obtain ⟨y0, y1, y2, y3⟩ := HN0.out _ Z12.out
  obtain ⟨z0, z1, z2, z3⟩ := HD.out _ (HO.out _ Z12.out)
  go_wp2_with fail
  refine Calls.mono (kept_any t1 a1 p1 d1.length d1 _ (HT1.out _ Z12.out).1 (HT1.out _ Z12.out).2.2 (show Hid (d1.length = d1.length) from rfl) (by have := HR1.out.2; omega)) ?_
  rintro e X13 ⟨rfl, hb⟩
  clear y0 y1 y2 y3
  clear z0 z1 z2 z3
  have Z13 : Hid (Below U.heap.size U X13) := Z12.out.trans (hb.mono Z12.out.size)
  clear Z12
  clear hb
  obtain ⟨y0, y1, y2⟩ := HN1.out _ Z13.out
  obtain ⟨z0, z1, z2, z3⟩ := HD.out _ (HO.out _ Z13.out)
  go_wp2_with fail
  refine Calls.mono (kept_any t2 a2 p2 d2.length d2 _ (HT2.out _ Z13.out).1 (HT2.out _ Z13.out).2.2 (show Hid (d2.length = d2.length) from rfl) (by have := HR2.out.2; omega)) ?_
  rintro e X14 ⟨rfl, hb⟩
  clear y0 y1 y2
  clear z0 z1 z2 z3
  have Z14 : Hid (Below U.heap.size U X14) := Z13.out.trans (hb.mono Z13.out.size)
  clear Z13
  clear hb
  obtain ⟨y0, y1, y2, y3, y4, y5⟩ := HN2.out _ Z14.out
  obtain ⟨z0, z1, z2, z3⟩ := HD.out _ (HO.out _ Z14.out)
  go_wp2_with fail
  refine Calls.mono (kept_any t3 a3 p3 d3.length d3 _ (HT3.out _ Z14.out).1 (HT3.out _ Z14.out).2.2 (show Hid (d3.length = d3.length) from rfl) (by have := HR3.out.2; omega)) ?_
  rintro e X15 ⟨rfl, hb⟩
  clear y0 y1 y2 y3 y4 y5
  clear z0 z1 z2 z3
  have Z15 : Hid (Below U.heap.size U X15) := Z14.out.trans (hb.mono Z14.out.size)
  clear Z14
  clear hb
  obtain ⟨y0, y1, y2, y3, y4⟩ := HN3.out _ Z15.out
  obtain ⟨z0, z1, z2, z3⟩ := HD.out _ (HO.out _ Z15.out)
  go_wp2_with fail
  refine Calls.mono (kept_any t4 a4 p4 d4.length d4 _ (HT4.out _ Z15.out).1 (HT4.out _ Z15.out).2.2 (show Hid (d4.length = d4.length) from rfl) (by have := HR4.out.2; omega)) ?_
  rintro e X16 ⟨rfl, hb⟩
  clear y0 y1 y2 y3 y4
  clear z0 z1 z2 z3
  have Z16 : Hid (Below U.heap.size U X16) := Z15.out.trans (hb.mono Z15.out.size)
  clear Z15
  clear hb
  have HW : Hid (Below w.heap.size w X16) := HU.out.trans (Z16.out.mono HU.out.size)
  go_wp2_with fail
  refine Calls.mono (HAl.out _ (HTb.out.later HW.out)) ?_
  rintro e XF ⟨rfl, hb⟩
  have HW2 : Hid (Below w.heap.size w XF) := HW.out.trans (hb.mono HW.out.size)
  clear hb HW
  go_wp2
  go_ret
  exact ⟨rfl, HW2.out⟩
end Go.Proofs.YtjhickfjagalfaaDoor
