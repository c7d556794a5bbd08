import Derived.Test.YtjkoambfecmglaaJD
import Derived.Lib.SlBytesConst
namespace Go.Proofs.Ytjkoambfecmglaa
open Go.RowKit Go.Maps
set_option linter.unusedVariables false
set_option linter.unusedSimpArgs false
set_option maxRecDepth 100000
theorem conv_const (W : World) (C : Array Value) (n c g : Nat) (hg : W.heap.size = g) : (convert 22 22 (.slice (some ⟨g, 0, none⟩) n c)).run Try.prog (W.alloc (.cells C 5)) = .ok (.slice (some ⟨g, 0, none⟩) n c) (W.alloc (.cells C 5 (C.size, C.size + 1))) := by
  subst hg
  exact Go.Lib.run_convert_bytes_const (P := Try.prog) W 22 5 C n c (by kernel_rfl) (by kernel_rfl)
theorem brow_lit {W : World} {g cap : Nat} {cs : Array Value} {t : TypeId} {fr : Nat × Nat} {l : List Nat} (h : W.heap[g]? = some (.cells cs t fr)) (hl : cs.toList = l.map bv) (hlt : ∀ x ∈ l, x < 256) (hlen : l.length ≤ 4096) : BRow W (some ⟨g, 0, none⟩) cap l where
  lt := hlt
  len := by omega
  nil e := by cases e
  at_ _ := ⟨g, 0, rfl, fun k hk => by
    rw [blk_at h (0 + k), Nat.zero_add, ← Array.getElem?_toList, hl, List.getElem?_map, List.getElem?_eq_getElem hk]; rfl⟩
theorem opsR_lit {W : World} {g : Nat} {cs : Array Value} {t : TypeId} {l : List Opv} (h : W.heap[g]? = some (.cells cs t (0, 0))) (hc : ∀ i (hi : i < l.length) j v, (l[i].cells)[j]? = some v → cs[i * 7 + j]? = some v) : OpsR W (some ⟨g, 0, none⟩) l :=
  ⟨fun _ => ⟨g, 0, rfl, fun i hi j v hv => by rw [blk_at h (0 + i * 7 + j), Nat.zero_add]; exact hc i hi j v hv⟩⟩
/-- the operations of an example, with their data -/
def exO (t1 f2 t2 : Int) (g0 g2 : Nat) : List Opv := [⟨2, 0, t1, 0, 1, some ⟨g0, 0, none⟩, 1, 1, false⟩, ⟨1, f2, t2, 0, 1, some ⟨g2, 0, none⟩, 1, 1, false⟩]
theorem exD {V : World} {g0 g2 g5 : Nat} {t1 f2 t2 : Int} {fr fr' : Nat × Nat} (h5 : V.heap[g5]? = some (.cells #[.int .i64 2, .int .i64 0, .int .i64 t1, .int .i64 0, .int .i64 1, .slice (some ⟨g0, 0, none⟩) 1 1, .bool false, .int .i64 1, .int .i64 f2, .int .i64 t2, .int .i64 0, .int .i64 1, .slice (some ⟨g2, 0, none⟩) 1 1, .bool false] 50 (0, 0))) (h0 : V.heap[g0]? = some (.cells #[.int .u8 97] 5 fr)) (h2 : V.heap[g2]? = some (.cells #[.int .u8 48] 5 fr')) : OpsD V (some ⟨g5, 0, none⟩) (exO t1 f2 t2 g0 g2) [[97], [48]] where
  ops := opsR_lit h5 fun i hi j v hv => by
    have hi2 : i < 2 := hi
    rcases (by omega : i = 0 ∨ i = 1) with rfl | rfl
    · rcases j with _ | _ | _ | _ | _ | _ | _ | j <;> first | exact hv | (simp [exO, Opv.cells] at hv)
    · rcases j with _ | _ | _ | _ | _ | _ | _ | j <;> first | exact hv | (simp [exO, Opv.cells] at hv)
  len := rfl
  row k p ds hp hd := by
    rcases k with _ | _ | k
    · cases hp; cases hd
      exact ⟨brow_lit h0 rfl (by decide) (by decide), rfl⟩
    · cases hp; cases hd
      exact ⟨brow_lit h2 rfl (by decide) (by decide), rfl⟩
    · simp [exO] at hp
theorem new_at (W : World) (o : Obj) (g : Nat) (hg : W.heap.size = g) : (W.alloc o).heap[g]? = some o := by subst hg; exact heap_new _ _
theorem old_at {W : World} {o o' : Obj} {g : Nat} (h : W.heap[g]? = some o) : (W.alloc o').heap[g]? = some o := ((World.grownBy_alloc W o' none).block g (block_lt h) (by simp)).trans h
set_option maxHeartbeats 16000000 in
/-- the examples come as the chapter says -/
theorem heads_any (w : World) : Calls Try.prog 16 #[] w fun e w' => e = .returned (.bool true) ∧ Below w.heap.size w w' := by
  have hcv := conv_const
  go_enter Try.func16, Try.ntmps16
  go_wp2_with fail
  refine Calls.mono (order_any (some ⟨w.heap.size + 1 + 1 + 1 + 1, 0, none⟩) (some ⟨w.heap.size + 1 + 1 + 1 + 1 + 1, 0, none⟩) 4 4 2 2 [48, 48, 48, 48] (exO 3 1 2 w.heap.size (w.heap.size + 1 + 1)) [[97], [48]] _ ?_ rfl ?_ rfl (by decide)) ?_
  · exact brow_lit (old_at (new_at _ _ _ (by simp [World.size_alloc]))) rfl (by decide) (by decide)
  · exact exD (new_at _ _ _ (by simp [World.size_alloc])) (old_at (old_at (old_at (old_at (old_at (heap_new _ _)))))) (old_at (old_at (old_at (new_at _ _ _ (by simp [World.size_alloc])))))
  rintro e W2 ⟨v, ok, en, rfl, ho, hb⟩
  obtain ⟨rfl, rfl, za, zc, rfl, hz⟩ := ex1_out ho
  have HZ : Hid (ZRow W2 za [1, 0]) := hz
  have HB2 : Hid (Below w.heap.size w W2 ∧ W2.heap[w.heap.size + 1]? = some (.cells #[.int .i64 2, .int .i64 0, .int .i64 3, .int .i64 0, .int .i64 1, .slice (some ⟨w.heap.size, 0, none⟩) 1 1, .bool false] 50 (0, 0)) ∧ W2.heap[w.heap.size + 1 + 1 + 1]? = some (.cells #[.int .i64 1, .int .i64 1, .int .i64 2, .int .i64 0, .int .i64 1, .slice (some ⟨w.heap.size + 1 + 1, 0, none⟩) 1 1, .bool false] 50 (0, 0)) ∧ (∃ fr, W2.heap[w.heap.size]? = some (.cells #[.int .u8 97] 5 fr)) ∧ ∃ fr, W2.heap[w.heap.size + 1 + 1]? = some (.cells #[.int .u8 48] 5 fr)) := by
    have keep : ∀ {g : Nat} {o : Obj} {X : World}, X.heap[g]? = some o → Below X.heap.size X W2 → W2.heap[g]? = some o := fun h1 h2 => (h2.block _ (block_lt h1)).trans h1
    refine ⟨?_, keep (old_at (old_at (old_at (old_at (new_at _ _ _ (by simp [World.size_alloc])))))) hb, keep (old_at (old_at (new_at _ _ _ (by simp [World.size_alloc])))) hb, ⟨_, keep (old_at (old_at (old_at (old_at (old_at (heap_new _ _)))))) hb⟩, ⟨_, keep (old_at (old_at (old_at (new_at _ _ _ (by simp [World.size_alloc]))))) hb⟩⟩
    refine Below.trans ?_ (hb.mono (by simp only [World.size_alloc]; omega))
    exact ((((((Below.refl w.heap.size w).alloc (by omega) _).alloc (by simp only [World.size_alloc]; omega) _).alloc (by simp only [World.size_alloc]; omega) _).alloc (by simp only [World.size_alloc]; omega) _).alloc (by simp only [World.size_alloc]; omega) _).alloc (by simp only [World.size_alloc]; omega) _
  have HI : Hid _ := sameInts_any za (some ⟨W2.heap.size, 0, none⟩) zc 2 2 [1, 0] (W2.alloc (.cells #[.int .i64 1, .int .i64 0] 3)) rfl (by decide) (hz.later ((Below.refl _ _).alloc (Nat.le_refl _) _)) ⟨fun _ => ⟨W2.heap.size, 0, rfl, fun k hk => by
    have hk2 : k < 2 := hk
    rcases (by omega : k = 0 ∨ k = 1) with rfl | rfl
    · exact blk_at (heap_new _ _) 0
    · exact blk_at (heap_new _ _) 1⟩⟩
  clear ho hb hz
  go_wp2_with fail
  refine Calls.mono HI.out ?_
  rintro e W3 ⟨rfl, q, hq⟩
  have HB3 : Hid (Below W2.heap.size W2 W3) := by
    subst hq
    exact ((Below.refl W2.heap.size W2).alloc (Nat.le_refl _) (.cells #[.int .i64 1, .int .i64 0] 3)).trans ⟨rfl, rfl, rfl, Nat.le_refl _, fun _ _ => rfl⟩
  clear hq HI
  have keep : ∀ {g : Nat} {o : Obj}, W2.heap[g]? = some o → W3.heap[g]? = some o := fun h1 => (HB3.out.block _ (block_lt h1)).trans h1
  have HK : Hid (W3.heap[w.heap.size + 1]? = some (.cells #[.int .i64 2, .int .i64 0, .int .i64 3, .int .i64 0, .int .i64 1, .slice (some ⟨w.heap.size, 0, none⟩) 1 1, .bool false] 50 (0, 0)) ∧ W3.heap[w.heap.size + 1 + 1 + 1]? = some (.cells #[.int .i64 1, .int .i64 1, .int .i64 2, .int .i64 0, .int .i64 1, .slice (some ⟨w.heap.size + 1 + 1, 0, none⟩) 1 1, .bool false] 50 (0, 0)) ∧ ((((W3.setCell ⟨w.heap.size + 1, 2, none⟩ (.int .i64 1)).setCell ⟨w.heap.size + 1 + 1 + 1, 1, none⟩ (.int .i64 2)).setCell ⟨w.heap.size + 1 + 1 + 1, 2, none⟩ (.int .i64 3)).alloc (.cells #[.int .u8 48, .int .u8 48, .int .u8 48, .int .u8 48] 5 (4, 5))).heap[w.heap.size + 1]? = some (.cells #[.int .i64 2, .int .i64 0, .int .i64 1, .int .i64 0, .int .i64 1, .slice (some ⟨w.heap.size, 0, none⟩) 1 1, .bool false] 50 (0, 0)) ∧ ((((W3.setCell ⟨w.heap.size + 1, 2, none⟩ (.int .i64 1)).setCell ⟨w.heap.size + 1 + 1 + 1, 1, none⟩ (.int .i64 2)).setCell ⟨w.heap.size + 1 + 1 + 1, 2, none⟩ (.int .i64 3)).alloc (.cells #[.int .u8 48, .int .u8 48, .int .u8 48, .int .u8 48] 5 (4, 5))).heap[w.heap.size + 1 + 1 + 1]? = some (.cells #[.int .i64 1, .int .i64 2, .int .i64 3, .int .i64 0, .int .i64 1, .slice (some ⟨w.heap.size + 1 + 1, 0, none⟩) 1 1, .bool false] 50 (0, 0))) := by
    have k1 := keep HB2.out.2.1
    have k3 := keep HB2.out.2.2.1
    have n13 : w.heap.size + 1 ≠ w.heap.size + 1 + 1 + 1 := by omega
    refine ⟨k1, k3, ?_, ?_⟩
    · refine old_at ?_
      rw [Below.heap_setCell _ _ _ _ n13, Below.heap_setCell _ _ _ _ n13]
      exact heap_setCell_same W3 _ 2 _ 50 _ k1
    · refine old_at ?_
      have k4 : (W3.setCell ⟨w.heap.size + 1, 2, none⟩ (.int .i64 1)).heap[w.heap.size + 1 + 1 + 1]? = some (.cells #[.int .i64 1, .int .i64 1, .int .i64 2, .int .i64 0, .int .i64 1, .slice (some ⟨w.heap.size + 1 + 1, 0, none⟩) 1 1, .bool false] 50 (0, 0)) := by
        rw [Below.heap_setCell _ _ _ _ n13.symm]; exact k3
      exact heap_setCell_same _ _ 2 _ 50 _ (heap_setCell_same _ _ 1 _ 50 _ k4)
  have a0 : ((((W3.setCell ⟨w.heap.size + 1, 2, none⟩ (.int .i64 1)).setCell ⟨w.heap.size + 1 + 1 + 1, 1, none⟩ (.int .i64 2)).setCell ⟨w.heap.size + 1 + 1 + 1, 2, none⟩ (.int .i64 3)).alloc (.cells #[.int .u8 48, .int .u8 48, .int .u8 48, .int .u8 48] 5 (4, 5))).cell? ⟨w.heap.size + 1, 0, none⟩ = some (.int .i64 2) := blk_at HK.out.2.2.1 0
  have a1 : ((((W3.setCell ⟨w.heap.size + 1, 2, none⟩ (.int .i64 1)).setCell ⟨w.heap.size + 1 + 1 + 1, 1, none⟩ (.int .i64 2)).setCell ⟨w.heap.size + 1 + 1 + 1, 2, none⟩ (.int .i64 3)).alloc (.cells #[.int .u8 48, .int .u8 48, .int .u8 48, .int .u8 48] 5 (4, 5))).cell? ⟨w.heap.size + 1, 1, none⟩ = some (.int .i64 0) := blk_at HK.out.2.2.1 1
  have a2 : ((((W3.setCell ⟨w.heap.size + 1, 2, none⟩ (.int .i64 1)).setCell ⟨w.heap.size + 1 + 1 + 1, 1, none⟩ (.int .i64 2)).setCell ⟨w.heap.size + 1 + 1 + 1, 2, none⟩ (.int .i64 3)).alloc (.cells #[.int .u8 48, .int .u8 48, .int .u8 48, .int .u8 48] 5 (4, 5))).cell? ⟨w.heap.size + 1, 2, none⟩ = some (.int .i64 1) := blk_at HK.out.2.2.1 2
  have a3 : ((((W3.setCell ⟨w.heap.size + 1, 2, none⟩ (.int .i64 1)).setCell ⟨w.heap.size + 1 + 1 + 1, 1, none⟩ (.int .i64 2)).setCell ⟨w.heap.size + 1 + 1 + 1, 2, none⟩ (.int .i64 3)).alloc (.cells #[.int .u8 48, .int .u8 48, .int .u8 48, .int .u8 48] 5 (4, 5))).cell? ⟨w.heap.size + 1, 3, none⟩ = some (.int .i64 0) := blk_at HK.out.2.2.1 3
  have a4 : ((((W3.setCell ⟨w.heap.size + 1, 2, none⟩ (.int .i64 1)).setCell ⟨w.heap.size + 1 + 1 + 1, 1, none⟩ (.int .i64 2)).setCell ⟨w.heap.size + 1 + 1 + 1, 2, none⟩ (.int .i64 3)).alloc (.cells #[.int .u8 48, .int .u8 48, .int .u8 48, .int .u8 48] 5 (4, 5))).cell? ⟨w.heap.size + 1, 4, none⟩ = some (.int .i64 1) := blk_at HK.out.2.2.1 4
  have a5 : ((((W3.setCell ⟨w.heap.size + 1, 2, none⟩ (.int .i64 1)).setCell ⟨w.heap.size + 1 + 1 + 1, 1, none⟩ (.int .i64 2)).setCell ⟨w.heap.size + 1 + 1 + 1, 2, none⟩ (.int .i64 3)).alloc (.cells #[.int .u8 48, .int .u8 48, .int .u8 48, .int .u8 48] 5 (4, 5))).cell? ⟨w.heap.size + 1, 5, none⟩ = some (.slice (some ⟨w.heap.size, 0, none⟩) 1 1) := blk_at HK.out.2.2.1 5
  have a6 : ((((W3.setCell ⟨w.heap.size + 1, 2, none⟩ (.int .i64 1)).setCell ⟨w.heap.size + 1 + 1 + 1, 1, none⟩ (.int .i64 2)).setCell ⟨w.heap.size + 1 + 1 + 1, 2, none⟩ (.int .i64 3)).alloc (.cells #[.int .u8 48, .int .u8 48, .int .u8 48, .int .u8 48] 5 (4, 5))).cell? ⟨w.heap.size + 1, 6, none⟩ = some (.bool false) := blk_at HK.out.2.2.1 6
  have b0 : ((((W3.setCell ⟨w.heap.size + 1, 2, none⟩ (.int .i64 1)).setCell ⟨w.heap.size + 1 + 1 + 1, 1, none⟩ (.int .i64 2)).setCell ⟨w.heap.size + 1 + 1 + 1, 2, none⟩ (.int .i64 3)).alloc (.cells #[.int .u8 48, .int .u8 48, .int .u8 48, .int .u8 48] 5 (4, 5))).cell? ⟨w.heap.size + 1 + 1 + 1, 0, none⟩ = some (.int .i64 1) := blk_at HK.out.2.2.2 0
  have b1 : ((((W3.setCell ⟨w.heap.size + 1, 2, none⟩ (.int .i64 1)).setCell ⟨w.heap.size + 1 + 1 + 1, 1, none⟩ (.int .i64 2)).setCell ⟨w.heap.size + 1 + 1 + 1, 2, none⟩ (.int .i64 3)).alloc (.cells #[.int .u8 48, .int .u8 48, .int .u8 48, .int .u8 48] 5 (4, 5))).cell? ⟨w.heap.size + 1 + 1 + 1, 1, none⟩ = some (.int .i64 2) := blk_at HK.out.2.2.2 1
  have b2 : ((((W3.setCell ⟨w.heap.size + 1, 2, none⟩ (.int .i64 1)).setCell ⟨w.heap.size + 1 + 1 + 1, 1, none⟩ (.int .i64 2)).setCell ⟨w.heap.size + 1 + 1 + 1, 2, none⟩ (.int .i64 3)).alloc (.cells #[.int .u8 48, .int .u8 48, .int .u8 48, .int .u8 48] 5 (4, 5))).cell? ⟨w.heap.size + 1 + 1 + 1, 2, none⟩ = some (.int .i64 3) := blk_at HK.out.2.2.2 2
  have b3 : ((((W3.setCell ⟨w.heap.size + 1, 2, none⟩ (.int .i64 1)).setCell ⟨w.heap.size + 1 + 1 + 1, 1, none⟩ (.int .i64 2)).setCell ⟨w.heap.size + 1 + 1 + 1, 2, none⟩ (.int .i64 3)).alloc (.cells #[.int .u8 48, .int .u8 48, .int .u8 48, .int .u8 48] 5 (4, 5))).cell? ⟨w.heap.size + 1 + 1 + 1, 3, none⟩ = some (.int .i64 0) := blk_at HK.out.2.2.2 3
  have b4 : ((((W3.setCell ⟨w.heap.size + 1, 2, none⟩ (.int .i64 1)).setCell ⟨w.heap.size + 1 + 1 + 1, 1, none⟩ (.int .i64 2)).setCell ⟨w.heap.size + 1 + 1 + 1, 2, none⟩ (.int .i64 3)).alloc (.cells #[.int .u8 48, .int .u8 48, .int .u8 48, .int .u8 48] 5 (4, 5))).cell? ⟨w.heap.size + 1 + 1 + 1, 4, none⟩ = some (.int .i64 1) := blk_at HK.out.2.2.2 4
  have b5 : ((((W3.setCell ⟨w.heap.size + 1, 2, none⟩ (.int .i64 1)).setCell ⟨w.heap.size + 1 + 1 + 1, 1, none⟩ (.int .i64 2)).setCell ⟨w.heap.size + 1 + 1 + 1, 2, none⟩ (.int .i64 3)).alloc (.cells #[.int .u8 48, .int .u8 48, .int .u8 48, .int .u8 48] 5 (4, 5))).cell? ⟨w.heap.size + 1 + 1 + 1, 5, none⟩ = some (.slice (some ⟨w.heap.size + 1 + 1, 0, none⟩) 1 1) := blk_at HK.out.2.2.2 5
  have b6 : ((((W3.setCell ⟨w.heap.size + 1, 2, none⟩ (.int .i64 1)).setCell ⟨w.heap.size + 1 + 1 + 1, 1, none⟩ (.int .i64 2)).setCell ⟨w.heap.size + 1 + 1 + 1, 2, none⟩ (.int .i64 3)).alloc (.cells #[.int .u8 48, .int .u8 48, .int .u8 48, .int .u8 48] 5 (4, 5))).cell? ⟨w.heap.size + 1 + 1 + 1, 6, none⟩ = some (.bool false) := blk_at HK.out.2.2.2 6

  have p0 : W3.cell? ⟨w.heap.size + 1, 0, none⟩ = some (.int .i64 2) := blk_at HK.out.1 0
  have p1 : W3.cell? ⟨w.heap.size + 1, 1, none⟩ = some (.int .i64 0) := blk_at HK.out.1 1
  have p2 : W3.cell? ⟨w.heap.size + 1, 2, none⟩ = some (.int .i64 3) := blk_at HK.out.1 2
  have p3 : W3.cell? ⟨w.heap.size + 1, 3, none⟩ = some (.int .i64 0) := blk_at HK.out.1 3
  have p4 : W3.cell? ⟨w.heap.size + 1, 4, none⟩ = some (.int .i64 1) := blk_at HK.out.1 4
  have p5 : W3.cell? ⟨w.heap.size + 1, 5, none⟩ = some (.slice (some ⟨w.heap.size, 0, none⟩) 1 1) := blk_at HK.out.1 5
  have p6 : W3.cell? ⟨w.heap.size + 1, 6, none⟩ = some (.bool false) := blk_at HK.out.1 6
  have q0 : W3.cell? ⟨w.heap.size + 1 + 1 + 1, 0, none⟩ = some (.int .i64 1) := blk_at HK.out.2.1 0
  have q1 : W3.cell? ⟨w.heap.size + 1 + 1 + 1, 1, none⟩ = some (.int .i64 1) := blk_at HK.out.2.1 1
  have q2 : W3.cell? ⟨w.heap.size + 1 + 1 + 1, 2, none⟩ = some (.int .i64 2) := blk_at HK.out.2.1 2
  have q3 : W3.cell? ⟨w.heap.size + 1 + 1 + 1, 3, none⟩ = some (.int .i64 0) := blk_at HK.out.2.1 3
  have q4 : W3.cell? ⟨w.heap.size + 1 + 1 + 1, 4, none⟩ = some (.int .i64 1) := blk_at HK.out.2.1 4
  have q5 : W3.cell? ⟨w.heap.size + 1 + 1 + 1, 5, none⟩ = some (.slice (some ⟨w.heap.size + 1 + 1, 0, none⟩) 1 1) := blk_at HK.out.2.1 5
  have q6 : W3.cell? ⟨w.heap.size + 1 + 1 + 1, 6, none⟩ = some (.bool false) := blk_at HK.out.2.1 6
  have s1f : W3.frozen? ⟨w.heap.size + 1, 2, none⟩ = false := blk_free HK.out.1 2
  have s2f : W3.frozen? ⟨w.heap.size + 1 + 1 + 1, 1, none⟩ = false := blk_free HK.out.2.1 1
  have s3f : W3.frozen? ⟨w.heap.size + 1 + 1 + 1, 2, none⟩ = false := blk_free HK.out.2.1 2
  have HD0 : Hid ((∃ fr, (((W3.setCell ⟨w.heap.size + 1, 2, none⟩ (.int .i64 1)).setCell ⟨w.heap.size + 1 + 1 + 1, 1, none⟩ (.int .i64 2)).setCell ⟨w.heap.size + 1 + 1 + 1, 2, none⟩ (.int .i64 3)).heap[w.heap.size]? = some (.cells #[.int .u8 97] 5 fr)) ∧ (∃ fr, (((W3.setCell ⟨w.heap.size + 1, 2, none⟩ (.int .i64 1)).setCell ⟨w.heap.size + 1 + 1 + 1, 1, none⟩ (.int .i64 2)).setCell ⟨w.heap.size + 1 + 1 + 1, 2, none⟩ (.int .i64 3)).heap[w.heap.size + 1 + 1]? = some (.cells #[.int .u8 48] 5 fr)) ∧ Below w.heap.size w (((W3.setCell ⟨w.heap.size + 1, 2, none⟩ (.int .i64 1)).setCell ⟨w.heap.size + 1 + 1 + 1, 1, none⟩ (.int .i64 2)).setCell ⟨w.heap.size + 1 + 1 + 1, 2, none⟩ (.int .i64 3))) := by
    obtain ⟨fr, h0⟩ := HB2.out.2.2.2.1
    obtain ⟨fr', h2⟩ := HB2.out.2.2.2.2
    refine ⟨⟨fr, ?_⟩, ⟨fr', ?_⟩, ?_⟩
    · rw [Below.heap_setCell _ _ _ _ (by show w.heap.size ≠ w.heap.size + 1 + 1 + 1; omega), Below.heap_setCell _ _ _ _ (by show w.heap.size ≠ w.heap.size + 1 + 1 + 1; omega), Below.heap_setCell _ _ _ _ (by show w.heap.size ≠ w.heap.size + 1; omega)]
      exact keep h0
    · rw [Below.heap_setCell _ _ _ _ (by show w.heap.size + 1 + 1 ≠ w.heap.size + 1 + 1 + 1; omega), Below.heap_setCell _ _ _ _ (by show w.heap.size + 1 + 1 ≠ w.heap.size + 1 + 1 + 1; omega), Below.heap_setCell _ _ _ _ (by show w.heap.size + 1 + 1 ≠ w.heap.size + 1; omega)]
      exact keep h2
    · exact (((HB2.out.1.trans (HB3.out.mono HB2.out.1.size)).setCell (p := ⟨w.heap.size + 1, 2, none⟩) (by show w.heap.size ≤ w.heap.size + 1; omega) _).setCell (p := ⟨w.heap.size + 1 + 1 + 1, 1, none⟩) (by show w.heap.size ≤ w.heap.size + 1 + 1 + 1; omega) _).setCell (p := ⟨w.heap.size + 1 + 1 + 1, 2, none⟩) (by show w.heap.size ≤ w.heap.size + 1 + 1 + 1; omega) _
  clear keep
  go_wp2_with fail
  clear p0 p1 p2 p3 p4 p5 p6 q0 q1 q2 q3 q4 q5 q6 s1f s2f s3f a0 a1 a2 a3 a4 a5 a6 b0 b1 b2 b3 b4 b5 b6
  obtain ⟨⟨fr, k0⟩, ⟨fr', k2⟩, hb0⟩ := HD0.out
  refine Calls.mono (order_any (some ⟨W3.heap.size, 0, none⟩) (some ⟨W3.heap.size + 1, 0, none⟩) 4 4 2 2 [48, 48, 48, 48] (exO 1 2 3 w.heap.size (w.heap.size + 1 + 1)) [[97], [48]] _ ?_ rfl ?_ rfl (by decide)) ?_
  · exact brow_lit (old_at (new_at _ _ _ (by simp only [World.size_setCell]))) rfl (by decide) (by decide)
  · exact exD (new_at _ _ _ (by simp only [World.size_alloc, World.size_setCell])) (old_at (old_at k0)) (old_at (old_at k2))
  rintro e W4 ⟨v, ok, en, rfl, ho, hb⟩
  obtain ⟨rfl, rfl, rfl⟩ := ex2_out ho
  have HB4 : Hid (Below w.heap.size w W4) := by
    refine Below.trans (Below.trans hb0 ?_) (hb.mono (by simp only [World.size_alloc, World.size_setCell]; have := HB3.out.size; have := HB2.out.1.size; omega))
    refine (Below.alloc (Below.alloc (Below.refl _ _) ?_ _) ?_ _)
    · simp only [World.size_setCell]; have := HB3.out.size; have := HB2.out.1.size; omega
    · simp only [World.size_alloc, World.size_setCell]; have := HB3.out.size; have := HB2.out.1.size; omega
  clear ho hb hb0 k0 k2
  go_wp2_with fail
  go_ret
  exact ⟨rfl, HB4.out⟩
end Go.Proofs.Ytjkoambfecmglaa
