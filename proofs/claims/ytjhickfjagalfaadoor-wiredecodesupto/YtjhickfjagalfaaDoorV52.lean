import Derived.Test.YtjhickfjagalfaaDoorV22
import Derived.Test.YtjhickfjagalfaaDoorV30
import Derived.Test.YtjhickfjagalfaaDoorV49
import Derived.Test.YtjhickfjagalfaaDoorV41
import Derived.Test.YtjhickfjagalfaaDoorV51
namespace Go.Proofs.YtjhickfjagalfaaDoor
open Go.RowKit
set_option linter.unusedVariables false
set_option linter.unusedSimpArgs false
set_option maxRecDepth 100000
set_option maxHeartbeats 64000000 in
theorem wireDecodes_any (ao : Option Addr) (cap : Nat) (l : List Nat) (most : Nat) (z : Bool) (w : World) (hT : Tb w) (h : CRow w ao cap l) (hn : l.length ≤ 1048576) (hm4 : most < 4294967296) :
    Calls Tryd.prog 7 #[.slice ao l.length cap, .int .u32 (most : Int), .bool z] w fun e w' => e = .returned (.bool true) ∧ Below w.heap.size w w' := by
  have HTb : Hid (Tb w) := hT
  have HNum : Hid (∀ (e : Int) (w : World), Calls Tryd.prog 27 #[.int .i64 e] w fun r w' => r = .returned (.int .i64 e) ∧ w' = w) := num_any
  have HR : Hid (CRow w ao cap l ∧ l.length ≤ 1048576) := ⟨h, hn⟩
  clear hT h hn
  go_enter Tryd.func7, Tryd.ntmps7
  go_wp2_with fail
  refine (twin_any ao cap l.length l w HR.out.1.row rfl (by have := HR.out.2; omega)).mono ?_
  rintro e Wt ⟨rfl, hblk, hb⟩
  obtain ⟨g, hg⟩ : ∃ g, g = w.heap.size := ⟨_, rfl⟩
  rw [← hg] at hblk ⊢
  have HT : Hid (Tw w Wt g ao cap l) := ⟨hb, HR.out.1, hblk, HR.out.2⟩
  clear hblk hb hg
  go_wp2_with fail
  refine (decGreetingA (some ⟨g, 0, none⟩) (l.length + 4) l _ HT.out.c1).mono ?_
  rintro e W1a ⟨f1a, n1a, r1a, rfl, hD1a, hb⟩
  have HD1a : Hid _ := hD1a
  replace HT : Hid _ := HT.out.next hb
  clear hb hD1a
  have HP1a : Hid ((W1a.alloc (.cells #[.int .u16 (f1a : Int)] 31)).heap[W1a.heap.size]? = some (.cells #[.int .u16 (f1a : Int)] 31 (0, 0))) := heap_new W1a _
  replace HT : Hid (Tw w (W1a.alloc (.cells #[.int .u16 (f1a : Int)] 31)) g ao cap l) := HT.out.alloc _
  go_wp2_with fail
  refine (rdecGreetingA ao cap l _ HT.out.c0).mono ?_
  rintro e W1b ⟨f1b, n1b, r1b, rfl, hD1b, hb⟩
  have hE : f1b = f1a ∧ n1b = n1a ∧ r1b = r1a := by have h1 := HD1a.out; rw [hD1b] at h1; simpa only [Prod.mk.injEq, and_assoc] using h1
  obtain ⟨rfl, rfl, rfl⟩ := hE
  replace HT : Hid _ := HT.out.next hb
  replace HP1a : Hid (W1b.heap[W1a.heap.size]? = some (.cells #[.int .u16 (f1b : Int)] 31 (0, 0))) := (hb.block _ (block_lt HP1a.out)).trans HP1a.out
  clear hb hD1b HD1a
  have hal : Below W1b.heap.size W1b (W1b.alloc (.cells #[.int .u16 (f1b : Int)] 31)) := (Below.refl _ _).alloc (Nat.le_refl _) _
  have HP1b : Hid ((W1b.alloc (.cells #[.int .u16 (f1b : Int)] 31)).heap[W1b.heap.size]? = some (.cells #[.int .u16 (f1b : Int)] 31 (0, 0))) := heap_new W1b _
  replace HP1a : Hid ((W1b.alloc (.cells #[.int .u16 (f1b : Int)] 31)).heap[W1a.heap.size]? = some _) := (hal.block _ (block_lt HP1a.out)).trans HP1a.out
  replace HT : Hid (Tw w (W1b.alloc (.cells #[.int .u16 (f1b : Int)] 31)) g ao cap l) := HT.out.next hal
  clear hal
  have x0 := blk_at HP1a.out 0
  have y0 := blk_at HP1b.out 0
  simp at x0 y0
  go_wp2_with fail
  refine (HNum.out _ _).mono ?_
  rintro e wn ⟨rfl, hw⟩
  rw [hw]; clear hw wn
  clear HP1a HP1b x0 y0
  go_wp2_with fail
  refine (decFlagsA (some ⟨g, 0, none⟩) (l.length + 4) l _ HT.out.c1).mono ?_
  rintro e W2a ⟨f2a, n2a, r2a, rfl, hD2a, hb⟩
  have HD2a : Hid _ := hD2a
  replace HT : Hid _ := HT.out.next hb
  clear hb hD2a
  go_wp2_with fail
  refine (rdecFlagsA ao cap l _ HT.out.c0).mono ?_
  rintro e W2b ⟨f2b, n2b, r2b, rfl, hD2b, hb⟩
  have hE : f2b = f2a ∧ n2b = n2a ∧ r2b = r2a := by have h1 := HD2a.out; rw [hD2b] at h1; simpa only [Prod.mk.injEq, and_assoc] using h1
  obtain ⟨rfl, rfl, rfl⟩ := hE
  replace HT : Hid _ := HT.out.next hb
  clear hb hD2b HD2a
  go_wp2_with fail
  refine (HNum.out _ _).mono ?_
  rintro e wn ⟨rfl, hw⟩
  rw [hw]; clear hw wn
  go_wp2_with fail
  refine (decExportA (some ⟨g, 0, none⟩) (l.length + 4) l z _ HT.out.c1).mono ?_
  rintro e W3a ⟨s3a, f3a, n3a, r3a, rfl, hD3a, hb⟩
  have HD3a : Hid _ := hD3a
  replace HT : Hid _ := HT.out.next hb
  clear hb hD3a
  have HP3a : Hid ((W3a.alloc (.cells #[.int .u64 (s3a : Int), .int .u16 (f3a : Int)] 34)).heap[W3a.heap.size]? = some (.cells #[.int .u64 (s3a : Int), .int .u16 (f3a : Int)] 34 (0, 0))) := heap_new W3a _
  replace HT : Hid (Tw w (W3a.alloc (.cells #[.int .u64 (s3a : Int), .int .u16 (f3a : Int)] 34)) g ao cap l) := HT.out.alloc _
  go_wp2_with fail
  refine (rdecExportA ao cap l z _ HT.out.c0).mono ?_
  rintro e W3b ⟨s3b, f3b, n3b, r3b, rfl, hD3b, hb⟩
  have hE : (s3b = s3a ∧ f3b = f3a) ∧ n3b = n3a ∧ r3b = r3a := by have h1 := HD3a.out; rw [hD3b] at h1; simpa only [Prod.mk.injEq, and_assoc] using h1
  obtain ⟨⟨rfl, rfl⟩, rfl, rfl⟩ := hE
  replace HT : Hid _ := HT.out.next hb
  replace HP3a : Hid (W3b.heap[W3a.heap.size]? = some (.cells #[.int .u64 (s3b : Int), .int .u16 (f3b : Int)] 34 (0, 0))) := (hb.block _ (block_lt HP3a.out)).trans HP3a.out
  clear hb hD3b HD3a
  have hal : Below W3b.heap.size W3b (W3b.alloc (.cells #[.int .u64 (s3b : Int), .int .u16 (f3b : Int)] 34)) := (Below.refl _ _).alloc (Nat.le_refl _) _
  have HP3b : Hid ((W3b.alloc (.cells #[.int .u64 (s3b : Int), .int .u16 (f3b : Int)] 34)).heap[W3b.heap.size]? = some (.cells #[.int .u64 (s3b : Int), .int .u16 (f3b : Int)] 34 (0, 0))) := heap_new W3b _
  replace HP3a : Hid ((W3b.alloc (.cells #[.int .u64 (s3b : Int), .int .u16 (f3b : Int)] 34)).heap[W3a.heap.size]? = some _) := (hal.block _ (block_lt HP3a.out)).trans HP3a.out
  replace HT : Hid (Tw w (W3b.alloc (.cells #[.int .u64 (s3b : Int), .int .u16 (f3b : Int)] 34)) g ao cap l) := HT.out.next hal
  clear hal
  have x0 := blk_at HP3a.out 0
  have y0 := blk_at HP3b.out 0
  have x1 := blk_at HP3a.out 1
  have y1 := blk_at HP3b.out 1
  simp at x0 y0 x1 y1
  go_wp2_with fail
  refine (HNum.out _ _).mono ?_
  rintro e wn ⟨rfl, hw⟩
  rw [hw]; clear hw wn
  clear HP3a HP3b x0 y0 x1 y1
  go_wp2_with fail
  refine (decSimpleA (some ⟨g, 0, none⟩) (l.length + 4) l _ HT.out.c1).mono ?_
  rintro e W4a ⟨c4a, k4a, n4a, r4a, rfl, hD4a, hb⟩
  have HD4a : Hid _ := hD4a
  replace HT : Hid _ := HT.out.next hb
  clear hb hD4a
  have HP4a : Hid ((W4a.alloc (.cells #[.int .u32 (c4a : Int), .int .u64 (k4a : Int)] 36)).heap[W4a.heap.size]? = some (.cells #[.int .u32 (c4a : Int), .int .u64 (k4a : Int)] 36 (0, 0))) := heap_new W4a _
  replace HT : Hid (Tw w (W4a.alloc (.cells #[.int .u32 (c4a : Int), .int .u64 (k4a : Int)] 36)) g ao cap l) := HT.out.alloc _
  go_wp2_with fail
  refine (rdecSimpleA ao cap l _ HT.out.c0).mono ?_
  rintro e W4b ⟨c4b, k4b, n4b, r4b, rfl, hD4b, hb⟩
  have hE : (c4b = c4a ∧ k4b = k4a) ∧ n4b = n4a ∧ r4b = r4a := by have h1 := HD4a.out; rw [hD4b] at h1; simpa only [Prod.mk.injEq, and_assoc] using h1
  obtain ⟨⟨rfl, rfl⟩, rfl, rfl⟩ := hE
  replace HT : Hid _ := HT.out.next hb
  replace HP4a : Hid (W4b.heap[W4a.heap.size]? = some (.cells #[.int .u32 (c4b : Int), .int .u64 (k4b : Int)] 36 (0, 0))) := (hb.block _ (block_lt HP4a.out)).trans HP4a.out
  clear hb hD4b HD4a
  have hal : Below W4b.heap.size W4b (W4b.alloc (.cells #[.int .u32 (c4b : Int), .int .u64 (k4b : Int)] 36)) := (Below.refl _ _).alloc (Nat.le_refl _) _
  have HP4b : Hid ((W4b.alloc (.cells #[.int .u32 (c4b : Int), .int .u64 (k4b : Int)] 36)).heap[W4b.heap.size]? = some (.cells #[.int .u32 (c4b : Int), .int .u64 (k4b : Int)] 36 (0, 0))) := heap_new W4b _
  replace HP4a : Hid ((W4b.alloc (.cells #[.int .u32 (c4b : Int), .int .u64 (k4b : Int)] 36)).heap[W4a.heap.size]? = some _) := (hal.block _ (block_lt HP4a.out)).trans HP4a.out
  replace HT : Hid (Tw w (W4b.alloc (.cells #[.int .u32 (c4b : Int), .int .u64 (k4b : Int)] 36)) g ao cap l) := HT.out.next hal
  clear hal
  have x0 := blk_at HP4a.out 0
  have y0 := blk_at HP4b.out 0
  have x1 := blk_at HP4a.out 1
  have y1 := blk_at HP4b.out 1
  simp at x0 y0 x1 y1
  go_wp2_with fail
  refine (HNum.out _ _).mono ?_
  rintro e wn ⟨rfl, hw⟩
  rw [hw]; clear hw wn
  clear HP4a HP4b x0 y0 x1 y1
  go_wp2_with fail
  refine (decOptionA (some ⟨g, 0, none⟩) (l.length + 4) l most _ HT.out.c1 hm4).mono ?_
  rintro e W5a ⟨c5a, k5a, lg5a, d5a, n5a, r5a, ao5a, cap5a, rfl, hD5a, hb⟩
  have HRo5a : Hid _ := hb
  replace hb := HRo5a.out.bel
  have HD5a : Hid _ := hD5a
  replace HT : Hid _ := HT.out.next hb
  clear hb hD5a
  have HP5a : Hid ((W5a.alloc (.cells #[.int .u32 (c5a : Int), .int .u32 (k5a : Int), .bool lg5a, .slice ao5a d5a.length cap5a] 55)).heap[W5a.heap.size]? = some (.cells #[.int .u32 (c5a : Int), .int .u32 (k5a : Int), .bool lg5a, .slice ao5a d5a.length cap5a] 55 (0, 0))) := heap_new W5a _
  replace HT : Hid (Tw w (W5a.alloc (.cells #[.int .u32 (c5a : Int), .int .u32 (k5a : Int), .bool lg5a, .slice ao5a d5a.length cap5a] 55)) g ao cap l) := HT.out.alloc _
  have HL5a : Hid (d5a.length ≤ 140737488351232) := by have h1 := optD_len most l; rw [HD5a.out] at h1; have h2 := HT.out.len; show d5a.length ≤ _; simp only at h1; omega
  have HB5a : Hid (BRow (W5a.alloc (.cells #[.int .u32 (c5a : Int), .int .u32 (k5a : Int), .bool lg5a, .slice ao5a d5a.length cap5a] 55)) ao5a cap5a d5a) := (HRo5a.out.brow HL5a.out).later ((Below.refl _ _).alloc (Nat.le_refl _) _)
  clear HRo5a
  go_wp2_with fail
  refine (rdecOptionA ao cap l most _ HT.out.c0 hm4).mono ?_
  rintro e W5b ⟨c5b, k5b, lg5b, d5b, n5b, r5b, ao5b, cap5b, rfl, hD5b, hb⟩
  have HRo5b : Hid _ := hb
  replace hb := HRo5b.out.bel
  have hE : (c5b = c5a ∧ k5b = k5a ∧ lg5b = lg5a ∧ d5b = d5a) ∧ n5b = n5a ∧ r5b = r5a := by have h1 := HD5a.out; rw [hD5b] at h1; simpa only [Prod.mk.injEq, and_assoc] using h1
  obtain ⟨⟨rfl, rfl, rfl, rfl⟩, rfl, rfl⟩ := hE
  replace HT : Hid _ := HT.out.next hb
  replace HP5a : Hid (W5b.heap[W5a.heap.size]? = some (.cells #[.int .u32 (c5b : Int), .int .u32 (k5b : Int), .bool lg5b, .slice ao5a d5b.length cap5a] 55 (0, 0))) := (hb.block _ (block_lt HP5a.out)).trans HP5a.out
  replace HB5a : Hid (BRow W5b ao5a cap5a d5b) := HB5a.out.later hb
  have HB5b : Hid (BRow W5b ao5b cap5b d5b) := HRo5b.out.brow HL5a.out
  clear HRo5b HL5a
  clear hb hD5b HD5a
  have hal : Below W5b.heap.size W5b (W5b.alloc (.cells #[.int .u32 (c5b : Int), .int .u32 (k5b : Int), .bool lg5b, .slice ao5b d5b.length cap5b] 55)) := (Below.refl _ _).alloc (Nat.le_refl _) _
  have HP5b : Hid ((W5b.alloc (.cells #[.int .u32 (c5b : Int), .int .u32 (k5b : Int), .bool lg5b, .slice ao5b d5b.length cap5b] 55)).heap[W5b.heap.size]? = some (.cells #[.int .u32 (c5b : Int), .int .u32 (k5b : Int), .bool lg5b, .slice ao5b d5b.length cap5b] 55 (0, 0))) := heap_new W5b _
  replace HP5a : Hid ((W5b.alloc (.cells #[.int .u32 (c5b : Int), .int .u32 (k5b : Int), .bool lg5b, .slice ao5b d5b.length cap5b] 55)).heap[W5a.heap.size]? = some _) := (hal.block _ (block_lt HP5a.out)).trans HP5a.out
  replace HT : Hid (Tw w (W5b.alloc (.cells #[.int .u32 (c5b : Int), .int .u32 (k5b : Int), .bool lg5b, .slice ao5b d5b.length cap5b] 55)) g ao cap l) := HT.out.next hal
  replace HB5a : Hid (BRow (W5b.alloc (.cells #[.int .u32 (c5b : Int), .int .u32 (k5b : Int), .bool lg5b, .slice ao5b d5b.length cap5b] 55)) ao5a cap5a d5b) := HB5a.out.later hal
  replace HB5b : Hid (BRow (W5b.alloc (.cells #[.int .u32 (c5b : Int), .int .u32 (k5b : Int), .bool lg5b, .slice ao5b d5b.length cap5b] 55)) ao5b cap5b d5b) := HB5b.out.later hal
  clear hal
  have x0 := blk_at HP5a.out 0
  have y0 := blk_at HP5b.out 0
  have x1 := blk_at HP5a.out 1
  have y1 := blk_at HP5b.out 1
  have x2 := blk_at HP5a.out 2
  have y2 := blk_at HP5b.out 2
  have x3 := blk_at HP5a.out 3
  have y3 := blk_at HP5b.out 3
  simp at x0 y0 x1 y1 x2 y2 x3 y3
  go_wp2_with fail
  refine (sameOpt c5b k5b lg5b ao5a ao5b cap5a cap5b d5b.length d5b _ HB5a.out HB5b.out rfl).mono ?_
  rintro e W5c ⟨rfl, hb⟩
  replace HT : Hid _ := HT.out.next hb
  clear hb HB5a HB5b
  go_wp2_with fail
  refine (HNum.out _ _).mono ?_
  rintro e wn ⟨rfl, hw⟩
  rw [hw]; clear hw wn
  clear HP5a HP5b x0 y0 x1 y1 x2 y2 x3 y3
  go_wp2_with fail
  refine (decReplyA (some ⟨g, 0, none⟩) (l.length + 4) l most _ HT.out.c1 hm4).mono ?_
  rintro e W6a ⟨c6a, k6a, d6a, n6a, r6a, ao6a, cap6a, rfl, hD6a, hb⟩
  have HRo6a : Hid _ := hb
  replace hb := HRo6a.out.bel
  have HD6a : Hid _ := hD6a
  replace HT : Hid _ := HT.out.next hb
  clear hb hD6a
  have HP6a : Hid ((W6a.alloc (.cells #[.int .u32 (c6a : Int), .int .u32 (k6a : Int), .slice ao6a d6a.length cap6a] 57)).heap[W6a.heap.size]? = some (.cells #[.int .u32 (c6a : Int), .int .u32 (k6a : Int), .slice ao6a d6a.length cap6a] 57 (0, 0))) := heap_new W6a _
  replace HT : Hid (Tw w (W6a.alloc (.cells #[.int .u32 (c6a : Int), .int .u32 (k6a : Int), .slice ao6a d6a.length cap6a] 57)) g ao cap l) := HT.out.alloc _
  have HL6a : Hid (d6a.length ≤ 140737488351232) := by have h1 := repD_len most l; rw [HD6a.out] at h1; have h2 := HT.out.len; show d6a.length ≤ _; simp only at h1; omega
  have HB6a : Hid (BRow (W6a.alloc (.cells #[.int .u32 (c6a : Int), .int .u32 (k6a : Int), .slice ao6a d6a.length cap6a] 57)) ao6a cap6a d6a) := (HRo6a.out.brow HL6a.out).later ((Below.refl _ _).alloc (Nat.le_refl _) _)
  clear HRo6a
  go_wp2_with fail
  refine (rdecReplyA ao cap l most _ HT.out.c0 hm4).mono ?_
  rintro e W6b ⟨c6b, k6b, d6b, n6b, r6b, ao6b, cap6b, rfl, hD6b, hb⟩
  have HRo6b : Hid _ := hb
  replace hb := HRo6b.out.bel
  have hE : (c6b = c6a ∧ k6b = k6a ∧ d6b = d6a) ∧ n6b = n6a ∧ r6b = r6a := by have h1 := HD6a.out; rw [hD6b] at h1; simpa only [Prod.mk.injEq, and_assoc] using h1
  obtain ⟨⟨rfl, rfl, rfl⟩, rfl, rfl⟩ := hE
  replace HT : Hid _ := HT.out.next hb
  replace HP6a : Hid (W6b.heap[W6a.heap.size]? = some (.cells #[.int .u32 (c6b : Int), .int .u32 (k6b : Int), .slice ao6a d6b.length cap6a] 57 (0, 0))) := (hb.block _ (block_lt HP6a.out)).trans HP6a.out
  replace HB6a : Hid (BRow W6b ao6a cap6a d6b) := HB6a.out.later hb
  have HB6b : Hid (BRow W6b ao6b cap6b d6b) := HRo6b.out.brow HL6a.out
  clear HRo6b HL6a
  clear hb hD6b HD6a
  have hal : Below W6b.heap.size W6b (W6b.alloc (.cells #[.int .u32 (c6b : Int), .int .u32 (k6b : Int), .slice ao6b d6b.length cap6b] 57)) := (Below.refl _ _).alloc (Nat.le_refl _) _
  have HP6b : Hid ((W6b.alloc (.cells #[.int .u32 (c6b : Int), .int .u32 (k6b : Int), .slice ao6b d6b.length cap6b] 57)).heap[W6b.heap.size]? = some (.cells #[.int .u32 (c6b : Int), .int .u32 (k6b : Int), .slice ao6b d6b.length cap6b] 57 (0, 0))) := heap_new W6b _
  replace HP6a : Hid ((W6b.alloc (.cells #[.int .u32 (c6b : Int), .int .u32 (k6b : Int), .slice ao6b d6b.length cap6b] 57)).heap[W6a.heap.size]? = some _) := (hal.block _ (block_lt HP6a.out)).trans HP6a.out
  replace HT : Hid (Tw w (W6b.alloc (.cells #[.int .u32 (c6b : Int), .int .u32 (k6b : Int), .slice ao6b d6b.length cap6b] 57)) g ao cap l) := HT.out.next hal
  replace HB6a : Hid (BRow (W6b.alloc (.cells #[.int .u32 (c6b : Int), .int .u32 (k6b : Int), .slice ao6b d6b.length cap6b] 57)) ao6a cap6a d6b) := HB6a.out.later hal
  replace HB6b : Hid (BRow (W6b.alloc (.cells #[.int .u32 (c6b : Int), .int .u32 (k6b : Int), .slice ao6b d6b.length cap6b] 57)) ao6b cap6b d6b) := HB6b.out.later hal
  clear hal
  have x0 := blk_at HP6a.out 0
  have y0 := blk_at HP6b.out 0
  have x1 := blk_at HP6a.out 1
  have y1 := blk_at HP6b.out 1
  have x2 := blk_at HP6a.out 2
  have y2 := blk_at HP6b.out 2
  simp at x0 y0 x1 y1 x2 y2
  go_wp2_with fail
  refine (sameRep c6b k6b ao6a ao6b cap6a cap6b d6b.length d6b _ HB6a.out HB6b.out rfl).mono ?_
  rintro e W6c ⟨rfl, hb⟩
  replace HT : Hid _ := HT.out.next hb
  clear hb HB6a HB6b
  go_wp2_with fail
  refine (HNum.out _ _).mono ?_
  rintro e wn ⟨rfl, hw⟩
  rw [hw]; clear hw wn
  clear HP6a HP6b x0 y0 x1 y1 x2 y2
  go_wp2_with fail
  go_loopw [24] (fun i wr => ∃ k : Nat, i = .int .i64 k ∧ k ≤ 2 ∧ Hid (Tw w wr g ao cap l)) (fun i _ => 2 - (intOf i).toNat)
  case atStart => exact ⟨0, rfl, by decide, HT⟩
  case round =>
    clear HT
    obtain ⟨k, rfl, hk, HT⟩ := hrel
    by_cases h0 : k = 0
    · subst h0
      go_wp2_with fail
      refine (decRequestA (some ⟨g, 0, none⟩) (l.length + 4) l most false _ HT.out.c1 hm4).mono ?_
      rintro e W17a ⟨f17a, t17a, c17a, o17a, k17a, d17a, n17a, r17a, ao17a, cap17a, rfl, hD17a, hb⟩
      have HRo17a : Hid _ := hb
      replace hb := HRo17a.out.bel
      have HD17a : Hid _ := hD17a
      replace HT : Hid _ := HT.out.next hb
      clear hb hD17a
      have HP17a : Hid ((W17a.alloc (.cells #[.int .u16 (f17a : Int), .int .u16 (t17a : Int), .int .u64 (c17a : Int), .int .u64 (o17a : Int), .int .u64 (k17a : Int), .slice ao17a d17a.length cap17a] 59)).heap[W17a.heap.size]? = some (.cells #[.int .u16 (f17a : Int), .int .u16 (t17a : Int), .int .u64 (c17a : Int), .int .u64 (o17a : Int), .int .u64 (k17a : Int), .slice ao17a d17a.length cap17a] 59 (0, 0))) := heap_new W17a _
      replace HT : Hid (Tw w (W17a.alloc (.cells #[.int .u16 (f17a : Int), .int .u16 (t17a : Int), .int .u64 (c17a : Int), .int .u64 (o17a : Int), .int .u64 (k17a : Int), .slice ao17a d17a.length cap17a] 59)) g ao cap l) := HT.out.alloc _
      have HL17a : Hid (d17a.length ≤ 140737488351232) := by have h1 := reqD_len most false l; rw [HD17a.out] at h1; have h2 := HT.out.len; show d17a.length ≤ _; simp only at h1; omega
      have HB17a : Hid (BRow (W17a.alloc (.cells #[.int .u16 (f17a : Int), .int .u16 (t17a : Int), .int .u64 (c17a : Int), .int .u64 (o17a : Int), .int .u64 (k17a : Int), .slice ao17a d17a.length cap17a] 59)) ao17a cap17a d17a) := (HRo17a.out.brow HL17a.out).later ((Below.refl _ _).alloc (Nat.le_refl _) _)
      clear HRo17a
      go_wp2_with fail
      refine (rdecRequestA ao cap l most false _ HT.out.c0 hm4).mono ?_
      rintro e W17b ⟨f17b, t17b, c17b, o17b, k17b, d17b, n17b, r17b, ao17b, cap17b, rfl, hD17b, hb⟩
      have HRo17b : Hid _ := hb
      replace hb := HRo17b.out.bel
      have hE : (f17b = f17a ∧ t17b = t17a ∧ c17b = c17a ∧ o17b = o17a ∧ k17b = k17a ∧ d17b = d17a) ∧ n17b = n17a ∧ r17b = r17a := by have h1 := HD17a.out; rw [hD17b] at h1; simpa only [Prod.mk.injEq, and_assoc] using h1
      obtain ⟨⟨rfl, rfl, rfl, rfl, rfl, rfl⟩, rfl, rfl⟩ := hE
      replace HT : Hid _ := HT.out.next hb
      replace HP17a : Hid (W17b.heap[W17a.heap.size]? = some (.cells #[.int .u16 (f17b : Int), .int .u16 (t17b : Int), .int .u64 (c17b : Int), .int .u64 (o17b : Int), .int .u64 (k17b : Int), .slice ao17a d17b.length cap17a] 59 (0, 0))) := (hb.block _ (block_lt HP17a.out)).trans HP17a.out
      replace HB17a : Hid (BRow W17b ao17a cap17a d17b) := HB17a.out.later hb
      have HB17b : Hid (BRow W17b ao17b cap17b d17b) := HRo17b.out.brow HL17a.out
      clear HRo17b HL17a
      clear hb hD17b HD17a
      have hal : Below W17b.heap.size W17b (W17b.alloc (.cells #[.int .u16 (f17b : Int), .int .u16 (t17b : Int), .int .u64 (c17b : Int), .int .u64 (o17b : Int), .int .u64 (k17b : Int), .slice ao17b d17b.length cap17b] 59)) := (Below.refl _ _).alloc (Nat.le_refl _) _
      have HP17b : Hid ((W17b.alloc (.cells #[.int .u16 (f17b : Int), .int .u16 (t17b : Int), .int .u64 (c17b : Int), .int .u64 (o17b : Int), .int .u64 (k17b : Int), .slice ao17b d17b.length cap17b] 59)).heap[W17b.heap.size]? = some (.cells #[.int .u16 (f17b : Int), .int .u16 (t17b : Int), .int .u64 (c17b : Int), .int .u64 (o17b : Int), .int .u64 (k17b : Int), .slice ao17b d17b.length cap17b] 59 (0, 0))) := heap_new W17b _
      replace HP17a : Hid ((W17b.alloc (.cells #[.int .u16 (f17b : Int), .int .u16 (t17b : Int), .int .u64 (c17b : Int), .int .u64 (o17b : Int), .int .u64 (k17b : Int), .slice ao17b d17b.length cap17b] 59)).heap[W17a.heap.size]? = some _) := (hal.block _ (block_lt HP17a.out)).trans HP17a.out
      replace HT : Hid (Tw w (W17b.alloc (.cells #[.int .u16 (f17b : Int), .int .u16 (t17b : Int), .int .u64 (c17b : Int), .int .u64 (o17b : Int), .int .u64 (k17b : Int), .slice ao17b d17b.length cap17b] 59)) g ao cap l) := HT.out.next hal
      replace HB17a : Hid (BRow (W17b.alloc (.cells #[.int .u16 (f17b : Int), .int .u16 (t17b : Int), .int .u64 (c17b : Int), .int .u64 (o17b : Int), .int .u64 (k17b : Int), .slice ao17b d17b.length cap17b] 59)) ao17a cap17a d17b) := HB17a.out.later hal
      replace HB17b : Hid (BRow (W17b.alloc (.cells #[.int .u16 (f17b : Int), .int .u16 (t17b : Int), .int .u64 (c17b : Int), .int .u64 (o17b : Int), .int .u64 (k17b : Int), .slice ao17b d17b.length cap17b] 59)) ao17b cap17b d17b) := HB17b.out.later hal
      clear hal
      have x0 := blk_at HP17a.out 0
      have y0 := blk_at HP17b.out 0
      have x1 := blk_at HP17a.out 1
      have y1 := blk_at HP17b.out 1
      have x2 := blk_at HP17a.out 2
      have y2 := blk_at HP17b.out 2
      have x3 := blk_at HP17a.out 3
      have y3 := blk_at HP17b.out 3
      have x4 := blk_at HP17a.out 4
      have y4 := blk_at HP17b.out 4
      have x5 := blk_at HP17a.out 5
      have y5 := blk_at HP17b.out 5
      simp at x0 y0 x1 y1 x2 y2 x3 y3 x4 y4 x5 y5
      go_wp2_with fail
      refine (sameReq f17b t17b c17b o17b k17b ao17a ao17b cap17a cap17b d17b.length d17b _ HB17a.out HB17b.out rfl).mono ?_
      rintro e W17c ⟨rfl, hb⟩
      replace HT : Hid _ := HT.out.next hb
      clear hb HB17a HB17b
      go_wp2_with fail
      refine (HNum.out _ _).mono ?_
      rintro e wn ⟨rfl, hw⟩
      rw [hw]; clear hw wn
      clear HP17a HP17b x0 y0 x1 y1 x2 y2 x3 y3 x4 y4 x5 y5
      go_wp2_with fail
      refine (decChunkA (some ⟨g, 0, none⟩) (l.length + 4) l most false _ HT.out.c1 hm4).mono ?_
      rintro e W18a ⟨f18a, t18a, c18a, o18a, d18a, n18a, r18a, ao18a, cap18a, rfl, hD18a, hb⟩
      have HRo18a : Hid _ := hb
      replace hb := HRo18a.out.bel
      have HD18a : Hid _ := hD18a
      replace HT : Hid _ := HT.out.next hb
      clear hb hD18a
      have HP18a : Hid ((W18a.alloc (.cells #[.int .u16 (f18a : Int), .int .u16 (t18a : Int), .int .u64 (c18a : Int), .int .u64 (o18a : Int), .slice ao18a d18a.length cap18a] 61)).heap[W18a.heap.size]? = some (.cells #[.int .u16 (f18a : Int), .int .u16 (t18a : Int), .int .u64 (c18a : Int), .int .u64 (o18a : Int), .slice ao18a d18a.length cap18a] 61 (0, 0))) := heap_new W18a _
      replace HT : Hid (Tw w (W18a.alloc (.cells #[.int .u16 (f18a : Int), .int .u16 (t18a : Int), .int .u64 (c18a : Int), .int .u64 (o18a : Int), .slice ao18a d18a.length cap18a] 61)) g ao cap l) := HT.out.alloc _
      have HL18a : Hid (d18a.length ≤ 140737488351232) := by have h1 := chkD_len most false l; rw [HD18a.out] at h1; have h2 := HT.out.len; show d18a.length ≤ _; simp only at h1; omega
      have HB18a : Hid (BRow (W18a.alloc (.cells #[.int .u16 (f18a : Int), .int .u16 (t18a : Int), .int .u64 (c18a : Int), .int .u64 (o18a : Int), .slice ao18a d18a.length cap18a] 61)) ao18a cap18a d18a) := (HRo18a.out.brow HL18a.out).later ((Below.refl _ _).alloc (Nat.le_refl _) _)
      clear HRo18a
      go_wp2_with fail
      refine (rdecChunkA ao cap l most false _ HT.out.c0 hm4).mono ?_
      rintro e W18b ⟨f18b, t18b, c18b, o18b, d18b, n18b, r18b, ao18b, cap18b, rfl, hD18b, hb⟩
      have HRo18b : Hid _ := hb
      replace hb := HRo18b.out.bel
      have hE : (f18b = f18a ∧ t18b = t18a ∧ c18b = c18a ∧ o18b = o18a ∧ d18b = d18a) ∧ n18b = n18a ∧ r18b = r18a := by have h1 := HD18a.out; rw [hD18b] at h1; simpa only [Prod.mk.injEq, and_assoc] using h1
      obtain ⟨⟨rfl, rfl, rfl, rfl, rfl⟩, rfl, rfl⟩ := hE
      replace HT : Hid _ := HT.out.next hb
      replace HP18a : Hid (W18b.heap[W18a.heap.size]? = some (.cells #[.int .u16 (f18b : Int), .int .u16 (t18b : Int), .int .u64 (c18b : Int), .int .u64 (o18b : Int), .slice ao18a d18b.length cap18a] 61 (0, 0))) := (hb.block _ (block_lt HP18a.out)).trans HP18a.out
      replace HB18a : Hid (BRow W18b ao18a cap18a d18b) := HB18a.out.later hb
      have HB18b : Hid (BRow W18b ao18b cap18b d18b) := HRo18b.out.brow HL18a.out
      clear HRo18b HL18a
      clear hb hD18b HD18a
      have hal : Below W18b.heap.size W18b (W18b.alloc (.cells #[.int .u16 (f18b : Int), .int .u16 (t18b : Int), .int .u64 (c18b : Int), .int .u64 (o18b : Int), .slice ao18b d18b.length cap18b] 61)) := (Below.refl _ _).alloc (Nat.le_refl _) _
      have HP18b : Hid ((W18b.alloc (.cells #[.int .u16 (f18b : Int), .int .u16 (t18b : Int), .int .u64 (c18b : Int), .int .u64 (o18b : Int), .slice ao18b d18b.length cap18b] 61)).heap[W18b.heap.size]? = some (.cells #[.int .u16 (f18b : Int), .int .u16 (t18b : Int), .int .u64 (c18b : Int), .int .u64 (o18b : Int), .slice ao18b d18b.length cap18b] 61 (0, 0))) := heap_new W18b _
      replace HP18a : Hid ((W18b.alloc (.cells #[.int .u16 (f18b : Int), .int .u16 (t18b : Int), .int .u64 (c18b : Int), .int .u64 (o18b : Int), .slice ao18b d18b.length cap18b] 61)).heap[W18a.heap.size]? = some _) := (hal.block _ (block_lt HP18a.out)).trans HP18a.out
      replace HT : Hid (Tw w (W18b.alloc (.cells #[.int .u16 (f18b : Int), .int .u16 (t18b : Int), .int .u64 (c18b : Int), .int .u64 (o18b : Int), .slice ao18b d18b.length cap18b] 61)) g ao cap l) := HT.out.next hal
      replace HB18a : Hid (BRow (W18b.alloc (.cells #[.int .u16 (f18b : Int), .int .u16 (t18b : Int), .int .u64 (c18b : Int), .int .u64 (o18b : Int), .slice ao18b d18b.length cap18b] 61)) ao18a cap18a d18b) := HB18a.out.later hal
      replace HB18b : Hid (BRow (W18b.alloc (.cells #[.int .u16 (f18b : Int), .int .u16 (t18b : Int), .int .u64 (c18b : Int), .int .u64 (o18b : Int), .slice ao18b d18b.length cap18b] 61)) ao18b cap18b d18b) := HB18b.out.later hal
      clear hal
      have x0 := blk_at HP18a.out 0
      have y0 := blk_at HP18b.out 0
      have x1 := blk_at HP18a.out 1
      have y1 := blk_at HP18b.out 1
      have x2 := blk_at HP18a.out 2
      have y2 := blk_at HP18b.out 2
      have x3 := blk_at HP18a.out 3
      have y3 := blk_at HP18b.out 3
      have x4 := blk_at HP18a.out 4
      have y4 := blk_at HP18b.out 4
      simp at x0 y0 x1 y1 x2 y2 x3 y3 x4 y4
      go_wp2_with fail
      refine (sameChk f18b t18b c18b o18b ao18a ao18b cap18a cap18b d18b.length d18b _ HB18a.out HB18b.out rfl).mono ?_
      rintro e W18c ⟨rfl, hb⟩
      replace HT : Hid _ := HT.out.next hb
      clear hb HB18a HB18b
      go_wp2_with fail
      refine (HNum.out _ _).mono ?_
      rintro e wn ⟨rfl, hw⟩
      rw [hw]; clear hw wn
      clear HP18a HP18b x0 y0 x1 y1 x2 y2 x3 y3 x4 y4
      go_wp2
      go_roundw
      case rel => exact ⟨1, by go_num, by decide, HT⟩
      case measure => simp [intOf]
    · by_cases h1 : k = 1
      · subst h1
        go_wp2_with fail
        refine (decRequestA (some ⟨g, 0, none⟩) (l.length + 4) l most true _ HT.out.c1 hm4).mono ?_
        rintro e W17a ⟨f17a, t17a, c17a, o17a, k17a, d17a, n17a, r17a, ao17a, cap17a, rfl, hD17a, hb⟩
        have HRo17a : Hid _ := hb
        replace hb := HRo17a.out.bel
        have HD17a : Hid _ := hD17a
        replace HT : Hid _ := HT.out.next hb
        clear hb hD17a
        have HP17a : Hid ((W17a.alloc (.cells #[.int .u16 (f17a : Int), .int .u16 (t17a : Int), .int .u64 (c17a : Int), .int .u64 (o17a : Int), .int .u64 (k17a : Int), .slice ao17a d17a.length cap17a] 59)).heap[W17a.heap.size]? = some (.cells #[.int .u16 (f17a : Int), .int .u16 (t17a : Int), .int .u64 (c17a : Int), .int .u64 (o17a : Int), .int .u64 (k17a : Int), .slice ao17a d17a.length cap17a] 59 (0, 0))) := heap_new W17a _
        replace HT : Hid (Tw w (W17a.alloc (.cells #[.int .u16 (f17a : Int), .int .u16 (t17a : Int), .int .u64 (c17a : Int), .int .u64 (o17a : Int), .int .u64 (k17a : Int), .slice ao17a d17a.length cap17a] 59)) g ao cap l) := HT.out.alloc _
        have HL17a : Hid (d17a.length ≤ 140737488351232) := by have h1 := reqD_len most true l; rw [HD17a.out] at h1; have h2 := HT.out.len; show d17a.length ≤ _; simp only at h1; omega
        have HB17a : Hid (BRow (W17a.alloc (.cells #[.int .u16 (f17a : Int), .int .u16 (t17a : Int), .int .u64 (c17a : Int), .int .u64 (o17a : Int), .int .u64 (k17a : Int), .slice ao17a d17a.length cap17a] 59)) ao17a cap17a d17a) := (HRo17a.out.brow HL17a.out).later ((Below.refl _ _).alloc (Nat.le_refl _) _)
        clear HRo17a
        go_wp2_with fail
        refine (rdecRequestA ao cap l most true _ HT.out.c0 hm4).mono ?_
        rintro e W17b ⟨f17b, t17b, c17b, o17b, k17b, d17b, n17b, r17b, ao17b, cap17b, rfl, hD17b, hb⟩
        have HRo17b : Hid _ := hb
        replace hb := HRo17b.out.bel
        have hE : (f17b = f17a ∧ t17b = t17a ∧ c17b = c17a ∧ o17b = o17a ∧ k17b = k17a ∧ d17b = d17a) ∧ n17b = n17a ∧ r17b = r17a := by have h1 := HD17a.out; rw [hD17b] at h1; simpa only [Prod.mk.injEq, and_assoc] using h1
        obtain ⟨⟨rfl, rfl, rfl, rfl, rfl, rfl⟩, rfl, rfl⟩ := hE
        replace HT : Hid _ := HT.out.next hb
        replace HP17a : Hid (W17b.heap[W17a.heap.size]? = some (.cells #[.int .u16 (f17b : Int), .int .u16 (t17b : Int), .int .u64 (c17b : Int), .int .u64 (o17b : Int), .int .u64 (k17b : Int), .slice ao17a d17b.length cap17a] 59 (0, 0))) := (hb.block _ (block_lt HP17a.out)).trans HP17a.out
        replace HB17a : Hid (BRow W17b ao17a cap17a d17b) := HB17a.out.later hb
        have HB17b : Hid (BRow W17b ao17b cap17b d17b) := HRo17b.out.brow HL17a.out
        clear HRo17b HL17a
        clear hb hD17b HD17a
        have hal : Below W17b.heap.size W17b (W17b.alloc (.cells #[.int .u16 (f17b : Int), .int .u16 (t17b : Int), .int .u64 (c17b : Int), .int .u64 (o17b : Int), .int .u64 (k17b : Int), .slice ao17b d17b.length cap17b] 59)) := (Below.refl _ _).alloc (Nat.le_refl _) _
        have HP17b : Hid ((W17b.alloc (.cells #[.int .u16 (f17b : Int), .int .u16 (t17b : Int), .int .u64 (c17b : Int), .int .u64 (o17b : Int), .int .u64 (k17b : Int), .slice ao17b d17b.length cap17b] 59)).heap[W17b.heap.size]? = some (.cells #[.int .u16 (f17b : Int), .int .u16 (t17b : Int), .int .u64 (c17b : Int), .int .u64 (o17b : Int), .int .u64 (k17b : Int), .slice ao17b d17b.length cap17b] 59 (0, 0))) := heap_new W17b _
        replace HP17a : Hid ((W17b.alloc (.cells #[.int .u16 (f17b : Int), .int .u16 (t17b : Int), .int .u64 (c17b : Int), .int .u64 (o17b : Int), .int .u64 (k17b : Int), .slice ao17b d17b.length cap17b] 59)).heap[W17a.heap.size]? = some _) := (hal.block _ (block_lt HP17a.out)).trans HP17a.out
        replace HT : Hid (Tw w (W17b.alloc (.cells #[.int .u16 (f17b : Int), .int .u16 (t17b : Int), .int .u64 (c17b : Int), .int .u64 (o17b : Int), .int .u64 (k17b : Int), .slice ao17b d17b.length cap17b] 59)) g ao cap l) := HT.out.next hal
        replace HB17a : Hid (BRow (W17b.alloc (.cells #[.int .u16 (f17b : Int), .int .u16 (t17b : Int), .int .u64 (c17b : Int), .int .u64 (o17b : Int), .int .u64 (k17b : Int), .slice ao17b d17b.length cap17b] 59)) ao17a cap17a d17b) := HB17a.out.later hal
        replace HB17b : Hid (BRow (W17b.alloc (.cells #[.int .u16 (f17b : Int), .int .u16 (t17b : Int), .int .u64 (c17b : Int), .int .u64 (o17b : Int), .int .u64 (k17b : Int), .slice ao17b d17b.length cap17b] 59)) ao17b cap17b d17b) := HB17b.out.later hal
        clear hal
        have x0 := blk_at HP17a.out 0
        have y0 := blk_at HP17b.out 0
        have x1 := blk_at HP17a.out 1
        have y1 := blk_at HP17b.out 1
        have x2 := blk_at HP17a.out 2
        have y2 := blk_at HP17b.out 2
        have x3 := blk_at HP17a.out 3
        have y3 := blk_at HP17b.out 3
        have x4 := blk_at HP17a.out 4
        have y4 := blk_at HP17b.out 4
        have x5 := blk_at HP17a.out 5
        have y5 := blk_at HP17b.out 5
        simp at x0 y0 x1 y1 x2 y2 x3 y3 x4 y4 x5 y5
        go_wp2_with fail
        refine (sameReq f17b t17b c17b o17b k17b ao17a ao17b cap17a cap17b d17b.length d17b _ HB17a.out HB17b.out rfl).mono ?_
        rintro e W17c ⟨rfl, hb⟩
        replace HT : Hid _ := HT.out.next hb
        clear hb HB17a HB17b
        go_wp2_with fail
        refine (HNum.out _ _).mono ?_
        rintro e wn ⟨rfl, hw⟩
        rw [hw]; clear hw wn
        clear HP17a HP17b x0 y0 x1 y1 x2 y2 x3 y3 x4 y4 x5 y5
        go_wp2_with fail
        refine (decChunkA (some ⟨g, 0, none⟩) (l.length + 4) l most true _ HT.out.c1 hm4).mono ?_
        rintro e W18a ⟨f18a, t18a, c18a, o18a, d18a, n18a, r18a, ao18a, cap18a, rfl, hD18a, hb⟩
        have HRo18a : Hid _ := hb
        replace hb := HRo18a.out.bel
        have HD18a : Hid _ := hD18a
        replace HT : Hid _ := HT.out.next hb
        clear hb hD18a
        have HP18a : Hid ((W18a.alloc (.cells #[.int .u16 (f18a : Int), .int .u16 (t18a : Int), .int .u64 (c18a : Int), .int .u64 (o18a : Int), .slice ao18a d18a.length cap18a] 61)).heap[W18a.heap.size]? = some (.cells #[.int .u16 (f18a : Int), .int .u16 (t18a : Int), .int .u64 (c18a : Int), .int .u64 (o18a : Int), .slice ao18a d18a.length cap18a] 61 (0, 0))) := heap_new W18a _
        replace HT : Hid (Tw w (W18a.alloc (.cells #[.int .u16 (f18a : Int), .int .u16 (t18a : Int), .int .u64 (c18a : Int), .int .u64 (o18a : Int), .slice ao18a d18a.length cap18a] 61)) g ao cap l) := HT.out.alloc _
        have HL18a : Hid (d18a.length ≤ 140737488351232) := by have h1 := chkD_len most true l; rw [HD18a.out] at h1; have h2 := HT.out.len; show d18a.length ≤ _; simp only at h1; omega
        have HB18a : Hid (BRow (W18a.alloc (.cells #[.int .u16 (f18a : Int), .int .u16 (t18a : Int), .int .u64 (c18a : Int), .int .u64 (o18a : Int), .slice ao18a d18a.length cap18a] 61)) ao18a cap18a d18a) := (HRo18a.out.brow HL18a.out).later ((Below.refl _ _).alloc (Nat.le_refl _) _)
        clear HRo18a
        go_wp2_with fail
        refine (rdecChunkA ao cap l most true _ HT.out.c0 hm4).mono ?_
        rintro e W18b ⟨f18b, t18b, c18b, o18b, d18b, n18b, r18b, ao18b, cap18b, rfl, hD18b, hb⟩
        have HRo18b : Hid _ := hb
        replace hb := HRo18b.out.bel
        have hE : (f18b = f18a ∧ t18b = t18a ∧ c18b = c18a ∧ o18b = o18a ∧ d18b = d18a) ∧ n18b = n18a ∧ r18b = r18a := by have h1 := HD18a.out; rw [hD18b] at h1; simpa only [Prod.mk.injEq, and_assoc] using h1
        obtain ⟨⟨rfl, rfl, rfl, rfl, rfl⟩, rfl, rfl⟩ := hE
        replace HT : Hid _ := HT.out.next hb
        replace HP18a : Hid (W18b.heap[W18a.heap.size]? = some (.cells #[.int .u16 (f18b : Int), .int .u16 (t18b : Int), .int .u64 (c18b : Int), .int .u64 (o18b : Int), .slice ao18a d18b.length cap18a] 61 (0, 0))) := (hb.block _ (block_lt HP18a.out)).trans HP18a.out
        replace HB18a : Hid (BRow W18b ao18a cap18a d18b) := HB18a.out.later hb
        have HB18b : Hid (BRow W18b ao18b cap18b d18b) := HRo18b.out.brow HL18a.out
        clear HRo18b HL18a
        clear hb hD18b HD18a
        have hal : Below W18b.heap.size W18b (W18b.alloc (.cells #[.int .u16 (f18b : Int), .int .u16 (t18b : Int), .int .u64 (c18b : Int), .int .u64 (o18b : Int), .slice ao18b d18b.length cap18b] 61)) := (Below.refl _ _).alloc (Nat.le_refl _) _
        have HP18b : Hid ((W18b.alloc (.cells #[.int .u16 (f18b : Int), .int .u16 (t18b : Int), .int .u64 (c18b : Int), .int .u64 (o18b : Int), .slice ao18b d18b.length cap18b] 61)).heap[W18b.heap.size]? = some (.cells #[.int .u16 (f18b : Int), .int .u16 (t18b : Int), .int .u64 (c18b : Int), .int .u64 (o18b : Int), .slice ao18b d18b.length cap18b] 61 (0, 0))) := heap_new W18b _
        replace HP18a : Hid ((W18b.alloc (.cells #[.int .u16 (f18b : Int), .int .u16 (t18b : Int), .int .u64 (c18b : Int), .int .u64 (o18b : Int), .slice ao18b d18b.length cap18b] 61)).heap[W18a.heap.size]? = some _) := (hal.block _ (block_lt HP18a.out)).trans HP18a.out
        replace HT : Hid (Tw w (W18b.alloc (.cells #[.int .u16 (f18b : Int), .int .u16 (t18b : Int), .int .u64 (c18b : Int), .int .u64 (o18b : Int), .slice ao18b d18b.length cap18b] 61)) g ao cap l) := HT.out.next hal
        replace HB18a : Hid (BRow (W18b.alloc (.cells #[.int .u16 (f18b : Int), .int .u16 (t18b : Int), .int .u64 (c18b : Int), .int .u64 (o18b : Int), .slice ao18b d18b.length cap18b] 61)) ao18a cap18a d18b) := HB18a.out.later hal
        replace HB18b : Hid (BRow (W18b.alloc (.cells #[.int .u16 (f18b : Int), .int .u16 (t18b : Int), .int .u64 (c18b : Int), .int .u64 (o18b : Int), .slice ao18b d18b.length cap18b] 61)) ao18b cap18b d18b) := HB18b.out.later hal
        clear hal
        have x0 := blk_at HP18a.out 0
        have y0 := blk_at HP18b.out 0
        have x1 := blk_at HP18a.out 1
        have y1 := blk_at HP18b.out 1
        have x2 := blk_at HP18a.out 2
        have y2 := blk_at HP18b.out 2
        have x3 := blk_at HP18a.out 3
        have y3 := blk_at HP18b.out 3
        have x4 := blk_at HP18a.out 4
        have y4 := blk_at HP18b.out 4
        simp at x0 y0 x1 y1 x2 y2 x3 y3 x4 y4
        go_wp2_with fail
        refine (sameChk f18b t18b c18b o18b ao18a ao18b cap18a cap18b d18b.length d18b _ HB18a.out HB18b.out rfl).mono ?_
        rintro e W18c ⟨rfl, hb⟩
        replace HT : Hid _ := HT.out.next hb
        clear hb HB18a HB18b
        go_wp2_with fail
        refine (HNum.out _ _).mono ?_
        rintro e wn ⟨rfl, hw⟩
        rw [hw]; clear hw wn
        clear HP18a HP18b x0 y0 x1 y1 x2 y2 x3 y3 x4 y4
        go_wp2
        go_roundw
        case rel => exact ⟨2, by go_num, by decide, HT⟩
        case measure => simp [intOf]
      · obtain rfl : k = 2 := by omega
        go_wp2_with fail
        refine (kept_any g ao cap l.length l _ HT.out.blk HT.out.c0.row rfl (by have := HT.out.len; omega)).mono ?_
        rintro e Wk ⟨rfl, hb⟩
        replace HT : Hid _ := HT.out.next hb
        clear hb
        go_wp2_with fail
        refine (alive_any _ (HTb.out.later HT.out.bel)).mono ?_
        rintro e uz ⟨rfl, hb⟩
        have HW2 : Hid (Below w.heap.size w uz) := HT.out.bel.trans (hb.mono HT.out.bel.size)
        clear hb HT
        go_wp2
        go_ret
        exact ⟨rfl, HW2.out⟩
end Go.Proofs.YtjhickfjagalfaaDoor
