import Derived.Test.YtckfmpoddmccfaaV22
import Derived.Deep.RegionHeld3
import Derived.Test.YtckfmpoddmccfaaV11
import Derived.Deep.RegionLaw
namespace Go.Proofs.Ytckfmpoddmccfaa
open Go.RowKit
set_option linter.unusedVariables false
set_option linter.unusedSimpArgs false
set_option maxRecDepth 100000
set_option maxHeartbeats 4000000 in
theorem ofReplyG (w : World) (o : Nat) (k : Nat) (ao2 : Option Addr) (n2 cap2 : Nat) (cu : Int) (ho : o < 4294967296) (hk : k < 4294967296) : Calls Try.prog 34 #[.agg #[.int .u32 (o : Int), .int .u32 (k : Int), .slice ao2 n2 cap2], .int .i64 cu] w fun e w' => e = .returned (.agg #[.int .i64 cu, .int .u64 (o : Int), .int .u64 (k : Int), .int .u64 0, .int .u64 0, .int .u64 0, .int .u64 0, .int .u64 0, .int .u64 0, .slice ao2 n2 cap2]) ∧ Below w.heap.size w w' := by
  have ko : (o : Int) < 4294967296 := by omega
  have kk : (k : Int) < 4294967296 := by omega
  have HB : Hid (Below w.heap.size w ((w.alloc (.cells #[.int .u32 (o : Int), .int .u32 (k : Int), .slice ao2 n2 cap2] 62)).alloc (.cells #[.int .i64 cu, .int .u64 (o : Int), .int .u64 (k : Int), .int .u64 0, .int .u64 0, .int .u64 0, .int .u64 0, .int .u64 0, .int .u64 0, .slice ao2 n2 cap2] 41))) := bx2_bel w _ _
  have g1 : ((w.alloc (.cells #[.int .u32 (o : Int), .int .u32 (k : Int), .slice ao2 n2 cap2] 62)).alloc (.cells #[.int .i64 cu, .int .u64 (o : Int), .int .u64 (k : Int), .int .u64 0, .int .u64 0, .int .u64 0, .int .u64 0, .int .u64 0, .int .u64 0, .slice ao2 n2 cap2] 41)).heap[w.heap.size + 1]? = some (.cells #[.int .i64 cu, .int .u64 (o : Int), .int .u64 (k : Int), .int .u64 0, .int .u64 0, .int .u64 0, .int .u64 0, .int .u64 0, .int .u64 0, .slice ao2 n2 cap2] 41 (0, 0)) := by
    have h := heap_new (w.alloc (.cells #[.int .u32 (o : Int), .int .u32 (k : Int), .slice ao2 n2 cap2] 62)) (.cells #[.int .i64 cu, .int .u64 (o : Int), .int .u64 (k : Int), .int .u64 0, .int .u64 0, .int .u64 0, .int .u64 0, .int .u64 0, .int .u64 0, .slice ao2 n2 cap2] 41)
    rw [World.size_alloc] at h
    exact h
  have HG1 : Hid _ := g1
  have g0 : ((w.alloc (.cells #[.int .u32 (o : Int), .int .u32 (k : Int), .slice ao2 n2 cap2] 62)).alloc (.cells #[.int .i64 0, .int .u64 0, .int .u64 0, .int .u64 0, .int .u64 0, .int .u64 0, .int .u64 0, .int .u64 0, .int .u64 0, .slice none 0 0] 41)).heap[w.heap.size]? = some (.cells #[.int .u32 (o : Int), .int .u32 (k : Int), .slice ao2 n2 cap2] 62 (0, 0)) := by
    rw [Below.heap_alloc _ _ _ (by simp)]; exact heap_new w _
  have s0 := blk_at g0 0
  have s1 := blk_at g0 1
  have s2 := blk_at g0 2
  simp at s0 s1 s2
  clear g1 g0
  go_enter Try.func34, Try.ntmps34
  go_wp2
  exact bodyPost_ret (results_cell_one rfl _ _ (w.heap.size + 1) 41 #[.int .i64 cu, .int .u64 (o : Int), .int .u64 (k : Int), .int .u64 0, .int .u64 0, .int .u64 0, .int .u64 0, .int .u64 0, .int .u64 0, .slice ao2 n2 cap2] (0, 0) _ rfl HG1.out Try.underlying41 rfl infoC) rfl ⟨rfl, HB.out⟩
set_option maxHeartbeats 4000000 in
theorem ofRequestG (w : World) (f : Nat) (t : Nat) (c : Nat) (o : Nat) (k : Nat) (ao2 : Option Addr) (n2 cap2 : Nat) (cu : Int) (hf : f < 65536) (ht : t < 65536) : Calls Try.prog 37 #[.agg #[.int .u16 (f : Int), .int .u16 (t : Int), .int .u64 (c : Int), .int .u64 (o : Int), .int .u64 (k : Int), .slice ao2 n2 cap2], .int .i64 cu] w fun e w' => e = .returned (.agg #[.int .i64 cu, .int .u64 (f : Int), .int .u64 (t : Int), .int .u64 (c : Int), .int .u64 (o : Int), .int .u64 (k : Int), .int .u64 0, .int .u64 0, .int .u64 0, .slice ao2 n2 cap2]) ∧ Below w.heap.size w w' := by
  have kf : (f : Int) < 65536 := by omega
  have kt : (t : Int) < 65536 := by omega
  have HB : Hid (Below w.heap.size w ((w.alloc (.cells #[.int .u16 (f : Int), .int .u16 (t : Int), .int .u64 (c : Int), .int .u64 (o : Int), .int .u64 (k : Int), .slice ao2 n2 cap2] 60)).alloc (.cells #[.int .i64 cu, .int .u64 (f : Int), .int .u64 (t : Int), .int .u64 (c : Int), .int .u64 (o : Int), .int .u64 (k : Int), .int .u64 0, .int .u64 0, .int .u64 0, .slice ao2 n2 cap2] 41))) := bx2_bel w _ _
  have g1 : ((w.alloc (.cells #[.int .u16 (f : Int), .int .u16 (t : Int), .int .u64 (c : Int), .int .u64 (o : Int), .int .u64 (k : Int), .slice ao2 n2 cap2] 60)).alloc (.cells #[.int .i64 cu, .int .u64 (f : Int), .int .u64 (t : Int), .int .u64 (c : Int), .int .u64 (o : Int), .int .u64 (k : Int), .int .u64 0, .int .u64 0, .int .u64 0, .slice ao2 n2 cap2] 41)).heap[w.heap.size + 1]? = some (.cells #[.int .i64 cu, .int .u64 (f : Int), .int .u64 (t : Int), .int .u64 (c : Int), .int .u64 (o : Int), .int .u64 (k : Int), .int .u64 0, .int .u64 0, .int .u64 0, .slice ao2 n2 cap2] 41 (0, 0)) := by
    have h := heap_new (w.alloc (.cells #[.int .u16 (f : Int), .int .u16 (t : Int), .int .u64 (c : Int), .int .u64 (o : Int), .int .u64 (k : Int), .slice ao2 n2 cap2] 60)) (.cells #[.int .i64 cu, .int .u64 (f : Int), .int .u64 (t : Int), .int .u64 (c : Int), .int .u64 (o : Int), .int .u64 (k : Int), .int .u64 0, .int .u64 0, .int .u64 0, .slice ao2 n2 cap2] 41)
    rw [World.size_alloc] at h
    exact h
  have HG1 : Hid _ := g1
  have g0 : ((w.alloc (.cells #[.int .u16 (f : Int), .int .u16 (t : Int), .int .u64 (c : Int), .int .u64 (o : Int), .int .u64 (k : Int), .slice ao2 n2 cap2] 60)).alloc (.cells #[.int .i64 0, .int .u64 0, .int .u64 0, .int .u64 0, .int .u64 0, .int .u64 0, .int .u64 0, .int .u64 0, .int .u64 0, .slice none 0 0] 41)).heap[w.heap.size]? = some (.cells #[.int .u16 (f : Int), .int .u16 (t : Int), .int .u64 (c : Int), .int .u64 (o : Int), .int .u64 (k : Int), .slice ao2 n2 cap2] 60 (0, 0)) := by
    rw [Below.heap_alloc _ _ _ (by simp)]; exact heap_new w _
  have s0 := blk_at g0 0
  have s1 := blk_at g0 1
  have s2 := blk_at g0 2
  have s3 := blk_at g0 3
  have s4 := blk_at g0 4
  have s5 := blk_at g0 5
  simp at s0 s1 s2 s3 s4 s5
  clear g1 g0
  go_enter Try.func37, Try.ntmps37
  go_wp2
  exact bodyPost_ret (results_cell_one rfl _ _ (w.heap.size + 1) 41 #[.int .i64 cu, .int .u64 (f : Int), .int .u64 (t : Int), .int .u64 (c : Int), .int .u64 (o : Int), .int .u64 (k : Int), .int .u64 0, .int .u64 0, .int .u64 0, .slice ao2 n2 cap2] (0, 0) _ rfl HG1.out Try.underlying41 rfl infoC) rfl ⟨rfl, HB.out⟩
set_option maxHeartbeats 400000 in
theorem truthG (w : World) (b : Bool) : Calls Try.prog 70 #[.bool b] w fun e w' => e = .returned (.int .u64 (b.toNat : Int)) ∧ w' = w := by
  cases b <;>
  · go_enter Try.func70, Try.ntmps70
    go_wp2
    go_ret
    exact ⟨rfl, rfl⟩
theorem close10 {w Wx : World} {g : Nat} {t : TypeId} {a0 a1 a2 a3 a4 a5 a6 a7 a8 a9 : Value} (hbox : Wx.heap[g]? = some (.cells #[a0, a1, a2, a3, a4, a5, a6, a7, a8, a9] t (0, 0))) (hbel : Below w.heap.size w Wx) (hg : w.heap.size ≤ g) (v0 v1 v2 v3 v4 v5 v6 v7 v8 v9 : Value) :
    (((((((((((Wx.setCell ⟨g, 0, none⟩ v0).setCell ⟨g, 1, none⟩ v1).setCell ⟨g, 2, none⟩ v2).setCell ⟨g, 3, none⟩ v3).setCell ⟨g, 4, none⟩ v4).setCell ⟨g, 5, none⟩ v5).setCell ⟨g, 6, none⟩ v6).setCell ⟨g, 7, none⟩ v7).setCell ⟨g, 8, none⟩ v8).setCell ⟨g, 9, none⟩ v9).drew).heap[g]? = some (.cells #[v0, v1, v2, v3, v4, v5, v6, v7, v8, v9] t (0, 0)) ∧ Below w.heap.size w (((((((((((Wx.setCell ⟨g, 0, none⟩ v0).setCell ⟨g, 1, none⟩ v1).setCell ⟨g, 2, none⟩ v2).setCell ⟨g, 3, none⟩ v3).setCell ⟨g, 4, none⟩ v4).setCell ⟨g, 5, none⟩ v5).setCell ⟨g, 6, none⟩ v6).setCell ⟨g, 7, none⟩ v7).setCell ⟨g, 8, none⟩ v8).setCell ⟨g, 9, none⟩ v9).drew) := by
  have h0 := hbox
  have b0 := hbel
  have h1 : (Wx.setCell ⟨g, 0, none⟩ v0).heap[g]? = some (.cells #[v0, a1, a2, a3, a4, a5, a6, a7, a8, a9] t (0, 0)) := put_box h0 0 v0 (by simp)
  have b1 : Below w.heap.size w (Wx.setCell ⟨g, 0, none⟩ v0) := below_set b0 hg
  generalize (Wx.setCell ⟨g, 0, none⟩ v0) = Y1 at h1 b1 ⊢
  have h2 : (Y1.setCell ⟨g, 1, none⟩ v1).heap[g]? = some (.cells #[v0, v1, a2, a3, a4, a5, a6, a7, a8, a9] t (0, 0)) := put_box h1 1 v1 (by simp)
  have b2 : Below w.heap.size w (Y1.setCell ⟨g, 1, none⟩ v1) := below_set b1 hg
  generalize (Y1.setCell ⟨g, 1, none⟩ v1) = Y2 at h2 b2 ⊢
  have h3 : (Y2.setCell ⟨g, 2, none⟩ v2).heap[g]? = some (.cells #[v0, v1, v2, a3, a4, a5, a6, a7, a8, a9] t (0, 0)) := put_box h2 2 v2 (by simp)
  have b3 : Below w.heap.size w (Y2.setCell ⟨g, 2, none⟩ v2) := below_set b2 hg
  generalize (Y2.setCell ⟨g, 2, none⟩ v2) = Y3 at h3 b3 ⊢
  have h4 : (Y3.setCell ⟨g, 3, none⟩ v3).heap[g]? = some (.cells #[v0, v1, v2, v3, a4, a5, a6, a7, a8, a9] t (0, 0)) := put_box h3 3 v3 (by simp)
  have b4 : Below w.heap.size w (Y3.setCell ⟨g, 3, none⟩ v3) := below_set b3 hg
  generalize (Y3.setCell ⟨g, 3, none⟩ v3) = Y4 at h4 b4 ⊢
  have h5 : (Y4.setCell ⟨g, 4, none⟩ v4).heap[g]? = some (.cells #[v0, v1, v2, v3, v4, a5, a6, a7, a8, a9] t (0, 0)) := put_box h4 4 v4 (by simp)
  have b5 : Below w.heap.size w (Y4.setCell ⟨g, 4, none⟩ v4) := below_set b4 hg
  generalize (Y4.setCell ⟨g, 4, none⟩ v4) = Y5 at h5 b5 ⊢
  have h6 : (Y5.setCell ⟨g, 5, none⟩ v5).heap[g]? = some (.cells #[v0, v1, v2, v3, v4, v5, a6, a7, a8, a9] t (0, 0)) := put_box h5 5 v5 (by simp)
  have b6 : Below w.heap.size w (Y5.setCell ⟨g, 5, none⟩ v5) := below_set b5 hg
  generalize (Y5.setCell ⟨g, 5, none⟩ v5) = Y6 at h6 b6 ⊢
  have h7 : (Y6.setCell ⟨g, 6, none⟩ v6).heap[g]? = some (.cells #[v0, v1, v2, v3, v4, v5, v6, a7, a8, a9] t (0, 0)) := put_box h6 6 v6 (by simp)
  have b7 : Below w.heap.size w (Y6.setCell ⟨g, 6, none⟩ v6) := below_set b6 hg
  generalize (Y6.setCell ⟨g, 6, none⟩ v6) = Y7 at h7 b7 ⊢
  have h8 : (Y7.setCell ⟨g, 7, none⟩ v7).heap[g]? = some (.cells #[v0, v1, v2, v3, v4, v5, v6, v7, a8, a9] t (0, 0)) := put_box h7 7 v7 (by simp)
  have b8 : Below w.heap.size w (Y7.setCell ⟨g, 7, none⟩ v7) := below_set b7 hg
  generalize (Y7.setCell ⟨g, 7, none⟩ v7) = Y8 at h8 b8 ⊢
  have h9 : (Y8.setCell ⟨g, 8, none⟩ v8).heap[g]? = some (.cells #[v0, v1, v2, v3, v4, v5, v6, v7, v8, a9] t (0, 0)) := put_box h8 8 v8 (by simp)
  have b9 : Below w.heap.size w (Y8.setCell ⟨g, 8, none⟩ v8) := below_set b8 hg
  generalize (Y8.setCell ⟨g, 8, none⟩ v8) = Y9 at h9 b9 ⊢
  have h10 : (Y9.setCell ⟨g, 9, none⟩ v9).heap[g]? = some (.cells #[v0, v1, v2, v3, v4, v5, v6, v7, v8, v9] t (0, 0)) := put_box h9 9 v9 (by simp)
  have b10 : Below w.heap.size w (Y9.setCell ⟨g, 9, none⟩ v9) := below_set b9 hg
  generalize (Y9.setCell ⟨g, 9, none⟩ v9) = Y10 at h10 b10 ⊢
  exact ⟨h10, below_drew b10⟩
theorem wrapU (c : Nat) (h : c < 4294967296) : IntKind.u64.wrap (c : Int) = (c : Int) := by simp [IntKind.wrap, IntKind.bits, IntKind.signed]; omega
end Go.Proofs.Ytckfmpoddmccfaa

namespace Go.Proofs.Ytckfmpoddmccfaa
open Go.RowKit
set_option linter.unusedVariables false
set_option linter.unusedSimpArgs false
set_option maxRecDepth 100000
set_option maxHeartbeats 4000000 in
theorem ofOptionG (w : World) (c : Nat) (k : Nat) (lg : Bool) (ao2 : Option Addr) (n2 cap2 : Nat) (cu : Int) (hc : c < 4294967296) (hk : k < 4294967296) : Calls Try.prog 32 #[.agg #[.int .u32 (c : Int), .int .u32 (k : Int), .bool lg, .slice ao2 n2 cap2], .int .i64 cu] w fun e w' => e = .returned (.agg #[.int .i64 cu, .int .u64 (c : Int), .int .u64 (k : Int), .int .u64 (lg.toNat : Int), .int .u64 0, .int .u64 0, .int .u64 0, .int .u64 0, .int .u64 0, .slice ao2 n2 cap2]) ∧ Below w.heap.size w w' := by
  have kc : (c : Int) < 4294967296 := by omega
  have kk : (k : Int) < 4294967296 := by omega
  obtain ⟨W0, hW0⟩ : ∃ W0, W0 = ((w.alloc (.cells #[.int .u32 (c : Int), .int .u32 (k : Int), .bool lg, .slice ao2 n2 cap2] 57)).alloc (.cells #[.int .i64 0, .int .u64 0, .int .u64 0, .int .u64 0, .int .u64 0, .int .u64 0, .int .u64 0, .int .u64 0, .int .u64 0, .slice none 0 0] 41)) := ⟨_, rfl⟩
  have g0 : W0.heap[w.heap.size]? = some (.cells #[.int .u32 (c : Int), .int .u32 (k : Int), .bool lg, .slice ao2 n2 cap2] 57 (0, 0)) := by
    rw [hW0]; rw [Below.heap_alloc _ _ _ (by simp)]; exact heap_new w _
  have s0 := blk_at g0 0
  have s1 := blk_at g0 1
  have s2 := blk_at g0 2
  have s3 := blk_at g0 3
  simp at s0 s1 s2 s3
  have HT : Hid (∀ W b, Calls Try.prog 70 #[.bool b] W fun e w' => e = .returned (.int .u64 (b.toNat : Int)) ∧ w' = W) := truthG
  have q1 : W0.heap[w.heap.size + 1]? = some (.cells #[.int .i64 0, .int .u64 0, .int .u64 0, .int .u64 0, .int .u64 0, .int .u64 0, .int .u64 0, .int .u64 0, .int .u64 0, .slice none 0 0] 41 (0, 0)) := by
    have h := heap_new (w.alloc (.cells #[.int .u32 (c : Int), .int .u32 (k : Int), .bool lg, .slice ao2 n2 cap2] 57)) (.cells #[.int .i64 0, .int .u64 0, .int .u64 0, .int .u64 0, .int .u64 0, .int .u64 0, .int .u64 0, .int .u64 0, .int .u64 0, .slice none 0 0] 41)
    rw [World.size_alloc] at h
    rw [hW0]; exact h
  have HQ : Hid _ := q1
  have HB0 : Hid (Below w.heap.size w W0) := by show Below _ _ _; rw [hW0]; exact bx2_bel w _ _
  have r0 := blk_at q1 0
  have f0 := blk_free q1 0
  have r1 := blk_at q1 1
  have f1 := blk_free q1 1
  have r2 := blk_at q1 2
  have f2 := blk_free q1 2
  have r3 := blk_at q1 3
  have f3 := blk_free q1 3
  have r4 := blk_at q1 4
  have f4 := blk_free q1 4
  have r5 := blk_at q1 5
  have f5 := blk_free q1 5
  have r6 := blk_at q1 6
  have f6 := blk_free q1 6
  have r7 := blk_at q1 7
  have f7 := blk_free q1 7
  have r8 := blk_at q1 8
  have f8 := blk_free q1 8
  have r9 := blk_at q1 9
  have f9 := blk_free q1 9
  simp at r0 r1 r2 r3 r4 r5 r6 r7 r8 r9
  clear q1 g0
  go_enter Try.func32, Try.ntmps32
  go_wp2
  rw [← hW0]
  clear hW0
  go_region_held3 (fun w' => (((w'.cell? ⟨w.heap.size, 0, none⟩ = some (.int .u32 (c : Int))) ∧ w'.cell? ⟨w.heap.size, 1, none⟩ = some (.int .u32 (k : Int))) ∧ w'.cell? ⟨w.heap.size, 2, none⟩ = some (.bool lg)) ∧ w'.cell? ⟨w.heap.size, 3, none⟩ = some (.slice ao2 n2 cap2)) (go_keep) (first | (go_at_call 70; refine (HT.out _ _).mono ?_; rintro e w9 ⟨rfl, rfl⟩))
  all_goals
    go_wp2
    simp only [wrapU c (by omega), wrapU k (by omega)]
    have HK : Hid _ := close10 (w := w) HQ.out HB0.out (Nat.le_succ _) (.int .i64 cu) (.int .u64 (c : Int)) (.int .u64 (k : Int)) (.int .u64 (lg.toNat : Int)) (.int .u64 0) (.int .u64 0) (.int .u64 0) (.int .u64 0) (.int .u64 0) (.slice ao2 n2 cap2)
    exact bodyPost_ret (results_cell_one rfl _ _ (w.heap.size + 1) 41 #[.int .i64 cu, .int .u64 (c : Int), .int .u64 (k : Int), .int .u64 (lg.toNat : Int), .int .u64 0, .int .u64 0, .int .u64 0, .int .u64 0, .int .u64 0, .slice ao2 n2 cap2] (0, 0) _ rfl HK.out.1 Try.underlying41 rfl infoC) rfl ⟨rfl, HK.out.2⟩
end Go.Proofs.Ytckfmpoddmccfaa

namespace Go.Proofs.Ytckfmpoddmccfaa
open Go.RowKit
set_option linter.unusedVariables false
set_option linter.unusedSimpArgs false
set_option maxRecDepth 100000
set_option maxHeartbeats 4000000 in
theorem ofAnswerG (w : World) (st : Bool) (sc : Nat) (sk : Nat) (f : Nat) (t : Nat) (c : Nat) (o : Nat) (ao2 : Option Addr) (n2 cap2 : Nat) (cu : Int) (hsc : sc < 4294967296) (hf : f < 65536) (ht : t < 65536) : Calls Try.prog 39 #[.agg #[.bool st, .int .u32 (sc : Int), .int .u64 (sk : Int), .int .u16 (f : Int), .int .u16 (t : Int), .int .u64 (c : Int), .int .u64 (o : Int), .slice ao2 n2 cap2], .int .i64 cu] w fun e w' => e = .returned (.agg #[.int .i64 cu, .int .u64 (st.toNat : Int), .int .u64 (sc : Int), .int .u64 (sk : Int), .int .u64 (f : Int), .int .u64 (t : Int), .int .u64 (c : Int), .int .u64 (o : Int), .int .u64 0, .slice ao2 n2 cap2]) ∧ Below w.heap.size w w' := by
  have ksc : (sc : Int) < 4294967296 := by omega
  have kf : (f : Int) < 65536 := by omega
  have kt : (t : Int) < 65536 := by omega
  obtain ⟨W0, hW0⟩ : ∃ W0, W0 = ((w.alloc (.cells #[.bool st, .int .u32 (sc : Int), .int .u64 (sk : Int), .int .u16 (f : Int), .int .u16 (t : Int), .int .u64 (c : Int), .int .u64 (o : Int), .slice ao2 n2 cap2] 103)).alloc (.cells #[.int .i64 0, .int .u64 0, .int .u64 0, .int .u64 0, .int .u64 0, .int .u64 0, .int .u64 0, .int .u64 0, .int .u64 0, .slice none 0 0] 41)) := ⟨_, rfl⟩
  have g0 : W0.heap[w.heap.size]? = some (.cells #[.bool st, .int .u32 (sc : Int), .int .u64 (sk : Int), .int .u16 (f : Int), .int .u16 (t : Int), .int .u64 (c : Int), .int .u64 (o : Int), .slice ao2 n2 cap2] 103 (0, 0)) := by
    rw [hW0]; rw [Below.heap_alloc _ _ _ (by simp)]; exact heap_new w _
  have s0 := blk_at g0 0
  have s1 := blk_at g0 1
  have s2 := blk_at g0 2
  have s3 := blk_at g0 3
  have s4 := blk_at g0 4
  have s5 := blk_at g0 5
  have s6 := blk_at g0 6
  have s7 := blk_at g0 7
  simp at s0 s1 s2 s3 s4 s5 s6 s7
  have HT : Hid (∀ W b, Calls Try.prog 70 #[.bool b] W fun e w' => e = .returned (.int .u64 (b.toNat : Int)) ∧ w' = W) := truthG
  have q1 : W0.heap[w.heap.size + 1]? = some (.cells #[.int .i64 0, .int .u64 0, .int .u64 0, .int .u64 0, .int .u64 0, .int .u64 0, .int .u64 0, .int .u64 0, .int .u64 0, .slice none 0 0] 41 (0, 0)) := by
    have h := heap_new (w.alloc (.cells #[.bool st, .int .u32 (sc : Int), .int .u64 (sk : Int), .int .u16 (f : Int), .int .u16 (t : Int), .int .u64 (c : Int), .int .u64 (o : Int), .slice ao2 n2 cap2] 103)) (.cells #[.int .i64 0, .int .u64 0, .int .u64 0, .int .u64 0, .int .u64 0, .int .u64 0, .int .u64 0, .int .u64 0, .int .u64 0, .slice none 0 0] 41)
    rw [World.size_alloc] at h
    rw [hW0]; exact h
  have HQ : Hid _ := q1
  have HB0 : Hid (Below w.heap.size w W0) := by show Below _ _ _; rw [hW0]; exact bx2_bel w _ _
  have r0 := blk_at q1 0
  have f0 := blk_free q1 0
  have r1 := blk_at q1 1
  have f1 := blk_free q1 1
  have r2 := blk_at q1 2
  have f2 := blk_free q1 2
  have r3 := blk_at q1 3
  have f3 := blk_free q1 3
  have r4 := blk_at q1 4
  have f4 := blk_free q1 4
  have r5 := blk_at q1 5
  have f5 := blk_free q1 5
  have r6 := blk_at q1 6
  have f6 := blk_free q1 6
  have r7 := blk_at q1 7
  have f7 := blk_free q1 7
  have r8 := blk_at q1 8
  have f8 := blk_free q1 8
  have r9 := blk_at q1 9
  have f9 := blk_free q1 9
  simp at r0 r1 r2 r3 r4 r5 r6 r7 r8 r9
  clear q1 g0
  go_enter Try.func39, Try.ntmps39
  go_wp2
  rw [← hW0]
  clear hW0
  go_region_held3 (fun w' => (((((((w'.cell? ⟨w.heap.size, 0, none⟩ = some (.bool st)) ∧ w'.cell? ⟨w.heap.size, 1, none⟩ = some (.int .u32 (sc : Int))) ∧ w'.cell? ⟨w.heap.size, 2, none⟩ = some (.int .u64 (sk : Int))) ∧ w'.cell? ⟨w.heap.size, 3, none⟩ = some (.int .u16 (f : Int))) ∧ w'.cell? ⟨w.heap.size, 4, none⟩ = some (.int .u16 (t : Int))) ∧ w'.cell? ⟨w.heap.size, 5, none⟩ = some (.int .u64 (c : Int))) ∧ w'.cell? ⟨w.heap.size, 6, none⟩ = some (.int .u64 (o : Int))) ∧ w'.cell? ⟨w.heap.size, 7, none⟩ = some (.slice ao2 n2 cap2)) (go_keep) (first | (go_at_call 70; refine (HT.out _ _).mono ?_; rintro e w9 ⟨rfl, rfl⟩))
  all_goals
    go_wp2
    simp only [wrapU sc (by omega), wrapU f (by omega), wrapU t (by omega)]
    have HK : Hid _ := close10 (w := w) HQ.out HB0.out (Nat.le_succ _) (.int .i64 cu) (.int .u64 (st.toNat : Int)) (.int .u64 (sc : Int)) (.int .u64 (sk : Int)) (.int .u64 (f : Int)) (.int .u64 (t : Int)) (.int .u64 (c : Int)) (.int .u64 (o : Int)) (.int .u64 0) (.slice ao2 n2 cap2)
    exact bodyPost_ret (results_cell_one rfl _ _ (w.heap.size + 1) 41 #[.int .i64 cu, .int .u64 (st.toNat : Int), .int .u64 (sc : Int), .int .u64 (sk : Int), .int .u64 (f : Int), .int .u64 (t : Int), .int .u64 (c : Int), .int .u64 (o : Int), .int .u64 0, .slice ao2 n2 cap2] (0, 0) _ rfl HK.out.1 Try.underlying41 rfl infoC) rfl ⟨rfl, HK.out.2⟩
end Go.Proofs.Ytckfmpoddmccfaa

namespace Go.Proofs.Ytckfmpoddmccfaa
open Go.RowKit
set_option linter.unusedVariables false
set_option linter.unusedSimpArgs false
set_option maxRecDepth 100000

abbrev TRi : TypeId := 32
/-- the document's inbox -/
structure RIn (w : World) (B b : Nat) (v : Value) (rm ov : Nat) (l : List Nat) : Prop where
  blk : w.heap[b]? = some (.cells #[.int .i64 (rm : Int), v, .int .u64 (ov : Int)] TRi (0, 0))
  row : HRow w B v l
  hb : B ≤ b
  r1 : 1 ≤ rm
  r2 : rm ≤ 2097152
  le : l.length ≤ rm
  ov4 : ov < 4294967296
theorem RIn.c {w : World} {B b : Nat} {v : Value} {rm ov : Nat} {l : List Nat} (h : RIn w B b v rm ov l) (j : Nat) : w.cell? ⟨b, j, none⟩ = (#[.int .i64 (rm : Int), v, .int .u64 (ov : Int)] : Array Value)[j]? := blk_at h.blk j
theorem RIn.f {w : World} {B b : Nat} {v : Value} {rm ov : Nat} {l : List Nat} (h : RIn w B b v rm ov l) (j : Nat) : w.frozen? ⟨b, j, none⟩ = false := blk_free h.blk j
theorem RIn.ne {w : World} {B b : Nat} {v : Value} {rm ov : Nat} {l : List Nat} (h : RIn w B b v rm ov l) (g : Nat) (hg : v.ownBlock = some g) : g ≠ b := by
  rintro rfl
  obtain ⟨_, _, cur, hc⟩ := h.row.lo g hg
  have := h.blk.symm.trans hc
  simp at this
  exact absurd this.2 (by decide)
theorem RIn.keep {w w' : World} {B b : Nat} {v : Value} {rm ov : Nat} {l : List Nat} (h : RIn w B b v rm ov l) {S : Nat → Prop} (k : KeptIn S w w') (hd : ∀ g, ifp b v g → ¬ S g) : RIn w' B b v rm ov l :=
  ⟨(k.block b (block_lt h.blk) (hd b (.inl rfl))).trans h.blk, h.row.same fun g hg => k.block g (h.row.lo g hg).2.1 (hd g (.inr hg)), h.hb, h.r1, h.r2, h.le, h.ov4⟩
theorem RIn.later {w w' : World} {B b : Nat} {v : Value} {rm ov : Nat} {l : List Nat} (h : RIn w B b v rm ov l) (hb : Below w.heap.size w w') : RIn w' B b v rm ov l :=
  h.keep (S := fun _ => False) (KeptIn.ofBelow hb) (fun _ _ h => h)
theorem RIn.drewN {w : World} {B b : Nat} {v : Value} {rm ov : Nat} {l : List Nat} (h : RIn w B b v rm ov l) (q : Nat) : RIn (w.drewN q) B b v rm ov l := h.later ⟨rfl, rfl, rfl, Nat.le_refl _, fun _ _ => rfl⟩
theorem RIn.lt {w : World} {B b : Nat} {v : Value} {rm ov : Nat} {l : List Nat} (h : RIn w B b v rm ov l) (g : Nat) (hg : ifp b v g) : B ≤ g ∧ g < w.heap.size := by
  rcases hg with rfl | hg
  · exact ⟨h.hb, block_lt h.blk⟩
  · exact ⟨(h.row.lo g hg).1, (h.row.lo g hg).2.1⟩
/-- a store into its third cell -/
theorem RIn.putO {w : World} {B b : Nat} {v : Value} {rm ov : Nat} {l : List Nat} (h : RIn w B b v rm ov l) (o : Nat) (ho : o < 4294967296) :
    RIn (w.setCell ⟨b, 2, none⟩ (.int .u64 (o : Int))) B b v rm o l ∧ KeptIn (fun g => g = b) w (w.setCell ⟨b, 2, none⟩ (.int .u64 (o : Int))) := by
  have hk : KeptIn (fun g => g = b) w (w.setCell ⟨b, 2, none⟩ (.int .u64 (o : Int))) := ⟨rfl, rfl, rfl, by simp [World.setCell], fun g hg hn => Below.heap_setCell _ _ _ _ (fun e => hn e)⟩
  refine ⟨⟨?_, h.row.same fun g hg => Below.heap_setCell _ _ _ _ (h.ne g hg), h.hb, h.r1, h.r2, h.le, ho⟩, hk⟩
  have := heap_setCell_same w b 2 _ TRi (.int .u64 (o : Int)) h.blk
  rw [this]; rfl
/-- other bytes are held -/
theorem RIn.putV {w w1 : World} {B b : Nat} {v v' : Value} {rm ov : Nat} {l l' : List Nat} (h : RIn w B b v rm ov l) (hg : w.grownBy w1 v.ownBlock) (hr : HRow w1 B v' l') (hf : Fresh w v v') (hle : l'.length ≤ rm) :
    (w1.cell? ⟨b, 1, none⟩ = some v ∧ w1.frozen? ⟨b, 1, none⟩ = false) ∧ RIn (w1.setCell ⟨b, 1, none⟩ v') B b v' rm ov l' ∧ IAct w (w1.setCell ⟨b, 1, none⟩ v') b v v' := by
  have hb1 : w1.heap[b]? = some (.cells #[.int .i64 (rm : Int), v, .int .u64 (ov : Int)] TRi (0, 0)) := (hg.block b (block_lt h.blk) (fun e => h.ne b e.symm rfl)).trans h.blk
  have hne : ∀ g, v'.ownBlock = some g → g ≠ b := fun g hg' e => by
    subst e
    obtain ⟨_, _, cur, hc⟩ := hr.lo g hg'
    have := hb1.symm.trans hc
    simp at this
    exact absurd this.2 (by decide)
  refine ⟨⟨by rw [blk_at hb1]; rfl, blk_free hb1 1⟩, ⟨?_, hr.same fun g hg' => Below.heap_setCell _ _ _ _ (hne g hg'), h.hb, h.r1, h.r2, hle, h.ov4⟩, ⟨hg.os, hg.tape, hg.output, ?_, fun g hg' hn => ?_⟩, hf⟩
  · have := heap_setCell_same w1 b 1 _ TRi v' hb1
    rw [this]; rfl
  · have := hg.size; simpa [World.setCell] using this
  · rw [Below.heap_setCell _ _ _ _ (fun e => hn (.inl e))]
    exact hg.block g hg' (fun e => hn (.inr e.symm))

/-- bytes elsewhere stay -/
theorem CRow.pastR {w w' : World} {B b : Nat} {v : Value} {rm ov : Nat} {l : List Nat} {ao : Option Addr} {cap : Nat} {m : List Nat} (hm : CRow w ao cap m) (h : RIn w B b v rm ov l) (k : KeptIn (fun g => g = b) w w') : CRow w' ao cap m := by
  refine ⟨⟨hm.row.lt, hm.row.len, hm.row.nil, fun hne => ?_⟩, hm.cap1, hm.cap2⟩
  obtain ⟨g, off, e, hc⟩ := hm.row.at_ hne
  refine ⟨g, off, e, fun j hj => ?_⟩
  have hx := hc j hj
  have hgb : g ≠ b := by
    rintro rfl
    rw [h.c] at hx
    obtain ⟨ao', cap', rfl, _⟩ := h.row.crow
    generalize off + j = i at hx
    match i, hx with
    | 0, hx => simp [bv] at hx
    | 1, hx => simp [bv] at hx
    | 2, hx => simp [bv] at hx
    | i + 3, hx => simp at hx
  have hlt : g < w.heap.size := World.block_lt_of_cell? w _ hx
  rw [← hx]
  exact World.cell?_of_block (k.block g hlt hgb)
theorem IAct.belowR {w w' : World} {B b : Nat} {v v' : Value} {rm ov : Nat} {l : List Nat} (h : IAct w w' b v v') (hi : RIn w B b v rm ov l) : Below B w w' :=
  h.kept.below (Nat.le_trans hi.hb (Nat.le_of_lt (block_lt hi.blk))) (fun g hg hf => by have := (hi.lt g hf).1; omega)
set_option maxHeartbeats 400000 in
theorem rnewI (r : Nat) (h1 : 1 ≤ r) (h2 : r ≤ 2097152) (w : World) :
    Calls Try.prog 26 #[.int .i64 (r : Int)] w fun e w' => e = .returned (.tuple #[.pointer (some ⟨w.heap.size, 0, none⟩), .int .i64 0]) ∧ RIn w' w.heap.size w.heap.size (.slice none 0 0) r 0 [] ∧ Below w.heap.size w w' := by
  have t1 : decide ((r : Int) < 1) = false := by simp; omega
  have t2 : decide ((2097152 : Int) < (r : Int)) = false := by simp; omega
  have t3 : ¬ ((2097152 : Int) < (r : Int)) := by omega
  have t4 : ¬ ((r : Int) < 1) := by omega
  have HP : Hid (RIn (w.alloc (.cells #[.int .i64 (r : Int), .slice none 0 0, .int .u64 0] TRi)) w.heap.size w.heap.size (.slice none 0 0) r 0 [] ∧ Below w.heap.size w (w.alloc (.cells #[.int .i64 (r : Int), .slice none 0 0, .int .u64 0] TRi))) :=
    ⟨⟨heap_new w _, ⟨by simp, by simp, .inl (World.ownsRow_nil _ _ _ _)⟩, Nat.le_refl _, h1, h2, by simp, by decide⟩, (Below.refl _ _).alloc (Nat.le_refl _) _⟩
  go_enter Try.func26, Try.ntmps26
  go_wp2
  go_ret2
  exact ⟨rfl, HP.out.1, HP.out.2⟩
set_option maxHeartbeats 400000 in
theorem rnewI_bad (r : Int) (h : r < 1 ∨ 2097152 < r) (w : World) :
    Calls Try.prog 26 #[.int .i64 r] w fun e w' => e = .returned (.tuple #[.pointer none, .int .i64 90]) ∧ w' = w := by
  by_cases t1 : r < 1
  · go_enter Try.func26, Try.ntmps26
    go_wp2
    go_ret2
    exact ⟨rfl, rfl⟩
  · have t2 : 2097152 < r := by omega
    have t3 : decide (2097152 < r) = true := by simp; omega
    go_enter Try.func26, Try.ntmps26
    go_wp2
    go_ret2
    exact ⟨rfl, rfl⟩
set_option maxHeartbeats 4000000 in
theorem rfeedI {w : World} {B b : Nat} {v : Value} {rm ov : Nat} {l : List Nat} (h : RIn w B b v rm ov l) (ao : Option Addr) (cap n : Nat) (m : List Nat) (hm : CRow w ao cap m) (HN : Hid (m.length = n)) (hn : n ≤ 1099511627776) (p k : Nat) (hp : min n ov = p) (hk : min (n - p) (rm - l.length) = k) :
    Calls Try.prog 29 #[.pointer (some ⟨b, 0, none⟩), .slice ao n cap] w fun e w' => e = .returned (.int .i64 ((p + k : Nat) : Int)) ∧ ∃ v', RIn w' B b v' rm (ov - p) (l ++ (m.drop p).take k) ∧ IAct w w' b v v' := by
  obtain ⟨i0, hi, hz0, hz1, hz2⟩ := info_parts Try.info5
  have HC : Hid (CRow w ao cap m) := hm
  have HI0 : Hid (RIn w B b v rm ov l) := h
  have hB : B ≤ w.heap.size := Nat.le_trans h.hb (Nat.le_of_lt (block_lt h.blk))
  have hr2 := h.r2
  have hle := h.le
  have hov := h.ov4
  obtain ⟨vo, vc, rfl, hvc⟩ := h.row.crow
  have k0 := h.c 0
  have k1 := h.c 1
  have k2 := h.c 2
  have f2 := h.f 2
  simp at k0 k1 k2
  clear h hm hvc
  obtain ⟨R, hR⟩ : ∃ R, rm - l.length = R := ⟨_, rfl⟩
  obtain ⟨N1, hN1⟩ : ∃ N1, n - p = N1 := ⟨_, rfl⟩
  obtain ⟨T, hT⟩ : ∃ T, p + k = T := ⟨_, rfl⟩
  obtain ⟨O, hO⟩ : ∃ O, ov - p = O := ⟨_, rfl⟩
  have q1 : IntKind.i64.wrap ((n : Int) - (p : Int)) = (N1 : Int) := by rw [IntKind.wrap_i64]; omega
  have u1 : IntKind.u64.wrap (n : Int) = (n : Int) := by rw [IntKind.wrap_u64]; omega
  have u2 : IntKind.i64.wrap (ov : Int) = (ov : Int) := by rw [IntKind.wrap_i64]; omega
  have u3 : IntKind.u64.wrap (p : Int) = (p : Int) := by rw [IntKind.wrap_u64]; omega
  have u4 : IntKind.u64.wrap ((ov : Int) - (p : Int)) = (O : Int) := by rw [IntKind.wrap_u64]; omega
  have u5 : IntKind.i64.wrap ((rm : Int) - (l.length : Int)) = (R : Int) := by rw [IntKind.wrap_i64]; omega
  have hPo := HI0.out.putO O (by omega)
  have HI1 : Hid _ := hPo.1
  have HA1 : Hid (IAct w (w.setCell ⟨b, 2, none⟩ (.int .u64 (O : Int))) b (.slice vo l.length vc) (.slice vo l.length vc)) := IAct.ofKept hPo.2
  have HC1 : Hid (CRow (w.setCell ⟨b, 2, none⟩ (.int .u64 (O : Int))) ao cap m) := HC.out.pastR HI0.out hPo.2
  have MIDP : Hid (∀ q, RIn ((w.setCell ⟨b, 2, none⟩ (.int .u64 (O : Int))).drewN q) B b (.slice vo l.length vc) rm O l) := fun q => HI1.out.drewN q
  clear hPo
  go_enter Try.func29, Try.ntmps29
  have hcap1 := HC.out.cap1
  have hcap2 := HC.out.cap2
  have hnil := HC.out.row.nil
  rw [HN.out] at hcap1
  have hp2 : (ov < n ∧ p = ov) ∨ (¬ ov < n ∧ p = n) := by omega
  clear HC MIDP HI0
  have MAIN : ∀ (W1 : World), W1 = w.setCell ⟨b, 2, none⟩ (.int .u64 (O : Int)) → Hid (RIn W1 B b (.slice vo l.length vc) rm O l) := fun W1 h => by rw [h]; exact HI1.out
  clear MAIN
  rcases hp2 with ⟨hpn, hpe⟩ | ⟨hpn, hpe⟩
  · subst hpe
    obtain rfl : O = 0 := by omega
    go_wp2
    have c0 := HI1.out.c 0
    have c1 := HI1.out.c 1
    have f1 := HI1.out.f 1
    simp at c0 c1
    generalize w.setCell ⟨b, 2, none⟩ (.int .u64 0) = W1 at *
    clear c0 c1 f1
    have c0 := HI1.out.c 0
    have c1 := HI1.out.c 1
    simp at c0 c1
    go_quiet (fail)
    have HI2 : Hid _ := HI1.out.drewN nq
    have HA2 : Hid (IAct w (W1.drewN nq) b (.slice vo l.length vc) (.slice vo l.length vc)) := HA1.out.trans (IAct.drewN nq)
    have HC2 : Hid (CRow (W1.drewN nq) ao cap m) := HC1.out.later ⟨rfl, rfl, rfl, Nat.le_refl _, fun _ _ => rfl⟩
    generalize W1.drewN nq = wa at *
    have c0 := HI2.out.c 0
    have c1 := HI2.out.c 1
    have f1 := HI2.out.f 1
    simp at c0 c1
    have hk2 : (R = k ∧ R < N1) ∨ (N1 = k ∧ ¬ R < N1) := by omega
    rcases hk2 with ⟨hRk, hlt⟩ | ⟨hRk, hlt⟩
    · subst hRk
      have hlt2 : (R : Int) < (N1 : Int) := by omega
      go_wp2
      go_quiet (fail)
      have HI2 : Hid _ := HI2.out.drewN nq
      have HA2 : Hid (IAct w (wa.drewN nq) b (.slice vo l.length vc) (.slice vo l.length vc)) := HA2.out.trans (IAct.drewN nq)
      have HC2 : Hid (CRow (wa.drewN nq) ao cap m) := HC2.out.later ⟨rfl, rfl, rfl, Nat.le_refl _, fun _ _ => rfl⟩
      generalize wa.drewN nq = w2 at *
      have c0 := HI2.out.c 0
      have c1 := HI2.out.c 1
      have f1 := HI2.out.f 1
      simp at c0 c1
      have hB2 : B ≤ w2.heap.size := Nat.le_trans HI2.out.hb (Nat.le_of_lt (block_lt HI2.out.blk))
      have hD : Below w2.heap.size w2 w2.drew := ⟨rfl, rfl, rfl, Nat.le_refl _, fun _ _ => rfl⟩
      have q2 : IntKind.i64.wrap ((p : Int) + (R : Int)) = (T : Int) := by rw [IntKind.wrap_i64]; omega
      have q3 : (p : Int) ≤ (T : Int) := by omega
      have q4 : (T : Int) ≤ (cap : Int) := by omega
      have q5 : T - p = R := by omega
      have q6 : (T : Int) - (p : Int) = (R : Int) := by omega
      have HLn : Hid (((m.drop p).take R).length = R) := by show _ = _; have := HN.out; rw [List.length_take, List.length_drop]; omega
      obtain ⟨ab, aof, rfl⟩ : ∃ ab aof, ao = some ⟨ab, aof, none⟩ := by
        obtain ⟨x, y, e, _⟩ := HC2.out.row.at_ (by intro e; have := HN.out; rw [e] at this; simp at this; omega)
        exact ⟨x, y, e⟩
      have hB0 := HC2.out.part p R (by rw [HN.out]; omega) _ rfl
      clear HC2
      have hcp : ¬ p = cap := by omega
      rw [if_neg (fun e => hcp e.symm)] at hB0
      have HB : Hid _ := hB0
      have hca : ((cap - p : Nat) : Int) = (cap : Int) - (p : Int) := by omega
      have hcn : ¬ (cap - p = 0) := by omega
      have hcn3 : ¬ (cap = p) := fun e => hcp e.symm
      have hcn2 : ¬ ((cap : Int) - (p : Int) = 0) := by omega
      clear hB0
      have HX : Hid (HRow w2.drew B (.slice vo l.length vc) l ∧ BRow w2.drew (some ⟨ab, aof + p, none⟩) (cap - p) ((m.drop p).take R) ∧ B ≤ w2.drew.heap.size) := ⟨HI2.out.row.later hD, HB.out.later hD, hB2⟩
      have HF : Hid (∀ (W' : World) ao' c', HRow W' B (.slice ao' (l.length + R) c') (l ++ ((m.drop p).take R)) → w2.drew.grownBy W' (Value.slice vo l.length vc).ownBlock → Fresh w2.drew (.slice vo l.length vc) (.slice ao' (l.length + R) c') → (W'.cell? ⟨b, 1, none⟩ = some (.slice vo l.length vc) ∧ W'.frozen? ⟨b, 1, none⟩ = false) ∧ RIn (W'.setCell ⟨b, 1, none⟩ (.slice ao' (l.length + R) c')) B b (.slice ao' (l.length + R) c') rm 0 (l ++ ((m.drop p).take R)) ∧ IAct w (W'.setCell ⟨b, 1, none⟩ (.slice ao' (l.length + R) c')) b (.slice vo l.length vc) (.slice ao' (l.length + R) c')) := fun W' ao' c' hr hg hf => by
        have hi := HI2.out.later hD
        have := hi.putV hg hr hf (by rw [List.length_append, HLn.out]; omega)
        exact ⟨this.1, this.2.1, HA2.out.trans ((IAct.ofBelow hD).trans this.2.2)⟩
      clear HI2 HA2
      go_wp2
      go_region_law (refine step_append_held rfl (.tmp 61) (.tmp 67) 22 rfl B i0 (.int .u8 0) Try.underlying22 hi hz0 hz1 hz2 rfl (.slice vo l.length vc) l (by simp [Act.eval, Act.put]) HX.out.1 (some ⟨ab, aof + p, none⟩) R (cap - p) ((m.drop p).take R) (by simp [Act.eval, Act.put]; try omega) HX.out.2.1 HLn.out (by omega) HX.out.2.2 ?_; intro ao' c' w3 hr3 hg3 hf3; obtain ⟨⟨c3, f3⟩, hp3⟩ := HF.out w3 ao' c' hr3 hg3 hf3; have HP3 : Hid _ := hp3; clear hp3 hr3 hg3 hf3)
      all_goals
        go_wp2
        go_ret
        rw [hO]
        exact ⟨ret_i64 (by omega), _, HP3.out.1, HP3.out.2⟩
    · subst hRk
      have hlt2 : ¬ ((R : Int) < (N1 : Int)) := by omega
      have hlt3 : decide ((R : Int) < (N1 : Int)) = false := by simp; omega
      generalize wa = w2 at *
      have hB2 : B ≤ w2.heap.size := Nat.le_trans HI2.out.hb (Nat.le_of_lt (block_lt HI2.out.blk))
      have hD : Below w2.heap.size w2 w2.drew := ⟨rfl, rfl, rfl, Nat.le_refl _, fun _ _ => rfl⟩
      have q2 : IntKind.i64.wrap ((p : Int) + (N1 : Int)) = (T : Int) := by rw [IntKind.wrap_i64]; omega
      have q3 : (p : Int) ≤ (T : Int) := by omega
      have q4 : (T : Int) ≤ (cap : Int) := by omega
      have q5 : T - p = N1 := by omega
      have q6 : (T : Int) - (p : Int) = (N1 : Int) := by omega
      have HLn : Hid (((m.drop p).take N1).length = N1) := by show _ = _; have := HN.out; rw [List.length_take, List.length_drop]; omega
      obtain ⟨ab, aof, rfl⟩ : ∃ ab aof, ao = some ⟨ab, aof, none⟩ := by
        obtain ⟨x, y, e, _⟩ := HC2.out.row.at_ (by intro e; have := HN.out; rw [e] at this; simp at this; omega)
        exact ⟨x, y, e⟩
      have hB0 := HC2.out.part p N1 (by rw [HN.out]; omega) _ rfl
      clear HC2
      have hcp : ¬ p = cap := by omega
      rw [if_neg (fun e => hcp e.symm)] at hB0
      have HB : Hid _ := hB0
      have hca : ((cap - p : Nat) : Int) = (cap : Int) - (p : Int) := by omega
      have hcn : ¬ (cap - p = 0) := by omega
      have hcn3 : ¬ (cap = p) := fun e => hcp e.symm
      have hcn2 : ¬ ((cap : Int) - (p : Int) = 0) := by omega
      clear hB0
      have HX : Hid (HRow w2.drew B (.slice vo l.length vc) l ∧ BRow w2.drew (some ⟨ab, aof + p, none⟩) (cap - p) ((m.drop p).take N1) ∧ B ≤ w2.drew.heap.size) := ⟨HI2.out.row.later hD, HB.out.later hD, hB2⟩
      have HF : Hid (∀ (W' : World) ao' c', HRow W' B (.slice ao' (l.length + N1) c') (l ++ ((m.drop p).take N1)) → w2.drew.grownBy W' (Value.slice vo l.length vc).ownBlock → Fresh w2.drew (.slice vo l.length vc) (.slice ao' (l.length + N1) c') → (W'.cell? ⟨b, 1, none⟩ = some (.slice vo l.length vc) ∧ W'.frozen? ⟨b, 1, none⟩ = false) ∧ RIn (W'.setCell ⟨b, 1, none⟩ (.slice ao' (l.length + N1) c')) B b (.slice ao' (l.length + N1) c') rm 0 (l ++ ((m.drop p).take N1)) ∧ IAct w (W'.setCell ⟨b, 1, none⟩ (.slice ao' (l.length + N1) c')) b (.slice vo l.length vc) (.slice ao' (l.length + N1) c')) := fun W' ao' c' hr hg hf => by
        have hi := HI2.out.later hD
        have := hi.putV hg hr hf (by rw [List.length_append, HLn.out]; omega)
        exact ⟨this.1, this.2.1, HA2.out.trans ((IAct.ofBelow hD).trans this.2.2)⟩
      clear HI2 HA2
      go_wp2
      go_region_law (refine step_append_held rfl (.tmp 61) (.tmp 67) 22 rfl B i0 (.int .u8 0) Try.underlying22 hi hz0 hz1 hz2 rfl (.slice vo l.length vc) l (by simp [Act.eval, Act.put]) HX.out.1 (some ⟨ab, aof + p, none⟩) N1 (cap - p) ((m.drop p).take N1) (by simp [Act.eval, Act.put]; try omega) HX.out.2.1 HLn.out (by omega) HX.out.2.2 ?_; intro ao' c' w3 hr3 hg3 hf3; obtain ⟨⟨c3, f3⟩, hp3⟩ := HF.out w3 ao' c' hr3 hg3 hf3; have HP3 : Hid _ := hp3; clear hp3 hr3 hg3 hf3)
      all_goals
        go_wp2
        go_ret
        rw [hO]
        exact ⟨ret_i64 (by omega), _, HP3.out.1, HP3.out.2⟩
  · subst hpe
    obtain rfl : N1 = 0 := by omega
    obtain rfl : k = 0 := by omega
    obtain rfl : p = T := by omega
    go_wp2
    have c0 := HI1.out.c 0
    have c1 := HI1.out.c 1
    have f1 := HI1.out.f 1
    simp at c0 c1
    generalize w.setCell ⟨b, 2, none⟩ (.int .u64 (O : Int)) = W1 at *
    clear c0 c1 f1
    have c0 := HI1.out.c 0
    have c1 := HI1.out.c 1
    simp at c0 c1
    go_quiet (fail)
    have HI2 : Hid _ := HI1.out.drewN nq
    have HA2 : Hid (IAct w (W1.drewN nq) b (.slice vo l.length vc) (.slice vo l.length vc)) := HA1.out.trans (IAct.drewN nq)
    have HC2 : Hid (CRow (W1.drewN nq) ao cap m) := HC1.out.later ⟨rfl, rfl, rfl, Nat.le_refl _, fun _ _ => rfl⟩
    generalize W1.drewN nq = w2 at *
    have c0 := HI2.out.c 0
    have c1 := HI2.out.c 1
    have f1 := HI2.out.f 1
    simp at c0 c1
    have hB2 : B ≤ w2.heap.size := Nat.le_trans HI2.out.hb (Nat.le_of_lt (block_lt HI2.out.blk))
    have hD : Below w2.heap.size w2 w2.drew := ⟨rfl, rfl, rfl, Nat.le_refl _, fun _ _ => rfl⟩
    have hlt2 : ¬ ((R : Int) < 0) := by omega
    have hlt3 : decide ((R : Int) < 0) = false := by simp
    have u6 : IntKind.i64.wrap (p : Int) = (p : Int) := by rw [IntKind.wrap_i64]; omega
    have q4 : (p : Int) ≤ (cap : Int) := by omega
    clear HC2
    cases ao with
    | none =>
      obtain ⟨_, rfl⟩ := hnil rfl
      have hp0 : p = 0 := by omega
      subst hp0
      have u7 : IntKind.i64.wrap 0 = 0 := by decide
      have HX : Hid (HRow w2.drew B (.slice vo l.length vc) l ∧ (∀ ao c, (ao = none → c = 0) → BRow w2.drew ao c []) ∧ B ≤ w2.drew.heap.size) := ⟨HI2.out.row.later hD, (fun ao c h => ⟨by simp, by simp, fun e => ⟨rfl, h e⟩, fun h => absurd rfl h⟩), hB2⟩
      have HF : Hid (∀ (W' : World) ao' c', HRow W' B (.slice ao' (l.length + 0) c') (l ++ []) → w2.drew.grownBy W' (Value.slice vo l.length vc).ownBlock → Fresh w2.drew (.slice vo l.length vc) (.slice ao' (l.length + 0) c') → (W'.cell? ⟨b, 1, none⟩ = some (.slice vo l.length vc) ∧ W'.frozen? ⟨b, 1, none⟩ = false) ∧ RIn (W'.setCell ⟨b, 1, none⟩ (.slice ao' (l.length + 0) c')) B b (.slice ao' (l.length + 0) c') rm O (l ++ []) ∧ IAct w (W'.setCell ⟨b, 1, none⟩ (.slice ao' (l.length + 0) c')) b (.slice vo l.length vc) (.slice ao' (l.length + 0) c')) := fun W' ao' c' hr hg hf => by
        have hi := HI2.out.later hD
        have := hi.putV hg hr hf (by simp; omega)
        exact ⟨this.1, this.2.1, HA2.out.trans ((IAct.ofBelow hD).trans this.2.2)⟩
      clear HI2 HA2
      go_wp2
      go_region_law (refine step_append_held rfl (.tmp 61) (.tmp 67) 22 rfl B i0 (.int .u8 0) Try.underlying22 hi hz0 hz1 hz2 rfl (.slice vo l.length vc) l (by simp [Act.eval, Act.put]) HX.out.1 none 0 0 [] (by simp [Act.eval, Act.put]) (HX.out.2.1 _ _ (by simp)) rfl (by omega) HX.out.2.2 ?_; intro ao' c' w3 hr3 hg3 hf3; obtain ⟨⟨c3, f3⟩, hp3⟩ := HF.out w3 ao' c' hr3 hg3 hf3; have HP3 : Hid _ := hp3; clear hp3 hr3 hg3 hf3)
      all_goals
        go_wp2
        go_ret
        rw [hO]
        have hp3 := HP3.out
        simp only [List.append_nil, Nat.add_zero] at hp3
        simp
        exact ⟨_, hp3.1, hp3.2⟩
    | some a =>
      by_cases hcp : p = cap
      · subst hcp
        have HX : Hid (HRow w2.drew B (.slice vo l.length vc) l ∧ (∀ ao c, (ao = none → c = 0) → BRow w2.drew ao c []) ∧ B ≤ w2.drew.heap.size) := ⟨HI2.out.row.later hD, (fun ao c h => ⟨by simp, by simp, fun e => ⟨rfl, h e⟩, fun h => absurd rfl h⟩), hB2⟩
        have HF : Hid (∀ (W' : World) ao' c', HRow W' B (.slice ao' (l.length + 0) c') (l ++ []) → w2.drew.grownBy W' (Value.slice vo l.length vc).ownBlock → Fresh w2.drew (.slice vo l.length vc) (.slice ao' (l.length + 0) c') → (W'.cell? ⟨b, 1, none⟩ = some (.slice vo l.length vc) ∧ W'.frozen? ⟨b, 1, none⟩ = false) ∧ RIn (W'.setCell ⟨b, 1, none⟩ (.slice ao' (l.length + 0) c')) B b (.slice ao' (l.length + 0) c') rm O (l ++ []) ∧ IAct w (W'.setCell ⟨b, 1, none⟩ (.slice ao' (l.length + 0) c')) b (.slice vo l.length vc) (.slice ao' (l.length + 0) c')) := fun W' ao' c' hr hg hf => by
          have hi := HI2.out.later hD
          have := hi.putV hg hr hf (by simp; omega)
          exact ⟨this.1, this.2.1, HA2.out.trans ((IAct.ofBelow hD).trans this.2.2)⟩
        clear HI2 HA2
        go_wp2
        go_region_law (refine step_append_held rfl (.tmp 61) (.tmp 67) 22 rfl B i0 (.int .u8 0) Try.underlying22 hi hz0 hz1 hz2 rfl (.slice vo l.length vc) l (by simp [Act.eval, Act.put]) HX.out.1 (some a) 0 0 [] (by simp [Act.eval, Act.put]) (HX.out.2.1 _ _ (by simp)) rfl (by omega) HX.out.2.2 ?_; intro ao' c' w3 hr3 hg3 hf3; obtain ⟨⟨c3, f3⟩, hp3⟩ := HF.out w3 ao' c' hr3 hg3 hf3; have HP3 : Hid _ := hp3; clear hp3 hr3 hg3 hf3)
        all_goals
          go_wp2
          go_ret
          rw [hO]
          have hp3 := HP3.out
          simp only [List.append_nil, Nat.add_zero] at hp3
          simp
          exact ⟨_, hp3.1, hp3.2⟩
      · have hcn : ¬ (cap - p = 0) := by omega
        have hcn3 : ¬ (cap = p) := fun e => hcp e.symm
        have hcn2 : ¬ ((cap : Int) - (p : Int) = 0) := by omega
        have hca : ((cap - p : Nat) : Int) = (cap : Int) - (p : Int) := by omega
        have HX : Hid (HRow w2.drew B (.slice vo l.length vc) l ∧ (∀ ao c, (ao = none → c = 0) → BRow w2.drew ao c []) ∧ B ≤ w2.drew.heap.size) := ⟨HI2.out.row.later hD, (fun ao c h => ⟨by simp, by simp, fun e => ⟨rfl, h e⟩, fun h => absurd rfl h⟩), hB2⟩
        have HF : Hid (∀ (W' : World) ao' c', HRow W' B (.slice ao' (l.length + 0) c') (l ++ []) → w2.drew.grownBy W' (Value.slice vo l.length vc).ownBlock → Fresh w2.drew (.slice vo l.length vc) (.slice ao' (l.length + 0) c') → (W'.cell? ⟨b, 1, none⟩ = some (.slice vo l.length vc) ∧ W'.frozen? ⟨b, 1, none⟩ = false) ∧ RIn (W'.setCell ⟨b, 1, none⟩ (.slice ao' (l.length + 0) c')) B b (.slice ao' (l.length + 0) c') rm O (l ++ []) ∧ IAct w (W'.setCell ⟨b, 1, none⟩ (.slice ao' (l.length + 0) c')) b (.slice vo l.length vc) (.slice ao' (l.length + 0) c')) := fun W' ao' c' hr hg hf => by
          have hi := HI2.out.later hD
          have := hi.putV hg hr hf (by simp; omega)
          exact ⟨this.1, this.2.1, HA2.out.trans ((IAct.ofBelow hD).trans this.2.2)⟩
        clear HI2 HA2
        go_wp2
        go_region_law (refine step_append_held rfl (.tmp 61) (.tmp 67) 22 rfl B i0 (.int .u8 0) Try.underlying22 hi hz0 hz1 hz2 rfl (.slice vo l.length vc) l (by simp [Act.eval, Act.put]) HX.out.1 _ 0 _ [] (by rfl) (HX.out.2.1 _ _ (by simp)) rfl (by omega) HX.out.2.2 ?_; intro ao' c' w3 hr3 hg3 hf3; obtain ⟨⟨c3, f3⟩, hp3⟩ := HF.out w3 ao' c' hr3 hg3 hf3; have HP3 : Hid _ := hp3; clear hp3 hr3 hg3 hf3)
        all_goals
          go_wp2
          go_ret
          rw [hO]
          have hp3 := HP3.out
          simp only [List.append_nil, Nat.add_zero] at hp3
          simp
          exact ⟨_, hp3.1, hp3.2⟩
end Go.Proofs.Ytckfmpoddmccfaa
