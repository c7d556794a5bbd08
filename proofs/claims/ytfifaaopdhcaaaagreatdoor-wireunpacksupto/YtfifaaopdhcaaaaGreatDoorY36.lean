import Derived.Test.YtfifaaopdhcaaaaGreatDoorY19
import Derived.Test.YtfifaaopdhcaaaaGreatDoorY27
import Derived.Test.YtfifaaopdhcaaaaGreatDoorY13
import Derived.Deep.RegionHeld3
import Derived.Deep.CutRange
namespace Go.Proofs.YtfifaaopdhcaaaaGreatDoor
open Go.RowKit
set_option linter.unusedVariables false
set_option linter.unusedSimpArgs false
set_option maxRecDepth 100000
set_option maxHeartbeats 2000000 in
theorem rErrU1_short (ao : Option Addr) (cap n : Nat) (w : World) (h4 : n < 6) :
    Calls Tryz.prog 24 #[.slice ao n cap, .bool true] w fun e w' => e = .returned (.tuple #[.agg #[.int .u32 0, .string ⟨#[]⟩, .bool false, .int .u64 0], .int .i64 81]) ∧ Below w.heap.size w w' := by
  have t1 : decide ((n : Int) < 6) = true := by simp; omega
  have t2 : (n : Int) < 6 := by omega
  have hx := mkb1 w #[.int .u32 0, .string ⟨#[]⟩, .bool false, .int .u64 0] 74
  go_enter Tryz.func24, Tryz.ntmps24
  go_upto_region 1 with fail
  generalize w.alloc (Obj.cells #[.int .u32 0, .string ⟨#[]⟩, .bool false, .int .u64 0] 74) = W0 at *
  have HX : Hid (Bx1 w W0 #[.int .u32 0, .string ⟨#[]⟩, .bool false, .int .u64 0] 74) := hx
  clear hx
  have za0 : W0.cell? ⟨w.heap.size, 0, none⟩ = some (.int .u32 0) := (blk_at HX.out.a 0).trans rfl
  have zb0 : W0.frozen? ⟨w.heap.size, 0, none⟩ = false := blk_free HX.out.a 0
  have za1 : W0.cell? ⟨w.heap.size, 1, none⟩ = some (.string ⟨#[]⟩) := (blk_at HX.out.a 1).trans rfl
  have zb1 : W0.frozen? ⟨w.heap.size, 1, none⟩ = false := blk_free HX.out.a 1
  have za2 : W0.cell? ⟨w.heap.size, 2, none⟩ = some (.bool false) := (blk_at HX.out.a 2).trans rfl
  have zb2 : W0.frozen? ⟨w.heap.size, 2, none⟩ = false := blk_free HX.out.a 2
  have za3 : W0.cell? ⟨w.heap.size, 3, none⟩ = some (.int .u64 0) := (blk_at HX.out.a 3).trans rfl
  have zb3 : W0.frozen? ⟨w.heap.size, 3, none⟩ = false := blk_free HX.out.a 3
  go_wp2
  obtain ⟨hp, hq⟩ := putc4 HX.out.a (.int .u32 0) (.string ⟨#[]⟩) (.bool false) (.int .u64 0)
  exact bodyPost_ret (results_cell_tmp1 rfl _ _ w.heap.size 74 _ (0, 0) _ rfl hp Tryz.underlying74 rfl infoE) rfl ⟨rfl, HX.out.bel.trans (hq.below HX.out.bel.size (fun g hg => by omega))⟩
set_option maxHeartbeats 2000000 in
theorem rErrU1_len (b off cap n v : Nat) (l : List Nat) (w : World) (h : CRow w (some ⟨b, off, none⟩) cap l) (HN : Hid (l.length = n)) (hn : n ≤ 1048576) (h6 : 6 ≤ n) (hv : valB ((l.drop 4).take 2) = v) (hne : n ≠ 6 + v + 8) :
    Calls Tryz.prog 24 #[.slice (some ⟨b, off, none⟩) n cap, .bool true] w fun e w' => e = .returned (.tuple #[.agg #[.int .u32 0, .string ⟨#[]⟩, .bool false, .int .u64 0], .int .i64 81]) ∧ Below w.heap.size w w' := by
  have HV : Hid (∀ W, Below w.heap.size w W → Calls Tryz.prog 39 #[.slice (some ⟨b, off, none⟩) n cap, .int .i64 4, .int .i64 2] W fun e w' => e = .returned (.int .u64 (v : Int)) ∧ Below W.heap.size W w') := fun W hb => rvalueB b off cap _ 4 2 l W (h.later hb) HN (by omega) (by decide) (by decide) (by omega) _ hv
  have hv2 : v < 65536 := by rw [← hv]; exact val_lt h.row.lt 4 2 _ (by decide)
  have w1 : IntKind.i64.wrap (v : Int) = (v : Int) := by rw [IntKind.wrap_i64]; omega
  have w2 : IntKind.i64.wrap (6 + (v : Int)) = 6 + (v : Int) := by rw [IntKind.wrap_i64]; omega
  have w3 : IntKind.i64.wrap (6 + (v : Int) + 8) = 6 + (v : Int) + 8 := by rw [IntKind.wrap_i64]; omega
  have t1 : decide ((n : Int) < 6) = false := by simp; omega
  have t2 : ¬ (n : Int) < 6 := by omega
  have t3 : ((n : Int) == 6 + (v : Int) + 8) = false := by rw [beq_eq_false_iff_ne]; omega
  have t4 : ((n : Int) != 6 + (v : Int) + 8) = true := by simp [bne, t3]
  have t5 : ¬ (n : Int) = 6 + (v : Int) + 8 := by omega
  clear h hv
  have hx := mkb1 w #[.int .u32 0, .string ⟨#[]⟩, .bool false, .int .u64 0] 74
  go_enter Tryz.func24, Tryz.ntmps24
  go_upto_region 1 with fail
  generalize w.alloc (Obj.cells #[.int .u32 0, .string ⟨#[]⟩, .bool false, .int .u64 0] 74) = W0 at *
  have HX : Hid (Bx1 w W0 #[.int .u32 0, .string ⟨#[]⟩, .bool false, .int .u64 0] 74) := hx
  clear hx
  have za0 : W0.cell? ⟨w.heap.size, 0, none⟩ = some (.int .u32 0) := (blk_at HX.out.a 0).trans rfl
  have zb0 : W0.frozen? ⟨w.heap.size, 0, none⟩ = false := blk_free HX.out.a 0
  have za1 : W0.cell? ⟨w.heap.size, 1, none⟩ = some (.string ⟨#[]⟩) := (blk_at HX.out.a 1).trans rfl
  have zb1 : W0.frozen? ⟨w.heap.size, 1, none⟩ = false := blk_free HX.out.a 1
  have za2 : W0.cell? ⟨w.heap.size, 2, none⟩ = some (.bool false) := (blk_at HX.out.a 2).trans rfl
  have zb2 : W0.frozen? ⟨w.heap.size, 2, none⟩ = false := blk_free HX.out.a 2
  have za3 : W0.cell? ⟨w.heap.size, 3, none⟩ = some (.int .u64 0) := (blk_at HX.out.a 3).trans rfl
  have zb3 : W0.frozen? ⟨w.heap.size, 3, none⟩ = false := blk_free HX.out.a 3
  go_wp2_with fail
  refine Calls.mono (HV.out W0 HX.out.bel) ?_
  rintro e W1 ⟨rfl, hb1⟩
  have HX1 : Hid (Bx1 w W1 #[.int .u32 0, .string ⟨#[]⟩, .bool false, .int .u64 0] 74) := HX.out.later hb1
  clear hb1 HX
  clear za0 zb0 za1 zb1 za2 zb2 za3 zb3
  have ya0 : W1.cell? ⟨w.heap.size, 0, none⟩ = some (.int .u32 0) := (blk_at HX1.out.a 0).trans rfl
  have yb0 : W1.frozen? ⟨w.heap.size, 0, none⟩ = false := blk_free HX1.out.a 0
  have ya1 : W1.cell? ⟨w.heap.size, 1, none⟩ = some (.string ⟨#[]⟩) := (blk_at HX1.out.a 1).trans rfl
  have yb1 : W1.frozen? ⟨w.heap.size, 1, none⟩ = false := blk_free HX1.out.a 1
  have ya2 : W1.cell? ⟨w.heap.size, 2, none⟩ = some (.bool false) := (blk_at HX1.out.a 2).trans rfl
  have yb2 : W1.frozen? ⟨w.heap.size, 2, none⟩ = false := blk_free HX1.out.a 2
  have ya3 : W1.cell? ⟨w.heap.size, 3, none⟩ = some (.int .u64 0) := (blk_at HX1.out.a 3).trans rfl
  have yb3 : W1.frozen? ⟨w.heap.size, 3, none⟩ = false := blk_free HX1.out.a 3
  go_wp2
  obtain ⟨hp, hq⟩ := putc4 HX1.out.a (.int .u32 0) (.string ⟨#[]⟩) (.bool false) (.int .u64 0)
  exact bodyPost_ret (results_cell_tmp1 rfl _ _ w.heap.size 74 _ (0, 0) _ rfl hp Tryz.underlying74 rfl infoE) rfl ⟨rfl, HX1.out.bel.trans (hq.below HX1.out.bel.size (fun g hg => by omega))⟩
set_option maxHeartbeats 4000000 in
theorem rErrU1_bad (b off cap v : Nat) (l : List Nat) (w : World) (h : CRow w (some ⟨b, off, none⟩) cap l) (HN : Hid (l.length = 6 + v + 8)) (hn : 6 + v + 8 ≤ 1048576) (hv : valB ((l.drop 4).take 2) = v) (s : ByteArray) (hs : bstr ((l.drop 6).take v) = s) (ht : tx s = false) :
    Calls Tryz.prog 24 #[.slice (some ⟨b, off, none⟩) (6 + v + 8) cap, .bool true] w fun e w' => e = .returned (.tuple #[.agg #[.int .u32 0, .string ⟨#[]⟩, .bool false, .int .u64 0], .int .i64 81]) ∧ Below w.heap.size w w' := by
  have HV : Hid (∀ W, Below w.heap.size w W → Calls Tryz.prog 39 #[.slice (some ⟨b, off, none⟩) (6 + v + 8) cap, .int .i64 4, .int .i64 2] W fun e w' => e = .returned (.int .u64 (v : Int)) ∧ Below W.heap.size W w') := fun W hb => rvalueB b off cap _ 4 2 l W (h.later hb) HN (by omega) (by decide) (by decide) (by omega) _ hv
  have hv2 : v < 65536 := by rw [← hv]; exact val_lt h.row.lt 4 2 _ (by decide)
  have w1 : IntKind.i64.wrap (v : Int) = (v : Int) := by rw [IntKind.wrap_i64]; omega
  have w2 : IntKind.i64.wrap (6 + (v : Int)) = 6 + (v : Int) := by rw [IntKind.wrap_i64]; omega
  have w3 : IntKind.i64.wrap (6 + (v : Int) + 8) = 6 + (v : Int) + 8 := by rw [IntKind.wrap_i64]; omega
  have hcap : 6 + v + 8 ≤ cap := by have h1 := h.cap1; rw [HN.out] at h1; exact h1
  have hcu := crow_part h 6 v (by rw [HN.out]; omega)
  have hc6 : ¬ cap = 6 := by omega
  rw [if_neg hc6] at hcu
  have hcl : ((l.drop 6).take v).length = v := by rw [List.length_take, List.length_drop, HN.out]; omega
  have HCv : Hid (∀ W, Below w.heap.size w W → (convert 22 9 (.slice (some ⟨b, off + 6, none⟩) v (cap - 6))).run Tryz.prog W = .ok (.string s) W) := fun W hb => by rw [← hs]; exact conv_row (hcu.later hb) hcl
  have hsz : s.size ≤ 1048576 := by rw [← hs, bstr_size, hcl]; omega
  have HT : Hid (∀ W, Calls Tryz.prog 49 #[.string s] W fun e w' => e = .returned (.bool false) ∧ Below W.heap.size W w') := fun W => by have h1 := rText_any s W (by omega); rw [ht] at h1; exact h1
  have s1 : (6 : Int) ≤ 6 + (v : Int) := by omega
  have s2 : 6 + (v : Int) ≤ (cap : Int) := by omega
  have s3 : (6 + (v : Int)).toNat = 6 + v := by omega
  have s4 : 6 + v - 6 = v := by omega
  have s5 : (0 : Int) ≤ 6 + (v : Int) := by omega
  have t1 : decide (6 + (v : Int) + 8 < 6) = false := by simp; omega
  have t2 : ¬ 6 + (v : Int) + 8 < 6 := by omega
  clear hcu hcl
  clear h hv hs ht
  have hx := mkb1 w #[.int .u32 0, .string ⟨#[]⟩, .bool false, .int .u64 0] 74
  go_enter Tryz.func24, Tryz.ntmps24
  go_upto_region 1 with fail
  generalize w.alloc (Obj.cells #[.int .u32 0, .string ⟨#[]⟩, .bool false, .int .u64 0] 74) = W0 at *
  have HX : Hid (Bx1 w W0 #[.int .u32 0, .string ⟨#[]⟩, .bool false, .int .u64 0] 74) := hx
  clear hx
  have za0 : W0.cell? ⟨w.heap.size, 0, none⟩ = some (.int .u32 0) := (blk_at HX.out.a 0).trans rfl
  have zb0 : W0.frozen? ⟨w.heap.size, 0, none⟩ = false := blk_free HX.out.a 0
  have za1 : W0.cell? ⟨w.heap.size, 1, none⟩ = some (.string ⟨#[]⟩) := (blk_at HX.out.a 1).trans rfl
  have zb1 : W0.frozen? ⟨w.heap.size, 1, none⟩ = false := blk_free HX.out.a 1
  have za2 : W0.cell? ⟨w.heap.size, 2, none⟩ = some (.bool false) := (blk_at HX.out.a 2).trans rfl
  have zb2 : W0.frozen? ⟨w.heap.size, 2, none⟩ = false := blk_free HX.out.a 2
  have za3 : W0.cell? ⟨w.heap.size, 3, none⟩ = some (.int .u64 0) := (blk_at HX.out.a 3).trans rfl
  have zb3 : W0.frozen? ⟨w.heap.size, 3, none⟩ = false := blk_free HX.out.a 3
  go_wp2_with fail
  refine Calls.mono (HV.out W0 HX.out.bel) ?_
  rintro e W1 ⟨rfl, hb1⟩
  have HX1 : Hid (Bx1 w W1 #[.int .u32 0, .string ⟨#[]⟩, .bool false, .int .u64 0] 74) := HX.out.later hb1
  have hcv := HCv.out W1 HX1.out.bel
  clear hb1 HX HV
  clear za0 zb0 za1 zb1 za2 zb2 za3 zb3
  go_wp2_with fail
  refine Calls.mono (HT.out _) ?_
  rintro e W2 ⟨rfl, hb2⟩
  have HX2 : Hid (Bx1 w W2 #[.int .u32 0, .string ⟨#[]⟩, .bool false, .int .u64 0] 74) := HX1.out.later hb2
  clear hb2 HX1 hcv HT
  have ya0 : W2.cell? ⟨w.heap.size, 0, none⟩ = some (.int .u32 0) := (blk_at HX2.out.a 0).trans rfl
  have yb0 : W2.frozen? ⟨w.heap.size, 0, none⟩ = false := blk_free HX2.out.a 0
  have ya1 : W2.cell? ⟨w.heap.size, 1, none⟩ = some (.string ⟨#[]⟩) := (blk_at HX2.out.a 1).trans rfl
  have yb1 : W2.frozen? ⟨w.heap.size, 1, none⟩ = false := blk_free HX2.out.a 1
  have ya2 : W2.cell? ⟨w.heap.size, 2, none⟩ = some (.bool false) := (blk_at HX2.out.a 2).trans rfl
  have yb2 : W2.frozen? ⟨w.heap.size, 2, none⟩ = false := blk_free HX2.out.a 2
  have ya3 : W2.cell? ⟨w.heap.size, 3, none⟩ = some (.int .u64 0) := (blk_at HX2.out.a 3).trans rfl
  have yb3 : W2.frozen? ⟨w.heap.size, 3, none⟩ = false := blk_free HX2.out.a 3
  go_wp2
  obtain ⟨hp, hq⟩ := putc4 HX2.out.a (.int .u32 0) (.string ⟨#[]⟩) (.bool false) (.int .u64 0)
  exact bodyPost_ret (results_cell_tmp1 rfl _ _ w.heap.size 74 _ (0, 0) _ rfl hp Tryz.underlying74 rfl infoE) rfl ⟨rfl, HX2.out.bel.trans (hq.below HX2.out.bel.size (fun g hg => by omega))⟩
set_option maxHeartbeats 8000000 in
theorem rErrU1_ok (b off cap v : Nat) (l : List Nat) (w : World) (h : CRow w (some ⟨b, off, none⟩) cap l) (HN : Hid (l.length = 6 + v + 8)) (hn : 6 + v + 8 ≤ 1048576) (hv : valB ((l.drop 4).take 2) = v) (s : ByteArray) (hs : bstr ((l.drop 6).take v) = s) (ht : tx s = true) (c : Nat) (hc : valB (l.take 4) = c) (x : Nat) (hx : valB ((l.drop (6 + v)).take 8) = x) :
    Calls Tryz.prog 24 #[.slice (some ⟨b, off, none⟩) (6 + v + 8) cap, .bool true] w fun e w' => e = .returned (.tuple #[.agg #[.int .u32 (c : Int), .string s, .bool true, .int .u64 (x : Int)], .int .i64 0]) ∧ Below w.heap.size w w' := by
  have HV : Hid (∀ W, Below w.heap.size w W → Calls Tryz.prog 39 #[.slice (some ⟨b, off, none⟩) (6 + v + 8) cap, .int .i64 4, .int .i64 2] W fun e w' => e = .returned (.int .u64 (v : Int)) ∧ Below W.heap.size W w') := fun W hb => rvalueB b off cap _ 4 2 l W (h.later hb) HN (by omega) (by decide) (by decide) (by omega) _ hv
  have hv2 : v < 65536 := by rw [← hv]; exact val_lt h.row.lt 4 2 _ (by decide)
  have w1 : IntKind.i64.wrap (v : Int) = (v : Int) := by rw [IntKind.wrap_i64]; omega
  have w2 : IntKind.i64.wrap (6 + (v : Int)) = 6 + (v : Int) := by rw [IntKind.wrap_i64]; omega
  have w3 : IntKind.i64.wrap (6 + (v : Int) + 8) = 6 + (v : Int) + 8 := by rw [IntKind.wrap_i64]; omega
  have hcap : 6 + v + 8 ≤ cap := by have h1 := h.cap1; rw [HN.out] at h1; exact h1
  have hcu := crow_part h 6 v (by rw [HN.out]; omega)
  have hc6 : ¬ cap = 6 := by omega
  rw [if_neg hc6] at hcu
  have hcl : ((l.drop 6).take v).length = v := by rw [List.length_take, List.length_drop, HN.out]; omega
  have HCv : Hid (∀ W, Below w.heap.size w W → (convert 22 9 (.slice (some ⟨b, off + 6, none⟩) v (cap - 6))).run Tryz.prog W = .ok (.string s) W) := fun W hb => by rw [← hs]; exact conv_row (hcu.later hb) hcl
  have hsz : s.size ≤ 1048576 := by rw [← hs, bstr_size, hcl]; omega
  have HT : Hid (∀ W, Calls Tryz.prog 49 #[.string s] W fun e w' => e = .returned (.bool true) ∧ Below W.heap.size W w') := fun W => by have h1 := rText_any s W (by omega); rw [ht] at h1; exact h1
  have s1 : (6 : Int) ≤ 6 + (v : Int) := by omega
  have s2 : 6 + (v : Int) ≤ (cap : Int) := by omega
  have s3 : (6 + (v : Int)).toNat = 6 + v := by omega
  have s4 : 6 + v - 6 = v := by omega
  have s5 : (0 : Int) ≤ 6 + (v : Int) := by omega
  have t1 : decide (6 + (v : Int) + 8 < 6) = false := by simp; omega
  have t2 : ¬ 6 + (v : Int) + 8 < 6 := by omega
  clear hcu hcl
  have HV4 : Hid (∀ W, Below w.heap.size w W → Calls Tryz.prog 39 #[.slice (some ⟨b, off, none⟩) (6 + v + 8) cap, .int .i64 0, .int .i64 4] W fun e w' => e = .returned (.int .u64 (c : Int)) ∧ Below W.heap.size W w') := fun W hb => rvalueB b off cap _ 0 4 l W (h.later hb) HN (by omega) (by decide) (by decide) (by omega) _ (by simpa using hc)
  have hc4 : c < 4294967296 := by have h9 := val_lt h.row.lt 0 4 _ (Nat.le_refl _); simp at h9; rw [hc] at h9; exact h9
  have w4 : IntKind.u32.wrap (c : Int) = (c : Int) := by rw [IntKind.wrap_u32]; omega
  have HV8 : Hid (∀ W, Below w.heap.size w W → Calls Tryz.prog 39 #[.slice (some ⟨b, off, none⟩) (6 + v + 8) cap, .int .i64 (6 + (v : Int)), .int .i64 8] W fun e w' => e = .returned (.int .u64 (x : Int)) ∧ Below W.heap.size W w') := fun W hb => by
    have h1 := rvalueB b off cap (6 + v + 8) (6 + v) 8 l W (h.later hb) HN (by omega) (by decide) (by decide) (by omega) _ hx
    rw [show ((6 + v : Nat) : Int) = 6 + (v : Int) by omega] at h1
    exact h1
  clear h hv hs ht hc hx
  have hx := mkb1 w #[.int .u32 0, .string ⟨#[]⟩, .bool false, .int .u64 0] 74
  go_enter Tryz.func24, Tryz.ntmps24
  go_upto_region 1 with fail
  generalize w.alloc (Obj.cells #[.int .u32 0, .string ⟨#[]⟩, .bool false, .int .u64 0] 74) = W0 at *
  have HX : Hid (Bx1 w W0 #[.int .u32 0, .string ⟨#[]⟩, .bool false, .int .u64 0] 74) := hx
  clear hx
  have za0 : W0.cell? ⟨w.heap.size, 0, none⟩ = some (.int .u32 0) := (blk_at HX.out.a 0).trans rfl
  have zb0 : W0.frozen? ⟨w.heap.size, 0, none⟩ = false := blk_free HX.out.a 0
  have za1 : W0.cell? ⟨w.heap.size, 1, none⟩ = some (.string ⟨#[]⟩) := (blk_at HX.out.a 1).trans rfl
  have zb1 : W0.frozen? ⟨w.heap.size, 1, none⟩ = false := blk_free HX.out.a 1
  have za2 : W0.cell? ⟨w.heap.size, 2, none⟩ = some (.bool false) := (blk_at HX.out.a 2).trans rfl
  have zb2 : W0.frozen? ⟨w.heap.size, 2, none⟩ = false := blk_free HX.out.a 2
  have za3 : W0.cell? ⟨w.heap.size, 3, none⟩ = some (.int .u64 0) := (blk_at HX.out.a 3).trans rfl
  have zb3 : W0.frozen? ⟨w.heap.size, 3, none⟩ = false := blk_free HX.out.a 3
  go_wp2_with fail
  refine Calls.mono (HV.out W0 HX.out.bel) ?_
  rintro e W1 ⟨rfl, hb1⟩
  have HX1 : Hid (Bx1 w W1 #[.int .u32 0, .string ⟨#[]⟩, .bool false, .int .u64 0] 74) := HX.out.later hb1
  have hcv := HCv.out W1 HX1.out.bel
  clear hb1 HX HV
  clear za0 zb0 za1 zb1 za2 zb2 za3 zb3
  go_wp2_with fail
  refine Calls.mono (HT.out _) ?_
  rintro e W2 ⟨rfl, hb2⟩
  have HX2 : Hid (Bx1 w W2 #[.int .u32 0, .string ⟨#[]⟩, .bool false, .int .u64 0] 74) := HX1.out.later hb2
  clear hb2 HX1 hcv HT
  have HD : Hid (Bx1 w W2.drew #[.int .u32 0, .string ⟨#[]⟩, .bool false, .int .u64 0] 74) := HX2.out.later (below_drewN W2 1)
  clear HX2
  go_upto_region 9 with fail
  go_cut [8] from 35 to 44 (fun vb W3 => ∃ ge : Nat, vb = .pointer (some ⟨ge, 0, none⟩) ∧ Hid (Bx1 w W3 #[.int .u32 0, .string ⟨#[]⟩, .bool false, .int .u64 0] 74 ∧ W3.heap[ge]? = some (.cells #[.int .u32 (c : Int), .string s, .bool true, .int .u64 0] 74 (0, 0)) ∧ w.heap.size < ge))
  case first =>
    have HAX : Hid ((W2.alloc (Obj.cells #[.int .u32 0, .string ⟨#[]⟩, .bool false, .int .u64 0] 74)).drew.heap[W2.heap.size]? = some (.cells #[.int .u32 0, .string ⟨#[]⟩, .bool false, .int .u64 0] 74 (0, 0))) := heap_new W2 _
    have HDa : Hid (Bx1 w (W2.alloc (Obj.cells #[.int .u32 0, .string ⟨#[]⟩, .bool false, .int .u64 0] 74)).drew #[.int .u32 0, .string ⟨#[]⟩, .bool false, .int .u64 0] 74) := HD.out.later (below1 W2.drew (Obj.cells #[.int .u32 0, .string ⟨#[]⟩, .bool false, .int .u64 0] 74))
    have HGe : Hid (w.heap.size < W2.heap.size) := Nat.lt_of_lt_of_le (Nat.lt_succ_self _) HD.out.size
    go_region_held3 (fun w' => (convert 22 9 (.slice (some ⟨b, off + 6, none⟩) v (cap - 6))).run Tryz.prog w' = .ok (.string s) w') (first | exact HCv.out _ HX3.out.bel | exact HCv.out _ HD.out.bel | exact HCv.out _ HDa.out.bel | exact HCv.out _ (HX3.out.later (below1 _ _)).bel | exact HCv.out _ (below_set (below_set (below_set (below_set HX3.out.bel (Nat.le_of_lt HGe.out)) (Nat.le_of_lt HGe.out)) (Nat.le_of_lt HGe.out)) (Nat.le_of_lt HGe.out)) | go_keep) (first
      | (go_at_call 39; refine Calls.mono (HV4.out _ HD.out.bel) ?_; rintro e W3 ⟨rfl, hb3⟩; have HX3 : Hid (Bx1 w W3 #[.int .u32 0, .string ⟨#[]⟩, .bool false, .int .u64 0] 74) := HD.out.later hb3; clear hb3)
      | (go_at_call 39; refine Calls.mono (HV4.out _ HDa.out.bel) ?_; rintro e W3 ⟨rfl, hb3⟩; have HX3 : Hid (Bx1 w W3 #[.int .u32 0, .string ⟨#[]⟩, .bool false, .int .u64 0] 74) := HDa.out.later hb3; have HQ : Hid (W3.heap[W2.heap.size]? = some (.cells #[.int .u32 0, .string ⟨#[]⟩, .bool false, .int .u64 0] 74 (0, 0))) := box_later HAX.out hb3; have ya0 : W3.cell? ⟨W2.heap.size, 0, none⟩ = some (.int .u32 0) := (blk_at HQ.out 0).trans rfl; have yb0 : W3.frozen? ⟨W2.heap.size, 0, none⟩ = false := blk_free HQ.out 0; have ya1 : W3.cell? ⟨W2.heap.size, 1, none⟩ = some (.string ⟨#[]⟩) := (blk_at HQ.out 1).trans rfl; have yb1 : W3.frozen? ⟨W2.heap.size, 1, none⟩ = false := blk_free HQ.out 1; have ya2 : W3.cell? ⟨W2.heap.size, 2, none⟩ = some (.bool false) := (blk_at HQ.out 2).trans rfl; have yb2 : W3.frozen? ⟨W2.heap.size, 2, none⟩ = false := blk_free HQ.out 2; have ya3 : W3.cell? ⟨W2.heap.size, 3, none⟩ = some (.int .u64 0) := (blk_at HQ.out 3).trans rfl; have yb3 : W3.frozen? ⟨W2.heap.size, 3, none⟩ = false := blk_free HQ.out 3; clear hb3))
    all_goals go_wp2
    all_goals go_meet
    all_goals first
      | exact ⟨_, rfl, HX3.out.later (below1 _ _), heap_new W3 _, by have := HX3.out.size; omega⟩
      | (obtain ⟨hp, hq⟩ := putc4 HQ.out (.int .u32 (c : Int)) (.string s) (.bool true) (.int .u64 0)
         exact ⟨_, rfl, ⟨HX3.out.bel.trans (hq.below HX3.out.bel.size (fun g hg e => by have := HGe.out; omega)), (hq.block _ (block_lt HX3.out.a) (by have := HGe.out; omega)).trans HX3.out.a, Nat.le_trans HX3.out.size hq.size⟩, hp, HGe.out⟩)
  case rest =>
  obtain ⟨ge, rfl, HK⟩ := hcut
  clear HD HCv HV4
  go_wp2_with fail
  refine Calls.mono (HV8.out wc HK.out.1.bel) ?_
  rintro e W4 ⟨rfl, hb4⟩
  have HK4 : Hid (Bx1 w W4 #[.int .u32 0, .string ⟨#[]⟩, .bool false, .int .u64 0] 74 ∧ W4.heap[ge]? = some (.cells #[.int .u32 (c : Int), .string s, .bool true, .int .u64 0] 74 (0, 0)) ∧ w.heap.size < ge) := ⟨HK.out.1.later hb4, box_later HK.out.2.1 hb4, HK.out.2.2⟩
  have x3 : W4.cell? ⟨ge, 3, none⟩ = some (.int .u64 0) := (blk_at HK4.out.2.1 3).trans rfl
  have f3 : W4.frozen? ⟨ge, 3, none⟩ = false := blk_free HK4.out.2.1 3
  clear hb4 HK HV8
  go_upto_region 12 with fail
  have hk5 := keptIn_set W4 ge 3 (.int .u64 (x : Int))
  have HK5 : Hid (Bx1 w (W4.setCell ⟨ge, 3, none⟩ (.int .u64 (x : Int))) #[.int .u32 0, .string ⟨#[]⟩, .bool false, .int .u64 0] 74 ∧ (W4.setCell ⟨ge, 3, none⟩ (.int .u64 (x : Int))).heap[ge]? = some (.cells #[.int .u32 (c : Int), .string s, .bool true, .int .u64 (x : Int)] 74 (0, 0)) ∧ w.heap.size < ge) := ⟨⟨HK4.out.1.bel.trans (hk5.below HK4.out.1.bel.size (fun g hg e => by have := HK4.out.2.2; omega)), (hk5.block _ (block_lt HK4.out.1.a) (by have := HK4.out.2.2; omega)).trans HK4.out.1.a, Nat.le_trans HK4.out.1.size hk5.size⟩, put_boxX HK4.out.2.1 3 _ rfl, HK4.out.2.2⟩
  clear hk5 HK4 x3 f3
  generalize W4.setCell ⟨ge, 3, none⟩ (.int .u64 (x : Int)) = W5 at *
  have x0 : W5.cell? ⟨ge, 0, none⟩ = some (.int .u32 (c : Int)) := (blk_at HK5.out.2.1 0).trans rfl
  have x1 : W5.cell? ⟨ge, 1, none⟩ = some (.string s) := (blk_at HK5.out.2.1 1).trans rfl
  have x2 : W5.cell? ⟨ge, 2, none⟩ = some (.bool true) := (blk_at HK5.out.2.1 2).trans rfl
  have x3 : W5.cell? ⟨ge, 3, none⟩ = some (.int .u64 (x : Int)) := (blk_at HK5.out.2.1 3).trans rfl
  have ya0 : W5.cell? ⟨w.heap.size, 0, none⟩ = some (.int .u32 0) := (blk_at HK5.out.1.a 0).trans rfl
  have yb0 : W5.frozen? ⟨w.heap.size, 0, none⟩ = false := blk_free HK5.out.1.a 0
  have ya1 : W5.cell? ⟨w.heap.size, 1, none⟩ = some (.string ⟨#[]⟩) := (blk_at HK5.out.1.a 1).trans rfl
  have yb1 : W5.frozen? ⟨w.heap.size, 1, none⟩ = false := blk_free HK5.out.1.a 1
  have ya2 : W5.cell? ⟨w.heap.size, 2, none⟩ = some (.bool false) := (blk_at HK5.out.1.a 2).trans rfl
  have yb2 : W5.frozen? ⟨w.heap.size, 2, none⟩ = false := blk_free HK5.out.1.a 2
  have ya3 : W5.cell? ⟨w.heap.size, 3, none⟩ = some (.int .u64 0) := (blk_at HK5.out.1.a 3).trans rfl
  have yb3 : W5.frozen? ⟨w.heap.size, 3, none⟩ = false := blk_free HK5.out.1.a 3
  have HB : Hid (Bx1 w W5 #[.int .u32 0, .string ⟨#[]⟩, .bool false, .int .u64 0] 74) := HK5.out.1
  clear HK5
  go_wp2
  obtain ⟨hp, hq⟩ := putc4 HB.out.a (.int .u32 (c : Int)) (.string s) (.bool true) (.int .u64 (x : Int))
  exact bodyPost_ret (results_cell_tmp1 rfl _ _ w.heap.size 74 _ (0, 0) _ rfl hp Tryz.underlying74 rfl infoE) rfl ⟨rfl, HB.out.bel.trans (hq.below HB.out.bel.size (fun g hg => by omega))⟩
end Go.Proofs.YtfifaaopdhcaaaaGreatDoor
