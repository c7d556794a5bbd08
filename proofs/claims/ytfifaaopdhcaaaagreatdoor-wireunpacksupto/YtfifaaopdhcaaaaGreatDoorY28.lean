import Derived.Test.YtfifaaopdhcaaaaGreatDoorY19
import Derived.Test.YtfifaaopdhcaaaaGreatDoorY27
import Derived.Test.YtfifaaopdhcaaaaGreatDoorY13
import Derived.Deep.RegionHeld3
namespace Go.Proofs.YtfifaaopdhcaaaaGreatDoor
open Go.RowKit
set_option linter.unusedVariables false
set_option linter.unusedSimpArgs false
set_option maxRecDepth 100000
set_option maxHeartbeats 2000000 in
theorem rHoleU_no (ao : Option Addr) (cap n : Nat) (w : World) (h12 : n ≠ 12) :
    Calls Tryz.prog 28 #[.slice ao n cap] w fun e w' => e = .returned (.tuple #[.agg #[.int .u64 0, .int .u32 0], .int .i64 81]) ∧ Below w.heap.size w w' := by
  have t1 : ((n : Int) == 12) = false := by rw [beq_eq_false_iff_ne]; omega
  have t2 : ((n : Int) != 12) = true := by simp [bne, t1]
  have t3 : ¬ (n : Int) = 12 := by omega
  have hx := mkb1 w #[.int .u64 0, .int .u32 0] 86
  go_enter Tryz.func28, Tryz.ntmps28
  go_upto_region 1 with fail
  generalize w.alloc (Obj.cells #[.int .u64 0, .int .u32 0] 86) = W0 at *
  have HX : Hid (Bx1 w W0 #[.int .u64 0, .int .u32 0] 86) := hx
  clear hx
  have za0 : W0.cell? ⟨w.heap.size, 0, none⟩ = some (.int .u64 0) := (blk_at HX.out.a 0).trans rfl
  have zb0 : W0.frozen? ⟨w.heap.size, 0, none⟩ = false := blk_free HX.out.a 0
  have za1 : W0.cell? ⟨w.heap.size, 1, none⟩ = some (.int .u32 0) := (blk_at HX.out.a 1).trans rfl
  have zb1 : W0.frozen? ⟨w.heap.size, 1, none⟩ = false := blk_free HX.out.a 1
  go_wp2
  obtain ⟨hp, hq⟩ := putc2 HX.out.a (.int .u64 0) (.int .u32 0)
  exact bodyPost_ret (results_cell_tmp1 rfl _ _ w.heap.size 86 _ (0, 0) _ rfl hp Tryz.underlying86 rfl infoH) rfl ⟨rfl, HX.out.bel.trans (hq.below HX.out.bel.size (fun g hg => by omega))⟩
set_option maxHeartbeats 2000000 in
theorem rHoleU_ok (b off cap : Nat) (l : List Nat) (w : World) (h : CRow w (some ⟨b, off, none⟩) cap l) (HN : Hid (l.length = 12)) :
    Calls Tryz.prog 28 #[.slice (some ⟨b, off, none⟩) 12 cap] w fun e w' => e = .returned (.tuple #[.agg #[.int .u64 ((valB (l.take 8) : Nat) : Int), .int .u32 ((valB ((l.drop 8).take 4) : Nat) : Int)], .int .i64 0]) ∧ Below w.heap.size w w' := by
  have H1 : Hid (∀ W, Below w.heap.size w W → Calls Tryz.prog 39 #[.slice (some ⟨b, off, none⟩) 12 cap, .int .i64 0, .int .i64 8] W fun e w' => e = .returned (.int .u64 ((valB (l.take 8) : Nat) : Int)) ∧ Below W.heap.size W w') := fun W hb => rvalueB b off cap 12 0 8 l W (h.later hb) HN (by omega) (by decide) (by decide) (by decide) _ (by simp)
  have H2 : Hid (∀ W, Below w.heap.size w W → Calls Tryz.prog 39 #[.slice (some ⟨b, off, none⟩) 12 cap, .int .i64 8, .int .i64 4] W fun e w' => e = .returned (.int .u64 ((valB ((l.drop 8).take 4) : Nat) : Int)) ∧ Below W.heap.size W w') := fun W hb => rvalueB b off cap 12 8 4 l W (h.later hb) HN (by omega) (by decide) (by decide) (by decide) _ rfl
  have hv4 : valB ((l.drop 8).take 4) < 4294967296 := val_lt h.row.lt 8 4 _ (by decide)
  clear h
  generalize valB (l.take 8) = v8 at *
  generalize valB ((l.drop 8).take 4) = v4 at *
  have hw : IntKind.u32.wrap (v4 : Int) = (v4 : Int) := by rw [IntKind.wrap_u32]; omega
  have hx := mkb1 w #[.int .u64 0, .int .u32 0] 86
  go_enter Tryz.func28, Tryz.ntmps28
  go_upto_region 1 with fail
  generalize w.alloc (Obj.cells #[.int .u64 0, .int .u32 0] 86) = W0 at *
  have HX : Hid (Bx1 w W0 #[.int .u64 0, .int .u32 0] 86) := hx
  clear hx
  have za0 : W0.cell? ⟨w.heap.size, 0, none⟩ = some (.int .u64 0) := (blk_at HX.out.a 0).trans rfl
  have zb0 : W0.frozen? ⟨w.heap.size, 0, none⟩ = false := blk_free HX.out.a 0
  have za1 : W0.cell? ⟨w.heap.size, 1, none⟩ = some (.int .u32 0) := (blk_at HX.out.a 1).trans rfl
  have zb1 : W0.frozen? ⟨w.heap.size, 1, none⟩ = false := blk_free HX.out.a 1
  go_wp2_with fail
  refine Calls.mono (H1.out W0 HX.out.bel) ?_
  rintro e W1 ⟨rfl, hb1⟩
  have HX1 : Hid (Bx1 w W1 #[.int .u64 0, .int .u32 0] 86) := HX.out.later hb1
  clear hb1 HX
  clear za0 zb0 za1 zb1
  go_wp2_with fail
  refine Calls.mono (H2.out W1 HX1.out.bel) ?_
  rintro e W2 ⟨rfl, hb2⟩
  have HX2 : Hid (Bx1 w W2 #[.int .u64 0, .int .u32 0] 86) := HX1.out.later hb2
  clear hb2 HX1
  have ya0 : W2.cell? ⟨w.heap.size, 0, none⟩ = some (.int .u64 0) := (blk_at HX2.out.a 0).trans rfl
  have yb0 : W2.frozen? ⟨w.heap.size, 0, none⟩ = false := blk_free HX2.out.a 0
  have ya1 : W2.cell? ⟨w.heap.size, 1, none⟩ = some (.int .u32 0) := (blk_at HX2.out.a 1).trans rfl
  have yb1 : W2.frozen? ⟨w.heap.size, 1, none⟩ = false := blk_free HX2.out.a 1
  go_wp2
  obtain ⟨hp, hq⟩ := putc2 HX2.out.a (.int .u64 (v8 : Int)) (.int .u32 (v4 : Int))
  exact bodyPost_ret (results_cell_tmp1 rfl _ _ w.heap.size 86 _ (0, 0) _ rfl hp Tryz.underlying86 rfl infoH) rfl ⟨rfl, HX2.out.bel.trans (hq.below HX2.out.bel.size (fun g hg => by omega))⟩
end Go.Proofs.YtfifaaopdhcaaaaGreatDoor

namespace Go.Proofs.YtfifaaopdhcaaaaGreatDoor
open Go.RowKit
set_option linter.unusedVariables false
set_option linter.unusedSimpArgs false
set_option maxRecDepth 100000
set_option maxHeartbeats 2000000 in
theorem rMetaU_short (ao : Option Addr) (cap n : Nat) (w : World) (h4 : n < 4) :
    Calls Tryz.prog 16 #[.slice ao n cap] w fun e w' => e = .returned (.tuple #[.agg #[.int .u32 0, .string ⟨#[]⟩], .int .i64 81]) ∧ Below w.heap.size w w' := by
  have t1 : decide ((n : Int) < 4) = true := by simp; omega
  have t2 : (n : Int) < 4 := by omega
  have hx := mkb1 w #[.int .u32 0, .string ⟨#[]⟩] 53
  go_enter Tryz.func16, Tryz.ntmps16
  go_upto_region 1 with fail
  generalize w.alloc (Obj.cells #[.int .u32 0, .string ⟨#[]⟩] 53) = W0 at *
  have HX : Hid (Bx1 w W0 #[.int .u32 0, .string ⟨#[]⟩] 53) := hx
  clear hx
  have za0 : W0.cell? ⟨w.heap.size, 0, none⟩ = some (.int .u32 0) := (blk_at HX.out.a 0).trans rfl
  have zb0 : W0.frozen? ⟨w.heap.size, 0, none⟩ = false := blk_free HX.out.a 0
  have za1 : W0.cell? ⟨w.heap.size, 1, none⟩ = some (.string ⟨#[]⟩) := (blk_at HX.out.a 1).trans rfl
  have zb1 : W0.frozen? ⟨w.heap.size, 1, none⟩ = false := blk_free HX.out.a 1
  go_wp2
  obtain ⟨hp, hq⟩ := putc2 HX.out.a (.int .u32 0) (.string ⟨#[]⟩)
  exact bodyPost_ret (results_cell_tmp1 rfl _ _ w.heap.size 53 _ (0, 0) _ rfl hp Tryz.underlying53 rfl infoM) rfl ⟨rfl, HX.out.bel.trans (hq.below HX.out.bel.size (fun g hg => by omega))⟩
set_option maxHeartbeats 4000000 in
theorem rMetaU_bad (b off cap n : Nat) (l : List Nat) (w : World) (h : CRow w (some ⟨b, off, none⟩) cap l) (HN : Hid (l.length = n)) (hn : n ≤ 1048576) (h4 : 4 ≤ n) (s : ByteArray) (hs : bstr (l.drop 4) = s) (ht : tx s = false) :
    Calls Tryz.prog 16 #[.slice (some ⟨b, off, none⟩) n cap] w fun e w' => e = .returned (.tuple #[.agg #[.int .u32 0, .string ⟨#[]⟩], .int .i64 81]) ∧ Below w.heap.size w w' := by
  have hcu := (crow_cut h 4 (by rw [HN.out]; omega)).row
  obtain ⟨ar, har⟩ : ∃ ar, (if cap = 4 then some (⟨b, off, none⟩ : Addr) else some ⟨b, off + 4, none⟩) = ar := ⟨_, rfl⟩
  simp only [har] at hcu
  have hcl : (l.drop 4).length = n - 4 := by rw [List.length_drop, HN.out]
  have HCv : Hid (∀ W, Below w.heap.size w W → (convert 22 9 (.slice ar (n - 4) (cap - 4))).run Tryz.prog W = .ok (.string s) W) := fun W hb => by rw [← hs]; exact conv_row (hcu.later hb) hcl
  have hsz : s.size ≤ 1048576 := by rw [← hs, bstr_size, hcl]; omega
  have HT : Hid (∀ W, Calls Tryz.prog 49 #[.string s] W fun e w' => e = .returned (.bool false) ∧ Below W.heap.size W w') := fun W => by have h1 := rText_any s W (by omega); rw [ht] at h1; exact h1
  clear hcu hcl
  have t1 : decide ((n : Int) < 4) = false := by simp; omega
  have t2 : ¬ (n : Int) < 4 := by omega
  have t3 : (4 : Int) ≤ (n : Int) := by omega
  have t4 : (n : Int) ≤ (cap : Int) := by have h1 := h.cap1; have h2 := HN.out; omega
  clear h hs ht
  have hx := mkb1 w #[.int .u32 0, .string ⟨#[]⟩] 53
  go_enter Tryz.func16, Tryz.ntmps16
  go_upto_region 1 with fail
  generalize w.alloc (Obj.cells #[.int .u32 0, .string ⟨#[]⟩] 53) = W0 at *
  have HX : Hid (Bx1 w W0 #[.int .u32 0, .string ⟨#[]⟩] 53) := hx
  clear hx
  have za0 : W0.cell? ⟨w.heap.size, 0, none⟩ = some (.int .u32 0) := (blk_at HX.out.a 0).trans rfl
  have zb0 : W0.frozen? ⟨w.heap.size, 0, none⟩ = false := blk_free HX.out.a 0
  have za1 : W0.cell? ⟨w.heap.size, 1, none⟩ = some (.string ⟨#[]⟩) := (blk_at HX.out.a 1).trans rfl
  have zb1 : W0.frozen? ⟨w.heap.size, 1, none⟩ = false := blk_free HX.out.a 1
  have hcv := HCv.out W0 HX.out.bel
  clear HCv
  go_wp2_with fail
  all_goals
    refine Calls.mono (HT.out _) ?_
    rintro e W1 ⟨rfl, hb1⟩
    have HX1 : Hid (Bx1 w W1 #[.int .u32 0, .string ⟨#[]⟩] 53) := HX.out.later hb1
    clear hb1
  all_goals
    clear hcv za0 zb0 za1 zb1
    have ya0 : W1.cell? ⟨w.heap.size, 0, none⟩ = some (.int .u32 0) := (blk_at HX1.out.a 0).trans rfl
    have yb0 : W1.frozen? ⟨w.heap.size, 0, none⟩ = false := blk_free HX1.out.a 0
    have ya1 : W1.cell? ⟨w.heap.size, 1, none⟩ = some (.string ⟨#[]⟩) := (blk_at HX1.out.a 1).trans rfl
    have yb1 : W1.frozen? ⟨w.heap.size, 1, none⟩ = false := blk_free HX1.out.a 1
    clear HX
    go_wp2
    obtain ⟨hp, hq⟩ := putc2 HX1.out.a (.int .u32 0) (.string ⟨#[]⟩)
    exact bodyPost_ret (results_cell_tmp1 rfl _ _ w.heap.size 53 _ (0, 0) _ rfl hp Tryz.underlying53 rfl infoM) rfl ⟨rfl, HX1.out.bel.trans (hq.below HX1.out.bel.size (fun g hg => by omega))⟩
end Go.Proofs.YtfifaaopdhcaaaaGreatDoor

namespace Go.Proofs.YtfifaaopdhcaaaaGreatDoor
open Go.RowKit
set_option linter.unusedVariables false
set_option linter.unusedSimpArgs false
set_option maxRecDepth 100000
set_option maxHeartbeats 4000000 in
theorem rMetaU_ok (b off cap n : Nat) (l : List Nat) (w : World) (h : CRow w (some ⟨b, off, none⟩) cap l) (HN : Hid (l.length = n)) (hn : n ≤ 1048576) (h4 : 4 ≤ n) (s : ByteArray) (hs : bstr (l.drop 4) = s) (ht : tx s = true) (v : Nat) (hv : valB (l.take 4) = v) :
    Calls Tryz.prog 16 #[.slice (some ⟨b, off, none⟩) n cap] w fun e w' => e = .returned (.tuple #[.agg #[.int .u32 (v : Int), .string s], .int .i64 0]) ∧ Below w.heap.size w w' := by
  have hcu := (crow_cut h 4 (by rw [HN.out]; omega)).row
  obtain ⟨ar, har⟩ : ∃ ar, (if cap = 4 then some (⟨b, off, none⟩ : Addr) else some ⟨b, off + 4, none⟩) = ar := ⟨_, rfl⟩
  simp only [har] at hcu
  have hcl : (l.drop 4).length = n - 4 := by rw [List.length_drop, HN.out]
  have HCv : Hid (∀ W, Below w.heap.size w W → (convert 22 9 (.slice ar (n - 4) (cap - 4))).run Tryz.prog W = .ok (.string s) W) := fun W hb => by rw [← hs]; exact conv_row (hcu.later hb) hcl
  have hsz : s.size ≤ 1048576 := by rw [← hs, bstr_size, hcl]; omega
  have HT : Hid (∀ W, Calls Tryz.prog 49 #[.string s] W fun e w' => e = .returned (.bool true) ∧ Below W.heap.size W w') := fun W => by have h1 := rText_any s W (by omega); rw [ht] at h1; exact h1
  clear hcu hcl
  have t1 : decide ((n : Int) < 4) = false := by simp; omega
  have t2 : ¬ (n : Int) < 4 := by omega
  have t3 : (4 : Int) ≤ (n : Int) := by omega
  have t4 : (n : Int) ≤ (cap : Int) := by have h1 := h.cap1; have h2 := HN.out; omega
  have HV : Hid (∀ W, Below w.heap.size w W → Calls Tryz.prog 39 #[.slice (some ⟨b, off, none⟩) n cap, .int .i64 0, .int .i64 4] W fun e w' => e = .returned (.int .u64 (v : Int)) ∧ Below W.heap.size W w') := fun W hb => rvalueB b off cap n 0 4 l W (h.later hb) HN (by omega) (by decide) (by decide) (by omega) _ (by simpa using hv)
  have hv4 : v < 4294967296 := by have h9 := val_lt h.row.lt 0 4 _ (Nat.le_refl _); simp at h9; rw [hv] at h9; exact h9
  have hw : IntKind.u32.wrap (v : Int) = (v : Int) := by rw [IntKind.wrap_u32]; omega
  clear h hs ht hv
  have hx := mkb1 w #[.int .u32 0, .string ⟨#[]⟩] 53
  go_enter Tryz.func16, Tryz.ntmps16
  go_upto_region 1 with fail
  generalize w.alloc (Obj.cells #[.int .u32 0, .string ⟨#[]⟩] 53) = W0 at *
  have HX : Hid (Bx1 w W0 #[.int .u32 0, .string ⟨#[]⟩] 53) := hx
  clear hx
  have za0 : W0.cell? ⟨w.heap.size, 0, none⟩ = some (.int .u32 0) := (blk_at HX.out.a 0).trans rfl
  have zb0 : W0.frozen? ⟨w.heap.size, 0, none⟩ = false := blk_free HX.out.a 0
  have za1 : W0.cell? ⟨w.heap.size, 1, none⟩ = some (.string ⟨#[]⟩) := (blk_at HX.out.a 1).trans rfl
  have zb1 : W0.frozen? ⟨w.heap.size, 1, none⟩ = false := blk_free HX.out.a 1
  have hcv := HCv.out W0 HX.out.bel
  go_wp2_with fail
  all_goals
    refine Calls.mono (HT.out _) ?_
    rintro e W1 ⟨rfl, hb1⟩
    have HX1 : Hid (Bx1 w W1 #[.int .u32 0, .string ⟨#[]⟩] 53) := HX.out.later hb1
    have HD : Hid (Bx1 w W1.drew #[.int .u32 0, .string ⟨#[]⟩] 53) := HX1.out.later (below_drewN W1 1)
    clear hb1 hcv za0 zb0 za1 zb1
    have hcv := HCv.out W1.drew HD.out.bel
    clear HX HX1 HT hsz hn h4 hv4 HN
    go_upto_region 3 with fail
    go_region_held3 (fun w' => (convert 22 9 (.slice ar (n - 4) (cap - 4))).run Tryz.prog w' = .ok (.string s) w') (first | exact HCv.out _ HX2.out.bel | exact HCv.out _ HD.out.bel | exact HCv.out _ (below_set (below_set HX2.out.bel (Nat.le_refl _)) (Nat.le_refl _)) | go_keep) (first | (go_at_call 39; refine Calls.mono (HV.out _ HD.out.bel) ?_; rintro e W2 ⟨rfl, hb2⟩; have HX2 : Hid (Bx1 w W2 #[.int .u32 0, .string ⟨#[]⟩] 53) := HD.out.later hb2; have ya0 : W2.cell? ⟨w.heap.size, 0, none⟩ = some (.int .u32 0) := (blk_at HX2.out.a 0).trans rfl; have yb0 : W2.frozen? ⟨w.heap.size, 0, none⟩ = false := blk_free HX2.out.a 0; have ya1 : W2.cell? ⟨w.heap.size, 1, none⟩ = some (.string ⟨#[]⟩) := (blk_at HX2.out.a 1).trans rfl; have yb1 : W2.frozen? ⟨w.heap.size, 1, none⟩ = false := blk_free HX2.out.a 1; clear hb2))
  all_goals go_wp2
  all_goals
    obtain ⟨hp, hq⟩ := putc2 HX2.out.a (.int .u32 (v : Int)) (.string s)
    exact bodyPost_ret (results_cell_tmp1 rfl _ _ w.heap.size 53 _ (0, 0) _ rfl hp Tryz.underlying53 rfl infoM) rfl ⟨rfl, HX2.out.bel.trans (hq.below HX2.out.bel.size (fun g hg => by omega))⟩
end Go.Proofs.YtfifaaopdhcaaaaGreatDoor

namespace Go.Proofs.YtfifaaopdhcaaaaGreatDoor
open Go.RowKit
set_option linter.unusedVariables false
set_option linter.unusedSimpArgs false
set_option maxRecDepth 100000
set_option maxHeartbeats 2000000 in
theorem rServerU_no (ao : Option Addr) (cap n : Nat) (l : List Nat) (w : World) (h : CRow w ao cap l) (HN : Hid (l.length = n)) (hn : n ≤ 1048576) (ht : okT l 0 = false) :
    Calls Tryz.prog 18 #[.slice ao n cap] w fun e w' => e = .returned (.tuple #[.agg #[.string ⟨#[]⟩, .slice none 0 0], .int .i64 81]) ∧ Below w.heap.size w w' := by
  have HM : Hid (∀ W, Below w.heap.size w W → _) := fun W hb => rnamed_no ao cap n l W (h.later hb) HN hn ht
  clear h ht
  have hx := mkb1 w #[.string ⟨#[]⟩, .slice none 0 0] 59
  go_enter Tryz.func18, Tryz.ntmps18
  go_upto_region 1 with fail
  generalize w.alloc (Obj.cells #[.string ⟨#[]⟩, .slice none 0 0] 59) = W0 at *
  have HX : Hid (Bx1 w W0 #[.string ⟨#[]⟩, .slice none 0 0] 59) := hx
  clear hx
  have za0 : W0.cell? ⟨w.heap.size, 0, none⟩ = some (.string ⟨#[]⟩) := (blk_at HX.out.a 0).trans rfl
  have zb0 : W0.frozen? ⟨w.heap.size, 0, none⟩ = false := blk_free HX.out.a 0
  have za1 : W0.cell? ⟨w.heap.size, 1, none⟩ = some (.slice none 0 0) := (blk_at HX.out.a 1).trans rfl
  have zb1 : W0.frozen? ⟨w.heap.size, 1, none⟩ = false := blk_free HX.out.a 1
  go_wp2_with fail
  refine Calls.mono (HM.out W0 HX.out.bel) ?_
  rintro e W1 ⟨s, ar, m, c, rfl, hb1⟩
  have HX1 : Hid (Bx1 w W1 #[.string ⟨#[]⟩, .slice none 0 0] 59) := HX.out.later hb1
  clear hb1 HX
  clear za0 zb0 za1 zb1
  have ya0 : W1.cell? ⟨w.heap.size, 0, none⟩ = some (.string ⟨#[]⟩) := (blk_at HX1.out.a 0).trans rfl
  have yb0 : W1.frozen? ⟨w.heap.size, 0, none⟩ = false := blk_free HX1.out.a 0
  have ya1 : W1.cell? ⟨w.heap.size, 1, none⟩ = some (.slice none 0 0) := (blk_at HX1.out.a 1).trans rfl
  have yb1 : W1.frozen? ⟨w.heap.size, 1, none⟩ = false := blk_free HX1.out.a 1
  go_wp2
  obtain ⟨hp, hq⟩ := putc2 HX1.out.a (.string ⟨#[]⟩) (.slice none 0 0)
  exact bodyPost_ret (results_cell_tmp1 rfl _ _ w.heap.size 59 _ (0, 0) _ rfl hp Tryz.underlying59 rfl infoS) rfl ⟨rfl, HX1.out.bel.trans (hq.below HX1.out.bel.size (fun g hg => by omega))⟩
set_option maxHeartbeats 2000000 in
theorem rServerU_ok (ao : Option Addr) (cap n : Nat) (l : List Nat) (w : World) (h : CRow w ao cap l) (HN : Hid (l.length = n)) (hn : n ≤ 1048576) (ht : okT l 0 = true) :
    Calls Tryz.prog 18 #[.slice ao n cap] w fun e w' => ∃ da dc, e = .returned (.tuple #[.agg #[.string (tvS l 0), .slice da (n - taA l 0) dc], .int .i64 0]) ∧ BRow w' da dc (l.drop (taA l 0)) ∧ Below w.heap.size w w' := by
  have HM : Hid (∀ W, Below w.heap.size w W → _) := fun W hb => rnamed_yes ao cap n l W (h.later hb) HN hn ht
  have HL : Hid (∀ x ∈ l, x < 256) := h.row.lt
  have HTl : Hid (taA l 0 ≤ l.length) := taA_le (Nat.zero_le _)
  clear h ht
  generalize tvS l 0 = s at *
  generalize taA l 0 = t at *
  have hx := mkb1 w #[.string ⟨#[]⟩, .slice none 0 0] 59
  go_enter Tryz.func18, Tryz.ntmps18
  go_upto_region 1 with fail
  generalize w.alloc (Obj.cells #[.string ⟨#[]⟩, .slice none 0 0] 59) = W0 at *
  have HX : Hid (Bx1 w W0 #[.string ⟨#[]⟩, .slice none 0 0] 59) := hx
  clear hx
  have za0 : W0.cell? ⟨w.heap.size, 0, none⟩ = some (.string ⟨#[]⟩) := (blk_at HX.out.a 0).trans rfl
  have zb0 : W0.frozen? ⟨w.heap.size, 0, none⟩ = false := blk_free HX.out.a 0
  have za1 : W0.cell? ⟨w.heap.size, 1, none⟩ = some (.slice none 0 0) := (blk_at HX.out.a 1).trans rfl
  have zb1 : W0.frozen? ⟨w.heap.size, 1, none⟩ = false := blk_free HX.out.a 1
  go_wp2_with fail
  refine Calls.mono (HM.out W0 HX.out.bel) ?_
  rintro e W1 ⟨ar, rfl, hc1, hb1⟩
  have HX1 : Hid (Bx1 w W1 #[.string ⟨#[]⟩, .slice none 0 0] 59) := HX.out.later hb1
  have HCp : Hid _ := copyN ar (cap - t) (n - t) (l.drop t) W1 hc1.row (by rw [List.length_drop, HN.out])
  clear hb1 HX hc1
  clear za0 zb0 za1 zb1
  go_wp2_with fail
  refine Calls.mono HCp.out ?_
  rintro e W2 ⟨da, dc, rfl, ho, hb2⟩
  have HD : Hid (Dr w W2 #[.string ⟨#[]⟩, .slice none 0 0] 59 da (n - t) dc (l.drop t)) := ⟨HX1.out.later hb2, _, by have := HX1.out.size; omega, ho⟩
  clear hb2 ho HX1 HCp
  have ya0 : W2.cell? ⟨w.heap.size, 0, none⟩ = some (.string ⟨#[]⟩) := (blk_at HD.out.bx.a 0).trans rfl
  have yb0 : W2.frozen? ⟨w.heap.size, 0, none⟩ = false := blk_free HD.out.bx.a 0
  have ya1 : W2.cell? ⟨w.heap.size, 1, none⟩ = some (.slice none 0 0) := (blk_at HD.out.bx.a 1).trans rfl
  have yb1 : W2.frozen? ⟨w.heap.size, 1, none⟩ = false := blk_free HD.out.bx.a 1
  go_wp2
  obtain ⟨hp, hq⟩ := putc2 HD.out.bx.a (.string s) (.slice da (n - t) dc)
  exact bodyPost_ret (results_cell_tmp1 rfl _ _ w.heap.size 59 _ (0, 0) _ rfl hp Tryz.underlying59 rfl infoS) rfl ⟨da, dc, rfl, HD.out.brow hq (fun x hx => HL.out x (List.mem_of_mem_drop hx)) (by rw [List.length_drop, HN.out]) (by omega), HD.out.bx.bel.trans (hq.below HD.out.bx.bel.size (fun g hg => by omega))⟩
end Go.Proofs.YtfifaaopdhcaaaaGreatDoor

namespace Go.Proofs.YtfifaaopdhcaaaaGreatDoor
open Go.RowKit
set_option linter.unusedVariables false
set_option linter.unusedSimpArgs false
set_option maxRecDepth 100000
set_option maxHeartbeats 2000000 in
theorem rDataU_no (ao : Option Addr) (cap n : Nat) (w : World) (h4 : n < 9) :
    Calls Tryz.prog 26 #[.slice ao n cap] w fun e w' => e = .returned (.tuple #[.agg #[.int .u64 0, .slice none 0 0], .int .i64 81]) ∧ Below w.heap.size w w' := by
  have t1 : decide ((n : Int) < 9) = true := by simp; omega
  have t2 : (n : Int) < 9 := by omega
  have hx := mkb1 w #[.int .u64 0, .slice none 0 0] 80
  go_enter Tryz.func26, Tryz.ntmps26
  go_upto_region 1 with fail
  generalize w.alloc (Obj.cells #[.int .u64 0, .slice none 0 0] 80) = W0 at *
  have HX : Hid (Bx1 w W0 #[.int .u64 0, .slice none 0 0] 80) := hx
  clear hx
  have za0 : W0.cell? ⟨w.heap.size, 0, none⟩ = some (.int .u64 0) := (blk_at HX.out.a 0).trans rfl
  have zb0 : W0.frozen? ⟨w.heap.size, 0, none⟩ = false := blk_free HX.out.a 0
  have za1 : W0.cell? ⟨w.heap.size, 1, none⟩ = some (.slice none 0 0) := (blk_at HX.out.a 1).trans rfl
  have zb1 : W0.frozen? ⟨w.heap.size, 1, none⟩ = false := blk_free HX.out.a 1
  go_wp2
  obtain ⟨hp, hq⟩ := putc2 HX.out.a (.int .u64 0) (.slice none 0 0)
  exact bodyPost_ret (results_cell_tmp1 rfl _ _ w.heap.size 80 _ (0, 0) _ rfl hp Tryz.underlying80 rfl infoD) rfl ⟨rfl, HX.out.bel.trans (hq.below HX.out.bel.size (fun g hg => by omega))⟩
set_option maxHeartbeats 4000000 in
theorem rDataU_ok (b off cap n : Nat) (l : List Nat) (w : World) (h : CRow w (some ⟨b, off, none⟩) cap l) (HN : Hid (l.length = n)) (hn : n ≤ 1048576) (h9 : 9 ≤ n) (v : Nat) (hv : valB (l.take 8) = v) :
    Calls Tryz.prog 26 #[.slice (some ⟨b, off, none⟩) n cap] w fun e w' => ∃ da dc, e = .returned (.tuple #[.agg #[.int .u64 (v : Int), .slice da (n - 8) dc], .int .i64 0]) ∧ BRow w' da dc (l.drop 8) ∧ Below w.heap.size w w' := by
  have hcu := (crow_cut h 8 (by rw [HN.out]; omega)).row
  obtain ⟨ar, har⟩ : ∃ ar, (if cap = 8 then some (⟨b, off, none⟩ : Addr) else some ⟨b, off + 8, none⟩) = ar := ⟨_, rfl⟩
  simp only [har] at hcu
  have HCp : Hid (∀ W, Below w.heap.size w W → _) := fun W hb => copyN ar (cap - 8) (n - 8) (l.drop 8) W (hcu.later hb) (by rw [List.length_drop, HN.out])
  have HV : Hid (∀ W, Below w.heap.size w W → Calls Tryz.prog 39 #[.slice (some ⟨b, off, none⟩) n cap, .int .i64 0, .int .i64 8] W fun e w' => e = .returned (.int .u64 (v : Int)) ∧ Below W.heap.size W w') := fun W hb => rvalueB b off cap n 0 8 l W (h.later hb) HN (by omega) (by decide) (by decide) (by omega) _ (by simpa using hv)
  have HL : Hid (∀ x ∈ l, x < 256) := h.row.lt
  have t1 : decide ((n : Int) < 9) = false := by simp; omega
  have t2 : ¬ (n : Int) < 9 := by omega
  have t3 : (8 : Int) ≤ (n : Int) := by omega
  have t4 : (n : Int) ≤ (cap : Int) := by have h1 := h.cap1; have h2 := HN.out; omega
  clear h hcu hv
  have hx := mkb1 w #[.int .u64 0, .slice none 0 0] 80
  go_enter Tryz.func26, Tryz.ntmps26
  go_upto_region 1 with fail
  generalize w.alloc (Obj.cells #[.int .u64 0, .slice none 0 0] 80) = W0 at *
  have HX : Hid (Bx1 w W0 #[.int .u64 0, .slice none 0 0] 80) := hx
  clear hx
  have za0 : W0.cell? ⟨w.heap.size, 0, none⟩ = some (.int .u64 0) := (blk_at HX.out.a 0).trans rfl
  have zb0 : W0.frozen? ⟨w.heap.size, 0, none⟩ = false := blk_free HX.out.a 0
  have za1 : W0.cell? ⟨w.heap.size, 1, none⟩ = some (.slice none 0 0) := (blk_at HX.out.a 1).trans rfl
  have zb1 : W0.frozen? ⟨w.heap.size, 1, none⟩ = false := blk_free HX.out.a 1
  have HD : Hid (Bx1 w W0.drew #[.int .u64 0, .slice none 0 0] 80) := HX.out.later (below_drewN W0 1)
  clear za0 zb0 za1 zb1 HX
  go_upto_region 3 with fail
  go_region_held3 (fun w' => True) (first | trivial | go_keep) (first
    | (go_at_call 39; have HQ := HR2; clear HQ; refine Calls.mono (HV.out _ HR2.out.bx.bel) ?_; rintro e W3 ⟨rfl, hb3⟩; have HR3 : Hid (Dr w W3 #[.int .u64 0, .slice none 0 0] 80 da (n - 8) dc (l.drop 8)) := HR2.out.later hb3; have ya0 : W3.cell? ⟨w.heap.size, 0, none⟩ = some (.int .u64 0) := (blk_at HR3.out.bx.a 0).trans rfl; have yb0 : W3.frozen? ⟨w.heap.size, 0, none⟩ = false := blk_free HR3.out.bx.a 0; have ya1 : W3.cell? ⟨w.heap.size, 1, none⟩ = some (.slice none 0 0) := (blk_at HR3.out.bx.a 1).trans rfl; have yb1 : W3.frozen? ⟨w.heap.size, 1, none⟩ = false := blk_free HR3.out.bx.a 1; clear hb3 HR2)
    | (go_at_call 39; refine Calls.mono (HV.out _ HD.out.bel) ?_; rintro e W2 ⟨rfl, hb2⟩; have HX2 : Hid (Bx1 w W2 #[.int .u64 0, .slice none 0 0] 80) := HD.out.later hb2; clear hb2)
    | (go_at_call 40; have HQ := HX2; clear HQ; refine Calls.mono (HCp.out _ HX2.out.bel) ?_; rintro e W3 ⟨da, dc, rfl, ho, hb3⟩; have HR3 : Hid (Dr w W3 #[.int .u64 0, .slice none 0 0] 80 da (n - 8) dc (l.drop 8)) := ⟨HX2.out.later hb3, _, by have := HX2.out.size; omega, ho⟩; have ya0 : W3.cell? ⟨w.heap.size, 0, none⟩ = some (.int .u64 0) := (blk_at HR3.out.bx.a 0).trans rfl; have yb0 : W3.frozen? ⟨w.heap.size, 0, none⟩ = false := blk_free HR3.out.bx.a 0; have ya1 : W3.cell? ⟨w.heap.size, 1, none⟩ = some (.slice none 0 0) := (blk_at HR3.out.bx.a 1).trans rfl; have yb1 : W3.frozen? ⟨w.heap.size, 1, none⟩ = false := blk_free HR3.out.bx.a 1; clear hb3 ho)
    | (go_at_call 40; refine Calls.mono (HCp.out _ HD.out.bel) ?_; rintro e W2 ⟨da, dc, rfl, ho, hb2⟩; have HR2 : Hid (Dr w W2 #[.int .u64 0, .slice none 0 0] 80 da (n - 8) dc (l.drop 8)) := ⟨HD.out.later hb2, _, by have := HD.out.size; omega, ho⟩; clear hb2 ho))
  all_goals go_wp2
  all_goals
    obtain ⟨hp, hq⟩ := putc2 HR3.out.bx.a (.int .u64 (v : Int)) (.slice da (n - 8) dc)
    exact bodyPost_ret (results_cell_tmp1 rfl _ _ w.heap.size 80 _ (0, 0) _ rfl hp Tryz.underlying80 rfl infoD) rfl ⟨da, dc, rfl, HR3.out.brow hq (fun x hx => HL.out x (List.mem_of_mem_drop hx)) (by rw [List.length_drop, HN.out]) (by omega), HR3.out.bx.bel.trans (hq.below HR3.out.bx.bel.size (fun g hg => by omega))⟩
end Go.Proofs.YtfifaaopdhcaaaaGreatDoor
