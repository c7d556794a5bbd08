import Derived.Test.YtlacligofhinmaaGreatV54
namespace Go.Proofs.YtlacligofhinmaaGreat.C
open Go.RowKit Go.Maps Go.Shelf Go.Proofs.YtlacligofhinmaaGreat
attribute [local go_sem] Oper.semAt_some
set_option linter.unusedVariables false
set_option linter.unusedSimpArgs false
set_option maxRecDepth 100000

theorem OqRow.later {w w' : World} {ao : Option Addr} {l : List Opq} (h : OqRow w ao l) (hb : Below w.heap.size w w') : OqRow w' ao l := ⟨fun k o hk => by
  obtain ⟨b, off, e, hc⟩ := h.at_ k o hk
  have hg : b < w.heap.size := cell_lt ((hc 0 (by decide)).trans rfl)
  exact ⟨b, off, e, fun j hj => (World.cell?_of_block (a := ⟨b, off + k * 11 + j, none⟩) (hb.block b hg)).trans (hc j hj)⟩⟩
theorem OpqOk.later {w w' : World} {o : Opq} (h : OpqOk w o) (hb : Below w.heap.size w w') : OpqOk w' o := by
  refine ⟨h.fill, h.sw, h.fa, h.ft, h.ll, h.row.later hb, borow_low h.kr hb (fun ad e hne => ?_)⟩
  obtain ⟨b, off, e', hc⟩ := h.kr.at_ hne
  obtain ⟨y, r, hy⟩ : ∃ y r, o.keep = y :: r := List.exists_cons_of_ne_nil hne
  have h1 := hc 0 y (by rw [hy]; rfl)
  rw [e] at e'
  cases e'
  exact cell_lt h1
set_option maxHeartbeats 4000000 in
theorem law_CacheMoves {w : World} (n k : Int) {v : Value} {l : List (Int × Int)} (hv : ArgS w v l) (hl : l.length ≤ 1048576) (hw : ∀ p ∈ l, I64 p.1 ∧ I64 p.2) (so : Option Addr) (sm cap : Nat) (os : List Opq) (hm : sm = os.length) (hm8 : 8 * sm ≤ 1048576) (hr : OqRow w so os) (hok : ∀ o ∈ os, OpqOk w o) :
    Calls Tryz.prog 3 #[.agg #[.int .i64 n, .int .i64 k, v], .slice so sm cap] w fun r w' => r = .returned (.bool true) ∧ Below w.heap.size w w' := by
  obtain ⟨vo, vc, rfl, _⟩ := hv.form
  obtain ⟨W0, hW0⟩ : ∃ W0, W0 = w.alloc (.cells #[.int .i64 n, .int .i64 k, .slice vo l.length vc] TSe) := ⟨_, rfl⟩
  have hB0 : Below w.heap.size w W0 := by rw [hW0]; exact (Below.refl _ w).alloc (Nat.le_refl _) _
  have hp := plays_any (w := W0) n k (hv.later hB0) hl hw so sm cap os hm hm8 (hr.later hB0) (fun o ho => (hok o ho).later hB0) 1 5
  have HB0 : Hid (Below w.heap.size w W0) := hB0
  clear hv hl hw hr hok hB0 hm
  go_enter Tryz.func3, Tryz.ntmps3
  go_wp2_with fail
  rw [← hW0]
  refine hp.mono ?_
  rintro r W1 ⟨rfl, hb1⟩
  have HB1 : Hid (Below w.heap.size w W1) := HB0.out.trans (hb1.mono HB0.out.size)
  clear hb1 hp hW0
  go_wp2
  go_ret
  exact ⟨rfl, HB1.out⟩
set_option maxHeartbeats 4000000 in
theorem law_CacheTells {w : World} (n k : Int) {v : Value} {l : List (Int × Int)} (hv : ArgS w v l) (hl : l.length ≤ 1048576) (hw : ∀ p ∈ l, I64 p.1 ∧ I64 p.2) (so : Option Addr) (sm cap : Nat) (os : List Opq) (hm : sm = os.length) (hm8 : 8 * sm ≤ 1048576) (hr : OqRow w so os) (hok : ∀ o ∈ os, OpqOk w o) :
    Calls Tryz.prog 4 #[.agg #[.int .i64 n, .int .i64 k, v], .slice so sm cap] w fun r w' => r = .returned (.bool true) ∧ Below w.heap.size w w' := by
  obtain ⟨vo, vc, rfl, _⟩ := hv.form
  obtain ⟨W0, hW0⟩ : ∃ W0, W0 = w.alloc (.cells #[.int .i64 n, .int .i64 k, .slice vo l.length vc] TSe) := ⟨_, rfl⟩
  have hB0 : Below w.heap.size w W0 := by rw [hW0]; exact (Below.refl _ w).alloc (Nat.le_refl _) _
  have hp := plays_any (w := W0) n k (hv.later hB0) hl hw so sm cap os hm hm8 (hr.later hB0) (fun o ho => (hok o ho).later hB0) 6 10
  have HB0 : Hid (Below w.heap.size w W0) := hB0
  clear hv hl hw hr hok hB0 hm
  go_enter Tryz.func4, Tryz.ntmps4
  go_wp2_with fail
  rw [← hW0]
  refine hp.mono ?_
  rintro r W1 ⟨rfl, hb1⟩
  have HB1 : Hid (Below w.heap.size w W1) := HB0.out.trans (hb1.mono HB0.out.size)
  clear hb1 hp hW0
  go_wp2
  go_ret
  exact ⟨rfl, HB1.out⟩
set_option maxHeartbeats 4000000 in
theorem law_CacheWrites {w : World} (n k : Int) {v : Value} {l : List (Int × Int)} (hv : ArgS w v l) (hl : l.length ≤ 1048576) (hw : ∀ p ∈ l, I64 p.1 ∧ I64 p.2) (so : Option Addr) (sm cap : Nat) (os : List Opq) (hm : sm = os.length) (hm8 : 8 * sm ≤ 1048576) (hr : OqRow w so os) (hok : ∀ o ∈ os, OpqOk w o) :
    Calls Tryz.prog 5 #[.agg #[.int .i64 n, .int .i64 k, v], .slice so sm cap] w fun r w' => r = .returned (.bool true) ∧ Below w.heap.size w w' := by
  obtain ⟨vo, vc, rfl, _⟩ := hv.form
  obtain ⟨W0, hW0⟩ : ∃ W0, W0 = w.alloc (.cells #[.int .i64 n, .int .i64 k, .slice vo l.length vc] TSe) := ⟨_, rfl⟩
  have hB0 : Below w.heap.size w W0 := by rw [hW0]; exact (Below.refl _ w).alloc (Nat.le_refl _) _
  have hp := plays_any (w := W0) n k (hv.later hB0) hl hw so sm cap os hm hm8 (hr.later hB0) (fun o ho => (hok o ho).later hB0) 11 11
  have HB0 : Hid (Below w.heap.size w W0) := hB0
  clear hv hl hw hr hok hB0 hm
  go_enter Tryz.func5, Tryz.ntmps5
  go_wp2_with fail
  rw [← hW0]
  refine hp.mono ?_
  rintro r W1 ⟨rfl, hb1⟩
  have HB1 : Hid (Below w.heap.size w W1) := HB0.out.trans (hb1.mono HB0.out.size)
  clear hb1 hp hW0
  go_wp2
  go_ret
  exact ⟨rfl, HB1.out⟩
set_option maxHeartbeats 4000000 in
theorem law_CacheAll {w : World} (n k : Int) {v : Value} {l : List (Int × Int)} (hv : ArgS w v l) (hl : l.length ≤ 1048576) (hw : ∀ p ∈ l, I64 p.1 ∧ I64 p.2) (so : Option Addr) (sm cap : Nat) (os : List Opq) (hm : sm = os.length) (hm8 : 8 * sm ≤ 1048576) (hr : OqRow w so os) (hok : ∀ o ∈ os, OpqOk w o) :
    Calls Tryz.prog 6 #[.agg #[.int .i64 n, .int .i64 k, v], .slice so sm cap] w fun r w' => r = .returned (.bool true) ∧ Below w.heap.size w w' := by
  obtain ⟨vo, vc, rfl, _⟩ := hv.form
  obtain ⟨W0, hW0⟩ : ∃ W0, W0 = w.alloc (.cells #[.int .i64 n, .int .i64 k, .slice vo l.length vc] TSe) := ⟨_, rfl⟩
  have hB0 : Below w.heap.size w W0 := by rw [hW0]; exact (Below.refl _ w).alloc (Nat.le_refl _) _
  have hp := plays_any (w := W0) n k (hv.later hB0) hl hw so sm cap os hm hm8 (hr.later hB0) (fun o ho => (hok o ho).later hB0) 1 11
  have HB0 : Hid (Below w.heap.size w W0) := hB0
  clear hv hl hw hr hok hB0 hm
  go_enter Tryz.func6, Tryz.ntmps6
  go_wp2_with fail
  rw [← hW0]
  refine hp.mono ?_
  rintro r W1 ⟨rfl, hb1⟩
  have HB1 : Hid (Below w.heap.size w W1) := HB0.out.trans (hb1.mono HB0.out.size)
  clear hb1 hp hW0
  go_wp2
  go_ret
  exact ⟨rfl, HB1.out⟩
end Go.Proofs.YtlacligofhinmaaGreat.C
