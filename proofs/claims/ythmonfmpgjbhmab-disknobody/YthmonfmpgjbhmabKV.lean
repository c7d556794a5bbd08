import Derived.Test.YthmonfmpgjbhmabKG
namespace Go.Proofs.Ythmonfmpgjbhmab.K
open Go.RowKit Go.Maps Go.Proofs.Ythmonfmpgjbhmab Go.MuLone
attribute [local go_sem] Oper.semAt_some
set_option linter.unusedVariables false
set_option linter.unusedSimpArgs false
set_option maxRecDepth 100000

set_option maxHeartbeats 8000000 in
theorem nobody_any {w : World} {v : Value} (h : Dead w v) (k s m : Int) (fill : Nat) (hf : fill < 256) (f0 f1 f2 f3 f4 : Value) (ao : Option Addr) (n c : Nat) :
    Calls Try.prog 21 #[v, .agg #[.int .i64 k, .int .i64 s, .int .u8 fill, .int .i64 m, f0, f1, f2, f3, f4, .slice ao n c]] w fun r w' => r = .returned (.bool true) ∧ Below w.heap.size w w' := by
  obtain ⟨W0, hW0⟩ : ∃ W0, W0 = w.alloc (.cells #[.int .i64 k, .int .i64 s, .int .u8 fill, .int .i64 m, f0, f1, f2, f3, f4, .slice ao n c] 32) := ⟨_, rfl⟩
  have hB0 : Below w.heap.size w W0 := by rw [hW0]; exact (Below.refl _ w).alloc (Nat.le_refl _) _
  have hbx : W0.heap[w.heap.size]? = some (.cells #[.int .i64 k, .int .i64 s, .int .u8 fill, .int .i64 m, f0, f1, f2, f3, f4, .slice ao n c] 32) := by rw [hW0]; exact heap_alloc_new w _
  have hlt : w.heap.size < W0.heap.size := by rw [hW0, World.size_alloc]; omega
  have HC : Hid (∀ W, Below W0.heap.size W0 W → ∀ j, W.cell? ⟨w.heap.size, j, none⟩ = (#[.int .i64 k, .int .i64 s, .int .u8 fill, .int .i64 m, f0, f1, f2, f3, f4, .slice ao n c] : Array Value)[j]?) := fun W hb j => cell_of ((hb.block _ hlt).trans hbx)
  have HD0 : Hid (Dead W0 v) := h.later hB0
  have HL : Hid (∀ W, Below W0.heap.size W0 W → Dead W v) := fun W hb => HD0.out.later hb
  have HF : Hid (∀ W, Below W0.heap.size W0 W → Below w.heap.size w W) := fun W hb => hB0.trans (hb.mono hB0.size)
  have HB0 : Hid (Below W0.heap.size W0 W0) := Below.refl _ _
  have hi := Try.underlying65
  clear h hB0 hbx hlt
  go_enter Try.func21, Try.ntmps21
  go_wp2_with fail
  rw [← hW0]
  refine Calls.mono (read_dead (HL.out _ HB0.out) s) ?_
  rintro e W1 ⟨rfl, hb⟩
  have HB1 : Hid (Below W0.heap.size W0 W1) := HB0.out.trans (hb.mono HB0.out.size)
  clear hb
  have q1 : W1.cell? ⟨w.heap.size, 1, none⟩ = some (.int .i64 s) := HC.out _ HB1.out 1
  have q2 : W1.cell? ⟨w.heap.size, 2, none⟩ = some (.int .u8 fill) := HC.out _ HB1.out 2
  have q3 : W1.cell? ⟨w.heap.size, 3, none⟩ = some (.int .i64 m) := HC.out _ HB1.out 3
  have HB1d : Hid (Below W0.heap.size W0 W1.drew) := HB1.out.drew
  go_wp2_with fail
  go_region_held3 (fun w' => w'.cell? ⟨w.heap.size, 1, none⟩ = some (.int .i64 s) ∧ w'.cell? ⟨w.heap.size, 2, none⟩ = some (.int .u8 fill) ∧ w'.cell? ⟨w.heap.size, 3, none⟩ = some (.int .i64 m)) (first | exact ⟨HC.out _ HB3.out 1, HC.out _ HB3.out 2, HC.out _ HB3.out 3⟩ | exact ⟨HC.out _ HB2.out 1, HC.out _ HB2.out 2, HC.out _ HB2.out 3⟩ | go_keep) (first | (go_at_call 9; refine Calls.mono (bytes_any W1.drew fill m hf) ?_; rintro e W2 ⟨v2, rfl, ho, hb⟩; have HB2 : Hid (Below W0.heap.size W0 W2) := HB1d.out.trans (hb.mono HB1d.out.size); clear ho hb) | (go_at_call 8; refine Calls.mono (write_dead (HL.out _ HB2.out) s _) ?_; rintro e W3 ⟨rfl, hb⟩; have HB3 : Hid (Below W0.heap.size W0 W3) := HB2.out.trans (hb.mono HB2.out.size); clear hb))
  clear q1 q2 q3
  go_wp2_with fail
  refine Calls.mono (barrier_dead (HL.out _ HB3.out)) ?_
  rintro e W4 ⟨rfl, hb⟩
  have HB4 : Hid (Below W0.heap.size W0 W4) := HB3.out.trans (hb.mono HB3.out.size)
  clear hb
  have q4 : W4.cell? ⟨w.heap.size, 4, none⟩ = some (f0) := HC.out _ HB4.out 4
  have q5 : W4.cell? ⟨w.heap.size, 5, none⟩ = some (f1) := HC.out _ HB4.out 5
  have q6 : W4.cell? ⟨w.heap.size, 6, none⟩ = some (f2) := HC.out _ HB4.out 6
  have q7 : W4.cell? ⟨w.heap.size, 7, none⟩ = some (f3) := HC.out _ HB4.out 7
  have q8 : W4.cell? ⟨w.heap.size, 8, none⟩ = some (f4) := HC.out _ HB4.out 8
  go_wp2_with fail
  refine Calls.mono (fault_dead (HL.out _ HB4.out) f0 f1 f2 f3 f4) ?_
  rintro e W5 ⟨rfl, hb⟩
  have HB5 : Hid (Below W0.heap.size W0 W5) := HB4.out.trans (hb.mono HB4.out.size)
  clear hb q4 q5 q6 q7 q8
  have q9 : W5.cell? ⟨w.heap.size, 9, none⟩ = some (.slice ao n c) := HC.out _ HB5.out 9
  go_wp2_with fail
  refine Calls.mono (crash_dead (HL.out _ HB5.out) ao n c) ?_
  rintro e W6 ⟨rfl, hb⟩
  have HB6 : Hid (Below W0.heap.size W0 W6) := HB5.out.trans (hb.mono HB5.out.size)
  clear hb q9
  go_wp2_with fail
  refine Calls.mono (sectors_dead (HL.out _ HB6.out)) ?_
  rintro e W7 ⟨rfl, hb⟩
  have HB7 : Hid (Below W0.heap.size W0 W7) := HB6.out.trans (hb.mono HB6.out.size)
  clear hb
  go_wp2_with fail
  refine Calls.mono (faults_dead (HL.out _ HB7.out)) ?_
  rintro e W8 ⟨rfl, hb⟩
  have HB8 : Hid (Below W0.heap.size W0 W8) := HB7.out.trans (hb.mono HB7.out.size)
  clear hb
  go_wp2_with fail
  refine Calls.mono (queue_dead (HL.out _ HB8.out)) ?_
  rintro e W9 ⟨rfl, hb⟩
  have HB9 : Hid (Below W0.heap.size W0 W9) := HB8.out.trans (hb.mono HB8.out.size)
  clear hb
  have q1 : W9.cell? ⟨w.heap.size, 1, none⟩ = some (.int .i64 s) := HC.out _ HB9.out 1
  go_wp2_with fail
  refine Calls.mono (waits_dead (HL.out _ HB9.out) s) ?_
  rintro e W10 ⟨rfl, hb⟩
  have HB10 : Hid (Below W0.heap.size W0 W10) := HB9.out.trans (hb.mono HB9.out.size)
  clear hb q1
  go_wp2_with fail
  refine Calls.mono (image_dead (HL.out _ HB10.out)) ?_
  rintro e W11 ⟨rfl, hb⟩
  have HB11 : Hid (Below W0.heap.size W0 W11) := HB10.out.trans (hb.mono HB10.out.size)
  clear hb
  go_wp2_with fail
  refine Calls.mono (stats_dead (HL.out _ HB11.out)) ?_
  rintro e W12 ⟨rfl, hb⟩
  have HB12 : Hid (Below W0.heap.size W0 W12) := HB11.out.trans (hb.mono HB11.out.size)
  clear hb
  go_wp2_with fail
  refine Calls.mono (copy_dead (HL.out _ HB12.out)) ?_
  rintro e W13 ⟨rfl, hb⟩
  have HB13 : Hid (Below W0.heap.size W0 W13) := HB12.out.trans (hb.mono HB12.out.size)
  clear hb
  go_wp2
  go_ret
  exact ⟨rfl, HF.out _ HB13.out⟩
end Go.Proofs.Ythmonfmpgjbhmab.K
