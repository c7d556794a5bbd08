import Derived.Test.YthmonfmpgjbhmabKV
import Derived.Carry
import Derived.ProofKit
import Derived.OpenShut
import Derived.SizedLaws
import Derived.Deep.Slices
namespace Go.Proofs.Ythmonfmpgjbhmab.K
open Go.RowKit Go.Maps Go.Proofs.Ythmonfmpgjbhmab Go.MuLone Go.ChangeShapes Go.WideShapes Go.ChangeAt Go.Deep
attribute [local go_sem] Oper.semAt_some
set_option linter.unusedVariables false
set_option linter.unusedSimpArgs false
set_option maxRecDepth 100000

set_option maxHeartbeats 4000000 in
theorem lawNobody_any (w : World) (k s m : Int) (fill : Nat) (hf : fill < 256) (f0 f1 f2 f3 f4 : Value) (ao : Option Addr) (n c : Nat) :
    Calls Try.prog 5 #[.agg #[.int .i64 k, .int .i64 s, .int .u8 fill, .int .i64 m, f0, f1, f2, f3, f4, .slice ao n c]] w fun r w' => r = .returned (.bool true) ∧ Below w.heap.size w w' := by
  obtain ⟨W0, hW0⟩ : ∃ W0, W0 = w.alloc (.cells #[.int .i64 k, .int .i64 s, .int .u8 fill, .int .i64 m, f0, f1, f2, f3, f4, .slice ao n c] 32) := ⟨_, rfl⟩
  have hB0 : Below w.heap.size w W0 := by rw [hW0]; exact (Below.refl _ w).alloc (Nat.le_refl _) _
  have hbx : W0.heap[w.heap.size]? = some (.cells #[.int .i64 k, .int .i64 s, .int .u8 fill, .int .i64 m, f0, f1, f2, f3, f4, .slice ao n c] 32) := by rw [hW0]; exact heap_alloc_new w _
  have hlt : w.heap.size < W0.heap.size := by rw [hW0, World.size_alloc]; omega
  have HC : Hid (∀ W, Below W0.heap.size W0 W → ∀ j, W.cell? ⟨w.heap.size, j, none⟩ = (#[.int .i64 k, .int .i64 s, .int .u8 fill, .int .i64 m, f0, f1, f2, f3, f4, .slice ao n c] : Array Value)[j]?) := fun W hb j => cell_of ((hb.block _ hlt).trans hbx)
  have HF : Hid (∀ W, Below W0.heap.size W0 W → Below w.heap.size w W) := fun W hb => hB0.trans (hb.mono hB0.size)
  have H1 := nobody_any (dead_nil W0) k s m fill hf f0 f1 f2 f3 f4 ao n c
  clear hB0 hbx hlt
  go_enter Try.func5, Try.ntmps5
  go_wp2_with fail
  rw [← hW0]
  refine H1.mono ?_
  clear H1
  rintro e w1 ⟨rfl, hb1⟩
  have HB1 : Hid (Below W0.heap.size W0 w1) := hb1
  have q0 : w1.cell? ⟨w.heap.size, 0, none⟩ = some (.int .i64 k) := HC.out _ hb1 0
  have p0 : ∀ o, (w1.alloc o).cell? ⟨w.heap.size, 0, none⟩ = some (.int .i64 k) := fun o => HC.out _ (hb1.alloc hb1.size o) 0
  have q1 : w1.cell? ⟨w.heap.size, 1, none⟩ = some (.int .i64 s) := HC.out _ hb1 1
  have p1 : ∀ o, (w1.alloc o).cell? ⟨w.heap.size, 1, none⟩ = some (.int .i64 s) := fun o => HC.out _ (hb1.alloc hb1.size o) 1
  have q2 : w1.cell? ⟨w.heap.size, 2, none⟩ = some (.int .u8 fill) := HC.out _ hb1 2
  have p2 : ∀ o, (w1.alloc o).cell? ⟨w.heap.size, 2, none⟩ = some (.int .u8 fill) := fun o => HC.out _ (hb1.alloc hb1.size o) 2
  have q3 : w1.cell? ⟨w.heap.size, 3, none⟩ = some (.int .i64 m) := HC.out _ hb1 3
  have p3 : ∀ o, (w1.alloc o).cell? ⟨w.heap.size, 3, none⟩ = some (.int .i64 m) := fun o => HC.out _ (hb1.alloc hb1.size o) 3
  have q4 : w1.cell? ⟨w.heap.size, 4, none⟩ = some (f0) := HC.out _ hb1 4
  have p4 : ∀ o, (w1.alloc o).cell? ⟨w.heap.size, 4, none⟩ = some (f0) := fun o => HC.out _ (hb1.alloc hb1.size o) 4
  have q5 : w1.cell? ⟨w.heap.size, 5, none⟩ = some (f1) := HC.out _ hb1 5
  have p5 : ∀ o, (w1.alloc o).cell? ⟨w.heap.size, 5, none⟩ = some (f1) := fun o => HC.out _ (hb1.alloc hb1.size o) 5
  have q6 : w1.cell? ⟨w.heap.size, 6, none⟩ = some (f2) := HC.out _ hb1 6
  have p6 : ∀ o, (w1.alloc o).cell? ⟨w.heap.size, 6, none⟩ = some (f2) := fun o => HC.out _ (hb1.alloc hb1.size o) 6
  have q7 : w1.cell? ⟨w.heap.size, 7, none⟩ = some (f3) := HC.out _ hb1 7
  have p7 : ∀ o, (w1.alloc o).cell? ⟨w.heap.size, 7, none⟩ = some (f3) := fun o => HC.out _ (hb1.alloc hb1.size o) 7
  have q8 : w1.cell? ⟨w.heap.size, 8, none⟩ = some (f4) := HC.out _ hb1 8
  have p8 : ∀ o, (w1.alloc o).cell? ⟨w.heap.size, 8, none⟩ = some (f4) := fun o => HC.out _ (hb1.alloc hb1.size o) 8
  have q9 : w1.cell? ⟨w.heap.size, 9, none⟩ = some (.slice ao n c) := HC.out _ hb1 9
  have p9 : ∀ o, (w1.alloc o).cell? ⟨w.heap.size, 9, none⟩ = some (.slice ao n c) := fun o => HC.out _ (hb1.alloc hb1.size o) 9
  clear hb1 HC
  go_wp2_with fail
  refine Calls.mono (nobody_any (dead_zero (heap_alloc_new w1 _) rfl) k s m fill hf f0 f1 f2 f3 f4 ao n c) ?_
  rintro e w2 ⟨rfl, hb2⟩
  have HB2 : Hid (Below W0.heap.size W0 w2) := HB1.out.trans ((((Below.refl _ w1).alloc (Nat.le_refl _) _).trans (hb2.mono (by rw [World.size_alloc]; omega))).mono HB1.out.size)
  clear hb2 HB1 q0 p0 q1 p1 q2 p2 q3 p3 q4 p4 q5 p5 q6 p6 q7 p7 q8 p8 q9 p9
  go_wp2_with fail
  refine Calls.mono (heads_any w2) ?_
  rintro e w3 ⟨rfl, hb3⟩
  have HB3 : Hid (Below W0.heap.size W0 w3) := HB2.out.trans (hb3.mono HB2.out.size)
  clear hb3 HB2
  go_wp2
  go_ret
  exact ⟨rfl, HF.out _ HB3.out⟩

theorem laidOut : laidOutB Try.prog = true := by kernel_rfl
theorem cellsInt : Try.prog.cellsOf 3 = 1 := by kernel_rfl
theorem cellsU8 : Try.prog.cellsOf 5 = 1 := by kernel_rfl
theorem cellsKeep : Try.prog.cellsOf 30 = 1 := by kernel_rfl
theorem cellsOp : Try.prog.cellsOf 32 = 10 := by kernel_rfl
theorem tenV {cs : List Value} (h : cs.length = 10) : ∃ a b c d e f g i j k, cs = [a, b, c, d, e, f, g, i, j, k] := by
  match cs, h with
  | [a, b, c, d, e, f, g, i, j, k], _ => exact ⟨a, b, c, d, e, f, g, i, j, k, rfl⟩
theorem open_op {H : Type} {enc : TypeId × Value → H} {W : World} {base fuel : Nat} {cs : List Value} {x : DataW H × List MemPlace} (hf : DataW.trod enc Try.prog W base (fun _ => true) true fuel 32 cs = some x) :
    ∃ (k s m : Int) (fill : Nat) (f0 f1 f2 f3 f4 : Value) (ao : Option Addr) (n c : Nat), cs = [.int .i64 k, .int .i64 s, .int .u8 fill, .int .i64 m, f0, f1, f2, f3, f4, .slice ao n c] ∧ fill < 256 := by
  obtain ⟨xs, m, _, _, hl, hxl, hall⟩ := DataW.trod_struct Try.underlying32 hf
  obtain ⟨a, b, c, d, f0, f1, f2, f3, f4, g, rfl⟩ := tenV (hl.trans cellsOp)
  have hx6 : xs.length = 6 := hxl
  have h0 : DataW.trod enc Try.prog W base (fun _ => true) true m 3 (([a, b, c, d, f0, f1, f2, f3, f4, g].drop 0).take (Try.prog.cellsOf 3)) = xs[0]? := hall 0 _ rfl
  have h1 : DataW.trod enc Try.prog W base (fun _ => true) true m 3 (([a, b, c, d, f0, f1, f2, f3, f4, g].drop 1).take (Try.prog.cellsOf 3)) = xs[1]? := hall 1 _ rfl
  have h2 : DataW.trod enc Try.prog W base (fun _ => true) true m 5 (([a, b, c, d, f0, f1, f2, f3, f4, g].drop 2).take (Try.prog.cellsOf 5)) = xs[2]? := hall 2 _ rfl
  have h3 : DataW.trod enc Try.prog W base (fun _ => true) true m 3 (([a, b, c, d, f0, f1, f2, f3, f4, g].drop 3).take (Try.prog.cellsOf 3)) = xs[3]? := hall 3 _ rfl
  have h5 : DataW.trod enc Try.prog W base (fun _ => true) true m 30 (([a, b, c, d, f0, f1, f2, f3, f4, g].drop 9).take (Try.prog.cellsOf 30)) = xs[5]? := hall 5 _ rfl
  rw [List.getElem?_eq_getElem (by omega)] at h0 h1 h2 h3 h5
  rw [cellsInt] at h0 h1 h3
  rw [cellsU8] at h2
  rw [cellsKeep] at h5
  obtain ⟨z0, e0, _, _⟩ := DataW.trod_int Try.underlying3 h0
  obtain ⟨z1, e1, _, _⟩ := DataW.trod_int Try.underlying3 h1
  obtain ⟨z2, e2, _, w2⟩ := DataW.trod_int Try.underlying5 h2
  obtain ⟨z3, e3, _, _⟩ := DataW.trod_int Try.underlying3 h3
  have h5' : ∃ ao n c, g = .slice ao n c := by
    have hk := h5
    simp at hk
    obtain ⟨y, hy⟩ : ∃ y, y = xs[5] := ⟨_, rfl⟩
    rw [← hy] at hk
    rcases open_slice Try.underlying30 hk with ⟨hcs, _⟩ | ⟨x, len, cap, m, n, D, Pl, hcs, _⟩
    · simp at hcs; exact ⟨_, _, _, hcs⟩
    · simp at hcs; exact ⟨_, _, _, hcs⟩
  obtain ⟨ao, n, cp, rfl⟩ := h5'
  simp at e0 e1 e2 e3
  subst e0; subst e1; subst e2; subst e3
  have hb := bounds_u8 w2
  obtain ⟨fill, rfl⟩ := Int.eq_ofNat_of_zero_le hb.1
  exact ⟨z0, z1, z3, fill, f0, f1, f2, f3, f4, ao, n, cp, rfl, by omega⟩
end Go.Proofs.Ythmonfmpgjbhmab.K
