import Derived.Test.YtncajaihojhkkaaGreatXEI
import Derived.Test.YtncajaihojhkkaaGreatXV
import Derived.Laws.StructEq
namespace Go.Proofs.YtncajaihojhkkaaGreat.I
open Go.RowKit Go.Sort Go.Lib
set_option linter.unusedVariables false
set_option linter.unusedSimpArgs false
set_option maxRecDepth 100000

set_option maxHeartbeats 4000000 in
theorem at_any {w : World} {bm g cap : Nat} {size : Int} {rs : List (Rn Int)} (h : RM w bm g cap size rs) (i : Int) (h0 : 0 ≤ i) (h1 : i < size) (r : Rn Int) (hr : rs[find rs i]? = some r) :
    Calls Tryz.prog 19 #[.pointer (some ⟨bm, 0, none⟩), .int .i64 i] w fun e w' => e = .returned (.tuple #[.int .i64 r.v, .bool true]) ∧ Below w.heap.size w w' := by
  have mixed : Tryz.prog.follows .mixedOrders = true := by kernel_rfl
  have c0 := h.c0
  have c1 := h.c1
  have c2 : ∀ n os, (grow (w.drewN n) os).cell? ⟨bm, 2, none⟩ = some (.slice (some ⟨g, 0, none⟩) rs.length cap) := cell_grown h.ltm h.c2
  have cv : ∀ n os, (grow (w.drewN n) os).cell? ⟨g, find rs i * 3 + 2, none⟩ = some (.int .i64 r.v) := cell_grown h.ltg (h.run hr).2.2
  have HF : Hid (∀ n os, Calls Tryz.prog 32 #[.pointer (some ⟨bm, 0, none⟩), .int .i64 i] (grow (w.drewN n) os) fun e w' => e = .returned (.int .i64 (find rs i : Nat)) ∧ ∃ q os', w' = grow ((grow (w.drewN n) os).drewN q) os') := fun n os => find_any (h.later (below_of_grow _ w n os (Nat.le_refl _))) i
  have hlt : find rs i < rs.length := (List.getElem?_eq_some_iff.1 hr).1
  clear hr h
  generalize find rs i = fi at *
  generalize rs.length = n at *
  have k1 : ¬ i < 0 := by omega
  have k2 : ¬ size ≤ i := by omega
  have k3 : (fi : Int) < (n : Int) := by omega
  go_enter Tryz.func19, Tryz.ntmps19
  go_wp2_with (go_at_call 30; refine (usable_at bm true _ c0).mono ?_; rintro e w9 ⟨rfl, hw9⟩; rw [hw9]; clear hw9)
  go_quiet_grown (first | (go_at_call 32; refine Calls.grown_of (HF.out _ _)) | skip)
  go_wp2
  go_ret2
  exact ⟨rfl, below_of_grow _ w nq osq (Nat.le_refl _)⟩
theorem at_nil (w : World) (i : Int) : Calls Tryz.prog 19 #[.pointer none, .int .i64 i] w fun e w' => e = .returned (.tuple #[.int .i64 0, .bool false]) ∧ w' = w := by
  go_enter Tryz.func19, Tryz.ntmps19
  go_wp2_with (go_at_call 30; refine (usable_nil _).mono ?_; rintro e w9 ⟨rfl, rfl⟩)
  go_ret2
  exact ⟨rfl, rfl⟩
theorem at_zero (w : World) (p : Nat) (i : Int) (h : w.cell? ⟨p, 0, none⟩ = some (.bool false)) : Calls Tryz.prog 19 #[.pointer (some ⟨p, 0, none⟩), .int .i64 i] w fun e w' => e = .returned (.tuple #[.int .i64 0, .bool false]) ∧ w' = w := by
  go_enter Tryz.func19, Tryz.ntmps19
  go_wp2_with (go_at_call 30; refine (usable_at p false _ h).mono ?_; rintro e w9 ⟨rfl, rfl⟩)
  go_ret2
  exact ⟨rfl, rfl⟩
theorem count_any {w : World} {B bm : Nat} {ao : Option Addr} {n cap : Nat} {size : Int} {rs : List (Rn Int)} (h : MO w B bm (.slice ao n cap) size rs) :
    Calls Tryz.prog 21 #[.pointer (some ⟨bm, 0, none⟩)] w fun e w' => e = .returned (.int .i64 n) ∧ w' = w := by
  have c0 : w.cell? ⟨bm, 0, none⟩ = some (.bool true) := h.c 0
  have c2 : w.cell? ⟨bm, 2, none⟩ = some (.slice ao n cap) := h.c 2
  clear h
  go_enter Tryz.func21, Tryz.ntmps21
  go_wp2_with (go_at_call 30; refine (usable_at bm true _ c0).mono ?_; rintro e w9 ⟨rfl, hw9⟩; rw [hw9]; clear hw9)
  go_ret
  exact ⟨rfl, rfl⟩
theorem count_nil (w : World) : Calls Tryz.prog 21 #[.pointer none] w fun e w' => e = .returned (.int .i64 0) ∧ w' = w := by
  go_enter Tryz.func21, Tryz.ntmps21
  go_wp2_with (go_at_call 30; refine (usable_nil _).mono ?_; rintro e w9 ⟨rfl, rfl⟩)
  go_ret
  exact ⟨rfl, rfl⟩
theorem count_zero (w : World) (p : Nat) (h : w.cell? ⟨p, 0, none⟩ = some (.bool false)) : Calls Tryz.prog 21 #[.pointer (some ⟨p, 0, none⟩)] w fun e w' => e = .returned (.int .i64 0) ∧ w' = w := by
  go_enter Tryz.func21, Tryz.ntmps21
  go_wp2_with (go_at_call 30; refine (usable_at p false _ h).mono ?_; rintro e w9 ⟨rfl, rfl⟩)
  go_ret
  exact ⟨rfl, rfl⟩
theorem num_any (x : Int) (w : World) : Calls Tryz.prog 5 #[.int .i64 x] w fun e w' => e = .returned (.int .i64 x) ∧ w' = w := by
  go_enter Tryz.func5, Tryz.ntmps5
  go_wp2
  go_ret
  exact ⟨rfl, rfl⟩
end Go.Proofs.YtncajaihojhkkaaGreat.I
