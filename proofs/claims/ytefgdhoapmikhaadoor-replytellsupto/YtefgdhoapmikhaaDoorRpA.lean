import Derived.Test.YtefgdhoapmikhaaDoorRpM
namespace Go.Proofs.YtefgdhoapmikhaaDoor
open Go.RowKit
set_option linter.unusedVariables false
set_option linter.unusedSimpArgs false
set_option maxRecDepth 100000
theorem wu64 {x : Int} (h0 : 0 ≤ x) (h : x < 18446744073709551616) : IntKind.u64.wrap x = x := by rw [IntKind.wrap_u64]; omega
theorem below1 (w : World) (o : Obj) : Below w.heap.size w (w.alloc o) := (Below.refl _ _).alloc (Nat.le_refl _) o
theorem below2 (w : World) (o o' : Obj) : Below w.heap.size w ((w.alloc o).alloc o') := ((Below.refl _ w).alloc (Nat.le_refl _) o).alloc (by simp) o'
set_option maxHeartbeats 1000000 in
theorem pieceFits_any (p : Pc) (h : p.ok) (w : World) : Calls Tryd.prog 95 #[.agg p.cells] w fun e w' => e = .returned (.bool (pcB p)) ∧ Below w.heap.size w w' := by
  obtain ⟨off, ln, ho, ao, n, cap⟩ := p
  obtain ⟨h1, h2, h3⟩ := h
  simp only at h1 h2 h3
  simp only [Pc.cells]
  generalize hB : pcB _ = B
  have hB' : B = true ↔ 0 < ln ∧ n = (if ho = true then 0 else ln) ∧ off + ln ≤ 18446744073709551616 := by rw [← hB]; simp [pcB, and_assoc]
  clear hB
  have u1 : IntKind.u64.wrap (ln : Int) = ln := wu64 (by omega) (by omega)
  have u2 : IntKind.u64.wrap (n : Int) = n := wu64 (by omega) (by omega)
  have u3 : IntKind.u64.wrap (18446744073709551615 - (off : Int)) = 18446744073709551615 - (off : Int) := wu64 (by omega) (by omega)
  go_enter Tryd.func95, Tryd.ntmps95
  go_wp2
  all_goals
    go_ret
    refine ⟨ret_bool ?_, below1 _ _⟩
    rw [Bool.eq_iff_iff, hB']
    simp_all <;> omega
set_option maxHeartbeats 1000000 in
theorem placeFits_any (fl ty ck off len : Nat) (d : Value) (co : Nat) (pl : Bool) (at_ : Nat) (p q : Value) (w : World) (h1 : off < 18446744073709551616) (h2 : len < 18446744073709551616) (h3 : at_ < 18446744073709551616) :
    Calls Tryd.prog 66 #[.agg #[.int .u16 (fl : Int), .int .u16 (ty : Int), .int .u64 (ck : Int), .int .u64 (off : Int), .int .u64 (len : Int), d], .agg #[.int .u32 (co : Int), .bool pl, .int .u64 (at_ : Int), p, q]] w fun e w' => e = .returned (.bool (if pl = true then decide (off ≤ at_) && decide (at_ < off + len) else decide (at_ = 0))) ∧ Below w.heap.size w w' := by
  generalize hB : (if pl = true then decide (off ≤ at_) && decide (at_ < off + len) else decide (at_ = 0)) = B
  have hB' : B = true ↔ (pl = true ∧ off ≤ at_ ∧ at_ < off + len) ∨ (pl = false ∧ at_ = 0) := by rw [← hB]; cases pl <;> simp
  clear hB
  have u3 : off ≤ at_ → IntKind.u64.wrap ((at_ : Int) - (off : Int)) = (at_ : Int) - (off : Int) := fun h => wu64 (by omega) (by omega)
  go_enter Tryd.func66, Tryd.ntmps66
  go_wp2
  all_goals
    go_ret
    refine ⟨ret_bool ?_, below2 _ _ _⟩
    rw [Bool.eq_iff_iff, hB']
    simp_all <;> omega
set_option maxHeartbeats 1000000 in
theorem tells_any (co : Nat) (pl : Bool) (at_ : Nat) (po : Option Addr) (pn pc : Nat) (lo : Option Addr) (ln lc : Nat) (w : World) (h1 : pn ≤ 1048576) (h2 : ln ≤ 1048576) :
    Calls Tryd.prog 65 #[.agg #[.int .u32 (co : Int), .bool pl, .int .u64 (at_ : Int), .slice po pn pc, .slice lo ln lc]] w fun e w' => e = .returned (.bool (decide (pn = 0) && decide (ln = 0))) ∧ Below w.heap.size w w' := by
  generalize hB : (decide (pn = 0) && decide (ln = 0)) = B
  have hB' : B = true ↔ pn = 0 ∧ ln = 0 := by rw [← hB]; simp
  clear hB
  go_enter Tryd.func65, Tryd.ntmps65
  go_wp2
  all_goals
    go_ret
    refine ⟨ret_bool ?_, below1 _ _⟩
    rw [Bool.eq_iff_iff, hB']
    simp_all <;> omega
set_option maxHeartbeats 1000000 in
theorem struct_any (ix : Int) (st ex : Bool) (c : Value) (fl ty ck off len : Nat) (d : Value) (w : World) (h1 : ty < 65536) :
    Calls Tryd.prog 12 #[.agg #[.int .i64 ix, .bool st, .bool ex, c], .agg #[.int .u16 (fl : Int), .int .u16 (ty : Int), .int .u64 (ck : Int), .int .u64 (off : Int), .int .u64 (len : Int), d]] w fun e w' => e = .returned (.bool (strB st ex ty)) ∧ Below w.heap.size w w' := by
  generalize hB : strB st ex ty = B
  have hB' : B = true ↔ ex = true ∨ st = true ∧ (ty = 0 ∨ ty = 7) := by rw [← hB]; simp [strB]
  clear hB
  go_enter Tryd.func12, Tryd.ntmps12
  go_wp2
  all_goals
    go_ret
    refine ⟨ret_bool ?_, below2 _ _ _⟩
    rw [Bool.eq_iff_iff, hB']
    simp_all <;> omega
end Go.Proofs.YtefgdhoapmikhaaDoor
