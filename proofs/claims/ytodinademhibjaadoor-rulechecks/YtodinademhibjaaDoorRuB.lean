import Derived.Test.YtodinademhibjaaDoorRuA
import Derived.Laws.BitsAllLaws
import Derived.Laws.Bits64
import Derived.OpenShut
namespace Go.Proofs.YtodinademhibjaaDoor
open Go.RowKit
set_option linter.unusedVariables false
set_option linter.unusedSimpArgs false
set_option maxRecDepth 100000

theorem bnew (w : World) (o : Obj) : Below w.heap.size w (w.alloc o) := (Below.refl _ _).alloc (Nat.le_refl _) o
/-- a box of cells -/
def Bx (w : World) (b : Nat) (cs : Array Value) : Prop := ∀ j (hj : j < cs.size), w.cell? ⟨b, j, none⟩ = some cs[j]
theorem Bx.later {w w' : World} {b : Nat} {cs : Array Value} (h : Bx w b cs) (hb : Below w.heap.size w w') : Bx w' b cs := fun j hj => cell_later hb (h j hj)
theorem Bx.new (w : World) (cs : Array Value) (t : TypeId) (fr : Nat × Nat) : Bx (w.alloc (.cells cs t fr)) w.heap.size cs := by
  intro j hj
  have : (w.alloc (.cells cs t fr)).heap[w.heap.size]? = some (.cells cs t fr) := by show (w.heap.push _)[w.heap.size]? = _; simp
  rw [blk_at this, Array.getElem?_eq_getElem hj]
theorem Bx.alloc {w : World} {b : Nat} {cs : Array Value} (h : Bx w b cs) (o : Obj) : Bx (w.alloc o) b cs := h.later (bnew w o)
theorem Bx.drewN {w : World} {b : Nat} {cs : Array Value} (h : Bx w b cs) (n : Nat) : Bx (w.drewN n) b cs := h
theorem Tb.drewN {w : World} (h : Tb w) (n : Nat) : Tb (w.drewN n) := ⟨h.h⟩
theorem Tb.alloc {w : World} (h : Tb w) (o : Obj) : Tb (w.alloc o) := h.later (bnew w o)
abbrev expV (nm ds : ByteArray) (sec : Int) (ro rt pv tr : Bool) (mn pf : Nat) : Value := .agg #[.string nm, .string ds, .int .i64 sec, .bool ro, .bool rt, .bool pv, .bool tr, .int .u32 (mn : Int), .int .u32 (pf : Int)]
abbrev sesV (ix : Int) (st ex : Bool) (ao : Option Addr) (n cap : Nat) : Value := .agg #[.int .i64 ix, .bool st, .bool ex, .slice ao n cap]
abbrev limV (py op : Nat) (fi : Int) : Value := .agg #[.int .u32 (py : Int), .int .u32 (op : Int), .int .i64 fi]
abbrev reqV (fl ty ck of ln : Nat) (ao : Option Addr) (n cap : Nat) : Value := .agg #[.int .u16 (fl : Int), .int .u16 (ty : Int), .int .u64 (ck : Int), .int .u64 (of : Int), .int .u64 (ln : Int), .slice ao n cap]
def hasB (fl k : Nat) : Bool := decide (fl &&& k ≠ 0)
theorem has_bits (fl k : Nat) (hf : fl < 65536) (hk : k < 65536) : (bits BinOp.and IntKind.u16 (fl : Int) (k : Int) != 0) = hasB fl k := by
  rw [u16_and_nat fl k hf hk]
  unfold hasB
  cases h : decide (fl &&& k ≠ 0)
  · simp at h; simp [h]
  · simp at h; simp [h]
theorem has_any (fl ty ck of ln : Nat) (ao : Option Addr) (n cap : Nat) (k : Nat) (hf : fl < 65536) (hk : k < 65536) (w : World) :
    Calls Tryd.prog 22 #[reqV fl ty ck of ln ao n cap, .int .u16 (k : Int)] w fun e w' => e = .returned (.bool (hasB fl k)) ∧ Below w.heap.size w w' := by
  go_enter Tryd.func22, Tryd.ntmps22
  go_wp2
  go_ret
  refine ⟨?_, bnew _ _⟩
  show Ending.returned (.bool (bits BinOp.and IntKind.u16 (fl : Int) (k : Int) != 0)) = _
  rw [has_bits fl k hf hk]
theorem inChunks_any (ix : Int) (st ex : Bool) (ao : Option Addr) (n cap : Nat) (w : World) :
    Calls Tryd.prog 23 #[sesV ix st ex ao n cap] w fun e w' => e = .returned (.bool (st || ex)) ∧ Below w.heap.size w w' := by
  cases st <;>
  · go_enter Tryd.func23, Tryd.ntmps23
    go_wp2
    go_ret
    refine ⟨?_, bnew _ _⟩
    simp
theorem inside_any (sz fl ty ck of ln : Nat) (ao : Option Addr) (n cap : Nat) (h1 : sz < 18446744073709551616) (h2 : of < 18446744073709551616) (h3 : ln < 18446744073709551616) (w : World) :
    Calls Tryd.prog 24 #[.int .u64 (sz : Int), reqV fl ty ck of ln ao n cap] w fun e w' => e = .returned (.bool (decide (of ≤ sz) && decide (ln ≤ sz - of))) ∧ Below w.heap.size w w' := by
  by_cases h : of ≤ sz
  · have h' : (of : Int) ≤ (sz : Int) := by omega
    have HE : Hid (decide ((ln : Int) ≤ (sz : Int) - (of : Int)) = (decide (of ≤ sz) && decide (ln ≤ sz - of))) := by
      show _ = _
      simp only [h, decide_true, Bool.true_and]
      congr 1; apply propext; omega
    generalize (decide (of ≤ sz) && decide (ln ≤ sz - of)) = r at *
    go_enter Tryd.func24, Tryd.ntmps24
    go_wp2
    go_ret
    refine ⟨?_, bnew _ _⟩
    show Ending.returned (.bool (decide ((ln : Int) ≤ (sz : Int) - (of : Int)))) = _
    rw [HE.out]
  · have h' : ¬ (of : Int) ≤ (sz : Int) := by omega
    go_enter Tryd.func24, Tryd.ntmps24
    go_wp2
    go_ret
    refine ⟨?_, bnew _ _⟩
    simp
/-- the size, as P11.2 has it -/
def szOf (sec : Int) : Nat := if sec < 0 then 0 else (sec.toNat * 512) % 18446744073709551616
theorem szOf_lt (sec : Int) : szOf sec < 18446744073709551616 := by unfold szOf; split <;> omega
theorem szOf_nat (m : Nat) (hs : (m : Int) < 9223372036854775808) : IntKind.u64.wrap (IntKind.u64.wrap (m : Int) * 512) = (szOf (m : Int) : Int) := by
  rw [IntKind.wrap_u64, IntKind.wrap_u64]
  unfold szOf
  rw [if_neg (by omega)]
  simp only [Int.toNat_natCast]
  omega
theorem szOf_neg (sec : Int) (h : sec < 0) : szOf sec = 0 := by unfold szOf; rw [if_pos h]
theorem size_any (nm ds : ByteArray) (sec : Int) (ro rt pv tr : Bool) (mn pf : Nat) (hs : (Lit.int .i64 sec).wf = true) (w : World) :
    Calls Tryd.prog 25 #[expV nm ds sec ro rt pv tr mn pf] w fun e w' => e = .returned (.int .u64 (szOf sec : Int)) ∧ Below w.heap.size w w' := by
  by_cases h : sec < 0
  · rw [szOf_neg sec h]
    go_enter Tryd.func25, Tryd.ntmps25
    go_wp2
    go_ret
    exact ⟨rfl, bnew _ _⟩
  · obtain ⟨m, rfl⟩ := Int.eq_ofNat_of_zero_le (show 0 ≤ sec by omega)
    have HE : Hid (IntKind.u64.wrap (IntKind.u64.wrap (m : Int) * 512) = (szOf (m : Int) : Int)) := szOf_nat m (by have := (bounds_i64 hs).2; omega)
    generalize szOf (m : Int) = r at *
    go_enter Tryd.func25, Tryd.ntmps25
    go_wp2
    go_ret
    refine ⟨?_, bnew _ _⟩
    show Ending.returned (.int .u64 (IntKind.u64.wrap (IntKind.u64.wrap (m : Int) * 512))) = _
    rw [HE.out]
def aliB (of ln k : Nat) : Bool := decide (of % k = 0) && decide (ln % k = 0)
theorem aligned_any (fl ty ck of ln : Nat) (ao : Option Addr) (n cap : Nat) (k : Nat) (h1 : of < 18446744073709551616) (h2 : ln < 18446744073709551616) (hk : k < 18446744073709551616) (hk0 : 0 < k) (w : World) :
    Calls Tryd.prog 26 #[reqV fl ty ck of ln ao n cap, .int .u64 (k : Int)] w fun e w' => e = .returned (.bool (aliB of ln k)) ∧ Below w.heap.size w w' := by
  have hk0' : (k : Int) ≠ 0 := by omega
  have HE : Hid (aliB of ln k = (decide (of % k = 0) && decide (ln % k = 0))) := rfl
  generalize aliB of ln k = r at *
  by_cases h : of % k = 0
  · have h' : (of : Int) % (k : Int) = 0 := by omega
    by_cases g : ln % k = 0
    · have g' : (ln : Int) % (k : Int) = 0 := by omega
      obtain rfl : r = true := by rw [HE.out]; simp [h, g]
      clear HE
      go_enter Tryd.func26, Tryd.ntmps26
      go_wp2
      go_ret
      exact ⟨rfl, bnew _ _⟩
    · have g' : (ln : Int) % (k : Int) ≠ 0 := by omega
      obtain rfl : r = false := by rw [HE.out]; simp [h, g]
      clear HE
      go_enter Tryd.func26, Tryd.ntmps26
      go_wp2
      go_ret
      refine ⟨?_, bnew _ _⟩
      simp [g']
  · have h' : (of : Int) % (k : Int) ≠ 0 := by omega
    obtain rfl : r = false := by rw [HE.out]; simp [h]
    clear HE
    go_enter Tryd.func26, Tryd.ntmps26
    go_wp2
    go_ret
    exact ⟨rfl, bnew _ _⟩
def fastB (fl of ln : Nat) : Bool := !hasB fl 2 && aliB of ln 512
theorem fast_any (fl ty ck of ln : Nat) (ao : Option Addr) (n cap : Nat) (hf : fl < 65536) (h1 : of < 18446744073709551616) (h2 : ln < 18446744073709551616) (w : World) :
    Calls Tryd.prog 27 #[reqV fl ty ck of ln ao n cap] w fun e w' => e = .returned (.bool (fastB fl of ln)) ∧ Below w.heap.size w w' := by
  have H1 : Hid (∀ w, Calls Tryd.prog 22 #[reqV fl ty ck of ln ao n cap, .int .u16 2] w fun e w' => e = .returned (.bool (hasB fl 2)) ∧ Below w.heap.size w w') := has_any fl ty ck of ln ao n cap 2 hf (by decide)
  have H2 : Hid (∀ w, Calls Tryd.prog 26 #[reqV fl ty ck of ln ao n cap, .int .u64 512] w fun e w' => e = .returned (.bool (aliB of ln 512)) ∧ Below w.heap.size w w') := aligned_any fl ty ck of ln ao n cap 512 h1 h2 (by decide) (by decide)
  unfold fastB
  generalize hasB fl 2 = a at *
  generalize aliB of ln 512 = b at *
  cases a
  · go_enter Tryd.func27, Tryd.ntmps27
    go_wp2_with fail
    refine (H1.out _).mono ?_
    rintro e w1 ⟨rfl, hb⟩
    have B1 : Hid (Below w.heap.size w w1) := (bnew _ _).trans (hb.mono (by simp))
    have c0 : w1.cell? ⟨w.heap.size, 0, none⟩ = some (.int .u16 (fl : Int)) := (Bx.new _ _ _ _).later hb 0 (by show 0 < 6; decide)
    have c1 : w1.cell? ⟨w.heap.size, 1, none⟩ = some (.int .u16 (ty : Int)) := (Bx.new _ _ _ _).later hb 1 (by show 1 < 6; decide)
    have c2 : w1.cell? ⟨w.heap.size, 2, none⟩ = some (.int .u64 (ck : Int)) := (Bx.new _ _ _ _).later hb 2 (by show 2 < 6; decide)
    have c3 : w1.cell? ⟨w.heap.size, 3, none⟩ = some (.int .u64 (of : Int)) := (Bx.new _ _ _ _).later hb 3 (by show 3 < 6; decide)
    have c4 : w1.cell? ⟨w.heap.size, 4, none⟩ = some (.int .u64 (ln : Int)) := (Bx.new _ _ _ _).later hb 4 (by show 4 < 6; decide)
    have c5 : w1.cell? ⟨w.heap.size, 5, none⟩ = some (.slice ao n cap) := (Bx.new _ _ _ _).later hb 5 (by show 5 < 6; decide)
    clear hb
    go_wp2_with fail
    refine (H2.out _).mono ?_
    rintro e w2 ⟨rfl, hb⟩
    have B2 : Hid (Below w.heap.size w w2) := B1.out.trans (hb.mono B1.out.size)
    clear hb
    go_wp2
    go_ret
    exact ⟨rfl, B2.out⟩
  · go_enter Tryd.func27, Tryd.ntmps27
    go_wp2_with fail
    refine (H1.out _).mono ?_
    rintro e w1 ⟨rfl, hb⟩
    have B1 : Hid (Below w.heap.size w w1) := (bnew _ _).trans (hb.mono (by simp))
    clear hb
    go_wp2
    go_ret
    exact ⟨rfl, B1.out⟩
theorem tells_any (ix : Int) (st ex : Bool) (ao : Option Addr) (n cap : Nat) (w : World) :
    Calls Tryd.prog 20 #[sesV ix st ex ao n cap] w fun e w' => e = .returned (.bool ((st || ex) && decide (0 < n))) ∧ Below w.heap.size w w' := by
  have H1 : Hid (∀ w, Calls Tryd.prog 23 #[sesV ix st ex ao n cap] w fun e w' => e = .returned (.bool (st || ex)) ∧ Below w.heap.size w w') := inChunks_any ix st ex ao n cap
  generalize hc : (st || ex) = c at *
  clear hc
  cases c
  · go_enter Tryd.func20, Tryd.ntmps20
    go_wp2_with fail
    refine (H1.out _).mono ?_
    rintro e w1 ⟨rfl, hb⟩
    have B1 : Hid (Below w.heap.size w w1) := (bnew _ _).trans (hb.mono (by simp))
    clear hb
    go_wp2
    go_ret
    exact ⟨by simp, B1.out⟩
  · go_enter Tryd.func20, Tryd.ntmps20
    go_wp2_with fail
    refine (H1.out _).mono ?_
    rintro e w1 ⟨rfl, hb⟩
    have B1 : Hid (Below w.heap.size w w1) := (bnew _ _).trans (hb.mono (by simp))
    have c3 : w1.cell? ⟨w.heap.size, 3, none⟩ = some (.slice ao n cap) := (Bx.new _ _ _ _).later hb 3 (by show 3 < 4; decide)
    clear hb
    go_wp2
    go_ret
    refine ⟨?_, B1.out⟩
    simp
theorem flush_any (fl ty ck of ln : Nat) (ao : Option Addr) (n cap : Nat) (w : World) :
    Calls Tryd.prog 19 #[reqV fl ty ck of ln ao n cap] w fun e w' => e = .returned (.int .u32 (if of = 0 ∧ ln = 0 then 0 else 22)) ∧ Below w.heap.size w w' := by
  by_cases h : of = 0
  · subst h
    by_cases g : ln = 0
    · subst g
      go_enter Tryd.func19, Tryd.ntmps19
      go_wp2
      go_ret
      exact ⟨rfl, bnew _ _⟩
    · have g' : (ln : Int) ≠ 0 := by omega
      go_enter Tryd.func19, Tryd.ntmps19
      go_wp2
      go_ret
      refine ⟨?_, bnew _ _⟩
      simp [g]
  · have h' : (of : Int) ≠ 0 := by omega
    go_enter Tryd.func19, Tryd.ntmps19
    go_wp2
    go_ret
    refine ⟨?_, bnew _ _⟩
    simp [h]
end Go.Proofs.YtodinademhibjaaDoor
