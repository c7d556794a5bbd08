import Derived.Test.YtjhickfjagalfaaDoorJWi
namespace Go.Proofs.YtjhickfjagalfaaDoor
open Go.RowKit
set_option linter.unusedVariables false
set_option linter.unusedSimpArgs false
set_option maxRecDepth 100000

theorem oC_le (c k : Nat) (lg : Bool) (d : List Nat) : (oC c k lg d).length ≤ d.length + 64 := by
  unfold oC; split
  · simp only [oL, List.length_append, bigTo_length, List.length_nil]; omega
  · simp
theorem rL_le (o k : Nat) (d : List Nat) : (rL o k d).length ≤ d.length + 64 := by
  simp only [rL, List.length_append, bigTo_length, List.length_nil]; omega
theorem qC_le (f t c o n : Nat) (d : List Nat) (ext : Bool) : (qC f t c o n d ext).length ≤ d.length + 64 := by
  unfold qC; split
  · have := nL_le n ext
    simp only [qL, List.length_append, bigTo_length, List.length_nil]; omega
  · simp
theorem kC_le (f t c o : Nat) (d : List Nat) (ext : Bool) : (kC f t c o d ext).length ≤ d.length + 64 := by
  unfold kC; split
  · have := nL_le d.length true
    simp only [cL64, List.length_append, bigTo_length, List.length_nil]; omega
  · have := nL_le d.length false
    simp only [cL, List.length_append, bigTo_length, List.length_nil]; omega
/-- the contracts of the eight encoders -/
theorem cone1 (oc ok : Nat) (lg : Bool) (d1 : List Nat) (hc : oc < 4294967296) (hk : ok < 4294967296) (hn : d1.length < 4294967296) : ∀ (W : World) (ao : Option Addr) (cap : Nat), BRow W ao cap d1 → Calls Tryd.prog 29 #[.agg #[.int .u32 (oc : Int), .int .u32 (ok : Int), .bool lg, .slice ao d1.length cap]] W fun e w' => ∃ ao' cap', e = .returned (.tuple #[.slice ao' (oC oc ok lg d1).length cap', .int .i64 (oE ok lg d1 : Nat)]) ∧ BRow w' ao' cap' (oC oc ok lg d1) ∧ Below W.heap.size W w' := fun W ao cap hb => by
  refine Calls.mono (encOptionC oc ok lg ao cap d1 W hc hk hb hn) ?_
  rintro e w' ⟨ao', cap', rfl, hr⟩
  exact ⟨ao', cap', rfl, hr.brow (by have := oC_le oc ok lg d1; omega), hr.bel⟩
theorem conr1 (oc ok : Nat) (lg : Bool) (d1 : List Nat) (hc : oc < 4294967296) (hk : ok < 4294967296) (hn : d1.length < 4294967296) : ∀ (W : World) (ao : Option Addr) (cap : Nat), BRow W ao cap d1 → Calls Tryd.prog 33 #[.agg #[.int .u32 (oc : Int), .int .u32 (ok : Int), .bool lg, .slice ao d1.length cap]] W fun e w' => ∃ ao' cap', e = .returned (.tuple #[.slice ao' (oC oc ok lg d1).length cap', .int .i64 (oE ok lg d1 : Nat)]) ∧ BRow w' ao' cap' (oC oc ok lg d1) ∧ Below W.heap.size W w' := fun W ao cap hb => by
  refine Calls.mono (rOptionC oc ok lg ao cap d1 W hc hk hb hn) ?_
  rintro e w' ⟨ao', cap', rfl, hr⟩
  exact ⟨ao', cap', rfl, hr.brow (by have := oC_le oc ok lg d1; omega), hr.bel⟩
theorem cone2 (rc rk : Nat) (d2 : List Nat) (hc : rc < 4294967296) (hk : rk < 4294967296) (hn : d2.length < 4294967296) : ∀ (W : World) (ao : Option Addr) (cap : Nat), BRow W ao cap d2 → Calls Tryd.prog 30 #[.agg #[.int .u32 (rc : Int), .int .u32 (rk : Int), .slice ao d2.length cap]] W fun e w' => ∃ ao' cap', e = .returned (.slice ao' (rL rc rk d2).length cap') ∧ BRow w' ao' cap' (rL rc rk d2) ∧ Below W.heap.size W w' := fun W ao cap hb => by
  refine Calls.mono (encReply rc rk ao cap d2 W hc hk hb (by omega)) ?_
  rintro e w' ⟨ao', cap', rfl, hr⟩
  exact ⟨ao', cap', rfl, hr.brow (by have := rL_le rc rk d2; omega), hr.bel⟩
theorem conr2 (rc rk : Nat) (d2 : List Nat) (hc : rc < 4294967296) (hk : rk < 4294967296) (hn : d2.length < 4294967296) : ∀ (W : World) (ao : Option Addr) (cap : Nat), BRow W ao cap d2 → Calls Tryd.prog 35 #[.agg #[.int .u32 (rc : Int), .int .u32 (rk : Int), .slice ao d2.length cap]] W fun e w' => ∃ ao' cap', e = .returned (.slice ao' (rL rc rk d2).length cap') ∧ BRow w' ao' cap' (rL rc rk d2) ∧ Below W.heap.size W w' := fun W ao cap hb => by
  refine Calls.mono (rReply rc rk ao cap d2 W hc hk hb hn) ?_
  rintro e w' ⟨ao', cap', rfl, hr⟩
  exact ⟨ao', cap', rfl, hr.brow (by have := rL_le rc rk d2; omega), hr.bel⟩
theorem cone3 (qf qt qc qo qn : Nat) (ext : Bool) (d3 : List Nat) (hf : qf < 65536) (ht : qt < 65536) (hc : qc < 18446744073709551616) (ho : qo < 18446744073709551616) (hn64 : qn < 18446744073709551616) (hn : d3.length < 4294967296) : ∀ (W : World) (ao : Option Addr) (cap : Nat), BRow W ao cap d3 → Calls Tryd.prog 31 #[.agg #[.int .u16 (qf : Int), .int .u16 (qt : Int), .int .u64 (qc : Int), .int .u64 (qo : Int), .int .u64 (qn : Int), .slice ao d3.length cap], .bool ext] W fun e w' => ∃ ao' cap', e = .returned (.tuple #[.slice ao' (qC qf qt qc qo qn d3 ext).length cap', .int .i64 (qE qf qt qn d3 ext : Nat)]) ∧ BRow w' ao' cap' (qC qf qt qc qo qn d3 ext) ∧ Below W.heap.size W w' := fun W ao cap hb => by
  refine Calls.mono (encRequestC qf qt qc qo qn ao cap d3 ext W hf ht hc ho hn64 hb hn) ?_
  rintro e w' ⟨ao', cap', rfl, hr⟩
  exact ⟨ao', cap', rfl, hr.brow (by have := qC_le qf qt qc qo qn d3 ext; omega), hr.bel⟩
theorem conr3 (qf qt qc qo qn : Nat) (ext : Bool) (d3 : List Nat) (hf : qf < 65536) (ht : qt < 65536) (hc : qc < 18446744073709551616) (ho : qo < 18446744073709551616) (hn64 : qn < 18446744073709551616) (hn : d3.length < 4294967296) : ∀ (W : World) (ao : Option Addr) (cap : Nat), BRow W ao cap d3 → Calls Tryd.prog 34 #[.agg #[.int .u16 (qf : Int), .int .u16 (qt : Int), .int .u64 (qc : Int), .int .u64 (qo : Int), .int .u64 (qn : Int), .slice ao d3.length cap], .bool ext] W fun e w' => ∃ ao' cap', e = .returned (.tuple #[.slice ao' (qC qf qt qc qo qn d3 ext).length cap', .int .i64 (qE qf qt qn d3 ext : Nat)]) ∧ BRow w' ao' cap' (qC qf qt qc qo qn d3 ext) ∧ Below W.heap.size W w' := fun W ao cap hb => by
  refine Calls.mono (rRequestC qf qt qc qo qn ao cap d3 ext W hf ht hc ho hn64 hb hn) ?_
  rintro e w' ⟨ao', cap', rfl, hr⟩
  exact ⟨ao', cap', rfl, hr.brow (by have := qC_le qf qt qc qo qn d3 ext; omega), hr.bel⟩
theorem cone4 (cf ct cc co : Nat) (ext : Bool) (d4 : List Nat) (hf : cf < 65536) (ht : ct < 65536) (hc : cc < 18446744073709551616) (ho : co < 18446744073709551616) (hn : d4.length < 4294967296) : ∀ (W : World) (ao : Option Addr) (cap : Nat), BRow W ao cap d4 → Calls Tryd.prog 32 #[.agg #[.int .u16 (cf : Int), .int .u16 (ct : Int), .int .u64 (cc : Int), .int .u64 (co : Int), .slice ao d4.length cap], .bool ext] W fun e w' => ∃ ao' cap', e = .returned (.slice ao' (kC cf ct cc co d4 ext).length cap') ∧ BRow w' ao' cap' (kC cf ct cc co d4 ext) ∧ Below W.heap.size W w' := fun W ao cap hb => by
  refine Calls.mono (encChunkC cf ct cc co ao cap d4 ext W hf ht hc ho hb hn) ?_
  rintro e w' ⟨ao', cap', rfl, hr⟩
  exact ⟨ao', cap', rfl, hr.brow (by have := kC_le cf ct cc co d4 ext; omega), hr.bel⟩
theorem conr4 (cf ct cc co : Nat) (ext : Bool) (d4 : List Nat) (hf : cf < 65536) (ht : ct < 65536) (hc : cc < 18446744073709551616) (ho : co < 18446744073709551616) (hn : d4.length < 4294967296) : ∀ (W : World) (ao : Option Addr) (cap : Nat), BRow W ao cap d4 → Calls Tryd.prog 36 #[.agg #[.int .u16 (cf : Int), .int .u16 (ct : Int), .int .u64 (cc : Int), .int .u64 (co : Int), .slice ao d4.length cap], .bool ext] W fun e w' => ∃ ao' cap', e = .returned (.slice ao' (kC cf ct cc co d4 ext).length cap') ∧ BRow w' ao' cap' (kC cf ct cc co d4 ext) ∧ Below W.heap.size W w' := fun W ao cap hb => by
  refine Calls.mono (rChunkC cf ct cc co ao cap d4 ext W hf ht hc ho hb hn) ?_
  rintro e w' ⟨ao', cap', rfl, hr⟩
  exact ⟨ao', cap', rfl, hr.brow (by have := kC_le cf ct cc co d4 ext; omega), hr.bel⟩
/-- a twin of bytes handed in -/
theorem con_twin (d : List Nat) (a : Option Addr) (p : Nat) (w : World) (h : BRow w a p d) (hn : d.length ≤ 1099511627776) : ∀ W : World, Below w.heap.size w W → Calls Tryd.prog 28 #[.slice a d.length p] W fun e w' => ∃ g, e = .returned (.slice (some ⟨g, 0, none⟩) d.length (d.length + 4)) ∧ W.heap.size ≤ g ∧ w'.heap[g]? = some (.cells ((tw d).map bv).toArray 5 (0, 0)) ∧ Below W.heap.size W w' := fun W hb => by
  refine Calls.mono (twin_any a p d.length d W (h.later hb) (show Hid (d.length = d.length) from rfl) hn) ?_
  rintro e w' ⟨rfl, h1, h2⟩
  exact ⟨_, rfl, Nat.le_refl _, h1, h2⟩
end Go.Proofs.YtjhickfjagalfaaDoor
