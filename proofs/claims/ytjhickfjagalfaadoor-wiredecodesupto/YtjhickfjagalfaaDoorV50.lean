import Derived.Test.YtjhickfjagalfaaDoorV48
namespace Go.Proofs.YtjhickfjagalfaaDoor
open Go.RowKit
set_option linter.unusedVariables false
set_option linter.unusedSimpArgs false
set_option maxRecDepth 100000

set_option maxHeartbeats 1000000 in
theorem rOption_bad (c k : Nat) (lg : Bool) (ao : Option Addr) (cap : Nat) (d : List Nat) (w : World) (hk : k < 4294967296) (hn : d.length < 4294967296) (hbad : lg = true ∨ k ≠ d.length) :
    Calls Tryd.prog 33 #[.agg #[.int .u32 (c : Int), .int .u32 (k : Int), .bool lg, .slice ao d.length cap]] w fun e w' => e = .returned (.tuple #[.slice none 0 0, .int .i64 81]) ∧ Below w.heap.size w w' := by
  have hB0 : Hid (Below w.heap.size w (w.alloc (.cells #[.int .u32 (c : Int), .int .u32 (k : Int), .bool lg, .slice ao d.length cap] 55))) := (Below.refl _ _).alloc (Nat.le_refl _) _
  have hwl : IntKind.u64.wrap (d.length : Int) = (d.length : Int) := by rw [IntKind.wrap_u64]; omega
  cases lg with
  | true =>
    go_enter Tryd.func33, Tryd.ntmps33
    go_wp2
    go_ret2
    exact ⟨rfl, hB0.out⟩
  | false =>
    have hne : k ≠ d.length := hbad.elim (fun h => by cases h) id
    have h1 : ¬ ((k : Int) = (d.length : Int)) := by omega
    have h2 : ((k : Int) != (d.length : Int)) = true := by simp; omega
    go_enter Tryd.func33, Tryd.ntmps33
    go_wp2
    go_ret2
    exact ⟨rfl, hB0.out⟩
set_option maxHeartbeats 2000000 in
theorem rRequest_bad_true (f t c o n : Nat) (ao : Option Addr) (cap : Nat) (d : List Nat) (w : World) (hn64 : n < 18446744073709551616) (hn : d.length < 4294967296) (hfit : fitB f t n d.length true = false) :
    Calls Tryd.prog 34 #[.agg #[.int .u16 (f : Int), .int .u16 (t : Int), .int .u64 (c : Int), .int .u64 (o : Int), .int .u64 (n : Int), .slice ao d.length cap], .bool true] w fun e w' => e = .returned (.tuple #[.slice none 0 0, .int .i64 81]) ∧ Below w.heap.size w w' := by
  have hwl : IntKind.u64.wrap (d.length : Int) = (d.length : Int) := by rw [IntKind.wrap_u64]; omega
  obtain ⟨W0, hW0⟩ : ∃ W0, W0 = w.alloc (.cells #[.int .u16 (f : Int), .int .u16 (t : Int), .int .u64 (c : Int), .int .u64 (o : Int), .int .u64 (n : Int), .slice ao d.length cap] 59) := ⟨_, rfl⟩
  have hB0 : Below w.heap.size w W0 := by rw [hW0]; exact (Below.refl _ _).alloc (Nat.le_refl _) _
  have g0 : W0.heap[w.heap.size]? = some (.cells #[.int .u16 (f : Int), .int .u16 (t : Int), .int .u64 (c : Int), .int .u64 (o : Int), .int .u64 (n : Int), .slice ao d.length cap] 59 (0, 0)) := by rw [hW0]; exact heap_new w _
  have HPy : Hid (Calls Tryd.prog 79 #[.agg #[.int .u16 (f : Int), .int .u16 (t : Int), .int .u64 (c : Int), .int .u64 (o : Int), .int .u64 (n : Int), .slice ao d.length cap], .bool true] W0 fun e w' => e = .returned (.bool (payB f t true)) ∧ Below W0.heap.size W0 w') := rpay_any f t c o n ao cap d true W0
  have z0 := fun j => blk_at g0 j
  have y0 := z0 0; have y1 := z0 1; have y2 := z0 2; have y3 := z0 3; have y4 := z0 4; have y5 := z0 5
  simp at y0 y1 y2 y3 y4 y5
  have hcase : (payB f t true = true ∧ n ≠ d.length) ∨ (payB f t true = false ∧ d.length ≠ 0) ∨ ((true = false ∧ 4294967295 < n) ∧ payB f t true = true ∧ n = d.length) ∨ ((true = false ∧ 4294967295 < n) ∧ payB f t true = false ∧ d.length = 0) := by
    by_cases hbig : n ≤ 4294967295
    · cases hp : payB f t true
      · exact .inr (.inl ⟨rfl, fun h => by simp [fitB, hp, hbig, h] at hfit⟩)
      · exact .inl ⟨rfl, fun h => by subst h; simp [fitB, hp, hbig] at hfit⟩
    · cases hp : payB f t true
      · by_cases h : d.length = 0
        · exfalso; simp [fitB, hp, h] at hfit
        · exact .inr (.inl ⟨rfl, h⟩)
      · by_cases h : n = d.length
        · exfalso; simp [fitB, hp, h] at hfit
        · exact .inl ⟨rfl, h⟩
  clear z0
  go_enter Tryd.func34, Tryd.ntmps34
  go_wp2_with fail
  rw [← hW0]
  clear hW0
  refine HPy.out.mono ?_
  rintro e Wa ⟨rfl, hb⟩
  have hBa : Hid (Below w.heap.size w Wa) := hB0.trans (hb.mono hB0.size)
  have ga : Wa.heap[w.heap.size]? = some (.cells #[.int .u16 (f : Int), .int .u16 (t : Int), .int .u64 (c : Int), .int .u64 (o : Int), .int .u64 (n : Int), .slice ao d.length cap] 59 (0, 0)) := (hb.block _ (block_lt g0)).trans g0
  have z0 := fun j => blk_at ga j
  have x0 := z0 0; have x1 := z0 1; have x2 := z0 2; have x3 := z0 3; have x4 := z0 4; have x5 := z0 5
  simp at x0 x1 x2 x3 x4 x5
  clear z0 hb hB0 g0 HPy y0 y1 y2 y3 y4 y5 ga hfit
  rcases hcase with ⟨hp, hq⟩ | ⟨hp, hq⟩ | ⟨⟨he, hbig⟩, hp, hq⟩ | ⟨⟨he, hbig⟩, hp, hq⟩
  all_goals rw [hp]; clear hp
  · have q1 : ((n : Int) != (d.length : Int)) = true := by simp; omega
    clear hq
    go_wp2
    go_ret2
    exact ⟨rfl, hBa.out⟩
  · have q1 : ((0 : Int) != (d.length : Int)) = true := by simp; omega
    clear hq
    go_wp2
    go_ret2
    exact ⟨rfl, hBa.out⟩
  · cases he
  · cases he
set_option maxHeartbeats 2000000 in
theorem rRequest_bad_false (f t c o n : Nat) (ao : Option Addr) (cap : Nat) (d : List Nat) (w : World) (hn64 : n < 18446744073709551616) (hn : d.length < 4294967296) (hfit : fitB f t n d.length false = false) :
    Calls Tryd.prog 34 #[.agg #[.int .u16 (f : Int), .int .u16 (t : Int), .int .u64 (c : Int), .int .u64 (o : Int), .int .u64 (n : Int), .slice ao d.length cap], .bool false] w fun e w' => e = .returned (.tuple #[.slice none 0 0, .int .i64 81]) ∧ Below w.heap.size w w' := by
  have hwl : IntKind.u64.wrap (d.length : Int) = (d.length : Int) := by rw [IntKind.wrap_u64]; omega
  obtain ⟨W0, hW0⟩ : ∃ W0, W0 = w.alloc (.cells #[.int .u16 (f : Int), .int .u16 (t : Int), .int .u64 (c : Int), .int .u64 (o : Int), .int .u64 (n : Int), .slice ao d.length cap] 59) := ⟨_, rfl⟩
  have hB0 : Below w.heap.size w W0 := by rw [hW0]; exact (Below.refl _ _).alloc (Nat.le_refl _) _
  have g0 : W0.heap[w.heap.size]? = some (.cells #[.int .u16 (f : Int), .int .u16 (t : Int), .int .u64 (c : Int), .int .u64 (o : Int), .int .u64 (n : Int), .slice ao d.length cap] 59 (0, 0)) := by rw [hW0]; exact heap_new w _
  have HPy : Hid (Calls Tryd.prog 79 #[.agg #[.int .u16 (f : Int), .int .u16 (t : Int), .int .u64 (c : Int), .int .u64 (o : Int), .int .u64 (n : Int), .slice ao d.length cap], .bool false] W0 fun e w' => e = .returned (.bool (payB f t false)) ∧ Below W0.heap.size W0 w') := rpay_any f t c o n ao cap d false W0
  have z0 := fun j => blk_at g0 j
  have y0 := z0 0; have y1 := z0 1; have y2 := z0 2; have y3 := z0 3; have y4 := z0 4; have y5 := z0 5
  simp at y0 y1 y2 y3 y4 y5
  have hcase : (payB f t false = true ∧ n ≠ d.length) ∨ (payB f t false = false ∧ d.length ≠ 0) ∨ ((false = false ∧ 4294967295 < n) ∧ payB f t false = true ∧ n = d.length) ∨ ((false = false ∧ 4294967295 < n) ∧ payB f t false = false ∧ d.length = 0) := by
    by_cases hbig : n ≤ 4294967295
    · cases hp : payB f t false
      · exact .inr (.inl ⟨rfl, fun h => by simp [fitB, hp, hbig, h] at hfit⟩)
      · exact .inl ⟨rfl, fun h => by subst h; simp [fitB, hp, hbig] at hfit⟩
    · cases hp : payB f t false
      · by_cases h : d.length = 0
        · exact .inr (.inr (.inr ⟨⟨rfl, by omega⟩, rfl, h⟩))
        · exact .inr (.inl ⟨rfl, h⟩)
      · by_cases h : n = d.length
        · exact .inr (.inr (.inl ⟨⟨rfl, by omega⟩, rfl, h⟩))
        · exact .inl ⟨rfl, h⟩
  clear z0
  go_enter Tryd.func34, Tryd.ntmps34
  go_wp2_with fail
  rw [← hW0]
  clear hW0
  refine HPy.out.mono ?_
  rintro e Wa ⟨rfl, hb⟩
  have hBa : Hid (Below w.heap.size w Wa) := hB0.trans (hb.mono hB0.size)
  have ga : Wa.heap[w.heap.size]? = some (.cells #[.int .u16 (f : Int), .int .u16 (t : Int), .int .u64 (c : Int), .int .u64 (o : Int), .int .u64 (n : Int), .slice ao d.length cap] 59 (0, 0)) := (hb.block _ (block_lt g0)).trans g0
  have z0 := fun j => blk_at ga j
  have x0 := z0 0; have x1 := z0 1; have x2 := z0 2; have x3 := z0 3; have x4 := z0 4; have x5 := z0 5
  simp at x0 x1 x2 x3 x4 x5
  clear z0 hb hB0 g0 HPy y0 y1 y2 y3 y4 y5 ga hfit
  rcases hcase with ⟨hp, hq⟩ | ⟨hp, hq⟩ | ⟨⟨he, hbig⟩, hp, hq⟩ | ⟨⟨he, hbig⟩, hp, hq⟩
  all_goals rw [hp]; clear hp
  · have q1 : ((n : Int) != (d.length : Int)) = true := by simp; omega
    clear hq
    go_wp2
    go_ret2
    exact ⟨rfl, hBa.out⟩
  · have q1 : ((0 : Int) != (d.length : Int)) = true := by simp; omega
    clear hq
    go_wp2
    go_ret2
    exact ⟨rfl, hBa.out⟩
  · have q1 : ((n : Int) != (d.length : Int)) = false := by simp; omega
    have q2 : decide ((4294967295 : Int) < (n : Int)) = true := by simp; omega
    clear hq he hbig
    go_wp2
    go_ret2
    exact ⟨rfl, hBa.out⟩
  · have q1 : ((0 : Int) != (d.length : Int)) = false := by simp; omega
    have q2 : decide ((4294967295 : Int) < (n : Int)) = true := by simp; omega
    clear hq he hbig
    go_wp2
    go_ret2
    exact ⟨rfl, hBa.out⟩
/-- what is laid down of an option, and the error -/
def oC (c k : Nat) (lg : Bool) (d : List Nat) : List Nat := if lg = false ∧ k = d.length then oL c d else []
def oE (k : Nat) (lg : Bool) (d : List Nat) : Nat := if lg = false ∧ k = d.length then 0 else 81
def qC (f t c o n : Nat) (d : List Nat) (ext : Bool) : List Nat := if fitB f t n d.length ext = true then qL f t c o n d ext else []
def qE (f t n : Nat) (d : List Nat) (ext : Bool) : Nat := if fitB f t n d.length ext = true then 0 else 81
def kC (f t c o : Nat) (d : List Nat) (ext : Bool) : List Nat := if ext = true then cL64 f t c o d else cL f t c d
theorem encOptionC (c k : Nat) (lg : Bool) (ao : Option Addr) (cap : Nat) (d : List Nat) (w : World) (hc : c < 4294967296) (hk : k < 4294967296) (hd : BRow w ao cap d) (hn : d.length < 4294967296) :
    Calls Tryd.prog 29 #[.agg #[.int .u32 (c : Int), .int .u32 (k : Int), .bool lg, .slice ao d.length cap]] w fun e w' => ∃ ao' cap', e = .returned (.tuple #[.slice ao' (oC c k lg d).length cap', .int .i64 (oE k lg d : Nat)]) ∧ Row w w' ao' cap' (oC c k lg d) := by
  by_cases h : lg = false ∧ k = d.length
  · unfold oC oE
    rw [if_pos h, if_pos h]
    obtain ⟨rfl, rfl⟩ := h
    exact encOption c ao cap d w hc hd (by omega) hn
  · unfold oC oE
    rw [if_neg h, if_neg h]
    refine (encOption_bad c k lg ao cap d w hk (by omega) (by cases lg <;> simp_all)).mono ?_
    rintro e w' ⟨rfl, hb⟩
    exact ⟨none, 0, rfl, row_nil w w' hb⟩
theorem rOptionC (c k : Nat) (lg : Bool) (ao : Option Addr) (cap : Nat) (d : List Nat) (w : World) (hc : c < 4294967296) (hk : k < 4294967296) (hd : BRow w ao cap d) (hn : d.length < 4294967296) :
    Calls Tryd.prog 33 #[.agg #[.int .u32 (c : Int), .int .u32 (k : Int), .bool lg, .slice ao d.length cap]] w fun e w' => ∃ ao' cap', e = .returned (.tuple #[.slice ao' (oC c k lg d).length cap', .int .i64 (oE k lg d : Nat)]) ∧ Row w w' ao' cap' (oC c k lg d) := by
  by_cases h : lg = false ∧ k = d.length
  · unfold oC oE
    rw [if_pos h, if_pos h]
    obtain ⟨rfl, rfl⟩ := h
    exact rOption c ao cap d w hc hd hn
  · unfold oC oE
    rw [if_neg h, if_neg h]
    refine (rOption_bad c k lg ao cap d w hk hn (by cases lg <;> simp_all)).mono ?_
    rintro e w' ⟨rfl, hb⟩
    exact ⟨none, 0, rfl, row_nil w w' hb⟩
theorem encRequestC (f t c o n : Nat) (ao : Option Addr) (cap : Nat) (d : List Nat) (ext : Bool) (w : World) (hf : f < 65536) (ht : t < 65536) (hc : c < 18446744073709551616) (ho : o < 18446744073709551616) (hn64 : n < 18446744073709551616) (hd : BRow w ao cap d) (hn : d.length < 4294967296) :
    Calls Tryd.prog 31 #[.agg #[.int .u16 (f : Int), .int .u16 (t : Int), .int .u64 (c : Int), .int .u64 (o : Int), .int .u64 (n : Int), .slice ao d.length cap], .bool ext] w fun e w' => ∃ ao' cap', e = .returned (.tuple #[.slice ao' (qC f t c o n d ext).length cap', .int .i64 (qE f t n d ext : Nat)]) ∧ Row w w' ao' cap' (qC f t c o n d ext) := by
  cases ext with
  | true =>
    by_cases h : fitB f t n d.length true = true
    · unfold qC qE
      rw [if_pos h, if_pos h]
      exact encRequest_true f t c o n ao cap d w hf ht hc ho hn64 hd (by omega) h
    · unfold qC qE
      rw [if_neg h, if_neg h]
      refine (encRequest_bad f t c o n ao cap d true w hn64 (by omega) (by simpa using h)).mono ?_
      rintro e w' ⟨rfl, hb⟩
      exact ⟨none, 0, rfl, row_nil w w' hb⟩
  | false =>
    by_cases h : fitB f t n d.length false = true
    · unfold qC qE
      rw [if_pos h, if_pos h]
      exact encRequest_false f t c o n ao cap d w hf ht hc ho hn64 hd (by omega) h
    · unfold qC qE
      rw [if_neg h, if_neg h]
      refine (encRequest_bad f t c o n ao cap d false w hn64 (by omega) (by simpa using h)).mono ?_
      rintro e w' ⟨rfl, hb⟩
      exact ⟨none, 0, rfl, row_nil w w' hb⟩
theorem rRequestC (f t c o n : Nat) (ao : Option Addr) (cap : Nat) (d : List Nat) (ext : Bool) (w : World) (hf : f < 65536) (ht : t < 65536) (hc : c < 18446744073709551616) (ho : o < 18446744073709551616) (hn64 : n < 18446744073709551616) (hd : BRow w ao cap d) (hn : d.length < 4294967296) :
    Calls Tryd.prog 34 #[.agg #[.int .u16 (f : Int), .int .u16 (t : Int), .int .u64 (c : Int), .int .u64 (o : Int), .int .u64 (n : Int), .slice ao d.length cap], .bool ext] w fun e w' => ∃ ao' cap', e = .returned (.tuple #[.slice ao' (qC f t c o n d ext).length cap', .int .i64 (qE f t n d ext : Nat)]) ∧ Row w w' ao' cap' (qC f t c o n d ext) := by
  cases ext with
  | true =>
    by_cases h : fitB f t n d.length true = true
    · unfold qC qE
      rw [if_pos h, if_pos h]
      exact rRequest_true f t c o n ao cap d w hf ht hc ho hn64 hd hn h
    · unfold qC qE
      rw [if_neg h, if_neg h]
      refine (rRequest_bad_true f t c o n ao cap d w hn64 hn (by simpa using h)).mono ?_
      rintro e w' ⟨rfl, hb⟩
      exact ⟨none, 0, rfl, row_nil w w' hb⟩
  | false =>
    by_cases h : fitB f t n d.length false = true
    · unfold qC qE
      rw [if_pos h, if_pos h]
      exact rRequest_false f t c o n ao cap d w hf ht hc ho hn64 hd hn h
    · unfold qC qE
      rw [if_neg h, if_neg h]
      refine (rRequest_bad_false f t c o n ao cap d w hn64 hn (by simpa using h)).mono ?_
      rintro e w' ⟨rfl, hb⟩
      exact ⟨none, 0, rfl, row_nil w w' hb⟩
theorem encChunkC (f t c o : Nat) (ao : Option Addr) (cap : Nat) (d : List Nat) (ext : Bool) (w : World) (hf : f < 65536) (ht : t < 65536) (hc : c < 18446744073709551616) (ho : o < 18446744073709551616) (hd : BRow w ao cap d) (hn : d.length < 4294967296) :
    Calls Tryd.prog 32 #[.agg #[.int .u16 (f : Int), .int .u16 (t : Int), .int .u64 (c : Int), .int .u64 (o : Int), .slice ao d.length cap], .bool ext] w fun e w' => ∃ ao' cap', e = .returned (.slice ao' (kC f t c o d ext).length cap') ∧ Row w w' ao' cap' (kC f t c o d ext) := by
  cases ext with
  | true => exact encChunk_true f t c o ao cap d w hf ht hc ho hd (by omega)
  | false => exact encChunk_false f t c o ao cap d w hf ht hc ho hd (by omega)
theorem rChunkC (f t c o : Nat) (ao : Option Addr) (cap : Nat) (d : List Nat) (ext : Bool) (w : World) (hf : f < 65536) (ht : t < 65536) (hc : c < 18446744073709551616) (ho : o < 18446744073709551616) (hd : BRow w ao cap d) (hn : d.length < 4294967296) :
    Calls Tryd.prog 36 #[.agg #[.int .u16 (f : Int), .int .u16 (t : Int), .int .u64 (c : Int), .int .u64 (o : Int), .slice ao d.length cap], .bool ext] w fun e w' => ∃ ao' cap', e = .returned (.slice ao' (kC f t c o d ext).length cap') ∧ Row w w' ao' cap' (kC f t c o d ext) := by
  cases ext with
  | true => exact rChunk_true f t c o ao cap d w hf ht hc ho hd hn
  | false => exact rChunk_false f t c o ao cap d w hf ht hc ho hd hn
end Go.Proofs.YtjhickfjagalfaaDoor
