import Derived.Test.YtbamjfnjenmdaaaGreatG42
import Derived.Test.YtbamjfnjenmdaaaGreatzCZko
namespace Go.Proofs.YtbamjfnjenmdaaaGreat.C
open Go.ChangeShapes Go.WideShapes Go.ChangeAt Go.RowKit Go.Deep Go.Proofs.YtbamjfnjenmdaaaGreat
set_option linter.unusedVariables false
set_option maxRecDepth 100000

theorem cellsKeep : Tryz.prog.cellsOf 40 = 1 := by kernel_rfl
theorem cellsInts : Tryz.prog.cellsOf 33 = 1 := by kernel_rfl
theorem cellsBool : Tryz.prog.cellsOf 4 = 1 := by kernel_rfl
theorem cellsFa5 : Tryz.prog.cellsOf 39 = 5 := by kernel_rfl
theorem fiveV {cs : List Value} (h : cs.length = 5) : ∃ a b c d e, cs = [a, b, c, d, e] := by
  match cs, h with
  | [a, b, c, d, e], _ => exact ⟨a, b, c, d, e, rfl⟩
/-- a call that was handed in -/
structure Opc where
  kind : Int
  sector : Int
  fill : Nat
  more : Int
  lo : Option Addr
  lc : Nat
  list : List Int
  f : K.Flt
  ko : Option Addr
  kn : Nat
  kc : Nat
def Opc.cells (o : Opc) : List Value := [.int .i64 o.kind, .int .i64 o.sector, .int .u8 o.fill, .int .i64 o.more, .slice o.lo o.list.length o.lc, .int .i64 o.f.kind, .int .i64 o.f.sector, .int .i64 o.f.after, .int .i64 o.f.times, .bool o.f.land, .slice o.ko o.kn o.kc]
/-- numbers in cells -/
def IRd (W : World) (ao : Option Addr) (ks : List Int) : Prop := ∀ (k : Nat) (x : Int), ks[k]? = some x → ∃ g off, ao = some ⟨g, off, none⟩ ∧ g < W.heap.size ∧ W.cell? ⟨g, off + k, none⟩ = some (.int .i64 x)
structure OpcOk (W : World) (o : Opc) : Prop where
  fill : o.fill < 256
  sw : (Lit.int .i64 o.sector).wf = true
  fa : K.I64 o.f.after
  ft : K.I64 o.f.times
  ll : o.list.length ≤ 1048576
  row : IRd W o.lo o.list
theorem i64_of_wf {z : Int} (h : (Lit.int .i64 z).wf = true) : K.I64 z := by
  have e1 : IntKind.i64.min = -9223372036854775808 := rfl
  have e2 : IntKind.i64.max = 9223372036854775807 := rfl
  simp [Lit.wf] at h
  unfold K.I64
  omega
theorem open_fault {H : Type} {enc : TypeId × Value → H} {W : World} {base fuel : Nat} {cs : List Value} {x : DataW H × List MemPlace} (hf : DataW.trod enc Tryz.prog W base (fun _ => true) true fuel 39 cs = some x) :
    ∃ f : K.Flt, cs = K.fcell f ∧ K.I64 f.after ∧ K.I64 f.times := by
  obtain ⟨xs, m, _, _, hl, hxl, hall⟩ := DataW.trod_struct Tryz.underlying39 hf
  obtain ⟨a, b, c, d, e, rfl⟩ := fiveV (hl.trans cellsFa5)
  have hx5 : xs.length = 5 := hxl
  have h0 : DataW.trod enc Tryz.prog W base (fun _ => true) true m 3 (([a, b, c, d, e].drop 0).take (Tryz.prog.cellsOf 3)) = xs[0]? := hall 0 _ rfl
  have h1 : DataW.trod enc Tryz.prog W base (fun _ => true) true m 3 (([a, b, c, d, e].drop 1).take (Tryz.prog.cellsOf 3)) = xs[1]? := hall 1 _ rfl
  have h2 : DataW.trod enc Tryz.prog W base (fun _ => true) true m 3 (([a, b, c, d, e].drop 2).take (Tryz.prog.cellsOf 3)) = xs[2]? := hall 2 _ rfl
  have h3 : DataW.trod enc Tryz.prog W base (fun _ => true) true m 3 (([a, b, c, d, e].drop 3).take (Tryz.prog.cellsOf 3)) = xs[3]? := hall 3 _ rfl
  have h4 : DataW.trod enc Tryz.prog W base (fun _ => true) true m 4 (([a, b, c, d, e].drop 4).take (Tryz.prog.cellsOf 4)) = xs[4]? := hall 4 _ rfl
  rw [List.getElem?_eq_getElem (by omega)] at h0 h1 h2 h3 h4
  rw [cellsInt] at h0 h1 h2 h3
  rw [cellsBool] at h4
  obtain ⟨z0, e0, _, _⟩ := DataW.trod_int Tryz.underlying3 h0
  obtain ⟨z1, e1, _, _⟩ := DataW.trod_int Tryz.underlying3 h1
  obtain ⟨z2, e2, _, w2⟩ := DataW.trod_int Tryz.underlying3 h2
  obtain ⟨z3, e3, _, w3⟩ := DataW.trod_int Tryz.underlying3 h3
  obtain ⟨z4, e4, _⟩ := DataW.trod_bool Tryz.underlying4 h4
  simp at e0 e1 e2 e3 e4
  subst e0; subst e1; subst e2; subst e3; subst e4
  exact ⟨⟨z0, z1, z2, z3, z4⟩, rfl, i64_of_wf w2, i64_of_wf w3⟩
theorem cell_lt {W : World} {g o : Nat} {v : Value} (h : W.cell? ⟨g, o, none⟩ = some v) : g < W.heap.size := by
  unfold World.cell? at h
  rcases Nat.lt_or_ge g W.heap.size with hh | hh
  · exact hh
  · simp only at h
    rw [Array.getElem?_eq_none hh] at h
    simp at h
theorem open_ints {H : Type} {enc : TypeId × Value → H} {W : World} {base fuel : Nat} {cs : List Value} {d : DataW H} {p : List MemPlace} (hf : DataW.trod enc Tryz.prog W base (fun _ => true) true fuel 33 cs = some (d, p)) (hb : Rows.uptoBulk d ≤ 1048576) :
    ∃ (ao : Option Addr) (cap : Nat) (l : List Int), cs = [.slice ao l.length cap] ∧ IRd W ao l ∧ l.length ≤ 1048576 := by
  rcases open_slice Tryz.underlying33 hf with ⟨hcs, _⟩ | ⟨x, len, cap, m, n, D, Pl, hcs, _, hl, hm, hmm, hx, hel⟩
  · exact ⟨none, 0, [], hcs, fun k x hk => by simp at hk, by simp⟩
  · have hmc : m = cap := by simpa using hmm
    have hd : d = .slice ((List.range len).map D) ((List.range (m - len)).map fun j => D (len + j)) := (Prod.mk.inj hx).1
    have hlen : len ≤ 1048576 := by
      have b1 := bulk_slice ((List.range len).map D) ((List.range (m - len)).map fun j => D (len + j))
      have b2 := length_le_bulk ((List.range len).map D)
      rw [← hd] at b1
      simp at b2
      omega
    have hel' : ∀ i, ∃ q : Int, i < len → W.cell? (x.add i) = some (.int .i64 q) := by
      intro i
      by_cases hi : i < len
      · obtain ⟨cs', hc1, hc2⟩ := hel i (by omega)
        rw [cellsInt] at hc1
        obtain ⟨q, rfl, _⟩ := DataW.trod_int Tryz.underlying3 hc2
        refine ⟨q, fun _ => ?_⟩
        have h1 := (World.cells?_some hc1).2.2 0 (by decide)
        rw [Nat.mul_one] at h1
        have e : (x.add i).add 0 = x.add i := by simp [Addr.add]
        rw [e] at h1
        exact h1
      · exact ⟨0, fun h => absurd h hi⟩
    obtain ⟨T, hT⟩ := Classical.axiomOfChoice hel'
    refine ⟨some x, cap, (List.range len).map T, by rw [hcs]; simp, fun k y hk => ?_, by simpa using hlen⟩
    have hk2 : k < len := by
      have := (List.getElem?_eq_some_iff.1 hk).1
      simpa using this
    obtain ⟨pb, po, rfl⟩ : ∃ pb po, x = ⟨pb, po, none⟩ := by
      have h1 := World.cell?_spot (hT 0 (by omega))
      obtain ⟨b, off, spot⟩ := x
      have : spot = none := by simpa [Addr.add] using h1
      exact ⟨b, off, by rw [this]⟩
    have hq : T k = y := by simpa [hk2] using hk
    have h1 := hT k hk2
    rw [add_plain, hq] at h1
    exact ⟨pb, po, rfl, cell_lt h1, h1⟩
theorem open_bools {H : Type} {enc : TypeId × Value → H} {W : World} {base fuel : Nat} {cs : List Value} {d : DataW H} {p : List MemPlace} (hf : DataW.trod enc Tryz.prog W base (fun _ => true) true fuel 40 cs = some (d, p)) : ∃ (ao : Option Addr) (n cap : Nat), cs = [.slice ao n cap] := by
  rcases open_slice Tryz.underlying40 hf with ⟨hcs, _⟩ | ⟨x, len, cap, m, n, D, Pl, hcs, _⟩
  · exact ⟨none, 0, 0, hcs⟩
  · exact ⟨some x, len, cap, hcs⟩
theorem open_opc {H : Type} {enc : TypeId × Value → H} {W : World} {base fuel : Nat} {cs : List Value} {d : DataW H} {p : List MemPlace} (hf : DataW.trod enc Tryz.prog W base (fun _ => true) true fuel 42 cs = some (d, p)) (hb : Rows.uptoBulk d ≤ 1048576) :
    ∃ o : Opc, cs = o.cells ∧ OpcOk W o ∧ 8 ≤ Rows.uptoBulk d := by
  obtain ⟨xs, m, _, hx, hl, hxl, hall⟩ := DataW.trod_struct Tryz.underlying42 hf
  obtain ⟨a, b, c, d', ls, f0, f1, f2, f3, f4, g, rfl⟩ := elevenV (hl.trans cellsOp)
  have hx7 : xs.length = 7 := hxl
  have h0 : DataW.trod enc Tryz.prog W base (fun _ => true) true m 3 (([a, b, c, d', ls, f0, f1, f2, f3, f4, g].drop 0).take (Tryz.prog.cellsOf 3)) = xs[0]? := hall 0 _ rfl
  have h1 : DataW.trod enc Tryz.prog W base (fun _ => true) true m 3 (([a, b, c, d', ls, f0, f1, f2, f3, f4, g].drop 1).take (Tryz.prog.cellsOf 3)) = xs[1]? := hall 1 _ rfl
  have h2 : DataW.trod enc Tryz.prog W base (fun _ => true) true m 5 (([a, b, c, d', ls, f0, f1, f2, f3, f4, g].drop 2).take (Tryz.prog.cellsOf 5)) = xs[2]? := hall 2 _ rfl
  have h3 : DataW.trod enc Tryz.prog W base (fun _ => true) true m 3 (([a, b, c, d', ls, f0, f1, f2, f3, f4, g].drop 3).take (Tryz.prog.cellsOf 3)) = xs[3]? := hall 3 _ rfl
  have h4 : DataW.trod enc Tryz.prog W base (fun _ => true) true m 33 (([a, b, c, d', ls, f0, f1, f2, f3, f4, g].drop 4).take (Tryz.prog.cellsOf 33)) = xs[4]? := hall 4 _ rfl
  have h5 : DataW.trod enc Tryz.prog W base (fun _ => true) true m 39 (([a, b, c, d', ls, f0, f1, f2, f3, f4, g].drop 5).take (Tryz.prog.cellsOf 39)) = xs[5]? := hall 5 _ rfl
  have h6 : DataW.trod enc Tryz.prog W base (fun _ => true) true m 40 (([a, b, c, d', ls, f0, f1, f2, f3, f4, g].drop 10).take (Tryz.prog.cellsOf 40)) = xs[6]? := hall 6 _ rfl
  rw [List.getElem?_eq_getElem (by omega)] at h0 h1 h2 h3 h4 h5 h6
  rw [cellsInt] at h0 h1 h3
  rw [cellsU8] at h2
  rw [cellsInts] at h4
  rw [cellsFa5] at h5
  rw [cellsKeep] at h6
  obtain ⟨z0, e0, _, _⟩ := DataW.trod_int Tryz.underlying3 h0
  obtain ⟨z1, e1, _, w1⟩ := DataW.trod_int Tryz.underlying3 h1
  obtain ⟨z2, e2, _, w2⟩ := DataW.trod_int Tryz.underlying5 h2
  obtain ⟨z3, e3, _, _⟩ := DataW.trod_int Tryz.underlying3 h3
  obtain ⟨f, e5, fa, ft⟩ := open_fault h5
  have hb8 : 8 ≤ Rows.uptoBulk d := by
    have hd : d = .agg (xs.map Prod.fst) := (Prod.mk.inj hx).1
    have h7 := length_le_bulk (xs.map Prod.fst)
    rw [List.length_map, hx7] at h7
    rw [hd]
    simp only [Rows.uptoBulk]
    omega
  have hb4 : Rows.uptoBulk xs[4].1 ≤ 1048576 := by
    have hd : d = .agg (xs.map Prod.fst) := (Prod.mk.inj hx).1
    have h6 : xs[4].1 ∈ xs.map Prod.fst := List.mem_map_of_mem (List.getElem_mem _)
    have h7 := bulk_le_all h6
    rw [hd] at hb
    simp only [Rows.uptoBulk] at hb
    omega
  obtain ⟨lo, lc, l, e4, hr, hll⟩ := open_ints (d := xs[4].1) (p := xs[4].2) h4 hb4
  obtain ⟨ko, kn, kc, e6⟩ := open_bools (d := xs[6].1) (p := xs[6].2) h6
  simp [K.fcell] at e0 e1 e2 e3 e4 e5 e6
  obtain ⟨q0, q1, q2, q3, q4⟩ := e5
  subst e0; subst e1; subst e2; subst e3; subst e4; subst e6; subst q0; subst q1; subst q2; subst q3; subst q4
  have hbb := bounds_u8 w2
  obtain ⟨fill, rfl⟩ := Int.eq_ofNat_of_zero_le hbb.1
  exact ⟨⟨z0, z1, fill, z3, lo, lc, l, f, ko, kn, kc⟩, rfl, ⟨by show fill < 256; omega, w1, fa, ft, hll, hr⟩, hb8⟩
theorem bulk_times {H : Type} : ∀ (l : List (DataW H)), (∀ d ∈ l, 8 ≤ Rows.uptoBulk d) → 8 * l.length ≤ Rows.uptoBulkAll l
  | [], _ => by simp
  | d :: l, h => by
    have h1 := bulk_times l (fun x hx => h x (List.mem_cons_of_mem _ hx))
    have h2 := h d (by simp)
    simp only [Rows.uptoBulkAll, List.length_cons]
    omega
/-- the script's row -/
structure OcRow (W : World) (ao : Option Addr) (l : List Opc) : Prop where
  at_ : ∀ (k : Nat) o, l[k]? = some o → ∃ b off, ao = some ⟨b, off, none⟩ ∧ ∀ j, j < 11 → W.cell? ⟨b, off + k * 11 + j, none⟩ = o.cells[j]?
theorem open_opcs {H : Type} {enc : TypeId × Value → H} {W : World} {base fuel : Nat} {a0 : Option Addr} {len0 cap0 : Nat} {d : DataW H} {p : List MemPlace} (hf : DataW.trod enc Tryz.prog W base (fun _ => true) true fuel 25 [.slice a0 len0 cap0] = some (d, p)) (hb : Rows.uptoBulk d ≤ 1048576) :
    ∃ l : List Opc, len0 = l.length ∧ OcRow W a0 l ∧ (∀ o ∈ l, OpcOk W o) ∧ 8 * len0 ≤ 1048576 := by
  rcases open_slice Tryz.underlying25 hf with ⟨hcs, _⟩ | ⟨x, len, cap, m, n, D, Pl, hcs, _, hl, hm, hmm, hx, hel⟩
  · simp at hcs
    obtain ⟨rfl, rfl, rfl⟩ := hcs
    exact ⟨[], rfl, ⟨fun k q hk => by simp at hk⟩, by simp, by decide⟩
  · simp at hcs
    obtain ⟨rfl, rfl, rfl⟩ := hcs
    have hmc : m = cap0 := by simpa using hmm
    have hd : d = .slice ((List.range len0).map D) ((List.range (m - len0)).map fun j => D (len0 + j)) := (Prod.mk.inj hx).1
    have b1 := bulk_slice ((List.range len0).map D) ((List.range (m - len0)).map fun j => D (len0 + j))
    rw [← hd] at b1
    have hlen : len0 ≤ 1048575 := by
      have b2 := length_le_bulk ((List.range len0).map D)
      simp at b2
      omega
    have hel' : ∀ i, ∃ q : Opc, i < len0 → (∀ j, j < 11 → W.cell? ((x.add (i * 11)).add j) = q.cells[j]?) ∧ OpcOk W q ∧ 8 ≤ Rows.uptoBulk (D i) := by
      intro i
      by_cases hi : i < len0
      · obtain ⟨cs', hc1, hc2⟩ := hel i (by omega)
        rw [cellsOp] at hc1
        have hbi : Rows.uptoBulk (D i) ≤ 1048576 := by
          have h6 : D i ∈ (List.range len0).map D := List.mem_map_of_mem (List.mem_range.2 hi)
          have h7 := bulk_le_all h6
          omega
        obtain ⟨q, rfl, hq⟩ := open_opc hc2 hbi
        exact ⟨q, fun _ => ⟨(World.cells?_some hc1).2.2, hq⟩⟩
      · exact ⟨⟨0, 0, 0, 0, none, 0, [], ⟨0, 0, 0, 0, false⟩, none, 0, 0⟩, fun h => absurd h hi⟩
    obtain ⟨T, hT⟩ := Classical.axiomOfChoice hel'
    have hlen8 : 8 * len0 ≤ 1048576 := by
      have h1 := bulk_times ((List.range len0).map D) (fun d hd => by
        obtain ⟨i, hi, rfl⟩ := List.mem_map.1 hd
        exact (hT i (List.mem_range.1 hi)).2.2)
      simp only [List.length_map, List.length_range] at h1
      omega
    refine ⟨(List.range len0).map T, by simp, ⟨fun k q hk => ?_⟩, fun y hy => ?_, hlen8⟩
    · have hk2 : k < len0 := by
        have := (List.getElem?_eq_some_iff.1 hk).1
        simpa using this
      have hq : T k = q := by simpa [hk2] using hk
      obtain ⟨pb, po, rfl⟩ : ∃ pb po, x = ⟨pb, po, none⟩ := by
        have h0 := (hT 0 (by omega)).1 0 (by decide)
        have h1 := World.cell?_spot (show W.cell? ((x.add (0 * 11)).add 0) = some (.int .i64 (T 0).kind) from h0)
        obtain ⟨b, off, spot⟩ := x
        have : spot = none := by simpa [Addr.add] using h1
        exact ⟨b, off, by rw [this]⟩
      refine ⟨pb, po, rfl, fun j hj => ?_⟩
      have g0 := (hT k hk2).1 j hj
      rw [add_plain, add_plain, hq] at g0
      exact g0
    · obtain ⟨i, hi, rfl⟩ := List.mem_map.1 hy
      exact (hT i (List.mem_range.1 hi)).2.1
end Go.Proofs.YtbamjfnjenmdaaaGreat.C
