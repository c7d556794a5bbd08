import Derived.Test.YtjkoambfecmglaaBulkD
import Derived.Test.YtjkoambfecmglaaJP
import Derived.WalkKit
import Derived.ProofKit
import Derived.OpenShut
import Derived.ChangeOld
import Derived.SizedLaws
import Derived.JoinedCond
import Derived.Deep.Slices
namespace Go.Proofs.Ytjkoambfecmglaa
open Go.ChangeShapes Go.WideShapes Go.ChangeAt Go.RowKit Go.Lib
open Go.Deep
set_option linter.unusedVariables false
set_option linter.unusedSimpArgs false
set_option maxRecDepth 100000
theorem own : ownKnob Try.prog.godebug = none := by kernel_rfl
theorem laidOut : laidOutB Try.prog = true := by kernel_rfl
theorem take1 {cs : List Value} {j : Nat} {v : Value} (h : (cs.drop j).take 1 = [v]) : cs[j]? = some v := by
  have := congrArg (·[0]?) h
  simpa [List.getElem?_take, List.getElem?_drop] using this
theorem brow_ints (W : World) (x : Addr) (len cap : Nat) (zs : List Int) (hl : len ≤ zs.length) (hlen : len ≤ 140737488351232)
    (hcell : ∀ i, i < zs.length → W.cell? (x.add i) = some (.int .u8 (zs.getD i 0))) (hw : ∀ n ∈ zs, (Lit.int .u8 n).wf = true) :
    ∃ l : List Nat, l.length = len ∧ BRow W (some x) cap l := by
  have hb : ∀ i (hi : i < zs.length), 0 ≤ zs[i] ∧ zs[i] ≤ 255 := fun i hi => by
    have := bounds_u8 (hw _ (List.getElem_mem hi)); omega
  refine ⟨(zs.take len).map Int.toNat, by simp; omega, ⟨?_, by simp; omega, fun h => by simp at h, ?_⟩⟩
  · intro y hy
    obtain ⟨z, hz, rfl⟩ := List.mem_map.1 hy
    have hz' := List.mem_of_mem_take hz
    have := bounds_u8 (hw z hz'); omega
  · intro hne
    have hpos : 0 < len := by
      rcases Nat.eq_zero_or_pos len with h | h
      · subst h; simp at hne
      · exact h
    obtain ⟨b, off, rfl, hc⟩ := ints_at hcell (by omega)
    refine ⟨b, off, rfl, fun k hk => ?_⟩
    have hk' : k < len := by simp at hk; omega
    have h1 := hcell k (by omega)
    rw [add_plain] at h1
    rw [h1]
    have h2 := hb k (by omega)
    simp [bv, show k < zs.length by omega]
    omega
/-- bytes that were handed in -/
theorem open_b17 {H : Type} {enc : TypeId × Value → H} {W : World} {base fuel : Nat} {cs : List Value} {d : DataW H} {p : List MemPlace} (hf : DataW.trod enc Try.prog W base (fun _ => true) true fuel 22 cs = some (d, p)) (hb : Rows.uptoBulk d ≤ 1048576) :
    ∃ (ao : Option Addr) (cap : Nat) (l : List Nat), cs = [.slice ao l.length cap] ∧ BRow W ao cap l := by
  rcases open_ints (show Try.prog.underlying 22 = some (.slice 5) by kernel_rfl) Try.underlying5 (by kernel_rfl) hf with ⟨hcs, hx⟩ | ⟨x, l, c, zs, hcs, _, hl, hm, hz, hx, hcell, hwz⟩
  · exact ⟨none, 0, [], hcs, ⟨by simp, by simp, fun _ => ⟨rfl, rfl⟩, fun h => absurd rfl h⟩⟩
  · have hd : d = .slice (lits .u8 (zs.take l)) (lits .u8 (zs.drop l)) := (Prod.mk.inj hx).1
    have hz' : zs.length = c := by simpa using hz
    have hsl := bulk_slice (lits (H := H) .u8 (zs.take l)) (lits .u8 (zs.drop l))
    have hs1 := length_le_bulk (lits (H := H) .u8 (zs.take l))
    have hs2 := length_le_bulk (lits (H := H) .u8 (zs.drop l))
    rw [← hd] at hsl
    simp only [lits, List.length_map, List.length_take, List.length_drop] at hsl hs1 hs2
    obtain ⟨m, hm1, hm2⟩ := brow_ints W x l c zs (by omega) (by omega) hcell hwz
    subst hm1
    exact ⟨some x, c, m, hcs, hm2⟩
/-- numbers that were handed in -/
theorem open_z17 {H : Type} {enc : TypeId × Value → H} {W : World} {base fuel : Nat} {cs : List Value} {d : DataW H} {p : List MemPlace} (hf : DataW.trod enc Try.prog W base (fun _ => true) true fuel 24 cs = some (d, p)) (hb : Rows.uptoBulk d ≤ 1048576) :
    ∃ (ao : Option Addr) (cap : Nat) (l : List Int), cs = [.slice ao l.length cap] ∧ ZRow W ao l ∧ l.length ≤ cap ∧ l.length ≤ 1048576 ∧ (ao = none → l.length = 0 ∧ cap = 0) := by
  rcases open_ints (show Try.prog.underlying 24 = some (.slice 3) by kernel_rfl) (show Try.prog.underlying 3 = some (.int .i64) by kernel_rfl) (by kernel_rfl) hf with ⟨hcs, hx⟩ | ⟨x, l, c, zs, hcs, _, hl, hm, hz, hx, hcell, hwz⟩
  · exact ⟨none, 0, [], hcs, ⟨fun h => absurd rfl h⟩, by simp, by simp, fun _ => ⟨rfl, rfl⟩⟩
  · have hd : d = .slice (lits .i64 (zs.take l)) (lits .i64 (zs.drop l)) := (Prod.mk.inj hx).1
    have hz' : zs.length = c := by simpa using hz
    have hsl := bulk_slice (lits (H := H) .i64 (zs.take l)) (lits .i64 (zs.drop l))
    have hs1 := length_le_bulk (lits (H := H) .i64 (zs.take l))
    rw [← hd] at hsl
    simp only [lits, List.length_map, List.length_take, List.length_drop] at hsl hs1
    have hll : (zs.take l).length = l := by rw [List.length_take]; omega
    refine ⟨some x, c, zs.take l, by rw [hll]; exact hcs, ⟨fun hne => ?_⟩, by rw [hll]; omega, by rw [hll]; omega, fun h => by cases h⟩
    have hpos : 0 < l := by
      rcases Nat.eq_zero_or_pos l with h | h
      · subst h; simp at hne
      · exact h
    obtain ⟨b, off, rfl, hc⟩ := ints_at hcell (by omega)
    refine ⟨b, off, rfl, fun k hk => ?_⟩
    have hk' : k < l := by rw [hll] at hk; exact hk
    have h1 := hcell k (by omega)
    rw [add_plain] at h1
    rw [h1, List.getElem_take]
    simp [show k < zs.length by omega]
/-- an operation that was handed in -/
theorem open_o17 {H : Type} {enc : TypeId × Value → H} {w : World} {base : Nat} {fuel : Nat} {cs : List Value} {d : DataW H} {p : List MemPlace} (h : DataW.trod enc Try.prog w base (fun _ => true) true fuel 50 cs = some (d, p)) (hb : Rows.uptoBulk d ≤ 1048576) : ∃ (o : Opv) (ds : List Nat), cs = o.cells.toList ∧ BRow w o.da o.dc ds ∧ ds.length = o.n := by
  obtain ⟨xs, n, rfl, hx, hl, hxl, hall⟩ := DataW.trod_struct Try.underlying50 h
  have hl' : cs.length = 7 := hl.trans (by kernel_rfl)
  have h0 := hall 0 _ rfl
  obtain ⟨⟨y0, yp0⟩, hy0⟩ : ∃ y, xs[0]? = some y := ⟨_, List.getElem?_eq_getElem (by rw [hxl]; decide)⟩
  have k0 : Try.prog.cellsOf 48 = 1 := by kernel_rfl
  simp only [k0, hy0] at h0
  obtain ⟨z0, e0, _, w0⟩ := DataW.trod_int (show Try.prog.underlying 48 = some (.int .i64) by kernel_rfl) h0
  have t0 := take1 e0
  have h1 := hall 1 _ rfl
  obtain ⟨⟨y1, yp1⟩, hy1⟩ : ∃ y, xs[1]? = some y := ⟨_, List.getElem?_eq_getElem (by rw [hxl]; decide)⟩
  have k1 : Try.prog.cellsOf 3 = 1 := by kernel_rfl
  simp only [k1, hy1] at h1
  obtain ⟨z1, e1, _, w1⟩ := DataW.trod_int (show Try.prog.underlying 3 = some (.int .i64) by kernel_rfl) h1
  have t1 := take1 e1
  have h2 := hall 2 _ rfl
  obtain ⟨⟨y2, yp2⟩, hy2⟩ : ∃ y, xs[2]? = some y := ⟨_, List.getElem?_eq_getElem (by rw [hxl]; decide)⟩
  have k2 : Try.prog.cellsOf 3 = 1 := by kernel_rfl
  simp only [k2, hy2] at h2
  obtain ⟨z2, e2, _, w2⟩ := DataW.trod_int (show Try.prog.underlying 3 = some (.int .i64) by kernel_rfl) h2
  have t2 := take1 e2
  have h3 := hall 3 _ rfl
  obtain ⟨⟨y3, yp3⟩, hy3⟩ : ∃ y, xs[3]? = some y := ⟨_, List.getElem?_eq_getElem (by rw [hxl]; decide)⟩
  have k3 : Try.prog.cellsOf 3 = 1 := by kernel_rfl
  simp only [k3, hy3] at h3
  obtain ⟨z3, e3, _, w3⟩ := DataW.trod_int (show Try.prog.underlying 3 = some (.int .i64) by kernel_rfl) h3
  have t3 := take1 e3
  have h4 := hall 4 _ rfl
  obtain ⟨⟨y4, yp4⟩, hy4⟩ : ∃ y, xs[4]? = some y := ⟨_, List.getElem?_eq_getElem (by rw [hxl]; decide)⟩
  have k4 : Try.prog.cellsOf 3 = 1 := by kernel_rfl
  simp only [k4, hy4] at h4
  obtain ⟨z4, e4, _, w4⟩ := DataW.trod_int (show Try.prog.underlying 3 = some (.int .i64) by kernel_rfl) h4
  have t4 := take1 e4
  have h5 := hall 5 _ rfl
  obtain ⟨⟨y5, yp5⟩, hy5⟩ : ∃ y, xs[5]? = some y := ⟨_, List.getElem?_eq_getElem (by rw [hxl]; decide)⟩
  have k5 : Try.prog.cellsOf 22 = 1 := by kernel_rfl
  simp only [k5, hy5] at h5
  have hbk : Rows.uptoBulk y5 ≤ 1048576 := by
    have hd : d = .agg (xs.map (·.1)) := (Prod.mk.inj hx).1
    have hm : y5 ∈ xs.map (·.1) := List.mem_map.2 ⟨_, List.mem_of_getElem? hy5, rfl⟩
    have h1 := bulk_le_all hm
    rw [hd] at hb
    simp only [Rows.uptoBulk] at hb
    omega
  obtain ⟨ao, cap, ds, e5, hbr⟩ := open_b17 h5 hbk
  have t5 := take1 e5
  have h6 := hall 6 _ rfl
  obtain ⟨⟨y6, yp6⟩, hy6⟩ : ∃ y, xs[6]? = some y := ⟨_, List.getElem?_eq_getElem (by rw [hxl]; decide)⟩
  have k6 : Try.prog.cellsOf 4 = 1 := by kernel_rfl
  simp only [k6, hy6] at h6
  obtain ⟨z6, e6, _⟩ := DataW.trod_bool (show Try.prog.underlying 4 = some .bool by kernel_rfl) h6
  have t6 := take1 e6
  refine ⟨⟨z0, z1, z2, z3, z4, ao, ds.length, cap, z6⟩, ds, ?_, hbr, rfl⟩
  apply List.ext_getElem?
  intro i
  match i with
  | 0 => exact t0
  | 1 => exact t1
  | 2 => exact t2
  | 3 => exact t3
  | 4 => exact t4
  | 5 => exact t5
  | 6 => exact t6
  | i + 7 => rw [List.getElem?_eq_none (by omega)]; rfl
/-- operations that were handed in -/
theorem open_ops17 {H : Type} {enc : TypeId × Value → H} {W : World} {base fuel : Nat} {cs : List Value} {d : DataW H} {p : List MemPlace} (hf : DataW.trod enc Try.prog W base (fun _ => true) true fuel 23 cs = some (d, p)) (hb : Rows.uptoBulk d ≤ 1048576) :
    ∃ (ao : Option Addr) (cap : Nat) (l : List Opv) (dss : List (List Nat)), cs = [.slice ao l.length cap] ∧ OpsD W ao l dss ∧ l.length ≤ 1048576 := by
  rcases open_slice Try.under23 hf with ⟨hcs, _⟩ | ⟨x, len, cap, m, n, D, Pl, hcs, _, hl, hm, hmm, hx, hel⟩
  · exact ⟨none, 0, [], [], hcs, ⟨⟨fun h => absurd rfl h⟩, rfl, fun k p ds h => by simp at h⟩, by simp⟩
  · have hmc : m = cap := by simpa using hmm
    have hd : d = .slice ((List.range len).map D) ((List.range (m - len)).map fun j => D (len + j)) := (Prod.mk.inj hx).1
    have hb1 := bulk_slice ((List.range len).map D) ((List.range (m - len)).map fun j => D (len + j))
    have hlen : len ≤ 1048576 := by
      have b2 := length_le_bulk ((List.range len).map D)
      rw [← hd] at hb1
      simp at b2
      omega
    have cOp : Try.prog.cellsOf 50 = 7 := by kernel_rfl
    have hel' : ∀ i, ∃ od : Opv × List Nat, i < len → (BRow W od.1.da od.1.dc od.2 ∧ od.2.length = od.1.n) ∧ ∀ j, j < 7 → W.cell? ((x.add (i * 7)).add j) = od.1.cells[j]? := by
      intro i
      by_cases hi : i < len
      · obtain ⟨cs', hc1, hc2⟩ := hel i (by omega)
        rw [cOp] at hc1
        have hbi : Rows.uptoBulk (D i) ≤ 1048576 := by
          have h1 : D i ∈ (List.range len).map D := List.mem_map.2 ⟨i, List.mem_range.2 hi, rfl⟩
          have h2 := bulk_le_all h1
          rw [← hd] at hb1
          omega
        obtain ⟨o, ds, rfl, h2, h3⟩ := open_o17 hc2 hbi
        refine ⟨(o, ds), fun _ => ⟨⟨h2, h3⟩, fun j hj => ?_⟩⟩
        have h1 := (World.cells?_some hc1).2.2 j hj
        rw [h1, Array.getElem?_toList]
      · exact ⟨(⟨0, 0, 0, 0, 0, none, 0, 0, false⟩, []), fun h => absurd h hi⟩
    obtain ⟨T, hT⟩ := Classical.axiomOfChoice hel'
    have atk : ∀ (k : Nat) (p : Opv), ((List.range len).map fun i => (T i).1)[k]? = some p → k < len ∧ (T k).1 = p := fun k p hk => by
      rw [List.getElem?_map] at hk
      rcases Nat.lt_or_ge k len with h1 | h1
      · rw [List.getElem?_range h1] at hk
        cases hk
        exact ⟨h1, rfl⟩
      · rw [List.getElem?_eq_none (by simpa using h1)] at hk; cases hk
    refine ⟨some x, cap, (List.range len).map fun i => (T i).1, (List.range len).map fun i => (T i).2, by rw [hcs]; simp, ⟨⟨fun hne => ?_⟩, by simp, fun k p ds hp hds => ?_⟩, by simpa using hlen⟩
    · have h0 : 0 < len := by
        rcases Nat.eq_zero_or_pos len with h | h
        · subst h; simp at hne
        · exact h
      obtain ⟨pb, po, rfl⟩ : ∃ pb po, x = ⟨pb, po, none⟩ := by
        have h1 := (hT 0 h0).2 0 (by decide)
        have h2 := World.cell?_spot (show W.cell? ((x.add (0 * 7)).add 0) = some (.int .i64 (T 0).1.k) from h1)
        obtain ⟨b, off, spot⟩ := x
        have : spot = none := by simpa [Addr.add] using h2
        exact ⟨b, off, by rw [this]⟩
      refine ⟨pb, po, rfl, fun k hk j v hv => ?_⟩
      have hk2 : k < len := by simpa using hk
      have hj : j < 7 := by
        have := (Array.getElem?_eq_some_iff.1 hv).1
        simpa using this
      have h1 := (hT k hk2).2 j hj
      rw [add_plain, add_plain] at h1
      rw [h1, ← hv]
      simp
    · obtain ⟨h1, rfl⟩ := atk k p hp
      rw [List.getElem?_map, List.getElem?_range h1] at hds
      cases hds
      exact (hT k h1).1
end Go.Proofs.Ytjkoambfecmglaa
namespace Go.Proofs.Ytjkoambfecmglaa.judgeFollows
open Go.ChangeShapes Go.WideShapes Go.ChangeAt Go.RowKit Go.Lib
open Go.Deep
set_option linter.unusedVariables false
set_option linter.unusedSimpArgs false
set_option maxRecDepth 100000
theorem contract (H : Type) (enc : TypeId × Value → H) (W : World) (base : Nat) (args : Array Value) (ds gs : List (DataW H)) (before : List MemPlace)
    (hval : ∀ (j : Nat) t v, Try.f3.params[j]? = some t → args[j]? = some v → Value.okWide Try.prog W .any base t v)
    (hW : DataW.Whole enc Try.prog Try.f3.params.toList Rows.judgeFollowsSpec.vars false W args.toList ds gs before) (hk : Rows.uptoSmall H (ds ++ gs) = true) :
    Calls Try.prog 3 args W fun e W' => ∃ v, e = .returned v ∧ Rows.judgeFollowsSpec.post enc Try.prog Try.f3 false true false false W args v W' := by
  have hW' := hW
  obtain ⟨p, q, hA0, hV, rfl, hfz, hnd⟩ := hW
  have hA : DataW.TrodAll enc Try.prog W 0 (fun _ => true) true Try.f3.params.toList args.toList ds p := hA0
  rw [Try.params3] at hA hval
  obtain ⟨v0, vs0, d0, ds0, p0, q0, hargs, rfl, rfl, h0, r0⟩ := trodAll_cons hA
  obtain ⟨v1, vs1, d1, ds1, p1, q1, rfl, rfl, rfl, h1, r1⟩ := trodAll_cons r0
  obtain ⟨v2, vs2, d2, ds2, p2, q2, rfl, rfl, rfl, h2, r2⟩ := trodAll_cons r1
  obtain ⟨rfl, rfl, rfl⟩ := trodAll_nil r2
  obtain rfl : args = #[v0, v1, v2] := by cases args; simp_all
  obtain ⟨rfl, rfl⟩ := trodVars_none hV
  have k0 := h0
  have k1 := h1
  have k2 := h2
  have lt0 : ∀ x ∈ p0, x.block < W.heap.size := by obtain ⟨m, hm⟩ := k0; exact DataW.trod_lt m _ _ _ hm
  have lt1 : ∀ x ∈ p1, x.block < W.heap.size := by obtain ⟨m, hm⟩ := k1; exact DataW.trod_lt m _ _ _ hm
  have lt2 : ∀ x ∈ p2, x.block < W.heap.size := by obtain ⟨m, hm⟩ := k2; exact DataW.trod_lt m _ _ _ hm
  obtain ⟨ao, len0, cap0, rfl⟩ := okWide_slice (show Try.prog.underlying 22 = some (.slice 5) by kernel_rfl) (hval 0 22 v0 rfl rfl)
  obtain ⟨so, len1, cap1, rfl⟩ := okWide_slice Try.under23 (hval 1 23 v1 rfl rfl)
  obtain ⟨po, len2, cap2, rfl⟩ := okWide_slice (show Try.prog.underlying 24 = some (.slice 3) by kernel_rfl) (hval 2 24 v2 rfl rfl)
  have hbd := bulk_bound hk
  simp only [Rows.uptoBulkAll, List.append_nil] at hbd
  have hwalk : Calls Try.prog 3 #[.slice ao len0 cap0, .slice so len1 cap1, .slice po len2 cap2] W fun e w' => e = .returned (.bool true) ∧ Below W.heap.size W w' := by
    obtain ⟨f0, hf0⟩ := h0
    obtain ⟨f1, hf1⟩ := h1
    obtain ⟨f2, hf2⟩ := h2
    obtain ⟨ao', cap', first, e0, hbr⟩ := open_b17 hf0 (by omega)
    obtain ⟨so', c1, l, dss, e1, hO, hml⟩ := open_ops17 hf1 (by omega)
    obtain ⟨po', c2, ord, e2, hz, hzc, hdl, hzn⟩ := open_z17 hf2 (by omega)
    simp [Value.cells] at e0 e1 e2
    obtain ⟨rfl, rfl, rfl⟩ := e0
    obtain ⟨rfl, rfl, rfl⟩ := e1
    obtain ⟨rfl, rfl, rfl⟩ := e2
    exact law_any W ao so po _ cap0 _ cap1 _ cap2 first l dss ord hbr rfl hO rfl hml hz rfl hdl hzc hzn
  clear hA0
  refine hwalk.mono fun e W' ⟨he, bel⟩ => ?_
  subst he
  exact ⟨_, rfl, _, _, _, [], _, [], hW', trodAll_mk1 (shut_bool (show Try.prog.underlying 4 = some .bool by kernel_rfl) _), trodAll_cons_mk (Below.trod laidOut (by kernel_rfl) (of_decide_eq_true (by kernel_rfl)) k0 bel lt0) (trodAll_cons_mk (Below.trod laidOut (by kernel_rfl) (of_decide_eq_true (by kernel_rfl)) k1 bel lt1) (trodAll_cons_mk (Below.trod laidOut (by kernel_rfl) (of_decide_eq_true (by kernel_rfl)) k2 bel lt2) trodAll_mk0)), rfl, bel.frame _, fun h => by cases h⟩

set_option maxRecDepth 100000 in
theorem lifted (os : Os) (started : os.Started) (H : Type) (enc : TypeId × Value → H) (F : Stop.Interp) :
    ReturnsInHanded {} Try.checked os 3 .any ((Rows.OpenSpec.upto Rows.judgeFollowsSpec).pre6 enc Try.prog Try.f3 Rows.judgeFollowsUptoRow.domain false) (((Rows.OpenSpec.upto Rows.judgeFollowsSpec).at F).post enc Try.prog Try.f3 false true false false) := by
  refine returnsInHanded_of_cond (C := Try.checked) (s := Rows.OpenSpec.upto Rows.judgeFollowsSpec) (k := Rows.uptoSmall) rfl own started (by kernel_rfl) Try.func3
    (OpenSpec.witness (enc := enc) (C := Try.checked) (s := Rows.OpenSpec.upto Rows.judgeFollowsSpec) (k := Rows.uptoSmall) rfl false ⟨#[], #[.slice none 0 0, .slice none 0 0, .slice none 0 0], []⟩ 8 (by kernel_rfl) (by kernel_rfl) (by kernel_rfl)
      (x := ([.nil, .nil, .nil], [], [])) (by kernel_rfl) rfl (by kernel_rfl)) ?_
  intro W base args ds gs before hval hW _ hk _
  exact contract H enc W base args ds gs before hval hW hk
end Go.Proofs.Ytjkoambfecmglaa.judgeFollows
namespace Go.Proofs.Ytjkoambfecmglaa
theorem judgeFollows_proved : Rows.JudgeFollowsUptoSaid :=
  OpenClaim.holds_of_cond 3 Try.f3 rfl rfl rfl rfl rfl rfl rfl ⟨rfl, rfl, rfl, rfl, rfl⟩ rfl rfl rfl rfl rfl (by kernel_rfl) Try.func3 (by kernel_rfl)
    (of_decide_eq_true (by kernel_rfl)) (by unfold Func.isWrapper; first | (rw [if_pos (by decide +kernel)]; kernel_rfl) | (rw [if_neg (by decide +kernel)]; exact ⟨rfl, rfl⟩))
    (fun os started H enc _ F => judgeFollows.lifted os started H enc F)
#print axioms judgeFollows_proved
end Go.Proofs.Ytjkoambfecmglaa
