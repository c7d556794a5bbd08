import Derived.Test.YtoabigjajnikcaaBulkD
import Derived.Test.YtoabigjajnikcaaTZh
import Derived.WalkKit
import Derived.ProofKit
import Derived.OpenShut
import Derived.ChangeOld
import Derived.SizedLaws
import Derived.JoinedCond
import Derived.Deep.Slices
namespace Go.Proofs.Ytoabigjajnikcaa
open Go.ChangeShapes Go.WideShapes Go.ChangeAt Go.RowKit Go.Lib
open Go.Deep
set_option linter.unusedVariables false
set_option linter.unusedSimpArgs false
set_option maxRecDepth 100000

theorem own : ownKnob Try.prog.godebug = none := by kernel_rfl
theorem laidOut : laidOutB Try.prog = true := by kernel_rfl
theorem brow_ints (W : World) (x : Addr) (len cap : Nat) (zs : List Int) (hl : len ≤ zs.length) (hlen : len ≤ 140737488351232)
    (hcell : ∀ i, i < zs.length → W.cell? (x.add i) = some (.int .u8 (zs.getD i 0))) (hw : ∀ n ∈ zs, (Lit.int .u8 n).wf = true) :
    ∃ l : List Nat, l.length = len ∧ BRow W (some x) cap l := by
  have hb : ∀ i (hi : i < zs.length), 0 ≤ zs[i] ∧ zs[i] ≤ 255 := fun i hi => by
    have := bounds_u8 (hw _ (List.getElem_mem hi)); omega
  refine ⟨(zs.take len).map Int.toNat, by simp; omega, ⟨?_, by simp; omega, fun h => by simp at h, ?_⟩⟩
  · intro y hy
    obtain ⟨z, hz, rfl⟩ := List.mem_map.1 hy
    have hz' := List.mem_of_mem_take hz
    have := bounds_u8 (hw z hz'); omega
  · intro hne
    have hpos : 0 < len := by
      rcases Nat.eq_zero_or_pos len with h | h
      · subst h; simp at hne
      · exact h
    obtain ⟨b, off, rfl, hc⟩ := ints_at hcell (by omega)
    refine ⟨b, off, rfl, fun k hk => ?_⟩
    have hk' : k < len := by simp at hk; omega
    have h1 := hcell k (by omega)
    rw [add_plain] at h1
    rw [h1]
    have h2 := hb k (by omega)
    simp [bv, show k < zs.length by omega]
    omega
theorem cell_lt {W : World} {g o : Nat} {v : Value} (h : W.cell? ⟨g, o, none⟩ = some v) : g < W.heap.size := by
  unfold World.cell? at h
  cases hh : W.heap[g]? with
  | none => rw [hh] at h; simp at h
  | some _ => exact block_lt hh
/-- a []byte that was read: its bytes -/
theorem open_bytes {H : Type} {enc : TypeId × Value → H} {W : World} {base fuel : Nat} {cs : List Value} {d : DataW H} {p : List MemPlace} (hf : DataW.trod enc Try.prog W base (fun _ => true) true fuel 42 cs = some (d, p)) (hb : Rows.uptoBulk d ≤ 1048576) :
    ∃ (ao : Option Addr) (cap : Nat) (l : List Nat), cs = [.slice ao l.length cap] ∧ FRow W (fun g => g < W.heap.size) ao cap l ∧ l.length ≤ 1048576 := by
  rcases open_ints Try.underlying42 Try.underlying5 (by kernel_rfl) hf with ⟨hcs, hx⟩ | ⟨x, l, c, zs, hcs, _, hl, hm, hz, hx, hcell, hwz⟩
  · exact ⟨none, 0, [], hcs, FRow.nil _ _, by simp⟩
  · have hd : d = .slice (lits .u8 (zs.take l)) (lits .u8 (zs.drop l)) := (Prod.mk.inj hx).1
    have hz' : zs.length = c := by simpa using hz
    have hsl := bulk_slice (lits (H := H) .u8 (zs.take l)) (lits .u8 (zs.drop l))
    have hs1 := length_le_bulk (lits (H := H) .u8 (zs.take l))
    rw [← hd] at hsl
    simp only [lits, List.length_map, List.length_take, List.length_drop] at hsl hs1
    obtain ⟨m, hm1, hm2⟩ := brow_ints W x l c zs (by omega) (by omega) hcell hwz
    subst hm1
    refine ⟨some x, c, m, hcs, ⟨hm2, fun hne a ha => ?_⟩, by omega⟩
    obtain ⟨b, off, e, hc⟩ := hm2.at_ hne
    rw [e] at ha
    cases ha
    have hpos : 0 < m.length := List.length_pos_iff.2 hne
    exact cell_lt (hc 0 hpos)
theorem take1 {cs : List Value} {j : Nat} {v : Value} (h : (cs.drop j).take 1 = [v]) : cs[j]? = some v := by
  have := congrArg (·[0]?) h
  simpa [List.getElem?_take, List.getElem?_drop] using this
theorem take6 {cs xs : List Value} {j : Nat} (h : (cs.drop j).take 6 = xs) (i : Nat) (hi : i < 6) : cs[j + i]? = xs[i]? := by
  have := congrArg (·[i]?) h
  simpa [List.getElem?_take, List.getElem?_drop, hi] using this
theorem bulk_in {H : Type} {xs : List (DataW H × List MemPlace)} {i : Nat} {y : DataW H} {yp : List MemPlace} (h : xs[i]? = some (y, yp)) (hb : Rows.uptoBulkAll (xs.map (·.1)) ≤ 1048576) : Rows.uptoBulk y ≤ 1048576 := by
  have m1 : y ∈ xs.map (·.1) := List.mem_map.2 ⟨(y, yp), List.mem_of_getElem? h, rfl⟩
  have b := bulk_le_all m1
  omega
theorem open_req {H : Type} {enc : TypeId × Value → H} {w : World} {base : Nat} {fuel : Nat} {cs : List Value} {d : DataW H} {p : List MemPlace} (h : DataW.trod enc Try.prog w base (fun _ => true) true fuel 44 cs = some (d, p)) (hbd : Rows.uptoBulk d ≤ 1048576) : ∃ (q : Rq) (da : Option Addr) (dc : Nat), cs = rcl q da dc ∧ FRow w (fun g => g < w.heap.size) da dc q.data ∧ q.data.length ≤ 1048576 := by
  obtain ⟨xs, n, rfl, hx, hl, hxl, hall⟩ := DataW.trod_struct Try.underlying44 h
  have hl' : cs.length = 6 := hl.trans (by kernel_rfl)
  rw [(Prod.mk.inj hx).1] at hbd
  simp only [Rows.uptoBulk] at hbd
  replace hbd : Rows.uptoBulkAll (xs.map (·.1)) ≤ 1048576 := by omega
  have h0 := hall 0 _ rfl
  obtain ⟨⟨y0, yp0⟩, hy0⟩ : ∃ y, xs[0]? = some y := ⟨_, List.getElem?_eq_getElem (by rw [hxl]; decide)⟩
  have k0 : Try.prog.cellsOf 40 = 1 := by kernel_rfl
  simp only [k0, hy0] at h0
  obtain ⟨z0, e0, _, w0⟩ := DataW.trod_int Try.underlying40 h0
  have t0 := take1 e0
  have h1 := hall 1 _ rfl
  obtain ⟨⟨y1, yp1⟩, hy1⟩ : ∃ y, xs[1]? = some y := ⟨_, List.getElem?_eq_getElem (by rw [hxl]; decide)⟩
  have k1 : Try.prog.cellsOf 40 = 1 := by kernel_rfl
  simp only [k1, hy1] at h1
  obtain ⟨z1, e1, _, w1⟩ := DataW.trod_int Try.underlying40 h1
  have t1 := take1 e1
  have h2 := hall 2 _ rfl
  obtain ⟨⟨y2, yp2⟩, hy2⟩ : ∃ y, xs[2]? = some y := ⟨_, List.getElem?_eq_getElem (by rw [hxl]; decide)⟩
  have k2 : Try.prog.cellsOf 41 = 1 := by kernel_rfl
  simp only [k2, hy2] at h2
  obtain ⟨z2, e2, _, w2⟩ := DataW.trod_int Try.underlying41 h2
  have t2 := take1 e2
  have h3 := hall 3 _ rfl
  obtain ⟨⟨y3, yp3⟩, hy3⟩ : ∃ y, xs[3]? = some y := ⟨_, List.getElem?_eq_getElem (by rw [hxl]; decide)⟩
  have k3 : Try.prog.cellsOf 41 = 1 := by kernel_rfl
  simp only [k3, hy3] at h3
  obtain ⟨z3, e3, _, w3⟩ := DataW.trod_int Try.underlying41 h3
  have t3 := take1 e3
  have h4 := hall 4 _ rfl
  obtain ⟨⟨y4, yp4⟩, hy4⟩ : ∃ y, xs[4]? = some y := ⟨_, List.getElem?_eq_getElem (by rw [hxl]; decide)⟩
  have k4 : Try.prog.cellsOf 41 = 1 := by kernel_rfl
  simp only [k4, hy4] at h4
  obtain ⟨z4, e4, _, w4⟩ := DataW.trod_int Try.underlying41 h4
  have t4 := take1 e4
  have h5 := hall 5 _ rfl
  obtain ⟨⟨y5, yp5⟩, hy5⟩ : ∃ y, xs[5]? = some y := ⟨_, List.getElem?_eq_getElem (by rw [hxl]; decide)⟩
  have k5 : Try.prog.cellsOf 42 = 1 := by kernel_rfl
  simp only [k5, hy5] at h5
  obtain ⟨da, dc, dl, e5, dr, dn⟩ := open_bytes h5 (bulk_in hy5 hbd)
  have t5 := take1 e5
  refine ⟨⟨z0, z1, z2, z3, z4, dl⟩, da, dc, ?_, dr, dn⟩
  apply List.ext_getElem?
  intro i
  match i with
  | 0 => exact t0
  | 1 => exact t1
  | 2 => exact t2
  | 3 => exact t3
  | 4 => exact t4
  | 5 => exact t5
  | i + 6 => rw [List.getElem?_eq_none (by omega)]; rfl
theorem open_op {H : Type} {enc : TypeId × Value → H} {w : World} {base : Nat} {fuel : Nat} {cs : List Value} {d : DataW H} {p : List MemPlace} (h : DataW.trod enc Try.prog w base (fun _ => true) true fuel 46 cs = some (d, p)) (hbd : Rows.uptoBulk d ≤ 1048576) : ∃ (o : OpF) (da : Option Addr) (dc : Nat) (aa : Option Addr) (ac : Nat), cs = (opl o o.rq.data.length o.an.length da dc aa ac).toList ∧ OpOk w w.heap.size o da dc aa ac := by
  obtain ⟨xs, n, rfl, hx, hl, hxl, hall⟩ := DataW.trod_struct Try.underlying46 h
  have hl' : cs.length = 9 := hl.trans (by kernel_rfl)
  rw [(Prod.mk.inj hx).1] at hbd
  simp only [Rows.uptoBulk] at hbd
  replace hbd : Rows.uptoBulkAll (xs.map (·.1)) ≤ 1048576 := by omega
  have h0 := hall 0 _ rfl
  obtain ⟨⟨y0, yp0⟩, hy0⟩ : ∃ y, xs[0]? = some y := ⟨_, List.getElem?_eq_getElem (by rw [hxl]; decide)⟩
  have k0 : Try.prog.cellsOf 3 = 1 := by kernel_rfl
  simp only [k0, hy0] at h0
  obtain ⟨z0, e0, _, w0⟩ := DataW.trod_int Try.underlying3 h0
  have t0 := take1 e0
  have h1 := hall 1 _ rfl
  obtain ⟨⟨y1, yp1⟩, hy1⟩ : ∃ y, xs[1]? = some y := ⟨_, List.getElem?_eq_getElem (by rw [hxl]; decide)⟩
  have k1 : Try.prog.cellsOf 3 = 1 := by kernel_rfl
  simp only [k1, hy1] at h1
  obtain ⟨z1, e1, _, w1⟩ := DataW.trod_int Try.underlying3 h1
  have t1 := take1 e1
  have h2 := hall 2 _ rfl
  obtain ⟨⟨y2, yp2⟩, hy2⟩ : ∃ y, xs[2]? = some y := ⟨_, List.getElem?_eq_getElem (by rw [hxl]; decide)⟩
  have k2 : Try.prog.cellsOf 44 = 6 := by kernel_rfl
  simp only [k2, hy2] at h2
  obtain ⟨q, da, dc, e2, hdr, hdl⟩ := open_req h2 (bulk_in hy2 hbd)
  have h3 := hall 3 _ rfl
  obtain ⟨⟨y3, yp3⟩, hy3⟩ : ∃ y, xs[3]? = some y := ⟨_, List.getElem?_eq_getElem (by rw [hxl]; decide)⟩
  have k3 : Try.prog.cellsOf 42 = 1 := by kernel_rfl
  simp only [k3, hy3] at h3
  obtain ⟨aa, ac, al, e3, ar, an⟩ := open_bytes h3 (bulk_in hy3 hbd)
  have t3 := take1 e3
  refine ⟨⟨z0, z1, q, al⟩, da, dc, aa, ac, ?_, hdr, ar, w1, by show q.data.length ≤ _; omega, by show al.length ≤ _; omega⟩
  apply List.ext_getElem?
  intro i
  match i with
  | 0 => exact t0
  | 1 => exact t1
  | 2 => exact take6 e2 0 (by decide)
  | 3 => exact take6 e2 1 (by decide)
  | 4 => exact take6 e2 2 (by decide)
  | 5 => exact take6 e2 3 (by decide)
  | 6 => exact take6 e2 4 (by decide)
  | 7 => exact take6 e2 5 (by decide)
  | 8 => exact t3
  | i + 9 => rw [List.getElem?_eq_none (by omega)]; rfl
/-- a script that was handed in -/
theorem open_script {H : Type} {enc : TypeId × Value → H} {W : World} {base fuel : Nat} {cs : List Value} {d : DataW H} {p : List MemPlace} (hf : DataW.trod enc Try.prog W base (fun _ => true) true fuel 31 cs = some (d, p)) (hb : Rows.uptoBulk d ≤ 1048576) :
    ∃ (ao : Option Addr) (cap : Nat) (os : List OpF), cs = [.slice ao os.length cap] ∧ Scr W W.heap.size ao os := by
  rcases open_slice Try.underlying31 hf with ⟨hcs, _⟩ | ⟨x, len, cap, m, n, D, Pl, hcs, _, hl, hm, hmm, hx, hel⟩
  · exact ⟨none, 0, [], hcs, ⟨by simp, fun k o h => by simp at h⟩⟩
  · have hmc : m = cap := by simpa using hmm
    have hd : d = .slice ((List.range len).map D) ((List.range (m - len)).map fun j => D (len + j)) := (Prod.mk.inj hx).1
    have hlen : len ≤ 1048576 := by
      have b1 := bulk_slice ((List.range len).map D) ((List.range (m - len)).map fun j => D (len + j))
      have b2 := length_le_bulk ((List.range len).map D)
      rw [← hd] at b1
      simp at b2
      omega
    have cOp : Try.prog.cellsOf 46 = 9 := by kernel_rfl
    have hel' : ∀ i, ∃ o : OpF, i < len → ∃ da dc aa ac, OpOk W W.heap.size o da dc aa ac ∧ ∀ j, j < 9 → W.cell? ((x.add (i * 9)).add j) = (opl o o.rq.data.length o.an.length da dc aa ac).toList[j]? := by
      intro i
      by_cases hi : i < len
      · obtain ⟨cs', hc1, hc2⟩ := hel i (by omega)
        rw [cOp] at hc1
        have hbi : Rows.uptoBulk (D i) ≤ 1048576 := by
          have b1 := bulk_slice ((List.range len).map D) ((List.range (m - len)).map fun j => D (len + j))
          have b2 := bulk_le_all (List.mem_map_of_mem (f := D) (List.mem_range.2 hi))
          rw [← hd] at b1
          omega
        obtain ⟨o, da, dc, aa, ac, rfl, hok⟩ := open_op hc2 hbi
        refine ⟨o, fun _ => ⟨da, dc, aa, ac, hok, fun j hj => ?_⟩⟩
        have h1 := (World.cells?_some hc1).2.2 j hj
        rw [h1]
      · exact ⟨⟨0, 0, ⟨0, 0, 0, 0, 0, []⟩, []⟩, fun h => absurd h hi⟩
    obtain ⟨T, hT⟩ := Classical.axiomOfChoice hel'
    refine ⟨some x, cap, (List.range len).map T, by rw [hcs]; simp, ⟨by simp; omega, fun k o hk => ?_⟩⟩
    have hk2 : k < len := by
      have := (List.getElem?_eq_some_iff.1 hk).1
      simpa using this
    rw [List.getElem?_map, List.getElem?_range hk2] at hk
    simp only [Option.map_some, Option.some.injEq] at hk
    subst hk
    obtain ⟨da, dc, aa, ac, hok, hc⟩ := hT k hk2
    obtain ⟨pb, po, rfl⟩ : ∃ pb po, x = ⟨pb, po, none⟩ := by
      obtain ⟨_, _, _, _, _, hc0⟩ := hT 0 (by omega)
      have h1 := hc0 0 (by decide)
      have h2 := World.cell?_spot (show W.cell? ((x.add (0 * 9)).add 0) = some (.int .i64 (T 0).kind) from h1)
      obtain ⟨b, off, spot⟩ := x
      have : spot = none := by simpa [Addr.add] using h2
      exact ⟨b, off, by rw [this]⟩
    have hc' : ∀ j, j < 9 → W.cell? ⟨pb, po + k * 9 + j, none⟩ = (opl (T k) (T k).rq.data.length (T k).an.length da dc aa ac).toList[j]? := fun j hj => by
      have h1 := hc j hj
      rw [add_plain, add_plain] at h1
      exact h1
    refine ⟨pb, po, da, dc, aa, ac, rfl, cell_lt (hc' 0 (by decide)), fun j u hu => ?_, hok⟩
    have hj : j < 9 := by
      have := (List.getElem?_eq_some_iff.1 hu).1
      simpa [opl] using this
    rw [hc' j hj]; exact hu
end Go.Proofs.Ytoabigjajnikcaa
