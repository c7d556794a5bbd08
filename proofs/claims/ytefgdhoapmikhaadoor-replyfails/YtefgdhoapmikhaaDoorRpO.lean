import Derived.Test.YtefgdhoapmikhaaDoorRpM
import Derived.Test.YtefgdhoapmikhaaDoorFO
namespace Go.Proofs.YtefgdhoapmikhaaDoor
open Go.ChangeShapes Go.WideShapes Go.ChangeAt Go.RowKit Go.Lib
open Go.Deep
set_option linter.unusedVariables false
set_option linter.unusedSimpArgs false
set_option maxRecDepth 100000
theorem take1 {cs : List Value} {j : Nat} {v : Value} (h : (cs.drop j).take 1 = [v]) : cs[j]? = some v := by
  have := congrArg (·[0]?) h
  simpa [List.getElem?_take, List.getElem?_drop] using this
/-- numbers of 32 bits in memory -/
structure URow (w : World) (ao : Option Addr) (l : List Nat) : Prop where
  ok : ∀ x ∈ l, x < 4294967296
  len : l.length ≤ 1048576
  at_ : l ≠ [] → ∃ b off, ao = some ⟨b, off, none⟩ ∧ ∀ k (hk : k < l.length), w.cell? ⟨b, off + k, none⟩ = some (.int .u32 (l[k] : Int))
theorem URow.later {w w' : World} {ao : Option Addr} {L : List Nat} (h : URow w ao L) (hb : Below w.heap.size w w') : URow w' ao L := by
  refine ⟨h.ok, h.len, fun hne => ?_⟩
  obtain ⟨b, off, e, hc⟩ := h.at_ hne
  exact ⟨b, off, e, fun k hk => cell_later hb (hc k hk)⟩
theorem open_bytes12 {H : Type} {enc : TypeId × Value → H} {W : World} {base fuel : Nat} {cs : List Value} {d : DataW H} {p : List MemPlace} (h : DataW.trod enc Tryd.prog W base (fun _ => true) true fuel 27 cs = some (d, p)) (hbd : Rows.uptoBulk d ≤ 1048576) :
    ∃ (ao : Option Addr) (cap : Nat) (l : List Nat), cs = [.slice ao l.length cap] ∧ CRow W ao cap l ∧ l.length + 1 ≤ Rows.uptoBulk d := open_bytesC h hbd
theorem open_u32s {H : Type} {enc : TypeId × Value → H} {W : World} {base fuel : Nat} {cs : List Value} {d : DataW H} {p : List MemPlace} (h : DataW.trod enc Tryd.prog W base (fun _ => true) true fuel 22 cs = some (d, p)) (hbd : Rows.uptoBulk d ≤ 1048576) :
    ∃ (ao : Option Addr) (cap : Nat) (l : List Nat), cs = [.slice ao l.length cap] ∧ URow W ao l := by
  rcases open_ints Tryd.underlying22 Tryd.underlying30 (by kernel_rfl) h with ⟨hcs, hx⟩ | ⟨x, l, c, zs, hcs, _, hl, hm, hz, hx, hcell, hwz⟩
  · exact ⟨none, 0, [], hcs, by simp, by simp, fun h => absurd rfl h⟩
  · have hd : d = .slice (lits .u32 (zs.take l)) (lits .u32 (zs.drop l)) := (Prod.mk.inj hx).1
    have hz' : zs.length = c := by simpa using hz
    have hsl := bulk_slice (lits (H := H) .u32 (zs.take l)) (lits .u32 (zs.drop l))
    have hs1 := length_le_bulk (lits (H := H) .u32 (zs.take l))
    have hs2 := length_le_bulk (lits (H := H) .u32 (zs.drop l))
    rw [← hd] at hsl
    simp only [lits, List.length_map, List.length_take, List.length_drop] at hsl hs1 hs2
    have hb : ∀ i (hi : i < zs.length), 0 ≤ zs[i] ∧ zs[i] ≤ 4294967295 := fun i hi => by
      have := bounds_u32 (hwz _ (List.getElem_mem hi)); omega
    have hlen : ((zs.take l).map Int.toNat).length = l := by simp; omega
    refine ⟨some x, c, (zs.take l).map Int.toNat, by rw [hcs, hlen], fun y hy => ?_, by omega, fun hne => ?_⟩
    · obtain ⟨z, hz, rfl⟩ := List.mem_map.1 hy
      have := bounds_u32 (hwz z (List.mem_of_mem_take hz)); omega
    · have hpos : 0 < l := by
        rcases Nat.eq_zero_or_pos l with h | h
        · subst h; simp at hne
        · exact h
      obtain ⟨b, off, rfl, hc⟩ := ints_at hcell (by omega)
      refine ⟨b, off, rfl, fun k hk => ?_⟩
      have hk' : k < l := by omega
      have h1 := hcell k (by omega)
      rw [add_plain] at h1
      rw [h1]
      have h2 := hb k (by omega)
      simp [List.getD, show k < zs.length by omega]
      omega
theorem open_piece {H : Type} {enc : TypeId × Value → H} {W : World} {base fuel : Nat} {cs : List Value} {d : DataW H} {p : List MemPlace} (h : DataW.trod enc Tryd.prog W base (fun _ => true) true fuel 62 cs = some (d, p)) (hbd : Rows.uptoBulk d ≤ 1048576) :
    ∃ (off ln : Nat) (ho : Bool) (ao : Option Addr) (cap : Nat) (l : List Nat), cs = [.int .u64 (off : Int), .int .u32 (ln : Int), .bool ho, .slice ao l.length cap] ∧ off < 18446744073709551616 ∧ ln < 4294967296 ∧ CRow W ao cap l ∧ l.length ≤ 1048576 := by
  obtain ⟨xs, n, rfl, hx, hl, hxl, hall⟩ := DataW.trod_struct Tryd.underlying62 h
  have hl' : cs.length = 4 := hl.trans (by kernel_rfl)
  have h0 := hall 0 _ rfl
  obtain ⟨⟨y0, yp0⟩, hy0⟩ : ∃ y, xs[0]? = some y := ⟨_, List.getElem?_eq_getElem (by rw [hxl]; decide)⟩
  have k0 : Tryd.prog.cellsOf 26 = 1 := by kernel_rfl
  simp only [k0, hy0] at h0
  obtain ⟨i0, e0, _, w0⟩ := DataW.trod_int Tryd.underlying26 h0
  obtain ⟨z0, rfl⟩ := Int.eq_ofNat_of_zero_le (bounds_u64 w0).1
  have b0 := (bounds_u64 w0).2
  have t0 := take1 e0
  have h1 := hall 1 _ rfl
  obtain ⟨⟨y1, yp1⟩, hy1⟩ : ∃ y, xs[1]? = some y := ⟨_, List.getElem?_eq_getElem (by rw [hxl]; decide)⟩
  have k1 : Tryd.prog.cellsOf 30 = 1 := by kernel_rfl
  simp only [k1, hy1] at h1
  obtain ⟨i1, e1, _, w1⟩ := DataW.trod_int Tryd.underlying30 h1
  obtain ⟨z1, rfl⟩ := Int.eq_ofNat_of_zero_le (bounds_u32 w1).1
  have b1 := (bounds_u32 w1).2
  have t1 := take1 e1
  have h2 := hall 2 _ rfl
  obtain ⟨⟨y2, yp2⟩, hy2⟩ : ∃ y, xs[2]? = some y := ⟨_, List.getElem?_eq_getElem (by rw [hxl]; decide)⟩
  have k2 : Tryd.prog.cellsOf 4 = 1 := by kernel_rfl
  simp only [k2, hy2] at h2
  obtain ⟨z2, e2, _⟩ := DataW.trod_bool Tryd.underlying4 h2
  have t2 := take1 e2
  have h3 := hall 3 _ rfl
  obtain ⟨⟨y3, yp3⟩, hy3⟩ : ∃ y, xs[3]? = some y := ⟨_, List.getElem?_eq_getElem (by rw [hxl]; decide)⟩
  have k3 : Tryd.prog.cellsOf 27 = 1 := by kernel_rfl
  simp only [k3, hy3] at h3
  have hbd3 : Rows.uptoBulk y3 ≤ 1048576 := by
    have e := (Prod.mk.inj hx).1
    have m1 : y3 ∈ xs.map (·.1) := List.mem_map.2 ⟨(y3, yp3), List.mem_of_getElem? hy3, rfl⟩
    have b := bulk_le_all m1
    rw [e] at hbd
    simp only [Rows.uptoBulk] at hbd
    omega
  obtain ⟨a3, c3, l3, e3, g3⟩ := open_bytes12 h3 hbd3
  have t3 := take1 e3
  refine ⟨z0, z1, z2, a3, c3, l3, ?_, by omega, by omega, g3.1, by have := g3.2; omega⟩
  · apply List.ext_getElem?
    intro i
    match i with
    | 0 => exact t0
    | 1 => exact t1
    | 2 => exact t2
    | 3 => exact t3
    | i + 4 => rw [List.getElem?_eq_none (by omega)]; rfl
theorem open_run {H : Type} {enc : TypeId × Value → H} {W : World} {base fuel : Nat} {cs : List Value} {d : DataW H} {p : List MemPlace} (h : DataW.trod enc Tryd.prog W base (fun _ => true) true fuel 87 cs = some (d, p)) (hbd : Rows.uptoBulk d ≤ 1048576) :
    ∃ (a b : Nat), cs = [.int .u64 (a : Int), .int .u64 (b : Int)] ∧ a < 18446744073709551616 ∧ b < 18446744073709551616 := by
  obtain ⟨xs, n, rfl, hx, hl, hxl, hall⟩ := DataW.trod_struct Tryd.underlying87 h
  have hl' : cs.length = 2 := hl.trans (by kernel_rfl)
  have h0 := hall 0 _ rfl
  obtain ⟨⟨y0, yp0⟩, hy0⟩ : ∃ y, xs[0]? = some y := ⟨_, List.getElem?_eq_getElem (by rw [hxl]; decide)⟩
  have k0 : Tryd.prog.cellsOf 26 = 1 := by kernel_rfl
  simp only [k0, hy0] at h0
  obtain ⟨i0, e0, _, w0⟩ := DataW.trod_int Tryd.underlying26 h0
  obtain ⟨z0, rfl⟩ := Int.eq_ofNat_of_zero_le (bounds_u64 w0).1
  have b0 := (bounds_u64 w0).2
  have t0 := take1 e0
  have h1 := hall 1 _ rfl
  obtain ⟨⟨y1, yp1⟩, hy1⟩ : ∃ y, xs[1]? = some y := ⟨_, List.getElem?_eq_getElem (by rw [hxl]; decide)⟩
  have k1 : Tryd.prog.cellsOf 26 = 1 := by kernel_rfl
  simp only [k1, hy1] at h1
  obtain ⟨i1, e1, _, w1⟩ := DataW.trod_int Tryd.underlying26 h1
  obtain ⟨z1, rfl⟩ := Int.eq_ofNat_of_zero_le (bounds_u64 w1).1
  have b1 := (bounds_u64 w1).2
  have t1 := take1 e1
  refine ⟨z0, z1, ?_, by omega, by omega⟩
  · apply List.ext_getElem?
    intro i
    match i with
    | 0 => exact t0
    | 1 => exact t1
    | i + 2 => rw [List.getElem?_eq_none (by omega)]; rfl
theorem open_pieces {H : Type} {enc : TypeId × Value → H} {W : World} {base fuel : Nat} {cs : List Value} {d : DataW H} {p : List MemPlace} (h : DataW.trod enc Tryd.prog W base (fun _ => true) true fuel 31 cs = some (d, p)) (hbd : Rows.uptoBulk d ≤ 1048576) :
    ∃ (ao : Option Addr) (cap : Nat) (l : List Pc), cs = [.slice ao l.length cap] ∧ (PRow W ao l ∧ (∀ o ∈ l, ∃ m : List Nat, m.length = o.n ∧ m.length ≤ 1048576 ∧ CRow W o.ao o.cap m)) ∧ l.length ≤ cap ∧ cap ≤ 9223372036854775807 := by
  rcases open_slice Tryd.underlying31 h with ⟨hcs, _⟩ | ⟨x, len, cap, m, n, D, Pl, hcs, _, hl, hm, hmm, hx, hel⟩
  · exact ⟨none, 0, [], hcs, ⟨⟨by simp, by simp, fun h => absurd rfl h⟩, by simp⟩, by simp, by simp⟩
  · have hmc : m = cap := by simpa using hmm
    have hd : d = .slice ((List.range len).map D) ((List.range (m - len)).map fun j => D (len + j)) := (Prod.mk.inj hx).1
    have hlen : len ≤ 1048576 := by
      have b1 := bulk_slice ((List.range len).map D) ((List.range (m - len)).map fun j => D (len + j))
      have b2 := length_le_bulk ((List.range len).map D)
      rw [← hd] at b1
      simp at b2
      omega
    have cOp : Tryd.prog.cellsOf 62 = 4 := by kernel_rfl
    have hel' : ∀ i, ∃ o : Pc, (o.ok ∧ ∃ m : List Nat, m.length = o.n ∧ m.length ≤ 1048576 ∧ CRow W o.ao o.cap m) ∧ (i < len → ∀ j, j < 4 → W.cell? ((x.add (i * 4)).add j) = o.cells[j]?) := by
      intro i
      by_cases hi : i < len
      · obtain ⟨cs', hc1, hc2⟩ := hel i (by omega)
        rw [cOp] at hc1
        have hbi : Rows.uptoBulk (D i) ≤ 1048576 := by
          have b1 := bulk_slice ((List.range len).map D) ((List.range (m - len)).map fun j => D (len + j))
          have b2 := bulk_le_all (List.mem_map_of_mem (f := D) (List.mem_range.2 hi))
          rw [← hd] at b1
          omega
        obtain ⟨x0, x1, x2, a3, c3, ms, rfl, h0, h1, hcr, hml⟩ := open_piece hc2 hbi
        refine ⟨⟨x0, x1, x2, a3, ms.length, c3⟩, ⟨⟨h0, h1, by simp; omega⟩, ms, rfl, by omega, hcr⟩, fun _ j hj => ?_⟩
        have h1 := (World.cells?_some hc1).2.2 j hj
        rw [h1]
        rcases (show j = 0 ∨ j = 1 ∨ j = 2 ∨ j = 3 by omega) with rfl | rfl | rfl | rfl <;> rfl
      · exact ⟨⟨0, 0, false, none, 0, 0⟩, ⟨⟨by simp, by simp, by simp⟩, [], rfl, by simp, ⟨⟨by simp, by simp, fun _ => ⟨rfl, rfl⟩, fun h => absurd rfl h⟩, by simp, by decide⟩⟩, fun h => absurd h hi⟩
    obtain ⟨T, hT⟩ := Classical.axiomOfChoice hel'
    have hml : maxLen = 9223372036854775807 := by decide
    refine ⟨some x, cap, (List.range len).map T, by rw [hcs]; simp, ⟨⟨fun o ho => ?_, by simpa using hlen, fun hne => ?_⟩, fun o ho => ?_⟩, by simpa using hl, by omega⟩
    · obtain ⟨i, _, rfl⟩ := List.mem_map.1 ho
      exact (hT i).1.1
    · have h0 : 0 < len := by
        rcases Nat.eq_zero_or_pos len with h | h
        · subst h; simp at hne
        · exact h
      obtain ⟨pb, po, rfl⟩ : ∃ pb po, x = ⟨pb, po, none⟩ := by
        have h1 := (hT 0).2 h0 0 (by decide)
        have h2 := World.cell?_spot (show W.cell? ((x.add (0 * 4)).add 0) = some _ from h1)
        obtain ⟨b, off, spot⟩ := x
        have : spot = none := by simpa [Addr.add] using h2
        exact ⟨b, off, by rw [this]⟩
      refine ⟨pb, po, rfl, fun k hk j hj => ?_⟩
      have hk2 : k < len := by simpa using hk
      have h1 := (hT k).2 hk2 j hj
      rw [add_plain, add_plain] at h1
      simpa using h1
    · obtain ⟨i, _, rfl⟩ := List.mem_map.1 ho
      exact (hT i).1.2
theorem open_runs {H : Type} {enc : TypeId × Value → H} {W : World} {base fuel : Nat} {cs : List Value} {d : DataW H} {p : List MemPlace} (h : DataW.trod enc Tryd.prog W base (fun _ => true) true fuel 85 cs = some (d, p)) (hbd : Rows.uptoBulk d ≤ 1048576) :
    ∃ (ao : Option Addr) (cap : Nat) (l : List Rn), cs = [.slice ao l.length cap] ∧ RuRow W ao l ∧ l.length ≤ cap ∧ cap ≤ 9223372036854775807 := by
  rcases open_slice Tryd.underlying85 h with ⟨hcs, _⟩ | ⟨x, len, cap, m, n, D, Pl, hcs, _, hl, hm, hmm, hx, hel⟩
  · exact ⟨none, 0, [], hcs, ⟨by simp, by simp, fun h => absurd rfl h⟩, by simp, by simp⟩
  · have hmc : m = cap := by simpa using hmm
    have hd : d = .slice ((List.range len).map D) ((List.range (m - len)).map fun j => D (len + j)) := (Prod.mk.inj hx).1
    have hlen : len ≤ 1048576 := by
      have b1 := bulk_slice ((List.range len).map D) ((List.range (m - len)).map fun j => D (len + j))
      have b2 := length_le_bulk ((List.range len).map D)
      rw [← hd] at b1
      simp at b2
      omega
    have cOp : Tryd.prog.cellsOf 87 = 2 := by kernel_rfl
    have hel' : ∀ i, ∃ o : Rn, (o.ok) ∧ (i < len → ∀ j, j < 2 → W.cell? ((x.add (i * 2)).add j) = o.cells[j]?) := by
      intro i
      by_cases hi : i < len
      · obtain ⟨cs', hc1, hc2⟩ := hel i (by omega)
        rw [cOp] at hc1
        have hbi : Rows.uptoBulk (D i) ≤ 1048576 := by
          have b1 := bulk_slice ((List.range len).map D) ((List.range (m - len)).map fun j => D (len + j))
          have b2 := bulk_le_all (List.mem_map_of_mem (f := D) (List.mem_range.2 hi))
          rw [← hd] at b1
          omega
        obtain ⟨x0, x1, rfl, h0, h1⟩ := open_run hc2 hbi
        refine ⟨⟨x0, x1⟩, ⟨h0, h1⟩, fun _ j hj => ?_⟩
        have h1 := (World.cells?_some hc1).2.2 j hj
        rw [h1]
        rcases (show j = 0 ∨ j = 1 by omega) with rfl | rfl <;> rfl
      · exact ⟨⟨0, 0⟩, ⟨by simp, by simp⟩, fun h => absurd h hi⟩
    obtain ⟨T, hT⟩ := Classical.axiomOfChoice hel'
    have hml : maxLen = 9223372036854775807 := by decide
    refine ⟨some x, cap, (List.range len).map T, by rw [hcs]; simp, ⟨fun o ho => ?_, by simpa using hlen, fun hne => ?_⟩, by simpa using hl, by omega⟩
    · obtain ⟨i, _, rfl⟩ := List.mem_map.1 ho
      exact (hT i).1
    · have h0 : 0 < len := by
        rcases Nat.eq_zero_or_pos len with h | h
        · subst h; simp at hne
        · exact h
      obtain ⟨pb, po, rfl⟩ : ∃ pb po, x = ⟨pb, po, none⟩ := by
        have h1 := (hT 0).2 h0 0 (by decide)
        have h2 := World.cell?_spot (show W.cell? ((x.add (0 * 2)).add 0) = some _ from h1)
        obtain ⟨b, off, spot⟩ := x
        have : spot = none := by simpa [Addr.add] using h2
        exact ⟨b, off, by rw [this]⟩
      refine ⟨pb, po, rfl, fun k hk j hj => ?_⟩
      have hk2 : k < len := by simpa using hk
      have h1 := (hT k).2 hk2 j hj
      rw [add_plain, add_plain] at h1
      simpa using h1
theorem open_lists {H : Type} {enc : TypeId × Value → H} {W : World} {base fuel : Nat} {cs : List Value} {d : DataW H} {p : List MemPlace} (h : DataW.trod enc Tryd.prog W base (fun _ => true) true fuel 32 cs = some (d, p)) (hbd : Rows.uptoBulk d ≤ 1048576) :
    ∃ (ao : Option Addr) (cap : Nat) (l : List Ls), cs = [.slice ao l.length cap] ∧ LRow W ao l ∧ l.length ≤ cap ∧ cap ≤ 9223372036854775807 := by
  rcases open_slice Tryd.underlying32 h with ⟨hcs, _⟩ | ⟨x, len, cap, m, n, D, Pl, hcs, _, hl, hm, hmm, hx, hel⟩
  · exact ⟨none, 0, [], hcs, ⟨by simp, by simp, fun h => absurd rfl h⟩, by simp, by simp⟩
  · have hmc : m = cap := by simpa using hmm
    have hd : d = .slice ((List.range len).map D) ((List.range (m - len)).map fun j => D (len + j)) := (Prod.mk.inj hx).1
    have hlen : len ≤ 1048576 := by
      have b1 := bulk_slice ((List.range len).map D) ((List.range (m - len)).map fun j => D (len + j))
      have b2 := length_le_bulk ((List.range len).map D)
      rw [← hd] at b1
      simp at b2
      omega
    have cOp : Tryd.prog.cellsOf 85 = 1 := by kernel_rfl
    have hel' : ∀ i, ∃ o : Ls, (RuRow W o.ao o.l ∧ o.l.length ≤ o.cap ∧ o.cap ≤ 9223372036854775807) ∧ (i < len → ∀ j, j < 1 → W.cell? ((x.add (i * 1)).add j) = (#[.slice o.ao o.l.length o.cap] : Array Value)[j]?) := by
      intro i
      by_cases hi : i < len
      · obtain ⟨cs', hc1, hc2⟩ := hel i (by omega)
        rw [cOp] at hc1
        have hbi : Rows.uptoBulk (D i) ≤ 1048576 := by
          have b1 := bulk_slice ((List.range len).map D) ((List.range (m - len)).map fun j => D (len + j))
          have b2 := bulk_le_all (List.mem_map_of_mem (f := D) (List.mem_range.2 hi))
          rw [← hd] at b1
          omega
        obtain ⟨a3, c3, ms, rfl, hr, h1, h2⟩ := open_runs hc2 hbi
        refine ⟨⟨a3, c3, ms⟩, ⟨hr, h1, h2⟩, fun _ j hj => ?_⟩
        have h1 := (World.cells?_some hc1).2.2 j hj
        rw [h1]
        rcases (show j = 0 by omega) with rfl; rfl
      · exact ⟨⟨none, 0, []⟩, ⟨⟨by simp, by simp, fun h => absurd rfl h⟩, by simp, by simp⟩, fun h => absurd h hi⟩
    obtain ⟨T, hT⟩ := Classical.axiomOfChoice hel'
    have hml : maxLen = 9223372036854775807 := by decide
    refine ⟨some x, cap, (List.range len).map T, by rw [hcs]; simp, ⟨fun o ho => ?_, by simpa using hlen, fun hne => ?_⟩, by simpa using hl, by omega⟩
    · obtain ⟨i, _, rfl⟩ := List.mem_map.1 ho
      exact (hT i).1
    · have h0 : 0 < len := by
        rcases Nat.eq_zero_or_pos len with h | h
        · subst h; simp at hne
        · exact h
      obtain ⟨pb, po, rfl⟩ : ∃ pb po, x = ⟨pb, po, none⟩ := by
        have h1 := (hT 0).2 h0 0 (by decide)
        have h2 := World.cell?_spot (show W.cell? ((x.add (0 * 1)).add 0) = some _ from h1)
        obtain ⟨b, off, spot⟩ := x
        have : spot = none := by simpa [Addr.add] using h2
        exact ⟨b, off, by rw [this]⟩
      refine ⟨pb, po, rfl, fun k hk => ?_⟩
      have hk2 : k < len := by simpa using hk
      have h1 := (hT k).2 hk2 0 (by decide)
      rw [add_plain, add_plain] at h1
      simpa using h1
theorem open_ses {H : Type} {enc : TypeId × Value → H} {W : World} {base fuel : Nat} {cs : List Value} {d : DataW H} {p : List MemPlace} (h : DataW.trod enc Tryd.prog W base (fun _ => true) true fuel 24 cs = some (d, p)) (hbd : Rows.uptoBulk d ≤ 1048576) :
    ∃ (ix : Int) (st ex : Bool) (co : Option Addr) (cc : Nat) (C : List Nat), cs = [.int .i64 ix, .bool st, .bool ex, .slice co C.length cc] ∧ URow W co C := by
  obtain ⟨xs, n, rfl, hx, hl, hxl, hall⟩ := DataW.trod_struct Tryd.underlying24 h
  have hl' : cs.length = 4 := hl.trans (by kernel_rfl)
  have h0 := hall 0 _ rfl
  obtain ⟨⟨y0, yp0⟩, hy0⟩ : ∃ y, xs[0]? = some y := ⟨_, List.getElem?_eq_getElem (by rw [hxl]; decide)⟩
  have k0 : Tryd.prog.cellsOf 3 = 1 := by kernel_rfl
  simp only [k0, hy0] at h0
  obtain ⟨z0, e0, _, w0⟩ := DataW.trod_int Tryd.underlying3 h0
  have t0 := take1 e0
  have h1 := hall 1 _ rfl
  obtain ⟨⟨y1, yp1⟩, hy1⟩ : ∃ y, xs[1]? = some y := ⟨_, List.getElem?_eq_getElem (by rw [hxl]; decide)⟩
  have k1 : Tryd.prog.cellsOf 4 = 1 := by kernel_rfl
  simp only [k1, hy1] at h1
  obtain ⟨z1, e1, _⟩ := DataW.trod_bool Tryd.underlying4 h1
  have t1 := take1 e1
  have h2 := hall 2 _ rfl
  obtain ⟨⟨y2, yp2⟩, hy2⟩ : ∃ y, xs[2]? = some y := ⟨_, List.getElem?_eq_getElem (by rw [hxl]; decide)⟩
  have k2 : Tryd.prog.cellsOf 4 = 1 := by kernel_rfl
  simp only [k2, hy2] at h2
  obtain ⟨z2, e2, _⟩ := DataW.trod_bool Tryd.underlying4 h2
  have t2 := take1 e2
  have h3 := hall 3 _ rfl
  obtain ⟨⟨y3, yp3⟩, hy3⟩ : ∃ y, xs[3]? = some y := ⟨_, List.getElem?_eq_getElem (by rw [hxl]; decide)⟩
  have k3 : Tryd.prog.cellsOf 22 = 1 := by kernel_rfl
  simp only [k3, hy3] at h3
  have hbd3 : Rows.uptoBulk y3 ≤ 1048576 := by
    have e := (Prod.mk.inj hx).1
    have m1 : y3 ∈ xs.map (·.1) := List.mem_map.2 ⟨(y3, yp3), List.mem_of_getElem? hy3, rfl⟩
    have b := bulk_le_all m1
    rw [e] at hbd
    simp only [Rows.uptoBulk] at hbd
    omega
  obtain ⟨a3, c3, l3, e3, g3⟩ := open_u32s h3 hbd3
  have t3 := take1 e3
  refine ⟨z0, z1, z2, a3, c3, l3, ?_, g3⟩
  · apply List.ext_getElem?
    intro i
    match i with
    | 0 => exact t0
    | 1 => exact t1
    | 2 => exact t2
    | 3 => exact t3
    | i + 4 => rw [List.getElem?_eq_none (by omega)]; rfl
theorem open_req {H : Type} {enc : TypeId × Value → H} {W : World} {base fuel : Nat} {cs : List Value} {d : DataW H} {p : List MemPlace} (h : DataW.trod enc Tryd.prog W base (fun _ => true) true fuel 29 cs = some (d, p)) (hbd : Rows.uptoBulk d ≤ 1048576) :
    ∃ (fl ty ck of ln : Nat) (ao : Option Addr) (cap : Nat) (l : List Nat), cs = [.int .u16 (fl : Int), .int .u16 (ty : Int), .int .u64 (ck : Int), .int .u64 (of : Int), .int .u64 (ln : Int), .slice ao l.length cap] ∧ fl < 65536 ∧ ty < 65536 ∧ ck < 18446744073709551616 ∧ of < 18446744073709551616 ∧ ln < 18446744073709551616 ∧ CRow W ao cap l := by
  obtain ⟨xs, n, rfl, hx, hl, hxl, hall⟩ := DataW.trod_struct Tryd.underlying29 h
  have hl' : cs.length = 6 := hl.trans (by kernel_rfl)
  have h0 := hall 0 _ rfl
  obtain ⟨⟨y0, yp0⟩, hy0⟩ : ∃ y, xs[0]? = some y := ⟨_, List.getElem?_eq_getElem (by rw [hxl]; decide)⟩
  have k0 : Tryd.prog.cellsOf 25 = 1 := by kernel_rfl
  simp only [k0, hy0] at h0
  obtain ⟨i0, e0, _, w0⟩ := DataW.trod_int Tryd.underlying25 h0
  obtain ⟨z0, rfl⟩ := Int.eq_ofNat_of_zero_le (bounds_u16 w0).1
  have b0 := (bounds_u16 w0).2
  have t0 := take1 e0
  have h1 := hall 1 _ rfl
  obtain ⟨⟨y1, yp1⟩, hy1⟩ : ∃ y, xs[1]? = some y := ⟨_, List.getElem?_eq_getElem (by rw [hxl]; decide)⟩
  have k1 : Tryd.prog.cellsOf 25 = 1 := by kernel_rfl
  simp only [k1, hy1] at h1
  obtain ⟨i1, e1, _, w1⟩ := DataW.trod_int Tryd.underlying25 h1
  obtain ⟨z1, rfl⟩ := Int.eq_ofNat_of_zero_le (bounds_u16 w1).1
  have b1 := (bounds_u16 w1).2
  have t1 := take1 e1
  have h2 := hall 2 _ rfl
  obtain ⟨⟨y2, yp2⟩, hy2⟩ : ∃ y, xs[2]? = some y := ⟨_, List.getElem?_eq_getElem (by rw [hxl]; decide)⟩
  have k2 : Tryd.prog.cellsOf 26 = 1 := by kernel_rfl
  simp only [k2, hy2] at h2
  obtain ⟨i2, e2, _, w2⟩ := DataW.trod_int Tryd.underlying26 h2
  obtain ⟨z2, rfl⟩ := Int.eq_ofNat_of_zero_le (bounds_u64 w2).1
  have b2 := (bounds_u64 w2).2
  have t2 := take1 e2
  have h3 := hall 3 _ rfl
  obtain ⟨⟨y3, yp3⟩, hy3⟩ : ∃ y, xs[3]? = some y := ⟨_, List.getElem?_eq_getElem (by rw [hxl]; decide)⟩
  have k3 : Tryd.prog.cellsOf 26 = 1 := by kernel_rfl
  simp only [k3, hy3] at h3
  obtain ⟨i3, e3, _, w3⟩ := DataW.trod_int Tryd.underlying26 h3
  obtain ⟨z3, rfl⟩ := Int.eq_ofNat_of_zero_le (bounds_u64 w3).1
  have b3 := (bounds_u64 w3).2
  have t3 := take1 e3
  have h4 := hall 4 _ rfl
  obtain ⟨⟨y4, yp4⟩, hy4⟩ : ∃ y, xs[4]? = some y := ⟨_, List.getElem?_eq_getElem (by rw [hxl]; decide)⟩
  have k4 : Tryd.prog.cellsOf 26 = 1 := by kernel_rfl
  simp only [k4, hy4] at h4
  obtain ⟨i4, e4, _, w4⟩ := DataW.trod_int Tryd.underlying26 h4
  obtain ⟨z4, rfl⟩ := Int.eq_ofNat_of_zero_le (bounds_u64 w4).1
  have b4 := (bounds_u64 w4).2
  have t4 := take1 e4
  have h5 := hall 5 _ rfl
  obtain ⟨⟨y5, yp5⟩, hy5⟩ : ∃ y, xs[5]? = some y := ⟨_, List.getElem?_eq_getElem (by rw [hxl]; decide)⟩
  have k5 : Tryd.prog.cellsOf 27 = 1 := by kernel_rfl
  simp only [k5, hy5] at h5
  have hbd5 : Rows.uptoBulk y5 ≤ 1048576 := by
    have e := (Prod.mk.inj hx).1
    have m1 : y5 ∈ xs.map (·.1) := List.mem_map.2 ⟨(y5, yp5), List.mem_of_getElem? hy5, rfl⟩
    have b := bulk_le_all m1
    rw [e] at hbd
    simp only [Rows.uptoBulk] at hbd
    omega
  obtain ⟨a5, c5, l5, e5, g5⟩ := open_bytes12 h5 hbd5
  have t5 := take1 e5
  refine ⟨z0, z1, z2, z3, z4, a5, c5, l5, ?_, by omega, by omega, by omega, by omega, by omega, g5.1⟩
  · apply List.ext_getElem?
    intro i
    match i with
    | 0 => exact t0
    | 1 => exact t1
    | 2 => exact t2
    | 3 => exact t3
    | 4 => exact t4
    | 5 => exact t5
    | i + 6 => rw [List.getElem?_eq_none (by omega)]; rfl
theorem open_out {H : Type} {enc : TypeId × Value → H} {W : World} {base fuel : Nat} {cs : List Value} {d : DataW H} {p : List MemPlace} (h : DataW.trod enc Tryd.prog W base (fun _ => true) true fuel 34 cs = some (d, p)) (hbd : Rows.uptoBulk d ≤ 1048576) :
    ∃ (co : Nat) (pl : Bool) (at_ : Nat) (po : Option Addr) (pc : Nat) (P : List Pc) (lo : Option Addr) (lc : Nat) (L : List Ls), cs = [.int .u32 (co : Int), .bool pl, .int .u64 (at_ : Int), .slice po P.length pc, .slice lo L.length lc] ∧ co < 4294967296 ∧ at_ < 18446744073709551616 ∧ PRow W po P ∧ (∀ o ∈ P, ∃ m : List Nat, m.length = o.n ∧ m.length ≤ 1048576 ∧ CRow W o.ao o.cap m) ∧ P.length ≤ pc ∧ pc ≤ 9223372036854775807 ∧ LRow W lo L ∧ L.length ≤ lc ∧ lc ≤ 9223372036854775807 := by
  obtain ⟨xs, n, rfl, hx, hl, hxl, hall⟩ := DataW.trod_struct Tryd.underlying34 h
  have hl' : cs.length = 5 := hl.trans (by kernel_rfl)
  have h0 := hall 0 _ rfl
  obtain ⟨⟨y0, yp0⟩, hy0⟩ : ∃ y, xs[0]? = some y := ⟨_, List.getElem?_eq_getElem (by rw [hxl]; decide)⟩
  have k0 : Tryd.prog.cellsOf 30 = 1 := by kernel_rfl
  simp only [k0, hy0] at h0
  obtain ⟨i0, e0, _, w0⟩ := DataW.trod_int Tryd.underlying30 h0
  obtain ⟨z0, rfl⟩ := Int.eq_ofNat_of_zero_le (bounds_u32 w0).1
  have b0 := (bounds_u32 w0).2
  have t0 := take1 e0
  have h1 := hall 1 _ rfl
  obtain ⟨⟨y1, yp1⟩, hy1⟩ : ∃ y, xs[1]? = some y := ⟨_, List.getElem?_eq_getElem (by rw [hxl]; decide)⟩
  have k1 : Tryd.prog.cellsOf 4 = 1 := by kernel_rfl
  simp only [k1, hy1] at h1
  obtain ⟨z1, e1, _⟩ := DataW.trod_bool Tryd.underlying4 h1
  have t1 := take1 e1
  have h2 := hall 2 _ rfl
  obtain ⟨⟨y2, yp2⟩, hy2⟩ : ∃ y, xs[2]? = some y := ⟨_, List.getElem?_eq_getElem (by rw [hxl]; decide)⟩
  have k2 : Tryd.prog.cellsOf 26 = 1 := by kernel_rfl
  simp only [k2, hy2] at h2
  obtain ⟨i2, e2, _, w2⟩ := DataW.trod_int Tryd.underlying26 h2
  obtain ⟨z2, rfl⟩ := Int.eq_ofNat_of_zero_le (bounds_u64 w2).1
  have b2 := (bounds_u64 w2).2
  have t2 := take1 e2
  have h3 := hall 3 _ rfl
  obtain ⟨⟨y3, yp3⟩, hy3⟩ : ∃ y, xs[3]? = some y := ⟨_, List.getElem?_eq_getElem (by rw [hxl]; decide)⟩
  have k3 : Tryd.prog.cellsOf 31 = 1 := by kernel_rfl
  simp only [k3, hy3] at h3
  have hbd3 : Rows.uptoBulk y3 ≤ 1048576 := by
    have e := (Prod.mk.inj hx).1
    have m1 : y3 ∈ xs.map (·.1) := List.mem_map.2 ⟨(y3, yp3), List.mem_of_getElem? hy3, rfl⟩
    have b := bulk_le_all m1
    rw [e] at hbd
    simp only [Rows.uptoBulk] at hbd
    omega
  obtain ⟨a3, c3, l3, e3, g3⟩ := open_pieces h3 hbd3
  have t3 := take1 e3
  have h4 := hall 4 _ rfl
  obtain ⟨⟨y4, yp4⟩, hy4⟩ : ∃ y, xs[4]? = some y := ⟨_, List.getElem?_eq_getElem (by rw [hxl]; decide)⟩
  have k4 : Tryd.prog.cellsOf 32 = 1 := by kernel_rfl
  simp only [k4, hy4] at h4
  have hbd4 : Rows.uptoBulk y4 ≤ 1048576 := by
    have e := (Prod.mk.inj hx).1
    have m1 : y4 ∈ xs.map (·.1) := List.mem_map.2 ⟨(y4, yp4), List.mem_of_getElem? hy4, rfl⟩
    have b := bulk_le_all m1
    rw [e] at hbd
    simp only [Rows.uptoBulk] at hbd
    omega
  obtain ⟨a4, c4, l4, e4, g4⟩ := open_lists h4 hbd4
  have t4 := take1 e4
  refine ⟨z0, z1, z2, a3, c3, l3, a4, c4, l4, ?_, by omega, by omega, g3.1.1, g3.1.2, g3.2.1, g3.2.2, g4.1, g4.2.1, g4.2.2⟩
  · apply List.ext_getElem?
    intro i
    match i with
    | 0 => exact t0
    | 1 => exact t1
    | 2 => exact t2
    | 3 => exact t3
    | 4 => exact t4
    | i + 5 => rw [List.getElem?_eq_none (by omega)]; rfl
end Go.Proofs.YtefgdhoapmikhaaDoor
