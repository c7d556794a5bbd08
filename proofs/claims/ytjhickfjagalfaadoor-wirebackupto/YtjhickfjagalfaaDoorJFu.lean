import Derived.Test.YtjhickfjagalfaaDoorJFr
import Derived.Test.YtjhickfjagalfaaDoorBulkD
import Derived.Deep.Slices
namespace Go.Proofs.YtjhickfjagalfaaDoor
open Go.ChangeShapes Go.WideShapes Go.ChangeAt Go.RowKit Go.Lib
open Go.Deep
set_option linter.unusedVariables false
set_option linter.unusedSimpArgs false
set_option maxRecDepth 100000

theorem brow_ints (W : World) (x : Addr) (len cap : Nat) (zs : List Int) (hl : len ≤ zs.length) (hlen : len ≤ 140737488351232)
    (hcell : ∀ i, i < zs.length → W.cell? (x.add i) = some (.int .u8 (zs.getD i 0))) (hw : ∀ n ∈ zs, (Lit.int .u8 n).wf = true) :
    ∃ l : List Nat, l.length = len ∧ BRow W (some x) cap l := by
  have hb : ∀ i (hi : i < zs.length), 0 ≤ zs[i] ∧ zs[i] ≤ 255 := fun i hi => by
    have := bounds_u8 (hw _ (List.getElem_mem hi)); omega
  refine ⟨(zs.take len).map Int.toNat, by simp; omega, ⟨?_, by simp; omega, fun h => by simp at h, ?_⟩⟩
  · intro y hy
    obtain ⟨z, hz, rfl⟩ := List.mem_map.1 hy
    have hz' := List.mem_of_mem_take hz
    have := bounds_u8 (hw z hz'); omega
  · intro hne
    have hpos : 0 < len := by
      rcases Nat.eq_zero_or_pos len with h | h
      · subst h; simp at hne
      · exact h
    obtain ⟨b, off, rfl, hc⟩ := ints_at hcell (by omega)
    refine ⟨b, off, rfl, fun k hk => ?_⟩
    have hk' : k < len := by simp at hk; omega
    have h1 := hcell k (by omega)
    rw [add_plain] at h1
    rw [h1]
    have h2 := hb k (by omega)
    simp [bv, show k < zs.length by omega]
    omega

/-- a []byte that was read, in a slot or in a cell: its bytes -/
theorem open_bytes {H : Type} {enc : TypeId × Value → H} {W : World} {base fuel : Nat} {cs : List Value} {d : DataW H} {p : List MemPlace} (hf : DataW.trod enc Tryd.prog W base (fun _ => true) true fuel 37 cs = some (d, p)) (hb : Rows.uptoBulk d ≤ 1048576) :
    ∃ (ao : Option Addr) (cap : Nat) (l : List Nat), cs = [.slice ao l.length cap] ∧ BRow W ao cap l ∧ l.length + 1 ≤ Rows.uptoBulk d := by
  rcases open_ints Tryd.underlying37 Tryd.underlying5 (by kernel_rfl) hf with ⟨hcs, hx⟩ | ⟨x, l, c, zs, hcs, _, hl, hm, hz, hx, hcell, hwz⟩
  · have hd : d = .nil := (Prod.mk.inj hx).1
    exact ⟨none, 0, [], hcs, ⟨by simp, by simp, fun _ => ⟨rfl, rfl⟩, fun h => absurd rfl h⟩, by rw [hd]; simp [Rows.uptoBulk]⟩
  · have hd : d = .slice (lits .u8 (zs.take l)) (lits .u8 (zs.drop l)) := (Prod.mk.inj hx).1
    have hz' : zs.length = c := by simpa using hz
    have hsl := bulk_slice (lits (H := H) .u8 (zs.take l)) (lits .u8 (zs.drop l))
    have hs1 := length_le_bulk (lits (H := H) .u8 (zs.take l))
    have hs2 := length_le_bulk (lits (H := H) .u8 (zs.drop l))
    rw [← hd] at hsl
    simp only [lits, List.length_map, List.length_take, List.length_drop] at hsl hs1 hs2
    obtain ⟨m, hm1, hm2⟩ := brow_ints W x l c zs (by omega) (by omega) hcell hwz
    subst hm1
    exact ⟨some x, c, m, hcs, hm2, by omega⟩

theorem open_gre {H : Type} {enc : TypeId × Value → H} {w : World} {base : Nat} {sp : Nat → Bool} {held : Bool} {fuel : Nat} {cs : List Value} {x : DataW H × List MemPlace} (h : DataW.trod enc Tryd.prog w base sp held fuel 31 cs = some x) : ∃ x0 : Nat, cs = [.int .u16 (x0 : Int)] ∧ x0 < 65536 := by
  obtain ⟨xs, n, rfl, hx, hl, hxl, hall⟩ := DataW.trod_struct Tryd.underlying31 h
  have hl' : cs.length = 1 := hl.trans (by kernel_rfl)
  have h0 := hall 0 _ rfl
  obtain ⟨y0, hy0⟩ : ∃ y, xs[0]? = some y := ⟨_, List.getElem?_eq_getElem (by rw [hxl]; decide)⟩
  have c0 : Tryd.prog.cellsOf 29 = 1 := by kernel_rfl
  simp only [c0, hy0] at h0
  obtain ⟨a0, e0, _, w0⟩ := DataW.trod_int Tryd.underlying29 h0
  obtain ⟨n0, rfl⟩ := Int.eq_ofNat_of_zero_le (bounds_u16 w0).1
  have b0 := (bounds_u16 w0).2
  have z0 := take1 e0
  refine ⟨n0, ?_, by omega⟩
  apply List.ext_getElem?
  intro i
  match i with
  | 0 => exact z0
  | i + 1 => rw [List.getElem?_eq_none (by omega)]; rfl
theorem open_exp {H : Type} {enc : TypeId × Value → H} {w : World} {base : Nat} {sp : Nat → Bool} {held : Bool} {fuel : Nat} {cs : List Value} {x : DataW H × List MemPlace} (h : DataW.trod enc Tryd.prog w base sp held fuel 34 cs = some x) : ∃ x0 x1 : Nat, cs = [.int .u64 (x0 : Int), .int .u16 (x1 : Int)] ∧ x0 < 18446744073709551616 ∧ x1 < 65536 := by
  obtain ⟨xs, n, rfl, hx, hl, hxl, hall⟩ := DataW.trod_struct Tryd.underlying34 h
  have hl' : cs.length = 2 := hl.trans (by kernel_rfl)
  have h0 := hall 0 _ rfl
  obtain ⟨y0, hy0⟩ : ∃ y, xs[0]? = some y := ⟨_, List.getElem?_eq_getElem (by rw [hxl]; decide)⟩
  have c0 : Tryd.prog.cellsOf 32 = 1 := by kernel_rfl
  simp only [c0, hy0] at h0
  obtain ⟨a0, e0, _, w0⟩ := DataW.trod_int Tryd.underlying32 h0
  obtain ⟨n0, rfl⟩ := Int.eq_ofNat_of_zero_le (bounds_u64 w0).1
  have b0 := (bounds_u64 w0).2
  have z0 := take1 e0
  have h1 := hall 1 _ rfl
  obtain ⟨y1, hy1⟩ : ∃ y, xs[1]? = some y := ⟨_, List.getElem?_eq_getElem (by rw [hxl]; decide)⟩
  have c1 : Tryd.prog.cellsOf 29 = 1 := by kernel_rfl
  simp only [c1, hy1] at h1
  obtain ⟨a1, e1, _, w1⟩ := DataW.trod_int Tryd.underlying29 h1
  obtain ⟨n1, rfl⟩ := Int.eq_ofNat_of_zero_le (bounds_u16 w1).1
  have b1 := (bounds_u16 w1).2
  have z1 := take1 e1
  refine ⟨n0, n1, ?_, by omega, by omega⟩
  apply List.ext_getElem?
  intro i
  match i with
  | 0 => exact z0
  | 1 => exact z1
  | i + 2 => rw [List.getElem?_eq_none (by omega)]; rfl
theorem open_sim {H : Type} {enc : TypeId × Value → H} {w : World} {base : Nat} {sp : Nat → Bool} {held : Bool} {fuel : Nat} {cs : List Value} {x : DataW H × List MemPlace} (h : DataW.trod enc Tryd.prog w base sp held fuel 36 cs = some x) : ∃ x0 x1 : Nat, cs = [.int .u32 (x0 : Int), .int .u64 (x1 : Int)] ∧ x0 < 4294967296 ∧ x1 < 18446744073709551616 := by
  obtain ⟨xs, n, rfl, hx, hl, hxl, hall⟩ := DataW.trod_struct Tryd.underlying36 h
  have hl' : cs.length = 2 := hl.trans (by kernel_rfl)
  have h0 := hall 0 _ rfl
  obtain ⟨y0, hy0⟩ : ∃ y, xs[0]? = some y := ⟨_, List.getElem?_eq_getElem (by rw [hxl]; decide)⟩
  have c0 : Tryd.prog.cellsOf 22 = 1 := by kernel_rfl
  simp only [c0, hy0] at h0
  obtain ⟨a0, e0, _, w0⟩ := DataW.trod_int Tryd.underlying22 h0
  obtain ⟨n0, rfl⟩ := Int.eq_ofNat_of_zero_le (bounds_u32 w0).1
  have b0 := (bounds_u32 w0).2
  have z0 := take1 e0
  have h1 := hall 1 _ rfl
  obtain ⟨y1, hy1⟩ : ∃ y, xs[1]? = some y := ⟨_, List.getElem?_eq_getElem (by rw [hxl]; decide)⟩
  have c1 : Tryd.prog.cellsOf 32 = 1 := by kernel_rfl
  simp only [c1, hy1] at h1
  obtain ⟨a1, e1, _, w1⟩ := DataW.trod_int Tryd.underlying32 h1
  obtain ⟨n1, rfl⟩ := Int.eq_ofNat_of_zero_le (bounds_u64 w1).1
  have b1 := (bounds_u64 w1).2
  have z1 := take1 e1
  refine ⟨n0, n1, ?_, by omega, by omega⟩
  apply List.ext_getElem?
  intro i
  match i with
  | 0 => exact z0
  | 1 => exact z1
  | i + 2 => rw [List.getElem?_eq_none (by omega)]; rfl
end Go.Proofs.YtjhickfjagalfaaDoor
