import Derived.Test.YtefgdhoapmikhaaDoorRows
import Derived.Test.YtefgdhoapmikhaaDoorJI
import Derived.WalkKit
import Derived.ProofKit
import Derived.OpenShut
import Derived.ChangeOld
import Derived.SizedLaws
import Derived.JoinedCond
import Derived.Deep.Slices
import Derived.Test.YtefgdhoapmikhaaDoorRpM
import Derived.Test.YtefgdhoapmikhaaDoorCards
import Derived.Test.YtefgdhoapmikhaaDoorTie
import Derived.Lib.LaidTab
import Derived.Lib.LaidIn
import Derived.Lib.LaidU8T
import Derived.Deep.DeepHandedRow
import Derived.Deep.DeepWitnessRowRef
import Derived.PinnedBridge
import Derived.Test.YtefgdhoapmikhaaDoorRtT
namespace Go.Proofs.YtefgdhoapmikhaaDoor
open _root_.Go.Proofs.YtefgdhoapmikhaaDoor.Rows (uptoBulk uptoBulkAll uptoSmall)

theorem bulk_pos {H : Type} (d : DataW H) : 0 < uptoBulk d := by
  rcases d with l | _ | _ | _ | _ | _ | _ | _
  · cases l <;> simp [uptoBulk]
  all_goals simp [uptoBulk]
theorem bulkAll_append {H : Type} : ∀ l r : List (DataW H), uptoBulkAll (l ++ r) = uptoBulkAll l + uptoBulkAll r
  | [], r => by simp [uptoBulkAll]
  | d :: l, r => by simp only [List.cons_append, uptoBulkAll]; rw [bulkAll_append l r]; omega
theorem bulk_le_all {H : Type} {d : DataW H} {l : List (DataW H)} (h : d ∈ l) : uptoBulk d ≤ uptoBulkAll l := by
  obtain ⟨a, b, rfl⟩ := List.append_of_mem h
  rw [bulkAll_append]; simp only [uptoBulkAll]; omega
theorem length_le_bulk {H : Type} : ∀ l : List (DataW H), l.length ≤ uptoBulkAll l
  | [] => Nat.zero_le _
  | d :: l => by have := length_le_bulk l; have := bulk_pos d; simp only [uptoBulkAll, List.length_cons]; omega
theorem bulk_slice {H : Type} (es sp : List (DataW H)) : uptoBulk (.slice es sp) = uptoBulkAll es + uptoBulkAll sp + 1 := by simp [uptoBulk]
theorem bulk_bound {H : Type} {l : List (DataW H)} (h : uptoSmall H l = true) : uptoBulkAll l ≤ 1048576 := of_decide_eq_true h
end Go.Proofs.YtefgdhoapmikhaaDoor

namespace Go.Proofs.YtefgdhoapmikhaaDoor
open Go.ChangeShapes Go.WideShapes Go.ChangeAt Go.RowKit Go.Lib
open Go.Deep
set_option linter.unusedVariables false
set_option linter.unusedSimpArgs false
set_option maxRecDepth 100000

theorem own : ownKnob Tryd.prog.godebug = none := by kernel_rfl
theorem laidOut : laidOutB Tryd.prog = true := by kernel_rfl
theorem brow_ints (W : World) (x : Addr) (len cap : Nat) (zs : List Int) (hl : len ≤ zs.length) (hlen : len ≤ 140737488351232)
    (hcell : ∀ i, i < zs.length → W.cell? (x.add i) = some (.int .u8 (zs.getD i 0))) (hw : ∀ n ∈ zs, (Lit.int .u8 n).wf = true) :
    ∃ l : List Nat, l.length = len ∧ BRow W (some x) cap l := by
  have hb : ∀ i (hi : i < zs.length), 0 ≤ zs[i] ∧ zs[i] ≤ 255 := fun i hi => by
    have := bounds_u8 (hw _ (List.getElem_mem hi)); omega
  refine ⟨(zs.take len).map Int.toNat, by simp; omega, ⟨?_, by simp; omega, fun h => by simp at h, ?_⟩⟩
  · intro y hy
    obtain ⟨z, hz, rfl⟩ := List.mem_map.1 hy
    have hz' := List.mem_of_mem_take hz
    have := bounds_u8 (hw z hz'); omega
  · intro hne
    have hpos : 0 < len := by
      rcases Nat.eq_zero_or_pos len with h | h
      · subst h; simp at hne
      · exact h
    obtain ⟨b, off, rfl, hc⟩ := ints_at hcell (by omega)
    refine ⟨b, off, rfl, fun k hk => ?_⟩
    have hk' : k < len := by simp at hk; omega
    have h1 := hcell k (by omega)
    rw [add_plain] at h1
    rw [h1]
    have h2 := hb k (by omega)
    simp [bv, show k < zs.length by omega]
    omega
/-- a []byte that was read, in a slot or in a cell: its bytes -/
theorem open_bytesC {H : Type} {enc : TypeId × Value → H} {W : World} {base fuel : Nat} {cs : List Value} {d : DataW H} {p : List MemPlace} (hf : DataW.trod enc Tryd.prog W base (fun _ => true) true fuel 27 cs = some (d, p)) (hb : Rows.uptoBulk d ≤ 1048576) :
    ∃ (ao : Option Addr) (cap : Nat) (l : List Nat), cs = [.slice ao l.length cap] ∧ CRow W ao cap l ∧ l.length + 1 ≤ Rows.uptoBulk d := by
  rcases open_ints Tryd.underlying27 Tryd.underlying5 (by kernel_rfl) hf with ⟨hcs, hx⟩ | ⟨x, l, c, zs, hcs, _, hl, hm, hz, hx, hcell, hwz⟩
  · have hd : d = .nil := (Prod.mk.inj hx).1
    exact ⟨none, 0, [], hcs, ⟨⟨by simp, by simp, fun _ => ⟨rfl, rfl⟩, fun h => absurd rfl h⟩, by simp, by decide⟩, by rw [hd]; simp [Rows.uptoBulk]⟩
  · have hd : d = .slice (lits .u8 (zs.take l)) (lits .u8 (zs.drop l)) := (Prod.mk.inj hx).1
    have hz' : zs.length = c := by simpa using hz
    have hsl := bulk_slice (lits (H := H) .u8 (zs.take l)) (lits .u8 (zs.drop l))
    have hs1 := length_le_bulk (lits (H := H) .u8 (zs.take l))
    have hs2 := length_le_bulk (lits (H := H) .u8 (zs.drop l))
    rw [← hd] at hsl
    simp only [lits, List.length_map, List.length_take, List.length_drop] at hsl hs1 hs2
    obtain ⟨m, hm1, hm2⟩ := brow_ints W x l c zs (by omega) (by omega) hcell hwz
    subst hm1
    exact ⟨some x, c, m, hcs, ⟨hm2, by omega, by omega⟩, by omega⟩
end Go.Proofs.YtefgdhoapmikhaaDoor

namespace Go.Proofs.YtefgdhoapmikhaaDoor
open Go.ChangeShapes Go.WideShapes Go.ChangeAt Go.RowKit Go.Lib
open Go.Deep
set_option linter.unusedVariables false
set_option linter.unusedSimpArgs false
set_option maxRecDepth 100000
theorem take1 {cs : List Value} {j : Nat} {v : Value} (h : (cs.drop j).take 1 = [v]) : cs[j]? = some v := by
  have := congrArg (·[0]?) h
  simpa [List.getElem?_take, List.getElem?_drop] using this
/-- numbers of 32 bits in memory -/
structure URow (w : World) (ao : Option Addr) (l : List Nat) : Prop where
  ok : ∀ x ∈ l, x < 4294967296
  len : l.length ≤ 1048576
  at_ : l ≠ [] → ∃ b off, ao = some ⟨b, off, none⟩ ∧ ∀ k (hk : k < l.length), w.cell? ⟨b, off + k, none⟩ = some (.int .u32 (l[k] : Int))
theorem URow.later {w w' : World} {ao : Option Addr} {L : List Nat} (h : URow w ao L) (hb : Below w.heap.size w w') : URow w' ao L := by
  refine ⟨h.ok, h.len, fun hne => ?_⟩
  obtain ⟨b, off, e, hc⟩ := h.at_ hne
  exact ⟨b, off, e, fun k hk => cell_later hb (hc k hk)⟩
theorem open_bytes12 {H : Type} {enc : TypeId × Value → H} {W : World} {base fuel : Nat} {cs : List Value} {d : DataW H} {p : List MemPlace} (h : DataW.trod enc Tryd.prog W base (fun _ => true) true fuel 27 cs = some (d, p)) (hbd : Rows.uptoBulk d ≤ 1048576) :
    ∃ (ao : Option Addr) (cap : Nat) (l : List Nat), cs = [.slice ao l.length cap] ∧ CRow W ao cap l ∧ l.length + 1 ≤ Rows.uptoBulk d := open_bytesC h hbd
theorem open_u32s {H : Type} {enc : TypeId × Value → H} {W : World} {base fuel : Nat} {cs : List Value} {d : DataW H} {p : List MemPlace} (h : DataW.trod enc Tryd.prog W base (fun _ => true) true fuel 22 cs = some (d, p)) (hbd : Rows.uptoBulk d ≤ 1048576) :
    ∃ (ao : Option Addr) (cap : Nat) (l : List Nat), cs = [.slice ao l.length cap] ∧ URow W ao l := by
  rcases open_ints Tryd.underlying22 Tryd.underlying30 (by kernel_rfl) h with ⟨hcs, hx⟩ | ⟨x, l, c, zs, hcs, _, hl, hm, hz, hx, hcell, hwz⟩
  · exact ⟨none, 0, [], hcs, by simp, by simp, fun h => absurd rfl h⟩
  · have hd : d = .slice (lits .u32 (zs.take l)) (lits .u32 (zs.drop l)) := (Prod.mk.inj hx).1
    have hz' : zs.length = c := by simpa using hz
    have hsl := bulk_slice (lits (H := H) .u32 (zs.take l)) (lits .u32 (zs.drop l))
    have hs1 := length_le_bulk (lits (H := H) .u32 (zs.take l))
    have hs2 := length_le_bulk (lits (H := H) .u32 (zs.drop l))
    rw [← hd] at hsl
    simp only [lits, List.length_map, List.length_take, List.length_drop] at hsl hs1 hs2
    have hb : ∀ i (hi : i < zs.length), 0 ≤ zs[i] ∧ zs[i] ≤ 4294967295 := fun i hi => by
      have := bounds_u32 (hwz _ (List.getElem_mem hi)); omega
    have hlen : ((zs.take l).map Int.toNat).length = l := by simp; omega
    refine ⟨some x, c, (zs.take l).map Int.toNat, by rw [hcs, hlen], fun y hy => ?_, by omega, fun hne => ?_⟩
    · obtain ⟨z, hz, rfl⟩ := List.mem_map.1 hy
      have := bounds_u32 (hwz z (List.mem_of_mem_take hz)); omega
    · have hpos : 0 < l := by
        rcases Nat.eq_zero_or_pos l with h | h
        · subst h; simp at hne
        · exact h
      obtain ⟨b, off, rfl, hc⟩ := ints_at hcell (by omega)
      refine ⟨b, off, rfl, fun k hk => ?_⟩
      have hk' : k < l := by omega
      have h1 := hcell k (by omega)
      rw [add_plain] at h1
      rw [h1]
      have h2 := hb k (by omega)
      simp [List.getD, show k < zs.length by omega]
      omega
theorem open_piece {H : Type} {enc : TypeId × Value → H} {W : World} {base fuel : Nat} {cs : List Value} {d : DataW H} {p : List MemPlace} (h : DataW.trod enc Tryd.prog W base (fun _ => true) true fuel 62 cs = some (d, p)) (hbd : Rows.uptoBulk d ≤ 1048576) :
    ∃ (off ln : Nat) (ho : Bool) (ao : Option Addr) (cap : Nat) (l : List Nat), cs = [.int .u64 (off : Int), .int .u32 (ln : Int), .bool ho, .slice ao l.length cap] ∧ off < 18446744073709551616 ∧ ln < 4294967296 ∧ CRow W ao cap l ∧ l.length ≤ 1048576 := by
  obtain ⟨xs, n, rfl, hx, hl, hxl, hall⟩ := DataW.trod_struct Tryd.underlying62 h
  have hl' : cs.length = 4 := hl.trans (by kernel_rfl)
  have h0 := hall 0 _ rfl
  obtain ⟨⟨y0, yp0⟩, hy0⟩ : ∃ y, xs[0]? = some y := ⟨_, List.getElem?_eq_getElem (by rw [hxl]; decide)⟩
  have k0 : Tryd.prog.cellsOf 26 = 1 := by kernel_rfl
  simp only [k0, hy0] at h0
  obtain ⟨i0, e0, _, w0⟩ := DataW.trod_int Tryd.underlying26 h0
  obtain ⟨z0, rfl⟩ := Int.eq_ofNat_of_zero_le (bounds_u64 w0).1
  have b0 := (bounds_u64 w0).2
  have t0 := take1 e0
  have h1 := hall 1 _ rfl
  obtain ⟨⟨y1, yp1⟩, hy1⟩ : ∃ y, xs[1]? = some y := ⟨_, List.getElem?_eq_getElem (by rw [hxl]; decide)⟩
  have k1 : Tryd.prog.cellsOf 30 = 1 := by kernel_rfl
  simp only [k1, hy1] at h1
  obtain ⟨i1, e1, _, w1⟩ := DataW.trod_int Tryd.underlying30 h1
  obtain ⟨z1, rfl⟩ := Int.eq_ofNat_of_zero_le (bounds_u32 w1).1
  have b1 := (bounds_u32 w1).2
  have t1 := take1 e1
  have h2 := hall 2 _ rfl
  obtain ⟨⟨y2, yp2⟩, hy2⟩ : ∃ y, xs[2]? = some y := ⟨_, List.getElem?_eq_getElem (by rw [hxl]; decide)⟩
  have k2 : Tryd.prog.cellsOf 4 = 1 := by kernel_rfl
  simp only [k2, hy2] at h2
  obtain ⟨z2, e2, _⟩ := DataW.trod_bool Tryd.underlying4 h2
  have t2 := take1 e2
  have h3 := hall 3 _ rfl
  obtain ⟨⟨y3, yp3⟩, hy3⟩ : ∃ y, xs[3]? = some y := ⟨_, List.getElem?_eq_getElem (by rw [hxl]; decide)⟩
  have k3 : Tryd.prog.cellsOf 27 = 1 := by kernel_rfl
  simp only [k3, hy3] at h3
  have hbd3 : Rows.uptoBulk y3 ≤ 1048576 := by
    have e := (Prod.mk.inj hx).1
    have m1 : y3 ∈ xs.map (·.1) := List.mem_map.2 ⟨(y3, yp3), List.mem_of_getElem? hy3, rfl⟩
    have b := bulk_le_all m1
    rw [e] at hbd
    simp only [Rows.uptoBulk] at hbd
    omega
  obtain ⟨a3, c3, l3, e3, g3⟩ := open_bytes12 h3 hbd3
  have t3 := take1 e3
  refine ⟨z0, z1, z2, a3, c3, l3, ?_, by omega, by omega, g3.1, by have := g3.2; omega⟩
  · apply List.ext_getElem?
    intro i
    match i with
    | 0 => exact t0
    | 1 => exact t1
    | 2 => exact t2
    | 3 => exact t3
    | i + 4 => rw [List.getElem?_eq_none (by omega)]; rfl
theorem open_run {H : Type} {enc : TypeId × Value → H} {W : World} {base fuel : Nat} {cs : List Value} {d : DataW H} {p : List MemPlace} (h : DataW.trod enc Tryd.prog W base (fun _ => true) true fuel 87 cs = some (d, p)) (hbd : Rows.uptoBulk d ≤ 1048576) :
    ∃ (a b : Nat), cs = [.int .u64 (a : Int), .int .u64 (b : Int)] ∧ a < 18446744073709551616 ∧ b < 18446744073709551616 := by
  obtain ⟨xs, n, rfl, hx, hl, hxl, hall⟩ := DataW.trod_struct Tryd.underlying87 h
  have hl' : cs.length = 2 := hl.trans (by kernel_rfl)
  have h0 := hall 0 _ rfl
  obtain ⟨⟨y0, yp0⟩, hy0⟩ : ∃ y, xs[0]? = some y := ⟨_, List.getElem?_eq_getElem (by rw [hxl]; decide)⟩
  have k0 : Tryd.prog.cellsOf 26 = 1 := by kernel_rfl
  simp only [k0, hy0] at h0
  obtain ⟨i0, e0, _, w0⟩ := DataW.trod_int Tryd.underlying26 h0
  obtain ⟨z0, rfl⟩ := Int.eq_ofNat_of_zero_le (bounds_u64 w0).1
  have b0 := (bounds_u64 w0).2
  have t0 := take1 e0
  have h1 := hall 1 _ rfl
  obtain ⟨⟨y1, yp1⟩, hy1⟩ : ∃ y, xs[1]? = some y := ⟨_, List.getElem?_eq_getElem (by rw [hxl]; decide)⟩
  have k1 : Tryd.prog.cellsOf 26 = 1 := by kernel_rfl
  simp only [k1, hy1] at h1
  obtain ⟨i1, e1, _, w1⟩ := DataW.trod_int Tryd.underlying26 h1
  obtain ⟨z1, rfl⟩ := Int.eq_ofNat_of_zero_le (bounds_u64 w1).1
  have b1 := (bounds_u64 w1).2
  have t1 := take1 e1
  refine ⟨z0, z1, ?_, by omega, by omega⟩
  · apply List.ext_getElem?
    intro i
    match i with
    | 0 => exact t0
    | 1 => exact t1
    | i + 2 => rw [List.getElem?_eq_none (by omega)]; rfl
theorem open_pieces {H : Type} {enc : TypeId × Value → H} {W : World} {base fuel : Nat} {cs : List Value} {d : DataW H} {p : List MemPlace} (h : DataW.trod enc Tryd.prog W base (fun _ => true) true fuel 31 cs = some (d, p)) (hbd : Rows.uptoBulk d ≤ 1048576) :
    ∃ (ao : Option Addr) (cap : Nat) (l : List Pc), cs = [.slice ao l.length cap] ∧ (PRow W ao l ∧ (∀ o ∈ l, ∃ m : List Nat, m.length = o.n ∧ m.length ≤ 1048576 ∧ CRow W o.ao o.cap m)) ∧ l.length ≤ cap ∧ cap ≤ 9223372036854775807 := by
  rcases open_slice Tryd.underlying31 h with ⟨hcs, _⟩ | ⟨x, len, cap, m, n, D, Pl, hcs, _, hl, hm, hmm, hx, hel⟩
  · exact ⟨none, 0, [], hcs, ⟨⟨by simp, by simp, fun h => absurd rfl h⟩, by simp⟩, by simp, by simp⟩
  · have hmc : m = cap := by simpa using hmm
    have hd : d = .slice ((List.range len).map D) ((List.range (m - len)).map fun j => D (len + j)) := (Prod.mk.inj hx).1
    have hlen : len ≤ 1048576 := by
      have b1 := bulk_slice ((List.range len).map D) ((List.range (m - len)).map fun j => D (len + j))
      have b2 := length_le_bulk ((List.range len).map D)
      rw [← hd] at b1
      simp at b2
      omega
    have cOp : Tryd.prog.cellsOf 62 = 4 := by kernel_rfl
    have hel' : ∀ i, ∃ o : Pc, (o.ok ∧ ∃ m : List Nat, m.length = o.n ∧ m.length ≤ 1048576 ∧ CRow W o.ao o.cap m) ∧ (i < len → ∀ j, j < 4 → W.cell? ((x.add (i * 4)).add j) = o.cells[j]?) := by
      intro i
      by_cases hi : i < len
      · obtain ⟨cs', hc1, hc2⟩ := hel i (by omega)
        rw [cOp] at hc1
        have hbi : Rows.uptoBulk (D i) ≤ 1048576 := by
          have b1 := bulk_slice ((List.range len).map D) ((List.range (m - len)).map fun j => D (len + j))
          have b2 := bulk_le_all (List.mem_map_of_mem (f := D) (List.mem_range.2 hi))
          rw [← hd] at b1
          omega
        obtain ⟨x0, x1, x2, a3, c3, ms, rfl, h0, h1, hcr, hml⟩ := open_piece hc2 hbi
        refine ⟨⟨x0, x1, x2, a3, ms.length, c3⟩, ⟨⟨h0, h1, by simp; omega⟩, ms, rfl, by omega, hcr⟩, fun _ j hj => ?_⟩
        have h1 := (World.cells?_some hc1).2.2 j hj
        rw [h1]
        rcases (show j = 0 ∨ j = 1 ∨ j = 2 ∨ j = 3 by omega) with rfl | rfl | rfl | rfl <;> rfl
      · exact ⟨⟨0, 0, false, none, 0, 0⟩, ⟨⟨by simp, by simp, by simp⟩, [], rfl, by simp, ⟨⟨by simp, by simp, fun _ => ⟨rfl, rfl⟩, fun h => absurd rfl h⟩, by simp, by decide⟩⟩, fun h => absurd h hi⟩
    obtain ⟨T, hT⟩ := Classical.axiomOfChoice hel'
    have hml : maxLen = 9223372036854775807 := by decide
    refine ⟨some x, cap, (List.range len).map T, by rw [hcs]; simp, ⟨⟨fun o ho => ?_, by simpa using hlen, fun hne => ?_⟩, fun o ho => ?_⟩, by simpa using hl, by omega⟩
    · obtain ⟨i, _, rfl⟩ := List.mem_map.1 ho
      exact (hT i).1.1
    · have h0 : 0 < len := by
        rcases Nat.eq_zero_or_pos len with h | h
        · subst h; simp at hne
        · exact h
      obtain ⟨pb, po, rfl⟩ : ∃ pb po, x = ⟨pb, po, none⟩ := by
        have h1 := (hT 0).2 h0 0 (by decide)
        have h2 := World.cell?_spot (show W.cell? ((x.add (0 * 4)).add 0) = some _ from h1)
        obtain ⟨b, off, spot⟩ := x
        have : spot = none := by simpa [Addr.add] using h2
        exact ⟨b, off, by rw [this]⟩
      refine ⟨pb, po, rfl, fun k hk j hj => ?_⟩
      have hk2 : k < len := by simpa using hk
      have h1 := (hT k).2 hk2 j hj
      rw [add_plain, add_plain] at h1
      simpa using h1
    · obtain ⟨i, _, rfl⟩ := List.mem_map.1 ho
      exact (hT i).1.2
theorem open_runs {H : Type} {enc : TypeId × Value → H} {W : World} {base fuel : Nat} {cs : List Value} {d : DataW H} {p : List MemPlace} (h : DataW.trod enc Tryd.prog W base (fun _ => true) true fuel 85 cs = some (d, p)) (hbd : Rows.uptoBulk d ≤ 1048576) :
    ∃ (ao : Option Addr) (cap : Nat) (l : List Rn), cs = [.slice ao l.length cap] ∧ RuRow W ao l ∧ l.length ≤ cap ∧ cap ≤ 9223372036854775807 := by
  rcases open_slice Tryd.underlying85 h with ⟨hcs, _⟩ | ⟨x, len, cap, m, n, D, Pl, hcs, _, hl, hm, hmm, hx, hel⟩
  · exact ⟨none, 0, [], hcs, ⟨by simp, by simp, fun h => absurd rfl h⟩, by simp, by simp⟩
  · have hmc : m = cap := by simpa using hmm
    have hd : d = .slice ((List.range len).map D) ((List.range (m - len)).map fun j => D (len + j)) := (Prod.mk.inj hx).1
    have hlen : len ≤ 1048576 := by
      have b1 := bulk_slice ((List.range len).map D) ((List.range (m - len)).map fun j => D (len + j))
      have b2 := length_le_bulk ((List.range len).map D)
      rw [← hd] at b1
      simp at b2
      omega
    have cOp : Tryd.prog.cellsOf 87 = 2 := by kernel_rfl
    have hel' : ∀ i, ∃ o : Rn, (o.ok) ∧ (i < len → ∀ j, j < 2 → W.cell? ((x.add (i * 2)).add j) = o.cells[j]?) := by
      intro i
      by_cases hi : i < len
      · obtain ⟨cs', hc1, hc2⟩ := hel i (by omega)
        rw [cOp] at hc1
        have hbi : Rows.uptoBulk (D i) ≤ 1048576 := by
          have b1 := bulk_slice ((List.range len).map D) ((List.range (m - len)).map fun j => D (len + j))
          have b2 := bulk_le_all (List.mem_map_of_mem (f := D) (List.mem_range.2 hi))
          rw [← hd] at b1
          omega
        obtain ⟨x0, x1, rfl, h0, h1⟩ := open_run hc2 hbi
        refine ⟨⟨x0, x1⟩, ⟨h0, h1⟩, fun _ j hj => ?_⟩
        have h1 := (World.cells?_some hc1).2.2 j hj
        rw [h1]
        rcases (show j = 0 ∨ j = 1 by omega) with rfl | rfl <;> rfl
      · exact ⟨⟨0, 0⟩, ⟨by simp, by simp⟩, fun h => absurd h hi⟩
    obtain ⟨T, hT⟩ := Classical.axiomOfChoice hel'
    have hml : maxLen = 9223372036854775807 := by decide
    refine ⟨some x, cap, (List.range len).map T, by rw [hcs]; simp, ⟨fun o ho => ?_, by simpa using hlen, fun hne => ?_⟩, by simpa using hl, by omega⟩
    · obtain ⟨i, _, rfl⟩ := List.mem_map.1 ho
      exact (hT i).1
    · have h0 : 0 < len := by
        rcases Nat.eq_zero_or_pos len with h | h
        · subst h; simp at hne
        · exact h
      obtain ⟨pb, po, rfl⟩ : ∃ pb po, x = ⟨pb, po, none⟩ := by
        have h1 := (hT 0).2 h0 0 (by decide)
        have h2 := World.cell?_spot (show W.cell? ((x.add (0 * 2)).add 0) = some _ from h1)
        obtain ⟨b, off, spot⟩ := x
        have : spot = none := by simpa [Addr.add] using h2
        exact ⟨b, off, by rw [this]⟩
      refine ⟨pb, po, rfl, fun k hk j hj => ?_⟩
      have hk2 : k < len := by simpa using hk
      have h1 := (hT k).2 hk2 j hj
      rw [add_plain, add_plain] at h1
      simpa using h1
theorem open_lists {H : Type} {enc : TypeId × Value → H} {W : World} {base fuel : Nat} {cs : List Value} {d : DataW H} {p : List MemPlace} (h : DataW.trod enc Tryd.prog W base (fun _ => true) true fuel 32 cs = some (d, p)) (hbd : Rows.uptoBulk d ≤ 1048576) :
    ∃ (ao : Option Addr) (cap : Nat) (l : List Ls), cs = [.slice ao l.length cap] ∧ LRow W ao l ∧ l.length ≤ cap ∧ cap ≤ 9223372036854775807 := by
  rcases open_slice Tryd.underlying32 h with ⟨hcs, _⟩ | ⟨x, len, cap, m, n, D, Pl, hcs, _, hl, hm, hmm, hx, hel⟩
  · exact ⟨none, 0, [], hcs, ⟨by simp, by simp, fun h => absurd rfl h⟩, by simp, by simp⟩
  · have hmc : m = cap := by simpa using hmm
    have hd : d = .slice ((List.range len).map D) ((List.range (m - len)).map fun j => D (len + j)) := (Prod.mk.inj hx).1
    have hlen : len ≤ 1048576 := by
      have b1 := bulk_slice ((List.range len).map D) ((List.range (m - len)).map fun j => D (len + j))
      have b2 := length_le_bulk ((List.range len).map D)
      rw [← hd] at b1
      simp at b2
      omega
    have cOp : Tryd.prog.cellsOf 85 = 1 := by kernel_rfl
    have hel' : ∀ i, ∃ o : Ls, (RuRow W o.ao o.l ∧ o.l.length ≤ o.cap ∧ o.cap ≤ 9223372036854775807) ∧ (i < len → ∀ j, j < 1 → W.cell? ((x.add (i * 1)).add j) = (#[.slice o.ao o.l.length o.cap] : Array Value)[j]?) := by
      intro i
      by_cases hi : i < len
      · obtain ⟨cs', hc1, hc2⟩ := hel i (by omega)
        rw [cOp] at hc1
        have hbi : Rows.uptoBulk (D i) ≤ 1048576 := by
          have b1 := bulk_slice ((List.range len).map D) ((List.range (m - len)).map fun j => D (len + j))
          have b2 := bulk_le_all (List.mem_map_of_mem (f := D) (List.mem_range.2 hi))
          rw [← hd] at b1
          omega
        obtain ⟨a3, c3, ms, rfl, hr, h1, h2⟩ := open_runs hc2 hbi
        refine ⟨⟨a3, c3, ms⟩, ⟨hr, h1, h2⟩, fun _ j hj => ?_⟩
        have h1 := (World.cells?_some hc1).2.2 j hj
        rw [h1]
        rcases (show j = 0 by omega) with rfl; rfl
      · exact ⟨⟨none, 0, []⟩, ⟨⟨by simp, by simp, fun h => absurd rfl h⟩, by simp, by simp⟩, fun h => absurd h hi⟩
    obtain ⟨T, hT⟩ := Classical.axiomOfChoice hel'
    have hml : maxLen = 9223372036854775807 := by decide
    refine ⟨some x, cap, (List.range len).map T, by rw [hcs]; simp, ⟨fun o ho => ?_, by simpa using hlen, fun hne => ?_⟩, by simpa using hl, by omega⟩
    · obtain ⟨i, _, rfl⟩ := List.mem_map.1 ho
      exact (hT i).1
    · have h0 : 0 < len := by
        rcases Nat.eq_zero_or_pos len with h | h
        · subst h; simp at hne
        · exact h
      obtain ⟨pb, po, rfl⟩ : ∃ pb po, x = ⟨pb, po, none⟩ := by
        have h1 := (hT 0).2 h0 0 (by decide)
        have h2 := World.cell?_spot (show W.cell? ((x.add (0 * 1)).add 0) = some _ from h1)
        obtain ⟨b, off, spot⟩ := x
        have : spot = none := by simpa [Addr.add] using h2
        exact ⟨b, off, by rw [this]⟩
      refine ⟨pb, po, rfl, fun k hk => ?_⟩
      have hk2 : k < len := by simpa using hk
      have h1 := (hT k).2 hk2 0 (by decide)
      rw [add_plain, add_plain] at h1
      simpa using h1
theorem open_ses {H : Type} {enc : TypeId × Value → H} {W : World} {base fuel : Nat} {cs : List Value} {d : DataW H} {p : List MemPlace} (h : DataW.trod enc Tryd.prog W base (fun _ => true) true fuel 24 cs = some (d, p)) (hbd : Rows.uptoBulk d ≤ 1048576) :
    ∃ (ix : Int) (st ex : Bool) (co : Option Addr) (cc : Nat) (C : List Nat), cs = [.int .i64 ix, .bool st, .bool ex, .slice co C.length cc] ∧ URow W co C := by
  obtain ⟨xs, n, rfl, hx, hl, hxl, hall⟩ := DataW.trod_struct Tryd.underlying24 h
  have hl' : cs.length = 4 := hl.trans (by kernel_rfl)
  have h0 := hall 0 _ rfl
  obtain ⟨⟨y0, yp0⟩, hy0⟩ : ∃ y, xs[0]? = some y := ⟨_, List.getElem?_eq_getElem (by rw [hxl]; decide)⟩
  have k0 : Tryd.prog.cellsOf 3 = 1 := by kernel_rfl
  simp only [k0, hy0] at h0
  obtain ⟨z0, e0, _, w0⟩ := DataW.trod_int Tryd.underlying3 h0
  have t0 := take1 e0
  have h1 := hall 1 _ rfl
  obtain ⟨⟨y1, yp1⟩, hy1⟩ : ∃ y, xs[1]? = some y := ⟨_, List.getElem?_eq_getElem (by rw [hxl]; decide)⟩
  have k1 : Tryd.prog.cellsOf 4 = 1 := by kernel_rfl
  simp only [k1, hy1] at h1
  obtain ⟨z1, e1, _⟩ := DataW.trod_bool Tryd.underlying4 h1
  have t1 := take1 e1
  have h2 := hall 2 _ rfl
  obtain ⟨⟨y2, yp2⟩, hy2⟩ : ∃ y, xs[2]? = some y := ⟨_, List.getElem?_eq_getElem (by rw [hxl]; decide)⟩
  have k2 : Tryd.prog.cellsOf 4 = 1 := by kernel_rfl
  simp only [k2, hy2] at h2
  obtain ⟨z2, e2, _⟩ := DataW.trod_bool Tryd.underlying4 h2
  have t2 := take1 e2
  have h3 := hall 3 _ rfl
  obtain ⟨⟨y3, yp3⟩, hy3⟩ : ∃ y, xs[3]? = some y := ⟨_, List.getElem?_eq_getElem (by rw [hxl]; decide)⟩
  have k3 : Tryd.prog.cellsOf 22 = 1 := by kernel_rfl
  simp only [k3, hy3] at h3
  have hbd3 : Rows.uptoBulk y3 ≤ 1048576 := by
    have e := (Prod.mk.inj hx).1
    have m1 : y3 ∈ xs.map (·.1) := List.mem_map.2 ⟨(y3, yp3), List.mem_of_getElem? hy3, rfl⟩
    have b := bulk_le_all m1
    rw [e] at hbd
    simp only [Rows.uptoBulk] at hbd
    omega
  obtain ⟨a3, c3, l3, e3, g3⟩ := open_u32s h3 hbd3
  have t3 := take1 e3
  refine ⟨z0, z1, z2, a3, c3, l3, ?_, g3⟩
  · apply List.ext_getElem?
    intro i
    match i with
    | 0 => exact t0
    | 1 => exact t1
    | 2 => exact t2
    | 3 => exact t3
    | i + 4 => rw [List.getElem?_eq_none (by omega)]; rfl
theorem open_req {H : Type} {enc : TypeId × Value → H} {W : World} {base fuel : Nat} {cs : List Value} {d : DataW H} {p : List MemPlace} (h : DataW.trod enc Tryd.prog W base (fun _ => true) true fuel 29 cs = some (d, p)) (hbd : Rows.uptoBulk d ≤ 1048576) :
    ∃ (fl ty ck of ln : Nat) (ao : Option Addr) (cap : Nat) (l : List Nat), cs = [.int .u16 (fl : Int), .int .u16 (ty : Int), .int .u64 (ck : Int), .int .u64 (of : Int), .int .u64 (ln : Int), .slice ao l.length cap] ∧ fl < 65536 ∧ ty < 65536 ∧ ck < 18446744073709551616 ∧ of < 18446744073709551616 ∧ ln < 18446744073709551616 ∧ CRow W ao cap l := by
  obtain ⟨xs, n, rfl, hx, hl, hxl, hall⟩ := DataW.trod_struct Tryd.underlying29 h
  have hl' : cs.length = 6 := hl.trans (by kernel_rfl)
  have h0 := hall 0 _ rfl
  obtain ⟨⟨y0, yp0⟩, hy0⟩ : ∃ y, xs[0]? = some y := ⟨_, List.getElem?_eq_getElem (by rw [hxl]; decide)⟩
  have k0 : Tryd.prog.cellsOf 25 = 1 := by kernel_rfl
  simp only [k0, hy0] at h0
  obtain ⟨i0, e0, _, w0⟩ := DataW.trod_int Tryd.underlying25 h0
  obtain ⟨z0, rfl⟩ := Int.eq_ofNat_of_zero_le (bounds_u16 w0).1
  have b0 := (bounds_u16 w0).2
  have t0 := take1 e0
  have h1 := hall 1 _ rfl
  obtain ⟨⟨y1, yp1⟩, hy1⟩ : ∃ y, xs[1]? = some y := ⟨_, List.getElem?_eq_getElem (by rw [hxl]; decide)⟩
  have k1 : Tryd.prog.cellsOf 25 = 1 := by kernel_rfl
  simp only [k1, hy1] at h1
  obtain ⟨i1, e1, _, w1⟩ := DataW.trod_int Tryd.underlying25 h1
  obtain ⟨z1, rfl⟩ := Int.eq_ofNat_of_zero_le (bounds_u16 w1).1
  have b1 := (bounds_u16 w1).2
  have t1 := take1 e1
  have h2 := hall 2 _ rfl
  obtain ⟨⟨y2, yp2⟩, hy2⟩ : ∃ y, xs[2]? = some y := ⟨_, List.getElem?_eq_getElem (by rw [hxl]; decide)⟩
  have k2 : Tryd.prog.cellsOf 26 = 1 := by kernel_rfl
  simp only [k2, hy2] at h2
  obtain ⟨i2, e2, _, w2⟩ := DataW.trod_int Tryd.underlying26 h2
  obtain ⟨z2, rfl⟩ := Int.eq_ofNat_of_zero_le (bounds_u64 w2).1
  have b2 := (bounds_u64 w2).2
  have t2 := take1 e2
  have h3 := hall 3 _ rfl
  obtain ⟨⟨y3, yp3⟩, hy3⟩ : ∃ y, xs[3]? = some y := ⟨_, List.getElem?_eq_getElem (by rw [hxl]; decide)⟩
  have k3 : Tryd.prog.cellsOf 26 = 1 := by kernel_rfl
  simp only [k3, hy3] at h3
  obtain ⟨i3, e3, _, w3⟩ := DataW.trod_int Tryd.underlying26 h3
  obtain ⟨z3, rfl⟩ := Int.eq_ofNat_of_zero_le (bounds_u64 w3).1
  have b3 := (bounds_u64 w3).2
  have t3 := take1 e3
  have h4 := hall 4 _ rfl
  obtain ⟨⟨y4, yp4⟩, hy4⟩ : ∃ y, xs[4]? = some y := ⟨_, List.getElem?_eq_getElem (by rw [hxl]; decide)⟩
  have k4 : Tryd.prog.cellsOf 26 = 1 := by kernel_rfl
  simp only [k4, hy4] at h4
  obtain ⟨i4, e4, _, w4⟩ := DataW.trod_int Tryd.underlying26 h4
  obtain ⟨z4, rfl⟩ := Int.eq_ofNat_of_zero_le (bounds_u64 w4).1
  have b4 := (bounds_u64 w4).2
  have t4 := take1 e4
  have h5 := hall 5 _ rfl
  obtain ⟨⟨y5, yp5⟩, hy5⟩ : ∃ y, xs[5]? = some y := ⟨_, List.getElem?_eq_getElem (by rw [hxl]; decide)⟩
  have k5 : Tryd.prog.cellsOf 27 = 1 := by kernel_rfl
  simp only [k5, hy5] at h5
  have hbd5 : Rows.uptoBulk y5 ≤ 1048576 := by
    have e := (Prod.mk.inj hx).1
    have m1 : y5 ∈ xs.map (·.1) := List.mem_map.2 ⟨(y5, yp5), List.mem_of_getElem? hy5, rfl⟩
    have b := bulk_le_all m1
    rw [e] at hbd
    simp only [Rows.uptoBulk] at hbd
    omega
  obtain ⟨a5, c5, l5, e5, g5⟩ := open_bytes12 h5 hbd5
  have t5 := take1 e5
  refine ⟨z0, z1, z2, z3, z4, a5, c5, l5, ?_, by omega, by omega, by omega, by omega, by omega, g5.1⟩
  · apply List.ext_getElem?
    intro i
    match i with
    | 0 => exact t0
    | 1 => exact t1
    | 2 => exact t2
    | 3 => exact t3
    | 4 => exact t4
    | 5 => exact t5
    | i + 6 => rw [List.getElem?_eq_none (by omega)]; rfl
theorem open_out {H : Type} {enc : TypeId × Value → H} {W : World} {base fuel : Nat} {cs : List Value} {d : DataW H} {p : List MemPlace} (h : DataW.trod enc Tryd.prog W base (fun _ => true) true fuel 34 cs = some (d, p)) (hbd : Rows.uptoBulk d ≤ 1048576) :
    ∃ (co : Nat) (pl : Bool) (at_ : Nat) (po : Option Addr) (pc : Nat) (P : List Pc) (lo : Option Addr) (lc : Nat) (L : List Ls), cs = [.int .u32 (co : Int), .bool pl, .int .u64 (at_ : Int), .slice po P.length pc, .slice lo L.length lc] ∧ co < 4294967296 ∧ at_ < 18446744073709551616 ∧ PRow W po P ∧ (∀ o ∈ P, ∃ m : List Nat, m.length = o.n ∧ m.length ≤ 1048576 ∧ CRow W o.ao o.cap m) ∧ P.length ≤ pc ∧ pc ≤ 9223372036854775807 ∧ LRow W lo L ∧ L.length ≤ lc ∧ lc ≤ 9223372036854775807 := by
  obtain ⟨xs, n, rfl, hx, hl, hxl, hall⟩ := DataW.trod_struct Tryd.underlying34 h
  have hl' : cs.length = 5 := hl.trans (by kernel_rfl)
  have h0 := hall 0 _ rfl
  obtain ⟨⟨y0, yp0⟩, hy0⟩ : ∃ y, xs[0]? = some y := ⟨_, List.getElem?_eq_getElem (by rw [hxl]; decide)⟩
  have k0 : Tryd.prog.cellsOf 30 = 1 := by kernel_rfl
  simp only [k0, hy0] at h0
  obtain ⟨i0, e0, _, w0⟩ := DataW.trod_int Tryd.underlying30 h0
  obtain ⟨z0, rfl⟩ := Int.eq_ofNat_of_zero_le (bounds_u32 w0).1
  have b0 := (bounds_u32 w0).2
  have t0 := take1 e0
  have h1 := hall 1 _ rfl
  obtain ⟨⟨y1, yp1⟩, hy1⟩ : ∃ y, xs[1]? = some y := ⟨_, List.getElem?_eq_getElem (by rw [hxl]; decide)⟩
  have k1 : Tryd.prog.cellsOf 4 = 1 := by kernel_rfl
  simp only [k1, hy1] at h1
  obtain ⟨z1, e1, _⟩ := DataW.trod_bool Tryd.underlying4 h1
  have t1 := take1 e1
  have h2 := hall 2 _ rfl
  obtain ⟨⟨y2, yp2⟩, hy2⟩ : ∃ y, xs[2]? = some y := ⟨_, List.getElem?_eq_getElem (by rw [hxl]; decide)⟩
  have k2 : Tryd.prog.cellsOf 26 = 1 := by kernel_rfl
  simp only [k2, hy2] at h2
  obtain ⟨i2, e2, _, w2⟩ := DataW.trod_int Tryd.underlying26 h2
  obtain ⟨z2, rfl⟩ := Int.eq_ofNat_of_zero_le (bounds_u64 w2).1
  have b2 := (bounds_u64 w2).2
  have t2 := take1 e2
  have h3 := hall 3 _ rfl
  obtain ⟨⟨y3, yp3⟩, hy3⟩ : ∃ y, xs[3]? = some y := ⟨_, List.getElem?_eq_getElem (by rw [hxl]; decide)⟩
  have k3 : Tryd.prog.cellsOf 31 = 1 := by kernel_rfl
  simp only [k3, hy3] at h3
  have hbd3 : Rows.uptoBulk y3 ≤ 1048576 := by
    have e := (Prod.mk.inj hx).1
    have m1 : y3 ∈ xs.map (·.1) := List.mem_map.2 ⟨(y3, yp3), List.mem_of_getElem? hy3, rfl⟩
    have b := bulk_le_all m1
    rw [e] at hbd
    simp only [Rows.uptoBulk] at hbd
    omega
  obtain ⟨a3, c3, l3, e3, g3⟩ := open_pieces h3 hbd3
  have t3 := take1 e3
  have h4 := hall 4 _ rfl
  obtain ⟨⟨y4, yp4⟩, hy4⟩ : ∃ y, xs[4]? = some y := ⟨_, List.getElem?_eq_getElem (by rw [hxl]; decide)⟩
  have k4 : Tryd.prog.cellsOf 32 = 1 := by kernel_rfl
  simp only [k4, hy4] at h4
  have hbd4 : Rows.uptoBulk y4 ≤ 1048576 := by
    have e := (Prod.mk.inj hx).1
    have m1 : y4 ∈ xs.map (·.1) := List.mem_map.2 ⟨(y4, yp4), List.mem_of_getElem? hy4, rfl⟩
    have b := bulk_le_all m1
    rw [e] at hbd
    simp only [Rows.uptoBulk] at hbd
    omega
  obtain ⟨a4, c4, l4, e4, g4⟩ := open_lists h4 hbd4
  have t4 := take1 e4
  refine ⟨z0, z1, z2, a3, c3, l3, a4, c4, l4, ?_, by omega, by omega, g3.1.1, g3.1.2, g3.2.1, g3.2.2, g4.1, g4.2.1, g4.2.2⟩
  · apply List.ext_getElem?
    intro i
    match i with
    | 0 => exact t0
    | 1 => exact t1
    | 2 => exact t2
    | 3 => exact t3
    | 4 => exact t4
    | i + 5 => rw [List.getElem?_eq_none (by omega)]; rfl
end Go.Proofs.YtefgdhoapmikhaaDoor

namespace Go.Proofs.YtefgdhoapmikhaaDoor
open Go.ChangeShapes Go.WideShapes Go.ChangeAt Go.RowKit Go.Lib
set_option linter.unusedVariables false
set_option linter.unusedSimpArgs false
set_option maxRecDepth 100000
abbrev theLaid := Rows.replyFitsRow.laid
/-- the world with the two tables laid -/
def putTabs (w0 : World) : World :=
  let put (h : Array Obj) (g : Nat) (cs : Array Value) : Array Obj := h.modify g fun
    | .cells _ t frozen => .cells cs t frozen
    | o => o
  let h1 := put w0.heap 0 (Lib.firstTab.map fun z => Value.int .u8 z).toArray
  let h2 := put h1 1 ((List.range 16).flatMap fun i => [Value.int .u8 (Lib.accLo i), Value.int .u8 (Lib.accHi i)]).toArray
  { w0 with heap := h2 }
theorem laid_met (os : Os) (args : Array Value) : laidMet Tryd.prog theLaid ((putTabs (World.holding Tryd.prog os ⟨#[], #[], []⟩)).forCall (fun _ _ => 0) ⟨#[], args, []⟩).memory :=
  (LaidIn.of_run (l := theLaid) [1, 0] 8 (by kernel_rfl) (by kernel_rfl) (by kernel_rfl) (by kernel_rfl)).met
end Go.Proofs.YtefgdhoapmikhaaDoor

namespace Go.Proofs.YtefgdhoapmikhaaDoor
open Go.ChangeShapes Go.WideShapes Go.ChangeAt Go.RowKit Go.Lib
open Go.Deep
set_option linter.unusedVariables false
set_option linter.unusedSimpArgs false
set_option maxRecDepth 100000
theorem open_pieceW {H : Type} {enc : TypeId × Value → H} {W : World} {base fuel : Nat} {cs : List Value} {d : DataW H} {p : List MemPlace} (h : DataW.trod enc Tryd.prog W base (fun _ => true) true fuel 62 cs = some (d, p)) (hbd : Rows.uptoBulk d ≤ 1048576) :
    ∃ (off ln : Nat) (ho : Bool) (ao : Option Addr) (cap : Nat) (l : List Nat), cs = [.int .u64 (off : Int), .int .u32 (ln : Int), .bool ho, .slice ao l.length cap] ∧ off < 18446744073709551616 ∧ ln < 4294967296 ∧ CRow W ao cap l ∧ l.length + 5 ≤ Rows.uptoBulk d := by
  obtain ⟨xs, n, rfl, hx, hl, hxl, hall⟩ := DataW.trod_struct Tryd.underlying62 h
  have hl' : cs.length = 4 := hl.trans (by kernel_rfl)
  have h0 := hall 0 _ rfl
  obtain ⟨⟨y0, yp0⟩, hy0⟩ : ∃ y, xs[0]? = some y := ⟨_, List.getElem?_eq_getElem (by rw [hxl]; decide)⟩
  have k0 : Tryd.prog.cellsOf 26 = 1 := by kernel_rfl
  simp only [k0, hy0] at h0
  obtain ⟨i0, e0, _, w0⟩ := DataW.trod_int Tryd.underlying26 h0
  obtain ⟨z0, rfl⟩ := Int.eq_ofNat_of_zero_le (bounds_u64 w0).1
  have b0 := (bounds_u64 w0).2
  have t0 := take1 e0
  have h1 := hall 1 _ rfl
  obtain ⟨⟨y1, yp1⟩, hy1⟩ : ∃ y, xs[1]? = some y := ⟨_, List.getElem?_eq_getElem (by rw [hxl]; decide)⟩
  have k1 : Tryd.prog.cellsOf 30 = 1 := by kernel_rfl
  simp only [k1, hy1] at h1
  obtain ⟨i1, e1, _, w1⟩ := DataW.trod_int Tryd.underlying30 h1
  obtain ⟨z1, rfl⟩ := Int.eq_ofNat_of_zero_le (bounds_u32 w1).1
  have b1 := (bounds_u32 w1).2
  have t1 := take1 e1
  have h2 := hall 2 _ rfl
  obtain ⟨⟨y2, yp2⟩, hy2⟩ : ∃ y, xs[2]? = some y := ⟨_, List.getElem?_eq_getElem (by rw [hxl]; decide)⟩
  have k2 : Tryd.prog.cellsOf 4 = 1 := by kernel_rfl
  simp only [k2, hy2] at h2
  obtain ⟨z2, e2, _⟩ := DataW.trod_bool Tryd.underlying4 h2
  have t2 := take1 e2
  have h3 := hall 3 _ rfl
  obtain ⟨⟨y3, yp3⟩, hy3⟩ : ∃ y, xs[3]? = some y := ⟨_, List.getElem?_eq_getElem (by rw [hxl]; decide)⟩
  have k3 : Tryd.prog.cellsOf 27 = 1 := by kernel_rfl
  simp only [k3, hy3] at h3
  have hbd3 : Rows.uptoBulk y3 ≤ 1048576 := by
    have e := (Prod.mk.inj hx).1
    have m1 : y3 ∈ xs.map (·.1) := List.mem_map.2 ⟨(y3, yp3), List.mem_of_getElem? hy3, rfl⟩
    have b := bulk_le_all m1
    rw [e] at hbd
    simp only [Rows.uptoBulk] at hbd
    omega
  obtain ⟨a3, c3, l3, e3, g3⟩ := open_bytes12 h3 hbd3
  have t3 := take1 e3
  refine ⟨z0, z1, z2, a3, c3, l3, ?_, by omega, by omega, g3.1, ?_⟩
  · apply List.ext_getElem?
    intro i
    match i with
    | 0 => exact t0
    | 1 => exact t1
    | 2 => exact t2
    | 3 => exact t3
    | i + 4 => rw [List.getElem?_eq_none (by omega)]; rfl
  · have e := (Prod.mk.inj hx).1
    have hx4 : xs.length = 4 := hxl.trans (by kernel_rfl)
    obtain ⟨q0, q1, q2, q3, rfl⟩ : ∃ q0 q1 q2 q3, xs = [q0, q1, q2, q3] := by
      match xs, hx4 with
      | [q0, q1, q2, q3], _ => exact ⟨q0, q1, q2, q3, rfl⟩
    simp at hy3
    subst hy3
    rw [e]
    simp only [List.map_cons, List.map_nil, Rows.uptoBulk, Rows.uptoBulkAll]
    have p0 := bulk_pos q0.1
    have p1 := bulk_pos q1.1
    have p2 := bulk_pos q2.1
    have p3 := g3.2
    omega
theorem open_piecesW {H : Type} {enc : TypeId × Value → H} {W : World} {base fuel : Nat} {cs : List Value} {d : DataW H} {p : List MemPlace} (h : DataW.trod enc Tryd.prog W base (fun _ => true) true fuel 31 cs = some (d, p)) (hbd : Rows.uptoBulk d ≤ 1048576) :
    ∃ (ao : Option Addr) (cap : Nat) (l : List Pc), cs = [.slice ao l.length cap] ∧ (PRow W ao l ∧ (∀ o ∈ l, ∃ m : List Nat, m.length = o.n ∧ m.length ≤ 1048576 ∧ CRow W o.ao o.cap m)) ∧ (l.map fun o => o.n + 5).sum ≤ 1048576 := by
  rcases open_slice Tryd.underlying31 h with ⟨hcs, _⟩ | ⟨x, len, cap, m, n, D, Pl, hcs, _, hl, hm, hmm, hx, hel⟩
  · exact ⟨none, 0, [], hcs, ⟨⟨by simp, by simp, fun h => absurd rfl h⟩, by simp⟩, by simp⟩
  · have hmc : m = cap := by simpa using hmm
    have hd : d = .slice ((List.range len).map D) ((List.range (m - len)).map fun j => D (len + j)) := (Prod.mk.inj hx).1
    have hlen : len ≤ 1048576 := by
      have b1 := bulk_slice ((List.range len).map D) ((List.range (m - len)).map fun j => D (len + j))
      have b2 := length_le_bulk ((List.range len).map D)
      rw [← hd] at b1
      simp at b2
      omega
    have cOp : Tryd.prog.cellsOf 62 = 4 := by kernel_rfl
    have hel' : ∀ i, ∃ o : Pc, ((o.ok ∧ ∃ m : List Nat, m.length = o.n ∧ m.length ≤ 1048576 ∧ CRow W o.ao o.cap m) ∧ (i < len → o.n + 5 ≤ Rows.uptoBulk (D i))) ∧ (i < len → ∀ j, j < 4 → W.cell? ((x.add (i * 4)).add j) = o.cells[j]?) := by
      intro i
      by_cases hi : i < len
      · obtain ⟨cs', hc1, hc2⟩ := hel i (by omega)
        rw [cOp] at hc1
        have hbi : Rows.uptoBulk (D i) ≤ 1048576 := by
          have b1 := bulk_slice ((List.range len).map D) ((List.range (m - len)).map fun j => D (len + j))
          have b2 := bulk_le_all (List.mem_map_of_mem (f := D) (List.mem_range.2 hi))
          rw [← hd] at b1
          omega
        obtain ⟨x0, x1, x2, a3, c3, ms, rfl, h0, h1, hcr, hml⟩ := open_pieceW hc2 hbi
        refine ⟨⟨x0, x1, x2, a3, ms.length, c3⟩, ⟨⟨⟨h0, h1, by simp; omega⟩, ms, rfl, by omega, hcr⟩, fun _ => hml⟩, fun _ j hj => ?_⟩
        have h1 := (World.cells?_some hc1).2.2 j hj
        rw [h1]
        rcases (show j = 0 ∨ j = 1 ∨ j = 2 ∨ j = 3 by omega) with rfl | rfl | rfl | rfl <;> rfl
      · exact ⟨⟨0, 0, false, none, 0, 0⟩, ⟨⟨⟨by simp, by simp, by simp⟩, [], rfl, by simp, ⟨⟨by simp, by simp, fun _ => ⟨rfl, rfl⟩, fun h => absurd rfl h⟩, by simp, by decide⟩⟩, fun h => absurd h hi⟩, fun h => absurd h hi⟩
    obtain ⟨T, hT⟩ := Classical.axiomOfChoice hel'
    have hml : maxLen = 9223372036854775807 := by decide
    refine ⟨some x, cap, (List.range len).map T, by rw [hcs]; simp, ⟨⟨fun o ho => ?_, by simpa using hlen, fun hne => ?_⟩, fun o ho => ?_⟩, ?_⟩
    · obtain ⟨i, _, rfl⟩ := List.mem_map.1 ho
      exact (hT i).1.1.1
    · have h0 : 0 < len := by
        rcases Nat.eq_zero_or_pos len with h | h
        · subst h; simp at hne
        · exact h
      obtain ⟨pb, po, rfl⟩ : ∃ pb po, x = ⟨pb, po, none⟩ := by
        have h1 := (hT 0).2 h0 0 (by decide)
        have h2 := World.cell?_spot (show W.cell? ((x.add (0 * 4)).add 0) = some _ from h1)
        obtain ⟨b, off, spot⟩ := x
        have : spot = none := by simpa [Addr.add] using h2
        exact ⟨b, off, by rw [this]⟩
      refine ⟨pb, po, rfl, fun k hk j hj => ?_⟩
      have hk2 : k < len := by simpa using hk
      have h1 := (hT k).2 hk2 j hj
      rw [add_plain, add_plain] at h1
      simpa using h1
    · obtain ⟨i, _, rfl⟩ := List.mem_map.1 ho
      exact (hT i).1.1.2
    · have b1 := bulk_slice ((List.range len).map D) ((List.range (m - len)).map fun j => D (len + j))
      rw [← hd] at b1
      have hs : ∀ (L : List Nat), (∀ i ∈ L, i < len) → ((L.map T).map fun o => o.n + 5).sum ≤ Rows.uptoBulkAll (L.map D) := by
        intro L
        induction L with
        | nil => intro _; simp
        | cons i L ih =>
          intro hL
          have h1 := ih (fun j hj => hL j (List.mem_cons_of_mem _ hj))
          have h2 := (hT i).1.2 (hL i (List.mem_cons_self ..))
          simp only [List.map_cons, List.sum_cons, Rows.uptoBulkAll] at h1 ⊢
          omega
      have h3 := hs (List.range len) (fun i hi => List.mem_range.1 hi)
      omega
end Go.Proofs.YtefgdhoapmikhaaDoor

namespace Go.Proofs.YtefgdhoapmikhaaDoor.replyTells
open Go.ChangeShapes Go.WideShapes Go.ChangeAt Go.RowKit Go.Lib
open Go.Deep
set_option linter.unusedVariables false
set_option linter.unusedSimpArgs false
set_option maxRecDepth 100000
theorem contract (H : Type) (enc : TypeId × Value → H) (W : World) (base : Nat) (args : Array Value) (ds gs : List (DataW H)) (before : List MemPlace)
    (hval : ∀ (j : Nat) t v, Tryd.f5.params[j]? = some t → args[j]? = some v → Value.okWide Tryd.prog W .any base t v)
    (hW : DataW.Whole enc Tryd.prog Tryd.f5.params.toList Rows.replyTellsSpec.vars false W args.toList ds gs before) (hk : Rows.uptoSmall H (ds ++ gs) = true) :
    Calls Tryd.prog 5 args W fun e W' => ∃ v, e = .returned v ∧ Rows.replyTellsSpec.post enc Tryd.prog Tryd.f5 false true false false W args v W' := by
  have hW' := hW
  obtain ⟨p, q, hA0, hV, rfl, hfz, hnd⟩ := hW
  have hA : DataW.TrodAll enc Tryd.prog W 0 (fun _ => true) true Tryd.f5.params.toList args.toList ds p := hA0
  rw [Tryd.params5] at hA hval
  obtain ⟨v0, vs0, d0, ds0, p0, q0, hargs0, rfl, rfl, h0, r0⟩ := trodAll_cons hA
  obtain ⟨v1, vs1, d1, ds1, p1, q1, hargs1, rfl, rfl, h1, r1⟩ := trodAll_cons r0
  obtain ⟨v2, vs2, d2, ds2, p2, q2, hargs2, rfl, rfl, h2, r2⟩ := trodAll_cons r1
  obtain ⟨v3, vs3, d3, ds3, p3, q3, hargs3, rfl, rfl, h3, r3⟩ := trodAll_cons r2
  obtain ⟨rfl, rfl, rfl⟩ := trodAll_nil r3
  obtain rfl : args = #[v0, v1, v2, v3] := by cases args; simp_all
  obtain ⟨rfl, rfl⟩ := trodVars_none hV
  have hbd := bulk_bound hk
  simp only [Rows.uptoBulkAll, List.append_nil] at hbd
  have k0 := h0
  have lt0 : ∀ x ∈ p0, x.block < W.heap.size := by obtain ⟨m, hm⟩ := k0; exact DataW.trod_lt m _ _ _ hm
  obtain ⟨st, rfl, _⟩ := open_bool Tryd.underlying4 (hval 0 4 v0 rfl rfl) h0
  have k1 := h1
  have lt1 : ∀ x ∈ p1, x.block < W.heap.size := by obtain ⟨m, hm⟩ := k1; exact DataW.trod_lt m _ _ _ hm
  obtain ⟨ex, rfl, _⟩ := open_bool Tryd.underlying4 (hval 1 4 v1 rfl rfl) h1
  have k2 := h2
  have lt2 : ∀ x ∈ p2, x.block < W.heap.size := by obtain ⟨m, hm⟩ := k2; exact DataW.trod_lt m _ _ _ hm
  obtain ⟨cs2, rfl, hcs2⟩ := okWide_struct Tryd.underlying29 (hval 2 29 v2 rfl rfl)
  have k3 := h3
  have lt3 : ∀ x ∈ p3, x.block < W.heap.size := by obtain ⟨m, hm⟩ := k3; exact DataW.trod_lt m _ _ _ hm
  obtain ⟨po, pn, pc, rfl⟩ := okWide_slice Tryd.underlying31 (hval 3 31 v3 rfl rfl)
  have hwalk : Calls Tryd.prog 5 #[.bool st, .bool ex, .agg cs2, .slice po pn pc] W fun e w' => e = .returned (.bool true) ∧ Below W.heap.size W w' := by
    obtain ⟨m2, hm2⟩ := h2
    obtain ⟨m3, hm3⟩ := h3
    obtain ⟨fl, ty, ck, off, len, dao, dcap, dl, e1, b1, b2, b3, b4, b5, hcr⟩ := open_req hm2 (by omega)
    obtain ⟨po', pc', P0, e3, ⟨hP, hD⟩, hsum⟩ := open_piecesW hm3 (by omega)
    simp [Value.cells] at e1 e3
    obtain ⟨rfl, rfl, rfl⟩ := e3
    obtain rfl : cs2 = #[.int .u16 (fl : Int), .int .u16 (ty : Int), .int .u64 (ck : Int), .int .u64 (off : Int), .int .u64 (len : Int), .slice dao dl.length dcap] := by rw [← Array.toList_inj]; simpa using e1
    exact replyTells_any st ex fl ty ck off len _ po P0.length pc W P0 hP rfl (fun p hp => by obtain ⟨m, h1, _, h3⟩ := hD p hp; exact ⟨m, h1, h3.row⟩) hsum b1 b3 b4
  clear hA0
  refine hwalk.mono fun e W' ⟨he, bel⟩ => ?_
  subst he
  exact ⟨_, rfl, _, _, _, [], _, [], hW', trodAll_mk1 (shut_bool Tryd.underlying4 _), (trodAll_cons_mk (Below.trod laidOut (by kernel_rfl) (of_decide_eq_true (by kernel_rfl)) k0 bel lt0) (trodAll_cons_mk (Below.trod laidOut (by kernel_rfl) (of_decide_eq_true (by kernel_rfl)) k1 bel lt1) (trodAll_cons_mk (Below.trod laidOut (by kernel_rfl) (of_decide_eq_true (by kernel_rfl)) k2 bel lt2) (trodAll_cons_mk (Below.trod laidOut (by kernel_rfl) (of_decide_eq_true (by kernel_rfl)) k3 bel lt3) trodAll_mk0)))), rfl, bel.frame _, fun h => by cases h⟩
def wit : Array Value := #[.bool false, .bool false, .agg #[.int .u16 0, .int .u16 0, .int .u64 0, .int .u64 0, .int .u64 0, .slice none 0 0], .slice none 0 0]
theorem reads (os : Os) {H : Type} (enc : TypeId × Value → H) : ∃ places, DataW.whole enc Tryd.prog ((putTabs (World.holding Tryd.prog os ⟨#[], #[], []⟩)).forCall (fun _ _ => 0) ⟨#[], wit, []⟩).memory Tryd.f5.params.toList Rows.replyTellsSpec.vars false wit.toList 8 = some ([.lit (.bool false), .lit (.bool false), .agg [.lit (.int .u16 0), .lit (.int .u16 0), .lit (.int .u64 0), .lit (.int .u64 0), .lit (.int .u64 0), .nil], .nil], [], places) :=
  ⟨[], by kernel_rfl⟩
theorem lifted (os : Os) (started : os.Started) (H : Type) (enc : TypeId × Value → H) (F : Stop.Interp) :
    ReturnsInHanded {} Tryd.checked os 5 .any ((Rows.OpenSpec.upto Rows.replyTellsSpec).preRow enc Tryd.prog Tryd.f5 Rows.replyTellsUptoRow.domain false Rows.replyTellsUptoRow.laid) (((Rows.OpenSpec.upto Rows.replyTellsSpec).at F).post enc Tryd.prog Tryd.f5 false true false false) := by
  obtain ⟨places, hx⟩ := reads os enc
  refine returnsInHanded_of_row (C := Tryd.checked) (s := Rows.OpenSpec.upto Rows.replyTellsSpec) own started (by kernel_rfl) Tryd.func5
    (witness_row_atRef (enc := enc) (C := Tryd.checked) false (putTabs (World.holding Tryd.prog os ⟨#[], #[], []⟩)) wit rfl (by kernel_rfl) (by kernel_rfl) (by kernel_rfl)
      (OpenSpec.preRow_of_cond 8 hx (by kernel_rfl) (fun k hk => by cases hk; kernel_rfl) (by kernel_rfl) (laid_met os _))) ?_
  intro W base args ds gs before hval hW _ hk _ hL _ _
  exact contract H enc W base args ds gs before hval hW (hk _ rfl)
theorem said : Rows.ReplyTellsUptoSaid :=
  OpenClaim.holds_of_cond 5 Tryd.f5 rfl rfl rfl rfl rfl rfl rfl ⟨rfl, rfl, rfl, rfl, rfl⟩ rfl rfl rfl rfl rfl (by kernel_rfl) Tryd.func5 (by kernel_rfl)
    (of_decide_eq_true (by kernel_rfl)) (by unfold Func.isWrapper; first | (rw [if_pos (by decide +kernel)]; kernel_rfl) | (rw [if_neg (by decide +kernel)]; exact ⟨rfl, rfl⟩))
    (fun os started H enc _ F => by rw [OpenClaim.pre_eq_preRow]; exact lifted os started H enc F)
theorem plain (f : FuncId) (fn : Func) (hf : Tryd.pinned.checked.prog.funcNamed Tryd.f5.name = some f) (hfn : Tryd.pinned.checked.prog.funcs[f]? = some fn) :
    false = Tryd.pinned.checked.prog.looks [] ∧ ∀ (j : Nat) t, fn.params[j]? = some t → Tryd.pinned.checked.prog.wantsStandIn t = false := by
  obtain rfl : f = 5 := Option.some.inj ((show Tryd.prog.funcNamed Tryd.f5.name = some 5 by kernel_rfl).symm.trans hf) |>.symm
  obtain rfl : fn = Tryd.f5 := (Option.some.inj (Tryd.func5.symm.trans hfn)).symm
  refine ⟨by kernel_rfl, fun j t ht => ?_⟩
  rw [Tryd.params5] at ht
  have hm := Array.mem_of_getElem? ht
  have hall : (#[4, 4, 29, 31] : Array TypeId).all (fun t => Tryd.prog.wantsStandIn t == false) = true := by kernel_rfl
  have := Array.all_eq_true_iff_forall_mem.1 hall t hm
  exact (show Tryd.prog.wantsStandIn t = false by simpa using this)
end Go.Proofs.YtefgdhoapmikhaaDoor.replyTells
namespace Go.Proofs.YtefgdhoapmikhaaDoor
theorem replyTells_proved : Rows.ReplyTellsUptoCardSaid :=
  Claim7.holds_tied_plain_at .later [] _ _ _ _ replyTells.said (fun _ h => by cases h) (by kernel_rfl) (fun _ h => by cases h) replyTellsUpto_row_tie rfl ⟨rfl, rfl⟩ (by kernel_rfl) rfl replyTells.plain (by kernel_rfl)
#print axioms replyTells_proved
end Go.Proofs.YtefgdhoapmikhaaDoor
