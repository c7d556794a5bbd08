import Derived.Test.YtjikibhhhchgeaaDoorCards
import Derived.Test.YtjikibhhhchgeaaDoorTie
import Derived.Test.YtjikibhhhchgeaaDoorJT
import Derived.ProofKit
import Derived.OpenShut
import Derived.ShutString
import Derived.ChangeOld
import Derived.SizedLaws
import Derived.JoinedCond
import Derived.Deep.DeepHandedRow
import Derived.Lib.LaidTab
import Derived.Lib.LaidIn
import Derived.Lib.LaidU8
import Derived.Lib.LaidU8T
import Derived.PinnedBridge
import Derived.Test.YtjikibhhhchgeaaDoorPlainW
import Derived.Deep.DeepWitnessRowRef
import Derived.Test.YtjikibhhhchgeaaDoorRows
import Derived.Deep.Slices
namespace Go.Proofs.YtjikibhhhchgeaaDoor
open Go.ChangeShapes Go.WideShapes Go.ChangeAt Go.RowKit Go.Lib
set_option linter.unusedVariables false
set_option linter.unusedSimpArgs false
set_option maxRecDepth 100000

theorem own : ownKnob Tryd.prog.godebug = none := by kernel_rfl
theorem laidOut : laidOutB Tryd.prog = true := by kernel_rfl
theorem bytes5 : Tryd.prog.bytesOf 5 = 1 := by kernel_rfl
abbrev theLaid := Rows.wirePacksRow.laid
def Rw.datum (x : Rw) : DataW Unit := .agg [.lit (.int .i64 (x.t : Int)), .lit (.int .u32 (x.n : Int)), .lit (.string (x.s.map UInt8.ofNat))]
theorem hag_eq : (Rows.laid_spindle_wire_haggled : DataW Unit) = .agg (hagL.map Rw.datum) := by kernel_rfl
theorem tra_eq : (Rows.laid_spindle_wire_transmitted : DataW Unit) = .agg (traL.map Rw.datum) := by kernel_rfl
theorem cells_row : Tryd.prog.cellsOf TRow = 3 := by kernel_rfl
theorem cells_i : Tryd.prog.cellsOf 3 = 1 := by kernel_rfl
theorem cells_u : Tryd.prog.cellsOf 24 = 1 := by kernel_rfl
theorem cells_s : Tryd.prog.cellsOf 9 = 1 := by kernel_rfl
theorem take1 {cs : List Value} {j : Nat} {v : Value} (h : (cs.drop j).take 1 = [v]) : cs[j]? = some v := by
  have := congrArg (·[0]?) h
  simpa [List.getElem?_take, List.getElem?_drop] using this
/-- what a row of a table reads as is what lies there -/
theorem row_cells {enc : TypeId × Value → Unit} {w : World} {base : Nat} {sp : Nat → Bool} {held : Bool} {fuel : Nat} {cs : List Value} {x : Rw} {p : List MemPlace}
    (h : DataW.trod enc Tryd.prog w base sp held fuel TRow cs = some (x.datum, p)) : cs = x.cells := by
  obtain ⟨xs, n, rfl, hx, hl, hxl, hall⟩ := DataW.trod_struct Tryd.underlying173 h
  rw [cells_row] at hl
  have h0 := hall 0 _ rfl
  have h1 := hall 1 _ rfl
  have h2 := hall 2 _ rfl
  obtain ⟨y0, hy0⟩ : ∃ y, xs[0]? = some y := ⟨_, List.getElem?_eq_getElem (by rw [hxl]; decide)⟩
  obtain ⟨y1, hy1⟩ : ∃ y, xs[1]? = some y := ⟨_, List.getElem?_eq_getElem (by rw [hxl]; decide)⟩
  obtain ⟨y2, hy2⟩ : ∃ y, xs[2]? = some y := ⟨_, List.getElem?_eq_getElem (by rw [hxl]; decide)⟩
  simp only [cells_i, cells_u, cells_s, hy0, hy1, hy2] at h0 h1 h2
  obtain ⟨a, e0, rfl, _⟩ := DataW.trod_int Tryd.underlying3 h0
  obtain ⟨b, e1, rfl, _⟩ := DataW.trod_int Tryd.underlying24 h1
  obtain ⟨s, e2, rfl, _⟩ := DataW.trod_string Tryd.underlying9 h2
  have hd : xs.map (·.1) = [.lit (.int .i64 (x.t : Int)), .lit (.int .u32 (x.n : Int)), .lit (.string (x.s.map UInt8.ofNat))] := by
    have := congrArg Prod.fst hx
    simp only [Rw.datum, DataW.agg.injEq] at this
    exact this.symm
  have d0 := congrArg (·[0]?) hd
  have d1 := congrArg (·[1]?) hd
  have d2 := congrArg (·[2]?) hd
  simp [hy0] at d0
  simp [hy1] at d1
  simp [hy2] at d2
  subst d0 d1
  have hs : s = bstr x.s := by
    apply ByteArray.ext
    show s.data = (x.s.map UInt8.ofNat).toArray
    rw [← d2]
  subst hs
  have c0 := take1 e0
  have c1 := take1 e1
  have c2 := take1 e2
  apply List.ext_getElem?
  intro i
  match i with
  | 0 => exact c0
  | 1 => exact c1
  | 2 => exact c2
  | i + 3 => rw [List.getElem?_eq_none (by omega)]; rfl
theorem flat_of : ∀ (l : List Rw) (cs : List Value), cs.length = 3 * l.length → (∀ i x, l[i]? = some x → (cs.drop (i * 3)).take 3 = x.cells) → cs = flat l
  | [], cs, h, _ => List.eq_nil_of_length_eq_zero (by simpa using h)
  | y :: l, cs, h, hc => by
    have h0 := hc 0 y rfl
    have ih := flat_of l (cs.drop 3) (by rw [List.length_drop, h, List.length_cons]; omega) (fun i x hx => by
      have := hc (i + 1) x (by simpa using hx)
      rw [List.drop_drop]
      rwa [show (i + 1) * 3 = 3 + i * 3 by omega] at this)
    rw [Nat.zero_mul, List.drop_zero] at h0
    rw [← List.take_append_drop 3 cs, h0, ih]; rfl
theorem arr_cells {enc : TypeId × Value → Unit} {w : World} {base : Nat} {sp : Nat → Bool} {held : Bool} {fuel : Nat} {t : TypeId} {m : Nat} {cs : List Value} {l : List Rw} {p : List MemPlace} (ht : Tryd.prog.underlying t = some (.array m TRow)) (hct : Tryd.prog.cellsOf t = m * 3) (hm : l.length = m)
    (h : DataW.trod enc Tryd.prog w base sp held fuel t cs = some (.agg (l.map Rw.datum), p)) : cs = flat l := by
  have hlen : cs.length = m * 3 := by
    cases fuel with
    | zero => simp [DataW.trod] at h
    | succ fuel =>
      have h' := h
      simp only [DataW.trod, ht, hct] at h'
      split at h'
      · rename_i hl
        first | exact hl | exact hl.1 | omega | simpa using hl
      · cases h'
  refine flat_of l cs (by rw [hlen, hm]; omega) (fun i x hx => ?_)
  obtain ⟨fuel', d, q, hd, he⟩ := array_elem ht h i (by rw [← hm]; exact (List.getElem?_eq_some_iff.1 hx).1)
  rw [List.getElem?_map, hx] at hd
  simp only [Option.map_some, Option.some.injEq] at hd
  subst hd
  rw [cells_row] at he
  exact row_cells he
theorem block_of {W : World} {name : String} {g : Nat} {cs : Array Value} (hg : Tryd.prog.globalNamed name = some g) (h : W.var? Tryd.prog name = some cs) : ∃ t fr, W.heap[g]? = some (.cells cs t fr) := by
  simp only [World.var?, hg, Option.bind_some] at h
  split at h
  · rename_i t fr hh
    cases h
    exact ⟨_, _, hh⟩
  · cases h
theorem tb_of {W : World} (hL : laidMetH Tryd.prog theLaid W) : Tb W := by
  have h1 := Lib.laidMet.reads hL (.tail _ (.head _))
  have h2 := Lib.laidMet.reads hL (.tail _ (.tail _ (.head _)))
  rw [hag_eq] at h1
  rw [tra_eq] at h2
  obtain ⟨g, t, cs, fuel, p, hg, hty, hvar, hd⟩ := h1
  obtain ⟨g', t', cs', fuel', p', hg', hty', hvar', hd'⟩ := h2
  obtain rfl : g = 0 := Option.some.inj (hg.symm.trans (by kernel_rfl))
  obtain rfl : g' = 1 := Option.some.inj (hg'.symm.trans (by kernel_rfl))
  obtain rfl : t = 194 := Option.some.inj (hty.symm.trans (by kernel_rfl))
  obtain rfl : t' = 195 := Option.some.inj (hty'.symm.trans (by kernel_rfl))
  have e1 := arr_cells Tryd.underlying194 (by kernel_rfl) (l := hagL) rfl hd
  have e2 := arr_cells Tryd.underlying195 (by kernel_rfl) (l := traL) rfl hd'
  have e1' : cs = (flat hagL).toArray := by apply Array.toList_inj.1; rw [e1]
  have e2' : cs' = (flat traL).toArray := by apply Array.toList_inj.1; rw [e2]
  subst e1' e2'
  exact ⟨block_of hg hvar, block_of hg' hvar'⟩

theorem accept_eq : (Rows.laid_unicode_utf8_acceptRanges : DataW Unit) = Lib.acceptData := by kernel_rfl
theorem first_eq : Rows.laid_unicode_utf8_first = Lib.firstData := Pinned.utf8First_eq
theorem tabs_of {W : World} (hL : laidMetH Tryd.prog theLaid W) : Tabs W := by
  have h1 := Lib.laidMet.reads hL (.head _)
  have h2 := Lib.laidMet.reads hL (.tail _ (.tail _ (.tail _ (.head _))))
  rw [accept_eq] at h1
  rw [first_eq] at h2
  exact utf8Tabs_of_readsT (U8Types.of196 Tryd.laysValid) ⟨by kernel_rfl, by kernel_rfl, by kernel_rfl, by kernel_rfl, by kernel_rfl, by kernel_rfl, by kernel_rfl⟩ h2 h1
/-- the world with the four tables laid -/
def putTabs (w0 : World) : World :=
  let put (h : Array Obj) (g : Nat) (cs : Array Value) : Array Obj := h.modify g fun
    | .cells _ t frozen => .cells cs t frozen
    | o => o
  let h1 := put w0.heap 0 (flat hagL).toArray
  let h2 := put h1 1 (flat traL).toArray
  let h3 := put h2 2 (Lib.firstTab.map fun z => Value.int .u8 z).toArray
  let h4 := put h3 3 ((List.range 16).flatMap fun i => [Value.int .u8 (Lib.accLo i), Value.int .u8 (Lib.accHi i)]).toArray
  { w0 with heap := h4 }
theorem laid_met (os : Os) (args : Array Value) : laidMet Tryd.prog theLaid ((putTabs (World.holding Tryd.prog os ⟨#[], #[], []⟩)).forCall (fun _ _ => 0) ⟨#[], args, []⟩).memory :=
  (LaidIn.of_run (l := theLaid) [3, 0, 1, 2] 8 (by kernel_rfl) (by kernel_rfl) (by kernel_rfl) (by kernel_rfl)).met
end Go.Proofs.YtjikibhhhchgeaaDoor

namespace Go.Proofs.YtjikibhhhchgeaaDoor
open _root_.Go.Proofs.YtjikibhhhchgeaaDoor.Rows (uptoBulk uptoBulkAll uptoSmall)

theorem bulk_pos {H : Type} (d : DataW H) : 0 < uptoBulk d := by
  rcases d with l | _ | _ | _ | _ | _ | _ | _
  · cases l <;> simp [uptoBulk]
  all_goals simp [uptoBulk]
theorem bulkAll_append {H : Type} : ∀ l r : List (DataW H), uptoBulkAll (l ++ r) = uptoBulkAll l + uptoBulkAll r
  | [], r => by simp [uptoBulkAll]
  | d :: l, r => by simp only [List.cons_append, uptoBulkAll]; rw [bulkAll_append l r]; omega
theorem bulk_le_all {H : Type} {d : DataW H} {l : List (DataW H)} (h : d ∈ l) : uptoBulk d ≤ uptoBulkAll l := by
  obtain ⟨a, b, rfl⟩ := List.append_of_mem h
  rw [bulkAll_append]; simp only [uptoBulkAll]; omega
theorem length_le_bulk {H : Type} : ∀ l : List (DataW H), l.length ≤ uptoBulkAll l
  | [] => Nat.zero_le _
  | d :: l => by have := length_le_bulk l; have := bulk_pos d; simp only [uptoBulkAll, List.length_cons]; omega
theorem bulk_slice {H : Type} (es sp : List (DataW H)) : uptoBulk (.slice es sp) = uptoBulkAll es + uptoBulkAll sp + 1 := by simp [uptoBulk]
theorem bulk_bound {H : Type} {l : List (DataW H)} (h : uptoSmall H l = true) : uptoBulkAll l ≤ 1048576 := of_decide_eq_true h
end Go.Proofs.YtjikibhhhchgeaaDoor

namespace Go.Proofs.YtjikibhhhchgeaaDoor
open Go.ChangeShapes Go.WideShapes Go.ChangeAt Go.RowKit Go.Lib
open Go.Deep
set_option linter.unusedVariables false
set_option linter.unusedSimpArgs false
set_option maxRecDepth 100000

theorem brow_ints (W : World) (x : Addr) (len cap : Nat) (zs : List Int) (hl : len ≤ zs.length) (hlen : len ≤ 140737488351232)
    (hcell : ∀ i, i < zs.length → W.cell? (x.add i) = some (.int .u8 (zs.getD i 0))) (hw : ∀ n ∈ zs, (Lit.int .u8 n).wf = true) :
    ∃ l : List Nat, l.length = len ∧ BRow W (some x) cap l := by
  have hb : ∀ i (hi : i < zs.length), 0 ≤ zs[i] ∧ zs[i] ≤ 255 := fun i hi => by
    have := bounds_u8 (hw _ (List.getElem_mem hi)); omega
  refine ⟨(zs.take len).map Int.toNat, by simp; omega, ⟨?_, by simp; omega, fun h => by simp at h, ?_⟩⟩
  · intro y hy
    obtain ⟨z, hz, rfl⟩ := List.mem_map.1 hy
    have hz' := List.mem_of_mem_take hz
    have := bounds_u8 (hw z hz'); omega
  · intro hne
    have hpos : 0 < len := by
      rcases Nat.eq_zero_or_pos len with h | h
      · subst h; simp at hne
      · exact h
    obtain ⟨b, off, rfl, hc⟩ := ints_at hcell (by omega)
    refine ⟨b, off, rfl, fun k hk => ?_⟩
    have hk' : k < len := by simp at hk; omega
    have h1 := hcell k (by omega)
    rw [add_plain] at h1
    rw [h1]
    have h2 := hb k (by omega)
    simp [bv, show k < zs.length by omega]
    omega

/-- a []byte that was read, in a slot or in a cell: its bytes -/
theorem open_bytes {H : Type} {enc : TypeId × Value → H} {W : World} {base fuel : Nat} {cs : List Value} {d : DataW H} {p : List MemPlace} (hf : DataW.trod enc Tryd.prog W base (fun _ => true) true fuel 25 cs = some (d, p)) (hb : Rows.uptoBulk d ≤ 1048576) :
    ∃ (ao : Option Addr) (cap : Nat) (l : List Nat), cs = [.slice ao l.length cap] ∧ BRow W ao cap l ∧ l.length + 1 ≤ Rows.uptoBulk d := by
  rcases open_ints Tryd.underlying25 Tryd.underlying5 (by kernel_rfl) hf with ⟨hcs, hx⟩ | ⟨x, l, c, zs, hcs, _, hl, hm, hz, hx, hcell, hwz⟩
  · have hd : d = .nil := (Prod.mk.inj hx).1
    exact ⟨none, 0, [], hcs, ⟨by simp, by simp, fun _ => ⟨rfl, rfl⟩, fun h => absurd rfl h⟩, by rw [hd]; simp [Rows.uptoBulk]⟩
  · have hd : d = .slice (lits .u8 (zs.take l)) (lits .u8 (zs.drop l)) := (Prod.mk.inj hx).1
    have hz' : zs.length = c := by simpa using hz
    have hsl := bulk_slice (lits (H := H) .u8 (zs.take l)) (lits .u8 (zs.drop l))
    have hs1 := length_le_bulk (lits (H := H) .u8 (zs.take l))
    have hs2 := length_le_bulk (lits (H := H) .u8 (zs.drop l))
    rw [← hd] at hsl
    simp only [lits, List.length_map, List.length_take, List.length_drop] at hsl hs1 hs2
    obtain ⟨m, hm1, hm2⟩ := brow_ints W x l c zs (by omega) (by omega) hcell hwz
    subst hm1
    exact ⟨some x, c, m, hcs, hm2, by omega⟩

end Go.Proofs.YtjikibhhhchgeaaDoor
