import Derived.Test.YtodinademhibjaaDoorCards
import Derived.Test.YtodinademhibjaaDoorTie
import Derived.Test.YtodinademhibjaaDoorRuA
import Derived.ProofKit
import Derived.OpenShut
import Derived.ShutString
import Derived.ChangeOld
import Derived.SizedLaws
import Derived.JoinedCond
import Derived.Deep.DeepHandedRow
import Derived.Lib.LaidTab
import Derived.Lib.LaidIn
import Derived.Lib.LaidU8
import Derived.Deep.DeepWitnessRowRef
namespace Go.Proofs.YtodinademhibjaaDoor
open Go.ChangeShapes Go.WideShapes Go.ChangeAt Go.RowKit Go.Lib
set_option linter.unusedVariables false
set_option linter.unusedSimpArgs false
set_option maxRecDepth 100000

theorem own : ownKnob Tryd.prog.godebug = none := by kernel_rfl
theorem laidOut : laidOutB Tryd.prog = true := by kernel_rfl
abbrev theLaid := Rows.ruleCommandsRow.laid
def rowD (c : Nat) : DataW Unit := .agg [.lit (.int .u16 (flOf c : Int)), .lit (.bool (chOf c)), .lit (.bool (caOf c)), .lit (.int .u32 (beOf c : Int))]
theorem tab_eq : (Rows.laid_spindle_rule_commands : DataW Unit) = .agg ((List.range 8).map rowD) := by kernel_rfl
theorem cells_row : Tryd.prog.cellsOf 44 = 4 := by kernel_rfl
theorem cells_u16 : Tryd.prog.cellsOf 22 = 1 := by kernel_rfl
theorem cells_u32 : Tryd.prog.cellsOf 25 = 1 := by kernel_rfl
theorem cells_b : Tryd.prog.cellsOf 4 = 1 := by kernel_rfl
theorem take1 {cs : List Value} {j : Nat} {v : Value} (h : (cs.drop j).take 1 = [v]) : cs[j]? = some v := by
  have := congrArg (·[0]?) h
  simpa [List.getElem?_take, List.getElem?_drop] using this
/-- what a row of the table reads as is what lies there -/
theorem row_cells {enc : TypeId × Value → Unit} {w : World} {base : Nat} {sp : Nat → Bool} {held : Bool} {fuel : Nat} {cs : List Value} {x : Nat} {p : List MemPlace}
    (h : DataW.trod enc Tryd.prog w base sp held fuel 44 cs = some (rowD x, p)) : cs = rowC x := by
  obtain ⟨xs, n, rfl, hx, hl, hxl, hall⟩ := DataW.trod_struct Tryd.underlying44 h
  rw [cells_row] at hl
  have h0 := hall 0 _ rfl
  have h1 := hall 1 _ rfl
  have h2 := hall 2 _ rfl
  have h3 := hall 3 _ rfl
  obtain ⟨y0, hy0⟩ : ∃ y, xs[0]? = some y := ⟨_, List.getElem?_eq_getElem (by rw [hxl]; decide)⟩
  obtain ⟨y1, hy1⟩ : ∃ y, xs[1]? = some y := ⟨_, List.getElem?_eq_getElem (by rw [hxl]; decide)⟩
  obtain ⟨y2, hy2⟩ : ∃ y, xs[2]? = some y := ⟨_, List.getElem?_eq_getElem (by rw [hxl]; decide)⟩
  obtain ⟨y3, hy3⟩ : ∃ y, xs[3]? = some y := ⟨_, List.getElem?_eq_getElem (by rw [hxl]; decide)⟩
  simp only [cells_u16, cells_u32, cells_b, hy0, hy1, hy2, hy3] at h0 h1 h2 h3
  obtain ⟨a, e0, rfl, _⟩ := DataW.trod_int Tryd.underlying22 h0
  obtain ⟨b, e1, rfl⟩ := DataW.trod_bool Tryd.underlying4 h1
  obtain ⟨c, e2, rfl⟩ := DataW.trod_bool Tryd.underlying4 h2
  obtain ⟨d, e3, rfl, _⟩ := DataW.trod_int Tryd.underlying25 h3
  have hd : xs.map (·.1) = [.lit (.int .u16 (flOf x : Int)), .lit (.bool (chOf x)), .lit (.bool (caOf x)), .lit (.int .u32 (beOf x : Int))] := by
    have := congrArg Prod.fst hx
    simp only [rowD, DataW.agg.injEq] at this
    exact this.symm
  have d0 := congrArg (·[0]?) hd
  have d1 := congrArg (·[1]?) hd
  have d2 := congrArg (·[2]?) hd
  have d3 := congrArg (·[3]?) hd
  simp [hy0] at d0
  simp [hy1] at d1
  simp [hy2] at d2
  simp [hy3] at d3
  subst d0 d1 d2 d3
  have c0 := take1 e0
  have c1 := take1 e1
  have c2 := take1 e2
  have c3 := take1 e3
  apply List.ext_getElem?
  intro i
  match i with
  | 0 => exact c0
  | 1 => exact c1
  | 2 => exact c2
  | 3 => exact c3
  | i + 4 => rw [List.getElem?_eq_none (by omega)]; rfl
theorem flat_of : ∀ (l : List Nat) (cs : List Value), cs.length = 4 * l.length → (∀ i x, l[i]? = some x → (cs.drop (i * 4)).take 4 = rowC x) → cs = l.flatMap rowC
  | [], cs, h, _ => List.eq_nil_of_length_eq_zero (by simpa using h)
  | y :: l, cs, h, hc => by
    have h0 := hc 0 y rfl
    have ih := flat_of l (cs.drop 4) (by rw [List.length_drop, h, List.length_cons]; omega) (fun i x hx => by
      have := hc (i + 1) x (by simpa using hx)
      rw [List.drop_drop]
      rwa [show (i + 1) * 4 = 4 + i * 4 by omega] at this)
    rw [Nat.zero_mul, List.drop_zero] at h0
    rw [← List.take_append_drop 4 cs, h0, ih]; rfl
theorem arr_cells {enc : TypeId × Value → Unit} {w : World} {base : Nat} {sp : Nat → Bool} {held : Bool} {fuel : Nat} {t : TypeId} {m : Nat} {cs : List Value} {l : List Nat} {p : List MemPlace} (ht : Tryd.prog.underlying t = some (.array m 44)) (hct : Tryd.prog.cellsOf t = m * 4) (hm : l.length = m)
    (h : DataW.trod enc Tryd.prog w base sp held fuel t cs = some (.agg (l.map rowD), p)) : cs = l.flatMap rowC := by
  have hlen : cs.length = m * 4 := by
    cases fuel with
    | zero => simp [DataW.trod] at h
    | succ fuel =>
      have h' := h
      simp only [DataW.trod, ht, hct] at h'
      split at h'
      · rename_i hl
        first | exact hl | exact hl.1 | omega | simpa using hl
      · cases h'
  refine flat_of l cs (by rw [hlen, hm]; omega) (fun i x hx => ?_)
  obtain ⟨fuel', d, q, hd, he⟩ := array_elem ht h i (by rw [← hm]; exact (List.getElem?_eq_some_iff.1 hx).1)
  rw [List.getElem?_map, hx] at hd
  simp only [Option.map_some, Option.some.injEq] at hd
  subst hd
  rw [cells_row] at he
  exact row_cells he
theorem block_of {W : World} {name : String} {g : Nat} {cs : Array Value} (hg : Tryd.prog.globalNamed name = some g) (h : W.var? Tryd.prog name = some cs) : ∃ t fr, W.heap[g]? = some (.cells cs t fr) := by
  simp only [World.var?, hg, Option.bind_some] at h
  split at h
  · rename_i t fr hh
    cases h
    exact ⟨_, _, hh⟩
  · cases h
theorem tb_of {W : World} (hL : laidMetH Tryd.prog theLaid W) : Tb W := by
  have h1 := Lib.laidMet.reads hL (.head _)
  rw [tab_eq] at h1
  obtain ⟨g, t, cs, fuel, p, hg, hty, hvar, hd⟩ := h1
  obtain rfl : g = 0 := Option.some.inj (hg.symm.trans (by kernel_rfl))
  obtain rfl : t = 45 := Option.some.inj (hty.symm.trans (by kernel_rfl))
  have e1 := arr_cells Tryd.underlying45 (by kernel_rfl) (l := List.range 8) rfl hd
  have e1' : cs = tabL.toArray := by apply Array.toList_inj.1; rw [e1]; rfl
  subst e1'
  exact ⟨block_of hg hvar⟩
/-- the world with the table laid -/
def putTab (w0 : World) : World :=
  let put (h : Array Obj) (g : Nat) (cs : Array Value) : Array Obj := h.modify g fun
    | .cells _ t frozen => .cells cs t frozen
    | o => o
  { w0 with heap := put w0.heap 0 tabL.toArray }
theorem laid_met (os : Os) (args : Array Value) : laidMet Tryd.prog theLaid ((putTab (World.holding Tryd.prog os ⟨#[], #[], []⟩)).forCall (fun _ _ => 0) ⟨#[], args, []⟩).memory :=
  (LaidIn.of_run (l := theLaid) [0] 8 (by kernel_rfl) (by kernel_rfl) (by kernel_rfl) (by kernel_rfl)).met
end Go.Proofs.YtodinademhibjaaDoor
