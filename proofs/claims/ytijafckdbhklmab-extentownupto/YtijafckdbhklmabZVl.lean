import Derived.Test.YtijafckdbhklmabZU
import Derived.Deep.RegionHeld3
namespace Go.Proofs.Ytijafckdbhklmab.B
open Go.RowKit Go.Sort Go.Lib Go.Shelf
attribute [local go_sem] Oper.semAt_some
set_option linter.unusedVariables false
set_option linter.unusedSimpArgs false
set_option maxRecDepth 100000

theorem rngs_row {w : World} {B g n c : Nat} {L : List (Int × Int)} (h : w.ownsRow B TRng 2 (.slice (some ⟨g, 0, none⟩) n c) n (pcells L)) : Rngs w (some ⟨g, 0, none⟩) L := fun k p hk => by
  refine ⟨g, 0, rfl, ?_⟩
  obtain ⟨h1, h2⟩ := pcells_get L k p hk
  have c1 := h.cells (g := g) rfl _ _ h1
  have c2 := h.cells (g := g) rfl _ _ h2
  rw [WideShapes.add_plain] at c1 c2
  exact ⟨c1, by rw [Nat.add_assoc]; exact c2⟩
theorem rngs_pre {w : World} {ao : Option Addr} {l : List (Int × Int)} (h : Rngs w ao (fullR l)) : Rngs w ao l := fun k p hk => h k p (fullR_in hk)

theorem OwnI.later {w2 W W' : World} {la lb : List (Int × Int)} {k : Nat} {ps : List (Value × List (Int × Int))} {v : Value} (h : OwnI w2 la lb k ps v W) (hb : Below W.heap.size W W') : OwnI w2 la lb k ps v W' :=
  ⟨h.len, h.norm, h.pile.later hb, owns_later h.row hb, h.bel.trans (hb.mono h.bel.size)⟩
theorem OwnI.cell {w2 W : World} {la lb : List (Int × Int)} {k g c : Nat} {ps : List (Value × List (Int × Int))} (h : OwnI w2 la lb k ps (.slice (some ⟨g, 0, none⟩) ps.length c) W) {j : Nat} {p : Value × List (Int × Int)} (hj : ps[j]? = some p) : W.cell? ⟨g, j, none⟩ = some p.1 := by
  have c1 := h.row.cells (g := g) rfl j p.1 (by rw [List.getElem?_map, hj]; rfl)
  rw [WideShapes.add_plain, Nat.zero_add] at c1
  exact c1
theorem OwnI.sl {w2 W : World} {la lb : List (Int × Int)} {k : Nat} {ps : List (Value × List (Int × Int))} {v : Value} (h : OwnI w2 la lb k ps v W) {j : Nat} {p : Value × List (Int × Int)} (hj : ps[j]? = some p) : SL W p.1 p.2 :=
  sl_row (h.pile.own p (List.mem_of_getElem? hj)) (by have := norm_len (h.norm j p hj); omega)

end Go.Proofs.Ytijafckdbhklmab.B
