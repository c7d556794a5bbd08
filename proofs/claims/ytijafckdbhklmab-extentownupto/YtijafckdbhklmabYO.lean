import Derived.Test.YtijafckdbhklmabYZa
import Derived.Test.YtijafckdbhklmabBulkD
import Derived.Deep.Slices
import Derived.Carry
import Derived.WalkKit
import Derived.ProofKit
import Derived.OpenShut
import Derived.ChangeOld
import Derived.SizedLaws
import Derived.JoinedCond
namespace Go.Proofs.Ytijafckdbhklmab.B
open Go.ChangeShapes Go.WideShapes Go.ChangeAt Go.RowKit Go.Deep
set_option linter.unusedVariables false
set_option maxRecDepth 100000

theorem own : ownKnob Try.prog.godebug = none := by kernel_rfl
theorem laidOut : laidOutB Try.prog = true := by kernel_rfl
theorem cellsRng : Try.prog.cellsOf 57 = 2 := by kernel_rfl
theorem cells2 : Try.prog.cellsOf 2 = 1 := by kernel_rfl
theorem twoV {cs : List Value} (h : cs.length = 2) : ∃ a b, cs = [a, b] := by
  match cs, h with
  | [a, b], _ => exact ⟨a, b, rfl⟩
theorem twoD {H : Type} {cs : List (DataW H × List MemPlace)} (h : cs.length = 2) : ∃ a b, cs = [a, b] := by
  match cs, h with
  | [a, b], _ => exact ⟨a, b, rfl⟩
theorem open_rng {H : Type} {enc : TypeId × Value → H} {W : World} {base fuel : Nat} {cs : List Value} {d : DataW H} {p : List MemPlace} (hf : DataW.trod enc Try.prog W base (fun _ => true) true fuel 57 cs = some (d, p)) :
    ∃ q : Int × Int, cs = [.int .i64 q.1, .int .i64 q.2] := by
  obtain ⟨xs, m, _, hx, hl, hxl, hall⟩ := DataW.trod_struct Try.underlying57 hf
  obtain ⟨a, b, rfl⟩ := twoV (hl.trans cellsRng)
  obtain ⟨y0, y1, rfl⟩ := twoD (show xs.length = 2 from hxl)
  have h0 : DataW.trod enc Try.prog W base (fun _ => true) true m 2 (([a, b].drop 0).take (Try.prog.cellsOf 2)) = some y0 := hall 0 _ rfl
  have h1 : DataW.trod enc Try.prog W base (fun _ => true) true m 2 (([a, b].drop 1).take (Try.prog.cellsOf 2)) = some y1 := hall 1 _ rfl
  rw [cells2] at h0 h1
  obtain ⟨z0, e0, _, _⟩ := DataW.trod_int Try.underlying2 h0
  obtain ⟨z1, e1, _, _⟩ := DataW.trod_int Try.underlying2 h1
  simp at e0 e1
  subst e0; subst e1
  exact ⟨(z0, z1), rfl⟩
/-- a list of ranges that was read -/
theorem open_rngs {H : Type} {enc : TypeId × Value → H} {W : World} {base fuel : Nat} {v : Value} {d : DataW H} {p : List MemPlace} (hf : DataW.trod enc Try.prog W base (fun _ => true) true fuel 48 [v] = some (d, p)) :
    ∃ l : List (Int × Int), ArgS W v l ∧ l.length + 1 ≤ Rows.uptoBulk d := by
  rcases open_slice Try.underlying48 hf with ⟨hcs, hx⟩ | ⟨x, len, cap, m, n, D, Pl, hcs, _, hl, hm, hmm, hx, hel⟩
  · simp at hcs
    subst hcs
    have hd : d = .nil := (Prod.mk.inj hx).1
    exact ⟨[], .inl ⟨rfl, rfl⟩, by rw [hd]; simp [Rows.uptoBulk]⟩
  · simp at hcs
    subst hcs
    have hd : d = .slice ((List.range len).map D) ((List.range (m - len)).map fun j => D (len + j)) := (Prod.mk.inj hx).1
    have hsl := bulk_slice (H := H) ((List.range len).map D) ((List.range (m - len)).map fun j => D (len + j))
    have hs1 := length_le_bulk (H := H) ((List.range len).map D)
    rw [← hd] at hsl
    simp only [List.length_map, List.length_range] at hs1
    have hmc : m = cap := by simpa using hmm
    have hel' : ∀ i, ∃ q : Int × Int, i < len → ∀ j, j < 2 → W.cell? ((x.add (i * 2)).add j) = [Value.int .i64 q.1, .int .i64 q.2][j]? := by
      intro i
      by_cases hi : i < len
      · obtain ⟨cs', hc1, hc2⟩ := hel i (by omega)
        rw [cellsRng] at hc1
        obtain ⟨q, rfl⟩ := open_rng hc2
        exact ⟨q, fun _ => (World.cells?_some hc1).2.2⟩
      · exact ⟨(0, 0), fun h => absurd h hi⟩
    obtain ⟨T, hT⟩ := Classical.axiomOfChoice hel'
    by_cases hz : len = 0
    · subst hz
      exact ⟨[], .inr ⟨x, cap, rfl, fun k p hk => by simp at hk⟩, by simp; omega⟩
    · obtain ⟨pb, po, rfl⟩ : ∃ pb po, x = ⟨pb, po, none⟩ := by
        have h0 := hT 0 (by omega) 0 (by decide)
        have h1 := World.cell?_spot (show W.cell? ((x.add (0 * 2)).add 0) = some (.int .i64 (T 0).1) from h0)
        obtain ⟨b, off, spot⟩ := x
        have : spot = none := by simpa [Addr.add] using h1
        exact ⟨b, off, by rw [this]⟩
      refine ⟨(List.range len).map T, .inr ⟨⟨pb, po, none⟩, cap, by simp, fun k q hk => ?_⟩, by simp; omega⟩
      have hk2 : k < len := by
        have := (List.getElem?_eq_some_iff.1 hk).1
        simpa using this
      have hq : T k = q := by simpa [hk2] using hk
      have g0 := hT k hk2 0 (by decide)
      have g1 := hT k hk2 1 (by decide)
      rw [add_plain, add_plain] at g0 g1
      rw [hq] at g0 g1
      exact ⟨pb, po, rfl, g0, g1⟩
end Go.Proofs.Ytijafckdbhklmab.B
