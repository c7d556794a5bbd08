import Derived.Test.YtijafckdbhklmaaXRe
import Derived.Deep.Slices
import Derived.Carry
import Derived.WalkKit
import Derived.ProofKit
import Derived.OpenShut
namespace Go.Proofs.Ytijafckdbhklmaa.I
open Go.ChangeShapes Go.WideShapes Go.ChangeAt Go.RowKit Go.Deep
set_option linter.unusedVariables false
set_option maxRecDepth 100000

theorem laidOut : laidOutB Try.prog = true := by kernel_rfl
theorem cellsPut : Try.prog.cellsOf 66 = 3 := by kernel_rfl
theorem cells2 : Try.prog.cellsOf 2 = 1 := by kernel_rfl
theorem cells3 : Try.prog.cellsOf 3 = 1 := by kernel_rfl
theorem threeV {cs : List Value} (h : cs.length = 3) : ∃ a b c, cs = [a, b, c] := by
  match cs, h with
  | [a, b, c], _ => exact ⟨a, b, c, rfl⟩
theorem threeD {H : Type} {cs : List (DataW H × List MemPlace)} (h : cs.length = 3) : ∃ a b c, cs = [a, b, c] := by
  match cs, h with
  | [a, b, c], _ => exact ⟨a, b, c, rfl⟩
/-- a Set that was read -/
theorem open_put {H : Type} {enc : TypeId × Value → H} {W : World} {base fuel : Nat} {cs : List Value} {d : DataW H} {p : List MemPlace} (hf : DataW.trod enc Try.prog W base (fun _ => true) true fuel 66 cs = some (d, p)) :
    ∃ q : Put, cs = [.int .i64 q.1, .int .i64 q.2.1, .int .i64 q.2.2] := by
  obtain ⟨xs, m, _, hx, hl, hxl, hall⟩ := DataW.trod_struct Try.underlying66 hf
  obtain ⟨a, b, c, rfl⟩ := threeV (hl.trans cellsPut)
  obtain ⟨y0, y1, y2, rfl⟩ := threeD (show xs.length = 3 from hxl)
  have h0 : DataW.trod enc Try.prog W base (fun _ => true) true m 2 (([a, b, c].drop 0).take (Try.prog.cellsOf 2)) = some y0 := hall 0 _ rfl
  have h1 : DataW.trod enc Try.prog W base (fun _ => true) true m 2 (([a, b, c].drop 1).take (Try.prog.cellsOf 2)) = some y1 := hall 1 _ rfl
  have h2 : DataW.trod enc Try.prog W base (fun _ => true) true m 3 (([a, b, c].drop 2).take (Try.prog.cellsOf 3)) = some y2 := hall 2 _ rfl
  rw [cells2] at h0 h1
  rw [cells3] at h2
  obtain ⟨z0, e0, _, _⟩ := DataW.trod_int Try.underlying2 h0
  obtain ⟨z1, e1, _, _⟩ := DataW.trod_int Try.underlying2 h1
  obtain ⟨z2, e2, _, _⟩ := DataW.trod_int Try.underlying3 h2
  simp at e0 e1 e2
  subst e0; subst e1; subst e2
  exact ⟨(z0, z1, z2), rfl⟩
/-- a list of Sets that was read -/
theorem open_puts {H : Type} {enc : TypeId × Value → H} {W : World} {base fuel : Nat} {a0 : Option Addr} {len0 cap0 : Nat} {d : DataW H} {p : List MemPlace} (hf : DataW.trod enc Try.prog W base (fun _ => true) true fuel 51 [.slice a0 len0 cap0] = some (d, p)) :
    ∃ l : List Put, len0 = l.length ∧ len0 ≤ 9223372036854775807 ∧ Puts W a0 l := by
  rcases open_slice Try.underlying51 hf with ⟨hcs, _⟩ | ⟨x, len, cap, m, n, D, Pl, hcs, _, hl, hm, hmm, hx, hel⟩
  · simp at hcs
    obtain ⟨rfl, rfl, rfl⟩ := hcs
    exact ⟨[], rfl, by omega, fun k q hk => by simp at hk⟩
  · simp at hcs
    obtain ⟨rfl, rfl, rfl⟩ := hcs
    have hmc : m = cap0 := by simpa using hmm
    have hmax : maxLen ≤ 9223372036854775807 := by unfold maxLen; omega
    have hel' : ∀ i, ∃ q : Put, i < len0 → ∀ j, j < 3 → W.cell? ((x.add (i * 3)).add j) = [Value.int .i64 q.1, .int .i64 q.2.1, .int .i64 q.2.2][j]? := by
      intro i
      by_cases hi : i < len0
      · obtain ⟨cs', hc1, hc2⟩ := hel i (by omega)
        rw [cellsPut] at hc1
        obtain ⟨q, rfl⟩ := open_put hc2
        exact ⟨q, fun _ => (World.cells?_some hc1).2.2⟩
      · exact ⟨(0, 0, 0), fun h => absurd h hi⟩
    obtain ⟨T, hT⟩ := Classical.axiomOfChoice hel'
    refine ⟨(List.range len0).map T, by simp, by omega, fun k q hk => ?_⟩
    have hk2 : k < len0 := by
      have := (List.getElem?_eq_some_iff.1 hk).1
      simpa using this
    have hq : T k = q := by simpa [hk2] using hk
    obtain ⟨pb, po, rfl⟩ : ∃ pb po, x = ⟨pb, po, none⟩ := by
      have h0 := hT 0 (by omega) 0 (by decide)
      have h1 := World.cell?_spot (show W.cell? ((x.add (0 * 3)).add 0) = some (.int .i64 (T 0).1) from h0)
      obtain ⟨b, off, spot⟩ := x
      have : spot = none := by simpa [Addr.add] using h1
      exact ⟨b, off, by rw [this]⟩
    have g0 := hT k hk2 0 (by decide)
    have g1 := hT k hk2 1 (by decide)
    have g2 := hT k hk2 2 (by decide)
    rw [add_plain, add_plain] at g0 g1 g2
    rw [hq] at g0 g1 g2
    exact ⟨pb, po, rfl, g0, g1, g2⟩
end Go.Proofs.Ytijafckdbhklmaa.I
