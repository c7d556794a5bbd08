import Derived.Test.YtpkobgnbjmefnabDoorOpenB
namespace Go.Proofs.YtpkobgnbjmefnabDoor
open Go.ChangeShapes Go.WideShapes Go.ChangeAt Go.RowKit Go.Lib
open Go.ChangeMaps (open_string shut_string)
open Go.Deep
set_option linter.unusedVariables false
set_option maxRecDepth 100000

theorem two {cs : List Value} (h : cs.length = 2) : ∃ a b, cs = [a, b] := by
  match cs, h with
  | [a, b], _ => exact ⟨a, b, rfl⟩
theorem twoD {H : Type} {cs : List (DataW H × List MemPlace)} (h : cs.length = 2) : ∃ a b, cs = [a, b] := by
  match cs, h with
  | [a, b], _ => exact ⟨a, b, rfl⟩
theorem cellsRd : Tryd.prog.cellsOf 55 = 2 := by kernel_rfl

/-- an entry of a row of readings -/
theorem open_read {H : Type} {enc : TypeId × Value → H} {W : World} {base fuel : Nat} {cs : List Value} {d : DataW H} {p : List MemPlace} (hf : DataW.trod enc Tryd.prog W base (fun _ => true) true fuel 55 cs = some (d, p)) :
    ∃ kd n : Int, cs = [.int .i64 kd, .int .i64 n] ∧ n ≤ 9223372036854775807 := by
  obtain ⟨xs, m, _, hx, hl, hxl, hall⟩ := DataW.trod_struct Tryd.underlying55 hf
  obtain ⟨a, b, rfl⟩ := two (hl.trans cellsRd)
  obtain ⟨y0, y1, rfl⟩ := twoD (show xs.length = 2 from hxl)
  have h0 : DataW.trod enc Tryd.prog W base (fun _ => true) true m 3 (([a, b].drop 0).take (Tryd.prog.cellsOf 3)) = some y0 := hall 0 _ rfl
  have h1 : DataW.trod enc Tryd.prog W base (fun _ => true) true m 3 (([a, b].drop 1).take (Tryd.prog.cellsOf 3)) = some y1 := hall 1 _ rfl
  rw [cells3] at h0 h1
  obtain ⟨z0, e0, _, _⟩ := DataW.trod_int Tryd.underlying3 h0
  obtain ⟨z1, e1, _, w1⟩ := DataW.trod_int Tryd.underlying3 h1
  simp at e0 e1
  subst e0; subst e1
  have hb1 := bounds_i64 w1
  exact ⟨z0, z1, rfl, by omega⟩

/-- a row of readings that was read -/
theorem open_reads {H : Type} {enc : TypeId × Value → H} {W : World} {base fuel : Nat} {a0 : Option Addr} {len0 cap0 : Nat} {d : DataW H} {p : List MemPlace} (hf : DataW.trod enc Tryd.prog W base (fun _ => true) true fuel 38 [.slice a0 len0 cap0] = some (d, p)) (hb : Rows.uptoBulk d ≤ 1048576) :
    len0 ≤ 1048576 ∧ ∃ X : Nat → Int × Int, ∀ i, i < len0 → ∃ sb so, a0 = some ⟨sb, so, none⟩ ∧ ∀ i, i < len0 → W.cell? ⟨sb, so + i * 2, none⟩ = some (.int .i64 (X i).1) ∧ W.cell? ⟨sb, so + i * 2 + 1, none⟩ = some (.int .i64 (X i).2) ∧ (X i).2 ≤ 9223372036854775807 := by
  rcases open_slice Tryd.underlying38 hf with ⟨hcs, _⟩ | ⟨x, len, cap, m, n, D, Pl, hcs, _, hl, hm, hmm, hx, hel⟩
  · simp at hcs
    obtain ⟨_, rfl, _⟩ := hcs
    exact ⟨by omega, fun _ => (0, 0), fun i hi => by omega⟩
  · simp at hcs
    obtain ⟨rfl, rfl, rfl⟩ := hcs
    have hd : d = .slice ((List.range len0).map D) ((List.range (m - len0)).map fun j => D (len0 + j)) := (Prod.mk.inj hx).1
    have hmc : m = cap0 := by simpa using hmm
    have hall : Rows.uptoBulkAll ((List.range len0).map D) ≤ 1048576 := by
      have := bulk_slice ((List.range len0).map D) ((List.range (m - len0)).map fun j => D (len0 + j))
      rw [← hd] at this; omega
    have hlen : len0 ≤ 1048576 := by
      have := length_le_bulk ((List.range len0).map D)
      simp at this; omega
    have hel' : ∀ i, ∃ t : Int × Int, i < len0 → (∀ j, j < 2 → W.cell? ((x.add (i * 2)).add j) = [Value.int .i64 t.1, Value.int .i64 t.2][j]?) ∧ t.2 ≤ 9223372036854775807 := by
      intro i
      by_cases hi : i < len0
      · obtain ⟨cs', hc1, hc2⟩ := hel i (by omega)
        rw [cellsRd] at hc1
        obtain ⟨kd, n', h1, h2⟩ := open_read hc2
        subst h1
        exact ⟨(kd, n'), fun _ => ⟨(World.cells?_some hc1).2.2, h2⟩⟩
      · exact ⟨(0, 0), fun h => absurd h hi⟩
    obtain ⟨T, hT⟩ := Classical.axiomOfChoice hel'
    refine ⟨hlen, T, fun i0 hi0 => ?_⟩
    obtain ⟨pb, po, hx'⟩ : ∃ pb po, x = ⟨pb, po, none⟩ := by
      have h0 := (hT 0 (by omega)).1 0 (by decide)
      have h1 := World.cell?_spot (show W.cell? ((x.add (0 * 2)).add 0) = some (.int .i64 (T 0).1) from h0)
      obtain ⟨b, off, spot⟩ := x
      have : spot = none := by simpa [Addr.add] using h1
      exact ⟨b, off, by rw [this]⟩
    subst hx'
    refine ⟨pb, po, rfl, fun i hi => ⟨?_, ?_, (hT i hi).2⟩⟩
    · have := (hT i hi).1 0 (by decide)
      rw [add_plain, add_plain] at this
      exact this
    · have := (hT i hi).1 1 (by decide)
      rw [add_plain, add_plain] at this
      exact this
end Go.Proofs.YtpkobgnbjmefnabDoor
