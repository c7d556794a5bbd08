import Derived.Test.YtijafckdbhklmaaXRo
import Derived.Test.YtijafckdbhklmaaYPu
import Derived.Test.YtijafckdbhklmaaBulkD
import Derived.ChangeOld
import Derived.SizedLaws
import Derived.JoinedCond
namespace Go.Proofs.Ytijafckdbhklmaa.I
open Go.ChangeShapes Go.WideShapes Go.ChangeAt Go.RowKit Go.Deep
set_option linter.unusedVariables false
set_option maxRecDepth 100000

theorem ownI : ownKnob Try.prog.godebug = none := by kernel_rfl
theorem open_putsB {H : Type} {enc : TypeId × Value → H} {W : World} {base fuel : Nat} {v : Value} {d : DataW H} {p : List MemPlace} (hf : DataW.trod enc Try.prog W base (fun _ => true) true fuel 51 [v] = some (d, p)) :
    ∃ l : List Put, PutsA W v l ∧ l.length + 1 ≤ Rows.uptoBulk d := by
  rcases open_slice Try.underlying51 hf with ⟨hcs, hx⟩ | ⟨x, len, cap, m, n, D, Pl, hcs, _, hl, hm, hmm, hx, hel⟩
  · simp at hcs
    subst hcs
    have hd : d = .nil := (Prod.mk.inj hx).1
    exact ⟨[], .inl ⟨rfl, rfl⟩, by rw [hd]; simp [Rows.uptoBulk]⟩
  · simp at hcs
    subst hcs
    have hd : d = .slice ((List.range len).map D) ((List.range (m - len)).map fun j => D (len + j)) := (Prod.mk.inj hx).1
    have hsl := bulk_slice (H := H) ((List.range len).map D) ((List.range (m - len)).map fun j => D (len + j))
    have hs1 := length_le_bulk (H := H) ((List.range len).map D)
    rw [← hd] at hsl
    simp only [List.length_map, List.length_range] at hs1
    have hf2 : DataW.trod enc Try.prog W base (fun _ => true) true fuel 51 [.slice (some x) len cap] = some (d, p) := hf
    obtain ⟨l, e1, _, e3⟩ := open_puts hf2
    exact ⟨l, .inr ⟨x, cap, by rw [← e1], e3⟩, by omega⟩
theorem puts_formS {w : World} {v : Value} {l : List Put} (h : PutsA w v l) : ∃ ao cap, v = .slice ao l.length cap ∧ Puts w ao l := by
  rcases h with ⟨rfl, rfl⟩ | ⟨ad, c, rfl, h⟩
  · exact ⟨none, 0, rfl, fun k q hk => by simp at hk⟩
  · exact ⟨some ad, c, rfl, h⟩
end Go.Proofs.Ytijafckdbhklmaa.I
