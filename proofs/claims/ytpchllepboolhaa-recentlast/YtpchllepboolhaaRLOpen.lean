import Derived.Test.YtpchllepboolhaaRL
import Derived.Carry
import Derived.ProofKit
import Derived.OpenShut
import Derived.SizedLaws
import Derived.ChangeSlices
namespace Go.Proofs.Ytpchllepboolhaa.I
open Go.ChangeShapes Go.WideShapes Go.ChangeAt Go.RowKit
set_option linter.unusedVariables false
set_option maxRecDepth 100000

theorem laidOut : laidOutB Try.prog = true := by kernel_rfl
theorem cellsInt : Try.prog.cellsOf 3 = 1 := by kernel_rfl
theorem bytesInt : Try.prog.bytesOf 3 = 8 := by kernel_rfl
/-- numbers that were read -/
theorem open_us {H : Type} {enc : TypeId × Value → H} {W : World} {base fuel : Nat} {ao : Option Addr} {len cap : Nat} {d : DataW H} {p : List MemPlace} (hf : DataW.trod enc Try.prog W base (fun _ => true) true fuel 43 [.slice ao len cap] = some (d, p)) :
    ∃ us : List Int, len = us.length ∧ IRow W ao us ∧ (∀ u ∈ us, wfK u) ∧ (us = [] ∨ ∃ es sp, d = .slice es sp ∧ es.length = len) := by
  rcases ChangeShapes.open_ints Try.underlying43 Try.underlying3 cellsInt hf with ⟨hcs, _⟩ | ⟨a, l, c, zs, hcs, _, hl, _, hzl, hx, hel, hwf⟩
  · simp at hcs
    obtain ⟨rfl, rfl, rfl⟩ := hcs
    exact ⟨[], rfl, IRow.nil _ _, by simp, .inl rfl⟩
  · simp at hcs
    obtain ⟨rfl, rfl, rfl⟩ := hcs
    have hzl' : zs.length = cap := by simpa using hzl
    have hd : d = .slice (lits .i64 (zs.take len)) (lits .i64 (zs.drop len)) := (Prod.mk.inj hx).1
    refine ⟨zs.take len, by simp; omega, ⟨fun k x hk => ?_⟩, fun u hu => hwf u (List.mem_of_mem_take hu), .inr ⟨_, _, hd, by simp [lits]; omega⟩⟩
    have hk2 : k < len := by
      have := (List.getElem?_eq_some_iff.1 hk).1
      simp at this; omega
    rw [List.getElem?_take, if_pos hk2] at hk
    have hc := hel k (by omega)
    have hg : zs.getD k 0 = x := by rw [List.getD_eq_getElem?_getD, hk]; rfl
    rw [hg] at hc
    obtain ⟨b, off, spot⟩ := a
    have h0 := World.cell?_spot (hel 0 (by omega))
    have hs : spot = none := by simpa [Addr.add] using h0
    subst hs
    rw [add_plain] at hc
    exact ⟨b, off, rfl, hc⟩
end Go.Proofs.Ytpchllepboolhaa.I
