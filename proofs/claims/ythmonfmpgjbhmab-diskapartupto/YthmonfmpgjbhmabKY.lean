import Derived.Test.YthmonfmpgjbhmabKE
import Derived.ChangeKeysEq
namespace Go.Proofs.Ythmonfmpgjbhmab.K
open Go.RowKit Go.Maps Go.Proofs.Ythmonfmpgjbhmab Go.MuLone
attribute [local go_sem] Oper.semAt_some
set_option linter.unusedVariables false
set_option linter.unusedSimpArgs false
set_option maxRecDepth 100000

theorem cells5 : Try.prog.cellsOf 5 = 1 := by kernel_rfl
theorem part_u8 {l : Bl} (hl : OkB l) {i : Nat} (hi : i < 512) (w : World) : (part 5 (Lc l) (i * 1)).run Try.prog w = .ok (bv (l.getD i 0)) w := by
  have h1 : (Lc l)[i]? = some (bv (l.getD i 0)) := by
    have : i < l.length := by rw [hl.len]; exact hi
    simp [Lc, this]
  simp [part, go_sem, h1]
theorem eqItems_u8 {l m : Bl} (hl : OkB l) (hm : OkB m) (d : Nat) (w : World) : ∀ is : List Nat, (∀ i ∈ is, i < 512) → (Op.eqItems (d + 1) 5 (Try.prog.cellsOf 5) (Lc l) (Lc m) is).run Try.prog w = .ok (decide (∀ i ∈ is, l.getD i 0 = m.getD i 0)) w
  | [], _ => by simp [Op.eqItems]
  | i :: is, h => by
    have hi := h i (by simp)
    have ih := eqItems_u8 hl hm d w is (fun j hj => h j (by simp [hj]))
    rw [cells5] at ih ⊢
    simp only [Op.eqItems, Sem.run_bind, part_u8 hl hi, part_u8 hm hi, Result.andThen_ok, bv, run_equalIn_int w d _ _ _ _ _ Try.underlying5]
    by_cases e : l.getD i 0 = m.getD i 0
    · rw [e]
      simp only [beq_self_eq_true, Bool.not_true, Bool.false_eq_true, if_false]
      rw [ih]
      congr 1
      exact decide_eq_decide.2 ⟨fun hh j hj => (List.mem_cons.1 hj).elim (fun e1 => by rw [e1]; exact e) (hh j), fun hh j hj => hh j (by simp [hj])⟩
    · have e' : (((l.getD i 0 : Nat) : Int) == ((m.getD i 0 : Nat) : Int)) = false := by
        rw [beq_eq_false_iff_ne]; omega
      rw [e']
      simp only [Bool.not_false, if_true, Sem.run_pure]
      congr 1
      exact (decide_eq_false (fun hh => e (hh i (by simp)))).symm
theorem list_eq {l m : Bl} (hl : OkB l) (hm : OkB m) : (∀ i ∈ List.range 512, l.getD i 0 = m.getD i 0) ↔ l = m := by
  constructor
  · intro h
    apply List.ext_getElem (by rw [hl.len, hm.len])
    intro i h1 h2
    have := h i (by rw [hl.len] at h1; simpa using h1)
    simpa [h1, h2] using this
  · rintro rfl i _; rfl
theorem eq_block {l : Bl} (hl : OkB l) (w : World) : (binOp .eql TBl (.agg (Lc l)) (.agg Zc)).run Try.prog w = .ok (.bool (decide (l = z512))) w := by
  rw [run_eql_struct, show (10000 : Nat) = 9998 + 1 + 1 from rfl, Zc_eq, show ((z512.map bv).toArray : Array Value) = Lc z512 from rfl]
  obtain ⟨i5, h5⟩ : ∃ i5, Try.prog.info? 5 = some i5 := by
    cases h : Try.prog.info? 5 with
    | none => have := sizeU8; rw [h] at this; cases this
    | some i => exact ⟨i, rfl⟩
  rw [run_equalIn_array w (9998 + 1) (Lc l) (Lc z512) Try.underlying76 h5, eqItems_u8 hl okZ 9998 w _ (fun i hi => by simpa using hi)]
  simp only [Result.andThen_ok]
  congr 2
  exact decide_eq_decide.2 (list_eq hl okZ)
end Go.Proofs.Ythmonfmpgjbhmab.K
