import Derived.Test.YtodinademhibjaaDoorRuE
namespace Go.Proofs.YtodinademhibjaaDoor
open Go.RowKit
set_option linter.unusedVariables false
set_option linter.unusedSimpArgs false
set_option maxRecDepth 100000

/-- what Check answers -/
def chk (sec : Int) (ro : Bool) (mn : Nat) (st ex : Bool) (m py fl ty of ln : Nat) : Nat :=
  chkT (decide (ty < 8)) (rfB st ex fl ty) ty (if of = 0 ∧ ln = 0 then 0 else 22) (ro && chOf ty) (decide (ty = 7) && !((st || ex) && decide (0 < m))) (rngN sec mn py fl ty of ln)
theorem check_any (nm ds : ByteArray) (sec : Int) (ro rt pv tr : Bool) (mn pf : Nat) (ix : Int) (st ex : Bool) (bo : Option Addr) (m bc : Nat) (py op : Nat) (fi : Int) (fl ty ck of ln : Nat) (ao : Option Addr) (n cap : Nat)
    (hs : (Lit.int .i64 sec).wf = true) (hpy : py < 4294967296) (hmn : mn < 4294967296) (hf : fl < 65536) (ht : ty < 65536) (hof : of < 18446744073709551616) (hln : ln < 18446744073709551616) (w : World) (hT : Tb w) :
    Calls Tryd.prog 15 #[expV nm ds sec ro rt pv tr mn pf, sesV ix st ex bo m bc, limV py op fi, reqV fl ty ck of ln ao n cap] w fun e w' => e = .returned (.int .u32 (chk sec ro mn st ex m py fl ty of ln : Int)) ∧ Below w.heap.size w w' := by
  unfold chk
  refine check_t nm ds sec ro rt pv tr mn pf ix st ex bo m bc py op fi fl ty ck of ln ao n cap _ _ _ _ _ _ _ _ w hT (known_any ty ht) (right_any ix st ex bo m bc fl ty ck of ln ao n cap hf ht) ?_ (changes_any ty ht) (tells_any ix st ex bo m bc) ?_ rfl rfl
  · intro W
    refine (flush_any fl ty ck of ln ao n cap W).mono ?_
    rintro e w' ⟨rfl, hb⟩
    refine ⟨?_, hb⟩
    by_cases h : of = 0 ∧ ln = 0
    · rw [if_pos h, if_pos h]; rfl
    · rw [if_neg h, if_neg h]; rfl
  · intro h W hW
    exact range_any nm ds sec ro rt pv tr mn pf py op fi fl ty ck of ln ao n cap W hW (of_decide_eq_true h) hs hpy hmn hf hof hln
/-- flags, bit by bit -/
theorem tb_andNot (fl g i : Nat) (hg : g < 65536) : (fl &&& (65535 - g)).testBit i = (fl.testBit i && decide (i < 16) && !g.testBit i) := by
  rw [Nat.testBit_and]
  have e : (65535 - g) = 2 ^ 16 - (g + 1) := by omega
  rw [e, Nat.testBit_two_pow_sub_succ (by omega)]
  cases fl.testBit i <;> simp
theorem tb_pow (k i : Nat) : (2 ^ k).testBit i = decide (k = i) := Nat.testBit_two_pow
theorem zero_tb {a : Nat} : a = 0 ↔ ∀ i, a.testBit i = false := ⟨fun h i => by rw [h]; simp, fun h => Nat.eq_of_testBit_eq fun i => by rw [h i]; simp⟩
/-- the flag that an extended write must have, said in two ways -/
theorem flags_two (fl g : Nat) (hf : fl < 65536) (hg : g < 32) : (fl &&& (65535 - g) = 32) ↔ (fl &&& (65535 - (g ||| 32)) = 0 ∧ fl &&& 32 ≠ 0) := by
  have hg' : g ||| 32 < 65536 := by have := Nat.or_lt_two_pow (n := 16) (x := g) (y := 32) (by omega) (by decide); omega
  have h5 : g.testBit 5 = false := Nat.testBit_lt_two_pow (by omega)
  have b32 : ∀ i, (32 : Nat).testBit i = decide (5 = i) := fun i => tb_pow 5 i
  constructor
  · intro h
    have hb : ∀ i, (fl.testBit i && decide (i < 16) && !g.testBit i) = decide (5 = i) := fun i => by rw [← tb_andNot fl g i (by omega), h, b32]
    refine ⟨zero_tb.2 fun i => ?_, fun h0 => ?_⟩
    · rw [tb_andNot _ _ _ hg', Nat.testBit_or, b32]
      have := hb i
      by_cases e : 5 = i
      · subst e; simp
      · simp only [e, decide_false] at this
        simp only [e, decide_false, Bool.or_false]; exact this
    · have h5' := hb 5
      have := zero_tb.1 h0 5
      rw [Nat.testBit_and, b32] at this
      simp [h5] at h5' this
      rw [h5'] at this; simp at this
  · rintro ⟨h0, h1⟩
    refine Nat.eq_of_testBit_eq fun i => ?_
    rw [tb_andNot _ _ _ (by omega), b32]
    have hi := zero_tb.1 h0 i
    rw [tb_andNot _ _ _ hg', Nat.testBit_or, b32] at hi
    by_cases e : 5 = i
    · subst e
      have : fl.testBit 5 = true := by
        cases hc : fl.testBit 5
        · exfalso; apply h1
          refine zero_tb.2 fun j => ?_
          rw [Nat.testBit_and, b32]
          by_cases ej : 5 = j
          · subst ej; rw [hc]; rfl
          · simp [ej]
        · rfl
      simp [this, h5]
    · simp only [e, decide_false, Bool.or_false] at hi ⊢; exact hi
end Go.Proofs.YtodinademhibjaaDoor
