import Derived.Test.YtodinademhibjaaDoorRuF
import Derived.Test.YtodinademhibjaaDoorRuM
namespace Go.Proofs.YtodinademhibjaaDoor
open Go.RowKit
set_option linter.unusedVariables false
set_option linter.unusedSimpArgs false
set_option maxRecDepth 100000

theorem caOf_eq (ty : Nat) : caOf ty = (decide (ty = 0) || decide (ty = 1)) := by
  by_cases h : ty < 8
  · rcases lt8 h with rfl | rfl | rfl | rfl | rfl | rfl | rfl | rfl <;> rfl
  · have e : caOf ty = false := getD_out _ _ _ (by simp; omega)
    rw [e]; simp; omega
theorem beOf_eq {ty : Nat} (h : ty < 8) (h2 : ty ≠ 2) (h3 : ty ≠ 3) : (if ty = 1 ∨ ty = 6 then 28 else 22) = beOf ty := by
  rcases lt8 h with rfl | rfl | rfl | rfl | rfl | rfl | rfl | rfl <;> first | rfl | exact absurd rfl h2 | exact absurd rfl h3
theorem bool_a (a b d : Nat) (c : Bool) : (!(decide (a ≠ 0) || (true && decide (b = 0)) || (decide (d ≠ 0) && !c))) = (decide (a = 0 ∧ b ≠ 0) && (!decide (d ≠ 0) || c)) := by
  by_cases h1 : a = 0 <;> by_cases h2 : b = 0 <;> by_cases h3 : d = 0 <;> cases c <;> simp [h1, h2, h3]
theorem bool_b (a b d : Nat) (c : Bool) : (!(decide (a ≠ 0) || (false && decide (b = 0)) || (decide (d ≠ 0) && !c))) = (decide (a = 0) && (!decide (d ≠ 0) || c)) := by
  by_cases h1 : a = 0 <;> by_cases h3 : d = 0 <;> cases c <;> simp [h1, h3]
/-- rule 2, said in two ways -/
theorem rf_eq (st ex : Bool) (fl ty : Nat) (hf : fl < 65536) (b1 : Bool) (hb : b1 = (decide (ty = 1) && ex)) (mb : Nat) (hm : mb = if b1 then flOf ty ||| 32 else flOf ty) :
    (!(decide (fl &&& (65535 - mb) ≠ 0) || (b1 && decide (fl &&& 32 = 0)) || (decide (fl &&& 4 ≠ 0) && !(st || ex)))) = rfB st ex fl ty := by
  unfold rfB hasB muB
  have h2 := flags_two fl (flOf ty) hf (flOf_lt ty)
  by_cases h : ty = 1 ∧ ex = true
  · have e : b1 = true := by rw [hb, h.2]; simp [h.1]
    rw [e] at hm ⊢
    rw [if_pos rfl] at hm
    rw [hm, if_pos h, decide_eq_decide.2 h2]
    exact bool_a _ _ _ _
  · have e : b1 = false := by
      rw [hb]
      cases ex
      · simp
      · have : ty ≠ 1 := fun hh => h ⟨hh, rfl⟩
        simp [this]
    rw [e] at hm ⊢
    simp only [Bool.false_eq_true, if_false] at hm
    rw [hm, if_neg h]
    exact bool_b _ _ _ _
theorem or32 (g : Nat) (hg : g < 32) : bits BinOp.or IntKind.u16 (g : Int) 32 = ((g ||| 32 : Nat) : Int) := u16_or_nat g 32 (by omega) (by decide)
theorem or32_lt (g : Nat) (hg : g < 32) : g ||| 32 < 65536 := by have := Nat.or_lt_two_pow (n := 16) (x := g) (y := 32) (by omega) (by decide); omega
theorem szOf_pos (sec : Int) (hs : (Lit.int .i64 sec).wf = true) (h : 0 < sec) : IntKind.u64.wrap (512 * IntKind.u64.wrap sec) = (szOf sec : Int) := by
  obtain ⟨m, rfl⟩ := Int.eq_ofNat_of_zero_le (show 0 ≤ sec by omega)
  rw [Int.mul_comm]
  exact szOf_nat m (by have := (bounds_i64 hs).2; omega)
theorem szOf_not (sec : Int) (h : ¬ 0 < sec) : szOf sec = 0 := by
  unfold szOf
  by_cases h0 : sec < 0
  · rw [if_pos h0]
  · have : sec = 0 := by omega
    subst this; rfl
theorem chkT_congr {kn rf rf' : Bool} {ty fv : Nat} {t4 t4' t5 t5' : Bool} {rv rv' : Nat} (h1 : rf = rf') (h2 : t4 = t4') (h3 : t5 = t5') (h4 : kn = true → ty ≠ 2 → ty ≠ 3 → rv = rv') : chkT kn rf ty fv t4 t5 rv = chkT kn rf' ty fv t4' t5' rv' := by
  subst h1 h2 h3
  unfold chkT
  cases kn
  · rfl
  · by_cases e2 : ty = 2
    · simp [e2]
    · by_cases e3 : ty = 3
      · simp [e3]
      · rw [h4 rfl e2 e3]
theorem rcheck_any (nm ds : ByteArray) (sec : Int) (ro rt pv tr : Bool) (mn pf : Nat) (ix : Int) (st ex : Bool) (bo : Option Addr) (m bc : Nat) (py op : Nat) (fi : Int) (fl ty ck of ln : Nat) (ao : Option Addr) (n cap : Nat)
    (hs : (Lit.int .i64 sec).wf = true) (hpy : py < 4294967296) (hmn : mn < 4294967296) (hf : fl < 65536) (ht : ty < 65536) (hof : of < 18446744073709551616) (hln : ln < 18446744073709551616) (w : World) (hT : Tb w) :
    Calls Tryd.prog 14 #[expV nm ds sec ro rt pv tr mn pf, sesV ix st ex bo m bc, limV py op fi, reqV fl ty ck of ln ao n cap] w fun e w' => e = .returned (.int .u32 (chk sec ro mn st ex m py fl ty of ln : Int)) ∧ Below w.heap.size w w' := by
  obtain ⟨b1, hb1⟩ : ∃ b1, b1 = (decide (ty = 1) && ex) := ⟨_, rfl⟩
  obtain ⟨mb, hmb⟩ : ∃ mb, mb = if b1 then flOf ty ||| 32 else flOf ty := ⟨_, rfl⟩
  have hfl := flOf_lt ty
  have hmb' : mb < 65536 := by
    rw [hmb]
    cases b1
    · simp; omega
    · simpa using or32_lt _ hfl
  have key := rcheck_t nm ds sec ro rt pv tr mn pf ix st ex bo m bc py op fi fl ty ck of ln ao n cap (chOf ty) (st || ex) b1 (b1 && decide (fl &&& 32 = 0)) _ _ _ _ _ _ _ _ (szOf sec) (flOf ty) mb (fl &&& (65535 - mb)) (fl &&& 4) (fl &&& 32) (fl &&& 16) (fl &&& 2) w hT (szOf_pos sec hs) (szOf_not sec) (rallowed_any ty ht) (rchanges_any ty ht) hb1 (fun h => by rw [hmb, h]; rfl) (fun h => by rw [hmb, h]; exact or32 _ hfl) rfl rfl
    (u16_andNot_nat fl mb hf hmb') (u16_and_nat fl 4 hf (by decide)) (u16_and_nat fl 32 hf (by decide)) (u16_and_nat fl 16 hf (by decide)) (u16_and_nat fl 2 hf (by decide)) rfl rfl rfl rfl rfl rfl rfl rfl hpy hmn hof hln (szOf_lt sec) _ rfl
  refine key.mono ?_
  rintro e w' ⟨rfl, hb⟩
  refine ⟨congrArg (fun z : Nat => Ending.returned (.int .u32 (z : Int))) ?_, hb⟩
  unfold chk
  refine chkT_congr (rf_eq st ex fl ty hf b1 hb1 mb hmb) (Bool.and_comm _ _) ?_ fun h8 h2 h3 => ?_
  · by_cases h : m = 0
    · subst h; cases st <;> cases ex <;> simp
    · have : 0 < m := by omega
      cases st <;> cases ex <;> simp [h, this]
  · rw [beOf_eq (of_decide_eq_true h8) h2 h3]
    unfold rngN
    have e9 : (decide (szOf sec < of) || decide (szOf sec - of < ln)) = !(decide (of ≤ szOf sec) && decide (ln ≤ szOf sec - of)) := by
      by_cases c1 : of ≤ szOf sec <;> by_cases c2 : ln ≤ szOf sec - of <;> simp [c1, c2] <;> omega
    have e10 : (decide (1 < mn) && (decide (of % mn ≠ 0) || decide (ln % mn ≠ 0))) = (decide (1 < mn) && !aliB of ln mn) := by
      unfold aliB
      by_cases c1 : of % mn = 0 <;> by_cases c2 : ln % mn = 0 <;> simp [c1, c2]
    have e11 : (decide (fl &&& 16 ≠ 0) && (decide (fl &&& 2 ≠ 0) || decide (of % 512 ≠ 0) || decide (ln % 512 ≠ 0))) = (hasB fl 16 && !fastB fl of ln) := by
      unfold fastB aliB hasB
      by_cases c0 : fl &&& 16 = 0 <;> by_cases c3 : fl &&& 2 = 0 <;> by_cases c1 : of % 512 = 0 <;> by_cases c2 : ln % 512 = 0 <;> simp [c0, c1, c2, c3]
    rw [e9, e10, e11, caOf_eq ty]
    rfl
end Go.Proofs.YtodinademhibjaaDoor
