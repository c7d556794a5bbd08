import Derived.Test.YtodinademhibjaaDoorRuT
namespace Go.Proofs.YtodinademhibjaaDoor
open Go.RowKit
set_option linter.unusedVariables false
set_option linter.unusedSimpArgs false
set_option maxRecDepth 100000

theorem chOf_eq (c : Nat) : chOf c = (decide (c = 1) || decide (c = 4) || decide (c = 6)) := by
  by_cases h : c < 8
  · rcases lt8 h with rfl | rfl | rfl | rfl | rfl | rfl | rfl | rfl <;> rfl
  · rw [chOf_out (by omega)]; simp; omega
theorem szOf_small (N : Nat) (h : N ≤ 1000) : szOf (N : Int) = 512 * N := by
  unfold szOf
  rw [if_neg (by omega)]
  simp only [Int.toNat_natCast]
  omega
theorem rng_in (N fl c : Nat) (h0 : 1 ≤ N) (h1 : N ≤ 1000) : rngN (N : Int) 1 1048576 fl c (512 * N - 512) 512 = if (hasB fl 16 && hasB fl 2) then 95 else 0 := by
  unfold rngN rngT
  rw [szOf_small N h1]
  have e1 : decide (512 * N - 512 ≤ 512 * N) = true := by simp
  have e2 : decide (512 ≤ 512 * N - (512 * N - 512)) = true := by simp; omega
  have e3 : fastB fl (512 * N - 512) 512 = !hasB fl 2 := by
    unfold fastB aliB
    have : (512 * N - 512) % 512 = 0 := by omega
    simp [this]
  rw [e1, e2, e3]
  cases hasB fl 16 <;> cases hasB fl 2 <;> simp
theorem rng_out (N fl c k : Nat) (h0 : 1 ≤ N) (h1 : N ≤ 1000) (hk : k < 1000) : rngN (N : Int) 1 1048576 fl c (512 * N - 512) (513 + k) = beOf c := by
  unfold rngN rngT
  rw [szOf_small N h1]
  have e0 : decide (513 + k = 0) = false := by simp
  have e2 : decide (513 + k ≤ 512 * N - (512 * N - 512)) = false := by simp; omega
  have e3 : decide (1048576 < 513 + k) = false := by simp; omega
  have e4 : decide (65536 < 513 + k) = false := by simp; omega
  rw [e0, e2, e3, e4]
  simp
theorem rf_named (fl c : Nat) : rfB true false fl c = decide (fl &&& (65535 - flOf c) = 0) := by
  unfold rfB muB
  simp
theorem sub1 (fl : Nat) (hf : fl < 65536) (h : fl &&& (65535 - 1) = 0) : fl &&& 16 = 0 := by
  refine zero_tb.2 fun i => ?_
  have h3 := zero_tb.1 h i
  rw [tb_andNot _ _ _ (by decide)] at h3
  rw [Nat.testBit_and, show (16 : Nat) = 2 ^ 4 by rfl, tb_pow]
  by_cases e : 4 = i
  · subst e
    have : Nat.testBit 1 4 = false := by decide
    simp [this] at h3
    simp [h3]
  · simp [e]
theorem ruleNamed_any (sec : Int) (c fl ov : Nat) (hs : (Lit.int .i64 sec).wf = true) (hc : c < 65536) (hf : fl < 65536) (hov : ov < 4294967296) (w : World) (hT : Tb w) :
    Calls Tryd.prog 7 #[.int .i64 sec, .int .u16 (c : Int), .int .u16 (fl : Int), .int .u32 (ov : Int)] w fun e w' => e = .returned (.bool true) ∧ Below w.heap.size w w' := by
  obtain ⟨M, hM⟩ : ∃ M : Nat, IntKind.u64.wrap sec = (M : Int) := Int.eq_ofNat_of_zero_le (by rw [IntKind.wrap_u64]; omega)
  obtain ⟨N, hN⟩ : ∃ N, 1 + M % 1000 = N := ⟨_, rfl⟩
  have hN0 : 1 ≤ N := by omega
  have hN1 : N ≤ 1000 := by omega
  have HN : wrap64 (1 + wrap64 ((IntKind.u64.wrap sec).tmod 1000)) = (N : Int) := by
    rw [hM, Int.tmod_eq_emod_of_nonneg (by omega)]
    unfold wrap64
    omega
  obtain ⟨of, hof⟩ : ∃ of, (if c = 3 then 0 else 512 * N - 512) = of := ⟨_, rfl⟩
  obtain ⟨ln, hln⟩ : ∃ ln, (if c = 3 then 0 else 512) = ln := ⟨_, rfl⟩
  have hofb : of < 18446744073709551616 := by rw [← hof]; split <;> omega
  have hlnb : ln < 18446744073709551616 := by rw [← hln]; split <;> omega
  have hNw : (Lit.int .i64 (N : Int)).wf = true := by
    simp [Lit.wf, IntKind.min, IntKind.max, IntKind.signed, IntKind.bits]; omega
  obtain ⟨k, hk⟩ : ∃ k, 513 + ov % 1000 = k := ⟨_, rfl⟩
  have chkAll := fun (ro : Bool) (l : Nat) (hl : l < 18446744073709551616) => check_any ⟨#[97]⟩ ByteArray.empty (N : Int) ro false false false 1 512 0 true false (some ⟨w.heap.size + 1, 0, none⟩) 1 1 1048576 64 1 fl c 0 of l none 0 0 hNw (by decide) (by decide) hf hc hofb hl
  have hbad : ∀ bad : Bool, bad = (decide (7 < c) || decide (fl &&& (65535 - flOf c) ≠ 0)) → bad = false → c < 8 ∧ fl &&& (65535 - flOf c) = 0 := by
    intro bad h1 h2
    rw [h2] at h1
    by_cases h7 : 7 < c
    · simp [h7] at h1
    · by_cases hx : fl &&& (65535 - flOf c) = 0
      · exact ⟨by omega, hx⟩
      · simp [hx] at h1
  refine named_t sec fl c ov N of ln k (chk (N : Int) false 1 true false 1 1048576 fl c of ln) (chk (N : Int) true 1 true false 1 1048576 fl c of ln) (chk (N : Int) false 1 true false 1 1048576 fl c of k) (flOf c) (fl &&& 16) (fl &&& 2) (fl &&& (65535 - flOf c)) _ _ _ w hT HN hN0 hN1 (chkAll false ln hlnb) (chkAll true ln hlnb) (chkAll false k (by omega)) (allowed_any c hc) heads_any
    ⟨fun h => ?_, fun h => ?_⟩ hk.symm (andNot_fl fl c hf) (u16_and_nat fl 16 hf (by decide)) (u16_and_nat fl 2 hf (by decide)) rfl rfl rfl (fun h => ?_) (fun h => ?_) (fun h => ?_) (fun h => ?_) hov
  · rw [← hof, ← hln, if_pos h, if_pos h]; exact ⟨rfl, rfl⟩
  · rw [← hof, ← hln, if_neg h, if_neg h]; exact ⟨rfl, rfl⟩
  · unfold chk chkT
    rw [rf_named]
    by_cases h7 : c < 8
    · have h7' : ¬ 7 < c := by omega
      have : fl &&& (65535 - flOf c) ≠ 0 := by simpa [h7'] using h
      simp [h7, this]
    · simp [h7]
  · obtain ⟨h8, hx⟩ := hbad _ rfl h
    unfold chk chkT
    rw [rf_named]
    simp only [h8, hx, decide_true, Bool.not_true, Bool.false_eq_true, if_false]
    by_cases h2 : c = 2
    · subst h2
      have := sub1 fl hf hx
      simp [this]
    · by_cases h3 : c = 3
      · subst h3
        have := sub1 fl hf hx
        rw [← hof, ← hln]
        simp [this]
      · have e := rng_in N fl c hN0 hN1
        rw [if_neg h3] at hof hln
        rw [hof, hln] at e
        rw [e]
        unfold hasB
        simp [h2, h3]
  · obtain ⟨h8, hx⟩ := hbad _ rfl h
    rw [← chOf_eq c]
    cases hch : chOf c
    · rw [chk_ro hch]; rfl
    · obtain ⟨_, h2, h3⟩ := ch_ty hch
      unfold chk chkT
      rw [rf_named, hch]
      simp [h8, hx, h2, h3]
  · obtain ⟨h8, hx⟩ := hbad _ rfl h
    unfold chk chkT
    rw [rf_named]
    simp only [h8, hx, decide_true, Bool.not_true, Bool.false_eq_true, if_false]
    by_cases h2 : c = 2
    · subst h2; simp
    · by_cases h3 : c = 3
      · subst h3
        have hk0 : k ≠ 0 := by omega
        simp [hk0]
      · have e := rng_out N fl c (ov % 1000) hN0 hN1 (by omega)
        rw [if_neg h3] at hof
        rw [hof, hk] at e
        rw [e]
        rcases lt8 h8 with rfl | rfl | rfl | rfl | rfl | rfl | rfl | rfl <;> first | exact absurd rfl h2 | exact absurd rfl h3 | rfl | (simp; done) | (simp [beOf]; done)
end Go.Proofs.YtodinademhibjaaDoor
