import Derived.Test.YtlacligofhinmaaGreatV33
namespace Go.Proofs.YtlacligofhinmaaGreat.C
open Go.RowKit Go.Maps Go.Shelf Go.Proofs.YtlacligofhinmaaGreat
attribute [local go_sem] Oper.semAt_some
set_option linter.unusedVariables false
set_option linter.unusedSimpArgs false
set_option maxRecDepth 100000

section
variable {w w' : World} {A : Qa} {S S' : K.Dk} {C C' : Ch}
theorem rbar_any (h : RQ w A S C) (hq : A.pot C ≤ 1048576) :
    Calls Tryz.prog 69 #[.pointer (some ⟨A.p, 0, none⟩)] w fun r w' => r = .returned (.int .i64 (K.baE S)) ∧ ∃ A', QAct w w' A A' C (K.baS S) C 0 := by
  refine (K.rBarrier_any h.rr h.fs (by simp only [Qa.pot] at hq; omega)).mono ?_
  rintro r w' ⟨rfl, dv', qv', av', D', Q', ha, hl⟩
  exact ⟨rfl, _, h.disk (baS_n S) (K.baS_ok h.fs) ha (N := 0) (by omega)⟩
theorem backs_two (ks : List Int) : ∀ (S : K.Dk) (C : Ch), (backs ks S C).1 = 0 ∨ (backs ks S C).1 = 33 := by
  induction ks with
  | nil => intro S C; exact .inl rfl
  | cons s ks ih =>
    intro S C
    rw [backs_cons]
    split
    · exact ih _ _
    · exact .inr rfl
set_option maxHeartbeats 8000000 in
theorem rflush_any (h : RQ w A S C) (hq : A.pot C < 1048576) :
    Calls Tryz.prog 28 #[.pointer (some ⟨A.q, 0, none⟩)] w fun r w' => r = .returned (.int .i64 (flushR S C).1) ∧ ∃ A', QAct w w' A A' C (flushR S C).2.1 (flushR S C).2.2 (if (flushR S C).1 = 0 then 0 else 1) := by
  have hb1 := rbacks_ex h hq false
  have ht1 := backs_two (dlL (pkb false) C.L) S C
  have HQ : Hid (A.pot C < 1048576) := hq
  unfold flushR settleR
  rw [pkb_data, pkb_noted]
  have hln := h.lim
  clear h hq
  generalize backs (dlL (pkb false) C.L) S C = R1 at *
  obtain ⟨e1, S1, C1⟩ := R1
  simp only at *
  rcases ht1 with rfl | rfl
  · simp only [if_true] at hb1 ⊢
    have HB1 : Hid (∀ W A1, QAct w W A A1 C S1 C1 0 → W.cell? ⟨A.q, 0, none⟩ = some (.pointer (some ⟨A.p, 0, none⟩)) ∧ Calls Tryz.prog 69 #[.pointer (some ⟨A.p, 0, none⟩)] W fun r w' => r = .returned (.int .i64 (K.baE S1)) ∧ ∃ A', QAct w w' A A' C (K.baS S1) C1 0) := fun W A1 ha => by
      have hp := ha.pot
      have c0 := ha.rq.c 0
      have hb := rbar_any ha.rq (by have := HQ.out; omega)
      rw [ha.q] at c0
      rw [ha.p] at hb
      refine ⟨by rw [c0, ← ha.p]; rfl, hb.mono ?_⟩
      rintro r w' ⟨rfl, A', ha'⟩
      exact ⟨rfl, A', ha.trans ha'⟩
    rcases baE_two S1 with he | he
    · simp only [he, if_true] at HB1 ⊢
      have HB2 : Hid (∀ W A1, QAct w W A A1 C (K.baS S1) C1 0 → Calls Tryz.prog 68 #[.pointer (some ⟨A.q, 0, none⟩), .bool true] W fun r w' => ∃ k : Nat, r = .returned (.tuple #[.int .i64 k, .int .i64 (backs (dlL (pkb true) C1.L) (K.baS S1) C1).1]) ∧ ((backs (dlL (pkb true) C1.L) (K.baS S1) C1).1 = 0 → k = (dlL (pkb true) C1.L).length) ∧ ∃ A', QAct w w' A A' C (backs (dlL (pkb true) C1.L) (K.baS S1) C1).2.1 (backs (dlL (pkb true) C1.L) (K.baS S1) C1).2.2 (if (backs (dlL (pkb true) C1.L) (K.baS S1) C1).1 = 0 then 0 else 1)) := fun W A1 ha => by
        have hp := ha.pot
        have := rbacks_ex ha.rq (by have := HQ.out; omega) true
        rw [ha.q] at this
        refine this.mono ?_
        rintro r w' ⟨k, rfl, hk, A', ha'⟩
        refine ⟨k, rfl, hk, A', ?_⟩
        have := ha.trans ha'
        rw [Nat.zero_add] at this
        exact this
      have ht2 := backs_two (dlL (pkb true) C1.L) (K.baS S1) C1
      have hem : (dlL (pkb true) C1.L).length = 0 → backs (dlL (pkb true) C1.L) (K.baS S1) C1 = (0, K.baS S1, C1) := fun h0 => by rw [List.length_eq_zero_iff.1 h0]; rfl
      have HLe : Hid (∀ W A1, QAct w W A A1 C (K.baS S1) C1 0 → (dlL (pkb true) C1.L).length ≤ 1024) := fun W A1 ha => by have := dl_len (pkb true) C1.L; have := ha.rq.lim; omega
      by_cases hz : (dlL (pkb true) C1.L).length = 0
      · rw [if_pos hz]
        rw [hem hz, hz] at HB2
        simp only [if_true] at HB2 ⊢
        clear hem ht2 he HLe
        go_enter Tryz.func28, Tryz.ntmps28
        go_wp2_with fail
        refine Calls.mono hb1 ?_
        clear hb1
        rintro r w1 ⟨k1, rfl, _, A1, ha1⟩
        obtain ⟨c0, hbar⟩ := HB1.out w1 A1 ha1
        clear HB1 ha1
        go_wp2_with fail
        refine Calls.mono hbar ?_
        clear hbar
        rintro r w2 ⟨rfl, A2, ha2⟩
        have hb2 := HB2.out w2 A2 ha2
        clear HB2 ha2 c0
        go_wp2_with fail
        refine Calls.mono hb2 ?_
        clear hb2
        rintro r w3 ⟨k3, rfl, hk3, A3, ha3⟩
        obtain rfl := hk3 (by simp)
        have HA3 : Hid (QAct w w3 A A3 C (K.baS S1) C1 0) := ha3
        clear ha3 hk3
        go_wp2
        go_ret
        exact ⟨rfl, A3, HA3.out⟩
      · rw [if_neg hz]
        generalize backs (dlL (pkb true) C1.L) (K.baS S1) C1 = R2 at *
        obtain ⟨e2, S2, C2⟩ := R2
        simp only at *
        have HZ : Hid (¬ (dlL (pkb true) C1.L).length = 0) := hz
        generalize (dlL (pkb true) C1.L).length = kl at *
        rcases ht2 with rfl | rfl
        · simp only [if_true] at HB2 ⊢
          have HB3 : Hid (∀ W A1, QAct w W A A1 C S2 C2 0 → W.cell? ⟨A.q, 0, none⟩ = some (.pointer (some ⟨A.p, 0, none⟩)) ∧ Calls Tryz.prog 69 #[.pointer (some ⟨A.p, 0, none⟩)] W fun r w' => r = .returned (.int .i64 (K.baE S2)) ∧ ∃ A', QAct w w' A A' C (K.baS S2) C2 0) := fun W A1 ha => by
            have hp := ha.pot
            have c0 := ha.rq.c 0
            have hb := rbar_any ha.rq (by have := HQ.out; omega)
            rw [ha.q] at c0
            rw [ha.p] at hb
            refine ⟨by rw [c0, ← ha.p]; rfl, hb.mono ?_⟩
            rintro r w' ⟨rfl, A', ha'⟩
            exact ⟨rfl, A', ha.trans ha'⟩
          have hkz : ¬ (kl : Int) = 0 := by omega
          clear hem he hz
          rcases baE_two S2 with he2 | he2
          · simp only [he2, if_true] at HB3 ⊢
            go_enter Tryz.func28, Tryz.ntmps28
            go_wp2_with fail
            refine Calls.mono hb1 ?_
            clear hb1
            rintro r w1 ⟨k1, rfl, _, A1, ha1⟩
            obtain ⟨c0, hbar⟩ := HB1.out w1 A1 ha1
            clear HB1 ha1
            go_wp2_with fail
            refine Calls.mono hbar ?_
            clear hbar
            rintro r w2 ⟨rfl, A2, ha2⟩
            have hb2 := HB2.out w2 A2 ha2
            have hle := HLe.out w2 A2 ha2
            clear HB2 ha2 c0 HLe
            go_wp2_with fail
            refine Calls.mono hb2 ?_
            clear hb2
            rintro r w3 ⟨k3, rfl, hk3, A3, ha3⟩
            obtain rfl := hk3 (by simp)
            obtain ⟨c0, hbar⟩ := HB3.out w3 A3 ha3
            clear ha3 hk3 HB3
            go_wp2_with fail
            refine Calls.mono hbar ?_
            clear hbar
            rintro r w4 ⟨rfl, A4, ha4⟩
            have HA4 : Hid (QAct w w4 A A4 C (K.baS S2) C2 0) := ha4
            clear ha4
            go_wp2
            go_ret
            exact ⟨rfl, A4, HA4.out⟩
          · simp only [he2, show ((33 : Int) = 0) = False by simp, if_false] at HB3 ⊢
            go_enter Tryz.func28, Tryz.ntmps28
            go_wp2_with fail
            refine Calls.mono hb1 ?_
            clear hb1
            rintro r w1 ⟨k1, rfl, _, A1, ha1⟩
            obtain ⟨c0, hbar⟩ := HB1.out w1 A1 ha1
            clear HB1 ha1
            go_wp2_with fail
            refine Calls.mono hbar ?_
            clear hbar
            rintro r w2 ⟨rfl, A2, ha2⟩
            have hb2 := HB2.out w2 A2 ha2
            have hle := HLe.out w2 A2 ha2
            clear HB2 ha2 c0 HLe
            go_wp2_with fail
            refine Calls.mono hb2 ?_
            clear hb2
            rintro r w3 ⟨k3, rfl, hk3, A3, ha3⟩
            obtain rfl := hk3 (by simp)
            obtain ⟨c0, hbar⟩ := HB3.out w3 A3 ha3
            clear ha3 hk3 HB3
            go_wp2_with fail
            refine Calls.mono hbar ?_
            clear hbar
            rintro r w4 ⟨rfl, A4, ha4⟩
            have HA4 : Hid (QAct w w4 A A4 C (K.baS S2) C2 1) := ha4.more (by omega)
            clear ha4
            go_wp2
            go_ret
            exact ⟨rfl, A4, HA4.out⟩
        · simp only [show ((33 : Int) = 0) = False by simp, if_false] at HB2 ⊢
          clear hem he hz
          go_enter Tryz.func28, Tryz.ntmps28
          go_wp2_with fail
          refine Calls.mono hb1 ?_
          clear hb1
          rintro r w1 ⟨k1, rfl, _, A1, ha1⟩
          obtain ⟨c0, hbar⟩ := HB1.out w1 A1 ha1
          clear HB1 ha1
          go_wp2_with fail
          refine Calls.mono hbar ?_
          clear hbar
          rintro r w2 ⟨rfl, A2, ha2⟩
          have hb2 := HB2.out w2 A2 ha2
          clear HB2 ha2 c0
          go_wp2_with fail
          refine Calls.mono hb2 ?_
          clear hb2
          rintro r w3 ⟨k3, rfl, hk3, A3, ha3⟩
          have HA3 : Hid (QAct w w3 A A3 C S2 C2 1) := ha3
          clear ha3 hk3
          go_wp2
          go_ret
          exact ⟨rfl, A3, HA3.out⟩
    · simp only [he, show ((33 : Int) = 0) = False by simp, if_false] at HB1 ⊢
      go_enter Tryz.func28, Tryz.ntmps28
      go_wp2_with fail
      refine Calls.mono hb1 ?_
      clear hb1
      rintro r w1 ⟨k1, rfl, _, A1, ha1⟩
      obtain ⟨c0, hbar⟩ := HB1.out w1 A1 ha1
      clear HB1 ha1
      go_wp2_with fail
      refine Calls.mono hbar ?_
      clear hbar
      rintro r w2 ⟨rfl, A2, ha2⟩
      have HA2 : Hid (QAct w w2 A A2 C (K.baS S1) C1 1) := ha2.more (by omega)
      clear ha2 c0
      go_wp2
      go_ret
      exact ⟨rfl, A2, HA2.out⟩
  · simp only [show ((33 : Int) = 0) = False by simp, if_false] at hb1 ⊢
    go_enter Tryz.func28, Tryz.ntmps28
    go_wp2_with fail
    refine Calls.mono hb1 ?_
    clear hb1
    rintro r w1 ⟨k1, rfl, _, A1, ha1⟩
    have HA1 : Hid (QAct w w1 A A1 C S1 C1 1) := ha1
    clear ha1
    go_wp2
    go_ret
    exact ⟨rfl, A1, HA1.out⟩
end
end Go.Proofs.YtlacligofhinmaaGreat.C
