import Derived.Test.YtodinademhibjaaDoorRuR
namespace Go.Proofs.YtodinademhibjaaDoor
open Go.RowKit
set_option linter.unusedVariables false
set_option linter.unusedSimpArgs false
set_option maxRecDepth 100000

theorem beOf_ne {ty : Nat} (h : ty < 8) (h2 : ty ≠ 2) (h3 : ty ≠ 3) : beOf ty ≠ 0 := by
  rcases lt8 h with rfl | rfl | rfl | rfl | rfl | rfl | rfl | rfl <;> first | decide | exact absurd rfl h2 | exact absurd rfl h3
theorem rngT_zero {t0 t1 t2 t3 t4 t5 : Bool} {be : Nat} (h : rngT t0 t1 t2 t3 t4 t5 be = 0) (hb : be ≠ 0) : t0 = false ∧ t3 = false := by
  unfold rngT at h
  cases t0
  · refine ⟨rfl, ?_⟩
    cases t3
    · rfl
    · cases t1 <;> cases t2 <;> simp at h <;> omega
  · simp at h
/-- what is taken -/
theorem chk_zero {sec : Int} {ro : Bool} {mn : Nat} {st ex : Bool} {m py fl ty of ln : Nat} (h : chk sec ro mn st ex m py fl ty of ln = 0) :
    ty < 8 ∧ rfB st ex fl ty = true ∧ (ty ≠ 2 → ty ≠ 3 → (ro && chOf ty) = false ∧ ln ≠ 0 ∧ of ≤ szOf sec ∧ ln ≤ szOf sec - of) := by
  unfold chk chkT at h
  by_cases h8 : ty < 8
  · refine ⟨h8, ?_⟩
    cases hr : rfB st ex fl ty
    · simp [h8, hr] at h
    · refine ⟨rfl, fun h2 h3 => ?_⟩
      simp only [h8, hr, h2, h3, decide_true, Bool.not_true, Bool.false_eq_true, if_false] at h
      cases hc : (ro && chOf ty)
      · rw [hc] at h
        simp only [Bool.false_eq_true, if_false] at h
        split at h
        · cases h
        · unfold rngN at h
          have := rngT_zero h (beOf_ne h8 h2 h3)
          refine ⟨rfl, by simpa using this.1, ?_⟩
          simpa using this.2
      · rw [hc] at h; simp at h
  · simp [h8] at h
theorem ch_no {ty : Nat} (h : ¬ (ty ≠ 2 ∧ ty ≠ 3)) : chOf ty = false := by
  cases hc : chOf ty
  · rfl
  · exact absurd ⟨(ch_ty hc).2.1, (ch_ty hc).2.2⟩ h
theorem or32_lt' (g : Nat) (hg : g < 32) : g ||| 32 < 65536 := by have := Nat.or_lt_two_pow (n := 16) (x := g) (y := 32) (by omega) (by decide); omega
theorem szOf_max (sec : Int) (hs : (Lit.int .i64 sec).wf = true) : IntKind.u64.wrap (IntKind.u64.wrap (max 0 sec) * 512) = (szOf sec : Int) := by
  by_cases h : sec < 0
  · rw [show max 0 sec = ((0 : Nat) : Int) by omega, szOf_nat 0 (by decide), szOf_neg sec h]; rfl
  · obtain ⟨m, rfl⟩ := Int.eq_ofNat_of_zero_le (show 0 ≤ sec by omega)
    rw [show max 0 (m : Int) = (m : Int) by omega]
    exact szOf_nat m (by have := (bounds_i64 hs).2; omega)
theorem rf_flags {st ex : Bool} {fl ty : Nat} (hf : fl < 65536) (h : rfB st ex fl ty = true) : (ty = 1 ∧ ex = true → fl &&& 32 ≠ 0 ∧ (fl &&& (65535 - 32)) &&& (65535 - flOf ty) = 0) ∧ (¬ (ty = 1 ∧ ex = true) → fl &&& (65535 - flOf ty) = 0) := by
  unfold rfB muB at h
  rw [Bool.and_eq_true] at h
  have h1 := of_decide_eq_true h.1
  refine ⟨fun hh => ?_, fun hh => ?_⟩
  · rw [if_pos hh] at h1
    have h2 := (flags_two fl (flOf ty) hf (flOf_lt ty)).1 h1
    refine ⟨h2.2, ?_⟩
    refine zero_tb.2 fun i => ?_
    have h3 := zero_tb.1 h2.1 i
    rw [tb_andNot _ _ _ (or32_lt' _ (flOf_lt ty)), Nat.testBit_or] at h3
    rw [tb_andNot _ _ _ (by have := flOf_lt ty; omega), tb_andNot _ _ _ (by decide)]
    generalize fl.testBit i = p at h3 ⊢
    generalize decide (i < 16) = q at h3 ⊢
    generalize (flOf ty).testBit i = r at h3 ⊢
    generalize Nat.testBit 32 i = t at h3 ⊢
    revert h3
    cases p <;> cases q <;> cases r <;> cases t <;> decide
  · rw [if_neg hh] at h1; exact h1

set_option maxHeartbeats 4000000 in
theorem ruleBounds_any (nm ds : ByteArray) (sec : Int) (ro rt pv tr : Bool) (mn pf : Nat) (ix : Int) (st ex : Bool) (bo : Option Addr) (m bc : Nat) (py op : Nat) (fi : Int) (fl ty ck of ln : Nat) (ao : Option Addr) (n cap : Nat) (hs : (Lit.int .i64 sec).wf = true) (hpy : py < 4294967296) (hmn : mn < 4294967296) (hf : fl < 65536) (ht : ty < 65536) (hof : of < 18446744073709551616) (hln : ln < 18446744073709551616) (w : World) (hT : Tb w) :
    Calls Tryd.prog 5 #[caseV nm ds sec ro rt pv tr mn pf ix st ex bo m bc py op fi fl ty ck of ln ao n cap] w fun e w' => e = .returned (.bool true) ∧ Below w.heap.size w w' := by
  obtain ⟨a, ha⟩ : ∃ a, chk sec ro mn st ex m py fl ty of ln = a := ⟨_, rfl⟩
  have HF : Hid (∀ W, Tb W → Calls Tryd.prog 15 #[expV nm ds sec ro rt pv tr mn pf, sesV ix st ex bo m bc, limV py op fi, reqV fl ty ck of ln ao n cap] W fun e w' => e = .returned (.int .u32 (a : Int)) ∧ Below W.heap.size W w') := fun W hW => by
    rw [← ha]; exact check_any nm ds sec ro rt pv tr mn pf ix st ex bo m bc py op fi fl ty ck of ln ao n cap hs hpy hmn hf ht hof hln W hW
  have HH : Hid (∀ W, Tb W → Calls Tryd.prog 16 #[] W fun e w' => e = .returned (.bool true) ∧ Below W.heap.size W w') := heads_any
  have HT : Hid (Tb w) := hT
  by_cases h0 : a = 0
  · subst h0
    obtain ⟨h8, hrf, hrg⟩ := chk_zero ha
    have hfl := rf_flags hf hrf
    obtain ⟨rg, hrgd⟩ : ∃ rg, decide (ty ≠ 2 ∧ ty ≠ 3) = rg := ⟨_, rfl⟩
    obtain ⟨ch, hchd⟩ : ∃ ch, chOf ty = ch := ⟨_, rfl⟩
    obtain ⟨g, hg⟩ : ∃ g, flOf ty = g := ⟨_, rfl⟩
    obtain ⟨sz, hsz⟩ : ∃ sz, szOf sec = sz := ⟨_, rfl⟩
    have hszl : sz < 18446744073709551616 := by rw [← hsz]; exact szOf_lt sec
    have hgl : g < 32 := by rw [← hg]; exact flOf_lt ty
    have hzm := szOf_max sec hs
    rw [hsz] at hzm
    have HR : Hid (∀ W, Calls Tryd.prog 17 #[.int .u16 (ty : Int)] W fun e w' => e = .returned (.bool rg) ∧ w' = W) := fun W => by rw [← hrgd]; exact ranged_any ty ht W
    have HA : Hid (∀ W, Tb W → Calls Tryd.prog 10 #[.int .u16 (ty : Int)] W fun e w' => e = .returned (.int .u16 (g : Int)) ∧ w' = W) := fun W hW => by rw [← hg]; exact allowed_any ty ht W hW
    have HK : Hid (∀ W, Calls Tryd.prog 8 #[.int .u16 (ty : Int)] W fun e w' => e = .returned (.bool true) ∧ w' = W) := fun W => by
      have := known_any ty ht W
      rwa [show decide (ty < 8) = true by simp [h8]] at this
    have HC : Hid (∀ W, Tb W → Calls Tryd.prog 12 #[.int .u16 (ty : Int)] W fun e w' => e = .returned (.bool ch) ∧ w' = W) := fun W hW => by rw [← hchd]; exact changes_any ty ht W hW
    have HCR : Hid (ch = true → ro = false) := fun hc => by
      have hc' := hchd.trans hc
      have := (hrg (ch_ty hc').2.1 (ch_ty hc').2.2).1
      rw [hc'] at this
      simpa using this
    have HRG : Hid (rg = true → (ln : Int) ≠ 0 ∧ ¬ (sz : Int) ≤ (of : Int) ∧ ¬ (sz : Int) - (of : Int) < (ln : Int) ∧ (of : Int) ≤ (sz : Int)) := fun h => by
      have hh := of_decide_eq_true (hrgd.trans h)
      obtain ⟨_, q1, q2, q3⟩ := hrg hh.1 hh.2
      rw [hsz] at q2 q3
      omega
    rw [hg] at hfl
    have hN := fun (x : Nat) (hx : x < 65536) => u16_andNot_nat x g hx (by omega)
    have HN32 := u16_andNot_nat fl 32 hf (by decide)
    have HA32 := u16_and_nat fl 32 hf (by decide)
    have HFL : Hid ((ty = 1 ∧ ex = true → (bits BinOp.and IntKind.u16 (fl : Int) 32 == 0) = false ∧ ∃ y : Nat, bits BinOp.andNot IntKind.u16 (fl : Int) 32 = (y : Int) ∧ bits BinOp.andNot IntKind.u16 (y : Int) (g : Int) = 0) ∧ (¬ (ty = 1 ∧ ex = true) → bits BinOp.andNot IntKind.u16 (fl : Int) (g : Int) = 0)) := by
      refine ⟨fun hh => ⟨?_, fl &&& (65535 - 32), HN32, ?_⟩, fun hh => ?_⟩
      · apply eqf
        intro he
        have := HA32.symm.trans he
        exact (hfl.1 hh).1 (by omega)
      · rw [hN _ (by have := Nat.and_lt_two_pow (n := 16) fl (y := 65535 - 32) (by decide); omega), (hfl.1 hh).2]; rfl
      · rw [hN _ hf, hfl.2 hh]; rfl
    have HZM : Hid (IntKind.u64.wrap (IntKind.u64.wrap (max 0 sec) * 512) = (sz : Int)) := hzm
    clear hT ha hs hpy hmn hf ht hfl hrf hrg hchd hrgd hg hsz hzm hN HN32 HA32 h8
    go_enter Tryd.func5, Tryd.ntmps5
    go_wp2_with fail
    refine (HF.out _ (HT.out.alloc _)).mono ?_
    rintro e w1 ⟨rfl, hbe⟩
    have BK : Hid (Bk w1 w.heap.size #[.string nm, .string ds, .int .i64 sec, .bool ro, .bool rt, .bool pv, .bool tr, .int .u32 (mn : Int), .int .u32 (pf : Int), .int .i64 ix, .bool st, .bool ex, .slice bo m bc, .int .u32 (py : Int), .int .u32 (op : Int), .int .i64 fi, .int .u16 (fl : Int), .int .u16 (ty : Int), .int .u64 (ck : Int), .int .u64 (of : Int), .int .u64 (ln : Int), .slice ao n cap] 38) := (Bk.new w _ _).later hbe
    have BB : Hid (Below w.heap.size w w1) := bcons (bnew _ _) hbe
    have TT : Hid (Tb w1) := (HT.out.alloc _).later hbe
    clear hbe HF
    go_upto_region 3 with fail
    go_cut [3] from 19 to 24 (fun v wc => v = .int .u64 (sz : Int) ∧ wc = w1)
    case first =>
      have c2 : w1.cell? ⟨w.heap.size, 2, none⟩ = some (.int .i64 sec) := BK.out.c 2 (by show 2 < 22; decide)
      rcases (show sec < 0 ∨ sec = 0 ∨ 0 < sec by omega) with hs0 | hs0 | hs0
      · have hx : max 0 sec = 0 := by omega
        have HX : Hid (max 0 sec = 0) := hx
        clear hx
        go_wp2_with fail
        go_meet
        exact ⟨by rw [← HZM.out, HX.out]; rfl, rfl⟩
      · subst hs0
        go_wp2_with fail
        go_meet
        exact ⟨by rw [← HZM.out]; rfl, rfl⟩
      · have HX : Hid (max 0 sec = sec) := by show max 0 sec = sec; omega
        go_wp2_with fail
        go_meet
        exact ⟨by rw [← HZM.out, HX.out], rfl⟩
    case rest =>
      obtain ⟨rfl, rfl⟩ := hcut
      have c3 : wc.cell? ⟨w.heap.size, 3, none⟩ = some (.bool ro) := BK.out.c 3 (by show 3 < 22; decide)
      have c11 : wc.cell? ⟨w.heap.size, 11, none⟩ = some (.bool ex) := BK.out.c 11 (by show 11 < 22; decide)
      have c16 : wc.cell? ⟨w.heap.size, 16, none⟩ = some (.int .u16 (fl : Int)) := BK.out.c 16 (by show 16 < 22; decide)
      have c17 : wc.cell? ⟨w.heap.size, 17, none⟩ = some (.int .u16 (ty : Int)) := BK.out.c 17 (by show 17 < 22; decide)
      have c19 : wc.cell? ⟨w.heap.size, 19, none⟩ = some (.int .u64 (of : Int)) := BK.out.c 19 (by show 19 < 22; decide)
      have c20 : wc.cell? ⟨w.heap.size, 20, none⟩ = some (.int .u64 (ln : Int)) := BK.out.c 20 (by show 20 < 22; decide)
      go_wp2_with fail
      refine (HR.out _).mono ?_
      rintro e w2 ⟨rfl, hw⟩
      rw [hw]; clear hw w2
      go_upto_region 6 with fail
      go_cut [52] from 32 to 51 (fun v wd => v = .bool false ∧ wd = wc)
      case first =>
        cases rg
        · go_wp2_with fail
          go_meet
          exact ⟨rfl, rfl⟩
        · obtain ⟨r1, r2, r3, r4⟩ : (ln : Int) ≠ 0 ∧ ¬ (sz : Int) ≤ (of : Int) ∧ ¬ (sz : Int) - (of : Int) < (ln : Int) ∧ (of : Int) ≤ (sz : Int) := by
            have h := HRG.out
            simp only [true_implies, forall_const] at h
            omega
          have r1e : ((ln : Int) == 0) = false := eqf r1
          go_wp2_with fail
          go_meet
          exact ⟨rfl, rfl⟩
      case rest =>
        obtain ⟨rfl, rfl⟩ := hcut
        by_cases hx1 : ty = 1 ∧ ex = true
        · obtain ⟨q1, y, q2, q3⟩ := HFL.out.1 hx1
          obtain ⟨rfl, rfl⟩ := hx1
          clear HFL
          go_wp2_with fail
          refine (HA.out _ TT.out).mono ?_
          rintro e w5 ⟨rfl, hw⟩
          rw [hw]; clear hw w5
          go_wp2_with fail
          refine (HK.out _).mono ?_
          rintro e w5 ⟨rfl, hw⟩
          rw [hw]; clear hw w5
          go_wp2_with fail
          refine (HC.out _ TT.out).mono ?_
          rintro e w5 ⟨rfl, hw⟩
          rw [hw]; clear hw w5
          cases ch
          · skip
            go_wp2_with fail
            refine (HH.out _ TT.out).mono ?_
            rintro e w6 ⟨rfl, hbe⟩
            have BB6 : Hid (Below w.heap.size w w6) := bcons BB.out hbe
            have BK6 := BK.out.later hbe
            clear hbe BK6
            go_wp2
            go_ret
            exact ⟨rfl, BB6.out⟩
          · skip
            obtain rfl : ro = false := by have h := HCR.out; simpa using h
            go_wp2_with fail
            refine (HH.out _ TT.out).mono ?_
            rintro e w6 ⟨rfl, hbe⟩
            have BB6 : Hid (Below w.heap.size w w6) := bcons BB.out hbe
            have BK6 := BK.out.later hbe
            have d3 : w6.cell? ⟨w.heap.size, 3, none⟩ = some (.bool false) := BK6.c 3 (by show 3 < 22; decide)
            clear hbe BK6
            go_wp2
            go_ret
            exact ⟨rfl, BB6.out⟩
        · have q3 := HFL.out.2 hx1
          clear HFL
          by_cases h1 : ty = 1
          · obtain rfl : ex = false := by
              cases ex
              · rfl
              · exact absurd ⟨h1, rfl⟩ hx1
            subst h1
            clear hx1
            go_wp2_with fail
            refine (HA.out _ TT.out).mono ?_
            rintro e w5 ⟨rfl, hw⟩
            rw [hw]; clear hw w5
            go_wp2_with fail
            refine (HK.out _).mono ?_
            rintro e w5 ⟨rfl, hw⟩
            rw [hw]; clear hw w5
            go_wp2_with fail
            refine (HC.out _ TT.out).mono ?_
            rintro e w5 ⟨rfl, hw⟩
            rw [hw]; clear hw w5
            cases ch
            · skip
              go_wp2_with fail
              refine (HH.out _ TT.out).mono ?_
              rintro e w6 ⟨rfl, hbe⟩
              have BB6 : Hid (Below w.heap.size w w6) := bcons BB.out hbe
              have BK6 := BK.out.later hbe
              clear hbe BK6
              go_wp2
              go_ret
              exact ⟨rfl, BB6.out⟩
            · skip
              obtain rfl : ro = false := by have h := HCR.out; simpa using h
              go_wp2_with fail
              refine (HH.out _ TT.out).mono ?_
              rintro e w6 ⟨rfl, hbe⟩
              have BB6 : Hid (Below w.heap.size w w6) := bcons BB.out hbe
              have BK6 := BK.out.later hbe
              have d3 : w6.cell? ⟨w.heap.size, 3, none⟩ = some (.bool false) := BK6.c 3 (by show 3 < 22; decide)
              clear hbe BK6
              go_wp2
              go_ret
              exact ⟨rfl, BB6.out⟩
          · have h1' : ((ty : Int) == 1) = false := eqf (by omega)
            clear hx1
            go_wp2_with fail
            refine (HA.out _ TT.out).mono ?_
            rintro e w5 ⟨rfl, hw⟩
            rw [hw]; clear hw w5
            go_wp2_with fail
            refine (HK.out _).mono ?_
            rintro e w5 ⟨rfl, hw⟩
            rw [hw]; clear hw w5
            go_wp2_with fail
            refine (HC.out _ TT.out).mono ?_
            rintro e w5 ⟨rfl, hw⟩
            rw [hw]; clear hw w5
            cases ch
            · skip
              go_wp2_with fail
              refine (HH.out _ TT.out).mono ?_
              rintro e w6 ⟨rfl, hbe⟩
              have BB6 : Hid (Below w.heap.size w w6) := bcons BB.out hbe
              have BK6 := BK.out.later hbe
              clear hbe BK6
              go_wp2
              go_ret
              exact ⟨rfl, BB6.out⟩
            · skip
              obtain rfl : ro = false := by have h := HCR.out; simpa using h
              go_wp2_with fail
              refine (HH.out _ TT.out).mono ?_
              rintro e w6 ⟨rfl, hbe⟩
              have BB6 : Hid (Below w.heap.size w w6) := bcons BB.out hbe
              have BK6 := BK.out.later hbe
              have d3 : w6.cell? ⟨w.heap.size, 3, none⟩ = some (.bool false) := BK6.c 3 (by show 3 < 22; decide)
              clear hbe BK6
              go_wp2
              go_ret
              exact ⟨rfl, BB6.out⟩
  · have h0' : (a : Int) ≠ 0 := by omega
    clear hT ha hs hpy hmn hf ht hof hln
    go_enter Tryd.func5, Tryd.ntmps5
    go_wp2_with fail
    refine (HF.out _ (HT.out.alloc _)).mono ?_
    rintro e w1 ⟨rfl, hbe⟩
    have BB : Hid (Below w.heap.size w w1) := bcons (bnew _ _) hbe
    have TT : Hid (Tb w1) := (HT.out.alloc _).later hbe
    clear hbe HF
    go_wp2_with fail
    refine (HH.out _ TT.out).mono ?_
    rintro e w2 ⟨rfl, hbe⟩
    have BB2 : Hid (Below w.heap.size w w2) := bcons BB.out hbe
    clear hbe
    go_wp2
    go_ret
    exact ⟨rfl, BB2.out⟩
end Go.Proofs.YtodinademhibjaaDoor
