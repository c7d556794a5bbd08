import Derived.Test.YtodinademhibjaaDoorRuE
namespace Go.Proofs.YtodinademhibjaaDoor
open Go.RowKit
set_option linter.unusedVariables false
set_option linter.unusedSimpArgs false
set_option maxRecDepth 100000

set_option maxHeartbeats 8000000 in
theorem rcheck_t (nm ds : ByteArray) (sec : Int) (ro rt pv tr : Bool) (mn pf : Nat) (ix : Int) (st ex : Bool) (bo : Option Addr) (m bc : Nat) (py op : Nat) (fi : Int) (fl ty ck of ln : Nat) (ao : Option Addr) (n cap : Nat) (ch cks b1 lk t2 t4 t5 t7 t8 t9 t10 t11 : Bool) (sz g mb x2 x4 x32 x16 xb2 : Nat) (w : World) (hT : Tb w)
    (HZp : Hid (0 < sec → IntKind.u64.wrap (512 * IntKind.u64.wrap sec) = (sz : Int))) (HZn : Hid (¬ 0 < sec → sz = 0))
    (HA : Hid (∀ W, Calls Tryd.prog 11 #[.int .u16 (ty : Int)] W fun e w' => e = .returned (.int .u16 (g : Int)) ∧ w' = W))
    (HCh : Hid (∀ W, Calls Tryd.prog 13 #[.int .u16 (ty : Int)] W fun e w' => e = .returned (.bool ch) ∧ w' = W))
    (EB1 : Hid (b1 = (decide (ty = 1) && ex))) (HM0 : Hid (b1 = false → mb = g)) (HM1 : Hid (b1 = true → bits BinOp.or IntKind.u16 (g : Int) 32 = (mb : Int)))
    (EC : Hid (cks = (st || ex))) (EL : Hid (lk = (b1 && decide (x32 = 0)))) 
    (hN2 : bits BinOp.andNot IntKind.u16 (fl : Int) (mb : Int) = (x2 : Int)) (hN4 : bits BinOp.and IntKind.u16 (fl : Int) 4 = (x4 : Int)) (hN32 : bits BinOp.and IntKind.u16 (fl : Int) 32 = (x32 : Int)) (hN16 : bits BinOp.and IntKind.u16 (fl : Int) 16 = (x16 : Int)) (hNb2 : bits BinOp.and IntKind.u16 (fl : Int) 2 = (xb2 : Int))
    (E2 : Hid (t2 = (decide (x2 ≠ 0) || lk || (decide (x4 ≠ 0) && !cks)))) (E4 : Hid (t4 = (ch && ro))) (E5 : Hid (t5 = (decide (ty = 7) && (!cks || decide (m = 0)))))
    (E7 : Hid (t7 = ((decide (ty = 0) || decide (ty = 1)) && decide (py < ln)))) (E8 : Hid (t8 = (decide (x4 ≠ 0) && decide (65536 < ln)))) (E9 : Hid (t9 = (decide (sz < of) || decide (sz - of < ln))))
    (E10 : Hid (t10 = (decide (1 < mn) && (decide (of % mn ≠ 0) || decide (ln % mn ≠ 0))))) (E11 : Hid (t11 = (decide (x16 ≠ 0) && (decide (xb2 ≠ 0) || decide (of % 512 ≠ 0) || decide (ln % 512 ≠ 0)))))
    (hpy : py < 4294967296) (hmn : mn < 4294967296) (hof : of < 18446744073709551616) (hln : ln < 18446744073709551616) (hsz : sz < 18446744073709551616) (R : Nat) (ER : Hid (R = chkT (decide (ty < 8)) (!t2) ty (if of = 0 ∧ ln = 0 then 0 else 22) t4 t5 (rngT (decide (ln = 0)) t7 t8 t9 t10 t11 (if ty = 1 ∨ ty = 6 then 28 else 22)))) :
    Calls Tryd.prog 14 #[expV nm ds sec ro rt pv tr mn pf, sesV ix st ex bo m bc, limV py op fi, reqV fl ty ck of ln ao n cap] w fun e w' => e = .returned (.int .u32 (R : Int)) ∧ Below w.heap.size w w' := by
  have HS0 : Hid (∀ (t1 t2 t3 t4 : TypeId) (f1 f2 f3 f4 : Nat × Nat), S4 w ((((w.alloc (.cells #[.string nm, .string ds, .int .i64 sec, .bool ro, .bool rt, .bool pv, .bool tr, .int .u32 (mn : Int), .int .u32 (pf : Int)] t1 f1)).alloc (.cells #[.int .i64 ix, .bool st, .bool ex, .slice bo m bc] t2 f2)).alloc (.cells #[.int .u32 (py : Int), .int .u32 (op : Int), .int .i64 fi] t3 f3)).alloc (.cells #[.int .u16 (fl : Int), .int .u16 (ty : Int), .int .u64 (ck : Int), .int .u64 (of : Int), .int .u64 (ln : Int), .slice ao n cap] t4 f4)) nm ds sec ro rt pv tr mn pf ix st ex bo m bc py op fi fl ty ck of ln ao n cap) := fun t1 t2 t3 t4 f1 f2 f3 f4 => S4.start w nm ds sec ro rt pv tr mn pf ix st ex bo m bc py op fi fl ty ck of ln ao n cap hT t1 t2 t3 t4 f1 f2 f3 f4
  clear hT
  go_enter Tryd.func14, Tryd.ntmps14
  go_upto_if 18 with fail
  go_cut [9, 18] from 19 to 22 (fun v d wc => v = .int .u64 (sz : Int) ∧ Hid (S4 w wc nm ds sec ro rt pv tr mn pf ix st ex bo m bc py op fi fl ty ck of ln ao n cap))
  case first =>
    have HS : Hid (S4 w _ nm ds sec ro rt pv tr mn pf ix st ex bo m bc py op fi fl ty ck of ln ao n cap) := HS0.out 27 30 32 36 (0, 0) (0, 0) (0, 0) (0, 0)
    clear HS0
    by_cases hs0 : 0 < sec
    · go_wp2_with fail
      go_meet
      exact ⟨by rw [← HZp.out hs0], HS⟩
    · have hs1 : sec ≤ 0 := by omega
      go_wp2_with fail
      go_meet
      exact ⟨by rw [HZn.out hs0]; rfl, HS⟩
  case rest =>
    clear HS0
    obtain ⟨rfl, HS⟩ := hcut
    have q1 : wc.cell? ⟨w.heap.size + 1 + 1 + 1, 1, none⟩ = some (.int .u16 (ty : Int)) := HS.out.q 1 (by show 1 < 6; decide)
    have q4 : wc.cell? ⟨w.heap.size + 1 + 1 + 1, 4, none⟩ = some (.int .u64 (ln : Int)) := HS.out.q 4 (by show 4 < 6; decide)
    go_wp2_with fail
    refine (HA.out _).mono ?_
    rintro e w1 ⟨rfl, hw⟩
    rw [hw]; clear hw
    go_wp2_with fail
    refine (HCh.out _).mono ?_
    rintro e w1 ⟨rfl, hw⟩
    rw [hw]; clear hw
    go_upto_region 8 with fail
    clear q1 q4
    go_cut [36] from 31 to 35 (fun v wc => v = .bool b1 ∧ Hid (S4 w wc nm ds sec ro rt pv tr mn pf ix st ex bo m bc py op fi fl ty ck of ln ao n cap))
    case first =>
      have s2 : wc.cell? ⟨w.heap.size + 1, 2, none⟩ = some (.bool ex) := HS.out.s 2 (by show 2 < 4; decide)
      by_cases h1 : ty = 1
      · skip
        have h1p0 : (((ty : Int) == 1) = true) := by rw [h1]; rfl
        replace h1 : Hid (ty = 1) := h1
        first
        | (exfalso; omega)
        | (go_wp2_with fail
           go_meet
           exact ⟨by rw [EB1.out]; simp [h1.out] <;> omega, HS⟩)
      · skip
        have h1p0 : (((ty : Int) == 1) = false) := eqf (by omega)
        replace h1 : Hid (¬ ty = 1) := h1
        first
        | (exfalso; omega)
        | (go_wp2_with fail
           go_meet
           exact ⟨by rw [EB1.out]; simp [h1.out] <;> omega, HS⟩)
    case rest =>
      clear HS
      obtain ⟨rfl, HS⟩ := hcut
      go_upto_if 36 with fail
      go_cut [11, 36] from 37 to 38 (fun v d wc => v = .int .u16 (mb : Int) ∧ Hid (S4 w wc nm ds sec ro rt pv tr mn pf ix st ex bo m bc py op fi fl ty ck of ln ao n cap))
      case first =>
        cases b1
        · go_wp2_with fail
          go_meet
          exact ⟨by rw [HM0.out (by simp)], HS⟩
        · go_wp2_with fail
          go_meet
          exact ⟨by rw [HM1.out (by simp)], HS⟩
      case rest =>
        clear HS
        obtain ⟨rfl, HS⟩ := hcut
        go_upto_region 10 with fail
        go_cut [14] from 39 to 44 (fun v wc => v = .bool cks ∧ Hid (S4 w wc nm ds sec ro rt pv tr mn pf ix st ex bo m bc py op fi fl ty ck of ln ao n cap))
        case first =>
          have s1 : wc.cell? ⟨w.heap.size + 1, 1, none⟩ = some (.bool st) := HS.out.s 1 (by show 1 < 4; decide)
          have s2 : wc.cell? ⟨w.heap.size + 1, 2, none⟩ = some (.bool ex) := HS.out.s 2 (by show 2 < 4; decide)
          cases st
          · skip
            first
            | (exfalso; omega)
            | (go_wp2_with fail
               go_meet
               exact ⟨by rw [EC.out]; simp [] <;> omega, HS⟩)
          · skip
            first
            | (exfalso; omega)
            | (go_wp2_with fail
               go_meet
               exact ⟨by rw [EC.out]; simp [] <;> omega, HS⟩)
        case rest =>
          clear HS
          obtain ⟨rfl, HS⟩ := hcut
          go_upto_region 11 with fail
          go_cut [15] from 45 to 56 (fun v wc => v = .bool lk ∧ Hid (S4 w wc nm ds sec ro rt pv tr mn pf ix st ex bo m bc py op fi fl ty ck of ln ao n cap))
          case first =>
            have s2 : wc.cell? ⟨w.heap.size + 1, 2, none⟩ = some (.bool ex) := HS.out.s 2 (by show 2 < 4; decide)
            have q0 : wc.cell? ⟨w.heap.size + 1 + 1 + 1, 0, none⟩ = some (.int .u16 (fl : Int)) := HS.out.q 0 (by show 0 < 6; decide)
            by_cases h1 : ty = 1
            · skip
              have h1p0 : (((ty : Int) == 1) = true) := by rw [h1]; rfl
              replace h1 : Hid (ty = 1) := h1
              cases ex
              · skip
                by_cases h32 : x32 = 0
                · skip
                  have h32p0 : (x32 : Int) = 0 := by omega
                  first
                  | (exfalso; omega)
                  | (go_wp2_with fail
                     go_meet
                     exact ⟨by rw [EL.out]; simp [EB1.out, h1.out, h32] <;> omega, HS⟩)
                · skip
                  have h32p0 : (x32 : Int) ≠ 0 := by omega
                  first
                  | (exfalso; omega)
                  | (go_wp2_with fail
                     go_meet
                     exact ⟨by rw [EL.out]; simp [EB1.out, h1.out, h32] <;> omega, HS⟩)
              · skip
                by_cases h32 : x32 = 0
                · skip
                  have h32p0 : (x32 : Int) = 0 := by omega
                  first
                  | (exfalso; omega)
                  | (go_wp2_with fail
                     go_meet
                     exact ⟨by rw [EL.out]; simp [EB1.out, h1.out, h32] <;> omega, HS⟩)
                · skip
                  have h32p0 : (x32 : Int) ≠ 0 := by omega
                  first
                  | (exfalso; omega)
                  | (go_wp2_with fail
                     go_meet
                     exact ⟨by rw [EL.out]; simp [EB1.out, h1.out, h32] <;> omega, HS⟩)
            · skip
              have h1p0 : (((ty : Int) == 1) = false) := eqf (by omega)
              replace h1 : Hid (¬ ty = 1) := h1
              cases ex
              · skip
                by_cases h32 : x32 = 0
                · skip
                  have h32p0 : (x32 : Int) = 0 := by omega
                  first
                  | (exfalso; omega)
                  | (go_wp2_with fail
                     go_meet
                     exact ⟨by rw [EL.out]; simp [EB1.out, h1.out, h32] <;> omega, HS⟩)
                · skip
                  have h32p0 : (x32 : Int) ≠ 0 := by omega
                  first
                  | (exfalso; omega)
                  | (go_wp2_with fail
                     go_meet
                     exact ⟨by rw [EL.out]; simp [EB1.out, h1.out, h32] <;> omega, HS⟩)
              · skip
                by_cases h32 : x32 = 0
                · skip
                  have h32p0 : (x32 : Int) = 0 := by omega
                  first
                  | (exfalso; omega)
                  | (go_wp2_with fail
                     go_meet
                     exact ⟨by rw [EL.out]; simp [EB1.out, h1.out, h32] <;> omega, HS⟩)
                · skip
                  have h32p0 : (x32 : Int) ≠ 0 := by omega
                  first
                  | (exfalso; omega)
                  | (go_wp2_with fail
                     go_meet
                     exact ⟨by rw [EL.out]; simp [EB1.out, h1.out, h32] <;> omega, HS⟩)
          case rest =>
            clear HS
            obtain ⟨rfl, HS⟩ := hcut
            by_cases h8 : 7 < ty
            · have h8' : (7 : Int) < (ty : Int) := by omega
              have h8n : ¬ ty < 8 := by omega
              go_wp2
              go_ret
              refine ⟨?_, HS.out.bel⟩
              refine congrArg (fun z : Nat => Ending.returned (.int .u32 (z : Int))) (?_ : 22 = _)
              rw [ER.out]; simp [chkT, rngT, h8n]
            · have h8' : ¬ (7 : Int) < (ty : Int) := by omega
              have h8n : ty < 8 := by omega
              have h8b : decide ((7 : Int) < (ty : Int)) = false := by simp; omega
              go_upto_region 14 with fail
              try simp only [h8b]
              go_cut [60] from 61 to 78 (fun v wc => v = .bool t2 ∧ Hid (S4 w wc nm ds sec ro rt pv tr mn pf ix st ex bo m bc py op fi fl ty ck of ln ao n cap))
              case first =>
                have q0 : wc.cell? ⟨w.heap.size + 1 + 1 + 1, 0, none⟩ = some (.int .u16 (fl : Int)) := HS.out.q 0 (by show 0 < 6; decide)
                by_cases hx2 : x2 = 0
                · skip
                  have hx2p0 : (x2 : Int) = 0 := by omega
                  cases lk
                  · skip
                    by_cases hx4 : x4 = 0
                    · skip
                      have hx4p0 : (x4 : Int) = 0 := by omega
                      cases cks
                      · skip
                        first
                        | (exfalso; omega)
                        | (go_wp2_with fail
                           go_meet
                           exact ⟨by rw [E2.out]; simp [hx2, hx4] <;> omega, HS⟩)
                      · skip
                        first
                        | (exfalso; omega)
                        | (go_wp2_with fail
                           go_meet
                           exact ⟨by rw [E2.out]; simp [hx2, hx4] <;> omega, HS⟩)
                    · skip
                      have hx4p0 : (x4 : Int) ≠ 0 := by omega
                      cases cks
                      · skip
                        first
                        | (exfalso; omega)
                        | (go_wp2_with fail
                           go_meet
                           exact ⟨by rw [E2.out]; simp [hx2, hx4] <;> omega, HS⟩)
                      · skip
                        first
                        | (exfalso; omega)
                        | (go_wp2_with fail
                           go_meet
                           exact ⟨by rw [E2.out]; simp [hx2, hx4] <;> omega, HS⟩)
                  · skip
                    by_cases hx4 : x4 = 0
                    · skip
                      have hx4p0 : (x4 : Int) = 0 := by omega
                      cases cks
                      · skip
                        first
                        | (exfalso; omega)
                        | (go_wp2_with fail
                           go_meet
                           exact ⟨by rw [E2.out]; simp [hx2, hx4] <;> omega, HS⟩)
                      · skip
                        first
                        | (exfalso; omega)
                        | (go_wp2_with fail
                           go_meet
                           exact ⟨by rw [E2.out]; simp [hx2, hx4] <;> omega, HS⟩)
                    · skip
                      have hx4p0 : (x4 : Int) ≠ 0 := by omega
                      cases cks
                      · skip
                        first
                        | (exfalso; omega)
                        | (go_wp2_with fail
                           go_meet
                           exact ⟨by rw [E2.out]; simp [hx2, hx4] <;> omega, HS⟩)
                      · skip
                        first
                        | (exfalso; omega)
                        | (go_wp2_with fail
                           go_meet
                           exact ⟨by rw [E2.out]; simp [hx2, hx4] <;> omega, HS⟩)
                · skip
                  have hx2p0 : (x2 : Int) ≠ 0 := by omega
                  cases lk
                  · skip
                    by_cases hx4 : x4 = 0
                    · skip
                      have hx4p0 : (x4 : Int) = 0 := by omega
                      cases cks
                      · skip
                        first
                        | (exfalso; omega)
                        | (go_wp2_with fail
                           go_meet
                           exact ⟨by rw [E2.out]; simp [hx2, hx4] <;> omega, HS⟩)
                      · skip
                        first
                        | (exfalso; omega)
                        | (go_wp2_with fail
                           go_meet
                           exact ⟨by rw [E2.out]; simp [hx2, hx4] <;> omega, HS⟩)
                    · skip
                      have hx4p0 : (x4 : Int) ≠ 0 := by omega
                      cases cks
                      · skip
                        first
                        | (exfalso; omega)
                        | (go_wp2_with fail
                           go_meet
                           exact ⟨by rw [E2.out]; simp [hx2, hx4] <;> omega, HS⟩)
                      · skip
                        first
                        | (exfalso; omega)
                        | (go_wp2_with fail
                           go_meet
                           exact ⟨by rw [E2.out]; simp [hx2, hx4] <;> omega, HS⟩)
                  · skip
                    by_cases hx4 : x4 = 0
                    · skip
                      have hx4p0 : (x4 : Int) = 0 := by omega
                      cases cks
                      · skip
                        first
                        | (exfalso; omega)
                        | (go_wp2_with fail
                           go_meet
                           exact ⟨by rw [E2.out]; simp [hx2, hx4] <;> omega, HS⟩)
                      · skip
                        first
                        | (exfalso; omega)
                        | (go_wp2_with fail
                           go_meet
                           exact ⟨by rw [E2.out]; simp [hx2, hx4] <;> omega, HS⟩)
                    · skip
                      have hx4p0 : (x4 : Int) ≠ 0 := by omega
                      cases cks
                      · skip
                        first
                        | (exfalso; omega)
                        | (go_wp2_with fail
                           go_meet
                           exact ⟨by rw [E2.out]; simp [hx2, hx4] <;> omega, HS⟩)
                      · skip
                        first
                        | (exfalso; omega)
                        | (go_wp2_with fail
                           go_meet
                           exact ⟨by rw [E2.out]; simp [hx2, hx4] <;> omega, HS⟩)
              case rest =>
                clear HS
                obtain ⟨rfl, HS⟩ := hcut
                cases t2
                rotate_left
                · skip
                  go_wp2
                  go_ret
                  refine ⟨?_, HS.out.bel⟩
                  refine congrArg (fun z : Nat => Ending.returned (.int .u32 (z : Int))) (?_ : 22 = _)
                  rw [ER.out]; simp [chkT, rngT, h8n]
                by_cases h2 : ty = 2
                · have h2' : (ty : Int) = 2 := by omega
                  go_wp2
                  go_ret
                  refine ⟨?_, HS.out.bel⟩
                  refine congrArg (fun z : Nat => Ending.returned (.int .u32 (z : Int))) (?_ : 0 = _)
                  rw [ER.out]; simp [chkT, rngT, h8n, h2]
                have h2' : (ty : Int) ≠ 2 := by omega
                by_cases h3 : ty = 3
                · have h3' : (ty : Int) = 3 := by omega
                  have q3 : wc.cell? ⟨w.heap.size + 1 + 1 + 1, 3, none⟩ = some (.int .u64 (of : Int)) := HS.out.q 3 (by show 3 < 6; decide)
                  have q4 : wc.cell? ⟨w.heap.size + 1 + 1 + 1, 4, none⟩ = some (.int .u64 (ln : Int)) := HS.out.q 4 (by show 4 < 6; decide)
                  by_cases ho : of = 0
                  · have ho' : (of : Int) = 0 := by omega
                    by_cases hl : ln = 0
                    · have hl' : (ln : Int) = 0 := by omega
                      go_wp2
                      go_ret
                      refine ⟨?_, HS.out.bel⟩
                      refine congrArg (fun z : Nat => Ending.returned (.int .u32 (z : Int))) (?_ : 0 = _)
                      rw [ER.out]; simp [chkT, rngT, h8n, h2, h3, ho, hl]
                    · have hl' : (ln : Int) ≠ 0 := by omega
                      go_wp2
                      go_ret
                      refine ⟨?_, HS.out.bel⟩
                      refine congrArg (fun z : Nat => Ending.returned (.int .u32 (z : Int))) (?_ : 22 = _)
                      rw [ER.out]; simp [chkT, rngT, h8n, h2, h3, ho, hl]
                  · have ho' : (of : Int) ≠ 0 := by omega
                    go_wp2
                    go_ret
                    refine ⟨?_, HS.out.bel⟩
                    refine congrArg (fun z : Nat => Ending.returned (.int .u32 (z : Int))) (?_ : 22 = _)
                    rw [ER.out]; simp [chkT, rngT, h8n, h2, h3, ho]
                have h3' : (ty : Int) ≠ 3 := by omega
                have HE2 : Hid (((ty : Int) == 2) = false) := eqf h2'
                have HE3 : Hid (((ty : Int) == 3) = false) := eqf h3'
                go_upto_region 22 with fail
                try simp only [HE2.out, HE3.out]
                go_cut [93] from 94 to 98 (fun v wc => v = .bool t4 ∧ Hid (S4 w wc nm ds sec ro rt pv tr mn pf ix st ex bo m bc py op fi fl ty ck of ln ao n cap))
                case first =>
                  have e3 : wc.cell? ⟨w.heap.size, 3, none⟩ = some (.bool ro) := HS.out.e 3 (by show 3 < 9; decide)
                  cases ch
                  · skip
                    first
                    | (exfalso; omega)
                    | (go_wp2_with fail
                       go_meet
                       exact ⟨by rw [E4.out]; simp [] <;> omega, HS⟩)
                  · skip
                    first
                    | (exfalso; omega)
                    | (go_wp2_with fail
                       go_meet
                       exact ⟨by rw [E4.out]; simp [] <;> omega, HS⟩)
                case rest =>
                  clear HS
                  obtain ⟨rfl, HS⟩ := hcut
                  cases t4
                  rotate_left
                  · skip
                    go_wp2
                    go_ret
                    refine ⟨?_, HS.out.bel⟩
                    refine congrArg (fun z : Nat => Ending.returned (.int .u32 (z : Int))) (?_ : 1 = _)
                    rw [ER.out]; simp [chkT, rngT, h8n, h2, h3]
                  go_upto_region 24 with fail
                  go_cut [99] from 100 to 111 (fun v wc => v = .bool t5 ∧ Hid (S4 w wc nm ds sec ro rt pv tr mn pf ix st ex bo m bc py op fi fl ty ck of ln ao n cap))
                  case first =>
                    have s3 : wc.cell? ⟨w.heap.size + 1, 3, none⟩ = some (.slice bo m bc) := HS.out.s 3 (by show 3 < 4; decide)
                    by_cases h7 : ty = 7
                    · skip
                      have h7p0 : (((ty : Int) == 7) = true) := by rw [h7]; rfl
                      replace h7 : Hid (ty = 7) := h7
                      cases cks
                      · skip
                        by_cases hm : m = 0
                        · skip
                          have hmp0 : (((m : Int) == 0) = true) := by rw [hm]; rfl
                          replace hm : Hid (m = 0) := hm
                          first
                          | (exfalso; omega)
                          | (go_wp2_with fail
                             go_meet
                             exact ⟨by rw [E5.out]; simp [h7.out, hm.out] <;> omega, HS⟩)
                        · skip
                          have hmp0 : (((m : Int) == 0) = false) := eqf (by omega)
                          replace hm : Hid (¬ m = 0) := hm
                          first
                          | (exfalso; omega)
                          | (go_wp2_with fail
                             go_meet
                             exact ⟨by rw [E5.out]; simp [h7.out, hm.out] <;> omega, HS⟩)
                      · skip
                        by_cases hm : m = 0
                        · skip
                          have hmp0 : (((m : Int) == 0) = true) := by rw [hm]; rfl
                          replace hm : Hid (m = 0) := hm
                          first
                          | (exfalso; omega)
                          | (go_wp2_with fail
                             go_meet
                             exact ⟨by rw [E5.out]; simp [h7.out, hm.out] <;> omega, HS⟩)
                        · skip
                          have hmp0 : (((m : Int) == 0) = false) := eqf (by omega)
                          replace hm : Hid (¬ m = 0) := hm
                          first
                          | (exfalso; omega)
                          | (go_wp2_with fail
                             go_meet
                             exact ⟨by rw [E5.out]; simp [h7.out, hm.out] <;> omega, HS⟩)
                    · skip
                      have h7p0 : (((ty : Int) == 7) = false) := eqf (by omega)
                      replace h7 : Hid (¬ ty = 7) := h7
                      cases cks
                      · skip
                        by_cases hm : m = 0
                        · skip
                          have hmp0 : (((m : Int) == 0) = true) := by rw [hm]; rfl
                          replace hm : Hid (m = 0) := hm
                          first
                          | (exfalso; omega)
                          | (go_wp2_with fail
                             go_meet
                             exact ⟨by rw [E5.out]; simp [h7.out, hm.out] <;> omega, HS⟩)
                        · skip
                          have hmp0 : (((m : Int) == 0) = false) := eqf (by omega)
                          replace hm : Hid (¬ m = 0) := hm
                          first
                          | (exfalso; omega)
                          | (go_wp2_with fail
                             go_meet
                             exact ⟨by rw [E5.out]; simp [h7.out, hm.out] <;> omega, HS⟩)
                      · skip
                        by_cases hm : m = 0
                        · skip
                          have hmp0 : (((m : Int) == 0) = true) := by rw [hm]; rfl
                          replace hm : Hid (m = 0) := hm
                          first
                          | (exfalso; omega)
                          | (go_wp2_with fail
                             go_meet
                             exact ⟨by rw [E5.out]; simp [h7.out, hm.out] <;> omega, HS⟩)
                        · skip
                          have hmp0 : (((m : Int) == 0) = false) := eqf (by omega)
                          replace hm : Hid (¬ m = 0) := hm
                          first
                          | (exfalso; omega)
                          | (go_wp2_with fail
                             go_meet
                             exact ⟨by rw [E5.out]; simp [h7.out, hm.out] <;> omega, HS⟩)
                  case rest =>
                    clear HS
                    obtain ⟨rfl, HS⟩ := hcut
                    cases t5
                    rotate_left
                    · skip
                      go_wp2
                      go_ret
                      refine ⟨?_, HS.out.bel⟩
                      refine congrArg (fun z : Nat => Ending.returned (.int .u32 (z : Int))) (?_ : 22 = _)
                      rw [ER.out]; simp [chkT, rngT, h8n, h2, h3]
                    by_cases h0 : ln = 0
                    · have h0' : (ln : Int) = 0 := by omega
                      have q4 : wc.cell? ⟨w.heap.size + 1 + 1 + 1, 4, none⟩ = some (.int .u64 (ln : Int)) := HS.out.q 4 (by show 4 < 6; decide)
                      go_wp2
                      go_ret
                      refine ⟨?_, HS.out.bel⟩
                      refine congrArg (fun z : Nat => Ending.returned (.int .u32 (z : Int))) (?_ : 22 = _)
                      rw [ER.out]; simp [chkT, rngT, h8n, h2, h3, h0]
                    have h0' : (ln : Int) ≠ 0 := by omega
                    have HE0 : Hid (((ln : Int) == 0) = false) := eqf h0'
                    have q4 : wc.cell? ⟨w.heap.size + 1 + 1 + 1, 4, none⟩ = some (.int .u64 (ln : Int)) := HS.out.q 4 (by show 4 < 6; decide)
                    go_upto_region 28 with fail
                    clear q4
                    try simp only [HE0.out]
                    go_cut [116] from 117 to 129 (fun v wc => v = .bool t7 ∧ Hid (S4 w wc nm ds sec ro rt pv tr mn pf ix st ex bo m bc py op fi fl ty ck of ln ao n cap))
                    case first =>
                      have l0 : wc.cell? ⟨w.heap.size + 1 + 1, 0, none⟩ = some (.int .u32 (py : Int)) := HS.out.l 0 (by show 0 < 3; decide)
                      by_cases ha : ty = 0
                      · skip
                        have hap0 : (((ty : Int) == 0) = true) := by rw [ha]; rfl
                        replace ha : Hid (ty = 0) := ha
                        by_cases hb : ty = 1
                        · skip
                          have hbp0 : (((ty : Int) == 1) = true) := by rw [hb]; rfl
                          replace hb : Hid (ty = 1) := hb
                          by_cases hp : py < ln
                          · skip
                            have hpp0 : (py : Int) < (ln : Int) := by omega
                            first
                            | (exfalso; omega)
                            | (go_wp2_with fail
                               go_meet
                               exact ⟨by rw [E7.out]; simp [ha.out, hb.out, hp] <;> omega, HS⟩)
                          · skip
                            have hpp0 : ¬ (py : Int) < (ln : Int) := by omega
                            first
                            | (exfalso; omega)
                            | (go_wp2_with fail
                               go_meet
                               exact ⟨by rw [E7.out]; simp [ha.out, hb.out, hp] <;> omega, HS⟩)
                        · skip
                          have hbp0 : (((ty : Int) == 1) = false) := eqf (by omega)
                          replace hb : Hid (¬ ty = 1) := hb
                          by_cases hp : py < ln
                          · skip
                            have hpp0 : (py : Int) < (ln : Int) := by omega
                            first
                            | (exfalso; omega)
                            | (go_wp2_with fail
                               go_meet
                               exact ⟨by rw [E7.out]; simp [ha.out, hb.out, hp] <;> omega, HS⟩)
                          · skip
                            have hpp0 : ¬ (py : Int) < (ln : Int) := by omega
                            first
                            | (exfalso; omega)
                            | (go_wp2_with fail
                               go_meet
                               exact ⟨by rw [E7.out]; simp [ha.out, hb.out, hp] <;> omega, HS⟩)
                      · skip
                        have hap0 : (((ty : Int) == 0) = false) := eqf (by omega)
                        replace ha : Hid (¬ ty = 0) := ha
                        by_cases hb : ty = 1
                        · skip
                          have hbp0 : (((ty : Int) == 1) = true) := by rw [hb]; rfl
                          replace hb : Hid (ty = 1) := hb
                          by_cases hp : py < ln
                          · skip
                            have hpp0 : (py : Int) < (ln : Int) := by omega
                            first
                            | (exfalso; omega)
                            | (go_wp2_with fail
                               go_meet
                               exact ⟨by rw [E7.out]; simp [ha.out, hb.out, hp] <;> omega, HS⟩)
                          · skip
                            have hpp0 : ¬ (py : Int) < (ln : Int) := by omega
                            first
                            | (exfalso; omega)
                            | (go_wp2_with fail
                               go_meet
                               exact ⟨by rw [E7.out]; simp [ha.out, hb.out, hp] <;> omega, HS⟩)
                        · skip
                          have hbp0 : (((ty : Int) == 1) = false) := eqf (by omega)
                          replace hb : Hid (¬ ty = 1) := hb
                          by_cases hp : py < ln
                          · skip
                            have hpp0 : (py : Int) < (ln : Int) := by omega
                            first
                            | (exfalso; omega)
                            | (go_wp2_with fail
                               go_meet
                               exact ⟨by rw [E7.out]; simp [ha.out, hb.out, hp] <;> omega, HS⟩)
                          · skip
                            have hpp0 : ¬ (py : Int) < (ln : Int) := by omega
                            first
                            | (exfalso; omega)
                            | (go_wp2_with fail
                               go_meet
                               exact ⟨by rw [E7.out]; simp [ha.out, hb.out, hp] <;> omega, HS⟩)
                    case rest =>
                      clear HS
                      obtain ⟨rfl, HS⟩ := hcut
                      cases t7
                      rotate_left
                      · skip
                        go_wp2
                        go_ret
                        refine ⟨?_, HS.out.bel⟩
                        refine congrArg (fun z : Nat => Ending.returned (.int .u32 (z : Int))) (?_ : 22 = _)
                        rw [ER.out]; simp [chkT, rngT, h8n, h2, h3, h0]
                      go_upto_region 30 with fail
                      go_cut [130] from 131 to 139 (fun v wc => v = .bool t8 ∧ Hid (S4 w wc nm ds sec ro rt pv tr mn pf ix st ex bo m bc py op fi fl ty ck of ln ao n cap))
                      case first =>
                        have q0 : wc.cell? ⟨w.heap.size + 1 + 1 + 1, 0, none⟩ = some (.int .u16 (fl : Int)) := HS.out.q 0 (by show 0 < 6; decide)
                        have q4 : wc.cell? ⟨w.heap.size + 1 + 1 + 1, 4, none⟩ = some (.int .u64 (ln : Int)) := HS.out.q 4 (by show 4 < 6; decide)
                        by_cases hx4 : x4 = 0
                        · skip
                          have hx4p0 : (x4 : Int) = 0 := by omega
                          by_cases hp : 65536 < ln
                          · skip
                            have hpp0 : (65536 : Int) < (ln : Int) := by omega
                            first
                            | (exfalso; omega)
                            | (go_wp2_with fail
                               go_meet
                               exact ⟨by rw [E8.out]; simp [hx4, hp] <;> omega, HS⟩)
                          · skip
                            have hpp0 : ¬ (65536 : Int) < (ln : Int) := by omega
                            first
                            | (exfalso; omega)
                            | (go_wp2_with fail
                               go_meet
                               exact ⟨by rw [E8.out]; simp [hx4, hp] <;> omega, HS⟩)
                        · skip
                          have hx4p0 : (x4 : Int) ≠ 0 := by omega
                          by_cases hp : 65536 < ln
                          · skip
                            have hpp0 : (65536 : Int) < (ln : Int) := by omega
                            first
                            | (exfalso; omega)
                            | (go_wp2_with fail
                               go_meet
                               exact ⟨by rw [E8.out]; simp [hx4, hp] <;> omega, HS⟩)
                          · skip
                            have hpp0 : ¬ (65536 : Int) < (ln : Int) := by omega
                            first
                            | (exfalso; omega)
                            | (go_wp2_with fail
                               go_meet
                               exact ⟨by rw [E8.out]; simp [hx4, hp] <;> omega, HS⟩)
                      case rest =>
                        clear HS
                        obtain ⟨rfl, HS⟩ := hcut
                        cases t8
                        rotate_left
                        · skip
                          go_wp2
                          go_ret
                          refine ⟨?_, HS.out.bel⟩
                          refine congrArg (fun z : Nat => Ending.returned (.int .u32 (z : Int))) (?_ : 75 = _)
                          rw [ER.out]; simp [chkT, rngT, h8n, h2, h3, h0]
                        go_upto_region 32 with fail
                        go_cut [140] from 141 to 152 (fun v wc => v = .bool t9 ∧ Hid (S4 w wc nm ds sec ro rt pv tr mn pf ix st ex bo m bc py op fi fl ty ck of ln ao n cap))
                        case first =>
                          have q3 : wc.cell? ⟨w.heap.size + 1 + 1 + 1, 3, none⟩ = some (.int .u64 (of : Int)) := HS.out.q 3 (by show 3 < 6; decide)
                          by_cases hz : sz < of
                          · skip
                            have hzp0 : (sz : Int) < (of : Int) := by omega
                            by_cases hp : sz - of < ln
                            · skip
                              have hpp0 : (sz : Int) - (of : Int) < (ln : Int) := by omega
                              first
                              | (exfalso; omega)
                              | (go_wp2_with fail
                                 go_meet
                                 exact ⟨by rw [E9.out]; simp [hz, hp] <;> omega, HS⟩)
                            · skip
                              have hpp0 : ¬ (sz : Int) - (of : Int) < (ln : Int) := by omega
                              first
                              | (exfalso; omega)
                              | (go_wp2_with fail
                                 go_meet
                                 exact ⟨by rw [E9.out]; simp [hz, hp] <;> omega, HS⟩)
                          · skip
                            have hzp0 : ¬ (sz : Int) < (of : Int) := by omega
                            by_cases hp : sz - of < ln
                            · skip
                              have hpp0 : (sz : Int) - (of : Int) < (ln : Int) := by omega
                              first
                              | (exfalso; omega)
                              | (go_wp2_with fail
                                 go_meet
                                 exact ⟨by rw [E9.out]; simp [hz, hp] <;> omega, HS⟩)
                            · skip
                              have hpp0 : ¬ (sz : Int) - (of : Int) < (ln : Int) := by omega
                              first
                              | (exfalso; omega)
                              | (go_wp2_with fail
                                 go_meet
                                 exact ⟨by rw [E9.out]; simp [hz, hp] <;> omega, HS⟩)
                        case rest =>
                          clear HS
                          obtain ⟨rfl, HS⟩ := hcut
                          cases t9
                          rotate_left
                          · skip
                            by_cases hb : ty = 1
                            · have hb' : ((ty : Int) == 1) = true := by rw [hb]; rfl
                              go_wp2
                              go_ret
                              refine ⟨?_, HS.out.bel⟩
                              refine congrArg (fun z : Nat => Ending.returned (.int .u32 (z : Int))) (?_ : 28 = _)
                              rw [ER.out]; simp [chkT, rngT, h8n, h2, h3, h0, hb]
                            · have hb' : ((ty : Int) == 1) = false := eqf (by omega)
                              by_cases hc : ty = 6
                              · have hc' : ((ty : Int) == 6) = true := by rw [hc]; rfl
                                go_wp2
                                go_ret
                                refine ⟨?_, HS.out.bel⟩
                                refine congrArg (fun z : Nat => Ending.returned (.int .u32 (z : Int))) (?_ : 28 = _)
                                rw [ER.out]; simp [chkT, rngT, h8n, h2, h3, h0, hb, hc]
                              · have hc' : ((ty : Int) == 6) = false := eqf (by omega)
                                go_wp2
                                go_ret
                                refine ⟨?_, HS.out.bel⟩
                                refine congrArg (fun z : Nat => Ending.returned (.int .u32 (z : Int))) (?_ : 22 = _)
                                rw [ER.out]; simp [chkT, rngT, h8n, h2, h3, h0, hb, hc]
                          go_upto_region 36 with fail
                          go_cut [159] from 160 to 179 (fun v wc => v = .bool t10 ∧ Hid (S4 w wc nm ds sec ro rt pv tr mn pf ix st ex bo m bc py op fi fl ty ck of ln ao n cap))
                          case first =>
                            have q3 : wc.cell? ⟨w.heap.size + 1 + 1 + 1, 3, none⟩ = some (.int .u64 (of : Int)) := HS.out.q 3 (by show 3 < 6; decide)
                            have e7 : wc.cell? ⟨w.heap.size, 7, none⟩ = some (.int .u32 (mn : Int)) := HS.out.e 7 (by show 7 < 9; decide)
                            by_cases hm1 : 1 < mn
                            · skip
                              have hm1p0 : (1 : Int) < (mn : Int) := by omega
                              have hm1p1 : (mn : Int) ≠ 0 := by omega
                              by_cases hr : of % mn = 0
                              · skip
                                have hrp0 : (of : Int) % (mn : Int) = 0 := by omega
                                by_cases hl : ln % mn = 0
                                · skip
                                  have hlp0 : (ln : Int) % (mn : Int) = 0 := by omega
                                  first
                                  | (exfalso; omega)
                                  | (go_wp2_with fail
                                     go_meet
                                     exact ⟨by rw [E10.out]; simp [hm1, hr, hl] <;> omega, HS⟩)
                                · skip
                                  have hlp0 : (ln : Int) % (mn : Int) ≠ 0 := by omega
                                  first
                                  | (exfalso; omega)
                                  | (go_wp2_with fail
                                     go_meet
                                     exact ⟨by rw [E10.out]; simp [hm1, hr, hl] <;> omega, HS⟩)
                              · skip
                                have hrp0 : (of : Int) % (mn : Int) ≠ 0 := by omega
                                by_cases hl : ln % mn = 0
                                · skip
                                  have hlp0 : (ln : Int) % (mn : Int) = 0 := by omega
                                  first
                                  | (exfalso; omega)
                                  | (go_wp2_with fail
                                     go_meet
                                     exact ⟨by rw [E10.out]; simp [hm1, hr, hl] <;> omega, HS⟩)
                                · skip
                                  have hlp0 : (ln : Int) % (mn : Int) ≠ 0 := by omega
                                  first
                                  | (exfalso; omega)
                                  | (go_wp2_with fail
                                     go_meet
                                     exact ⟨by rw [E10.out]; simp [hm1, hr, hl] <;> omega, HS⟩)
                            · skip
                              have hm1p0 : ¬ (1 : Int) < (mn : Int) := by omega
                              by_cases hr : of % mn = 0
                              · skip
                                have hrp0 : (of : Int) % (mn : Int) = 0 := by omega
                                by_cases hl : ln % mn = 0
                                · skip
                                  have hlp0 : (ln : Int) % (mn : Int) = 0 := by omega
                                  first
                                  | (exfalso; omega)
                                  | (go_wp2_with fail
                                     go_meet
                                     exact ⟨by rw [E10.out]; simp [hm1, hr, hl] <;> omega, HS⟩)
                                · skip
                                  have hlp0 : (ln : Int) % (mn : Int) ≠ 0 := by omega
                                  first
                                  | (exfalso; omega)
                                  | (go_wp2_with fail
                                     go_meet
                                     exact ⟨by rw [E10.out]; simp [hm1, hr, hl] <;> omega, HS⟩)
                              · skip
                                have hrp0 : (of : Int) % (mn : Int) ≠ 0 := by omega
                                by_cases hl : ln % mn = 0
                                · skip
                                  have hlp0 : (ln : Int) % (mn : Int) = 0 := by omega
                                  first
                                  | (exfalso; omega)
                                  | (go_wp2_with fail
                                     go_meet
                                     exact ⟨by rw [E10.out]; simp [hm1, hr, hl] <;> omega, HS⟩)
                                · skip
                                  have hlp0 : (ln : Int) % (mn : Int) ≠ 0 := by omega
                                  first
                                  | (exfalso; omega)
                                  | (go_wp2_with fail
                                     go_meet
                                     exact ⟨by rw [E10.out]; simp [hm1, hr, hl] <;> omega, HS⟩)
                          case rest =>
                            clear HS
                            obtain ⟨rfl, HS⟩ := hcut
                            cases t10
                            rotate_left
                            · skip
                              go_wp2
                              go_ret
                              refine ⟨?_, HS.out.bel⟩
                              refine congrArg (fun z : Nat => Ending.returned (.int .u32 (z : Int))) (?_ : 22 = _)
                              rw [ER.out]; simp [chkT, rngT, h8n, h2, h3, h0]
                            go_upto_region 38 with fail
                            go_cut [180] from 181 to 201 (fun v wc => v = .bool t11 ∧ Hid (S4 w wc nm ds sec ro rt pv tr mn pf ix st ex bo m bc py op fi fl ty ck of ln ao n cap))
                            case first =>
                              have q0 : wc.cell? ⟨w.heap.size + 1 + 1 + 1, 0, none⟩ = some (.int .u16 (fl : Int)) := HS.out.q 0 (by show 0 < 6; decide)
                              have q3 : wc.cell? ⟨w.heap.size + 1 + 1 + 1, 3, none⟩ = some (.int .u64 (of : Int)) := HS.out.q 3 (by show 3 < 6; decide)
                              by_cases hx16 : x16 = 0
                              · skip
                                have hx16p0 : (x16 : Int) = 0 := by omega
                                by_cases hx2b : xb2 = 0
                                · skip
                                  have hx2bp0 : (xb2 : Int) = 0 := by omega
                                  by_cases hr : of % 512 = 0
                                  · skip
                                    have hrp0 : (of : Int) % 512 = 0 := by omega
                                    by_cases hl : ln % 512 = 0
                                    · skip
                                      have hlp0 : (ln : Int) % 512 = 0 := by omega
                                      first
                                      | (exfalso; omega)
                                      | (go_wp2_with fail
                                         go_meet
                                         exact ⟨by rw [E11.out]; simp [hx16, hx2b, hr, hl] <;> omega, HS⟩)
                                    · skip
                                      have hlp0 : (ln : Int) % 512 ≠ 0 := by omega
                                      first
                                      | (exfalso; omega)
                                      | (go_wp2_with fail
                                         go_meet
                                         exact ⟨by rw [E11.out]; simp [hx16, hx2b, hr, hl] <;> omega, HS⟩)
                                  · skip
                                    have hrp0 : (of : Int) % 512 ≠ 0 := by omega
                                    by_cases hl : ln % 512 = 0
                                    · skip
                                      have hlp0 : (ln : Int) % 512 = 0 := by omega
                                      first
                                      | (exfalso; omega)
                                      | (go_wp2_with fail
                                         go_meet
                                         exact ⟨by rw [E11.out]; simp [hx16, hx2b, hr, hl] <;> omega, HS⟩)
                                    · skip
                                      have hlp0 : (ln : Int) % 512 ≠ 0 := by omega
                                      first
                                      | (exfalso; omega)
                                      | (go_wp2_with fail
                                         go_meet
                                         exact ⟨by rw [E11.out]; simp [hx16, hx2b, hr, hl] <;> omega, HS⟩)
                                · skip
                                  have hx2bp0 : (xb2 : Int) ≠ 0 := by omega
                                  by_cases hr : of % 512 = 0
                                  · skip
                                    have hrp0 : (of : Int) % 512 = 0 := by omega
                                    by_cases hl : ln % 512 = 0
                                    · skip
                                      have hlp0 : (ln : Int) % 512 = 0 := by omega
                                      first
                                      | (exfalso; omega)
                                      | (go_wp2_with fail
                                         go_meet
                                         exact ⟨by rw [E11.out]; simp [hx16, hx2b, hr, hl] <;> omega, HS⟩)
                                    · skip
                                      have hlp0 : (ln : Int) % 512 ≠ 0 := by omega
                                      first
                                      | (exfalso; omega)
                                      | (go_wp2_with fail
                                         go_meet
                                         exact ⟨by rw [E11.out]; simp [hx16, hx2b, hr, hl] <;> omega, HS⟩)
                                  · skip
                                    have hrp0 : (of : Int) % 512 ≠ 0 := by omega
                                    by_cases hl : ln % 512 = 0
                                    · skip
                                      have hlp0 : (ln : Int) % 512 = 0 := by omega
                                      first
                                      | (exfalso; omega)
                                      | (go_wp2_with fail
                                         go_meet
                                         exact ⟨by rw [E11.out]; simp [hx16, hx2b, hr, hl] <;> omega, HS⟩)
                                    · skip
                                      have hlp0 : (ln : Int) % 512 ≠ 0 := by omega
                                      first
                                      | (exfalso; omega)
                                      | (go_wp2_with fail
                                         go_meet
                                         exact ⟨by rw [E11.out]; simp [hx16, hx2b, hr, hl] <;> omega, HS⟩)
                              · skip
                                have hx16p0 : (x16 : Int) ≠ 0 := by omega
                                by_cases hx2b : xb2 = 0
                                · skip
                                  have hx2bp0 : (xb2 : Int) = 0 := by omega
                                  by_cases hr : of % 512 = 0
                                  · skip
                                    have hrp0 : (of : Int) % 512 = 0 := by omega
                                    by_cases hl : ln % 512 = 0
                                    · skip
                                      have hlp0 : (ln : Int) % 512 = 0 := by omega
                                      first
                                      | (exfalso; omega)
                                      | (go_wp2_with fail
                                         go_meet
                                         exact ⟨by rw [E11.out]; simp [hx16, hx2b, hr, hl] <;> omega, HS⟩)
                                    · skip
                                      have hlp0 : (ln : Int) % 512 ≠ 0 := by omega
                                      first
                                      | (exfalso; omega)
                                      | (go_wp2_with fail
                                         go_meet
                                         exact ⟨by rw [E11.out]; simp [hx16, hx2b, hr, hl] <;> omega, HS⟩)
                                  · skip
                                    have hrp0 : (of : Int) % 512 ≠ 0 := by omega
                                    by_cases hl : ln % 512 = 0
                                    · skip
                                      have hlp0 : (ln : Int) % 512 = 0 := by omega
                                      first
                                      | (exfalso; omega)
                                      | (go_wp2_with fail
                                         go_meet
                                         exact ⟨by rw [E11.out]; simp [hx16, hx2b, hr, hl] <;> omega, HS⟩)
                                    · skip
                                      have hlp0 : (ln : Int) % 512 ≠ 0 := by omega
                                      first
                                      | (exfalso; omega)
                                      | (go_wp2_with fail
                                         go_meet
                                         exact ⟨by rw [E11.out]; simp [hx16, hx2b, hr, hl] <;> omega, HS⟩)
                                · skip
                                  have hx2bp0 : (xb2 : Int) ≠ 0 := by omega
                                  by_cases hr : of % 512 = 0
                                  · skip
                                    have hrp0 : (of : Int) % 512 = 0 := by omega
                                    by_cases hl : ln % 512 = 0
                                    · skip
                                      have hlp0 : (ln : Int) % 512 = 0 := by omega
                                      first
                                      | (exfalso; omega)
                                      | (go_wp2_with fail
                                         go_meet
                                         exact ⟨by rw [E11.out]; simp [hx16, hx2b, hr, hl] <;> omega, HS⟩)
                                    · skip
                                      have hlp0 : (ln : Int) % 512 ≠ 0 := by omega
                                      first
                                      | (exfalso; omega)
                                      | (go_wp2_with fail
                                         go_meet
                                         exact ⟨by rw [E11.out]; simp [hx16, hx2b, hr, hl] <;> omega, HS⟩)
                                  · skip
                                    have hrp0 : (of : Int) % 512 ≠ 0 := by omega
                                    by_cases hl : ln % 512 = 0
                                    · skip
                                      have hlp0 : (ln : Int) % 512 = 0 := by omega
                                      first
                                      | (exfalso; omega)
                                      | (go_wp2_with fail
                                         go_meet
                                         exact ⟨by rw [E11.out]; simp [hx16, hx2b, hr, hl] <;> omega, HS⟩)
                                    · skip
                                      have hlp0 : (ln : Int) % 512 ≠ 0 := by omega
                                      first
                                      | (exfalso; omega)
                                      | (go_wp2_with fail
                                         go_meet
                                         exact ⟨by rw [E11.out]; simp [hx16, hx2b, hr, hl] <;> omega, HS⟩)
                            case rest =>
                              clear HS
                              obtain ⟨rfl, HS⟩ := hcut
                              cases t11
                              rotate_left
                              · skip
                                go_wp2
                                go_ret
                                refine ⟨?_, HS.out.bel⟩
                                refine congrArg (fun z : Nat => Ending.returned (.int .u32 (z : Int))) (?_ : 95 = _)
                                rw [ER.out]; simp [chkT, rngT, h8n, h2, h3, h0]
                              go_wp2
                              go_ret
                              refine ⟨?_, HS.out.bel⟩
                              refine congrArg (fun z : Nat => Ending.returned (.int .u32 (z : Int))) (?_ : 0 = _)
                              rw [ER.out]; simp [chkT, rngT, h8n, h2, h3, h0]
end Go.Proofs.YtodinademhibjaaDoor
