import Derived.Test.YtefgdhoapmikhaaDoorRtFG
import Derived.Deep.DeepCutAuto
import Derived.Deep.CutRange
import Derived.Deep.RegionHeld3
namespace Go.Proofs.YtefgdhoapmikhaaDoor
open Go.RowKit
set_option linter.unusedVariables false
set_option linter.unusedSimpArgs false
set_option maxRecDepth 100000
theorem rb_fit {ex : Bool} {len s t l f : Nat} {xl : List Rn} (ht : t < xl.length) (hx : xl[t] = ⟨l, f⟩) (h : runB len ex xl = runB (len - s) ex (xl.drop t)) (hs : s ≤ len) (hb : rnB (len - s) ex ⟨l, f⟩ = true) : s + l ≤ len ∧ runB len ex xl = runB (len - (s + l)) ex (xl.drop (t + 1)) := by
  rw [run_step _ _ _ _ ht, hx, hb, Bool.true_and] at h
  simp only [rnB, Bool.and_eq_true, decide_eq_true_eq] at hb
  refine ⟨by omega, ?_⟩
  rw [h, Nat.sub_sub]
theorem rb_not {ex : Bool} {len s t l f : Nat} {xl : List Rn} (ht : t < xl.length) (hx : xl[t] = ⟨l, f⟩) (h : runB len ex xl = runB (len - s) ex (xl.drop t)) (hb : rnB (len - s) ex ⟨l, f⟩ = false) : runsB len ex xl = false := by
  rw [run_step _ _ _ _ ht, hx, hb, Bool.false_and] at h
  simp [runsB, h]
theorem take_all {L : List Ls} {k : Nat} (hk : k < L.length) (len : Nat) (ex : Bool) : (L.take (k + 1)).all (fun x => runsB len ex x.l) = ((L.take k).all (fun x => runsB len ex x.l) && runsB len ex L[k].l) := by
  rw [List.take_succ_eq_append_getElem hk, List.all_append]; simp
theorem fit_all {cn ln len : Nat} {ex : Bool} {L : List Ls} (hl : L.length = ln) : (decide (cn ≠ 0) && (decide (L.length = cn) && listsB len ex L)) = ((decide (0 < cn) && decide (cn = ln)) && (L.take ln).all (fun x => runsB len ex x.l)) := by
  rw [List.take_of_length_le (by omega), hl, listsB]
  by_cases h1 : cn = 0
  · simp [h1]
  · have h1' : 0 < cn := by omega
    by_cases h2 : cn = ln
    · subst h2; simp [h1, h1']
    · have h3 : ¬ ln = cn := fun e => h2 e.symm
      simp [h2, h3]
theorem st_say {one ex : Bool} {ck eo n k : Nat} {L : List Ls} {U : List Nat} {K : List Ck} (h : K.map Ck.say = doneS (zS one ex ck eo L U)) (hz : (zS one ex ck eo L U).length = n) (hK : k < K.length) (hL : k < L.length) (hU : k < U.length) : K[k].fl = (if k + 1 = n then 1 else 0) ∧ K[k].ty = (if ex = true then 6 else 5) ∧ K[k].ck = ck ∧ K[k].d = stL ex U[k] (tell1 one L[k].l) := by
  have h1 := doneS_at _ k _ (zS_at one ex ck eo k _ _ (List.getElem?_eq_getElem hL) (List.getElem?_eq_getElem hU))
  rw [← h, List.getElem?_map, List.getElem?_eq_getElem hK, hz] at h1
  simp only [Option.map_some, Option.some.injEq] at h1
  by_cases e : k + 1 = n
  · rw [if_pos e] at h1 ⊢
    simp only [Ck.say, stS, Prod.mk.injEq] at h1
    exact ⟨h1.1, h1.2.1, h1.2.2.1, h1.2.2.2.2⟩
  · rw [if_neg e] at h1 ⊢
    simp only [Ck.say, stS, Prod.mk.injEq] at h1
    exact ⟨h1.1, h1.2.1, h1.2.2.1, h1.2.2.2.2⟩
theorem run_cell {W : World} {B n ga rc t : Nat} {l : List Rn} {q : Rn} (h : W.ownsRow B 87 2 (.slice (some ⟨ga, 0, none⟩) n rc) n (l.flatMap rnC)) (hq : l[t]? = some q) (ht : t < n) : W.cell? ⟨ga, t * 2, none⟩ = some (.int .u64 (q.ln : Int)) ∧ W.cell? ⟨ga, t * 2 + 1, none⟩ = some (.int .u64 (q.fl : Int)) := by
  have hf : ∀ (l : List Rn) (t : Nat) (q : Rn) (j : Nat), l[t]? = some q → j < 2 → (l.flatMap rnC)[t * 2 + j]? = (rnC q)[j]? := by
    intro l
    induction l with
    | nil => intro t q j h _; simp at h
    | cons x l ih =>
      intro t q j h hj
      rcases t with _ | t
      · simp at h; subst h
        rw [List.flatMap_cons, List.getElem?_append_left (by simp [rnC]; omega)]; simp
      · simp only [List.getElem?_cons_succ] at h
        rw [List.flatMap_cons, List.getElem?_append_right (by simp [rnC]; omega)]
        have := ih t q j h hj
        rw [← this]; congr 1; simp [rnC]; omega
  exact ⟨by rw [h.cellAt _ (by omega)]; exact hf l t q 0 hq (by decide), by rw [h.cellAt _ (by omega)]; exact hf l t q 1 hq (by decide)⟩
theorem neqRun (a b : Int) (w : World) : (binOp .neq 87 (.agg #[.int .u64 a, .int .u64 b]) (.agg #[.int .u64 a, .int .u64 b])).run Tryd.prog w = .ok (.bool false) w := by
  have u3 := Tryd.underlying26
  have a3 := Tryd.isAgg26
  have z3 := Tryd.sizeOf26
  have hS : Tryd.prog.underlying 87 = some (.struct (Tryd.prog.fieldsOf 87)) := by kernel_rfl
  have hp : Tryd.prog.stoodInHeld 87 = false := by kernel_rfl
  rw [run_neq_struct, show (10000 : Nat) = 9999 + 1 from rfl, run_equalIn_agg w 9999 87 _ _ hS hp]
  simp only [Program.fieldsOf, Tryd.underlying87]
  go_simp
theorem shr32 (x : Nat) (h : x < 18446744073709551616) : True := trivial
set_option maxHeartbeats 8000000 in
theorem states_any (co : Option Addr) (cn cc : Nat) (ex one : Bool) (fl0 ty0 ck off len : Nat) (d : Value) (lo : Option Addr) (ln lc : Nat) (w : World) (L : List Ls) (U : List Nat) (hu : URow w co U) (hL : LRow w lo L) (HC : Hid (U.length = cn)) (HL : Hid (L.length = ln)) (hck : ck < 18446744073709551616) (hoff : off < 18446744073709551616) (hlen : len < 18446744073709551616) (ht : tot L ≤ 1099511627776) :
    Calls Tryd.prog 7 #[.slice co cn cc, .bool ex, .agg #[.int .u16 (fl0 : Int), .int .u16 (ty0 : Int), .int .u64 (ck : Int), .int .u64 (off : Int), .int .u64 (len : Int), d], .slice lo ln lc, .bool one] w fun e w' => e = .returned (.bool true) ∧ Below w.heap.size w w' := by
  have HU : Hid (URow w co U) := hu
  have HLr : Hid (LRow w lo L) := hL
  have hcn : cn ≤ 1048576 := by rw [← HC.out]; exact hu.len
  have hln : ln ≤ 1048576 := by rw [← HL.out]; exact hL.len
  have HTt : Hid _ := ht
  obtain ⟨eo, heo⟩ : ∃ eo, eo = if ex = true then off else 0 := ⟨_, rfl⟩
  have HEo : Hid _ := heo
  clear hu hL heo ht
  go_enter Tryd.func7, Tryd.ntmps7
  go_upto_if 30 with fail
  go_cut [] (fun wc => ∃ FL : Nat, Hid (bits .and .u16 (FL : Int) 8 = if one = true then 8 else 0) ∧ wc = w.alloc (.cells #[.int .u16 (FL : Int), .int .u16 7, .int .u64 (ck : Int), .int .u64 (off : Int), .int .u64 (len : Int), d] 29))
  case first =>
    rcases one with _ | _
    · go_wp2
      go_meet
      exact ⟨0, (show bits .and .u16 ((0 : Nat) : Int) 8 = (if false = true then 8 else 0) from by decide), rfl⟩
    · go_wp2
      go_meet
      exact ⟨8, (show bits .and .u16 ((8 : Nat) : Int) 8 = (if true = true then 8 else 0) from by decide), rfl⟩
  case rest =>
    obtain ⟨FL, HFL, rfl⟩ := hcut
    go_wp2_with fail
    have hx := mkb3 w #[.int .u16 (FL : Int), .int .u16 7, .int .u64 (ck : Int), .int .u64 (off : Int), .int .u64 (len : Int), d] #[.int .i64 0, .bool true, .bool ex, .slice co cn cc] #[.int .u32 0, .bool false, .int .u64 0, .slice none 0 0, .slice lo ln lc] 29 24 34
    generalize (((w.alloc (Obj.cells #[.int .u16 (FL : Int), .int .u16 7, .int .u64 (ck : Int), .int .u64 (off : Int), .int .u64 (len : Int), d] 29)).alloc (Obj.cells #[.int .i64 0, .bool true, .bool ex, .slice co cn cc] 24)).alloc (Obj.cells #[.int .u32 0, .bool false, .int .u64 0, .slice none 0 0, .slice lo ln lc] 34)) = W0 at *
    obtain ⟨fit, hfit⟩ : ∃ fit, fit = (decide (cn ≠ 0) && (decide (L.length = cn) && listsB len ex L)) := ⟨_, rfl⟩
    refine (bytes_status ex one co cn cc FL ck off len d lo ln lc W0 L U (HU.out.later hx.bel) (HLr.out.later hx.bel) HC HL hck hoff hlen HFL.out eo HEo.out HTt.out fit hfit).mono ?_
    rintro e W1 ⟨ao, N, cap, ev, rfl, hb1, hT, hF⟩
    have H1 : Hid (Bx3 w W1 #[.int .u16 (FL : Int), .int .u16 7, .int .u64 (ck : Int), .int .u64 (off : Int), .int .u64 (len : Int), d] #[.int .i64 0, .bool true, .bool ex, .slice co cn cc] #[.int .u32 0, .bool false, .int .u64 0, .slice none 0 0, .slice lo ln lc] 29 24 34) := hx.later hb1
    rw [fit_all HL.out] at hfit
    obtain ⟨B0, hB0⟩ : ∃ B0, B0 = (decide (0 < cn) && decide (cn = ln)) := ⟨_, rfl⟩
    rw [← hB0] at hfit
    have HFit : Hid (fit = (B0 && (L.take ln).all (fun x => runsB len ex x.l))) := hfit
    have HT : Hid (fit = true → ev = 0 ∧ N = (encS ex (doneS (zS one ex ck eo L U))).length ∧ CRow W1 ao cap (encS ex (doneS (zS one ex ck eo L U)))) := fun h => by
      obtain ⟨h1, h2, h3⟩ := hT h
      refine ⟨h1, h2, h3.crow ?_⟩
      rw [enc_done_le]
      have h4 := enc_le ex one ck eo L U
      have h5 := HTt.out
      have h6 := HL.out
      omega
    have HFf : Hid (fit = false → ev = 120 ∧ N = 0) := hF
    have HB0 : Hid (B0 = (decide (0 < cn) && decide (cn = ln))) := hB0
    clear hx hb1 hT hF hfit hB0
    go_upto_region 8 with fail
    go_cut [15] (fun v wc => v = .bool B0 ∧ wc = W1)
    case first =>
      by_cases h1 : 0 < cn
      · have h1z : (0 : Int) < (cn : Int) := by omega
        by_cases h2 : cn = ln
        · have hb : B0 = true := by rw [HB0.out]; simp [h1, h2]; omega
          subst h2
          go_wp2
          go_meet
          exact ⟨by rw [hb], rfl⟩
        · have hb : B0 = false := by rw [HB0.out]; simp [h2]
          have h2z : ((cn : Int) == (ln : Int)) = false := by rw [beq_eq_false_iff_ne]; omega
          go_wp2
          go_meet
          exact ⟨by rw [hb], rfl⟩
      · have hb : B0 = false := by rw [HB0.out]; simp [h1]
        have h1z : ¬ (0 : Int) < (cn : Int) := by omega
        go_wp2
        go_meet
        exact ⟨by rw [hb], rfl⟩
    case rest =>
      obtain ⟨rfl, rfl⟩ := hcut
      go_wp2
      go_loopw [15, 16] (fun rv i wr => ∃ (k : Nat) (rr : Bool), k ≤ ln ∧ i = .int .i64 (k : Int) ∧ rv = .bool rr ∧ Hid (rr = (B0 && (L.take k).all (fun x => runsB len ex x.l))) ∧ Hid (Below wc.heap.size wc wr)) (fun _ i _ => ln - (intOf i).toNat)
      case atStart => exact ⟨0, B0, Nat.zero_le _, rfl, rfl, by show _ = _; simp, Below.refl _ _⟩
      case round =>
        obtain ⟨k, rr, hk, rfl, rfl, HR, HB⟩ := hrel
        generalize wr = wo at *
        by_cases hlt : k < ln
        · as_aux_lemma =>
            have hkl : k < L.length := by rw [HL.out]; exact hlt
            obtain ⟨lb, lo', hlo, hjunk⟩ := HLr.out.at_ (fun h0 => by rw [h0] at hkl; simp at hkl)
            subst hlo
            clear hjunk
            have hbw : Below w.heap.size w wo := H1.out.bel.trans (HB.out.mono H1.out.bel.size)
            have hkz : (k : Int) < (ln : Int) := by omega
            have hkn : ¬ (k : Int) < 0 := by omega
            have g0 := (HLr.out.later hbw).cellT k hkl
            have hx := (HLr.out.row _ (List.getElem_mem hkl))
            have HTk : Hid _ := take_all hkl len ex
            generalize L[k] = x at *
            obtain ⟨xa, xc, xl⟩ := x
            simp only at g0 hx HTk
            obtain ⟨m, hm⟩ : ∃ m, xl.length = m := ⟨_, rfl⟩
            have HM : Hid _ := hm
            have hmm : m ≤ 1048576 := by rw [← hm]; exact hx.1.len
            rw [hm] at g0
            have HXr : Hid (RuRow w xa xl) := hx.1
            have HG : Hid (∀ W, Below wo.heap.size wo W → W.cell? ⟨lb, lo' + k, none⟩ = some (.slice xa m xc) ∧ W.cell? ⟨w.heap.size, 4, none⟩ = some (.int .u64 (len : Int)) ∧ RuRow W xa xl) := fun W hb => ⟨cell_later hb g0, cell_later hb (cell_later HB.out (by rw [blk_at H1.out.a]; rfl)), (HXr.out.later hbw).later hb⟩
            clear hx hm
            go_wp2
            go_loopw [15, 17, 18] (fun rv sv kv wx => ∃ (t s : Nat), t ≤ m ∧ kv = .int .i64 (t : Int) ∧ sv = .int .u64 (s : Int) ∧ rv = .bool rr ∧ s < 18446744073709551616 ∧ Hid (Below wo.heap.size wo wx) ∧ Hid (rr = true → s ≤ len ∧ runB len ex xl = runB (len - s) ex (xl.drop t))) (fun _ _ kv _ => m - (intOf kv).toNat)
            case atStart => exact ⟨0, 0, Nat.zero_le _, rfl, rfl, rfl, by decide, Below.refl _ _, fun _ => ⟨Nat.zero_le _, rfl⟩⟩
            case round =>
              obtain ⟨t, s, htm, rfl, rfl, rfl, hs64, HJ, HI⟩ := hrel
              clear g0
              obtain ⟨g1, r4, hru⟩ := HG.out _ HJ.out
              by_cases htl : t < m
              · have htx : t < xl.length := by rw [HM.out]; exact htl
                obtain ⟨b, po2, hxa, hjunk⟩ := hru.at_ (fun h0 => by rw [h0] at htx; simp at htx)
                subst hxa
                clear hjunk
                have htz : (t : Int) < (m : Int) := by omega
                have htn : ¬ (t : Int) < 0 := by omega
                have c0 := hru.cell b po2 rfl t htx 0 (by decide)
                have c1 := hru.cell b po2 rfl t htx 1 (by decide)
                have hok := hru.ok _ (List.getElem_mem htx)
                obtain ⟨l, f, hp⟩ : ∃ l f, xl[t] = ⟨l, f⟩ := ⟨xl[t].ln, xl[t].fl, rfl⟩
                have HP : Hid _ := hp
                rw [hp] at c0 c1 hok
                obtain ⟨k1, k2⟩ := hok
                simp only at k1 k2
                simp only [Rn.cells] at c0 c1
                simp at c0 c1
                have HWa : Hid (Below wo.heap.size wo (wr.alloc (.cells #[.int .u64 (l : Int), .int .u64 (f : Int)] 87))) := HJ.out.trans ((below1 wr _).mono HJ.out.size)
                have HRa : Hid ((wr.alloc (.cells #[.int .u64 (l : Int), .int .u64 (f : Int)] 87)).heap[wr.heap.size]? = some (.cells #[.int .u64 (l : Int), .int .u64 (f : Int)] 87 (0, 0))) := heap_new wr _
                obtain ⟨b3, hb3⟩ : ∃ b3, b3 = (rr && rnB (len - s) ex ⟨l, f⟩) := ⟨_, rfl⟩
                have HB3 : Hid _ := hb3
                clear hru hp hb3
                go_upto_region 17 with fail
                generalize wr.alloc (.cells #[.int .u64 (l : Int), .int .u64 (f : Int)] 87) = W5 at *
                have r4' := (HG.out _ HWa.out).2.1
                have e0 : W5.cell? ⟨wr.heap.size, 0, none⟩ = some (.int .u64 (l : Int)) := by rw [blk_at HRa.out]; rfl
                have e1 : W5.cell? ⟨wr.heap.size, 1, none⟩ = some (.int .u64 (f : Int)) := by rw [blk_at HRa.out]; rfl
                clear c0 c1 g1 r4
                go_cut [15] from 60 to 111 (fun v wc => v = .bool b3 ∧ wc = W5)
                case first => as_aux_lemma =>
                  rcases rr with _ | _
                  · have hb : b3 = false := by rw [HB3.out]; rfl
                    go_wp2
                    go_meet
                    exact ⟨by rw [hb], rfl⟩
                  · have hsl := (HI.out rfl).1
                    have u1 : IntKind.u64.wrap ((len : Int) - (s : Int)) = (len : Int) - (s : Int) := wu64 (by omega) (by omega)
                    by_cases h1 : 0 < l
                    · have h1z : (0 : Int) < (l : Int) := by omega
                      by_cases h2 : l ≤ len - s
                      · have h2z : (l : Int) ≤ (len : Int) - (s : Int) := by omega
                        rcases ex with _ | _
                        · by_cases h3 : l < 4294967296
                          · have q3 : ((l : Int) / 4294967296 == 0) = true := by rw [beq_iff_eq]; omega
                            have q3' : (l : Int) / 4294967296 = 0 := by omega
                            by_cases h4 : f < 4294967296
                            · have q4 : ((f : Int) / 4294967296 == 0) = true := by rw [beq_iff_eq]; omega
                              have q4' : (f : Int) / 4294967296 = 0 := by omega
                              have hb : b3 = true := by rw [HB3.out]; simp [rnB, h1, h2, h3, h4]
                              go_wp2
                              go_meet
                              exact ⟨by rw [hb], rfl⟩
                            · have hb : b3 = false := by rw [HB3.out]; simp [rnB, h4]
                              have q4 : ((f : Int) / 4294967296 == 0) = false := by rw [beq_eq_false_iff_ne]; omega
                              go_wp2
                              go_meet
                              exact ⟨by rw [hb], rfl⟩
                          · have hb : b3 = false := by rw [HB3.out]; simp [rnB, h3]
                            have q3 : ((l : Int) / 4294967296 == 0) = false := by rw [beq_eq_false_iff_ne]; omega
                            have q3' : ¬ (l : Int) / 4294967296 = 0 := by omega
                            go_wp2
                            go_meet
                            exact ⟨by rw [hb], rfl⟩
                        · have hb : b3 = true := by rw [HB3.out]; simp [rnB, h1, h2]
                          go_wp2
                          go_meet
                          exact ⟨by rw [hb], rfl⟩
                      · have hb : b3 = false := by rw [HB3.out]; simp [rnB, h2]
                        have h2z : ¬ (l : Int) ≤ (len : Int) - (s : Int) := by omega
                        go_wp2
                        go_meet
                        exact ⟨by rw [hb], rfl⟩
                    · have hb : b3 = false := by rw [HB3.out]; simp [rnB, h1]
                      have h1z : ¬ (0 : Int) < (l : Int) := by omega
                      go_wp2
                      go_meet
                      exact ⟨by rw [hb], rfl⟩
                case rest =>
                  obtain ⟨rfl, rfl⟩ := hcut
                  clear r4' e1
                  rcases b3 with _ | _
                  · as_aux_lemma =>
                    have HNo : Hid ((rr && runsB len ex xl) = false) := by
                      show _ = _
                      rcases rr with _ | _
                      · rfl
                      · have h1 := HB3.out
                        rw [Bool.true_and] at h1
                        rw [Bool.true_and]; exact rb_not htx HP.out (HI.out rfl).2 h1.symm
                    have g5 := (HG.out _ HWa.out).1
                    go_wp2
                    go_roundw
                    case rel => exact ⟨k + 1, false, by omega, by go_num, rfl, by show _ = _; rw [HTk.out, ← Bool.and_assoc, ← HR.out]; exact HNo.out.symm, HB.out.trans (HWa.out.mono HB.out.size)⟩
                    case measure => simp [intOf]; omega
                  · as_aux_lemma =>
                    have hrr : rr = true := by
                      have h1 := HB3.out
                      cases rr with
                      | false => simp at h1
                      | true => rfl
                    have h1 := HB3.out
                    rw [hrr, Bool.true_and] at h1
                    have hI := rb_fit htx HP.out (HI.out hrr).2 (HI.out hrr).1 h1.symm
                    have hI1 := hI.1
                    have HI2 : Hid _ := hI
                    have u2 : IntKind.u64.wrap ((s : Int) + (l : Int)) = ((s + l : Nat) : Int) := by rw [IntKind.wrap_u64]; omega
                    subst hrr
                    clear h1 hI
                    go_wp2
                    go_roundw
                    case rel => exact ⟨t + 1, s + l, by omega, by go_num, by first | rfl | go_num, rfl, by omega, HWa, fun _ => HI2.out⟩
                    case measure => simp [intOf]; omega
              · as_aux_lemma =>
                obtain rfl : t = m := by omega
                rcases rr with _ | _
                · go_wp2
                  go_roundw
                  case rel => exact ⟨k + 1, false, by omega, by go_num, rfl, by show _ = _; rw [HTk.out, ← Bool.and_assoc, ← HR.out]; rfl, HB.out.trans (HJ.out.mono HB.out.size)⟩
                  case measure => simp [intOf]; omega
                · have hI := HI.out rfl
                  rw [List.drop_of_length_le (by rw [HM.out]; omega)] at hI
                  have HE : Hid (runsB len ex xl = (decide (0 < t) && decide (s = len))) := by
                    show _ = _
                    rw [runsB, hI.2, HM.out]
                    simp only [runB]
                    congr 1
                    rw [Bool.eq_iff_iff]; simp; omega
                  by_cases h1 : 0 < t
                  · have h1z : (0 : Int) < (t : Int) := by omega
                    by_cases h2 : s = len
                    · have h2z : ((s : Int) == (len : Int)) = true := by rw [beq_iff_eq]; omega
                      have hb : runsB len ex xl = true := by rw [HE.out]; simp [h1, h2]
                      have HTr : Hid (true = (B0 && (L.take (k + 1)).all (fun x => runsB len ex x.l))) := by show _ = _; rw [HTk.out, ← Bool.and_assoc, ← HR.out, hb]; rfl
                      clear hI hb HE
                      go_wp2
                      go_roundw
                      case rel => exact ⟨k + 1, true, by omega, by go_num, rfl, HTr, HB.out.trans (HJ.out.mono HB.out.size)⟩
                      case measure => simp [intOf]; omega
                    · have hb : runsB len ex xl = false := by rw [HE.out]; simp [h2]
                      have h2z : ((s : Int) == (len : Int)) = false := by rw [beq_eq_false_iff_ne]; omega
                      have HTr : Hid (false = (B0 && (L.take (k + 1)).all (fun x => runsB len ex x.l))) := by show _ = _; rw [HTk.out, ← Bool.and_assoc, ← HR.out, hb]; rfl
                      clear hI hb HE
                      go_wp2
                      go_roundw
                      case rel => exact ⟨k + 1, false, by omega, by go_num, rfl, HTr, HB.out.trans (HJ.out.mono HB.out.size)⟩
                      case measure => simp [intOf]; omega
                  · have hb : runsB len ex xl = false := by rw [HE.out]; simp [h1]
                    have h1z : ¬ (0 : Int) < (t : Int) := by omega
                    have HTr : Hid (false = (B0 && (L.take (k + 1)).all (fun x => runsB len ex x.l))) := by show _ = _; rw [HTk.out, ← Bool.and_assoc, ← HR.out, hb]; rfl
                    clear hI hb HE
                    go_wp2
                    go_roundw
                    case rel => exact ⟨k + 1, false, by omega, by go_num, rfl, HTr, HB.out.trans (HJ.out.mono HB.out.size)⟩
                    case measure => simp [intOf]; omega
        · obtain rfl : k = ln := by omega
          have hfr : fit = rr := by rw [HFit.out, HR.out]
          subst hfr
          rcases fit with _ | _
          · as_aux_lemma =>
              have hev := (HFf.out rfl).1
              have hN := (HFf.out rfl).2
              have HBe : Hid (Below w.heap.size w wo) := H1.out.bel.trans (HB.out.mono H1.out.bel.size)
              subst hev hN
              clear HFf HT
              go_wp2_with fail
              refine (num_any 120 wo).mono ?_
              rintro e W5 ⟨rfl, hw⟩
              rw [hw]; clear hw
              go_wp2_with fail
              refine (alive_any wo).mono ?_
              rintro e W6 ⟨rfl, hb6⟩
              have HB6 : Hid (Below w.heap.size w W6) := HBe.out.trans (hb6.mono HBe.out.size)
              clear hb6
              go_wp2
              go_ret
              exact ⟨rfl, HB6.out⟩
          · as_aux_lemma =>
              obtain ⟨hev, hN, hcr⟩ := HT.out rfl
              have hft := HFit.out
              simp only [Bool.true_eq, Bool.and_eq_true] at hft
              have HBe : Hid (Below w.heap.size w wo) := H1.out.bel.trans (HB.out.mono H1.out.bel.size)
              have HC0 : Hid (0 < cn ∧ cn = k) := by
                have h1 := hft.1
                rw [HB0.out] at h1
                show 0 < cn ∧ cn = k
                simpa using h1
              have HAl : Hid (∀ x ∈ L, runsB len ex x.l = true) := by
                have h1 := hft.2
                rw [List.take_of_length_le (by rw [HL.out]; omega)] at h1
                exact fun x hx => List.all_eq_true.1 h1 x hx
              obtain ⟨hcn0, rfl⟩ := HC0.out
              have heb : eo < 18446744073709551616 := by rw [HEo.out]; split <;> omega
              have HOk : Hid _ := done_ok (one := one) (ex := ex) (L := L) (U := U) hck heb (fun e => by rw [HEo.out, e]; rfl) (fun x hx => (HLr.out.row x hx).1.len)
              have HZl : Hid _ := zS_len one ex ck eo HL.out HC.out
              have HCr : Hid (CRow wo ao cap (encS ex (doneS (zS one ex ck eo L U)))) := hcr.later HB.out
              subst hev hN
              clear HT HFf hft hcr heb
              go_wp2_with fail
              refine (cut_any ao cap _ (doneS (zS one ex ck eo L U)) ex wo HCr.out rfl HOk.out (by rw [doneS_len, HZl.out]; exact hcn)).mono ?_
              rintro e W5 ⟨v5, K, rfl, hck5, hsay, hb5⟩
              have hKl : K.length = cn := by
                have h1 := congrArg List.length hsay
                rw [List.length_map, doneS_len, HZl.out] at h1
                exact h1
              obtain ⟨g, kc, rfl, _, hg2, hg3, hg4, _⟩ := cks_form hck5 (by omega)
              rw [hKl]
              have HK : Hid (Cks wo W5 (.slice (some ⟨g, 0, none⟩) K.length kc) K) := hck5
              have HSay : Hid _ := hsay
              have HKl : Hid _ := hKl
              have HB5 : Hid (Below w.heap.size w W5) := HBe.out.trans (hb5.mono HBe.out.size)
              have HB5' : Hid (Below wo.heap.size wo W5) := hb5
              clear hck5 hsay hb5 hKl hg2 hg3 hg4 HCr HOk
              go_wp2_with fail
              refine (num_any 0 W5).mono ?_
              rintro e W6 ⟨rfl, hw⟩
              rw [hw]; clear hw
              have hcb : ((cn : Int) != (cn : Int)) = false := by simp
              go_wp2
              go_loopw [22] (fun i wr => ∃ k : Nat, k ≤ cn ∧ i = .int .i64 (k : Int) ∧ Hid (Below W5.heap.size W5 wr)) (fun i _ => cn - (intOf i).toNat)
              case atStart => exact ⟨0, Nat.zero_le _, rfl, Below.refl _ _⟩
              case round =>
                obtain ⟨k, hk, rfl, HJ⟩ := hrel
                generalize wr = wl at *
                by_cases hlt : k < cn
                · as_aux_lemma =>
                    have hkL : k < L.length := by rw [HL.out]; exact hlt
                    have hkU : k < U.length := by rw [HC.out]; exact hlt
                    have hkK : k < K.length := by rw [HKl.out]; exact hlt
                    obtain ⟨ub, uo, hco, hj1⟩ := HU.out.at_ (fun h0 => by rw [h0] at hkU; simp at hkU)
                    subst hco
                    obtain ⟨lb, lo', hlo, hj2⟩ := HLr.out.at_ (fun h0 => by rw [h0] at hkL; simp at hkL)
                    subst hlo
                    clear hj1 hj2
                    have hbl : Below w.heap.size w wl := HB5.out.trans (HJ.out.mono HB5.out.size)
                    have hkz : (k : Int) < (cn : Int) := by omega
                    have hkn : ¬ (k : Int) < 0 := by omega
                    have g0 := (HLr.out.later hbl).cellT k hkL
                    have g1 := (HU.out.later hbl).cell k hkU
                    have hx := (HLr.out.later hbl).row _ (List.getElem_mem hkL)
                    have hrn := runs_nr (HAl.out _ (List.getElem_mem hkL))
                    have hul := HU.out.ok _ (List.getElem_mem hkU)
                    have hsd := st_say HSay.out HZl.out hkK hkL hkU
                    have hdat := HK.out.dat _ (List.getElem_mem hkK)
                    have c0 := cell_later HJ.out (HK.out.cell k 0 hkK (by decide))
                    have c1 := cell_later HJ.out (HK.out.cell k 1 hkK (by decide))
                    have c2 := cell_later HJ.out (HK.out.cell k 2 hkK (by decide))
                    have c4 := cell_later HJ.out (HK.out.cell k 4 hkK (by decide))
                    generalize K[k] = c at *
                    generalize L[k] = x at *
                    generalize U[k] = u at *
                    obtain ⟨cfl, cty, cck, coff, cao, ccap, cd⟩ := c
                    obtain ⟨xa, xc, xl⟩ := x
                    simp only at g0 hx hrn hsd hdat c0 c1 c2 c4
                    obtain ⟨hs1, hs2, hs3, hs4⟩ := hsd
                    obtain ⟨b, po2, hxa, hj3⟩ := hx.1.at_ (fun h0 => by rw [h0] at hrn; simp at hrn)
                    subst hxa hs3
                    clear hj3
                    obtain ⟨m, hm⟩ : ∃ m, (tell1 one xl).length = m := ⟨_, rfl⟩
                    obtain ⟨m0, hm0⟩ : ∃ m0, xl.length = m0 := ⟨_, rfl⟩
                    have hm1 := tell1_len one hrn.1
                    have hml : m ≤ 1048576 := by have := hx.1.len; omega
                    have HM1 : Hid (m = if one = true then 1 else m0) := by
                      show _ = _
                      rw [← hm, ← hm0]; unfold tell1; split
                      · rw [List.length_take]; omega
                      · rfl
                    have hTr := tell1_row one hx.1
                    have hbr : BRow wl cao ccap cd := by
                      obtain ⟨a9, c9, e9, h9⟩ := BRow.own hdat.1 hdat.2 (by rw [hs4]; have h1 := stL_small ex u one xl; have h2 := hx.1.len; omega)
                      simp only [Value.slice.injEq] at e9
                      obtain ⟨rfl, _, rfl⟩ := e9
                      exact h9.later HJ.out
                    rw [hs4] at hbr
                    have HUn : Hid (Calls Tryd.prog 31 #[.slice cao cd.length ccap, .bool ex] wl fun e w' => ∃ ra rc, e = .returned (.tuple #[.agg #[.int .u32 (u : Int), .slice ra m rc], .int .i64 0]) ∧ w'.ownsRow wl.heap.size 87 2 (.slice ra m rc) m ((tell1 one xl).flatMap rnC) ∧ Below wl.heap.size wl w') := unpackStatus u m cd.length ex (tell1 one xl) cao ccap wl hul hm (by omega) hml hTr.ok (tell1_nr one ex hrn.2) hbr (by show _ = _; rw [← hs4])
                    have HTr : Hid (RuRow wl (some ⟨b, po2, none⟩) (tell1 one xl)) := hTr
                    have HM : Hid _ := hm
                    have hxc : m0 ≤ xc ∧ xc ≤ 9223372036854775807 := ⟨by have := hx.2.1; omega, hx.2.2⟩
                    have hm10 : 1 ≤ m0 := by omega
                    have hm11 : 0 < m := by omega
                    rw [hm0] at g0
                    obtain ⟨kd, hkd⟩ : ∃ kd : Nat, kd = if ex = true then 6 else 5 := ⟨_, rfl⟩
                    have HKd : Hid _ := hkd
                    rw [← hkd] at hs2
                    subst hs2
                    have HCf : Hid (cfl = if k + 1 = cn then 1 else 0) := hs1
                    have HGc : Hid (∀ W, Below wl.heap.size wl W → W.cell? ⟨g, k * 5, none⟩ = some (.int .u16 (cfl : Int)) ∧ W.cell? ⟨g, k * 5 + 1, none⟩ = some (.int .u16 (cty : Int)) ∧ W.cell? ⟨g, k * 5 + 2, none⟩ = some (.int .u64 (cck : Int)) ∧ W.cell? ⟨w.heap.size, 2, none⟩ = some (.int .u64 (cck : Int)) ∧ W.cell? ⟨ub, uo + k, none⟩ = some (.int .u32 (u : Int)) ∧ W.cell? ⟨lb, lo' + k, none⟩ = some (.slice (some ⟨b, po2, none⟩) m0 xc)) := fun W hb => ⟨cell_later hb c0, cell_later hb c1, cell_later hb c2, cell_later hb (cell_later (HB5'.out.trans (HJ.out.mono HB5'.out.size)) (cell_later HB.out (by rw [blk_at H1.out.a]; rfl))), cell_later hb g1, cell_later hb g0⟩
                    have c4' : wl.cell? ⟨g, k * 5 + 4, none⟩ = some (.slice cao cd.length ccap) := c4
                    clear hx hrn hul hdat c0 c1 c2 c4 hs1 hs4 hm hm0 hm1 hTr hbr hkd g0 g1 hbl
                    generalize cd.length = N9 at *
                    go_wp2_with fail
                    refine Calls.mono HUn.out ?_
                    rintro e W6 ⟨ra, rc, rfl, hrow, hb6⟩
                    have HRw : Hid (W6.ownsRow wl.heap.size 87 2 (.slice ra m rc) m ((tell1 one xl).flatMap rnC)) := hrow
                    have HB6 : Hid _ := hb6
                    have g6 := (HGc.out _ ((hb6.trans ((below1 W6 (.cells #[.int .u32 (u : Int), .slice ra m rc] 90)).mono hb6.size)))).2.2.2.2.2
                    clear hrow hb6 HUn c4'
                    go_upto_if 180 with fail
                    have hxb := heap_new W6 (.cells #[.int .u32 (u : Int), .slice ra m rc] 90)
                    have hb7 := below1 W6 (.cells #[.int .u32 (u : Int), .slice ra m rc] 90)
                    generalize W6.alloc (.cells #[.int .u32 (u : Int), .slice ra m rc] 90) = W7 at *
                    generalize hxB : W6.heap.size = xb at *
                    have H7 : Hid (W7.heap[xb]? = some (.cells #[.int .u32 (u : Int), .slice ra m rc] 90 (0, 0)) ∧ Below wl.heap.size wl W7 ∧ W7.ownsRow wl.heap.size 87 2 (.slice ra m rc) m ((tell1 one xl).flatMap rnC)) := ⟨hxb, HB6.out.trans (hb7.mono (hxB ▸ HB6.out.size)), owns_sameK HRw.out (fun g hg => hb7.block g (hxB ▸ (owns_ltK HRw.out g hg).1))⟩
                    clear hxb hb7 hxB HB6 HRw
                    go_cut [26] from 160 to 252 (fun v wc => v = .int .u16 (cty : Int) ∧ wc = W7)
                    case first =>
                      rcases ex with _ | _
                      · obtain rfl : cty = 5 := HKd.out
                        go_wp2
                        go_meet
                        exact ⟨rfl, rfl⟩
                      · obtain rfl : cty = 6 := HKd.out
                        go_wp2
                        go_meet
                        exact ⟨rfl, rfl⟩
                    case rest =>
                      obtain ⟨rfl, rfl⟩ := hcut
                      clear g6
                      go_upto_if 181 with fail
                      go_cut [25] from 160 to 252 (fun v w9 => v = .slice (some ⟨b, po2, none⟩) m xc ∧ w9 = wc)
                      case first =>
                        rcases one with _ | _
                        · obtain rfl : m = m0 := HM1.out
                          go_wp2
                          go_meet
                          exact ⟨rfl, rfl⟩
                        · obtain rfl : m = 1 := HM1.out
                          have hc1 : (1 : Int) ≤ (xc : Int) := by omega
                          have hc2 : 1 ≤ xc := by omega
                          go_wp2
                          go_meet
                          exact ⟨rfl, rfl⟩
                      case rest =>
                        obtain ⟨hv, hw⟩ := hcut
                        subst hv hw
                        generalize wc = wd at *
                        obtain ⟨ga, hra⟩ : ∃ ga, ra = some ⟨ga, 0, none⟩ := by
                          rcases H7.out.2.2.2 with ⟨_, h0⟩ | ⟨g9, c9, cur, hv, _⟩
                          · omega
                          · simp only [Value.slice.injEq] at hv; exact ⟨g9, hv.1⟩
                        subst hra
                        have hF := HGc.out _ H7.out.2.1
                        obtain ⟨f0, f1, f2, f3, f4, _⟩ := hF
                        have x0 : wd.cell? ⟨xb, 0, none⟩ = some (.int .u32 (u : Int)) := by rw [blk_at H7.out.1]; rfl
                        have x1 : wd.cell? ⟨xb, 1, none⟩ = some (.slice (some ⟨ga, 0, none⟩) m rc) := by rw [blk_at H7.out.1]; rfl
                        have wk : IntKind.i64.wrap ((k : Int) + 1) = (k : Int) + 1 := by rw [IntKind.wrap_i64]; omega
                        have HNm : Hid (∀ W, Calls Tryd.prog 9 #[.int .i64 0] W fun r w' => r = .returned (.int .i64 0) ∧ w' = W) := fun W => num_any 0 W
                        go_upto_region 36 with fail
                        go_cut [236] from 160 to 235 (fun v w9 => v = .bool false ∧ Hid (Below wd.heap.size wd w9))
                        case first =>
                          by_cases hlast : k + 1 = cn
                          · have hcf : cfl = 1 := by rw [HCf.out, if_pos hlast]
                            subst hcf
                            have e1 : (k : Int) + 1 = (cn : Int) := by omega
                            have e2 : ((k : Int) + 1 == (cn : Int)) = true := by rw [beq_iff_eq]; omega
                            go_wp2
                            go_quiet (first | (go_at_call 9; exact Calls.quiet_of_same (HNm.out _)) | fail)
                            go_wp2
                            go_meet
                            exact ⟨rfl, below_drewN _ _⟩
                          · have hcf : cfl = 0 := by rw [HCf.out, if_neg hlast]
                            subst hcf
                            have e1 : ¬ (k : Int) + 1 = (cn : Int) := by omega
                            have e2 : ((k : Int) + 1 == (cn : Int)) = false := by rw [beq_eq_false_iff_ne]; omega
                            go_wp2
                            go_quiet (first | (go_at_call 9; exact Calls.quiet_of_same (HNm.out _)) | fail)
                            go_wp2
                            go_meet
                            exact ⟨rfl, below_drewN _ _⟩
                        case rest =>
                          obtain ⟨rfl, HB9⟩ := hcut
                          clear f0 f1 f2 f3 f4 x0 x1
                          have HG9 : Hid (∀ W, Below wd.heap.size wd W → W.cell? ⟨xb, 1, none⟩ = some (.slice (some ⟨ga, 0, none⟩) m rc) ∧ ∀ (t : Nat) (q : Rn), (tell1 one xl)[t]? = some q → W.cell? ⟨ga, t * 2, none⟩ = some (.int .u64 (q.ln : Int)) ∧ W.cell? ⟨ga, t * 2 + 1, none⟩ = some (.int .u64 (q.fl : Int)) ∧ W.cell? ⟨b, po2 + t * 2, none⟩ = some (.int .u64 (q.ln : Int)) ∧ W.cell? ⟨b, po2 + t * 2 + 1, none⟩ = some (.int .u64 (q.fl : Int))) := fun W hb => by
                            refine ⟨cell_later hb (by rw [blk_at H7.out.1]; rfl), fun t q hq => ?_⟩
                            have hlt := (List.getElem?_eq_some_iff.1 hq).1
                            have hr := (HTr.out.later H7.out.2.1).later hb
                            have h0 := hr.cell b po2 rfl t hlt 0 (by decide)
                            have h1 := hr.cell b po2 rfl t hlt 1 (by decide)
                            have he : (tell1 one xl)[t] = q := (List.getElem?_eq_some_iff.1 hq).2
                            rw [he] at h0 h1
                            have hm9 := HM.out
                            have r0 := run_cell H7.out.2.2 hq (by omega)
                            exact ⟨cell_later hb r0.1, cell_later hb r0.2, h0, h1⟩
                          have HNQ := neqRun
                          go_wp2
                          go_loopw [27] (fun i wr => ∃ t : Nat, t ≤ m ∧ i = .int .i64 (t : Int) ∧ Hid (Below wd.heap.size wd wr)) (fun i _ => m - (intOf i).toNat)
                          case atStart => exact ⟨0, Nat.zero_le _, rfl, HB9⟩
                          case round =>
                            obtain ⟨t, htm, rfl, HJt⟩ := hrel
                            obtain ⟨y1, yq⟩ := HG9.out _ HJt.out
                            by_cases htl : t < m
                            · obtain ⟨q, hq⟩ : ∃ q, (tell1 one xl)[t]? = some q := ⟨_, List.getElem?_eq_getElem (by rw [HM.out]; exact htl)⟩
                              obtain ⟨y2, y3, y4, y5⟩ := yq t q hq
                              obtain ⟨ql, qf⟩ := q
                              simp only at y2 y3 y4 y5
                              have htz : (t : Int) < (m : Int) := by omega
                              have htn : ¬ (t : Int) < 0 := by omega
                              have HBd : Hid (∀ q, Below wd.heap.size wd (wr.drewN q)) := fun q => HJt.out.trans ((below_drewN _ q).mono HJt.out.size)
                              clear yq hq
                              go_wp2
                              go_quiet (fail)
                              go_wp2
                              go_roundw
                              case rel => exact ⟨t + 1, by omega, by go_num, HBd.out _⟩
                              case measure => simp [intOf]; omega
                            · have HBo : Hid (Below W5.heap.size W5 wr) := HJ.out.trans ((H7.out.2.1.trans (HJt.out.mono H7.out.2.1.size)).mono HJ.out.size)
                              clear y1 yq
                              go_wp2
                              go_roundw
                              case rel => exact ⟨k + 1, by omega, by go_num, HBo⟩
                              case measure => simp [intOf]; omega
                · have HBl : Hid (Below w.heap.size w wl) := HB5.out.trans (HJ.out.mono HB5.out.size)
                  go_wp2_with fail
                  refine (alive_any wl).mono ?_
                  rintro e W8 ⟨rfl, hb8⟩
                  have HB8 : Hid (Below w.heap.size w W8) := HBl.out.trans (hb8.mono HBl.out.size)
                  clear hb8
                  go_wp2
                  go_ret
                  exact ⟨rfl, HB8.out⟩
end Go.Proofs.YtefgdhoapmikhaaDoor
