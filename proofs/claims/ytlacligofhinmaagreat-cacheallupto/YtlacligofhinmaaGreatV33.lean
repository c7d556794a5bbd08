import Derived.Test.YtlacligofhinmaaGreatV32
import Derived.Test.YtlacligofhinmaaGreatV27
namespace Go.Proofs.YtlacligofhinmaaGreat.C
open Go.RowKit Go.Maps Go.Shelf Go.Proofs.YtlacligofhinmaaGreat
attribute [local go_sem] Oper.semAt_some
set_option linter.unusedVariables false
set_option linter.unusedSimpArgs false
set_option maxRecDepth 100000

section
variable {w w' : World} {A : Qa} {S S' : K.Dk} {C C' : Ch}
theorem RQ.drewN (h : RQ w A S C) (q : Nat) : RQ (w.drewN q) A S C := h.later (K.below_drewN w q)
theorem QAct.drewN {A' : Qa} {N : Nat} (h : QAct w w' A A' C S' C' N) (q : Nat) : QAct w (w'.drewN q) A A' C S' C' N := h.later (K.below_drewN w' q)
/-- one line of the document's cache, told by the line of the abstract one -/
theorem RQ.see (h : RQ w A S C) {ao : Option Addr} {cap : Nat} (hv : A.lv = .slice ao A.X.length cap) {i : Nat} {l : Ln} (hl : C.L[i]? = some l) : ∃ g, ao = some ⟨g, 0, none⟩ ∧ w.cell? ⟨g, i * 3, none⟩ = some (.int .i64 l.sec) ∧ w.cell? ⟨g, i * 3 + 2, none⟩ = some (.bool l.dirty) := by
  obtain ⟨x, hx, e1, e2, e3⟩ := h.sim.get' hl
  obtain ⟨g, e, _, k0, _, k2, _⟩ := h.at_ hv hx
  exact ⟨g, e, by rw [← e1]; exact k0, by rw [← e3]; exact k2⟩
/-- what backs answers and leaves -/
def BkP (w : World) (A : Qa) (C : Ch) (n : Nat) (R : Int × K.Dk × Ch) (r : Ending) (w' : World) : Prop :=
  ∃ k : Nat, r = .returned (.tuple #[.int .i64 k, .int .i64 R.1]) ∧ (R.1 = 0 → k = n) ∧ ∃ A', QAct w w' A A' C R.2.1 R.2.2 (if R.1 = 0 then 0 else 1)
set_option maxHeartbeats 16000000 in
theorem rbacks_any (h : RQ w A S C) (hq : A.pot C < 1048576) (b : Bool) :
    Calls Tryz.prog 68 #[.pointer (some ⟨A.q, 0, none⟩), .bool b] w (BkP w A C (dlL (pkb b) C.L).length (backs (dlL (pkb b) C.L) S C)) := by
  obtain ⟨ks, hks⟩ : ∃ ks, ks = dlL (pkb b) C.L := ⟨_, rfl⟩
  have hb0 : Bks b ks 0 (-1) C := by rw [hks]; exact Bks.start h.sd
  have hkl : ks.length ≤ 1024 := by rw [hks]; have := dl_len (pkb b) C.L; have := h.lim; omega
  rw [← hks]
  have hn1 := h.rr.n1
  have HI0 : Hid (∃ A1, QAct w w A A1 C S C 0 ∧ Bks b ks 0 (-1) C ∧ backs ks S C = backs (ks.drop 0) S C) := ⟨A, QAct.refl h, hb0, rfl⟩
  have HQ : Hid (A.pot C < 1048576) := hq
  have HN : Hid (∀ S1 C1 A1 W N, QAct w W A A1 C S1 C1 N → ∀ l ∈ C1.L, l.sec ≤ 65535) := fun S1 C1 A1 W N ha l hl => by
    have h1 := (ha.rq.ok l hl).1
    have h2 := ha.rq.rr.n1
    omega
  clear hb0 h hq hks hn1
  go_enter Tryz.func68, Tryz.ntmps68
  go_wp2
  go_loopw [6, 7] (fun kv lv wr => ∃ (k : Nat) (z : Int) (S1 : K.Dk) (C1 : Ch), k ≤ ks.length ∧ -1 ≤ z ∧ z ≤ 65535 ∧ kv = .int .i64 k ∧ lv = .int .i64 z ∧ Hid (∃ A1, QAct w wr A A1 C S1 C1 0 ∧ Bks b ks k z C1 ∧ backs ks S C = backs (ks.drop k) S1 C1)) (fun _ lv _ => (65536 - intOf lv).toNat)
  case atStart => exact ⟨0, -1, S, C, Nat.zero_le _, by decide, by decide, rfl, rfl, HI0.out⟩
  case round =>
    obtain ⟨k, z, S1, C1, hk, hz0, hz1, rfl, rfl, HI⟩ := hrel
    obtain ⟨W1, hW1⟩ : ∃ W1, W1 = wr := ⟨_, rfl⟩
    subst hW1
    obtain ⟨A1, ha, hb, hbk⟩ := HI.out
    have hA1q : A1.q = A.q := ha.q
    obtain ⟨ao, cap, hv⟩ := ha.rq.form
    have hx1 := ha.rq.x1024
    have hln := ha.rq.ln
    have c3 : ∀ W, (∃ q, W = W1.drewN q) → W.cell? ⟨A.q, 3, none⟩ = some (.slice ao A1.X.length cap) := fun W hW => by
      obtain ⟨q, rfl⟩ := hW
      have := (ha.rq.drewN q).c 3
      rw [hA1q] at this
      rw [← hv]; exact this
    have HS : Hid (∀ W, (∃ q, W = W1.drewN q) → ∀ (i : Nat) l, C1.L[i]? = some l → ∃ g, ao = some ⟨g, 0, none⟩ ∧ W.cell? ⟨g, i * 3, none⟩ = some (.int .i64 l.sec) ∧ W.cell? ⟨g, i * 3 + 2, none⟩ = some (.bool l.dirty)) := fun W hW i l hl => by
      obtain ⟨q, rfl⟩ := hW
      exact (ha.rq.drewN q).see hv hl
    have HNo : Hid (∀ W, (∃ q, W = W1.drewN q) → ∀ l, l ∈ C1.L → Calls Tryz.prog 38 #[.pointer (some ⟨A.q, 0, none⟩), .int .i64 l.sec] W fun r w' => r = .returned (.bool l.note) ∧ ∃ q', w' = W1.drewN q') := fun W hW l hl => by
      obtain ⟨q, rfl⟩ := hW
      have := rnote_any (ha.rq.drewN q) (s := (l.sec : Int)) (by have := HN.out _ _ _ _ _ ha l hl; omega)
      rw [hA1q] at this
      refine this.mono ?_
      rintro r w' ⟨rfl, q', rfl⟩
      exact ⟨by rw [ha.rq.nt l hl], q + q', by rw [World.drewN_drewN]⟩
    have HBk : Hid (∀ W, (∃ q, W = W1.drewN q) → ∀ (i : Nat) l, C1.L[i]? = some l → l.dirty = true → Calls Tryz.prog 74 #[.pointer (some ⟨A.q, 0, none⟩), .int .i64 i] W fun r w' => r = .returned (.int .i64 (wbE S1 C1 l.sec)) ∧ ∃ A', QAct w w' A A' C (wbS S1 C1 l.sec) (wbC S1 C1 l.sec) (if wbE S1 C1 l.sec = 0 then 0 else 1)) := fun W hW i l hl hd => by
      obtain ⟨q, rfl⟩ := hW
      have hp := ha.pot
      have := rback_at (ha.rq.drewN q) (by have := HQ.out; simp only [Qa.pot] at hp this; omega) hl hd
      rw [hA1q] at this
      refine this.mono ?_
      rintro r w' ⟨rfl, A', ha'⟩
      refine ⟨rfl, A', ?_⟩
      have := (ha.drewN q).trans ha'
      rw [Nat.zero_add] at this
      exact this
    have HL : Hid (∀ l ∈ C1.L, l.sec ≤ 65535) := HN.out _ _ _ _ _ ha
    have HA : Hid (QAct w W1 A A1 C S1 C1 0) := ha
    have HB : Hid (Bks b ks k z C1) := hb
    have HK : Hid (backs ks S C = backs (ks.drop k) S1 C1) := hbk
    obtain ⟨n, hn⟩ : ∃ n, n = A1.X.length := ⟨_, rfl⟩
    rw [← hn] at c3 hx1 hln
    have HLn : Hid (n = C1.L.length) := hln
    clear ha hb hbk HI HI0 hv hn hln hA1q HN HQ
    go_wp2
    go_loopw [8, 9] (fun av iv wk => ∃ (i : Nat) (a : Int), i ≤ n ∧ iv = .int .i64 i ∧ av = .int .i64 a ∧ Hid (∃ q, wk = W1.drewN q) ∧ Hid (Srch b z C1.L i a)) (fun _ iv _ => n - (intOf iv).toNat)
    case atStart => exact ⟨0, -1, Nat.zero_le _, rfl, rfl, ⟨0, rfl⟩, Srch.start _ _ _⟩
    case round =>
      obtain ⟨i, a, hi, rfl, rfl, HWk, HSr⟩ := hrel
      have d3 := c3 wr HWk.out
      by_cases hlt : i < n
      · have hiz : (i : Int) < (n : Int) := by omega
        obtain ⟨l, hl⟩ : ∃ l, C1.L[i]? = some l := ⟨_, List.getElem?_eq_getElem (by have := HLn.out; omega)⟩
        obtain ⟨g, rfl, k0, k2⟩ := HS.out wr HWk.out i l hl
        have hno := HNo.out wr HWk.out l (List.mem_of_getElem? hl)
        have HLi : Hid (C1.L[i]? = some l) := hl
        clear hl
        go_wp2_with fail
        refine Calls.mono hno ?_
        clear hno
        rintro r wk ⟨rfl, hwk⟩
        obtain ⟨g', e, k0', k2'⟩ := HS.out wk hwk i l HLi.out
        cases e
        have d3' := c3 wk hwk
        have HD : Hid (∀ m, ∃ q, wk.drewN m = W1.drewN q) := fun m => by obtain ⟨q0, e⟩ := hwk; exact ⟨q0 + m, by rw [e, World.drewN_drewN]⟩
        have HWw : Hid (∃ q, wk = W1.drewN q) := hwk
        clear k0 k2 d3 hwk HWk
        by_cases p0 : pkb b l = true
        · have b0 : (l.note == b) = true := p0
          by_cases p1 : l.dirty = true
          · rw [p1] at k2'
            by_cases p2 : z < (l.sec : Int)
            · have b2 : decide ((l.sec : Int) > z) = true := decide_eq_true p2
              rcases HSr.out with ⟨ea, hno⟩ | ⟨j, m, ea, hj, hm, hcm, hmin⟩
              · subst ea
                have HN2 : Hid (Srch b z C1.L (i + 1) i) := Srch.first hno HLi.out ⟨p1, p0, p2⟩
                clear hno HSr
                go_wp2
                go_quiet (fail)
                go_wp2
                go_roundw
                case rel => exact ⟨i + 1, i, by omega, by go_num, rfl, HD.out _, HN2⟩
                case measure => simp [intOf]; omega
              · subst ea
                obtain ⟨g2, e2, m0, m2⟩ := HS.out wk HWw.out j m hm
                cases e2
                have hjz : ¬ (j : Int) < 0 := by omega
                have hjn : (j : Int) < (n : Int) := by omega
                by_cases p3 : l.sec < m.sec
                · have b3 : decide ((l.sec : Int) < (m.sec : Int)) = true := decide_eq_true (by omega)
                  have HN2 : Hid (Srch b z C1.L (i + 1) i) := Srch.less hmin HLi.out ⟨p1, p0, p2⟩ p3
                  clear hmin HSr hm hcm
                  go_wp2
                  go_quiet (fail)
                  go_wp2
                  go_roundw
                  case rel => exact ⟨i + 1, i, by omega, by go_num, rfl, HD.out _, HN2⟩
                  case measure => simp [intOf]; omega
                · have b3 : decide ((l.sec : Int) < (m.sec : Int)) = false := decide_eq_false (by omega)
                  have HN2 : Hid (Srch b z C1.L (i + 1) j) := Srch.more hj hm hcm hmin HLi.out p3
                  clear hmin HSr hm hcm
                  go_wp2
                  go_quiet (fail)
                  go_wp2
                  go_roundw
                  case rel => exact ⟨i + 1, j, by omega, by go_num, rfl, HD.out _, HN2⟩
                  case measure => simp [intOf]; omega
            · have b2 : decide ((l.sec : Int) > z) = false := decide_eq_false p2
              have HN2 : Hid (Srch b z C1.L (i + 1) a) := HSr.out.skip HLi.out (fun hc => p2 hc.2.2)
              go_wp2
              go_quiet (fail)
              go_wp2
              go_roundw
              case rel => exact ⟨i + 1, a, by omega, by go_num, rfl, HD.out _, HN2⟩
              case measure => simp [intOf]; omega
          · have p1' : l.dirty = false := by simpa using p1
            rw [p1'] at k2'
            have HN2 : Hid (Srch b z C1.L (i + 1) a) := HSr.out.skip HLi.out (fun hc => p1 hc.1)
            go_wp2
            go_quiet (fail)
            go_wp2
            go_roundw
            case rel => exact ⟨i + 1, a, by omega, by go_num, rfl, HD.out _, HN2⟩
            case measure => simp [intOf]; omega
        · have b0 : (l.note == b) = false := by simpa [pkb] using p0
          have HN2 : Hid (Srch b z C1.L (i + 1) a) := HSr.out.skip HLi.out (fun hc => p0 hc.2.1)
          go_wp2
          go_quiet (fail)
          go_wp2
          go_roundw
          case rel => exact ⟨i + 1, a, by omega, by go_num, rfl, HD.out _, HN2⟩
          case measure => simp [intOf]; omega
      · have hiz : ¬ (i : Int) < (n : Int) := by omega
        rcases HSr.out with ⟨ea, hno⟩ | ⟨j, m, ea, hj, hm, hcm, hmin⟩
        · subst ea
          have hdr : ks.drop k = [] := HB.out.done (fun l hl => by
            obtain ⟨j, hj⟩ := List.getElem?_of_mem hl
            exact hno j l (by have := (List.getElem?_eq_some_iff.1 hj).1; have := HLn.out; omega) hj)
          have HE : Hid (backs ks S C = (0, S1, C1) ∧ k = ks.length) := ⟨by rw [HK.out, hdr]; rfl, by have := List.drop_eq_nil_iff.1 hdr; omega⟩
          have HAq : Hid (QAct w wr A A1 C S1 C1 0) := by obtain ⟨q, e⟩ := HWk.out; rw [e]; exact HA.out.drewN q
          clear hno HSr hdr
          go_wp2
          refine bodyPost_ret (results_tmp2 rfl _ _ _) rfl ?_
          show BkP _ _ _ _ _ _ _
          rw [HE.out.1]
          exact ⟨k, rfl, fun _ => HE.out.2, A1, HAq.out⟩
        · subst ea
          obtain ⟨g, rfl, m0, m2⟩ := HS.out wr HWk.out j m hm
          have hjz : ¬ (j : Int) < 0 := by omega
          have hjn : (j : Int) < (n : Int) := by omega
          have hmm := List.mem_of_getElem? hm
          obtain ⟨hdr, hkl2⟩ := HB.out.head hmm hcm (fun l' hl' hc' => by
            obtain ⟨j', hj'⟩ := List.getElem?_of_mem hl'
            exact hmin j' l' (by have := (List.getElem?_eq_some_iff.1 hj').1; have := HLn.out; omega) hj' hc')
          have hmz := HL.out m hmm
          have hzm := hcm.2.2
          have hbk := HBk.out wr HWk.out j m hm hcm.1
          have hk2 := HK.out
          rw [hdr, backs_cons] at hk2
          rcases wbE_two S1 C1 m.sec with he | he
          · rw [he] at hbk
            rw [if_pos he] at hk2
            have HN2 : Hid (Bks b ks (k + 1) m.sec (wbC S1 C1 m.sec) ∧ backs ks S C = backs (ks.drop (k + 1)) (wbS S1 C1 m.sec) (wbC S1 C1 m.sec)) := ⟨HB.out.next hmm hcm hdr he, hk2⟩
            have HBB : Hid (Calls Tryz.prog 74 #[.pointer (some ⟨A.q, 0, none⟩), .int .i64 j] wr fun r w' => r = .returned (.int .i64 0) ∧ ∃ A', QAct w w' A A' C (wbS S1 C1 m.sec) (wbC S1 C1 m.sec) 0) := hbk
            clear hbk hk2 hdr hmin HSr hm hcm hmm he HB HK HA HBk HNo
            go_wp2_with (go_at_call 74; refine HBB.out.mono ?_; rintro r w9 ⟨rfl, A9, ha9⟩; have HA9 : Hid (QAct w w9 A A9 C (wbS S1 C1 m.sec) (wbC S1 C1 m.sec) 0) := ha9; clear ha9 HBB)
            go_roundw
            case rel => exact ⟨k + 1, m.sec, _, _, by omega, by omega, by omega, by go_num, rfl, A9, HA9.out, HN2.out.1, HN2.out.2⟩
            case measure => simp [intOf]; omega
          · rw [he] at hbk
            rw [if_neg (by omega)] at hk2
            have HE : Hid (backs ks S C = (33, wbS S1 C1 m.sec, wbC S1 C1 m.sec)) := hk2
            have HBB : Hid (Calls Tryz.prog 74 #[.pointer (some ⟨A.q, 0, none⟩), .int .i64 j] wr fun r w' => r = .returned (.int .i64 33) ∧ ∃ A', QAct w w' A A' C (wbS S1 C1 m.sec) (wbC S1 C1 m.sec) 1) := hbk
            clear hbk hk2 hdr hmin HSr hm hcm hmm he HB HK HA HBk HNo
            go_wp2_with (go_at_call 74; refine HBB.out.mono ?_; rintro r w9 ⟨rfl, A9, ha9⟩; have HA9 : Hid (QAct w w9 A A9 C (wbS S1 C1 m.sec) (wbC S1 C1 m.sec) 1) := ha9; clear ha9 HBB)
            refine bodyPost_ret (results_tmp2 rfl _ _ _) rfl ?_
            show BkP _ _ _ _ _ _ _
            rw [HE.out]
            exact ⟨k, rfl, fun h0 => absurd h0 (by simp), A9, HA9.out⟩
theorem rbacks_ex (h : RQ w A S C) (hq : A.pot C < 1048576) (b : Bool) :
    Calls Tryz.prog 68 #[.pointer (some ⟨A.q, 0, none⟩), .bool b] w fun r w' => ∃ k : Nat, r = .returned (.tuple #[.int .i64 k, .int .i64 (backs (dlL (pkb b) C.L) S C).1]) ∧ ((backs (dlL (pkb b) C.L) S C).1 = 0 → k = (dlL (pkb b) C.L).length) ∧ ∃ A', QAct w w' A A' C (backs (dlL (pkb b) C.L) S C).2.1 (backs (dlL (pkb b) C.L) S C).2.2 (if (backs (dlL (pkb b) C.L) S C).1 = 0 then 0 else 1) := rbacks_any h hq b
end
end Go.Proofs.YtlacligofhinmaaGreat.C
