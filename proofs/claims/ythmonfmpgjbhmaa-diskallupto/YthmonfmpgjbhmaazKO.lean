import Derived.Test.YthmonfmpgjbhmaaG22
import Derived.Test.YthmonfmpgjbhmaazKM
namespace Go.Proofs.Ythmonfmpgjbhmaa.K
open Go.RowKit Go.Maps Go.Proofs.Ythmonfmpgjbhmaa
attribute [local go_sem] Oper.semAt_some
set_option linter.unusedVariables false
set_option linter.unusedSimpArgs false
set_option maxRecDepth 100000

set_option maxHeartbeats 2000000 in
theorem rload_bad (w : World) (ao : Option Addr) (cap m : Nat) (hm : m ≤ 140737488351232) (hb : m % 512 ≠ 0 ∨ m / 512 < 1 ∨ 65536 < m / 512) :
    Calls Try.prog 13 #[.slice ao m cap] w fun r w' => r = .returned (.tuple #[.pointer none, .int .i64 30]) ∧ w' = w := by
  obtain ⟨r, hr⟩ : ∃ r : Int, r = (m : Int).tmod 512 := ⟨_, rfl⟩
  obtain ⟨q, hq⟩ : ∃ q : Int, q = (m : Int).tdiv 512 := ⟨_, rfl⟩
  have hr' : r = ((m % 512 : Nat) : Int) := by rw [hr, Int.tmod_eq_emod_of_nonneg (by omega)]; omega
  have hq' : q = ((m / 512 : Nat) : Int) := by rw [hq, Int.tdiv_eq_ediv_of_nonneg (by omega)]; omega
  have hq0 : 0 ≤ q := by omega
  have hq1 : q ≤ 140737488351232 := by omega
  have hr0 : 0 ≤ r := by omega
  have hr1 : r < 512 := by omega
  have ht := hr.symm
  have htq := hq.symm
  by_cases h0 : m % 512 = 0
  · have hz : r = 0 := by omega
    have hd : q < 1 ∨ 65536 < q := by omega
    clear hr hq hr' hq' hb h0
    subst hz
    by_cases hd1 : q < 1
    · clear hd
      go_enter Try.func13, Try.ntmps13
      go_wp2
      exact bodyPost_ret (results_tmp2 rfl _ _ _) rfl ⟨rfl, rfl⟩
    · have hd2 : 65536 < q := by omega
      clear hd
      go_enter Try.func13, Try.ntmps13
      go_wp2
      exact bodyPost_ret (results_tmp2 rfl _ _ _) rfl ⟨rfl, rfl⟩
  · have hz : ¬ r = 0 := by omega
    clear hr hq hr' hq' hb h0
    go_enter Try.func13, Try.ntmps13
    go_wp2
    exact bodyPost_ret (results_tmp2 rfl _ _ _) rfl ⟨rfl, rfl⟩
set_option maxHeartbeats 2000000 in
theorem rload_any {w : World} {gb off cap : Nat} {l : List Nat} (h : BRow w (some ⟨gb, off, none⟩) cap l) {n : Nat} (hl : l.length = n * 512) (h0 : 1 ≤ n) (h1 : n ≤ 65536) :
    Calls Try.prog 13 #[.slice (some ⟨gb, off, none⟩) (n * 512) cap] w fun r w' => ∃ p, r = .returned (.tuple #[.pointer (some ⟨p, 0, none⟩), .int .i64 0]) ∧ ∃ g c, RL w' p n g c l 0 ∧ w.heap.size ≤ p ∧ w.heap.size ≤ g ∧ Below w.heap.size w w' := by
  have ht : ((n : Int) * 512).tmod 512 = 0 := by rw [Int.tmod_eq_emod_of_nonneg (by omega)]; omega
  have hq : ((n : Int) * 512).tdiv 512 = (n : Int) := by rw [Int.tdiv_eq_ediv_of_nonneg (by omega)]; omega
  have d1 : ¬ ((n : Int) < 1) := by omega
  have d2 : ¬ ((65536 : Int) < (n : Int)) := by omega
  have hby := rbytes_some ⟨gb, off, none⟩ cap l w h
  rw [hl] at hby
  have HL : Hid (l.length = n * 512) := hl
  have HR := (show Hid _ from h)
  clear h hl
  go_enter Try.func13, Try.ntmps13
  go_wp2_with fail
  refine hby.mono ?_
  clear hby
  rintro e w1 ⟨v, rfl, ho, hb⟩
  obtain ⟨g, c, cur, hv, hg, hk, hc⟩ := own_form ho (by omega)
  have hcap : n * 512 ≤ c := by
    rcases ho.2 with ⟨_, h0'⟩ | ⟨g', cap', cur', hv', _, _, h3⟩
    · omega
    · rw [hv] at hv'; cases hv'; exact h3.1
  have hbr : BRow w1 (some ⟨g, 0, none⟩) c l := by
    obtain ⟨ao', c', e, hb'⟩ := BRow.own (l := l) (by rw [HL.out]; exact ho) HR.out.lt HR.out.len
    rw [hv] at e
    simp at e
    obtain ⟨rfl, _, rfl⟩ := e
    exact hb'
  have HBR : Hid (BRow w1 (some ⟨g, 0, none⟩) c l) := hbr
  have HB : Hid (Below w.heap.size w w1) := hb
  have HG : Hid (w.heap.size ≤ g) := hg
  have HP : Hid (n * 512 ≤ c) := hcap
  subst hv
  clear ho hb hk hc hbr hg hcap
  go_wp2
  go_ret2
  have hb2 : Below w1.heap.size w1 (w1.alloc (.cells #[.int .i64 n, .slice (some ⟨g, 0, none⟩) (n * 512) c, .slice none 0 0, .slice none 0 0, .slice none 0 0, .int .u64 0, .int .u64 0, .int .u64 0, .int .u64 0, .int .u64 0] TRf)) := (Below.refl _ w1).alloc (Nat.le_refl _) _
  refine ⟨w1.heap.size, rfl, g, c, ⟨?_, HBR.out.later hb2, HL.out, h0, h1, by rw [HL.out]; exact HP.out⟩, HB.out.size, HG.out, HB.out.trans (hb2.mono HB.out.size)⟩
  unfold RRf rcells
  rw [HL.out]
  exact heap_alloc_new w1 _
set_option maxHeartbeats 2000000 in
theorem rsafe_any {w : World} {p n g cap : Nat} {l : List Nat} {r : Int} (h : RL w p n g cap l r) {s : Nat} (hs : s < n) :
    Calls Try.prog 51 #[.pointer (some ⟨p, 0, none⟩), .int .i64 s] w fun r w' => ∃ v, r = .returned v ∧ w'.ownsRow w.heap.size 5 1 v 512 ((secL l s).map bv) ∧ Below w.heap.size w w' := by
  have c1 : w.cell? ⟨p, 1, none⟩ = some (.slice (some ⟨g, 0, none⟩) (n * 512) cap) := by rw [← h.len]; exact h.rf.c 1
  have c2 : w.cell? ⟨p, 2, none⟩ = some (.slice none 0 0) := h.rf.c 2
  have hn1 := h.n1
  have hcp : n * 512 ≤ cap := by rw [← h.len]; exact h.cp
  have hla := rlast_none w s
  have hne : l ≠ [] := fun e => by have := h.len; rw [e] at this; simp at this; have := h.n0; omega
  have hok := secL_ok h.len hs h.bs.lt
  have hby : Calls Try.prog 32 #[.slice (some ⟨g, s * 512, none⟩) 512 (cap - s * 512)] w fun e w' => ∃ v, e = .returned v ∧ w'.ownsRow w.heap.size 5 1 v 512 ((secL l s).map bv) ∧ Below w.heap.size w w' := by
    have h1 : BRow w (some ⟨g, 0 + s * 512, none⟩) (cap - s * 512) (secL l s) := brow_part h.bs hne (o := s * 512) (fun j x hx => by
      have hj : j < 512 := by have := (List.getElem?_eq_some_iff.1 hx).1; rw [hok.len] at this; exact this
      rw [secL_get hj] at hx
      exact hx) (by rw [hok.len, h.len]; have := h.n0; omega)
    have h2 := rbytes_some ⟨g, 0 + s * 512, none⟩ (cap - s * 512) (secL l s) w h1
    rw [hok.len, Nat.zero_add] at h2
    exact h2
  have e1 : (s : Int) * 512 + 512 ≤ (cap : Int) := by omega
  have e2 : ((s : Int) * 512).toNat = s * 512 := by omega
  have e3 : ((s : Int) * 512 + 512).toNat = s * 512 + 512 := by omega
  have e4 : s * 512 + 512 - s * 512 = 512 := by omega
  have e5 : (0 : Int) ≤ (s : Int) * 512 := by omega
  have e6 : (s : Int) * 512 ≤ (s : Int) * 512 + 512 := by omega
  have e7 : (0 : Int) < (n : Int) * 512 := by omega
  have e8 : (s : Int) * 512 + 512 ≤ (n : Int) * 512 := by omega
  clear h hne hok
  go_enter Try.func51, Try.ntmps51
  go_wp2_with fail
  refine hla.mono ?_
  clear hla
  rintro e w9 ⟨rfl, hw9⟩
  rw [hw9]
  clear hw9
  go_wp2_with fail
  refine hby.mono ?_
  clear hby
  rintro e w1 ⟨v, rfl, ho, hb⟩
  have HO : Hid (w1.ownsRow w.heap.size 5 1 v 512 ((secL l s).map bv)) := ho
  clear ho
  go_wp2
  go_ret
  exact ⟨v, rfl, HO.out, hb⟩
set_option maxHeartbeats 2000000 in
theorem rlook_any {w : World} {p n g cap : Nat} {l : List Nat} {r : Int} (h : RL w p n g cap l r) {s : Nat} (hs : s < n) :
    Calls Try.prog 39 #[.pointer (some ⟨p, 0, none⟩), .int .i64 s] w fun r w' => ∃ v, r = .returned v ∧ w'.ownsRow w.heap.size 5 1 v 512 ((secL l s).map bv) ∧ Below w.heap.size w w' := by
  have c3 : w.cell? ⟨p, 3, none⟩ = some (.slice none 0 0) := h.rf.c 3
  have hla := rlast_none w s
  have hsa := rsafe_any h hs
  clear h hs
  go_enter Try.func39, Try.ntmps39
  go_wp2_with fail
  refine hla.mono ?_
  clear hla
  rintro e w9 ⟨rfl, hw9⟩
  rw [hw9]
  clear hw9
  go_wp2_with fail
  refine hsa.mono ?_
  clear hsa
  rintro e w1 ⟨v, rfl, ho, hb⟩
  have HO : Hid (w1.ownsRow w.heap.size 5 1 v 512 ((secL l s).map bv)) := ho
  clear ho
  go_wp2
  go_ret
  exact ⟨v, rfl, HO.out, hb⟩
theorem rread_out {w : World} {p n g cap : Nat} {l : List Nat} {r : Int} (h : RL w p n g cap l r) {s : Int} (hs : ¬ (0 ≤ s ∧ s < n)) :
    Calls Try.prog 15 #[.pointer (some ⟨p, 0, none⟩), .int .i64 s] w fun r w' => r = .returned (.tuple #[.slice none 0 0, .int .i64 31]) ∧ w' = w := by
  have hha := rhas_any h.rf s
  rw [decide_eq_false hs] at hha
  clear h hs
  go_enter Try.func15, Try.ntmps15
  go_wp2_with fail
  refine hha.mono ?_
  clear hha
  rintro e w9 ⟨rfl, hw9⟩
  rw [hw9]
  clear hw9
  go_wp2
  exact bodyPost_ret (results_tmp2 rfl _ _ _) rfl ⟨rfl, rfl⟩
/-- the count of reads has changed -/
theorem RL.set {w : World} {p n g cap : Nat} {l : List Nat} {r r' : Int} (h : RL w p n g cap l r) : RL (w.setCell ⟨p, 5, none⟩ (.int .u64 r')) p n g cap l r' := by
  have hne : l ≠ [] := fun e => by have := h.len; rw [e] at this; simp at this; have := h.n0; omega
  have hgp : g ≠ p := by
    rintro rfl
    obtain ⟨b, off, e, hc⟩ := h.bs.at_ hne
    cases e
    have h1 := hc 0 (by cases l with | nil => exact absurd rfl hne | cons => simp)
    rw [Nat.zero_add, h.rf.c 0] at h1
    simp [rcells, bv] at h1
  refine ⟨blk_set h.rf 5 _, ⟨h.bs.lt, h.bs.len, h.bs.nil, fun _ => ?_⟩, h.len, h.n0, h.n1, h.cp⟩
  obtain ⟨b, off, e, hc⟩ := h.bs.at_ hne
  cases e
  refine ⟨g, 0, rfl, fun k hk => ?_⟩
  have h1 := hc k hk
  unfold World.cell? at h1 ⊢
  rw [Below.heap_setCell _ _ _ _ hgp]
  exact h1
set_option maxHeartbeats 2000000 in
theorem rread_any {w : World} {p n g cap : Nat} {l : List Nat} (h : RL w p n g cap l 0) {s : Nat} (hs : s < n) :
    Calls Try.prog 15 #[.pointer (some ⟨p, 0, none⟩), .int .i64 s] w fun r w' => ∃ v, r = .returned (.tuple #[v, .int .i64 0]) ∧ w'.ownsRow w.heap.size 5 1 v 512 ((secL l s).map bv) ∧ RL w' p n g cap l 1 ∧ Kp w w' [p] := by
  have hha := rhas_any h.rf s
  rw [decide_eq_true (show 0 ≤ (s : Int) ∧ (s : Int) < n by omega)] at hha
  have hfa := rfails_none h.rf 1 s
  have c5 : w.cell? ⟨p, 5, none⟩ = some (.int .u64 0) := h.rf.c 5
  have z5 : w.frozen? ⟨p, 5, none⟩ = false := frozen_of h.rf
  have h1 : RL (w.setCell ⟨p, 5, none⟩ (.int .u64 1)) p n g cap l 1 := h.set
  have hlo := rlook_any h1 hs
  have HR : Hid (RL (w.setCell ⟨p, 5, none⟩ (.int .u64 1)) p n g cap l 1) := h1
  have HK : Hid (Kp w (w.setCell ⟨p, 5, none⟩ (.int .u64 1)) [p]) := (Kp.refl w [p]).set (.inl (by simp)) 5 _
  have hsz : (w.setCell ⟨p, 5, none⟩ (.int .u64 1)).heap.size = w.heap.size := by simp
  rw [hsz] at hlo
  clear h h1 hs
  go_enter Try.func15, Try.ntmps15
  go_wp2_with (first | (go_at_call 37; refine hha.mono ?_; rintro e w9 ⟨rfl, hw9⟩; rw [hw9]; clear hw9 hha) | (go_at_call 38; refine hfa.mono ?_; rintro e w9 ⟨rfl, hw9⟩; rw [hw9]; clear hw9 hfa) | (go_at_call 39; refine hlo.mono ?_; clear hlo; rintro e w1 ⟨v, rfl, ho, hb⟩; have HO : Hid (w1.ownsRow w.heap.size 5 1 v 512 ((secL l s).map bv)) := ho; have HB : Hid (Below w.heap.size (w.setCell ⟨p, 5, none⟩ (.int .u64 1)) w1) := hb; clear ho hb))
  refine bodyPost_ret (results_tmp2 rfl _ _ _) rfl ⟨v, rfl, HO.out, ?_, ?_⟩
  · exact HR.out.later (by rw [hsz]; exact HB.out)
  · exact HK.out.trans (Kp.of_below (by rw [hsz]; exact HB.out) [p]) (fun i hi => .inl hi)
/-- two disks are made -/
theorem made_bad (w : World) (n : Int) (h : n < 1 ∨ 65536 < n) : Calls Try.prog 9 #[.int .i64 n] w fun r w' => r = .returned (.tuple #[.pointer none, .pointer none, .bool true]) ∧ w' = w := by
  have h1 := new_bad w n h
  have h2 := rnew_bad w n h
  clear h
  go_enter Try.func9, Try.ntmps9
  go_wp2_with (first | (go_at_call 21; refine h1.mono ?_; clear h1; rintro e w9 ⟨rfl, hw9⟩; rw [hw9]; clear hw9) | (go_at_call 22; refine h2.mono ?_; clear h2; rintro e w9 ⟨rfl, hw9⟩; rw [hw9]; clear hw9))
  go_ret3
  exact ⟨rfl, rfl⟩
theorem made_any (w : World) (n : Nat) (h0 : 1 ≤ n) (h1 : n ≤ 65536) : Calls Try.prog 9 #[.int .i64 n] w fun r w' => ∃ b p, r = .returned (.tuple #[.pointer (some ⟨b, 0, none⟩), .pointer (some ⟨p, 0, none⟩), .bool true]) ∧ ∃ ms ml, Hs w w' b ms ml (.slice none 0 0) (.slice none 0 0) (newDk n) ∧ RRf w' p n (.slice none 0 0) 0 ∧ w.heap.size ≤ p ∧ p ∉ fp b ms ml (.slice none 0 0) (.slice none 0 0) := by
  have hn := new_any w n h0 h1
  have hr := fun w => rnew_any w n h0 h1
  have HR := (show Hid _ from hr)
  clear hr h0 h1
  go_enter Try.func9, Try.ntmps9
  go_wp2_with (first | (go_at_call 21; refine hn.mono ?_; clear hn; rintro e w1 ⟨b, rfl, ms, ml, hrk, hb1, hf1⟩; have HS : Hid (Hs w w1 b ms ml (.slice none 0 0) (.slice none 0 0) (newDk n)) := ⟨hrk, hb1, hf1⟩; clear hrk hb1 hf1) | (go_at_call 22; refine (HR.out w1).mono ?_; clear HR; rintro e w2 ⟨rfl, hrf, hb2⟩; have HF : Hid (RRf w2 w1.heap.size n (.slice none 0 0) 0) := hrf; have HB : Hid (Below w1.heap.size w1 w2) := hb2; clear hrf hb2))
  go_ret3
  refine ⟨b, w1.heap.size, rfl, ms, ml, HS.out.later HB.out, HF.out, HS.out.bl.size, fun hm => ?_⟩
  have := HS.out.rk.lt _ hm
  omega
end Go.Proofs.Ythmonfmpgjbhmaa.K
