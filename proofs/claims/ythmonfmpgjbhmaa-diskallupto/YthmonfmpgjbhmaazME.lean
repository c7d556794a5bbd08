import Derived.Test.YthmonfmpgjbhmaazMD
namespace Go.Proofs.Ythmonfmpgjbhmaa.K
open Go.RowKit Go.Maps Go.Proofs.Ythmonfmpgjbhmaa
attribute [local go_sem] Oper.semAt_some
set_option linter.unusedVariables false
set_option linter.unusedSimpArgs false
set_option maxRecDepth 100000

section
variable {w : World} {p : Nat} {dv qv av : Value} {D Q : List Pv} {S : Dk}
set_option maxHeartbeats 2000000 in
theorem rRead_any (h : RR w p dv qv av D Q S) (hf : FsOk S.fs) (hl : D.length ≤ 1048576) (hq : Q.length ≤ 1048576) (s : Int) :
    Calls Try.prog 15 #[.pointer (some ⟨p, 0, none⟩), .int .i64 s] w fun r w' => ∃ v av', r = .returned (.tuple #[v, .int .i64 (rdE S s)]) ∧ w'.ownsRow w.heap.size 5 1 v (rdL S s).length ((rdL S s).map bv) ∧ RAct w w' p dv qv av D Q dv qv av' D Q (rdS S s) := by
  have hha := rHas_any h s
  have hfa := rfails_any h hf 1 s
  unfold rdE rdL rdS
  by_cases hr : 0 ≤ s ∧ s < S.n
  · have hi : inD S.n s = true := decide_eq_true hr
    rw [hi] at hha
    rw [if_pos hi, if_pos hi, if_pos hi]
    obtain ⟨t, rfl⟩ : ∃ t : Nat, s = t := ⟨s.toNat, by omega⟩
    have ht : t < S.n := by omega
    by_cases hh : hitF S.fs 1 t = true
    · rw [if_pos hh, if_pos hh, if_pos hh]
      rw [hh] at hfa
      clear h hf hl hq hr hi ht hh
      go_enter Try.func15, Try.ntmps15
      go_wp2_with (first | (go_at_call 37; refine hha.mono ?_; rintro e w9 ⟨rfl, hw9⟩; rw [hw9]; clear hw9 hha) | (go_at_call 38; refine hfa.mono ?_; rintro e w2 ⟨rfl, av', ha⟩; have HA : Hid (RAct w w2 p dv qv av D Q dv qv av' D Q (failS S 1 t)) := ha; clear hfa ha))
      exact bodyPost_ret (results_tmp2 rfl _ _ _) rfl ⟨_, av', rfl, World.ownsRow_nil _ _ _ _, HA.out⟩
    · rw [if_neg hh, if_neg hh, if_neg hh]
      have hh' : hitF S.fs 1 t = false := by simpa using hh
      rw [hh'] at hfa
      have HL : Hid (D.length ≤ 1048576 ∧ Q.length ≤ 1048576 ∧ t < (failS S 1 t).n) := ⟨hl, hq, by rw [failS_n]; exact ht⟩
      have hlk : look (readS (failS S 1 t)) t = look S t := by unfold look readS; rw [show (failS S 1 t).q = S.q from failS_q S 1 t, show (failS S 1 t).safe = S.safe from failS_safe S 1 t]
      have hlen : (look S t).length = 512 := by
        unfold look
        cases hl2 : lastQ t S.q with
        | some l => obtain ⟨i, hi2, _⟩ := lastQ_some hl2; rw [← h.q, List.getElem?_map] at hi2; obtain ⟨x, hx, e⟩ := Option.map_eq_some_iff.1 hi2; have h2 := (h.ok x (by simp [List.mem_of_getElem? hx])).2; simp [bare] at e; rw [← e.2]; exact h2.len
        | none =>
          show (S.safe t).length = 512
          rw [h.sf t ht]
          cases hl3 : lastQ t (D.map bare) with
          | some l => obtain ⟨i, hi2, _⟩ := lastQ_some hl3; rw [List.getElem?_map] at hi2; obtain ⟨x, hx, e⟩ := Option.map_eq_some_iff.1 hi2; have h2 := (h.ok x (by simp [List.mem_of_getElem? hx])).2; simp [bare] at e; rw [← e.2]; exact h2.len
          | none => exact okZ.len
      rw [Int.toNat_natCast, hlen, ← hlk]
      obtain ⟨S1, hS1⟩ : ∃ S1, S1 = failS S 1 t := ⟨_, rfl⟩
      rw [← hS1] at hfa HL ⊢
      clear h hf hl hq hr hi ht hh hh' hlk hlen hS1
      go_enter Try.func15, Try.ntmps15
      go_wp2_with (first | (go_at_call 37; refine hha.mono ?_; rintro e w9 ⟨rfl, hw9⟩; rw [hw9]; clear hw9 hha) | (go_at_call 38; refine hfa.mono ?_; rintro e w2 ⟨rfl, av', ha⟩; have c5 : w2.cell? ⟨p, 5, none⟩ = some (.int .u64 S1.st.reads) := ha.rk.c 5; have f5 := ha.rk.fz 5; have HA : Hid (RAct w (w2.setCell ⟨p, 5, none⟩ (.int .u64 (IntKind.u64.wrap (S1.st.reads + 1)))) p dv qv av D Q dv qv av' D Q (readS S1)) := ha.put 5 _ { S1.st with reads := inc S1.st.reads } rfl; clear hfa ha) | (go_at_call 39; refine (rLook_any HA.out.rk HL.out.1 HL.out.2.1 HL.out.2.2).mono ?_; rintro e w3 ⟨v, rfl, ho, hb⟩; have HO : Hid (w3.ownsRow w.heap.size 5 1 v 512 ((look (readS S1) t).map bv)) := owns_mono ho HA.out.kp.size; have HB : Hid (RAct w w3 p dv qv av D Q dv qv av' D Q (readS S1)) := HA.out.later hb; clear ho hb))
      exact bodyPost_ret (results_tmp2 rfl _ _ _) rfl ⟨v, av', rfl, HO.out, HB.out⟩
  · have hi : ¬ inD S.n s = true := by unfold inD; simpa using hr
    have hi' : inD S.n s = false := by simpa using hi
    rw [hi'] at hha
    rw [if_neg hi, if_neg hi, if_neg hi]
    have HH : Hid (RR w p dv qv av D Q S) := h
    clear h hf hl hq hr hi hi' hfa
    go_enter Try.func15, Try.ntmps15
    go_wp2_with (first | (go_at_call 37; refine hha.mono ?_; rintro e w9 ⟨rfl, hw9⟩; rw [hw9]; clear hw9 hha))
    exact bodyPost_ret (results_tmp2 rfl _ _ _) rfl ⟨_, av, rfl, World.ownsRow_nil _ _ _ _, RAct.refl HH.out⟩
set_option maxHeartbeats 2000000 in
theorem rFaults_any (h : RR w p dv qv av D Q S) (hf : FsOk S.fs) :
    Calls Try.prog 75 #[.pointer (some ⟨p, 0, none⟩)] w fun r w' => ∃ v, r = .returned v ∧ w'.ownsRow w.heap.size TFa 5 v S.fs.length (fcells S.fs) ∧ Below w.heap.size w w' := by
  have c4 : w.cell? ⟨p, 4, none⟩ = some av := h.c 4
  obtain ⟨i0, hi0, hz0, hz1, hz2⟩ := info_parts infoFa3
  rcases h.fr.2 with ⟨rfl, h0⟩ | ⟨g, cap, cur, rfl, _⟩
  · rw [h0, List.length_eq_zero_iff.1 h0]
    clear h hf h0
    go_enter Try.func75, Try.ntmps75
    go_wp2_with (at_builtin; refine wpList_append_own_none rfl _ _ TFas rfl w.heap.size TFa i0 5 Try.underlying30 hi0 _ 0 [] rfl (World.ownsRow_nil _ _ _ _) rfl ?_)
    go_ret
    exact ⟨_, rfl, World.ownsRow_nil _ _ _ _, Below.refl _ _⟩
  · have HR : Hid (w.ownsRow 0 TFa 5 (.slice (some ⟨g, 0, none⟩) S.fs.length cap) S.fs.length (fcells S.fs)) := h.fr
    obtain ⟨m, hm⟩ : ∃ m, m = S.fs.length := ⟨_, rfl⟩
    have hm64 : m ≤ 64 := by have := hf.le; omega
    rw [← hm] at c4 HR ⊢
    clear h hf hm
    go_enter Try.func75, Try.ntmps75
    go_wp2_with (at_builtin; refine wpList_append_own w rfl _ _ TFas rfl w.heap.size TFa i0 _ 5 40 Try.underlying30 hi0 hz0 hz1 hz2 rfl (by decide) (.slice none 0 0) 0 [] rfl (World.ownsRow_nil _ _ _ _) ⟨g, 0, none⟩ m cap (fcells S.fs) rfl HR.out.1 (own_news HR.out) (fcells_one _) (by unfold maxLen; omega) (by omega) (Nat.le_refl _) ?_)
    intro v1 w1 ho hg _
    have hb : Below w.heap.size w w1 := (Below.refl _ _).grown hg (Nat.le_refl _) (by simp [Value.ownBlock])
    clear hg
    go_wp2
    go_ret
    exact ⟨_, rfl, ho, hb⟩
end
end Go.Proofs.Ythmonfmpgjbhmaa.K
