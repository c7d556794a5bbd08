import Derived.Test.YtlacligofhinmaaGreatV23
import Derived.Deep.RegionHeld3
import Derived.Deep.RegionLaw
import Derived.Deep.AppendLies
import Derived.Deep.DrawnRows
namespace Go.Proofs.YtlacligofhinmaaGreat.K
open Go.RowKit Go.Maps Go.Proofs.YtlacligofhinmaaGreat
attribute [local go_sem] Oper.semAt_some
set_option linter.unusedVariables false
set_option linter.unusedSimpArgs false
set_option maxRecDepth 100000

theorem step_append_none {P : Program} {w : World} {ops : Array Oper} {o : Oper} {a : Act} {K : Act → World → Prop} {Q : Exit → Act → World → Prop} {E : Prop} (hgd : o.guard = none) (s x : Operand) (t : TypeId)
    (ho : o.op = .call { callee := .builtin .append, args := #[s, x], argTypes := #[t, t] })
    (base : Nat) (e : TypeId) (i : TypeInfo) (size : Nat) (ht : P.underlying t = some (.slice e)) (hi : P.info? e = some i)
    (v : Value) (n : Nat) (xs : List Value) (hs : a.eval s = v) (hown : w.ownsRow base e size v n xs) (hx : a.eval x = .slice none 0 0)
    (h : K (a.put o.dst v) w) : if Region.wanted o (yielded ops a.tmps) = true then Oper.wp P o a w K Q else E := by
  have hw : Region.wanted o (yielded ops a.tmps) = true := by simp [Region.wanted, hgd]
  rw [if_pos hw]
  have hrun := run_append_owned_none (P := P) (w := w) base t o.type e i size ht hi v n xs hown
  unfold Oper.wp
  simp [execOp, ho, resolve, invoke, builtin, hs, hx, hrun, Result.andThen]
  exact h
section
variable {w : World} {p : Nat} {dv qv av : Value} {D Q : List Pv} {S : Dk}
theorem lay_all {S : Dk} {D Q : List Pv} (hq : Q.map bare = S.q) (h : ∀ s, s < S.n → S.safe s = (lastQ s (D.map bare)).getD z512) : ∀ s, s < S.n → layTo (fun _ => true) S.q S.safe S.q.length s = (lastQ s ((D ++ Q).map bare)).getD z512 := fun s hs => by
  have h1 := pick_lay (fun _ => true) Q D S.safe S.n h Q.length s hs
  rw [pick_all, List.take_length, hq] at h1
  rw [← h1, ← hq, List.length_map]
theorem qcells_one {Q : List Pv} (h : ∀ x ∈ Q, ∃ ao c, x.2.1 = .slice ao 512 c) : ∀ u ∈ qcells Q, u.oneCell' = true := fun u hu => by
  obtain ⟨x, hx, hu⟩ := List.mem_flatMap.1 hu
  simp [qcell] at hu
  rcases hu with rfl | rfl
  · rfl
  · obtain ⟨ao, c, e⟩ := h x hx
    rw [e]; rfl
set_option maxHeartbeats 4000000 in
theorem rBarrier_any (h : RR w p dv qv av D Q S) (hf : FsOk S.fs) (hl : D.length + Q.length ≤ 1048576) :
    Calls Tryz.prog 69 #[.pointer (some ⟨p, 0, none⟩)] w fun r w' => r = .returned (.int .i64 (baE S)) ∧ ∃ dv' qv' av' D' Q', RAct w w' p dv qv av D Q dv' qv' av' D' Q' (baS S) ∧ D'.length + Q'.length = D.length + Q.length := by
  have hfa := rfails_any h hf 3 (-1)
  unfold baE baS
  by_cases hh : hitF S.fs 3 (-1) = true
  · rw [if_pos hh, if_pos hh]
    rw [hh] at hfa
    obtain ⟨S1, hS1⟩ : ∃ S1, S1 = failS S 3 (-1) := ⟨_, rfl⟩
    rw [← hS1] at hfa ⊢
    clear h hf hl hh hS1
    go_enter Tryz.func69, Tryz.ntmps69
    go_wp2_with (first | (go_at_call 102; refine hfa.mono ?_; rintro e w2 ⟨rfl, av', ha⟩; have HA : Hid (RAct w w2 p dv qv av D Q dv qv av' D Q S1) := ha; clear hfa ha))
    exact bodyPost_ret (results_tmp rfl _ _ _) rfl ⟨rfl, _, _, _, _, _, HA.out, rfl⟩
  · rw [if_neg hh, if_neg hh]
    have hh' : hitF S.fs 3 (-1) = false := by simpa using hh
    rw [hh'] at hfa
    obtain ⟨S1, hS1⟩ : ∃ S1, S1 = failS S 3 (-1) := ⟨_, rfl⟩
    rw [← hS1] at hfa ⊢
    generalize landF S.fs 3 (-1) = ld at hfa
    obtain ⟨i0, hi0, hz0, hz1, hz2⟩ := info_parts infoPt
    obtain ⟨dd0, dc, hdv⟩ := own_slice h.dr
    subst hdv
    have HL : Hid (D.length + Q.length ≤ 1048576) := hl
    by_cases hQ : Q = []
    · have hqv := h.qz hQ
      subst hqv
      subst hQ
      clear h hf hh hh' hS1 hl
      go_enter Tryz.func69, Tryz.ntmps69
      go_wp2_with (first | (go_at_call 102; refine hfa.mono ?_; rintro e w2 ⟨rfl, av', ha⟩; have HA2 : Hid (RAct w w2 p (.slice dd0 D.length dc) (.slice none 0 0) av D [] (.slice dd0 D.length dc) (.slice none 0 0) av' D [] S1) := ha; have HAd : Hid (RAct w w2.drew p (.slice dd0 D.length dc) (.slice none 0 0) av D [] (.slice dd0 D.length dc) (.slice none 0 0) av' D [] S1) := ha.later (below_drew w2); clear hfa ha))
      have c2 : w2.cell? ⟨p, 2, none⟩ = some (.slice dd0 D.length dc) := HA2.out.rk.c 2
      have f2 := HA2.out.rk.fz 2
      have c3 : w2.cell? ⟨p, 3, none⟩ = some (.slice none 0 0) := HA2.out.rk.c 3
      have hN := (HAd.out.rk.newD (w5 := w2.drew) (W := w2.drew) (Below.refl _ _) (World.grownBy.refl _ _) (X := []) (dv' := .slice dd0 D.length dc) (by simp) (by simpa [qcells] using HAd.out.rk.dr) (fun g e => .inl e) (f := layTo (fun _ => true) S1.q S1.safe S1.q.length) (by have h1 := lay_all HAd.out.rk.q HAd.out.rk.sf; simpa using h1)).2
      rw [List.append_nil] at hN
      have HN : Hid (RAct w (w2.drew.setCell ⟨p, 2, none⟩ (.slice dd0 D.length dc)) p (.slice dd0 D.length dc) (.slice none 0 0) av D [] (.slice dd0 D.length dc) (.slice none 0 0) av' D [] { S1 with safe := layTo (fun _ => true) S1.q S1.safe S1.q.length }) := HAd.out.trans hN
      have c33 : (w2.setCell ⟨p, 2, none⟩ (.slice dd0 D.length dc)).cell? ⟨p, 3, none⟩ = some (.slice none 0 0) := HN.out.rk.c 3
      have f33 : (w2.setCell ⟨p, 2, none⟩ (.slice dd0 D.length dc)).frozen? ⟨p, 3, none⟩ = false := HN.out.rk.fz 3
      have HN3 : Hid (RAct w ((w2.drew.setCell ⟨p, 2, none⟩ (.slice dd0 D.length dc)).setCell ⟨p, 3, none⟩ (.slice none 0 0)) p (.slice dd0 D.length dc) (.slice none 0 0) av D [] (.slice dd0 D.length dc) (.slice none 0 0) av' D [] { S1 with safe := layTo (fun _ => true) S1.q S1.safe S1.q.length, q := [] }) := HN.out.noQ
      have c77 : ((w2.setCell ⟨p, 2, none⟩ (.slice dd0 D.length dc)).setCell ⟨p, 3, none⟩ (.slice none 0 0)).cell? ⟨p, 7, none⟩ = some (.int .u64 S1.st.bars) := HN3.out.rk.c 7
      have f77 : ((w2.setCell ⟨p, 2, none⟩ (.slice dd0 D.length dc)).setCell ⟨p, 3, none⟩ (.slice none 0 0)).frozen? ⟨p, 7, none⟩ = false := HN3.out.rk.fz 7
      have HR : Hid (w2.drew.ownsRow 0 TPt 2 (.slice dd0 D.length dc) D.length (qcells D)) := HAd.out.rk.dr
      clear hN
      go_region_law (first | (refine step_append_none (by rfl) _ _ TPts (by rfl) 0 TPt i0 2 Tryz.underlying71 hi0 (.slice dd0 D.length dc) D.length (qcells D) (by rfl) HR.out (by rfl) ?_))
      all_goals go_wp2
      all_goals exact bodyPost_ret (results_tmp rfl _ _ _) rfl ⟨rfl, _, _, _, _, _, HN3.out.put 7 _ { S1.st with bars := inc S1.st.bars } rfl, rfl⟩
    · obtain ⟨gq, qc, hqv⟩ : ∃ gq qc, qv = .slice (some ⟨gq, 0, none⟩) Q.length qc := by
        rcases h.qr.2 with ⟨rfl, h0⟩ | ⟨g, cap, cur, rfl, _⟩
        · exact absurd (List.length_eq_zero_iff.1 h0) hQ
        · exact ⟨g, cap, rfl⟩
      have hQ0 : 0 < Q.length := List.length_pos_iff.2 hQ
      obtain ⟨m, hm⟩ : ∃ m, m = Q.length := ⟨_, rfl⟩
      obtain ⟨dn, hdn⟩ : ∃ dn, dn = D.length := ⟨_, rfl⟩
      have HM : Hid (Q.length = m) := hm.symm
      have HDn : Hid (D.length = dn) := hdn.symm
      have H1 : Hid (∀ u ∈ qcells Q, u.oneCell' = true) := qcells_one (fun x hx => own_slice (h.dat x (by simp [hx])))
      rw [← hm] at hqv hQ0 hl ⊢
      rw [← hdn] at hfa hl ⊢
      subst hqv
      clear h hf hh hh' hS1 hQ hm hdn
      go_enter Tryz.func69, Tryz.ntmps69
      go_wp2_with (first | (go_at_call 102; refine hfa.mono ?_; rintro e w2 ⟨rfl, av', ha⟩; have HA2 : Hid (RAct w w2 p (.slice dd0 dn dc) (.slice (some ⟨gq, 0, none⟩) m qc) av D Q (.slice dd0 dn dc) (.slice (some ⟨gq, 0, none⟩) m qc) av' D Q S1) := ha; have HAd : Hid (RAct w w2.drew p (.slice dd0 dn dc) (.slice (some ⟨gq, 0, none⟩) m qc) av D Q (.slice dd0 dn dc) (.slice (some ⟨gq, 0, none⟩) m qc) av' D Q S1) := ha.later (below_drew w2); clear hfa ha))
      have c2 : w2.cell? ⟨p, 2, none⟩ = some (.slice dd0 dn dc) := HA2.out.rk.c 2
      have c3 : w2.cell? ⟨p, 3, none⟩ = some (.slice (some ⟨gq, 0, none⟩) m qc) := HA2.out.rk.c 3
      have HR : Hid (w2.drew.ownsRow 0 TPt 2 (.slice dd0 dn dc) dn (qcells D)) := by have h1 := HAd.out.rk.dr; rw [HDn.out] at h1; exact h1
      have HRq : Hid (w2.drew.ownsRow 0 TPt 2 (.slice (some ⟨gq, 0, none⟩) m qc) m (qcells Q)) := by have h1 := HAd.out.rk.qr; rw [HM.out] at h1; exact h1
      go_region_law (first | (refine step_append_lies _ (by rfl) _ _ TPts (by rfl) 0 TPt i0 _ 2 32 Tryz.underlying71 hi0 hz0 hz1 hz2 (by rfl) (by decide) (.slice dd0 dn dc) dn (qcells D) (by rfl) HR.out ⟨gq, 0, none⟩ m qc (qcells Q) (by rfl) HRq.out.1 (own_news HRq.out) H1.out hQ0 (by unfold maxLen; omega) (by omega) (Nat.zero_le _) w2.drew.heap.size (by rfl) ?_; intro g' cap' w6 hown' hgrow hat hlt'; have hN := HAd.out.rk.newD (w5 := w2.drew) (Below.refl _ _) hgrow (X := Q) (dv' := .slice (some ⟨g', 0, none⟩) (dn + m) cap') (fun x hx => hx) (by rw [HDn.out, HM.out]; exact hown') (fun g e => by simp [Value.ownBlock] at e; subst e; exact hat.imp id (fun e => by omega)) (f := layTo (fun _ => true) S1.q S1.safe S1.q.length) (lay_all HAd.out.rk.q HAd.out.rk.sf); have c26 : w6.cell? ⟨p, 2, none⟩ = some (.slice dd0 dn dc) := (World.cell?_of_block (a := ⟨p, 2, none⟩) hN.1).trans (HAd.out.rk.c 2); have f26 : w6.frozen? ⟨p, 2, none⟩ = false := frozen_of (hN.1.trans HAd.out.rk.blk); have HN : Hid (RAct w (w6.setCell ⟨p, 2, none⟩ (.slice (some ⟨g', 0, none⟩) (dn + m) cap')) p (.slice dd0 dn dc) (.slice (some ⟨gq, 0, none⟩) m qc) av D Q (.slice (some ⟨g', 0, none⟩) (dn + m) cap') (.slice (some ⟨gq, 0, none⟩) m qc) av' (D ++ Q) Q { S1 with safe := layTo (fun _ => true) S1.q S1.safe S1.q.length }) := HAd.out.trans hN.2; have c33 : (w6.setCell ⟨p, 2, none⟩ (.slice (some ⟨g', 0, none⟩) (dn + m) cap')).cell? ⟨p, 3, none⟩ = some (.slice (some ⟨gq, 0, none⟩) m qc) := HN.out.rk.c 3; have f33 := HN.out.rk.fz 3; have HN3 : Hid (RAct w ((w6.setCell ⟨p, 2, none⟩ (.slice (some ⟨g', 0, none⟩) (dn + m) cap')).setCell ⟨p, 3, none⟩ (.slice none 0 0)) p (.slice dd0 dn dc) (.slice (some ⟨gq, 0, none⟩) m qc) av D Q (.slice (some ⟨g', 0, none⟩) (dn + m) cap') (.slice none 0 0) av' (D ++ Q) [] { S1 with safe := layTo (fun _ => true) S1.q S1.safe S1.q.length, q := [] }) := HN.out.noQ; have c77 : ((w6.setCell ⟨p, 2, none⟩ (.slice (some ⟨g', 0, none⟩) (dn + m) cap')).setCell ⟨p, 3, none⟩ (.slice none 0 0)).cell? ⟨p, 7, none⟩ = some (.int .u64 S1.st.bars) := HN3.out.rk.c 7; have f77 := HN3.out.rk.fz 7; clear hN hown' hgrow hat hlt'))
      all_goals go_wp2
      all_goals exact bodyPost_ret (results_tmp rfl _ _ _) rfl ⟨rfl, _, _, _, _, _, HN3.out.put 7 _ { S1.st with bars := inc S1.st.bars } rfl, by rw [List.length_append, HDn.out, HM.out]; rfl⟩
end
end Go.Proofs.YtlacligofhinmaaGreat.K
