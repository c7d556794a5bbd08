import Derived.Test.YtbamjfnjenmdaaaGreatG33
namespace Go.Proofs.YtbamjfnjenmdaaaGreat.C
open Go.RowKit Go.Maps Go.Shelf Go.Sort Go.Proofs.YtbamjfnjenmdaaaGreat
attribute [local go_sem] Oper.semAt_some
set_option linter.unusedVariables false
set_option linter.unusedSimpArgs false
set_option maxRecDepth 100000

abbrev TB8 : TypeId := 5
section
variable {w w' : World} {P : Loc} {S S' : K.Dk} {C C' : Ch}
/-- no block of the cache's is a row of bytes -/
theorem RC.noB (h : RC w P S C) {g : Nat} (hg : g ∈ P.fp C.L) (cs : Array Value) (fr : Nat × Nat) : w.heap[g]? ≠ some (.cells cs TB8 fr) := by
  intro hb
  simp only [Loc.fp, List.mem_append] at hg
  rcases hg with hg | hg | hg
  · obtain ⟨D, ⟨es, ck, hm, _⟩, _⟩ := h.rk.sm
    obtain ⟨D', ⟨es', ck', hm', _⟩, _⟩ := h.rk.lm
    simp only [Loc.dfp, K.fp, List.mem_cons, List.mem_append, Option.mem_toList] at hg
    rcases hg with rfl | rfl | rfl | hg | hg
    · rw [h.rk.blk] at hb; simp at hb; exact absurd hb.2.1 (by decide)
    · rw [hm] at hb; cases hb
    · rw [hm'] at hb; cases hb
    · obtain ⟨_, cs', h1⟩ := K.row_lt h.rk.qr _ hg; rw [h1] at hb; simp at hb; exact absurd hb.2.1 (by decide)
    · obtain ⟨_, cs', h1⟩ := K.row_lt h.rk.fr _ hg; rw [h1] at hb; simp at hb; exact absurd hb.2.1 (by decide)
  · obtain ⟨nx, pv, hr, hgp, hp⟩ := h.ro.rg
    obtain ⟨n, D, ⟨es, ck, hm, _⟩, _⟩ := h.ro.mp
    simp only [Loc.ofp, I.fp, List.mem_cons, List.mem_map] at hg
    rcases hg with rfl | rfl | rfl | ⟨e, he, rfl⟩
    · rw [h.ro.ord] at hb; simp at hb; exact absurd hb.2.1 (by decide)
    · rw [hm] at hb; cases hb
    · rw [hgp] at hb; simp [I.plc] at hb; exact absurd hb.2.1 (by decide)
    · rw [hp e he] at hb; simp [I.plc] at hb; exact absurd hb.2.1 (by decide)
  · obtain ⟨D, ⟨es, ck, hm, _⟩, _⟩ := h.lm
    simp only [Loc.cfp, List.mem_cons, List.mem_append, List.mem_map, Option.mem_toList] at hg
    rcases hg with rfl | rfl | hg | ⟨l, hl, rfl⟩
    · rw [h.blk] at hb; simp at hb; exact absurd hb.2.1 (by decide)
    · rw [hm] at hb; cases hb
    · obtain ⟨_, cs', h1⟩ := h.nr.lt _ hg; rw [h1] at hb; simp at hb; exact absurd hb.2.1 (by decide)
    · rw [h.ln l hl] at hb; simp at hb; exact absurd hb.2.1 (by decide)
theorem RC.farB (h : RC w P S C) {B n : Nat} {v : Value} {xs : List Value} (ho : w.ownsRow B TB8 1 v n xs) : ∀ g, v.ownBlock = some g → g ∉ P.fp C.L := fun g hg hm => by
  obtain ⟨_, cs, h1⟩ := K.row_lt ho g hg
  exact h.noB hm cs _ h1
/-- a row of bytes through a call -/
theorem CAct.row {P' : Loc} {B n : Nat} {v : Value} {xs : List Value} (ha : CAct w w' P P' C S' C') (h : RC w P S C) (ho : w.ownsRow B TB8 1 v n xs) : w'.ownsRow B TB8 1 v n xs :=
  K.ownsRow_block ho fun g hg => ha.kp.block g (K.row_lt ho g hg).1 (h.farB ho g hg)
/-- Read: the error, the bytes, disk and cache behind it; b: where a new line lies -/
def readR (S : K.Dk) (C : Ch) (s : Int) (b : Nat) : Int × K.Bl × K.Dk × Ch :=
  if K.inD S.n s = true then
    match lineAt C.L s with
    | some l => (0, l.dat, S, useC C s)
    | none =>
      if (roomR S (missC C)).1 = 0 then
        (if K.rdE (roomR S (missC C)).2.1 s = 0 then
          (0, K.rdL (roomR S (missC C)).2.1 s, K.rdS (roomR S (missC C)).2.1 s, { (roomR S (missC C)).2.2 with L := (roomR S (missC C)).2.2.L ++ [⟨s.toNat, b, K.rdL (roomR S (missC C)).2.1 s, false, isN C.notes s⟩] })
        else (33, [], K.rdS (roomR S (missC C)).2.1 s, (roomR S (missC C)).2.2))
      else ((roomR S (missC C)).1, [], (roomR S (missC C)).2.1, (roomR S (missC C)).2.2)
  else (31, [], S, C)
theorem rdE_two {S : K.Dk} {s : Int} (h : K.inD S.n s = true) : K.rdE S s = 0 ∨ K.rdE S s = 33 := by
  unfold K.rdE
  rw [if_pos h]
  split
  · exact .inr rfl
  · exact .inl rfl
theorem rdL_ok {lk : Int} {b ms ml : Nat} {qv fv : Value} {S : K.Dk} (h : K.RK w lk b ms ml qv fv S) {s : Int} (hi : K.inD S.n s = true) (he : K.rdE S s = 0) : K.OkB (K.rdL S s) := by
  unfold K.rdE at he
  unfold K.rdL
  rw [if_pos hi] at he ⊢
  split
  · rename_i hh; rw [if_pos hh] at he; omega
  · simp only [K.inD, decide_eq_true_eq] at hi
    exact K.look_ok h (by omega)
theorem inD_nat {n : Nat} {s : Int} (h : K.inD n s = true) : ∃ t : Nat, s = t ∧ t < n := by
  simp only [K.inD, decide_eq_true_eq] at h
  exact ⟨s.toNat, by omega, by omega⟩
set_option maxHeartbeats 8000000 in
theorem read_c (h : RC w P S C) (hf : K.FsOk S.fs) (hq : S.q.length + dirtyN C.L < 1048576) (s : Int) :
    Calls Tryz.prog 12 #[.pointer (some ⟨P.bc, 0, none⟩), .int .i64 s] w fun r w' => ∃ b v, r = .returned (.tuple #[v, .int .i64 (readR S C s b).1]) ∧ w'.ownsRow w.heap.size TB8 1 v (readR S C s b).2.1.length ((readR S C s b).2.1.map bv) ∧ ∃ P', CAct w w' P P' C (readR S C s b).2.2.1 (readR S C s b).2.2.2 := by
  have hrf := refusal_c h s
  unfold readR
  by_cases hi : K.inD S.n s = true
  · simp only [hi, if_true] at hrf ⊢
    obtain ⟨t, rfl, ht⟩ := inD_nat hi
    have hn1 := h.rk.n1
    have hwf : I.wfK (t : Int) := K.wfI t (by omega)
    have HU : Hid (∀ w1, CAct w w1 P P C S C → Calls Tryz.prog 28 #[.pointer (some ⟨P.bc, 0, none⟩), .int .i64 t] w1 fun r w2 => r = .returned (linePtr (lineAt C.L t)) ∧ ∃ P', CAct w w2 P P' C S (useC C t)) := fun w1 ha => by
      refine (use_c ha.rc hwf).mono ?_
      rintro r w2 ⟨rfl, P', ha'⟩
      exact ⟨rfl, P', ha.trans ha'⟩
    cases hl : lineAt C.L t with
    | some l =>
      simp only [hl, linePtr] at HU ⊢
      have HC : Hid (∀ w1 P1, CAct w w1 P P1 C S (useC C t) → Calls Tryz.prog 31 #[.slice (some ⟨l.blk, 0, none⟩) 512 512] w1 fun r w2 => ∃ v, r = .returned v ∧ w2.ownsRow w.heap.size TB8 1 v l.dat.length (l.dat.map bv) ∧ ∃ P', CAct w w2 P P' C S (useC C t)) := fun w1 P1 ha => by
        have hm : l ∈ (useC C t).L := by unfold useC; rw [hl]; simp
        have hok := (ha.rc.ok l hm).2
        have hbr : BRow w1 (some ⟨l.blk, 0, none⟩) 512 l.dat := ⟨hok.lt, by rw [hok.len]; decide, (fun e => by cases e), fun _ => ⟨l.blk, 0, rfl, fun k hk => by
          rw [Nat.zero_add]
          exact (ha.rc.lcell hm k).trans (lcells_dat hok (by rw [List.getElem?_map, List.getElem?_eq_getElem hk]; rfl))⟩⟩
        refine (clone_some ⟨l.blk, 0, none⟩ 512 512 l.dat w1 hbr hok.len (by decide)).mono ?_
        rintro r w2 ⟨v, rfl, ho, hb⟩
        exact ⟨v, rfl, by rw [hok.len]; exact owns_mono ho ha.kp.size, P1, ha.later hb⟩
      have e1 := neq_lp_some
      clear h hl hf hq
      go_enter Tryz.func12, Tryz.ntmps12
      go_wp2_with (first | (go_at_call 27; refine hrf.mono ?_; clear hrf; rintro r w1 ⟨rfl, ha1⟩) | (go_at_call 28; refine (HU.out w1 ha1).mono ?_; clear HU; rintro r w2 ⟨rfl, P2, ha2⟩) | (go_at_call 31; refine (HC.out w2 P2 ha2).mono ?_; clear HC; rintro r w3 ⟨v, rfl, ho, ha3⟩))
      refine bodyPost_ret (results_tmp2 rfl _ _ _) rfl ?_
      first | exact ⟨0, v, rfl, ho, ha3⟩ | exact ⟨v, rfl, ho, ha3⟩
    | none =>
      simp only [hl, linePtr] at HU ⊢
      have huse : useC C t = missC C := by unfold useC; rw [hl]
      rw [huse] at HU
      have hsd : (secs (missC C).L).Nodup := h.sd
      have hlim := h.lim
      obtain ⟨hh, hroom, htwo⟩ := room_ok (S := S) (C := missC C) hsd hlim.1 hlim.2.1
      have HM : Hid (∀ w1 P1, CAct w w1 P P1 C S (missC C) → Calls Tryz.prog 29 #[.pointer (some ⟨P.bc, 0, none⟩)] w1 fun r w2 => r = .returned (.int .i64 (roomR S (missC C)).1) ∧ ∃ P', CAct w w2 P P' C (roomR S (missC C)).2.1 (roomR S (missC C)).2.2) := fun w1 P1 ha => by
        have hr := room_c ha.rc hf hq
        rw [ha.bc] at hr
        refine hr.mono ?_
        rintro r w2 ⟨rfl, P', ha'⟩
        exact ⟨rfl, P', ha.trans ha'⟩
      have hnn : lineAt (missC C).L t = none := hl
      have hno := hh.sub t hnn
      have hfs := hh.fs hf
      have hnS := hh.n
      have hnt : (roomR S (missC C)).2.2.notes = C.notes := hh.notes
      have hmost : (roomR S (missC C)).2.2.most = C.most := hh.most
      generalize hR : roomR S (missC C) = R at *
      obtain ⟨e, S1, C1⟩ := R
      simp only at *
      have e1 := neq_lp_none
      rcases htwo with he | he
      · subst he
        simp only [if_true]
        have hin1 : K.inD S1.n t = true := by rw [hnS]; exact hi
        have HRD : Hid (∀ w2 P2, CAct w w2 P P2 C S1 C1 → w2.cell? ⟨P.bc, 0, none⟩ = some (.pointer (some ⟨P.bd, 0, none⟩)) ∧ Calls Tryz.prog 32 #[.pointer (some ⟨P.bd, 0, none⟩), .int .i64 t] w2 fun r w3 => ∃ v, r = .returned (.tuple #[v, .int .i64 (K.rdE S1 t)]) ∧ w3.ownsRow w.heap.size TB8 1 v (K.rdL S1 t).length ((K.rdL S1 t).map bv) ∧ ∃ P', CAct w w3 P P' C (K.rdS S1 t) C1) := fun w2 P2 ha => by
          have hc := ha.rc.c 0
          rw [ha.bc] at hc
          have hr := K.read_gen ha.rc.rk hfs t
          rw [ha.bd] at hr
          refine ⟨by rw [hc, ← ha.bd]; rfl, hr.mono ?_⟩
          rintro r w3 ⟨v, fv1, rfl, ho, hda⟩
          rw [← ha.bd] at hda
          exact ⟨v, rfl, owns_mono ho ha.kp.size, _, ha.trans (ha.rc.disk (rdS_n S1 t) hda)⟩
        rcases rdE_two hin1 with hre | hre
        · simp only [hre, if_true] at HRD ⊢
          have HAD : Hid (∀ w3 P3 v, CAct w w3 P P3 C (K.rdS S1 t) C1 → w3.ownsRow w.heap.size TB8 1 v (K.rdL S1 t).length ((K.rdL S1 t).map bv) → ∃ g cap, v = .slice (some ⟨g, 0, none⟩) 512 cap ∧ Calls Tryz.prog 30 #[.pointer (some ⟨P.bc, 0, none⟩), .int .i64 t] w3 fun r w4 => ∃ b, r = .returned (.pointer (some ⟨b, 0, none⟩)) ∧ ∃ w5, (∀ ty, (Builtin.copy_ #[44, 44] ty #[.slice (some ⟨b, 0, none⟩) 512 512, .slice (some ⟨g, 0, none⟩) 512 cap]).run Tryz.prog w4 = .ok (goInt 512) w5) ∧ w5.ownsRow w.heap.size TB8 1 v (K.rdL S1 t).length ((K.rdL S1 t).map bv) ∧ ∃ P', CAct w w5 P P' C (K.rdS S1 t) { C1 with L := C1.L ++ [⟨t, b, K.rdL S1 t, false, isN C.notes t⟩] }) := fun w3 P3 v ha ho => by
            have hrn : (K.rdS S1 t).n = S.n := (rdS_n S1 t).trans hnS
            have hokb : K.OkB (K.rdL S1 t) := by
              unfold K.rdE at hre
              unfold K.rdL
              rw [if_pos hin1] at hre ⊢
              split
              · rename_i hx; rw [if_pos hx] at hre; omega
              · rename_i hx
                have hlk := K.look_ok ha.rc.rk (s := t) (by rw [hrn]; exact ht)
                have : K.look (K.rdS S1 t) t = K.look S1 (t : Int).toNat := by
                  unfold K.rdS
                  rw [if_pos hin1, if_neg hx]
                  rw [Int.toNat_natCast]
                  unfold K.look K.readS K.failS
                  split <;> rfl
                rw [← this]; exact hlk
            rw [hokb.len] at ho ⊢
            obtain ⟨g, cap, cur, rfl, _, hgc, _⟩ := K.own_form ho (by decide)
            refine ⟨g, cap, rfl, ?_⟩
            have had := addLine_c ha.rc (s := t) (by rw [hrn]; exact ht) hno (by rw [hmost]; exact hroom rfl)
            rw [ha.bc] at had
            refine had.mono ?_
            rintro r w4 ⟨b, P4, rfl, ha4⟩
            have ho4 := ha4.row ha.rc ho
            obtain ⟨hcp, ha5⟩ := ha4.rc.fill (L1 := C1.L) (L2 := []) (l := newLn t b (isN C1.notes t)) rfl hokb (a := ⟨g, 0, none⟩) (m := 512) (cap := cap) rfl (fun j x hx => ho4.cells (g := g) rfl j x hx) 0
            refine ⟨b, rfl, w4.setRow b (lcells { newLn t b (isN C1.notes t) with dat := K.rdL S1 t }), fun ty => (ha4.rc.fill (L1 := C1.L) (L2 := []) (l := newLn t b (isN C1.notes t)) rfl hokb (a := ⟨g, 0, none⟩) (m := 512) (cap := cap) rfl (fun j x hx => ho4.cells (g := g) rfl j x hx) ty).1, ha5.row ha4.rc ho4, P4, ?_⟩
            have := (ha.trans ha4).trans ha5
            rw [← hnt]
            exact this
          clear h hl hf hq hh hroom hno hfs hnS hnt hmost hR hnn hi hsd hin1
          go_enter Tryz.func12, Tryz.ntmps12
          go_wp2_with (first | (go_at_call 27; refine hrf.mono ?_; clear hrf; rintro r w1 ⟨rfl, ha1⟩) | (go_at_call 28; refine (HU.out w1 ha1).mono ?_; clear HU; rintro r w2 ⟨rfl, P2, ha2⟩) | (go_at_call 29; refine (HM.out w2 P2 ha2).mono ?_; clear HM; rintro r w3 ⟨rfl, P3, ha3⟩; obtain ⟨k0, hrd⟩ := HRD.out w3 P3 ha3; clear HRD) | (go_at_call 32; refine hrd.mono ?_; clear hrd; rintro r w4 ⟨v, rfl, ho4, P4, ha4⟩; obtain ⟨g, cap, rfl, had⟩ := HAD.out w4 P4 v ha4 ho4; clear HAD) | (go_at_call 30; refine had.mono ?_; clear had; rintro r w5 ⟨b, rfl, w6, hcp, ho6, ha6⟩))
          refine bodyPost_ret (results_tmp2 rfl _ _ _) rfl ?_
          exact ⟨b, _, rfl, ho6, ha6⟩
        · simp only [hre, show ((33 : Int) = 0) = False by simp, if_false] at HRD ⊢
          clear h hl hf hq hh hroom hno hfs hnS hnt hmost hR hnn hi hsd hin1
          go_enter Tryz.func12, Tryz.ntmps12
          go_wp2_with (first | (go_at_call 27; refine hrf.mono ?_; clear hrf; rintro r w1 ⟨rfl, ha1⟩) | (go_at_call 28; refine (HU.out w1 ha1).mono ?_; clear HU; rintro r w2 ⟨rfl, P2, ha2⟩) | (go_at_call 29; refine (HM.out w2 P2 ha2).mono ?_; clear HM; rintro r w3 ⟨rfl, P3, ha3⟩; obtain ⟨k0, hrd⟩ := HRD.out w3 P3 ha3; clear HRD) | (go_at_call 32; refine hrd.mono ?_; clear hrd; rintro r w4 ⟨v, rfl, ho4, ha4⟩))
          refine bodyPost_ret (results_tmp2 rfl _ _ _) rfl ?_
          first | exact ⟨0, _, rfl, World.ownsRow_nil _ _ _ _, ha4⟩ | exact ⟨_, rfl, World.ownsRow_nil _ _ _ _, ha4⟩
      · subst he
        simp only [show ((33 : Int) = 0) = False by simp, if_false]
        clear h hl hf hq hh hroom hno hfs hnS hnt hmost hR hnn hi hsd
        go_enter Tryz.func12, Tryz.ntmps12
        go_wp2_with (first | (go_at_call 27; refine hrf.mono ?_; clear hrf; rintro r w1 ⟨rfl, ha1⟩) | (go_at_call 28; refine (HU.out w1 ha1).mono ?_; clear HU; rintro r w2 ⟨rfl, P2, ha2⟩) | (go_at_call 29; refine (HM.out w2 P2 ha2).mono ?_; clear HM; rintro r w3 ⟨rfl, ha3⟩))
        refine bodyPost_ret (results_tmp2 rfl _ _ _) rfl ?_
        first | exact ⟨0, _, rfl, World.ownsRow_nil _ _ _ _, ha3⟩ | exact ⟨_, rfl, World.ownsRow_nil _ _ _ _, ha3⟩
  · simp only [hi, if_false] at hrf ⊢
    clear h hf hq
    go_enter Tryz.func12, Tryz.ntmps12
    go_wp2_with (go_at_call 27; refine hrf.mono ?_; clear hrf; rintro r w1 ⟨rfl, ha1⟩)
    refine bodyPost_ret (results_tmp2 rfl _ _ _) rfl ?_
    first | exact ⟨0, _, rfl, World.ownsRow_nil _ _ _ _, P, ha1⟩ | exact ⟨_, rfl, World.ownsRow_nil _ _ _ _, P, ha1⟩
end
end Go.Proofs.YtbamjfnjenmdaaaGreat.C
