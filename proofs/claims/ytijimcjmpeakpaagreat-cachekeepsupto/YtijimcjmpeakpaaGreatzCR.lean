import Derived.Test.YtijimcjmpeakpaaGreatzCQ
namespace Go.Proofs.YtijimcjmpeakpaaGreat.C
open Go.RowKit Go.Maps Go.Shelf Go.Sort Go.Proofs.YtijimcjmpeakpaaGreat
attribute [local go_sem] Oper.semAt_some
set_option linter.unusedVariables false
set_option linter.unusedSimpArgs false
set_option maxRecDepth 100000

section
variable {w w' : World} {P : Loc} {S S' : K.Dk} {C C' : Ch}
/-- bytes are laid into a line, which is dirty then -/
theorem RC.lay (h : RC w P S C) {L1 L2 : List Ln} {l : Ln} (hL : C.L = L1 ++ l :: L2) {bs : K.Bl} (hbs : K.OkB bs) {a : Addr} {m cap : Nat} (hm : m = 512) (hsrc : ∀ j v, (bs.map bv)[j]? = some v → w.cell? (a.add j) = some v) :
    ∃ w5, (∀ ty, (Builtin.copy_ #[80, 80] ty #[.slice (some ⟨l.blk, 0, none⟩) 512 512, .slice (some a) m cap]).run Tryz.prog w = .ok (goInt 512) w5) ∧ w5.frozen? ⟨l.blk, 512, none⟩ = false ∧ (∃ x, w5.cell? ⟨l.blk, 512, none⟩ = some x) ∧ CAct w (w5.setCell ⟨l.blk, 512, none⟩ (.bool true)) P P C S { C with L := L1 ++ { l with dat := bs, dirty := true } :: L2 } := by
  have hl : l ∈ C.L := by rw [hL]; simp
  obtain ⟨_, ha⟩ := h.fill hL hbs (cap := cap) hm hsrc 0
  have hln : (w.setRow l.blk (lcells { l with dat := bs })).heap[l.blk]? = some (.cells (lcells { l with dat := bs }) TLn (0, 0)) := setRow_heap w l.blk _ _ TLn _ (h.ln l hl)
  have hset := K.blk_set hln 512 (.bool true)
  rw [lcells_set hbs] at hset
  have hk : K.Kp (w.setRow l.blk (lcells { l with dat := bs })) ((w.setRow l.blk (lcells { l with dat := bs })).setCell ⟨l.blk, 512, none⟩ (.bool true)) [l.blk] := (K.Kp.refl _ _).set (.inl (by simp)) 512 _
  have a2 := ha.rc.line (L1 := L1) (L2 := L2) (l := { l with dat := bs }) rfl (l' := { l with dat := bs, dirty := true }) hset rfl rfl hbs hk
  refine ⟨_, fun ty => (h.fill hL hbs (cap := cap) hm hsrc ty).1, K.frozen_of hln, ⟨_, (K.cell_of hln).trans (lcells_dirty hbs)⟩, ha.trans a2⟩
/-- Write -/
def writeR (S : K.Dk) (C : Ch) (s : Int) (bs : K.Bl) (b : Nat) : Int × K.Dk × Ch :=
  if K.inD S.n s = true then
    (if bs.length = 512 then
      match lineAt C.L s with
      | some l => (0, S, { hitC C with L := dropL C.L s ++ [{ l with dat := bs, dirty := true }] })
      | none => if (roomR S (missC C)).1 = 0 then (0, (roomR S (missC C)).2.1, { (roomR S (missC C)).2.2 with L := (roomR S (missC C)).2.2.L ++ [⟨s.toNat, b, bs, true, isN C.notes s⟩] })
        else roomR S (missC C)
    else (32, S, C))
  else (31, S, C)
/-- where a write's bytes come from -/
def Src (w : World) (F : List Nat) (ao : Option Addr) (bs : K.Bl) : Prop := ∃ sb so, ao = some ⟨sb, so, none⟩ ∧ sb ∉ F ∧ sb < w.heap.size ∧ ∀ j v, (bs.map bv)[j]? = some v → w.cell? ⟨sb, so + j, none⟩ = some v
theorem Src.through {P' : Loc} {ao : Option Addr} {bs : K.Bl} (hs : Src w (P.fp C.L) ao bs) (ha : CAct w w' P P' C S' C') : ∃ a, ao = some a ∧ ∀ j v, (bs.map bv)[j]? = some v → w'.cell? (a.add j) = some v := by
  obtain ⟨sb, so, rfl, hf, hl, hc⟩ := hs
  refine ⟨_, rfl, fun j v hv => ?_⟩
  have h1 := hc j v hv
  have hb := ha.kp.block sb hl hf
  rw [add_plain]
  unfold World.cell? at h1 ⊢
  rw [hb]; exact h1
set_option maxHeartbeats 8000000 in
theorem write_c (h : RC w P S C) (hf : K.FsOk S.fs) (hq : S.q.length + dirtyN C.L < 1048576) (s : Int) {bs : K.Bl} (hlt : ∀ x ∈ bs, x < 256) {ao : Option Addr} {m cap : Nat} (hm : m = bs.length) (hml : m ≤ 140737488351232) (hsrc : m = 512 → Src w (P.fp C.L) ao bs) :
    Calls Tryz.prog 17 #[.pointer (some ⟨P.bc, 0, none⟩), .int .i64 s, .slice ao m cap] w fun r w' => ∃ b, r = .returned (.int .i64 (writeR S C s bs b).1) ∧ ∃ P', CAct w w' P P' C (writeR S C s bs b).2.1 (writeR S C s bs b).2.2 := by
  have hrf := refusal_c h s
  unfold writeR
  by_cases hi : K.inD S.n s = true
  · simp only [hi, if_true] at hrf ⊢
    obtain ⟨t, rfl, ht⟩ := inD_nat hi
    by_cases h512 : bs.length = 512
    · simp only [h512, if_true]
      obtain rfl : m = 512 := by omega
      have hbs : K.OkB bs := ⟨h512, hlt⟩
      have HSR := hsrc rfl
      have HSrc : Hid (Src w (P.fp C.L) ao bs) := HSR
      obtain ⟨sb, so, rfl, _⟩ := HSR
      have hn1 := h.rk.n1
      have hwf : I.wfK (t : Int) := K.wfI t (by omega)
      have HU : Hid (∀ w1, CAct w w1 P P C S C → Calls Tryz.prog 44 #[.pointer (some ⟨P.bc, 0, none⟩), .int .i64 t] w1 fun r w2 => r = .returned (linePtr (lineAt C.L t)) ∧ ∃ P', CAct w w2 P P' C S (useC C t)) := fun w1 ha => by
        refine (use_c ha.rc hwf).mono ?_
        rintro r w2 ⟨rfl, P', ha'⟩
        exact ⟨rfl, P', ha.trans ha'⟩
      cases hl : lineAt C.L t with
      | some l =>
        simp only [hl, linePtr] at HU ⊢
        have HC : Hid (∀ w1 P1, CAct w w1 P P1 C S (useC C t) → ∃ w5, (∀ ty, (Builtin.copy_ #[80, 80] ty #[.slice (some ⟨l.blk, 0, none⟩) 512 512, .slice (some ⟨sb, so, none⟩) 512 cap]).run Tryz.prog w1 = .ok (goInt 512) w5) ∧ w5.frozen? ⟨l.blk, 512, none⟩ = false ∧ (∃ x, w5.cell? ⟨l.blk, 512, none⟩ = some x) ∧ ∃ P', CAct w (w5.setCell ⟨l.blk, 512, none⟩ (.bool true)) P P' C S { hitC C with L := dropL C.L t ++ [{ l with dat := bs, dirty := true }] }) := fun w1 P1 ha => by
          obtain ⟨a, ea, hs⟩ := HSrc.out.through ha
          cases ea
          have hu : useC C t = { hitC C with L := dropL C.L t ++ [l] } := by unfold useC; rw [hl]
          rw [hu] at ha
          obtain ⟨w5, h1, h2, h3, h4⟩ := ha.rc.lay (L1 := dropL C.L t) (L2 := []) rfl hbs (cap := cap) rfl hs
          exact ⟨w5, h1, h2, h3, P1, ha.trans h4⟩
        have e1 := eql_lp_some
        clear h hl hf hq hsrc hm h512 hbs hml
        go_enter Tryz.func17, Tryz.ntmps17
        go_wp2_with (first | (go_at_call 43; refine hrf.mono ?_; clear hrf; rintro r w1 ⟨rfl, ha1⟩) | (go_at_call 44; refine (HU.out w1 ha1).mono ?_; clear HU; rintro r w2 ⟨rfl, P2, ha2⟩; obtain ⟨w5, hcp, f5, ⟨x5, k5⟩, ha5⟩ := HC.out w2 P2 ha2; clear HC))
        go_ret
        first | exact ⟨0, rfl, ha5⟩ | exact ⟨rfl, ha5⟩
      | none =>
        simp only [hl, linePtr] at HU ⊢
        have huse : useC C t = missC C := by unfold useC; rw [hl]
        rw [huse] at HU
        have hsd : (secs (missC C).L).Nodup := h.sd
        have hlim := h.lim
        obtain ⟨hh, hroom, htwo⟩ := room_ok (S := S) (C := missC C) hsd hlim.1 hlim.2.1
        have HM : Hid (∀ w1 P1, CAct w w1 P P1 C S (missC C) → Calls Tryz.prog 45 #[.pointer (some ⟨P.bc, 0, none⟩)] w1 fun r w2 => r = .returned (.int .i64 (roomR S (missC C)).1) ∧ ∃ P', CAct w w2 P P' C (roomR S (missC C)).2.1 (roomR S (missC C)).2.2) := fun w1 P1 ha => by
          have hr := room_c ha.rc hf hq
          rw [ha.bc] at hr
          refine hr.mono ?_
          rintro r w2 ⟨rfl, P', ha'⟩
          exact ⟨rfl, P', ha.trans ha'⟩
        have hnn : lineAt (missC C).L t = none := hl
        have hno := hh.sub t hnn
        have hnS := hh.n
        have hnt : (roomR S (missC C)).2.2.notes = C.notes := hh.notes
        have hmost : (roomR S (missC C)).2.2.most = C.most := hh.most
        generalize hR : roomR S (missC C) = R at *
        obtain ⟨e, S1, C1⟩ := R
        simp only at *
        have e1 := eql_lp_none
        rcases htwo with he | he
        · subst he
          simp only [if_true]
          have HAD : Hid (∀ w3 P3, CAct w w3 P P3 C S1 C1 → Calls Tryz.prog 46 #[.pointer (some ⟨P.bc, 0, none⟩), .int .i64 t] w3 fun r w4 => ∃ b, r = .returned (.pointer (some ⟨b, 0, none⟩)) ∧ ∃ w5, (∀ ty, (Builtin.copy_ #[80, 80] ty #[.slice (some ⟨b, 0, none⟩) 512 512, .slice (some ⟨sb, so, none⟩) 512 cap]).run Tryz.prog w4 = .ok (goInt 512) w5) ∧ w5.frozen? ⟨b, 512, none⟩ = false ∧ (∃ x, w5.cell? ⟨b, 512, none⟩ = some x) ∧ ∃ P', CAct w (w5.setCell ⟨b, 512, none⟩ (.bool true)) P P' C S1 { C1 with L := C1.L ++ [⟨t, b, bs, true, isN C.notes t⟩] }) := fun w3 P3 ha => by
            have had := addLine_c ha.rc (s := t) (by rw [hnS]; exact ht) hno (by rw [hmost]; exact hroom rfl)
            rw [ha.bc] at had
            refine had.mono ?_
            rintro r w4 ⟨b, P4, rfl, ha4⟩
            have hat := ha.trans ha4
            obtain ⟨a, ea, hs⟩ := HSrc.out.through hat
            cases ea
            obtain ⟨w5, h1, h2, h3, h4⟩ := ha4.rc.lay (L1 := C1.L) (L2 := []) (l := newLn t b (isN C1.notes t)) rfl hbs (cap := cap) rfl hs
            refine ⟨b, rfl, w5, h1, h2, h3, P4, ?_⟩
            have := hat.trans h4
            rw [← hnt]
            exact this
          clear h hl hf hq hh hroom hno hnS hnt hmost hR hnn hi hsd hsrc hm h512 hbs hml
          go_enter Tryz.func17, Tryz.ntmps17
          go_wp2_with (first | (go_at_call 43; refine hrf.mono ?_; clear hrf; rintro r w1 ⟨rfl, ha1⟩) | (go_at_call 44; refine (HU.out w1 ha1).mono ?_; clear HU; rintro r w2 ⟨rfl, P2, ha2⟩) | (go_at_call 45; refine (HM.out w2 P2 ha2).mono ?_; clear HM; rintro r w3 ⟨rfl, P3, ha3⟩; have had := HAD.out w3 P3 ha3; clear HAD) | (go_at_call 46; refine had.mono ?_; clear had; rintro r w4 ⟨b, rfl, w5, hcp, f5, ⟨x5, k5⟩, ha5⟩))
          go_ret
          exact ⟨b, rfl, ha5⟩
        · subst he
          simp only [show ((33 : Int) = 0) = False by simp, if_false]
          clear h hl hf hq hh hroom hno hnS hnt hmost hR hnn hi hsd hsrc hm h512 hbs hml
          go_enter Tryz.func17, Tryz.ntmps17
          go_wp2_with (first | (go_at_call 43; refine hrf.mono ?_; clear hrf; rintro r w1 ⟨rfl, ha1⟩) | (go_at_call 44; refine (HU.out w1 ha1).mono ?_; clear HU; rintro r w2 ⟨rfl, P2, ha2⟩) | (go_at_call 45; refine (HM.out w2 P2 ha2).mono ?_; clear HM; rintro r w3 ⟨rfl, ha3⟩))
          go_ret
          first | exact ⟨0, rfl, ha3⟩ | exact ⟨rfl, ha3⟩
    · simp only [h512, if_false]
      have hne : ¬ (m : Int) = 512 := by omega
      have hne' : ¬ m = 512 := by omega
      clear h hf hq hsrc
      go_enter Tryz.func17, Tryz.ntmps17
      go_wp2_with (go_at_call 43; refine hrf.mono ?_; clear hrf; rintro r w1 ⟨rfl, ha1⟩)
      go_ret
      first | exact ⟨0, rfl, P, ha1⟩ | exact ⟨rfl, P, ha1⟩
  · simp only [hi, if_false] at hrf ⊢
    clear h hf hq hsrc
    go_enter Tryz.func17, Tryz.ntmps17
    go_wp2_with (go_at_call 43; refine hrf.mono ?_; clear hrf; rintro r w1 ⟨rfl, ha1⟩)
    go_ret
    first | exact ⟨0, rfl, P, ha1⟩ | exact ⟨rfl, P, ha1⟩
end
end Go.Proofs.YtijimcjmpeakpaaGreat.C
