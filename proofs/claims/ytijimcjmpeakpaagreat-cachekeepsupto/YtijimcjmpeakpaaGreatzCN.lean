import Derived.Test.YtijimcjmpeakpaaGreatzCM
import Derived.Test.YtijimcjmpeakpaaGreatzCIm
import Derived.Test.YtijimcjmpeakpaaGreatzCIb
namespace Go.Proofs.YtijimcjmpeakpaaGreat.C
open Go.RowKit Go.Maps Go.Shelf Go.Sort Go.Proofs.YtijimcjmpeakpaaGreat
attribute [local go_sem] Oper.semAt_some
set_option linter.unusedVariables false
set_option linter.unusedSimpArgs false
set_option maxRecDepth 100000

/-- a line gives way -/
def gwR (S : K.Dk) (C : Ch) (l : Ln) : Int × K.Dk × Ch :=
  if l.dirty = true then
    (if K.wrE S l.sec l.dat = 0 then (0, K.wrS S l.sec l.dat, { C with L := dropL C.L l.sec, st := { C.st with written := K.inc C.st.written, evicted := K.inc C.st.evicted } }) else (33, K.wrS S l.sec l.dat, C))
  else (0, S, { C with L := dropL C.L l.sec, st := { C.st with evicted := K.inc C.st.evicted } })
/-- room is made -/
def roomR (S : K.Dk) (C : Ch) : Int × K.Dk × Ch :=
  if C.L.length < C.most then (0, S, C)
  else match C.L.find? mayGo with
    | some l => gwR S C l
    | none => if (flushR S C).1 = 0 then (match (flushR S C).2.2.L.find? mayGo with
        | some l => gwR (flushR S C).2.1 (flushR S C).2.2 l
        | none => (0, (flushR S C).2.1, (flushR S C).2.2))
      else flushR S C
section
variable {w w' : World} {P : Loc} {S S' : K.Dk} {C C' : Ch}
theorem gw_c (h : RC w P S C) (hf : K.FsOk S.fs) (hq : S.q.length < 1048576) {l : Ln} (hl : l ∈ C.L) :
    Calls Tryz.prog 76 #[.pointer (some ⟨P.bc, 0, none⟩), .int .i64 l.sec] w fun r w' => r = .returned (.int .i64 (gwR S C l).1) ∧ ∃ P', CAct w w' P P' C (gwR S C l).2.1 (gwR S C l).2.2 := by
  obtain ⟨L1, L2, hL, _, _⟩ := lineAt_split (h.atLine hl)
  have hg := giveWay_c h hf hq hL
  have hd := h.sd
  rw [hL] at hd
  have hdr : dropL C.L l.sec = L1 ++ L2 := by rw [hL]; exact dropL_split hd
  unfold gwR
  rw [hdr]
  unfold gwE gwS gwC at hg
  cases hdy : l.dirty with
  | false =>
    simp only [hdy, Bool.false_eq_true, if_false] at hg ⊢
    exact hg
  | true =>
    simp only [hdy, if_true] at hg ⊢
    by_cases he : K.wrE S l.sec l.dat = 0
    · simp only [he, if_true] at hg ⊢
      exact hg
    · simp only [he, if_false] at hg ⊢
      exact hg
theorem find_mem {L : List Ln} {p : Ln → Bool} {l : Ln} (h : L.find? p = some l) : l ∈ L ∧ p l = true := ⟨List.mem_of_find?_eq_some h, List.find?_some h⟩
theorem gw_two (h : RC w P S C) {l : Ln} (hl : l ∈ C.L) : (gwR S C l).1 = 0 ∨ (gwR S C l).1 = 33 := by
  unfold gwR
  split
  · split
    · exact .inl rfl
    · exact .inr rfl
  · exact .inl rfl
theorem RC.most0 (h : RC w P S C) : w.cell? ⟨P.bc, 1, none⟩ = some (.int .i64 C.most) := h.c 1
theorem quiet_len (h : RC w P S C) (q : Nat) (ty : TypeId) : (Builtin.len_ #[TLm] ty #[.map (some P.bl)]).run Tryz.prog (w.drewN q) = .ok (.int .i64 C.L.length) (w.drewN q) := by
  have hr : RC (w.drewN q) P S C := h.same fun _ _ => rfl
  exact hr.mapLen ty
set_option maxHeartbeats 4000000 in
theorem room_c (h : RC w P S C) (hf : K.FsOk S.fs) (hq : S.q.length + dirtyN C.L < 1048576) :
    Calls Tryz.prog 45 #[.pointer (some ⟨P.bc, 0, none⟩)] w fun r w' => r = .returned (.int .i64 (roomR S C).1) ∧ ∃ P', CAct w w' P P' C (roomR S C).2.1 (roomR S C).2.2 := by
  have c3 : w.cell? ⟨P.bc, 3, none⟩ = some (.map (some P.bl)) := h.c 3
  have c1 := h.most0
  have hlim := h.lim
  have hln := fun q => quiet_len h q 3
  have HR : Hid (∀ q, RC (w.drewN q) P S C) := fun q => h.same fun _ _ => rfl
  have HDW : Hid (∀ q w' P' S' C', CAct (w.drewN q) w' P P' C S' C' → CAct w w' P P' C S' C') := fun q w' P' S' C' ha => ⟨ha.rc, ⟨ha.kp.os, ha.kp.tape, ha.kp.output, ha.kp.size, ha.kp.block⟩, ha.sub, ha.bc, ha.bd⟩
  by_cases hfull : C.L.length < C.most
  · have hz : (C.L.length : Int) < (C.most : Int) := by omega
    unfold roomR
    rw [if_pos hfull]
    have H0 : Hid (CAct w w P P C S C) := CAct.refl h
    clear h
    go_enter Tryz.func45, Tryz.ntmps45
    go_wp2
    go_quiet (fail)
    go_wp2
    go_ret
    exact ⟨rfl, P, HDW.out _ _ _ _ _ (CAct.refl (HR.out _))⟩
  · have hz : ¬ (C.L.length : Int) < (C.most : Int) := by omega
    have hsd : (secs C.L).Nodup := h.sd
    obtain ⟨kf, cf⟩ := flush_ok (S := S) hsd
    -- the first question
    have HL1 : Hid (∀ q, Calls Tryz.prog 57 #[.pointer (some ⟨P.bc, 0, none⟩), .func (.func 75) #[] #[]] (w.drewN q) fun r w1 => r = .returned (.tuple #[.int .i64 (secOf (C.L.find? mayGo)), .bool (C.L.find? mayGo).isSome]) ∧ Below w.heap.size w w1) := fun q => by
      refine (least_may (HR.out q)).mono ?_
      rintro r w1 ⟨rfl, hb⟩
      exact ⟨rfl, ⟨hb.os, hb.tape, hb.output, hb.size, hb.block⟩⟩
    have HRL : Hid (∀ w1, Below w.heap.size w w1 → RC w1 P S C) := fun w1 hb => h.later hb
    have HFL : Hid (∀ w1 w' P' S' C', Below w.heap.size w w1 → CAct w1 w' P P' C S' C' → CAct w w' P P' C S' C') := fun w1 w' P' S' C' hb ha => ha.from_later hb h.lt
    unfold roomR
    rw [if_neg hfull]
    cases hfd : C.L.find? mayGo with
    | some l =>
      simp only [hfd, secOf, Option.isSome_some] at HL1 ⊢
      have hl := (find_mem hfd).1
      have HG : Hid (∀ w1, Below w.heap.size w w1 → Calls Tryz.prog 76 #[.pointer (some ⟨P.bc, 0, none⟩), .int .i64 l.sec] w1 fun r w' => r = .returned (.int .i64 (gwR S C l).1) ∧ ∃ P', CAct w w' P P' C (gwR S C l).2.1 (gwR S C l).2.2) := fun w1 hb => by
        refine (gw_c (HRL.out w1 hb) hf (by omega) hl).mono ?_
        rintro r w' ⟨rfl, P', ha⟩
        exact ⟨rfl, P', HFL.out w1 w' P' _ _ hb ha⟩
      clear h kf cf HR HRL HFL HDW hl hfd hsd
      go_enter Tryz.func45, Tryz.ntmps45
      go_wp2
      go_quiet (fail)
      go_wp2_with (first | (go_at_call 57; refine (HL1.out _).mono ?_; clear HL1; rintro r w1 ⟨rfl, hb1⟩) | (go_at_call 76; refine (HG.out w1 hb1).mono ?_; rintro r w2 ⟨rfl, ha⟩))
      go_ret
      exact ⟨rfl, ha⟩
    | none =>
      simp only [hfd, secOf, Option.isSome_none] at HL1 ⊢
      have HF : Hid (∀ w1, Below w.heap.size w w1 → Calls Tryz.prog 24 #[.pointer (some ⟨P.bc, 0, none⟩)] w1 fun r w' => r = .returned (.int .i64 (flushR S C).1) ∧ ∃ P', CAct w w' P P' C (flushR S C).2.1 (flushR S C).2.2) := fun w1 hb => by
        refine (flush_c (HRL.out w1 hb) hf hq).mono ?_
        rintro r w' ⟨rfl, P', ha⟩
        exact ⟨rfl, P', HFL.out w1 w' P' _ _ hb ha⟩
      generalize hr : flushR S C = r at *
      obtain ⟨e, S1, C1⟩ := r
      simp only at kf cf HF ⊢
      rcases kf.two with he | he
      · subst he
        simp only [if_true]
        have hphi := kf.phi
        rw [if_pos rfl] at hphi
        have hlen : C1.L.length = C.L.length := by have := congrArg List.length kf.sec; simpa [secs] using this
        obtain ⟨l, hfd1⟩ : ∃ l, C1.L.find? mayGo = some l := by
          cases hL : C1.L with
          | nil => rw [hL] at hlen; simp at hlen; omega
          | cons x L =>
            refine ⟨x, ?_⟩
            have := cf rfl x (by rw [hL]; simp)
            simp [mayGo, this]
        rw [hfd1]
        simp only
        have hl := (find_mem hfd1).1
        have HL2 : Hid (∀ (w2 : World) (P2 : Loc), CAct w w2 P P2 C S1 C1 → Calls Tryz.prog 57 #[.pointer (some ⟨P.bc, 0, none⟩), .func (.func 75) #[] #[]] w2 fun r w3 => r = .returned (.tuple #[.int .i64 l.sec, .bool true]) ∧ Calls Tryz.prog 76 #[.pointer (some ⟨P.bc, 0, none⟩), .int .i64 l.sec] w3 fun r w' => r = .returned (.int .i64 (gwR S1 C1 l).1) ∧ ∃ P', CAct w w' P P' C (gwR S1 C1 l).2.1 (gwR S1 C1 l).2.2) := fun w2 P2 ha => by
          have hlm := least_may ha.rc
          rw [ha.bc, hfd1] at hlm
          refine hlm.mono ?_
          rintro r w3 ⟨rfl, hb⟩
          have hg := gw_c (ha.rc.later hb) (kf.fs hf) (by omega) hl
          rw [ha.bc] at hg
          refine ⟨rfl, hg.mono ?_⟩
          rintro r w' ⟨rfl, P', ha'⟩
          exact ⟨rfl, P', ha.trans (ha'.from_later hb ha.rc.lt)⟩
        clear h kf cf HR HRL HFL HDW hl hfd hfd1 hsd hphi hlen hr
        go_enter Tryz.func45, Tryz.ntmps45
        go_wp2
        go_quiet (fail)
        go_wp2_with (first | (go_at_call 57; refine (HL1.out _).mono ?_; clear HL1; rintro r w1 ⟨rfl, hb1⟩) | (go_at_call 24; refine (HF.out w1 hb1).mono ?_; clear HF; rintro r w2 ⟨rfl, P2, ha2⟩) | (go_at_call 57; refine (HL2.out w2 P2 ha2).mono ?_; clear HL2; rintro r w3 ⟨rfl, hg3⟩) | (go_at_call 76; refine hg3.mono ?_; rintro r w4 ⟨rfl, ha⟩))
        go_ret
        exact ⟨rfl, ha⟩
      · subst he
        rw [if_neg (by decide)]
        clear h kf cf HR HRL HFL HDW hfd hsd hr
        go_enter Tryz.func45, Tryz.ntmps45
        go_wp2
        go_quiet (fail)
        go_wp2_with (first | (go_at_call 57; refine (HL1.out _).mono ?_; clear HL1; rintro r w1 ⟨rfl, hb1⟩) | (go_at_call 24; refine (HF.out w1 hb1).mono ?_; clear HF; rintro r w2 ⟨rfl, P2, ha2⟩))
        go_ret
        exact ⟨rfl, P2, ha2⟩
end
end Go.Proofs.YtijimcjmpeakpaaGreat.C
