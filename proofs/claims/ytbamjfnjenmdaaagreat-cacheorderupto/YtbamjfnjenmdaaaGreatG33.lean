import Derived.Test.YtbamjfnjenmdaaaGreatzCM
import Derived.Test.YtbamjfnjenmdaaaGreatzCIm
import Derived.Test.YtbamjfnjenmdaaaGreatzCIb
import Derived.Laws.CopyRow
namespace Go.Proofs.YtbamjfnjenmdaaaGreat.C
open Go.RowKit Go.Maps Go.Shelf Go.Sort Go.Proofs.YtbamjfnjenmdaaaGreat
attribute [local go_sem] Oper.semAt_some
set_option linter.unusedVariables false
set_option linter.unusedSimpArgs false
set_option maxRecDepth 100000

/-- a line gives way -/
def gwR (S : K.Dk) (C : Ch) (l : Ln) : Int × K.Dk × Ch :=
  if l.dirty = true then
    (if K.wrE S l.sec l.dat = 0 then (0, K.wrS S l.sec l.dat, { C with L := dropL C.L l.sec, st := { C.st with written := K.inc C.st.written, evicted := K.inc C.st.evicted } }) else (33, K.wrS S l.sec l.dat, C))
  else (0, S, { C with L := dropL C.L l.sec, st := { C.st with evicted := K.inc C.st.evicted } })
/-- room is made -/
def roomR (S : K.Dk) (C : Ch) : Int × K.Dk × Ch :=
  if C.L.length < C.most then (0, S, C)
  else match C.L.find? mayGo with
    | some l => gwR S C l
    | none => if (flushR S C).1 = 0 then (match (flushR S C).2.2.L.find? mayGo with
        | some l => gwR (flushR S C).2.1 (flushR S C).2.2 l
        | none => (0, (flushR S C).2.1, (flushR S C).2.2))
      else flushR S C
section
variable {w w' : World} {P : Loc} {S S' : K.Dk} {C C' : Ch}
theorem gw_c (h : RC w P S C) (hf : K.FsOk S.fs) (hq : S.q.length < 1048576) {l : Ln} (hl : l ∈ C.L) :
    Calls Tryz.prog 54 #[.pointer (some ⟨P.bc, 0, none⟩), .int .i64 l.sec] w fun r w' => r = .returned (.int .i64 (gwR S C l).1) ∧ ∃ P', CAct w w' P P' C (gwR S C l).2.1 (gwR S C l).2.2 := by
  obtain ⟨L1, L2, hL, _, _⟩ := lineAt_split (h.atLine hl)
  have hg := giveWay_c h hf hq hL
  have hd := h.sd
  rw [hL] at hd
  have hdr : dropL C.L l.sec = L1 ++ L2 := by rw [hL]; exact dropL_split hd
  unfold gwR
  rw [hdr]
  unfold gwE gwS gwC at hg
  cases hdy : l.dirty with
  | false =>
    simp only [hdy, Bool.false_eq_true, if_false] at hg ⊢
    exact hg
  | true =>
    simp only [hdy, if_true] at hg ⊢
    by_cases he : K.wrE S l.sec l.dat = 0
    · simp only [he, if_true] at hg ⊢
      exact hg
    · simp only [he, if_false] at hg ⊢
      exact hg
theorem find_mem {L : List Ln} {p : Ln → Bool} {l : Ln} (h : L.find? p = some l) : l ∈ L ∧ p l = true := ⟨List.mem_of_find?_eq_some h, List.find?_some h⟩
theorem gw_two (h : RC w P S C) {l : Ln} (hl : l ∈ C.L) : (gwR S C l).1 = 0 ∨ (gwR S C l).1 = 33 := by
  unfold gwR
  split
  · split
    · exact .inl rfl
    · exact .inr rfl
  · exact .inl rfl
theorem RC.most0 (h : RC w P S C) : w.cell? ⟨P.bc, 1, none⟩ = some (.int .i64 C.most) := h.c 1
theorem quiet_len (h : RC w P S C) (q : Nat) (ty : TypeId) : (Builtin.len_ #[TLm] ty #[.map (some P.bl)]).run Tryz.prog (w.drewN q) = .ok (.int .i64 C.L.length) (w.drewN q) := by
  have hr : RC (w.drewN q) P S C := h.same fun _ _ => rfl
  exact hr.mapLen ty
set_option maxHeartbeats 4000000 in
theorem room_c (h : RC w P S C) (hf : K.FsOk S.fs) (hq : S.q.length + dirtyN C.L < 1048576) :
    Calls Tryz.prog 29 #[.pointer (some ⟨P.bc, 0, none⟩)] w fun r w' => r = .returned (.int .i64 (roomR S C).1) ∧ ∃ P', CAct w w' P P' C (roomR S C).2.1 (roomR S C).2.2 := by
  have c3 : w.cell? ⟨P.bc, 3, none⟩ = some (.map (some P.bl)) := h.c 3
  have c1 := h.most0
  have hlim := h.lim
  have hln := fun q => quiet_len h q 3
  have HR : Hid (∀ q, RC (w.drewN q) P S C) := fun q => h.same fun _ _ => rfl
  have HDW : Hid (∀ q w' P' S' C', CAct (w.drewN q) w' P P' C S' C' → CAct w w' P P' C S' C') := fun q w' P' S' C' ha => ⟨ha.rc, ⟨ha.kp.os, ha.kp.tape, ha.kp.output, ha.kp.size, ha.kp.block⟩, ha.sub, ha.bc, ha.bd⟩
  by_cases hfull : C.L.length < C.most
  · have hz : (C.L.length : Int) < (C.most : Int) := by omega
    unfold roomR
    rw [if_pos hfull]
    have H0 : Hid (CAct w w P P C S C) := CAct.refl h
    clear h
    go_enter Tryz.func29, Tryz.ntmps29
    go_wp2
    go_quiet (fail)
    go_wp2
    go_ret
    exact ⟨rfl, P, HDW.out _ _ _ _ _ (CAct.refl (HR.out _))⟩
  · have hz : ¬ (C.L.length : Int) < (C.most : Int) := by omega
    have hsd : (secs C.L).Nodup := h.sd
    obtain ⟨kf, cf⟩ := flush_ok (S := S) hsd
    -- the first question
    have HL1 : Hid (∀ q, Calls Tryz.prog 41 #[.pointer (some ⟨P.bc, 0, none⟩), .func (.func 53) #[] #[]] (w.drewN q) fun r w1 => r = .returned (.tuple #[.int .i64 (secOf (C.L.find? mayGo)), .bool (C.L.find? mayGo).isSome]) ∧ Below w.heap.size w w1) := fun q => by
      refine (least_may (HR.out q)).mono ?_
      rintro r w1 ⟨rfl, hb⟩
      exact ⟨rfl, ⟨hb.os, hb.tape, hb.output, hb.size, hb.block⟩⟩
    have HRL : Hid (∀ w1, Below w.heap.size w w1 → RC w1 P S C) := fun w1 hb => h.later hb
    have HFL : Hid (∀ w1 w' P' S' C', Below w.heap.size w w1 → CAct w1 w' P P' C S' C' → CAct w w' P P' C S' C') := fun w1 w' P' S' C' hb ha => ha.from_later hb h.lt
    unfold roomR
    rw [if_neg hfull]
    cases hfd : C.L.find? mayGo with
    | some l =>
      simp only [hfd, secOf, Option.isSome_some] at HL1 ⊢
      have hl := (find_mem hfd).1
      have HG : Hid (∀ w1, Below w.heap.size w w1 → Calls Tryz.prog 54 #[.pointer (some ⟨P.bc, 0, none⟩), .int .i64 l.sec] w1 fun r w' => r = .returned (.int .i64 (gwR S C l).1) ∧ ∃ P', CAct w w' P P' C (gwR S C l).2.1 (gwR S C l).2.2) := fun w1 hb => by
        refine (gw_c (HRL.out w1 hb) hf (by omega) hl).mono ?_
        rintro r w' ⟨rfl, P', ha⟩
        exact ⟨rfl, P', HFL.out w1 w' P' _ _ hb ha⟩
      clear h kf cf HR HRL HFL HDW hl hfd hsd
      go_enter Tryz.func29, Tryz.ntmps29
      go_wp2
      go_quiet (fail)
      go_wp2_with (first | (go_at_call 41; refine (HL1.out _).mono ?_; clear HL1; rintro r w1 ⟨rfl, hb1⟩) | (go_at_call 54; refine (HG.out w1 hb1).mono ?_; rintro r w2 ⟨rfl, ha⟩))
      go_ret
      exact ⟨rfl, ha⟩
    | none =>
      simp only [hfd, secOf, Option.isSome_none] at HL1 ⊢
      have HF : Hid (∀ w1, Below w.heap.size w w1 → Calls Tryz.prog 13 #[.pointer (some ⟨P.bc, 0, none⟩)] w1 fun r w' => r = .returned (.int .i64 (flushR S C).1) ∧ ∃ P', CAct w w' P P' C (flushR S C).2.1 (flushR S C).2.2) := fun w1 hb => by
        refine (flush_c (HRL.out w1 hb) hf hq).mono ?_
        rintro r w' ⟨rfl, P', ha⟩
        exact ⟨rfl, P', HFL.out w1 w' P' _ _ hb ha⟩
      generalize hr : flushR S C = r at *
      obtain ⟨e, S1, C1⟩ := r
      simp only at kf cf HF ⊢
      rcases kf.two with he | he
      · subst he
        simp only [if_true]
        have hphi := kf.phi
        rw [if_pos rfl] at hphi
        have hlen : C1.L.length = C.L.length := by have := congrArg List.length kf.sec; simpa [secs] using this
        obtain ⟨l, hfd1⟩ : ∃ l, C1.L.find? mayGo = some l := by
          cases hL : C1.L with
          | nil => rw [hL] at hlen; simp at hlen; omega
          | cons x L =>
            refine ⟨x, ?_⟩
            have := cf rfl x (by rw [hL]; simp)
            simp [mayGo, this]
        rw [hfd1]
        simp only
        have hl := (find_mem hfd1).1
        have HL2 : Hid (∀ (w2 : World) (P2 : Loc), CAct w w2 P P2 C S1 C1 → Calls Tryz.prog 41 #[.pointer (some ⟨P.bc, 0, none⟩), .func (.func 53) #[] #[]] w2 fun r w3 => r = .returned (.tuple #[.int .i64 l.sec, .bool true]) ∧ Calls Tryz.prog 54 #[.pointer (some ⟨P.bc, 0, none⟩), .int .i64 l.sec] w3 fun r w' => r = .returned (.int .i64 (gwR S1 C1 l).1) ∧ ∃ P', CAct w w' P P' C (gwR S1 C1 l).2.1 (gwR S1 C1 l).2.2) := fun w2 P2 ha => by
          have hlm := least_may ha.rc
          rw [ha.bc, hfd1] at hlm
          refine hlm.mono ?_
          rintro r w3 ⟨rfl, hb⟩
          have hg := gw_c (ha.rc.later hb) (kf.fs hf) (by omega) hl
          rw [ha.bc] at hg
          refine ⟨rfl, hg.mono ?_⟩
          rintro r w' ⟨rfl, P', ha'⟩
          exact ⟨rfl, P', ha.trans (ha'.from_later hb ha.rc.lt)⟩
        clear h kf cf HR HRL HFL HDW hl hfd hfd1 hsd hphi hlen hr
        go_enter Tryz.func29, Tryz.ntmps29
        go_wp2
        go_quiet (fail)
        go_wp2_with (first | (go_at_call 41; refine (HL1.out _).mono ?_; clear HL1; rintro r w1 ⟨rfl, hb1⟩) | (go_at_call 13; refine (HF.out w1 hb1).mono ?_; clear HF; rintro r w2 ⟨rfl, P2, ha2⟩) | (go_at_call 41; refine (HL2.out w2 P2 ha2).mono ?_; clear HL2; rintro r w3 ⟨rfl, hg3⟩) | (go_at_call 54; refine hg3.mono ?_; rintro r w4 ⟨rfl, ha⟩))
        go_ret
        exact ⟨rfl, ha⟩
      · subst he
        rw [if_neg (by decide)]
        clear h kf cf HR HRL HFL HDW hfd hsd hr
        go_enter Tryz.func29, Tryz.ntmps29
        go_wp2
        go_quiet (fail)
        go_wp2_with (first | (go_at_call 41; refine (HL1.out _).mono ?_; clear HL1; rintro r w1 ⟨rfl, hb1⟩) | (go_at_call 13; refine (HF.out w1 hb1).mono ?_; clear HF; rintro r w2 ⟨rfl, P2, ha2⟩))
        go_ret
        exact ⟨rfl, P2, ha2⟩
end
end Go.Proofs.YtbamjfnjenmdaaaGreat.C

namespace Go.Proofs.YtbamjfnjenmdaaaGreat.C
open Go.RowKit Go.Maps Go.Shelf Go.Sort Go.Proofs.YtbamjfnjenmdaaaGreat
attribute [local go_sem] Oper.semAt_some
set_option linter.unusedVariables false
set_option linter.unusedSimpArgs false
set_option maxRecDepth 100000

/-- what stays so through any call that may write lines back or give them up -/
structure Held (S : K.Dk) (C : Ch) (S' : K.Dk) (C' : Ch) : Prop where
  fs : K.FsOk S.fs → K.FsOk S'.fs
  n : S'.n = S.n
  most : C'.most = C.most
  notes : C'.notes = C.notes
  phi : S'.q.length + dirtyN C'.L ≤ S.q.length + dirtyN C.L + 1
  sub : ∀ s : Int, lineAt C.L s = none → lineAt C'.L s = none
theorem wbC_most (S : K.Dk) (C : Ch) (s : Int) : (wbC S C s).most = C.most ∧ (wbC S C s).notes = C.notes := by
  unfold wbC
  split
  · split <;> exact ⟨rfl, rfl⟩
  · exact ⟨rfl, rfl⟩
theorem backs_most : ∀ (ks : List Int) (S : K.Dk) (C : Ch), (backs ks S C).2.2.most = C.most ∧ (backs ks S C).2.2.notes = C.notes
  | [], S, C => ⟨rfl, rfl⟩
  | s :: ks, S, C => by
    rw [backs_cons]
    have h := wbC_most S C s
    split
    · have := backs_most ks (wbS S C s) (wbC S C s)
      exact ⟨this.1.trans h.1, this.2.trans h.2⟩
    · exact h
theorem settle_most (ks : List Int) (S : K.Dk) (C : Ch) : (settleR ks S C).2.2.most = C.most ∧ (settleR ks S C).2.2.notes = C.notes := by
  unfold settleR
  split
  · exact backs_most ks S C
  · exact backs_most ks S C
theorem flush_most (S : K.Dk) (C : Ch) : (flushR S C).2.2.most = C.most ∧ (flushR S C).2.2.notes = C.notes := by
  unfold flushR
  have h1 := settle_most (dlL isData C.L) S C
  split
  · split
    · exact h1
    · have h2 := settle_most (dlL isNoted (settleR (dlL isData C.L) S C).2.2.L) (settleR (dlL isData C.L) S C).2.1 (settleR (dlL isData C.L) S C).2.2
      exact ⟨h2.1.trans h1.1, h2.2.trans h1.2⟩
  · exact h1
theorem none_iff {L : List Ln} {s : Int} : lineAt L s = none ↔ s ∉ secs L := by
  constructor
  · intro h hm
    obtain ⟨l, hl, e⟩ := List.mem_map.1 hm
    exact lineAt_none h l hl e
  · intro h
    cases e : lineAt L s with
    | none => rfl
    | some l => exact absurd (List.mem_map.2 ⟨l, (lineAt_mem e).1, (lineAt_mem e).2⟩) h
theorem flush_held {S : K.Dk} {C : Ch} (hsd : (secs C.L).Nodup) : Held S C (flushR S C).2.1 (flushR S C).2.2 := by
  obtain ⟨k, _⟩ := flush_ok (S := S) hsd
  have hm := flush_most S C
  refine ⟨k.fs, k.n, hm.1, hm.2, ?_, fun s hs => ?_⟩
  · have := k.phi; split at this <;> omega
  · rw [none_iff, k.sec, ← none_iff]; exact hs
theorem dirtyN_drop (L : List Ln) (s : Int) : dirtyN (dropL L s) ≤ dirtyN L := by
  unfold dirtyN dropL
  rw [List.filter_filter]
  have : (fun a : Ln => a.dirty && decide ((a.sec : Int) ≠ s)) = fun a => decide ((a.sec : Int) ≠ s) && a.dirty := by funext a; rw [Bool.and_comm]
  rw [this, ← List.filter_filter]
  exact List.length_filter_le _ _
theorem dirtyN_drop_dirty {L : List Ln} {l : Ln} (hl : l ∈ L) (hd : l.dirty = true) : dirtyN (dropL L l.sec) + 1 ≤ dirtyN L := by
  induction L with
  | nil => cases hl
  | cons x L ih =>
    have e1 : dropL (x :: L) l.sec = if (x.sec : Int) ≠ l.sec then x :: dropL L l.sec else dropL L l.sec := by
      unfold dropL
      rw [List.filter_cons]
      by_cases h : (x.sec : Int) ≠ l.sec <;> simp [h]
    have e2 : ∀ (y : Ln) (M : List Ln), dirtyN (y :: M) = (if y.dirty = true then 1 else 0) + dirtyN M := fun y M => by
      unfold dirtyN
      rw [List.filter_cons]
      cases y.dirty <;> simp <;> omega
    rw [e1, e2]
    rcases List.mem_cons.1 hl with rfl | hl
    · rw [if_neg (by simp)]
      have := dirtyN_drop L l.sec
      rw [if_pos hd]
      omega
    · have := ih hl
      split
      · rw [e2]; omega
      · omega
theorem drop_sub (L : List Ln) (s t : Int) (h : lineAt L t = none) : lineAt (dropL L s) t = none := by
  rw [none_iff] at h ⊢
  intro hm
  obtain ⟨l, hl, e⟩ := List.mem_map.1 hm
  exact h (List.mem_map.2 ⟨l, (List.mem_filter.1 hl).1, e⟩)
theorem gw_held {S : K.Dk} {C : Ch} {l : Ln} (hl : l ∈ C.L) : Held S C (gwR S C l).2.1 (gwR S C l).2.2 ∧ ((gwR S C l).1 = 0 → (gwR S C l).2.2.L = dropL C.L l.sec) := by
  unfold gwR
  by_cases hd : l.dirty = true
  · rw [if_pos hd]
    have hq := K.wrS_q S l.sec l.dat
    have hdr := dirtyN_drop_dirty hl hd
    split
    · exact ⟨⟨fun hf => K.wrS_ok hf _ _, wrS_n _ _ _, rfl, rfl, by simp only; omega, fun s hs => drop_sub _ _ _ hs⟩, fun _ => rfl⟩
    · exact ⟨⟨fun hf => K.wrS_ok hf _ _, wrS_n _ _ _, rfl, rfl, by simp only; omega, fun s hs => hs⟩, fun h => by simp at h⟩
  · rw [if_neg hd]
    have hdr := dirtyN_drop C.L l.sec
    exact ⟨⟨id, rfl, rfl, rfl, by simp only; omega, fun s hs => drop_sub _ _ _ hs⟩, fun _ => rfl⟩
theorem dropL_len {L : List Ln} (hd : (secs L).Nodup) {l : Ln} (hl : l ∈ L) : (dropL L l.sec).length + 1 = L.length := by
  obtain ⟨L1, L2, hL, _, _⟩ := lineAt_split (at_line hd hl)
  have hd' := hd
  rw [hL] at hd'
  rw [hL, dropL_split hd']
  simp
  omega
theorem room_ok {S : K.Dk} {C : Ch} (hsd : (secs C.L).Nodup) (hlen : C.L.length ≤ C.most) (hm1 : 1 ≤ C.most) : Held S C (roomR S C).2.1 (roomR S C).2.2 ∧ ((roomR S C).1 = 0 → (roomR S C).2.2.L.length < C.most) ∧ ((roomR S C).1 = 0 ∨ (roomR S C).1 = 33) := by
  unfold roomR
  by_cases hfull : C.L.length < C.most
  · rw [if_pos hfull]
    exact ⟨⟨id, rfl, rfl, rfl, by simp only; omega, fun s hs => hs⟩, fun _ => hfull, .inl rfl⟩
  · rw [if_neg hfull]
    have two : ∀ (S : K.Dk) (C : Ch) (l : Ln), (gwR S C l).1 = 0 ∨ (gwR S C l).1 = 33 := fun S C l => by
      unfold gwR
      split
      · split
        · exact .inl rfl
        · exact .inr rfl
      · exact .inl rfl
    cases hfd : C.L.find? mayGo with
    | some l =>
      simp only
      have hl := (find_mem hfd).1
      obtain ⟨h1, h2⟩ := gw_held (S := S) hl
      refine ⟨h1, fun h0 => ?_, two _ _ _⟩
      rw [h2 h0]
      have := dropL_len hsd hl
      omega
    | none =>
      simp only
      obtain ⟨k, c⟩ := flush_ok (S := S) hsd
      have hh := flush_held (S := S) hsd
      split
      · rename_i h0
        have hlen1 : (flushR S C).2.2.L.length = C.L.length := by have := congrArg List.length k.sec; simpa [secs] using this
        have hphi := k.phi
        rw [if_pos h0] at hphi
        have hsd1 : (secs (flushR S C).2.2.L).Nodup := by rw [k.sec]; exact hsd
        obtain ⟨l, hfd1⟩ : ∃ l, (flushR S C).2.2.L.find? mayGo = some l := by
          cases hL : (flushR S C).2.2.L with
          | nil => rw [hL] at hlen1; simp at hlen1; omega
          | cons x L =>
            refine ⟨x, ?_⟩
            have := c h0 x (by rw [hL]; simp)
            simp [mayGo, this]
        rw [hfd1]
        simp only
        have hl := (find_mem hfd1).1
        obtain ⟨h1, h2⟩ := gw_held (S := (flushR S C).2.1) hl
        have hp := h1.phi
        refine ⟨⟨fun hf => h1.fs (k.fs hf), h1.n.trans k.n, h1.most.trans hh.most, h1.notes.trans hh.notes, by omega, fun s hs => h1.sub s (hh.sub s hs)⟩, fun e0 => ?_, two _ _ _⟩
        rw [h2 e0]
        have := dropL_len hsd1 hl
        omega
      · rename_i h0
        exact ⟨hh, fun e => absurd e h0, k.two⟩
section
variable {w w' : World} {P : Loc} {S S' : K.Dk} {C C' : Ch}
/-- bytes are laid into a line -/
theorem RC.fill (h : RC w P S C) {L1 L2 : List Ln} {l : Ln} (hL : C.L = L1 ++ l :: L2) {bs : K.Bl} (hbs : K.OkB bs) {a : Addr} {m cap : Nat} (hm : m = 512) (hsrc : ∀ j v, (bs.map bv)[j]? = some v → w.cell? (a.add j) = some v) (ty : TypeId) :
    (Builtin.copy_ #[44, 44] ty #[.slice (some ⟨l.blk, 0, none⟩) 512 512, .slice (some a) m cap]).run Tryz.prog w = .ok (goInt 512) (w.setRow l.blk (lcells { l with dat := bs })) ∧ CAct w (w.setRow l.blk (lcells { l with dat := bs })) P P C S { C with L := L1 ++ { l with dat := bs } :: L2 } := by
  have hl : l ∈ C.L := by rw [hL]; simp
  have hok := (h.ok l hl).2
  have hlen : (bs.map bv).length = 512 := by rw [List.length_map]; exact hbs.len
  have hcl : (lcells l).size = 514 := by unfold lcells; simp [hok.len]
  have h1 := run_copy_row (P := Tryz.prog) w 44 44 ty 5 l.blk 0 512 512 a m cap (lcells l) TLn (bs.map bv) Tryz.underlying44 K.sizeU8 (h.ln l hl) (by rw [hlen, hm]; rfl) hsrc (by rw [hlen, hcl]; decide) (K.Lc_one' bs)
  rw [hlen] at h1
  have e : ((lcells l).toList.take 0 ++ bs.map bv ++ (lcells l).toList.drop (0 + 512)).toArray = lcells { l with dat := bs } := by
    unfold lcells
    simp only [List.take_zero, List.nil_append, Nat.zero_add]
    rw [List.drop_append_of_le_length (by simp [hok.len]), List.drop_of_length_le (by simp [hok.len])]
    rfl
  rw [e] at h1
  refine ⟨h1, h.line hL (l' := { l with dat := bs }) (setRow_heap w l.blk _ _ TLn _ (h.ln l hl)) rfl rfl hbs ⟨rfl, rfl, rfl, by simp [World.setRow], fun i hi hn => setRow_other w l.blk i _ (by simpa using hn)⟩⟩
end
end Go.Proofs.YtbamjfnjenmdaaaGreat.C
