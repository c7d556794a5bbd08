import Derived.Test.YtlacligofhinmaaGreatV34
namespace Go.Proofs.YtlacligofhinmaaGreat.C
open Go.RowKit Go.Maps Go.Shelf Go.Proofs.YtlacligofhinmaaGreat
attribute [local go_sem] Oper.semAt_some
set_option linter.unusedVariables false
set_option linter.unusedSimpArgs false
set_option maxRecDepth 100000

theorem dropL_clean (L : List Ln) (s : Int) : dropL (cleanL L s) s = dropL L s := by
  unfold dropL cleanL
  induction L with
  | nil => rfl
  | cons x L ih =>
    rw [List.map_cons, List.filter_cons, List.filter_cons, ih]
    by_cases e : (x.sec : Int) = s
    · rw [if_pos e]; simp [cleaned, e]
    · rw [if_neg e]
theorem find_1st {L : List Ln} {p : Ln → Bool} {j : Nat} {l : Ln} (hl : L[j]? = some l) (hp : p l = true) (hn : ∀ (i : Nat) x, i < j → L[i]? = some x → p x = false) : L.find? p = some l := by
  refine find_at (split_at hl) (fun x hx => ?_) hp
  obtain ⟨i, hi⟩ := List.getElem?_of_mem hx
  have hlt := (List.getElem?_eq_some_iff.1 hi).1
  rw [List.getElem?_take] at hi
  split at hi
  · rename_i h; exact hn i x h hi
  · cases hi
theorem find_no {L : List Ln} {p : Ln → Bool} (hn : ∀ (i : Nat) x, L[i]? = some x → p x = false) : L.find? p = none := List.find?_eq_none.2 fun x hx => by
  obtain ⟨i, hi⟩ := List.getElem?_of_mem hx
  simp [hn i x hi]
/-- the search for the line that gives way, from the end on: k are left -/
def SrchD (p : Ln → Bool) (L : List Ln) (k : Nat) (a : Int) : Prop :=
  (a = -1 ∧ ∀ j l, k ≤ j → L[j]? = some l → p l = false) ∨ ∃ (j : Nat) (l : Ln), a = j ∧ k ≤ j ∧ L[j]? = some l ∧ p l = true ∧ ∀ j' l', k ≤ j' → j' < j → L[j']? = some l' → p l' = false
theorem SrchD.start (p : Ln → Bool) (L : List Ln) : SrchD p L L.length (-1) := .inl ⟨rfl, fun j l h hl => by have := (List.getElem?_eq_some_iff.1 hl).1; omega⟩
theorem SrchD.skip {p : Ln → Bool} {L : List Ln} {i : Nat} {a : Int} (h : SrchD p L (i + 1) a) {l : Ln} (hl : L[i]? = some l) (hc : p l = false) : SrchD p L i a := by
  rcases h with ⟨e, h⟩ | ⟨j, m, e, hj, hm, h1, h2⟩
  · refine .inl ⟨e, fun j l' hj hl' => ?_⟩
    by_cases ej : j = i
    · subst ej; rw [hl] at hl'; cases hl'; exact hc
    · exact h j l' (by omega) hl'
  · refine .inr ⟨j, m, e, by omega, hm, h1, fun j' l' hj' hlt hl' => ?_⟩
    by_cases ej : j' = i
    · subst ej; rw [hl] at hl'; cases hl'; exact hc
    · exact h2 j' l' (by omega) hlt hl'
theorem SrchD.hit {p : Ln → Bool} {L : List Ln} {i : Nat} {l : Ln} (hl : L[i]? = some l) (hc : p l = true) : SrchD p L i i :=
  .inr ⟨i, l, rfl, Nat.le_refl _, hl, hc, fun j' l' h1 h2 => by omega⟩
section
variable {w w' : World} {A : Qa} {S S' : K.Dk} {C C' : Ch}
/-- the lines without one of them are stored, and one more has given way -/
theorem RQ.gone {W : World} (h : RQ w A S C) {i : Nat} {l : Ln} (hi : C.L[i]? = some l) (hb : Below w.heap.size w W) {v : Value} (ho : W.ownsRow w.heap.size TRl 3 v (A.X.eraseIdx i).length (xcells (A.X.eraseIdx i))) :
    W.cell? ⟨A.q, 3, none⟩ = some A.lv ∧ W.frozen? ⟨A.q, 3, none⟩ = false ∧ (W.setCell ⟨A.q, 3, none⟩ v).cell? ⟨A.q, 6, none⟩ = some (.int .u64 C.st.evicted) ∧ (W.setCell ⟨A.q, 3, none⟩ v).frozen? ⟨A.q, 6, none⟩ = false ∧ ∃ A', QAct w ((W.setCell ⟨A.q, 3, none⟩ v).setCell ⟨A.q, 6, none⟩ (.int .u64 (K.inc C.st.evicted))) A A' C S { C with L := dropL C.L l.sec, st := { C.st with evicted := K.inc C.st.evicted } } 0 ∧ A'.pot { C with L := dropL C.L l.sec } + dirtyN [l] ≤ A.pot C := by
  have hde : dirtyN (dropL C.L l.sec) + dirtyN [l] = dirtyN C.L := by
    rw [dropL_at h.sd hi, List.eraseIdx_eq_take_drop_succ, dirtyN_app, dirtyN_at hi]
  have hq := h.lines (K.Kp.of_below hb _) (owns_mono ho (Nat.zero_le _)) (fun g' e => .inr (row_base ho e)) (fun y hy => .inl (List.mem_of_mem_eraseIdx hy)) (L' := dropL C.L l.sec) (by rw [dropL_at h.sd hi]; exact h.sim.erase i) (dropL_ok h.ok _) (dropL_nodup h.sd _) (Nat.le_trans (dropL_le _ _) h.lim.1) (fun y hy => h.nt y (List.mem_filter.1 hy).1)
  have a2 := hq.2.rq.stat 6 (.int .u64 (K.inc C.st.evicted)) { C.st with evicted := K.inc C.st.evicted } rfl
  refine ⟨(World.cell?_of_block (a := ⟨A.q, 3, none⟩) hq.1).trans (h.c 3), (World.frozen?_of_block (a := ⟨A.q, 3, none⟩) hq.1).trans (h.fz 3), hq.2.rq.c 6, hq.2.rq.fz 6, _, (hq.2.trans a2).more (by omega), ?_⟩
  simp only [Qa.pot]
  omega
set_option maxHeartbeats 8000000 in
/-- room is made, where a line may give way at once: the walk behind the search -/
theorem rroom_any (h : RQ w A S C) (hq : A.pot C + 1 < 1048576) :
    Calls Tryz.prog 51 #[.pointer (some ⟨A.q, 0, none⟩)] w fun r w' => r = .returned (.int .i64 (roomR S C).1) ∧ ∃ A', QAct w w' A A' C (roomR S C).2.1 (roomR S C).2.2 1 := by
  obtain ⟨ao, cap, hv⟩ := h.form
  have hx1 := h.x1024
  have hln := h.ln
  have hlim := h.lim
  have c3 : ∀ W, (∃ q, W = w.drewN q) → W.cell? ⟨A.q, 3, none⟩ = some (.slice ao A.X.length cap) := fun W hW => by obtain ⟨q, rfl⟩ := hW; rw [← hv]; exact (h.drewN q).c 3
  have c1 : w.cell? ⟨A.q, 1, none⟩ = some (.int .i64 C.most) := h.c 1
  have c30 : w.cell? ⟨A.q, 3, none⟩ = some (.slice ao A.X.length cap) := c3 w ⟨0, rfl⟩
  by_cases hfull : C.L.length < C.most
  · have hb1 : (A.X.length : Int) < (C.most : Int) := by omega
    have hR : roomR S C = (0, S, C) := by unfold roomR; rw [if_pos hfull]
    rw [hR]
    have H0 : Hid (QAct w w A A C S C 0) := QAct.refl h
    generalize A.X.length = n at *
    clear h hv hq hR hfull hln
    go_enter Tryz.func51, Tryz.ntmps51
    go_wp2
    go_quiet (fail)
    go_wp2
    go_ret
    exact ⟨rfl, A, (H0.out.drewN _).more (by omega)⟩
  · have hb1 : ¬ (A.X.length : Int) < (C.most : Int) := by omega
    have HS : Hid (∀ W, (∃ q, W = w.drewN q) → ∀ (i : Nat) l, C.L[i]? = some l → ∃ g, ao = some ⟨g, 0, none⟩ ∧ W.cell? ⟨g, i * 3, none⟩ = some (.int .i64 l.sec) ∧ W.cell? ⟨g, i * 3 + 2, none⟩ = some (.bool l.dirty)) := fun W hW i l hl => by obtain ⟨q, rfl⟩ := hW; exact (h.drewN q).see hv hl
    have HNo : Hid (∀ W, (∃ q, W = w.drewN q) → ∀ l, l ∈ C.L → Calls Tryz.prog 38 #[.pointer (some ⟨A.q, 0, none⟩), .int .i64 l.sec] W fun r w' => r = .returned (.bool l.note) ∧ ∃ q', w' = w.drewN q') := fun W hW l hl => by
      obtain ⟨q, rfl⟩ := hW
      have := rnote_any (h.drewN q) (s := (l.sec : Int)) (by have := (h.ok l hl).1; have := h.rr.n1; omega)
      refine this.mono ?_
      rintro r w' ⟨rfl, q', rfl⟩
      exact ⟨by rw [h.nt l hl], q + q', by rw [World.drewN_drewN]⟩
    -- what comes behind the search, at a state from which a line gives way
    have HG : Hid (∀ W A1 S1 C1 N (i : Nat) (l : Ln), QAct w W A A1 C S1 C1 N → C1.L[i]? = some l → A1.pot C1 < 1048576 → (∃ ao1 cap1 g, A1.lv = .slice ao1 A1.X.length cap1 ∧ ao1 = some ⟨g, 0, none⟩ ∧ i < A1.X.length ∧ A1.X.length ≤ 1024 ∧ W.cell? ⟨A.q, 3, none⟩ = some (.slice (some ⟨g, 0, none⟩) A1.X.length cap1) ∧ W.cell? ⟨g, i * 3 + 2, none⟩ = some (.bool l.dirty)) ∧
        (l.dirty = true → Calls Tryz.prog 74 #[.pointer (some ⟨A.q, 0, none⟩), .int .i64 i] W fun r w' => r = .returned (.int .i64 (wbE S1 C1 l.sec)) ∧ ∃ A', QAct w w' A A' C (wbS S1 C1 l.sec) (wbC S1 C1 l.sec) (N + if wbE S1 C1 l.sec = 0 then 0 else 1)) ∧
        (Calls Tryz.prog 101 #[.pointer (some ⟨A.q, 0, none⟩), .int .i64 i] W fun r w' => ∃ ao5 n5 c5 v, v = Value.slice ao5 n5 c5 ∧ r = .returned v ∧ w'.cell? ⟨A.q, 3, none⟩ = some A1.lv ∧ w'.frozen? ⟨A.q, 3, none⟩ = false ∧ (w'.setCell ⟨A.q, 3, none⟩ v).cell? ⟨A.q, 6, none⟩ = some (.int .u64 C1.st.evicted) ∧ (w'.setCell ⟨A.q, 3, none⟩ v).frozen? ⟨A.q, 6, none⟩ = false ∧ ∃ A', QAct w ((w'.setCell ⟨A.q, 3, none⟩ v).setCell ⟨A.q, 6, none⟩ (.int .u64 (K.inc C1.st.evicted))) A A' C S1 { C1 with L := dropL C1.L l.sec, st := { C1.st with evicted := K.inc C1.st.evicted } } N)) := fun W A1 S1 C1 N i l ha hi hp => by
      obtain ⟨ao1, cap1, hv1⟩ := ha.rq.form
      obtain ⟨g, rfl, k0, k2⟩ := ha.rq.see hv1 hi
      have hil := (List.getElem?_eq_some_iff.1 hi).1
      have hl1 := ha.rq.ln
      refine ⟨⟨_, cap1, g, hv1, rfl, by omega, ha.rq.x1024, by rw [← hv1, ← ha.q]; exact ha.rq.c 3, k2⟩, fun hd => ?_, ?_⟩
      · have := rback_at ha.rq (by simp only [Qa.pot] at hp; omega) hi hd
        rw [ha.q] at this
        refine this.mono ?_
        rintro r w' ⟨rfl, A', ha'⟩
        exact ⟨rfl, A', ha.trans ha'⟩
      · have := rwithout_any ha.rq (i := i) (by omega)
        rw [ha.q] at this
        refine this.mono ?_
        rintro r w' ⟨v, rfl, ho, hb⟩
        obtain ⟨f1, f2, f3, f4, A', ha', _⟩ := ha.rq.gone hi hb ho
        rw [ha.q] at f1 f2 f3 f4 ha'
        obtain ⟨ao5, c5, e5⟩ := K.own_slice ho
        exact ⟨ao5, _, c5, v, e5, rfl, f1, f2, f3, f4, A', by have := ha.trans ha'; rw [Nat.add_zero] at this; exact this⟩
    have HFl : Hid (∀ W, (∃ q, W = w.drewN q) → Calls Tryz.prog 28 #[.pointer (some ⟨A.q, 0, none⟩)] W fun r w' => r = .returned (.int .i64 (flushR S C).1) ∧ ∃ A', QAct w w' A A' C (flushR S C).2.1 (flushR S C).2.2 (if (flushR S C).1 = 0 then 0 else 1)) := fun W hW => by
      obtain ⟨q, rfl⟩ := hW
      refine (rflush_any (h.drewN q) (by omega)).mono ?_
      rintro r w' ⟨rfl, A', ha'⟩
      exact ⟨rfl, A', ha'.from_later (K.below_drewN w q) h.lt⟩
    have HQ0 : Hid (∀ W, (∃ q, W = w.drewN q) → QAct w W A A C S C 0) := fun W hW => by obtain ⟨q, rfl⟩ := hW; exact (QAct.refl h).drewN q
    obtain ⟨hfk, hfc⟩ := flush_ok (S := S) h.sd
    have HFk : Hid ((flushR S C).1 = 0 ∨ (flushR S C).1 = 33) := hfk.two
    have HFc : Hid ((flushR S C).1 = 0 → ∃ l, (flushR S C).2.2.L[0]? = some l ∧ l.dirty = false ∧ (flushR S C).2.2.L.find? mayGo = some l) := fun h0 => by
      have hlen : (flushR S C).2.2.L.length = C.L.length := by have := congrArg List.length hfk.sec; simpa using this
      obtain ⟨l, hl⟩ : ∃ l, (flushR S C).2.2.L[0]? = some l := ⟨_, List.getElem?_eq_getElem (by omega)⟩
      have hd := hfc h0 l (List.mem_of_getElem? hl)
      exact ⟨l, hl, hd, find_1st hl (by simp [mayGo, hd]) (fun i x hi => by omega)⟩
    have HR1 : Hid (∀ m, C.L.find? mayGo = some m → roomR S C = gwR S C m) := fun m hf => by unfold roomR; rw [if_neg hfull, hf]
    have HR2 : Hid (C.L.find? mayGo = none → (flushR S C).1 = 0 → ∀ l, (flushR S C).2.2.L.find? mayGo = some l → roomR S C = gwR (flushR S C).2.1 (flushR S C).2.2 l) := fun hf he l hl => by unfold roomR; rw [if_neg hfull, hf]; simp only; rw [if_pos he, hl]
    have HR3 : Hid (C.L.find? mayGo = none → ¬ (flushR S C).1 = 0 → roomR S C = flushR S C) := fun hf he => by unfold roomR; rw [if_neg hfull, hf]; simp only; rw [if_neg he]
    have HPot : Hid (A.pot C + 1 < 1048576) := hq
    have HGw : Hid (∀ S1 C1 l, lineAt C1.L l.sec = some l → (l.dirty = true → wbE S1 C1 l.sec = 0 → gwR S1 C1 l = (0, wbS S1 C1 l.sec, { wbC S1 C1 l.sec with L := dropL (wbC S1 C1 l.sec).L l.sec, st := { (wbC S1 C1 l.sec).st with evicted := K.inc (wbC S1 C1 l.sec).st.evicted } })) ∧ (l.dirty = true → wbE S1 C1 l.sec = 33 → gwR S1 C1 l = (33, wbS S1 C1 l.sec, wbC S1 C1 l.sec)) ∧ (l.dirty = false → gwR S1 C1 l = (0, S1, { C1 with L := dropL C1.L l.sec, st := { C1.st with evicted := K.inc C1.st.evicted } }))) := fun S1 C1 l hl => by
      unfold gwR wbE wbS wbC
      rw [hl]
      simp only
      refine ⟨fun hd he => ?_, fun hd he => ?_, fun hd => ?_⟩
      · rw [if_pos hd]
        by_cases h0 : K.wrE S1 l.sec l.dat = 0
        · rw [if_pos h0, if_pos h0]; simp only [dropL_clean]
        · rw [if_neg h0] at he; omega
      · rw [if_pos hd]
        by_cases h0 : K.wrE S1 l.sec l.dat = 0
        · rw [if_pos h0] at he; omega
        · rw [if_neg h0, if_neg h0]
      · rw [if_neg (by rw [hd]; decide)]
    have HSd : Hid ((secs C.L).Nodup ∧ (secs (flushR S C).2.2.L).Nodup) := ⟨h.sd, by rw [hfk.sec]; exact h.sd⟩
    have HSt0 : Hid (SrchD mayGo C.L A.X.length (-1)) := by show SrchD _ _ _ _; rw [hln]; exact SrchD.start _ _
    obtain ⟨n, hn⟩ : ∃ n, n = A.X.length := ⟨_, rfl⟩
    rw [← hn] at c3 c30 hx1 hb1 HSt0 hln
    have HLn : Hid (n = C.L.length) := hln
    have hb1a : decide (n < C.most) = false := decide_eq_false (by omega)
    have hb1b : decide ((n : Int) < (C.most : Int)) = false := decide_eq_false hb1
    clear h hv hq hn hfk hfc hfull hln
    go_enter Tryz.func51, Tryz.ntmps51
    go_wp2
    go_quiet (fail)
    obtain ⟨w0, hw0⟩ : ∃ w0, w0 = w.drewN nq := ⟨_, rfl⟩
    rw [← hw0]
    have c3q := c3 w0 ⟨_, hw0⟩
    have Hw0 : Hid (∃ q, w0 = w.drewN q) := ⟨_, hw0⟩
    clear hw0
    have hnw : IntKind.i64.wrap ((n : Int) - 1) = (n : Int) - 1 := by rw [IntKind.wrap_i64]; omega
    go_wp2
    go_loopw [3, 4] (fun av iv wk => ∃ (k : Nat) (a : Int), k ≤ n ∧ iv = .int .i64 ((k : Int) - 1) ∧ av = .int .i64 a ∧ Hid (∃ q, wk = w.drewN q) ∧ Hid (SrchD mayGo C.L k a)) (fun _ iv _ => (intOf iv + 1).toNat)
    case atStart => exact ⟨n, -1, Nat.le_refl _, rfl, rfl, Hw0, HSt0⟩
    case round =>
      obtain ⟨k, a, hk, rfl, rfl, HWk, HSr⟩ := hrel
      have d3 := c3 wr HWk.out
      by_cases hk0 : k = 0
      · subst hk0
        have hiz : ¬ ((0 : Nat) : Int) - 1 ≥ 0 := by omega
        rcases HSr.out with ⟨ea, hno⟩ | ⟨j, m, ea, hj, hm, hpm, hmin⟩
        · subst ea
          have hfn : C.L.find? mayGo = none := find_no (fun i x hx => hno i x (Nat.zero_le _) hx)
          have hfl := HFl.out wr HWk.out
          rcases HFk.out with he | he
          · obtain ⟨l, hl0, hld, hlf⟩ := HFc.out he
            have hr := HR2.out hfn he l hlf
            rw [he] at hfl
            simp only [if_true] at hfl
            have hgw := (HGw.out (flushR S C).2.1 (flushR S C).2.2 l (at_line HSd.out.2 (List.mem_of_getElem? hl0))).2.2 hld
            rw [hgw] at hr
            have HR2 : Hid (roomR S C = (0, (flushR S C).2.1, { (flushR S C).2.2 with L := dropL (flushR S C).2.2.L l.sec, st := { (flushR S C).2.2.st with evicted := K.inc (flushR S C).2.2.st.evicted } })) := hr
            clear hr hgw hno HSr hfn hlf he
            generalize (flushR S C).2.1 = S1 at *
            generalize (flushR S C).2.2 = C1 at *
            go_wp2_with fail
            refine Calls.mono hfl ?_
            clear hfl
            rintro r w1 ⟨rfl, A1, ha1⟩
            obtain ⟨⟨ao1, cap1, g, hlv1, rfl, hin1, hxn1, q3, q2⟩, _, hwo⟩ := HG.out w1 A1 S1 C1 0 0 l ha1 hl0 (by have := ha1.pot; have := HPot.out; omega)
            rw [hld] at q2
            rw [hlv1] at hwo
            have HWO : Hid _ := hwo
            have hin1z : (0 : Int) < (A1.X.length : Int) := by omega
            clear ha1 hwo hlv1 HG hld hl0
            generalize A1.X.length = n1 at *
            go_wp2_with fail
            refine Calls.mono HWO.out ?_
            clear HWO
            rintro r w2 ⟨ao5, n5, c5, v, rfl, rfl, f1, f2, f3, f4, A2, ha2⟩
            have HA2 : Hid _ := ha2
            clear ha2
            go_wp2
            go_ret
            rw [HR2.out]
            exact ⟨rfl, A2, HA2.out.more (by omega)⟩
          · have hr := HR3.out hfn (by omega)
            rw [he] at hfl
            have HR2 : Hid (roomR S C = flushR S C) := hr
            have HE : Hid ((flushR S C).1 = 33) := he
            simp only [show ((33 : Int) = 0) = False by simp, if_false] at hfl
            clear hr hno HSr hfn he
            go_wp2_with fail
            refine Calls.mono hfl ?_
            clear hfl
            rintro r w1 ⟨rfl, A1, ha1⟩
            have HA1 : Hid _ := ha1
            clear ha1
            go_wp2
            go_ret
            rw [HR2.out, HE.out]
            exact ⟨rfl, A1, HA1.out⟩
        · subst ea
          have hff : C.L.find? mayGo = some m := find_1st hm hpm (fun i x hi hx => hmin i x (Nat.zero_le _) hi hx)
          have hr := HR1.out m hff
          have hjz : ¬ (j : Int) < 0 := by omega
          have hlm := at_line HSd.out.1 (List.mem_of_getElem? hm)
          obtain ⟨⟨ao1, cap1, g, hlv1, rfl, hin1, hxn1, q3, q2⟩, hba, hwo⟩ := HG.out wr A S C 0 j m (HQ0.out wr HWk.out) hm (by have := HPot.out; omega)
          cases hd : m.dirty with
          | false =>
            rw [(HGw.out S C m hlm).2.2 hd] at hr
            rw [hd] at q2
            rw [hlv1] at hwo
            have HR2 : Hid _ := hr
            have HWO : Hid _ := hwo
            have hin1z : (j : Int) < (A.X.length : Int) := by omega
            clear hr hba hwo hlv1 HG HSr hff hmin hm hpm hlm hd d3
            generalize A.X.length = n1 at *
            go_wp2_with fail
            refine Calls.mono HWO.out ?_
            clear HWO
            rintro r w2 ⟨ao5, n5, c5, v, rfl, rfl, f1, f2, f3, f4, A2, ha2⟩
            have HA2 : Hid _ := ha2
            clear ha2
            go_wp2
            go_ret
            rw [HR2.out]
            exact ⟨rfl, A2, HA2.out.more (by omega)⟩
          | true =>
            have hb2 := hba hd
            rw [hd] at q2
            have hin1z : (j : Int) < (A.X.length : Int) := by omega
            rcases wbE_two S C m.sec with he | he
            · rw [(HGw.out S C m hlm).1 hd he] at hr
              rw [he] at hb2
              simp only [if_true, Nat.add_zero] at hb2
              have HR2 : Hid _ := hr
              have HL1 : Hid ((wbC S C m.sec).L[j]? = some (cleaned m)) := by
                show _ = _
                rw [wbC_L hlm he, cleanL_at HSd.out.1 hm]
                have hjl := (List.getElem?_eq_some_iff.1 hm).1
                rw [List.getElem?_append_right (by rw [List.length_take]; omega), List.length_take, Nat.min_eq_left (by omega), Nat.sub_self]
                rfl
              clear hr hba hwo hlv1 HSr hff hmin hm hpm hlm hd d3
              generalize A.X.length = n1 at *
              go_wp2_with fail
              refine Calls.mono hb2 ?_
              clear hb2
              rintro r w1 ⟨rfl, A1, ha1⟩
              obtain ⟨⟨ao1, cap1, g1, hlv1, _, hin1, hxn1, q3, q2⟩, _, hwo⟩ := HG.out w1 A1 _ _ 0 j (cleaned m) ha1 HL1.out (by have := ha1.pot; have := HPot.out; omega)
              rw [hlv1] at hwo
              have HWO : Hid _ := hwo
              clear ha1 hwo HG
              go_wp2_with fail
              refine Calls.mono HWO.out ?_
              clear HWO
              rintro r w2 ⟨ao5, n5, c5, v, rfl, rfl, f1, f2, f3, f4, A2, ha2⟩
              have HA2 : Hid _ := ha2
              clear ha2
              go_wp2
              go_ret
              rw [HR2.out]
              exact ⟨rfl, A2, HA2.out.more (by omega)⟩
            · rw [(HGw.out S C m hlm).2.1 hd he] at hr
              rw [he] at hb2
              simp only [show ((33 : Int) = 0) = False by simp, if_false] at hb2
              have HR2 : Hid _ := hr
              clear hr hba hwo hlv1 HSr hff hmin hm hpm hlm hd d3 HG
              generalize A.X.length = n1 at *
              go_wp2_with fail
              refine Calls.mono hb2 ?_
              clear hb2
              rintro r w1 ⟨rfl, A1, ha1⟩
              have HA1 : Hid _ := ha1
              clear ha1
              go_wp2
              go_ret
              rw [HR2.out]
              exact ⟨rfl, A1, HA1.out⟩
      · obtain ⟨i, rfl⟩ : ∃ i, k = i + 1 := ⟨k - 1, by omega⟩
        have ei : ((i + 1 : Nat) : Int) - 1 = (i : Int) := by omega
        rw [ei]
        have hiz : (i : Int) ≥ 0 := by omega
        have hin : (i : Int) < (n : Int) := by omega
        obtain ⟨l, hl⟩ : ∃ l, C.L[i]? = some l := ⟨_, List.getElem?_eq_getElem (by have := HLn.out; omega)⟩
        obtain ⟨g, rfl, k0, k2⟩ := HS.out wr HWk.out i l hl
        have hno := HNo.out wr HWk.out l (List.mem_of_getElem? hl)
        have HLi : Hid (C.L[i]? = some l) := hl
        clear hl ei
        go_wp2_with fail
        refine Calls.mono hno ?_
        clear hno
        rintro r wk ⟨rfl, hwk⟩
        obtain ⟨g', e, k0', k2'⟩ := HS.out wk hwk i l HLi.out
        cases e
        have d3' := c3 wk hwk
        have HWw : Hid (∃ q, wk = w.drewN q) := hwk
        clear k0 k2 d3 hwk HWk
        cases hnt : l.note with
        | false =>
          have HN2 : Hid (SrchD mayGo C.L i i) := SrchD.hit HLi.out (by simp [mayGo, hnt])
          go_wp2
          go_roundw
          case rel => exact ⟨i, i, by omega, rfl, rfl, HWw, HN2⟩
          case measure => simp [intOf]
        | true =>
          cases hdy : l.dirty with
          | false =>
            rw [hdy] at k2'
            have HN2 : Hid (SrchD mayGo C.L i i) := SrchD.hit HLi.out (by simp [mayGo, hdy])
            go_wp2
            go_roundw
            case rel => exact ⟨i, i, by omega, rfl, rfl, HWw, HN2⟩
            case measure => simp [intOf]
          | true =>
            rw [hdy] at k2'
            have HN2 : Hid (SrchD mayGo C.L i a) := HSr.out.skip HLi.out (by simp [mayGo, hdy, hnt])
            go_wp2
            go_roundw
            case rel => exact ⟨i, a, by omega, rfl, rfl, HWw, HN2⟩
            case measure => simp [intOf]
end
end Go.Proofs.YtlacligofhinmaaGreat.C
