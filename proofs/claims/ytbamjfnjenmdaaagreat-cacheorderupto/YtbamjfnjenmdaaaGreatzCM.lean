import Derived.Test.YtbamjfnjenmdaaaGreatG29
namespace Go.Proofs.YtbamjfnjenmdaaaGreat.C
open Go.RowKit Go.Maps Go.Shelf Go.Sort Go.Proofs.YtbamjfnjenmdaaaGreat
attribute [local go_sem] Oper.semAt_some
set_option linter.unusedVariables false
set_option linter.unusedSimpArgs false
set_option maxRecDepth 100000

abbrev secs (L : List Ln) : List Int := L.map fun l => (l.sec : Int)
theorem at_line {L : List Ln} (hd : (secs L).Nodup) {l : Ln} (hm : l ∈ L) : lineAt L l.sec = some l := by
  cases e : lineAt L l.sec with
  | none => exact absurd rfl (lineAt_none e l hm)
  | some x =>
    obtain ⟨hx, hxs⟩ := lineAt_mem e
    congr 1
    obtain ⟨i, hi, ei⟩ := List.getElem_of_mem hx
    obtain ⟨j, hj, ej⟩ := List.getElem_of_mem hm
    have : i = j := (List.getElem_inj (h₀ := by simpa using hi) (h₁ := by simpa using hj) hd).1 (by simp [ei, ej, hxs])
    subst this
    rw [← ei, ej]
theorem secs_cleanL (L : List Ln) (s : Int) : secs (cleanL L s) = secs L := by
  unfold secs cleanL
  rw [List.map_map]
  refine List.map_congr_left fun x _ => ?_
  simp only [Function.comp]
  split <;> rfl
theorem secs_wbC (S : K.Dk) (C : Ch) (s : Int) : secs (wbC S C s).L = secs C.L := by
  unfold wbC
  split
  · split
    · exact secs_cleanL _ _
    · rfl
  · rfl
theorem wbE_two (S : K.Dk) (C : Ch) (s : Int) : wbE S C s = 0 ∨ wbE S C s = 33 := by
  unfold wbE
  split
  · split
    · exact .inl rfl
    · exact .inr rfl
  · exact .inl rfl
theorem dirt_next {S : K.Dk} {C : Ch} {s : Int} {ks : List Int} (hsd : (secs C.L).Nodup) (hd : Dirt (s :: ks) C) (he : wbE S C s = 0) :
    Dirt ks (wbC S C s) ∧ (wbS S C s).q.length + dirtyN (wbC S C s).L ≤ S.q.length + dirtyN C.L ∧ ∀ l ∈ (wbC S C s).L, l.dirty = true → l ∈ C.L ∧ (l.sec : Int) ≠ s := by
  obtain ⟨l, hl, rfl, hdy⟩ := hd.has s (by simp)
  obtain ⟨L1, L2, hL, _, _⟩ := lineAt_split (at_line hsd hl)
  have hsd' := hsd
  rw [hL] at hsd'
  unfold wbE at he
  unfold wbS wbC
  rw [at_line hsd hl] at he ⊢
  simp only at he ⊢
  by_cases hw : K.wrE S l.sec l.dat = 0
  · rw [if_pos hw]
    refine ⟨⟨(List.nodup_cons.1 hd.nd).2, fun t ht => ?_⟩, ?_, ?_⟩
    · obtain ⟨x, hx, rfl, hxd⟩ := hd.has t (by simp [ht])
      refine ⟨x, mem_cleanL hx (fun e => (List.nodup_cons.1 hd.nd).1 (by rw [← e]; exact ht)), rfl, hxd⟩
    · have h1 := K.wrS_q S l.sec l.dat
      have h2 : dirtyN (cleanL C.L l.sec) + 1 = dirtyN C.L := by rw [hL, cleanL_split hsd']; exact dirtyN_clean hdy
      simp only
      omega
    · intro x hx hxd
      unfold cleanL at hx
      obtain ⟨y, hy, e⟩ := List.mem_map.1 hx
      by_cases hys : (y.sec : Int) = l.sec
      · rw [if_pos hys] at e
        rw [← e] at hxd
        cases hxd
      · rw [if_neg hys] at e
        subst e
        exact ⟨hy, hys⟩
  · rw [if_neg hw] at he
    omega
theorem wbS_n (S : K.Dk) (C : Ch) (s : Int) : (wbS S C s).n = S.n := by
  unfold wbS
  split
  · exact wrS_n _ _ _
  · rfl
theorem wbS_q (S : K.Dk) (C : Ch) (s : Int) : (wbS S C s).q.length ≤ S.q.length + 1 := by
  unfold wbS
  split
  · exact K.wrS_q _ _ _
  · omega
theorem wbC_bad {S : K.Dk} {C : Ch} {s : Int} (h : wbE S C s ≠ 0) : wbC S C s = C := by
  unfold wbE at h
  unfold wbC
  split
  · rename_i l hl
    rw [hl] at h
    simp only at h
    split
    · rename_i h0; rw [if_pos h0] at h; exact absurd rfl h
    · rfl
  · rfl
/-- what stays so through the writing back -/
structure Kept (S : K.Dk) (C : Ch) (e : Int) (S' : K.Dk) (C' : Ch) : Prop where
  fs : K.FsOk S.fs → K.FsOk S'.fs
  n : S'.n = S.n
  sec : secs C'.L = secs C.L
  phi : S'.q.length + dirtyN C'.L ≤ S.q.length + dirtyN C.L + (if e = 0 then 0 else 1)
  two : e = 0 ∨ e = 33
  old : ∀ l ∈ C'.L, l.dirty = true → l ∈ C.L
theorem backs_ok : ∀ (ks : List Int) (S : K.Dk) (C : Ch), (secs C.L).Nodup → Dirt ks C → Kept S C (backs ks S C).1 (backs ks S C).2.1 (backs ks S C).2.2 ∧ ((backs ks S C).1 = 0 → ∀ l ∈ (backs ks S C).2.2.L, l.dirty = true → (l.sec : Int) ∉ ks)
  | [], S, C, hsd, hd => ⟨⟨id, rfl, rfl, by simp [backs], .inl rfl, fun l hl _ => hl⟩, fun _ l _ _ => by simp⟩
  | s :: ks, S, C, hsd, hd => by
    rw [backs_cons]
    rcases wbE_two S C s with he | he
    · rw [if_pos he]
      obtain ⟨h1, h2, h3⟩ := dirt_next hsd hd he
      obtain ⟨k, c⟩ := backs_ok ks (wbS S C s) (wbC S C s) (by rw [secs_wbC]; exact hsd) h1
      refine ⟨⟨fun hf => k.fs (wbS_ok hf), k.n.trans (wbS_n _ _ _), k.sec.trans (secs_wbC _ _ _), by have := k.phi; omega, k.two, fun l hl hdy => (h3 l (k.old l hl hdy) hdy).1⟩, fun h0 l hl hdy hm => ?_⟩
      rcases List.mem_cons.1 hm with e | hm
      · exact (h3 l (k.old l hl hdy) hdy).2 e
      · exact c h0 l hl hdy hm
    · rw [if_neg (by omega)]
      have hc := wbC_bad (S := S) (C := C) (s := s) (by omega)
      refine ⟨⟨fun hf => wbS_ok hf, wbS_n _ _ _, secs_wbC _ _ _, ?_, .inr rfl, fun l hl _ => by simp only [hc] at hl; exact hl⟩, fun h0 => by simp at h0⟩
      have := wbS_q S C s
      simp only [hc]
      simp
      omega
theorem settle_ok {ks : List Int} {S : K.Dk} {C : Ch} (hsd : (secs C.L).Nodup) (hd : Dirt ks C) : Kept S C (settleR ks S C).1 (settleR ks S C).2.1 (settleR ks S C).2.2 ∧ ((settleR ks S C).1 = 0 → ∀ l ∈ (settleR ks S C).2.2.L, l.dirty = true → (l.sec : Int) ∉ ks) := by
  obtain ⟨k, c⟩ := backs_ok ks S C hsd hd
  unfold settleR
  by_cases h0 : (backs ks S C).1 = 0
  · rw [if_pos h0]
    have hphi := k.phi
    rw [if_pos h0] at hphi
    have hq := K.baS_q (backs ks S C).2.1
    refine ⟨⟨fun hf => K.baS_ok (k.fs hf), (baS_n _).trans k.n, k.sec, ?_, ?_, k.old⟩, fun _ => c h0⟩
    · simp only
      split <;> omega
    · simp only
      split
      · exact .inl rfl
      · exact .inr rfl
  · rw [if_neg h0]
    exact ⟨k, c⟩
theorem dirt_dl {p : Ln → Bool} {C : Ch} (hsd : (secs C.L).Nodup) : Dirt (dlL p C.L) C := by
  refine ⟨(sortI_perm _).nodup_iff.2 ((List.filter_sublist.map _).nodup hsd), fun s hs => ?_⟩
  obtain ⟨l, hl, rfl⟩ := List.mem_map.1 ((sortI_perm _).mem_iff.1 hs)
  obtain ⟨h1, h2⟩ := List.mem_filter.1 hl
  simp only [Bool.and_eq_true] at h2
  exact ⟨l, h1, rfl, h2.1⟩
theorem mem_dl {p : Ln → Bool} {L : List Ln} {l : Ln} (hl : l ∈ L) (hd : l.dirty = true) (hp : p l = true) : (l.sec : Int) ∈ dlL p L :=
  (sortI_perm _).mem_iff.2 (List.mem_map.2 ⟨l, List.mem_filter.2 ⟨hl, by simp [hd, hp]⟩, rfl⟩)
theorem dl_len (p : Ln → Bool) (L : List Ln) : (dlL p L).length ≤ L.length := by
  unfold dlL
  rw [(sortI_perm _).length_eq, List.length_map]
  exact List.length_filter_le _ _
/-- Flush -/
def flushR (S : K.Dk) (C : Ch) : Int × K.Dk × Ch :=
  if (settleR (dlL isData C.L) S C).1 = 0 then
    (if (dlL isNoted (settleR (dlL isData C.L) S C).2.2.L).length = 0 then settleR (dlL isData C.L) S C
     else settleR (dlL isNoted (settleR (dlL isData C.L) S C).2.2.L) (settleR (dlL isData C.L) S C).2.1 (settleR (dlL isData C.L) S C).2.2)
  else settleR (dlL isData C.L) S C
theorem flush_ok {S : K.Dk} {C : Ch} (hsd : (secs C.L).Nodup) : Kept S C (flushR S C).1 (flushR S C).2.1 (flushR S C).2.2 ∧ ((flushR S C).1 = 0 → ∀ l ∈ (flushR S C).2.2.L, l.dirty = false) := by
  obtain ⟨k, c⟩ := settle_ok (S := S) hsd (dirt_dl (p := isData) hsd)
  unfold flushR
  generalize hr : settleR (dlL isData C.L) S C = r at *
  obtain ⟨e, S1, C1⟩ := r
  simp only at k c ⊢
  have hsd1 : (secs C1.L).Nodup := by rw [k.sec]; exact hsd
  by_cases h0 : e = 0
  · rw [if_pos h0]
    subst h0
    have hc := c rfl
    have hdat : ∀ l ∈ C1.L, l.dirty = true → l.note = true := fun l hl hdy => by
      cases hn : l.note with
      | true => rfl
      | false => exact absurd (mem_dl (k.old l hl hdy) hdy (show isData l = true by simp [isData, hn])) (hc l hl hdy)
    by_cases hz : (dlL isNoted C1.L).length = 0
    · rw [if_pos hz]
      refine ⟨k, fun _ l hl => ?_⟩
      cases hdy : l.dirty with
      | false => rfl
      | true =>
        have := mem_dl hl hdy (show isNoted l = true from hdat l hl hdy)
        rw [List.length_eq_zero_iff.1 hz] at this
        cases this
    · rw [if_neg hz]
      obtain ⟨k2, c2⟩ := settle_ok (S := S1) hsd1 (dirt_dl (p := isNoted) hsd1)
      have hphi := k.phi
      have hphi2 := k2.phi
      simp only [if_true] at hphi
      refine ⟨⟨fun hf => k2.fs (k.fs hf), k2.n.trans k.n, k2.sec.trans k.sec, by omega, k2.two, fun l hl hdy => k.old l (k2.old l hl hdy) hdy⟩, fun he l hl => ?_⟩
      cases hdy : l.dirty with
      | false => rfl
      | true => exact absurd (mem_dl (k2.old l hl hdy) hdy (show isNoted l = true from hdat l (k2.old l hl hdy) hdy)) (c2 he l hl hdy)
  · rw [if_neg h0]
    exact ⟨k, fun he => absurd he h0⟩
section
variable {w w' : World} {P : Loc} {S S' : K.Dk} {C C' : Ch}
theorem far_new (h : RC w P S C) {v : Value} {W : World} {B n : Nat} {xs : List Value} (hB : w.heap.size ≤ B) (hr : W.ownsRow B TIn 1 v n xs) : ∀ g, v.ownBlock = some g → g ∉ P.fp C.L := fun g hg hm => by
  have h1 := row_base hr hg
  have h2 := h.lt g hm
  omega
set_option maxHeartbeats 4000000 in
theorem flush_c (h : RC w P S C) (hf : K.FsOk S.fs) (hq : S.q.length + dirtyN C.L < 1048576) :
    Calls Tryz.prog 13 #[.pointer (some ⟨P.bc, 0, none⟩)] w fun r w' => r = .returned (.int .i64 (flushR S C).1) ∧ ∃ P', CAct w w' P P' C (flushR S C).2.1 (flushR S C).2.2 := by
  have hu := usable_c h
  have hlim := h.lim
  have hsd : (secs C.L).Nodup := h.sd
  obtain ⟨k, c⟩ := settle_ok (S := S) hsd (dirt_dl (p := isData) hsd)
  have hl1 := dl_len isData C.L
  -- the data lines
  have HD1 : Hid (Calls Tryz.prog 34 #[.pointer (some ⟨P.bc, 0, none⟩), .func (.func 35) #[] #[]] w fun r w1 => ∃ v, r = .returned v ∧ Calls Tryz.prog 36 #[.pointer (some ⟨P.bc, 0, none⟩), v] w1 fun r w' => r = .returned (.int .i64 (settleR (dlL isData C.L) S C).1) ∧ ∃ P', CAct w w' P P' C (settleR (dlL isData C.L) S C).2.1 (settleR (dlL isData C.L) S C).2.2) := by
    refine (dirty_data h).mono ?_
    rintro r w1 ⟨v, rfl, ho, hb⟩
    have h1 := h.later hb
    refine ⟨v, rfl, (settle_c h1 hf hq ho (far_new h (by omega) ho) (dirt_dl hsd) (by omega)).mono ?_⟩
    rintro r w' ⟨rfl, P', ha⟩
    exact ⟨rfl, P', ha.from_later hb h.lt⟩
  -- the notes
  have HD2 : Hid (∀ (w1 : World) (P1 : Loc) (S1 : K.Dk) (C1 : Ch), CAct w w1 P P1 C S1 C1 → K.FsOk S1.fs → S1.q.length + dirtyN C1.L < 1048576 → (secs C1.L).Nodup → C1.L.length ≤ 1024 → Calls Tryz.prog 34 #[.pointer (some ⟨P.bc, 0, none⟩), .func (.func 37) #[] #[]] w1 fun r w2 => ∃ ao cap, r = .returned (.slice ao (dlL isNoted C1.L).length cap) ∧ (∃ P', CAct w w2 P P' C S1 C1) ∧ Calls Tryz.prog 36 #[.pointer (some ⟨P.bc, 0, none⟩), .slice ao (dlL isNoted C1.L).length cap] w2 fun r w' => r = .returned (.int .i64 (settleR (dlL isNoted C1.L) S1 C1).1) ∧ ∃ P', CAct w w' P P' C (settleR (dlL isNoted C1.L) S1 C1).2.1 (settleR (dlL isNoted C1.L) S1 C1).2.2) := fun w1 P1 S1 C1 ha hf1 hq1 hsd1 hl1 => by
    have hdn := dirty_note ha.rc
    rw [ha.bc] at hdn
    refine hdn.mono ?_
    rintro r w2 ⟨v, rfl, ho, hb⟩
    obtain ⟨ao, cap, rfl⟩ := int_form ho
    have h2 := ha.rc.later hb
    have hl2 := dl_len isNoted C1.L
    have hsc := settle_c h2 hf1 hq1 ho (far_new ha.rc (by omega) ho) (dirt_dl hsd1) (by omega)
    rw [ha.bc] at hsc
    refine ⟨ao, cap, rfl, ⟨P1, ha.later hb⟩, hsc.mono ?_⟩
    rintro r w' ⟨rfl, P', ha'⟩
    exact ⟨rfl, P', ha.trans (ha'.from_later hb ha.rc.lt)⟩
  unfold flushR
  generalize hr : settleR (dlL isData C.L) S C = r at *
  obtain ⟨e, S1, C1⟩ := r
  simp only at k c HD1 ⊢
  have hphi := k.phi
  have hlen : C1.L.length ≤ 1024 := by
    have := congrArg List.length k.sec
    simp only [secs, List.length_map] at this
    omega
  rcases k.two with he | he
  · subst he
    simp only [if_true] at hphi ⊢
    have H2 : Hid (∀ (w1 : World) (P1 : Loc), CAct w w1 P P1 C S1 C1 → _) := fun w1 P1 ha => HD2.out w1 P1 S1 C1 ha (k.fs hf) (by omega) (by rw [k.sec]; exact hsd) hlen
    by_cases hz : (dlL isNoted C1.L).length = 0
    · rw [if_pos hz]
      simp only [hz] at H2
      clear k c hphi hlen HD2 h hq hf hr hl1 hsd
      go_enter Tryz.func13, Tryz.ntmps13
      go_wp2_with (first | (go_at_call 33; refine hu.mono ?_; rintro e w9 ⟨rfl, hw9⟩; rw [hw9]; clear hw9 hu) | (go_at_call 34; refine HD1.out.mono ?_; clear HD1; rintro r w1 ⟨v, rfl, hst⟩) | (go_at_call 36; refine hst.mono ?_; clear hst; rintro r w2 ⟨rfl, P2, ha2⟩) | (go_at_call 34; refine (H2.out w2 P2 ha2).mono ?_; rintro r w3 ⟨ao, cap, rfl, ha3, hst3⟩))
      go_ret
      exact ⟨rfl, ha3⟩
    · rw [if_neg hz]
      obtain ⟨m, hm⟩ : ∃ m, (dlL isNoted C1.L).length = m + 1 := ⟨(dlL isNoted C1.L).length - 1, by omega⟩
      simp only [hm] at H2
      clear k c hphi hlen HD2 h hq hf hr hl1 hsd
      go_enter Tryz.func13, Tryz.ntmps13
      go_wp2_with (first | (go_at_call 33; refine hu.mono ?_; rintro e w9 ⟨rfl, hw9⟩; rw [hw9]; clear hw9 hu) | (go_at_call 34; refine HD1.out.mono ?_; clear HD1; rintro r w1 ⟨v, rfl, hst⟩) | (go_at_call 34; refine (H2.out w2 P2 ha2).mono ?_; rintro r w3 ⟨ao, cap, rfl, ha3, hst3⟩) | (go_at_call 36; refine hst.mono ?_; clear hst; rintro r w2 ⟨rfl, P2, ha2⟩) | (go_at_call 36; refine hst3.mono ?_; rintro r w4 ⟨rfl, P4, ha4⟩))
      go_ret
      exact ⟨rfl, P4, ha4⟩
  · subst he
    rw [if_neg (by decide)]
    clear k c hphi hlen HD2 h hq hf hr hl1 hsd
    go_enter Tryz.func13, Tryz.ntmps13
    go_wp2_with (first | (go_at_call 33; refine hu.mono ?_; rintro e w9 ⟨rfl, hw9⟩; rw [hw9]; clear hw9 hu) | (go_at_call 34; refine HD1.out.mono ?_; clear HD1; rintro r w1 ⟨v, rfl, hst⟩) | (go_at_call 36; refine hst.mono ?_; clear hst; rintro r w2 ⟨rfl, P2, ha2⟩))
    go_ret
    exact ⟨rfl, P2, ha2⟩
end
end Go.Proofs.YtbamjfnjenmdaaaGreat.C
