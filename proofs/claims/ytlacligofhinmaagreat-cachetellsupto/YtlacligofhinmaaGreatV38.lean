import Derived.Test.YtlacligofhinmaaGreatV37
namespace Go.Proofs.YtlacligofhinmaaGreat.C
open Go.RowKit Go.Maps Go.Shelf Go.Proofs.YtlacligofhinmaaGreat
attribute [local go_sem] Oper.semAt_some
set_option linter.unusedVariables false
set_option linter.unusedSimpArgs false
set_option maxRecDepth 100000

section
variable {w w' : World} {A : Qa} {S S' : K.Dk} {C C' : Ch}
def BaP (w : World) (A : Qa) (C : Ch) (R : Int × Int × K.Dk × Ch) (r : Ending) (w' : World) : Prop :=
  r = .returned (.tuple #[.int .i64 R.1, .int .i64 R.2.1]) ∧ ∃ A', QAct w w' A A' C R.2.2.1 R.2.2.2 1
set_option maxHeartbeats 8000000 in
theorem rBack_any (h : RQ w A S C) (hq : A.pot C < 1048576) :
    Calls Tryz.prog 32 #[.pointer (some ⟨A.q, 0, none⟩)] w (BaP w A C (backR S C)) := by
  obtain ⟨ao, cap, hv⟩ := h.form
  have hx1 := h.x1024
  have hln := h.ln
  have c3 : ∀ W, (∃ q, W = w.drewN q) → W.cell? ⟨A.q, 3, none⟩ = some (.slice ao A.X.length cap) := fun W hW => by obtain ⟨q, rfl⟩ := hW; rw [← hv]; exact (h.drewN q).c 3
  have HS : Hid (∀ W, (∃ q, W = w.drewN q) → ∀ (i : Nat) l, C.L[i]? = some l → ∃ g, ao = some ⟨g, 0, none⟩ ∧ W.cell? ⟨g, i * 3, none⟩ = some (.int .i64 l.sec) ∧ W.cell? ⟨g, i * 3 + 2, none⟩ = some (.bool l.dirty)) := fun W hW i l hl => by obtain ⟨q, rfl⟩ := hW; exact (h.drewN q).see hv hl
  have HNo : Hid (∀ W, (∃ q, W = w.drewN q) → ∀ l, l ∈ C.L → Calls Tryz.prog 38 #[.pointer (some ⟨A.q, 0, none⟩), .int .i64 l.sec] W fun r w' => r = .returned (.bool l.note) ∧ ∃ q', w' = w.drewN q') := fun W hW l hl => by
    obtain ⟨q, rfl⟩ := hW
    have := rnote_any (h.drewN q) (s := (l.sec : Int)) (by have := (h.ok l hl).1; have := h.rr.n1; omega)
    refine this.mono ?_
    rintro r w' ⟨rfl, q', rfl⟩
    exact ⟨by rw [h.nt l hl], q + q', by rw [World.drewN_drewN]⟩
  have HBk : Hid (∀ W, (∃ q, W = w.drewN q) → ∀ (i : Nat) l, C.L[i]? = some l → l.dirty = true → Calls Tryz.prog 74 #[.pointer (some ⟨A.q, 0, none⟩), .int .i64 i] W fun r w' => r = .returned (.int .i64 (wbE S C l.sec)) ∧ (∃ A', QAct w w' A A' C (wbS S C l.sec) (wbC S C l.sec) 1) ∧ (wbE S C l.sec = 0 → ∃ g cap n, w'.cell? ⟨A.q, 3, none⟩ = some (.slice (some ⟨g, 0, none⟩) n cap) ∧ n ≤ 1024 ∧ (i : Int) < (n : Int) ∧ w'.cell? ⟨g, i * 3, none⟩ = some (.int .i64 l.sec))) := fun W hW i l hl hd => by
    obtain ⟨q, rfl⟩ := hW
    refine (rback_at (h.drewN q) (by simp only [Qa.pot] at hq; omega) hl hd).mono ?_
    rintro r w' ⟨rfl, A', ha'⟩
    have ha := ha'.from_later (K.below_drewN w q) h.lt
    refine ⟨rfl, ⟨A', ha.more (by split <;> omega)⟩, fun he => ?_⟩
    obtain ⟨ao2, cap2, hv2⟩ := ha.rq.form
    have hat := at_line h.sd (List.mem_of_getElem? hl)
    have hl2 : (wbC S C l.sec).L[i]? = some (cleaned l) := by
      rw [wbC_L hat he, cleanL_at h.sd hl]
      have hjl := (List.getElem?_eq_some_iff.1 hl).1
      rw [List.getElem?_append_right (by rw [List.length_take]; omega), List.length_take, Nat.min_eq_left (by omega), Nat.sub_self]
      rfl
    obtain ⟨g, rfl, k0, _⟩ := ha.rq.see hv2 hl2
    have hil := (List.getElem?_eq_some_iff.1 hl2).1
    have hln2 := ha.rq.ln
    refine ⟨g, cap2, A'.X.length, ?_, ha.rq.x1024, by omega, k0⟩
    have := ha.rq.c 3
    rw [ha.q] at this
    rw [this]
    show some A'.lv = _
    rw [hv2]
  have H0 : Hid (∀ W, (∃ q, W = w.drewN q) → QAct w W A A C S C 1) := fun W hW => by obtain ⟨q, rfl⟩ := hW; exact ((QAct.refl h).drewN q).more (by omega)
  have HR : Hid (∀ l, C.L.find? dirtyData = some l → (wbE S C l.sec = 0 → backR S C = ((l.sec : Int), 0, wbS S C l.sec, wbC S C l.sec)) ∧ (wbE S C l.sec = 33 → backR S C = (-1, 33, wbS S C l.sec, wbC S C l.sec))) := fun l hl => by
    unfold backR; rw [hl]; simp only
    exact ⟨fun he => by rw [if_pos he], fun he => by rw [if_neg (by omega)]⟩
  have HR0 : Hid (C.L.find? dirtyData = none → backR S C = (-1, 0, S, C)) := fun hl => by unfold backR; rw [hl]
  obtain ⟨n, hn⟩ : ∃ n, n = A.X.length := ⟨_, rfl⟩
  rw [← hn] at c3 hx1 hln
  have HLn : Hid (n = C.L.length) := hln
  clear h hv hq hn hln
  go_enter Tryz.func32, Tryz.ntmps32
  go_wp2
  go_loopw [4] (fun iv wk => ∃ (i : Nat), i ≤ n ∧ iv = .int .i64 i ∧ Hid (∃ q, wk = w.drewN q) ∧ Hid (∀ (j : Nat) x, j < i → C.L[j]? = some x → dirtyData x = false)) (fun iv _ => n - (intOf iv).toNat)
  case atStart => exact ⟨0, Nat.zero_le _, rfl, ⟨0, rfl⟩, fun j x hj => by omega⟩
  case round =>
    obtain ⟨i, hi, rfl, HWk, HF⟩ := hrel
    have d3 := c3 wr HWk.out
    by_cases hlt : i < n
    · have hiz : (i : Int) < (n : Int) := by omega
      obtain ⟨l, hl⟩ : ∃ l, C.L[i]? = some l := ⟨_, List.getElem?_eq_getElem (by have := HLn.out; omega)⟩
      obtain ⟨g, rfl, k0, k2⟩ := HS.out wr HWk.out i l hl
      have hno := HNo.out wr HWk.out l (List.mem_of_getElem? hl)
      have HLi : Hid (C.L[i]? = some l) := hl
      clear hl
      go_wp2_with fail
      refine Calls.mono hno ?_
      clear hno
      rintro r wk ⟨rfl, hwk⟩
      obtain ⟨g', e, k0', k2'⟩ := HS.out wk hwk i l HLi.out
      cases e
      have d3' := c3 wk hwk
      have HWw : Hid (∃ q, wk = w.drewN q) := hwk
      clear k0 k2 d3 hwk HWk
      have HNx : Hid (dirtyData l = false → ∀ (j : Nat) x, j < i + 1 → C.L[j]? = some x → dirtyData x = false) := fun hd j x hj hx => by
        by_cases e : j = i
        · subst e; rw [HLi.out] at hx; cases hx; exact hd
        · exact HF.out j x (by omega) hx
      cases hnt : l.note with
      | true =>
        have HN2 := HNx.out (by simp [dirtyData, hnt])
        have HN3 : Hid (∀ (j : Nat) x, j < i + 1 → C.L[j]? = some x → dirtyData x = false) := HN2
        clear HN2 HNx
        go_wp2
        go_roundw
        case rel => exact ⟨i + 1, by omega, by go_num, HWw, HN3⟩
        case measure => simp [intOf]; omega
      | false =>
        cases hdy : l.dirty with
        | false =>
          rw [hdy] at k2'
          have HN3 : Hid (∀ (j : Nat) x, j < i + 1 → C.L[j]? = some x → dirtyData x = false) := HNx.out (by simp [dirtyData, hdy])
          clear HNx
          go_wp2
          go_roundw
          case rel => exact ⟨i + 1, by omega, by go_num, HWw, HN3⟩
          case measure => simp [intOf]; omega
        | true =>
          rw [hdy] at k2'
          have hff : C.L.find? dirtyData = some l := find_1st HLi.out (by simp [dirtyData, hdy, hnt]) (fun j x hj hx => HF.out j x hj hx)
          have hbk := HBk.out wk HWw.out i l HLi.out hdy
          obtain ⟨hr1, hr2⟩ := HR.out l hff
          rcases wbE_two S C l.sec with he | he
          · have HE : Hid _ := hr1 he
            rw [he] at hbk
            clear hr1 hr2 hff HNx HBk
            go_wp2_with fail
            refine Calls.mono hbk ?_
            clear hbk
            rintro r w9 ⟨rfl, ha9, hz⟩
            obtain ⟨g9, cap9, n9, q3, hn9, hi9, q0⟩ := hz (by first | exact trivial | rfl)
            have HA9 : Hid _ := ha9
            clear ha9 hz
            go_wp2
            refine bodyPost_ret (results_tmp2 rfl _ _ _) rfl ?_
            show BaP _ _ _ _ _ _
            rw [HE.out]
            exact ⟨rfl, HA9.out⟩
          · have HE : Hid _ := hr2 he
            rw [he] at hbk
            clear hr1 hr2 hff HNx HBk
            go_wp2_with fail
            refine Calls.mono hbk ?_
            clear hbk
            rintro r w9 ⟨rfl, ha9, hz⟩
            have HA9 : Hid _ := ha9
            clear ha9 hz
            go_wp2
            refine bodyPost_ret (results_tmp2 rfl _ _ _) rfl ?_
            show BaP _ _ _ _ _ _
            rw [HE.out]
            exact ⟨rfl, HA9.out⟩
    · have hiz : ¬ (i : Int) < (n : Int) := by omega
      have HE : Hid (backR S C = (-1, 0, S, C)) := HR0.out (find_no (fun j x hx => HF.out j x (by have := (List.getElem?_eq_some_iff.1 hx).1; have := HLn.out; omega) hx))
      have HA := H0.out wr HWk.out
      have HA9 : Hid (QAct w wr A A C S C 1) := HA
      clear HA
      go_wp2
      refine bodyPost_ret (results_tmp2 rfl _ _ _) rfl ?_
      show BaP _ _ _ _ _ _
      rw [HE.out]
      exact ⟨rfl, A, HA9.out⟩
/-- Peek, Dirty, Safe -/
theorem rDirty_any (h : RQ w A S C) (s : Int) : Calls Tryz.prog 84 #[.pointer (some ⟨A.q, 0, none⟩), .int .i64 s] w fun r w' => r = .returned (.bool (dirtyAt C.L s)) ∧ w' = w := by
  cases hl : lineAt C.L s with
  | none =>
    have hfi := rfind_none h hl
    have hd : dirtyAt C.L s = false := by unfold dirtyAt; rw [hl]
    rw [hd]
    clear h hl hd
    go_enter Tryz.func84, Tryz.ntmps84
    go_wp2_with (go_at_call 48; refine hfi.mono ?_; rintro e w9 ⟨rfl, hw9⟩; rw [hw9]; clear hw9)
    go_ret
    exact ⟨rfl, rfl⟩
  | some l =>
    obtain ⟨hlm, hls⟩ := lineAt_mem hl
    obtain ⟨i, hil⟩ := List.getElem?_of_mem hlm
    have hfi := rfind_at h hil
    rw [hls] at hfi
    obtain ⟨ao, cap, hv⟩ := h.form
    obtain ⟨g, rfl, k0, k2⟩ := h.see hv hil
    have c3 : w.cell? ⟨A.q, 3, none⟩ = some (.slice (some ⟨g, 0, none⟩) A.X.length cap) := by rw [← hv]; exact h.c 3
    have hx1 := h.x1024
    have hln := h.ln
    have hil2 := (List.getElem?_eq_some_iff.1 hil).1
    have hiz : (i : Int) < (A.X.length : Int) := by omega
    have hi0 : (i : Int) ≥ 0 := by omega
    have hd : dirtyAt C.L s = l.dirty := by unfold dirtyAt; rw [hl]
    rw [hd]
    generalize A.X.length = n at *
    clear h hl hd hlm hls hil hv hln hil2
    go_enter Tryz.func84, Tryz.ntmps84
    go_wp2_with (go_at_call 48; refine hfi.mono ?_; rintro e w9 ⟨rfl, hw9⟩; rw [hw9]; clear hw9)
    go_ret
    exact ⟨rfl, rfl⟩
end
end Go.Proofs.YtlacligofhinmaaGreat.C
