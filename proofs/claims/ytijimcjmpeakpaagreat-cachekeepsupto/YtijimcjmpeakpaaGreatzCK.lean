import Derived.Test.YtijimcjmpeakpaaGreatG37
namespace Go.Proofs.YtijimcjmpeakpaaGreat.C
open Go.RowKit Go.Maps Go.Shelf Go.Sort Go.Proofs.YtijimcjmpeakpaaGreat
attribute [local go_sem] Oper.semAt_some
set_option linter.unusedVariables false
set_option linter.unusedSimpArgs false
set_option maxRecDepth 100000

/-- a line is clean from now on -/
def cleanL (L : List Ln) (s : Int) : List Ln := L.map fun x => if (x.sec : Int) = s then cleaned x else x
theorem cleanL_split {L1 L2 : List Ln} {l : Ln} (hd : ((L1 ++ l :: L2).map (fun l => (l.sec : Int))).Nodup) : cleanL (L1 ++ l :: L2) l.sec = L1 ++ cleaned l :: L2 := by
  simp only [List.map_append, List.map_cons, List.nodup_append, List.nodup_cons, List.mem_map, List.mem_cons] at hd
  unfold cleanL
  rw [List.map_append, List.map_cons, if_pos rfl]
  congr 1
  · conv => rhs; rw [← List.map_id L1]
    refine List.map_congr_left fun x hx => ?_
    rw [if_neg (fun e => hd.2.2 x.sec ⟨x, hx, rfl⟩ l.sec (.inl rfl) e)]; rfl
  · congr 1
    conv => rhs; rw [← List.map_id L2]
    refine List.map_congr_left fun x hx => ?_
    rw [if_neg (fun e => hd.2.1.1 ⟨x, hx, e⟩)]; rfl
def wbE (S : K.Dk) (C : Ch) (s : Int) : Int := match lineAt C.L s with
  | some l => if K.wrE S l.sec l.dat = 0 then 0 else 33
  | none => 0
def wbS (S : K.Dk) (C : Ch) (s : Int) : K.Dk := match lineAt C.L s with
  | some l => K.wrS S l.sec l.dat
  | none => S
def wbC (S : K.Dk) (C : Ch) (s : Int) : Ch := match lineAt C.L s with
  | some l => if K.wrE S l.sec l.dat = 0 then { C with L := cleanL C.L s, st := { C.st with written := K.inc C.st.written } } else C
  | none => C
theorem wb_c {w : World} {P : Loc} {S : K.Dk} {C : Ch} (h : RC w P S C) (hf : K.FsOk S.fs) (hq : S.q.length < 1048576) {s : Int} (hs : ∃ l ∈ C.L, (l.sec : Int) = s) :
    Calls Tryz.prog 59 #[.pointer (some ⟨P.bc, 0, none⟩), .int .i64 s] w fun r w' => r = .returned (.int .i64 (wbE S C s)) ∧ ∃ P', CAct w w' P P' C (wbS S C s) (wbC S C s) := by
  obtain ⟨l, hl, rfl⟩ := hs
  obtain ⟨L1, L2, hL, _, _⟩ := lineAt_split (h.atLine hl)
  unfold wbE wbS wbC
  rw [h.atLine hl]
  simp only
  have hd := h.sd
  rw [hL] at hd
  have := writeBack_c h hf hq hL
  rw [show cleanL C.L l.sec = L1 ++ cleaned l :: L2 by rw [hL]; exact cleanL_split hd]
  exact this
/-- how many lines are dirty -/
def dirtyN (L : List Ln) : Nat := (L.filter (·.dirty)).length
theorem dirtyN_clean {L1 L2 : List Ln} {l : Ln} (hd : l.dirty = true) : dirtyN (L1 ++ cleaned l :: L2) + 1 = dirtyN (L1 ++ l :: L2) := by
  simp [dirtyN, List.filter_append, List.filter_cons, cleaned, hd]
  omega
theorem wrS_ql (S : K.Dk) (s : Int) (l : List Nat) (h : K.wrE S s l = 33 ∨ K.wrE S s l = 0) : (K.wrS S s l).q.length ≤ S.q.length + 1 := K.wrS_q S s l
/-- the dirty lines of these sectors, in this order, as far as the disk takes them -/
def backs : List Int → K.Dk → Ch → Int × K.Dk × Ch
  | [], S, C => (0, S, C)
  | s :: ks, S, C => if wbE S C s = 0 then backs ks (wbS S C s) (wbC S C s) else (33, wbS S C s, wbC S C s)
theorem backs_cons (s : Int) (ks : List Int) (S : K.Dk) (C : Ch) : backs (s :: ks) S C = if wbE S C s = 0 then backs ks (wbS S C s) (wbC S C s) else (33, wbS S C s, wbC S C s) := rfl
def settleR (ks : List Int) (S : K.Dk) (C : Ch) : Int × K.Dk × Ch :=
  if (backs ks S C).1 = 0 then ((if K.baE (backs ks S C).2.1 = 0 then 0 else 33), K.baS (backs ks S C).2.1, (backs ks S C).2.2) else backs ks S C
theorem wbS_ok {S : K.Dk} {C : Ch} {s : Int} (h : K.FsOk S.fs) : K.FsOk (wbS S C s).fs := by
  unfold wbS
  split
  · exact K.wrS_ok h _ _
  · exact h
/-- these sectors have dirty lines, each once -/
structure Dirt (ks : List Int) (C : Ch) : Prop where
  nd : ks.Nodup
  has : ∀ s ∈ ks, ∃ l ∈ C.L, (l.sec : Int) = s ∧ l.dirty = true
theorem mem_cleanL {L : List Ln} {s : Int} {l : Ln} (hl : l ∈ L) (hs : (l.sec : Int) ≠ s) : l ∈ cleanL L s := by
  unfold cleanL
  exact List.mem_map.2 ⟨l, hl, if_neg hs⟩
theorem Dirt.next {w : World} {P : Loc} {S : K.Dk} {C : Ch} {s : Int} {ks : List Int} (h : RC w P S C) (hd : Dirt (s :: ks) C) (he : wbE S C s = 0) :
    Dirt ks (wbC S C s) ∧ (wbS S C s).q.length + dirtyN (wbC S C s).L ≤ S.q.length + dirtyN C.L := by
  obtain ⟨l, hl, rfl, hdy⟩ := hd.has s (by simp)
  obtain ⟨L1, L2, hL, _, _⟩ := lineAt_split (h.atLine hl)
  have hsd := h.sd
  rw [hL] at hsd
  unfold wbE at he
  unfold wbS wbC
  rw [h.atLine hl] at he ⊢
  simp only at he ⊢
  by_cases hw : K.wrE S l.sec l.dat = 0
  · rw [if_pos hw]
    refine ⟨⟨(List.nodup_cons.1 hd.nd).2, fun t ht => ?_⟩, ?_⟩
    · obtain ⟨x, hx, rfl, hxd⟩ := hd.has t (by simp [ht])
      refine ⟨x, mem_cleanL hx (fun e => (List.nodup_cons.1 hd.nd).1 (by rw [← e]; exact ht)), rfl, hxd⟩
    · have h1 := K.wrS_q S l.sec l.dat
      have h2 : dirtyN (cleanL C.L l.sec) + 1 = dirtyN C.L := by rw [hL, cleanL_split hsd]; exact dirtyN_clean hdy
      simp only
      omega
  · rw [if_neg hw] at he
    omega
set_option maxHeartbeats 4000000 in
theorem settle_c {w : World} {P : Loc} {S : K.Dk} {C : Ch} (h : RC w P S C) (hf : K.FsOk S.fs) (hq : S.q.length + dirtyN C.L < 1048576) {ks : List Int} {v : Value} {B : Nat} (hrow : w.ownsRow B TIn 1 v ks.length (IV ks)) (hfar : ∀ g, v.ownBlock = some g → g ∉ P.fp C.L) (hd : Dirt ks C) (hkl : ks.length ≤ 65536) :
    Calls Tryz.prog 52 #[.pointer (some ⟨P.bc, 0, none⟩), v] w fun r w' => r = .returned (.int .i64 (settleR ks S C).1) ∧ ∃ P', CAct w w' P P' C (settleR ks S C).2.1 (settleR ks S C).2.2 := by
  obtain ⟨ao, cap, rfl⟩ := int_form hrow
  obtain ⟨n, hn⟩ : ∃ n, n = ks.length := ⟨_, rfl⟩
  rw [← hn] at hrow hkl ⊢
  have HN : Hid (n = ks.length) := hn
  have HROW : Hid (∀ w', K.Kp w w' (P.fp C.L) → ∀ (k : Nat) (x : Int), ks[k]? = some x → ∃ g, ao = some ⟨g, 0, none⟩ ∧ w'.cell? ⟨g, k, none⟩ = some (.int .i64 x)) := fun w' hk k x hx => by
    rcases hrow.2 with ⟨hv, h0⟩ | ⟨g, cap', cur, hv, _, hg, _⟩
    · have := (List.getElem?_eq_some_iff.1 hx).1; omega
    · simp only [Value.slice.injEq] at hv
      obtain ⟨rfl, _, _⟩ := hv
      refine ⟨g, rfl, ?_⟩
      have c1 := hrow.cells (g := g) rfl k _ (IV_get hx)
      rw [WideShapes.add_plain, Nat.zero_add] at c1
      have hb := hk.block g (Array.getElem?_eq_some_iff.1 hg).1 (hfar g rfl)
      unfold World.cell? at c1 ⊢
      rw [hb]; exact c1
  have HBC : Hid (∀ w' P' S' C', CAct w w' P P' C S' C' → w'.cell? ⟨P.bc, 0, none⟩ = some (.pointer (some ⟨P.bd, 0, none⟩))) := fun w' P' S' C' ha => by
    have := ha.rc.c 0
    rw [ha.bc] at this
    rw [this, ← ha.bd]; rfl
  have H0 : Hid (∃ P', CAct w w P P' C S C) := ⟨P, CAct.refl h⟩
  have HD0 : Hid (Dirt ks C) := hd
  have HF0 : Hid (K.FsOk S.fs) := hf
  have HQ0 : Hid (S.q.length + dirtyN C.L < 1048576) := hq
  clear h hrow hfar hd hf hn hq
  go_enter Tryz.func52, Tryz.ntmps52
  go_wp2
  go_loopw [10] (fun i wr => ∃ (k : Nat) (S1 : K.Dk) (C1 : Ch), k ≤ n ∧ i = .int .i64 k ∧ Hid ((∃ P1, CAct w wr P P1 C S1 C1) ∧ Dirt (ks.drop k) C1 ∧ K.FsOk S1.fs ∧ S1.q.length + dirtyN C1.L < 1048576 ∧ backs ks S C = backs (ks.drop k) S1 C1)) (fun i _ => n - (intOf i).toNat)
  case atStart => exact ⟨0, S, C, Nat.zero_le _, rfl, H0.out, HD0.out, HF0.out, HQ0.out, rfl⟩
  case round =>
    obtain ⟨k, S1, C1, hk, rfl, HI⟩ := hrel
    obtain ⟨⟨P1, ha⟩, hd, hf, hq, hbk⟩ := HI.out
    by_cases hlt : k < n
    · have hkz : (k : Int) < (n : Int) := by omega
      obtain ⟨x, hx⟩ : ∃ x, ks[k]? = some x := ⟨_, List.getElem?_eq_getElem (by have := HN.out; omega)⟩
      obtain ⟨g, rfl, c1⟩ := HROW.out wr ha.kp k x hx
      have hdr : ks.drop k = x :: ks.drop (k + 1) := by
        have hk' : k < ks.length := by have := HN.out; omega
        rw [List.drop_eq_getElem_cons hk']
        congr 1
        rw [List.getElem?_eq_getElem hk'] at hx
        simpa using hx
      rw [hdr] at hd hbk
      obtain ⟨l, hl, hls, _⟩ := hd.has x (by simp)
      have hwb := wb_c ha.rc hf (by omega) ⟨l, hl, hls⟩
      rw [ha.bc] at hwb
      have HWB : Hid (Calls Tryz.prog 59 #[.pointer (some ⟨P.bc, 0, none⟩), .int .i64 x] wr fun r w' => r = .returned (.int .i64 (wbE S1 C1 x)) ∧ ∃ P', CAct w w' P P' C (wbS S1 C1 x) (wbC S1 C1 x)) := by
        refine hwb.mono ?_
        rintro r w' ⟨rfl, P', ha'⟩
        exact ⟨rfl, P', ha.trans ha'⟩
      rw [backs_cons] at hbk
      by_cases he : wbE S1 C1 x = 0
      · have hdn := hd.next ha.rc he
        rw [if_pos he] at hbk
        have HX : Hid (Dirt (ks.drop (k + 1)) (wbC S1 C1 x) ∧ K.FsOk (wbS S1 C1 x).fs ∧ (wbS S1 C1 x).q.length + dirtyN (wbC S1 C1 x).L < 1048576 ∧ backs ks S C = backs (ks.drop (k + 1)) (wbS S1 C1 x) (wbC S1 C1 x)) := ⟨hdn.1, wbS_ok hf, by have := hdn.2; omega, hbk⟩
        simp only [he] at HWB
        clear hd hf hq hbk hdn ha hl hls hwb HI hx hdr
        go_wp2_with (go_at_call 59; refine HWB.out.mono ?_; rintro r w2 ⟨rfl, ha2⟩)
        go_roundw
        case rel => exact ⟨k + 1, _, _, by omega, by go_num, ha2, HX.out⟩
        case measure => simp [intOf]; omega
      · rw [if_neg he] at hbk
        have h33 : wbE S1 C1 x = 33 := by
          unfold wbE at he ⊢
          split
          · split
            · rename_i h1 h2; simp [h1, h2] at he
            · rfl
          · rename_i h1; simp [h1] at he
        have HX : Hid (settleR ks S C = (33, wbS S1 C1 x, wbC S1 C1 x)) := by show _ = _; unfold settleR; rw [hbk, if_neg (by simp)]
        simp only [h33] at HWB
        clear hd hf hq hbk ha hl hls hwb HI hx hdr
        go_wp2_with (go_at_call 59; refine HWB.out.mono ?_; rintro r w2 ⟨rfl, ha2⟩)
        go_ret
        rw [HX.out]
        exact ⟨rfl, ha2⟩
    · have hkz : ¬ (k : Int) < (n : Int) := by omega
      have hdr : ks.drop k = [] := List.drop_of_length_le (by have := HN.out; omega)
      rw [hdr] at hbk
      have c0 := HBC.out wr P1 S1 C1 ha
      have hba := K.barrier_gen ha.rc.rk hf (by omega)
      rw [ha.bd] at hba
      have HBA : Hid (Calls Tryz.prog 83 #[.pointer (some ⟨P.bd, 0, none⟩)] wr fun r w' => r = .returned (.int .i64 (K.baE S1)) ∧ ∃ P', CAct w w' P P' C (K.baS S1) C1) := by
        refine hba.mono ?_
        rintro r w' ⟨rfl, ml', qv', fv1, hda⟩
        rw [← ha.bd] at hda
        exact ⟨rfl, _, ha.trans (ha.rc.disk (baS_n S1) hda)⟩
      have HX : Hid (settleR ks S C = ((if K.baE S1 = 0 then 0 else 33), K.baS S1, C1)) := by show _ = _; unfold settleR; rw [hbk]; rfl
      clear hd hf hq hbk ha hba HI hdr
      rcases baE_two S1 with he | he
      · simp only [he, if_true] at HX HBA
        go_wp2_with (go_at_call 83; refine HBA.out.mono ?_; rintro r w2 ⟨rfl, ha2⟩)
        go_ret
        rw [HX.out]
        exact ⟨rfl, ha2⟩
      · simp only [he, show ((33 : Int) = 0) = False by simp, if_false] at HX HBA
        go_wp2_with (go_at_call 83; refine HBA.out.mono ?_; rintro r w2 ⟨rfl, ha2⟩)
        go_ret
        rw [HX.out]
        exact ⟨rfl, ha2⟩
end Go.Proofs.YtijimcjmpeakpaaGreat.C
