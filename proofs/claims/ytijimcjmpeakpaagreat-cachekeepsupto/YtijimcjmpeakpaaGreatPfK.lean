import Derived.Test.YtijimcjmpeakpaaGreatH1
import Derived.Deep.RegionHeld3
import Derived.Test.YtijimcjmpeakpaaGreatRows
namespace Go.Proofs.YtijimcjmpeakpaaGreat.C
open Go.RowKit Go.Maps Go.Shelf Go.Proofs.YtijimcjmpeakpaaGreat
attribute [local go_sem] Oper.semAt_some
set_option linter.unusedVariables false
set_option linter.unusedSimpArgs false
set_option maxRecDepth 100000

/-- is a sector's line dirty? -/
def dirtyAt (L : List Ln) (s : Int) : Bool := match lineAt L s with
  | some l => l.dirty
  | none => false
def safeAt (S : K.Dk) (C : Ch) (s : Int) : Bool := K.inD S.n s && !dirtyAt C.L s && !K.waitsI S.q s
section
variable {w w' : World} {P : Loc} {S S' : K.Dk} {C C' : Ch}
theorem dirty_c (h : RC w P S C) {s : Int} (hs : I.wfK s) : Calls Tryz.prog 29 #[.pointer (some ⟨P.bc, 0, none⟩), .int .i64 s] w fun r w' => r = .returned (.bool (dirtyAt C.L s)) ∧ w' = w := by
  have hu := usable_c h
  have c3 : w.cell? ⟨P.bc, 3, none⟩ = some (.map (some P.bl)) := h.c 3
  have hlk := h.look hs
  unfold dirtyAt
  cases hl : lineAt C.L s with
  | none =>
    rw [hl] at hlk
    simp only [linePtr] at hlk ⊢
    have e1 := neq_lp_none
    clear h
    go_enter Tryz.func29, Tryz.ntmps29
    go_wp2_with (go_at_call 41; refine hu.mono ?_; rintro e w9 ⟨rfl, hw9⟩; rw [hw9]; clear hw9)
    go_ret
    exact ⟨rfl, rfl⟩
  | some l =>
    rw [hl] at hlk
    have hd : w.cell? ⟨l.blk, 512, none⟩ = some (.bool l.dirty) := (h.lcell (lineAt_mem hl).1 512).trans (lcells_dirty (h.ok l (lineAt_mem hl).1).2)
    simp only [linePtr] at hlk ⊢
    have e1 := neq_lp_some
    clear h hl
    go_enter Tryz.func29, Tryz.ntmps29
    go_wp2_with (go_at_call 41; refine hu.mono ?_; rintro e w9 ⟨rfl, hw9⟩; rw [hw9]; clear hw9)
    go_ret
    exact ⟨rfl, rfl⟩
theorem safe_c (h : RC w P S C) {s : Int} (hs : I.wfK s) : Calls Tryz.prog 30 #[.pointer (some ⟨P.bc, 0, none⟩), .int .i64 s] w fun r w' => r = .returned (.bool (safeAt S C s)) ∧ CAct w w' P P C S C := by
  have hu := usable_c h
  have hh := has_c h s
  have HD : Hid (∀ w1, CAct w w1 P P C S C → Calls Tryz.prog 29 #[.pointer (some ⟨P.bc, 0, none⟩), .int .i64 s] w1 fun r w' => r = .returned (.bool (dirtyAt C.L s)) ∧ w' = w1) := fun w1 ha => dirty_c ha.rc hs
  have HW : Hid (∀ w1, CAct w w1 P P C S C → w1.cell? ⟨P.bc, 0, none⟩ = some (.pointer (some ⟨P.bd, 0, none⟩)) ∧ Calls Tryz.prog 65 #[.pointer (some ⟨P.bd, 0, none⟩), .int .i64 s] w1 fun r w' => r = .returned (.bool (K.waitsI S.q s)) ∧ CAct w w' P P C S C) := fun w1 ha => ⟨ha.rc.c 0, (K.waits_gen ha.rc.rk hs).mono (by
    rintro r w' ⟨rfl, hda⟩
    exact ⟨rfl, ha.trans (ha.rc.dsame hda)⟩)⟩
  have H0 : Hid (CAct w w P P C S C) := CAct.refl h
  unfold safeAt
  clear h
  generalize K.inD S.n s = b at *
  generalize dirtyAt C.L s = d at *
  generalize K.waitsI S.q s = q at *
  go_enter Tryz.func30, Tryz.ntmps30
  cases b
  · go_wp2_with (first | (go_at_call 41; refine hu.mono ?_; rintro e w9 ⟨rfl, hw9⟩; rw [hw9]; clear hw9) | (go_at_call 54; refine hh.mono ?_; rintro e w8 ⟨rfl, ha⟩))
    go_ret
    exact ⟨rfl, ha⟩
  · cases d
    · go_wp2_with (first | (go_at_call 41; refine hu.mono ?_; rintro e w9 ⟨rfl, hw9⟩; rw [hw9]; clear hw9) | (go_at_call 54; refine hh.mono ?_; clear hh; rintro e w8 ⟨rfl, ha⟩) | (go_at_call 29; refine (HD.out w8 ha).mono ?_; rintro e w7 ⟨rfl, hw7⟩; rw [hw7]; clear hw7; obtain ⟨c0, hw⟩ := HW.out w8 ha) | (go_at_call 65; refine hw.mono ?_; clear hw; rintro e w6 ⟨rfl, ha6⟩))
      go_ret
      exact ⟨by simp, ha6⟩
    · go_wp2_with (first | (go_at_call 41; refine hu.mono ?_; rintro e w9 ⟨rfl, hw9⟩; rw [hw9]; clear hw9) | (go_at_call 54; refine hh.mono ?_; clear hh; rintro e w8 ⟨rfl, ha⟩) | (go_at_call 29; refine (HD.out w8 ha).mono ?_; rintro e w7 ⟨rfl, hw7⟩; rw [hw7]; clear hw7))
      go_ret
      exact ⟨rfl, ha⟩
/-- Back -/
def backR (S : K.Dk) (C : Ch) : Int × Int × K.Dk × Ch := match C.L.find? dirtyData with
  | none => (-1, 0, S, C)
  | some l => if wbE S C l.sec = 0 then (l.sec, 0, wbS S C l.sec, wbC S C l.sec) else (-1, 33, wbS S C l.sec, wbC S C l.sec)
set_option maxHeartbeats 2000000 in
theorem back_c (h : RC w P S C) (hf : K.FsOk S.fs) (hq : S.q.length < 1048576) :
    Calls Tryz.prog 26 #[.pointer (some ⟨P.bc, 0, none⟩)] w fun r w' => r = .returned (.tuple #[.int .i64 (backR S C).1, .int .i64 (backR S C).2.1]) ∧ ∃ P', CAct w w' P P' C (backR S C).2.2.1 (backR S C).2.2.2 := by
  have hu := usable_c h
  have hlb := least_back h
  have hmf : ∀ (fn : Fn) (first cap : Array Value) (w : World), (Instr.makeFunc fn first cap).run Tryz.prog w = .ok (.func fn first cap) w := fun _ _ _ _ => rfl
  have HA : Hid (∀ w1, Below w.heap.size w w1 → CAct w w1 P P C S C) := fun w1 hb => (CAct.refl h).later hb
  unfold backR
  cases hfd : C.L.find? dirtyData with
  | none =>
    rw [hfd] at hlb
    simp only [secOf, Option.isSome_none] at hlb ⊢
    have HLB : Hid (Calls Tryz.prog 57 #[.pointer (some ⟨P.bc, 0, none⟩), .func (.func 58) #[] #[]] w fun r w' => r = .returned (.tuple #[.int .i64 0, .bool false]) ∧ Below w.heap.size w w') := hlb
    clear h hf hq hlb hfd
    go_enter Tryz.func26, Tryz.ntmps26
    go_wp2_with (first | (go_at_call 41; refine hu.mono ?_; rintro e w9 ⟨rfl, hw9⟩; rw [hw9]; clear hw9) | (go_at_call 57; refine HLB.out.mono ?_; rintro e w1 ⟨rfl, hb1⟩))
    refine bodyPost_ret (results_tmp2 rfl _ _ _) rfl ?_
    exact ⟨rfl, P, HA.out _ hb1⟩
  | some l =>
    rw [hfd] at hlb
    simp only [secOf, Option.isSome_some] at hlb ⊢
    have hl := (find_mem hfd).1
    have HLB : Hid (Calls Tryz.prog 57 #[.pointer (some ⟨P.bc, 0, none⟩), .func (.func 58) #[] #[]] w fun r w' => r = .returned (.tuple #[.int .i64 l.sec, .bool true]) ∧ Below w.heap.size w w') := hlb
    have HWB : Hid (∀ w1, Below w.heap.size w w1 → Calls Tryz.prog 59 #[.pointer (some ⟨P.bc, 0, none⟩), .int .i64 l.sec] w1 fun r w' => r = .returned (.int .i64 (wbE S C l.sec)) ∧ ∃ P', CAct w w' P P' C (wbS S C l.sec) (wbC S C l.sec)) := fun w1 hb => by
      refine (wb_c (h.later hb) hf hq ⟨l, hl, rfl⟩).mono ?_
      rintro r w' ⟨rfl, P', ha⟩
      exact ⟨rfl, P', ha.from_later hb h.lt⟩
    clear h hf hq hlb hfd hl HA
    rcases wbE_two S C l.sec with he | he
    · rw [if_pos he]
      rw [he] at HWB
      go_enter Tryz.func26, Tryz.ntmps26
      go_wp2_with (first | (go_at_call 41; refine hu.mono ?_; rintro e w9 ⟨rfl, hw9⟩; rw [hw9]; clear hw9) | (go_at_call 57; refine HLB.out.mono ?_; rintro e w1 ⟨rfl, hb1⟩) | (go_at_call 59; refine (HWB.out w1 hb1).mono ?_; rintro e w2 ⟨rfl, ha2⟩))
      refine bodyPost_ret (results_tmp2 rfl _ _ _) rfl ?_
      exact ⟨rfl, ha2⟩
    · rw [if_neg (by omega)]
      rw [he] at HWB
      go_enter Tryz.func26, Tryz.ntmps26
      go_wp2_with (first | (go_at_call 41; refine hu.mono ?_; rintro e w9 ⟨rfl, hw9⟩; rw [hw9]; clear hw9) | (go_at_call 57; refine HLB.out.mono ?_; rintro e w1 ⟨rfl, hb1⟩) | (go_at_call 59; refine (HWB.out w1 hb1).mono ?_; rintro e w2 ⟨rfl, ha2⟩))
      refine bodyPost_ret (results_tmp2 rfl _ _ _) rfl ?_
      exact ⟨rfl, ha2⟩
end
end Go.Proofs.YtijimcjmpeakpaaGreat.C

namespace Go.Proofs.YtijimcjmpeakpaaGreat.C
open Go.RowKit Go.Maps Go.Shelf Go.Proofs.YtijimcjmpeakpaaGreat
set_option linter.unusedVariables false
set_option linter.unusedSimpArgs false
set_option maxRecDepth 100000

/-- what a sector reads, through the cache -/
def seen (S : K.Dk) (C : Ch) (s : Nat) : K.Bl := match lineAt C.L s with
  | some l => l.dat
  | none => K.look S s
/-- a clean line has what the disk reads -/
structure Good (S : K.Dk) (C : Ch) : Prop where
  nd : (secs C.L).Nodup
  cl : ∀ l ∈ C.L, l.dirty = false → l.dat = K.look S l.sec
structure Sees (S : K.Dk) (C : Ch) (S' : K.Dk) (C' : Ch) : Prop where
  good : Good S' C'
  eq : ∀ s : Nat, seen S' C' s = seen S C s
theorem Sees.refl {S : K.Dk} {C : Ch} (h : Good S C) : Sees S C S C := ⟨h, fun _ => rfl⟩
theorem Sees.trans {S S1 S2 : K.Dk} {C C1 C2 : Ch} (h : Sees S C S1 C1) (k : Sees S1 C1 S2 C2) : Sees S C S2 C2 := ⟨k.good, fun s => (k.eq s).trans (h.eq s)⟩
theorem look_push (S : K.Dk) (s : Nat) (l : K.Bl) (S' : K.Dk) (hq : S'.q = S.q ++ [(s, l)]) (hs : S'.safe = S.safe) (t : Nat) : K.look S' t = if t = s then l else K.look S t := by
  unfold K.look
  rw [hq, hs, K.lastQ_snoc]
  by_cases e : t = s
  · rw [if_pos e, if_pos e.symm]; rfl
  · rw [if_neg e, if_neg (fun h => e h.symm)]
theorem look_same (S S' : K.Dk) (hq : S'.q = S.q) (hs : S'.safe = S.safe) (t : Nat) : K.look S' t = K.look S t := by
  unfold K.look
  rw [hq, hs]
theorem failS_safe (S : K.Dk) (k s : Int) : (K.failS S k s).safe = S.safe := by unfold K.failS; split <;> rfl
theorem failS_q (S : K.Dk) (k s : Int) : (K.failS S k s).q = S.q := by unfold K.failS; split <;> rfl
/-- a write changes what one sector reads, or nothing at all -/
theorem look_wr (S : K.Dk) (s : Nat) (l : K.Bl) : ((∀ t, K.look (K.wrS S s l) t = K.look S t) ∧ K.wrE S s l ≠ 0) ∨ (∀ t, K.look (K.wrS S s l) t = if t = s then l else K.look S t) := by
  unfold K.wrS K.wrE
  by_cases h1 : K.inD S.n s = true
  · rw [if_pos h1, if_pos h1]
    by_cases h2 : l.length = 512
    · rw [if_pos h2, if_pos h2]
      by_cases h3 : K.hitF S.fs 2 s = true
      · rw [if_pos h3, if_pos h3]
        by_cases h4 : K.landF S.fs 2 s = true
        · rw [if_pos h4]
          exact .inr (look_push S s l _ (by simp [K.pushS, failS_q]) (by simp [K.pushS, failS_safe]))
        · rw [if_neg h4]
          exact .inl ⟨look_same S _ (failS_q _ _ _) (failS_safe _ _ _), by decide⟩
      · rw [if_neg h3, if_neg h3]
        exact .inr (look_push S s l _ (by simp [K.wrote, failS_q]) (by simp [K.wrote, failS_safe]))
    · rw [if_neg h2, if_neg h2]
      exact .inl ⟨fun _ => rfl, by decide⟩
  · rw [if_neg h1, if_neg h1]
    exact .inl ⟨fun _ => rfl, by decide⟩
theorem lay_all (q : List K.Pu) (f : Nat → K.Bl) (s : Nat) : ∀ n, K.layTo (fun _ => true) q f n s = (K.lastQ s (q.take n)).getD (f s)
  | 0 => by simp [K.layTo, K.lastQ]
  | n + 1 => by
    have ih := lay_all q f s n
    unfold K.layTo
    rw [List.take_add_one]
    cases hq : q[n]? with
    | none => simp; exact ih
    | some x =>
      simp only [if_true, Option.toList_some]
      rw [K.lastQ_snoc]
      simp only [K.upd]
      by_cases e : s = x.1
      · rw [if_pos e, if_pos e.symm]; rfl
      · rw [if_neg e, if_neg (fun h => e h.symm)]; exact ih
theorem look_ba (S : K.Dk) (t : Nat) : K.look (K.baS S) t = K.look S t := by
  unfold K.baS
  split
  · exact look_same _ _ (failS_q _ _ _) (failS_safe _ _ _) t
  · rw [← look_same S (K.failS S 3 (-1)) (failS_q _ _ _) (failS_safe _ _ _) t]
    generalize K.failS S 3 (-1) = T
    unfold K.look
    simp only [K.barred, K.settled]
    rw [lay_all, List.take_length]
    simp [K.lastQ]
theorem look_rd (S : K.Dk) (s : Int) (t : Nat) : K.look (K.rdS S s) t = K.look S t := by
  unfold K.rdS
  split
  · split
    · exact look_same _ _ (failS_q _ _ _) (failS_safe _ _ _) t
    · exact look_same _ _ (by simp [K.readS, failS_q]) (by simp [K.readS, failS_safe]) t
  · rfl
theorem look_fa (S : K.Dk) (f : K.Flt) (t : Nat) : K.look (K.faS S f) t = K.look S t := by
  unfold K.faS
  split
  · exact look_same _ _ rfl rfl t
  · rfl
/-- another disk that reads the same -/
theorem Good.disk {S S' : K.Dk} {C C' : Ch} (h : Good S C) (hl : ∀ t, K.look S' t = K.look S t) (hL : C'.L = C.L) : Sees S C S' C' := by
  refine ⟨⟨by rw [hL]; exact h.nd, fun l hm hd => ?_⟩, fun s => ?_⟩
  · rw [hL] at hm
    rw [hl]; exact h.cl l hm hd
  · unfold seen
    rw [hL]
    split
    · rfl
    · exact hl s
theorem lineAt_clean (L : List Ln) (s t : Int) : lineAt (cleanL L s) t = (lineAt L t).map fun x => if (x.sec : Int) = s then cleaned x else x := by
  induction L with
  | nil => rfl
  | cons x L ih =>
    unfold cleanL at ih ⊢
    rw [List.map_cons]
    unfold lineAt
    have e : (((if (x.sec : Int) = s then cleaned x else x) : Ln).sec : Int) = x.sec := by split <;> rfl
    rw [e]
    by_cases h : (x.sec : Int) = t
    · rw [if_pos h, if_pos h]; rfl
    · rw [if_neg h, if_neg h]; exact ih
theorem lineAt_append (A B : List Ln) (t : Int) : lineAt (A ++ B) t = (lineAt A t).or (lineAt B t) := by
  induction A with
  | nil => simp [lineAt]
  | cons x A ih =>
    show (if (x.sec : Int) = t then some x else lineAt (A ++ B) t) = (if (x.sec : Int) = t then some x else lineAt A t).or (lineAt B t)
    by_cases h : (x.sec : Int) = t
    · rw [if_pos h, if_pos h]; rfl
    · rw [if_neg h, if_neg h]; exact ih
theorem lineAt_drop (L : List Ln) (s t : Int) : lineAt (dropL L s) t = if t = s then none else lineAt L t := by
  induction L with
  | nil => simp [dropL, lineAt]
  | cons x L ih =>
    unfold dropL at ih ⊢
    rw [List.filter_cons]
    by_cases h : (x.sec : Int) = s
    · rw [if_neg (by simp [h])]
      rw [ih]
      by_cases ht : t = s
      · rw [if_pos ht, if_pos ht]
      · rw [if_neg ht, if_neg ht]
        conv => rhs; unfold lineAt
        rw [if_neg (fun e => ht (by omega))]
    · rw [if_pos (by simp [h])]
      by_cases ht : t = s
      · rw [if_pos ht] at ih ⊢
        unfold lineAt
        rw [if_neg (by omega)]
        exact ih
      · rw [if_neg ht] at ih ⊢
        unfold lineAt
        rw [ih]
theorem same_line {L : List Ln} (hd : (secs L).Nodup) {x l : Ln} (hx : x ∈ L) (hl : l ∈ L) (e : x.sec = l.sec) : x = l := by
  have h1 := at_line hd hx
  have h2 := at_line hd hl
  rw [e, h2] at h1
  cases h1
  rfl
/-- a line is written back -/
theorem wb_sees {S : K.Dk} {C : Ch} (g : Good S C) {l : Ln} (hl : l ∈ C.L) (hd : l.dirty = true) : Sees S C (wbS S C l.sec) (wbC S C l.sec) := by
  have ha := at_line g.nd hl
  unfold wbS wbC
  rw [ha]
  simp only
  rcases look_wr S l.sec l.dat with ⟨h1, h2⟩ | h1
  · rw [if_neg h2]
    exact g.disk h1 rfl
  · by_cases h2 : K.wrE S l.sec l.dat = 0
    · rw [if_pos h2]
      refine ⟨⟨by show (secs (cleanL C.L l.sec)).Nodup; rw [secs_cleanL]; exact g.nd, fun x hx hxd => ?_⟩, fun t => ?_⟩
      · obtain ⟨y, hy, e⟩ := List.mem_map.1 hx
        by_cases hys : (y.sec : Int) = l.sec
        · rw [if_pos hys] at e
          have := same_line g.nd hy hl (by omega)
          subst this
          subst e
          rw [h1]
          exact (if_pos rfl).symm
        · rw [if_neg hys] at e
          subst e
          rw [h1, if_neg (by omega)]
          exact g.cl y hy hxd
      · unfold seen
        simp only
        rw [lineAt_clean]
        cases hat : lineAt C.L t with
        | none =>
          simp only [Option.map_none]
          rw [h1, if_neg]
          rintro rfl
          rw [ha] at hat
          cases hat
        | some x =>
          simp only [Option.map_some]
          split <;> rfl
    · rw [if_neg h2]
      refine ⟨⟨g.nd, fun x hx hxd => ?_⟩, fun t => ?_⟩
      · rw [h1, if_neg]
        · exact g.cl x hx hxd
        · intro e
          have := same_line g.nd hx hl e
          subst this
          rw [hd] at hxd
          cases hxd
      · unfold seen
        cases hat : lineAt C.L t with
        | none =>
          simp only
          rw [h1, if_neg]
          rintro rfl
          rw [ha] at hat
          cases hat
        | some x => rfl
theorem backs_sees : ∀ (ks : List Int) (S : K.Dk) (C : Ch), Good S C → Dirt ks C → Sees S C (backs ks S C).2.1 (backs ks S C).2.2
  | [], S, C, g, _ => Sees.refl g
  | s :: ks, S, C, g, hd => by
    rw [backs_cons]
    obtain ⟨l, hl, rfl, hdy⟩ := hd.has s (by simp)
    have hw := wb_sees g hl hdy
    split
    · rename_i he
      exact hw.trans (backs_sees ks _ _ hw.good (dirt_next g.nd hd he).1)
    · exact hw
theorem settle_sees {ks : List Int} {S : K.Dk} {C : Ch} (g : Good S C) (hd : Dirt ks C) : Sees S C (settleR ks S C).2.1 (settleR ks S C).2.2 := by
  have h := backs_sees ks S C g hd
  unfold settleR
  split
  · exact h.trans (h.good.disk (look_ba _) rfl)
  · exact h
theorem flush_sees {S : K.Dk} {C : Ch} (g : Good S C) : Sees S C (flushR S C).2.1 (flushR S C).2.2 := by
  have h := settle_sees g (dirt_dl (p := isData) g.nd)
  unfold flushR
  split
  · split
    · exact h
    · exact h.trans (settle_sees h.good (dirt_dl (p := isNoted) h.good.nd))
  · exact h
theorem secs_drop (L : List Ln) (s : Int) (h : (secs L).Nodup) : (secs (dropL L s)).Nodup := (List.filter_sublist.map _).nodup h
/-- a line gives way, the disk has its bytes -/
theorem drop_sees {S S' : K.Dk} {C C' : Ch} (g : Good S C) {l : Ln} (hl : l ∈ C.L) (h1 : ∀ t, K.look S' t = if t = l.sec then l.dat else K.look S t) (hL : C'.L = dropL C.L l.sec) : Sees S C S' C' := by
  refine ⟨⟨by rw [hL]; exact secs_drop _ _ g.nd, fun x hx hxd => ?_⟩, fun t => ?_⟩
  · rw [hL] at hx
    obtain ⟨hx1, hx2⟩ := List.mem_filter.1 hx
    have hx3 : (x.sec : Int) ≠ l.sec := by simpa using hx2
    rw [h1, if_neg (by omega)]
    exact g.cl x hx1 hxd
  · unfold seen
    rw [hL, lineAt_drop]
    by_cases e : t = l.sec
    · subst e
      rw [if_pos rfl, at_line g.nd hl]
      simp only
      rw [h1, if_pos rfl]
    · rw [if_neg (by omega)]
      cases lineAt C.L t with
      | some x => rfl
      | none => simp only; rw [h1, if_neg e]
theorem gw_sees {S : K.Dk} {C : Ch} (g : Good S C) {l : Ln} (hl : l ∈ C.L) : Sees S C (gwR S C l).2.1 (gwR S C l).2.2 := by
  unfold gwR
  by_cases hd : l.dirty = true
  · rw [if_pos hd]
    have hw := wb_sees g hl hd
    unfold wbS wbC at hw
    rw [at_line g.nd hl] at hw
    simp only at hw
    by_cases h0 : K.wrE S l.sec l.dat = 0
    · rw [if_pos h0]
      rcases look_wr S l.sec l.dat with ⟨_, h2⟩ | h1
      · exact absurd h0 h2
      · exact drop_sees g hl h1 rfl
    · rw [if_neg h0] at hw ⊢
      exact hw
  · rw [if_neg hd]
    have hd' : l.dirty = false := by simpa using hd
    refine drop_sees g hl (fun t => ?_) rfl
    by_cases e : t = l.sec
    · rw [if_pos e, e, g.cl l hl hd']
    · rw [if_neg e]
theorem room_sees {S : K.Dk} {C : Ch} (g : Good S C) : Sees S C (roomR S C).2.1 (roomR S C).2.2 := by
  unfold roomR
  split
  · exact Sees.refl g
  · split
    · rename_i l hf
      exact gw_sees g (find_mem hf).1
    · have hw := flush_sees g
      split
      · split
        · rename_i l hf
          exact hw.trans (gw_sees hw.good (find_mem hf).1)
        · exact hw
      · exact hw
/-- a line goes to the end, perhaps with other bytes -/
theorem end_at (L : List Ln) (s : Nat) (l : Ln) (hl : l.sec = s) (t : Nat) : lineAt (dropL L s ++ [l]) t = if t = s then some l else lineAt L t := by
  rw [lineAt_append, lineAt_drop]
  by_cases e : t = s
  · subst e
    rw [if_pos rfl, if_pos rfl]
    simp [lineAt, hl]
  · rw [if_neg e, if_neg (by omega)]
    have : lineAt [l] (t : Int) = none := by
      unfold lineAt
      rw [if_neg (by omega)]
      rfl
    rw [this]
    simp
theorem secs_end (L : List Ln) (s : Nat) (l : Ln) (hl : l.sec = s) (h : (secs L).Nodup) : (secs (dropL L s ++ [l])).Nodup := by
  unfold secs
  rw [List.map_append, List.nodup_append]
  refine ⟨secs_drop _ _ h, by simp, fun a ha b hb => ?_⟩
  simp at hb
  subst hb
  obtain ⟨x, hx, rfl⟩ := List.mem_map.1 ha
  have := (List.mem_filter.1 hx).2
  intro e
  simp at this
  omega
theorem drop_none {L : List Ln} {s : Int} (h : lineAt L s = none) : dropL L s = L := List.filter_eq_self.2 fun x hx => by simpa using lineAt_none h x hx
theorem use_sees {S : K.Dk} {C : Ch} (g : Good S C) (s : Nat) : Sees S C S (useC C s) := by
  unfold useC
  cases hl : lineAt C.L s with
  | none => exact g.disk (fun _ => rfl) rfl
  | some l =>
    obtain ⟨h1, h2⟩ := lineAt_mem hl
    have hs : l.sec = s := by omega
    refine ⟨⟨secs_end C.L s l hs g.nd, fun x hx hxd => ?_⟩, fun t => ?_⟩
    · refine g.cl x ?_ hxd
      rcases List.mem_append.1 hx with hx | hx
      · exact (List.mem_filter.1 hx).1
      · simp at hx; rw [hx]; exact h1
    · unfold seen
      simp only
      rw [end_at _ _ _ hs]
      by_cases e : t = s
      · subst e; rw [if_pos rfl, hl]
      · rw [if_neg e]
theorem read_sees {S : K.Dk} {C : Ch} (g : Good S C) (s : Int) (b : Nat) (hlen : C.L.length ≤ C.most) (hm1 : 1 ≤ C.most) : Sees S C (readR S C s b).2.2.1 (readR S C s b).2.2.2 ∧ ((readR S C s b).1 = 0 → (readR S C s b).2.1 = seen S C s.toNat ∧ K.inD S.n s = true) := by
  unfold readR
  by_cases hi : K.inD S.n s = true
  · rw [if_pos hi]
    obtain ⟨t, rfl, ht⟩ := inD_nat hi
    rw [Int.toNat_natCast]
    cases hl : lineAt C.L t with
    | some l =>
      simp only
      exact ⟨use_sees g t, fun _ => ⟨by unfold seen; rw [hl], hi⟩⟩
    | none =>
      simp only
      have g1 : Sees S C S (missC C) := g.disk (fun _ => rfl) rfl
      have hr := g1.trans (room_sees g1.good)
      have hh := (room_ok (S := S) (C := missC C) g1.good.nd hlen hm1).1
      have hno := hh.sub t hl
      have hn := hh.n
      generalize roomR S (missC C) = R at *
      obtain ⟨e, S1, C1⟩ := R
      simp only at *
      by_cases he : e = 0
      · rw [if_pos he]
        by_cases hre : K.rdE S1 t = 0
        · rw [if_pos hre]
          have hrl : K.rdL S1 t = K.look S1 t := by
            unfold K.rdE at hre
            unfold K.rdL
            rw [hn, hi] at *
            simp only [if_true] at hre ⊢
            by_cases hh1 : K.hitF S1.fs 1 t = true
            · rw [if_pos hh1] at hre; omega
            · rw [if_neg hh1]; simp
          simp only
          rw [hrl]
          have hd := drop_none hno
          refine ⟨⟨⟨?_, fun x hx hxd => ?_⟩, fun u => ?_⟩, fun _ => ⟨?_, hi⟩⟩
          · have := secs_end C1.L t ⟨t, b, K.look S1 t, false, isN C.notes t⟩ rfl hr.good.nd
            rw [hd] at this
            exact this
          · rw [look_rd]
            rcases List.mem_append.1 hx with hx | hx
            · exact hr.good.cl x hx hxd
            · simp at hx; rw [hx]
          · rw [← hr.eq u]
            have := end_at C1.L t ⟨t, b, K.look S1 t, false, isN C.notes t⟩ rfl u
            rw [hd] at this
            unfold seen
            simp only
            rw [this]
            by_cases e : u = t
            · subst e; rw [if_pos rfl, hno]
            · rw [if_neg e]
              split
              · rfl
              · exact look_rd _ _ _
          · rw [← hr.eq t]
            unfold seen
            rw [hno]
        · rw [if_neg hre]
          exact ⟨hr.trans (hr.good.disk (look_rd _ _) rfl), fun h => by simp at h⟩
      · rw [if_neg he]
        exact ⟨hr, fun h => absurd h he⟩
  · rw [if_neg hi]
    exact ⟨Sees.refl g, fun h => by simp at h⟩
theorem write_sees {S : K.Dk} {C : Ch} (g : Good S C) (s : Int) (bs : K.Bl) (b : Nat) (hlen : C.L.length ≤ C.most) (hm1 : 1 ≤ C.most) : Good (writeR S C s bs b).2.1 (writeR S C s bs b).2.2 ∧ ((writeR S C s bs b).1 ≠ 0 → ∀ t, seen (writeR S C s bs b).2.1 (writeR S C s bs b).2.2 t = seen S C t) ∧ ((writeR S C s bs b).1 = 0 → K.inD S.n s = true ∧ bs.length = 512 ∧ ∀ t, seen (writeR S C s bs b).2.1 (writeR S C s bs b).2.2 t = if t = s.toNat then bs else seen S C t) := by
  have hz : ∀ {A B : K.Dk} {C D : Ch}, Sees A C B D → ∀ {e : Int}, e ≠ 0 → Good B D ∧ (e ≠ 0 → ∀ t, seen B D t = seen A C t) ∧ (e = 0 → K.inD S.n s = true ∧ bs.length = 512 ∧ ∀ t, seen B D t = if t = s.toNat then bs else seen A C t) := fun h _ he => ⟨h.good, fun _ => h.eq, fun h0 => absurd h0 he⟩
  unfold writeR
  by_cases hi : K.inD S.n s = true
  · rw [if_pos hi]
    obtain ⟨t, rfl, ht⟩ := inD_nat hi
    rw [Int.toNat_natCast] at hz ⊢
    by_cases h512 : bs.length = 512
    · rw [if_pos h512]
      have key : ∀ {S1 : K.Dk} {C1 C2 : Ch} {l : Ln}, Sees S C S1 C1 → l.sec = t → l.dat = bs → l.dirty = true → C2.L = dropL C1.L t ++ [l] → Good S1 C2 ∧ K.inD S.n (t : Int) = true ∧ bs.length = 512 ∧ ∀ u, seen S1 C2 u = if u = t then bs else seen S C u := fun {S1 C1 C2 l} hr h1 h2 h3 hL => by
        refine ⟨⟨by rw [hL]; exact secs_end _ _ _ h1 hr.good.nd, fun x hx hxd => ?_⟩, hi, h512, fun u => ?_⟩
        · rw [hL] at hx
          rcases List.mem_append.1 hx with hx | hx
          · exact hr.good.cl x (List.mem_filter.1 hx).1 hxd
          · simp at hx; rw [hx, h3] at hxd; cases hxd
        · rw [← hr.eq u]
          unfold seen
          rw [hL, end_at _ _ _ h1]
          by_cases e : u = t
          · rw [if_pos e, if_pos e]; exact h2
          · rw [if_neg e, if_neg e]
      cases hl : lineAt C.L t with
      | some l =>
        simp only
        have hk := key (C1 := C) (C2 := { hitC C with L := dropL C.L t ++ [{ l with dat := bs, dirty := true }] }) (l := { l with dat := bs, dirty := true }) (Sees.refl g) (by have := (lineAt_mem hl).2; show l.sec = t; omega) rfl rfl rfl
        exact ⟨hk.1, fun h => absurd rfl h, fun _ => hk.2⟩
      | none =>
        simp only
        have g1 : Sees S C S (missC C) := g.disk (fun _ => rfl) rfl
        have hr := g1.trans (room_sees g1.good)
        have hh := (room_ok (S := S) (C := missC C) g1.good.nd hlen hm1).1
        have hno := hh.sub t hl
        generalize roomR S (missC C) = R at *
        obtain ⟨e, S1, C1⟩ := R
        simp only at *
        by_cases he : e = 0
        · rw [if_pos he]
          have hk := key (C1 := C1) (C2 := { C1 with L := C1.L ++ [⟨t, b, bs, true, isN C.notes t⟩] }) (l := ⟨t, b, bs, true, isN C.notes t⟩) hr rfl rfl rfl (by rw [drop_none hno])
          exact ⟨hk.1, fun h => absurd rfl h, fun _ => hk.2⟩
        · rw [if_neg he]
          exact hz hr he
    · rw [if_neg h512]
      exact hz (Sees.refl g) (by simp)
  · rw [if_neg hi]
    exact hz (Sees.refl g) (by simp)
theorem fault_sees {S : K.Dk} {C : Ch} (g : Good S C) (f : K.Flt) : Sees S C (K.faS S f) C := g.disk (look_fa S f) rfl
end Go.Proofs.YtijimcjmpeakpaaGreat.C

namespace Go.Proofs.YtijimcjmpeakpaaGreat.C
open Go.RowKit Go.Maps Go.Shelf Go.Proofs.YtijimcjmpeakpaaGreat
attribute [local go_sem] Oper.semAt_some
set_option linter.unusedVariables false
set_option linter.unusedSimpArgs false
set_option maxRecDepth 100000

abbrev TPts : TypeId := 99
abbrev TPt : TypeId := 102
abbrev TBy : TypeId := 80
/-- a list from its end on, with the places -/
def backL (ps : List K.Pv) : List (Nat × K.Pv) := (ps.zipIdx.map fun x => (x.2, x.1)).reverse
theorem backL_snoc (ps : List K.Pv) (p : K.Pv) : backL (ps ++ [p]) = (ps.length, p) :: backL ps := by
  simp [backL, List.zipIdx_append]
theorem backL_len (ps : List K.Pv) : (backL ps).length = ps.length := by simp [backL]
theorem back_ind {M : List K.Pv → Prop} (h0 : M []) (hs : ∀ ps p, M ps → M (ps ++ [p])) (ps : List K.Pv) : M ps := by
  obtain ⟨qs, rfl⟩ : ∃ qs : List K.Pv, ps = qs.reverse := ⟨ps.reverse, by simp⟩
  induction qs with
  | nil => exact h0
  | cons q qs ih => rw [List.reverse_cons]; exact hs _ _ ih
theorem backL_get {ps : List K.Pv} : ∀ {i : Nat} {p : K.Pv}, ps[i]? = some p → (backL ps)[ps.length - 1 - i]? = some (i, p) := by
  refine back_ind (M := fun ps => ∀ {i : Nat} {p : K.Pv}, ps[i]? = some p → (backL ps)[ps.length - 1 - i]? = some (i, p)) (fun {i p} h => by simp at h) (fun ps q ih {i p} h => ?_) ps
  rw [backL_snoc, List.length_append, List.length_singleton]
  have hi : i < ps.length + 1 := by have := (List.getElem?_eq_some_iff.1 h).1; simpa using this
  by_cases e : i = ps.length
  · subst e
    simp at h
    subst h
    simp
  · rw [List.getElem?_append_left (by omega)] at h
    have := ih h
    rw [show ps.length + 1 - 1 - i = ps.length - 1 - i + 1 by omega, List.getElem?_cons_succ]
    exact this
theorem mem_backL {ps : List K.Pv} : ∀ {x : Nat × K.Pv}, x ∈ backL ps → x.2 ∈ ps := by
  refine back_ind (M := fun ps => ∀ {x : Nat × K.Pv}, x ∈ backL ps → x.2 ∈ ps) (fun {x} h => by simp [backL] at h) (fun ps q ih {x} h => ?_) ps
  rw [backL_snoc] at h
  rcases List.mem_cons.1 h with rfl | h
  · simp
  · exact List.mem_append_left _ (ih h)
/-- what the last write of a sector is, read from the end on -/
theorem back_last (s : Nat) : ∀ (ps : List K.Pv), K.lastQ s (ps.map K.bare) = ((backL ps).find? fun x => decide (x.2.1 = s)).map fun x => x.2.2.2 := by
  refine back_ind rfl (fun ps p ih => ?_)
  rw [List.map_append, List.map_singleton, K.lastQ_snoc, backL_snoc, List.find?_cons]
  by_cases e : p.1 = s
  · simp [K.bare, e]
  · simp only [K.bare, e, decide_false, if_false]
    exact ih
/-- writes that were told, in cells -/
def PtR (w : World) (ao : Option Addr) (ps : List K.Pv) : Prop := ∀ k p, ps[k]? = some p → ∃ g, ao = some ⟨g, 0, none⟩ ∧ g < w.heap.size ∧ w.cell? ⟨g, k * 2, none⟩ = some (.int .i64 p.1) ∧ w.cell? ⟨g, k * 2 + 1, none⟩ = some p.2.1
theorem qcells_get (l : List K.Pv) (k : Nat) (p : K.Pv) (h : l[k]? = some p) : (K.qcells l)[k * 2]? = some (.int .i64 p.1) ∧ (K.qcells l)[k * 2 + 1]? = some p.2.1 := by
  induction l generalizing k with
  | nil => simp at h
  | cons a t ih =>
    cases k with
    | zero => simp at h; subst h; simp [K.qcells, K.qcell]
    | succ k =>
      have := ih k (by simpa using h)
      simp only [K.qcells, K.qcell, List.flatMap_cons] at this ⊢
      constructor
      · rw [show (k + 1) * 2 = k * 2 + 2 by omega]; simpa using this.1
      · rw [show (k + 1) * 2 + 1 = k * 2 + 1 + 2 by omega]; simpa using this.2
theorem told_form {w : World} {B : Nat} {v : Value} {ps : List K.Pv} (h : K.Told w B v ps) : ∃ ao cap, v = .slice ao ps.length cap ∧ PtR w ao ps := by
  rcases h.row.2 with ⟨rfl, h0⟩ | ⟨g, cap, cur, rfl, _, hg, _⟩
  · exact ⟨none, 0, by rw [h0], fun k p hk => by have := (List.getElem?_eq_some_iff.1 hk).1; omega⟩
  · refine ⟨_, cap, rfl, fun k p hk => ?_⟩
    obtain ⟨h1, h2⟩ := qcells_get ps k p hk
    have c1 := h.row.cells (g := g) rfl _ _ h1
    have c2 := h.row.cells (g := g) rfl _ _ h2
    rw [WideShapes.add_plain, Nat.zero_add] at c1 c2
    exact ⟨g, rfl, (Array.getElem?_eq_some_iff.1 hg).1, c1, c2⟩
theorem backward_c (w : World) (ao : Option Addr) (n cap : Nat) : Calls Tryz.prog 82 #[.slice ao n cap] w fun r w' => r = .returned (.func (.func 111) #[] #[.pointer (some ⟨w.heap.size, 0, none⟩)]) ∧ w' = w.alloc (.cells #[.slice ao n cap] TPts) := by
  have hmf : ∀ (fn : Fn) (first cap : Array Value) (w : World), (Instr.makeFunc fn first cap).run Tryz.prog w = .ok (.func fn first cap) w := fun _ _ _ _ => rfl
  go_enter Tryz.func82, Tryz.ntmps82
  go_wp2
  go_ret
  exact ⟨rfl, rfl⟩
set_option maxHeartbeats 4000000 in
theorem back_seq {β : Type} (f : β → Nat × K.Pv) (L : List β) (n : Nat) (hn : 1 ≤ n) {H : Nat} {w : World} {bx cap : Nat} {ao : Option Addr} {ps : List K.Pv} (hLf : L.map f = backL ps) (hc : w.cell? ⟨bx, 0, none⟩ = some (.slice ao ps.length cap)) (hbx : bx < H) (hr : PtR w ao ps) (hHr : ∀ (k : Nat) (p : K.Pv), ps[k]? = some p → ∀ g, ao = some ⟨g, 0, none⟩ → g < H) (hl : ps.length ≤ 1048576) :
    SeqStopsK Fence.wide n Tryz.prog 111 #[.pointer (some ⟨bx, 0, none⟩)] (fun x : β => #[.int .i64 (f x).1, .agg #[.int .i64 (f x).2.1, (f x).2.2.1]]) (KpH H) (fun ys => ys = L) (fun pre => ∃ rest, L = pre ++ rest) ps.length w := by
  intro lv J Jx W hW hJ hJx hY h0
  obtain ⟨m, hm⟩ : ∃ m, m = ps.length := ⟨_, rfl⟩
  rw [← hm] at hc hY hl
  have HR0 : Hid ((∀ k p, ps[k]? = some p → ∃ g, ao = some ⟨g, 0, none⟩ ∧ g < H ∧ W.cell? ⟨g, k * 2, none⟩ = some (.int .i64 p.1) ∧ W.cell? ⟨g, k * 2 + 1, none⟩ = some p.2.1) ∧ W.cell? ⟨bx, 0, none⟩ = some (.slice ao m cap)) := ⟨fun k p hk => by
    obtain ⟨g, e, _, h1, h2⟩ := hr k p hk
    exact ⟨g, e, hHr k p hk g e, cell_later hW h1, cell_later hW h2⟩, cell_later hW hc⟩
  have d0 : W.cell? ⟨bx, 0, none⟩ = some (.slice ao m cap) := cell_later hW hc
  obtain ⟨xs, hxs⟩ : ∃ xs, xs = L := ⟨_, rfl⟩
  have HX : Hid (∀ i p, ps[i]? = some p → ∃ x, xs[m - 1 - i]? = some x ∧ f x = (i, p)) := fun i p hp => by
    have h1 := backL_get hp
    rw [← hLf, ← hxs, ← hm, List.getElem?_map] at h1
    cases hx : xs[m - 1 - i]? with
    | none => rw [hx] at h1; cases h1
    | some x => rw [hx] at h1; exact ⟨x, rfl, by simpa using h1⟩
  have HL : Hid (xs.length = m) := by
    show _ = _
    have h1 := congrArg List.length hLf
    rw [List.length_map, backL_len] at h1
    rw [hxs, h1, hm]
  rw [← hxs]
  have HM : Hid (m = ps.length) := hm
  have HJ0 : Hid (J [] W) := h0
  clear hm hr hc hW h0 hHr hJ hxs hLf
  have hf : Fence.wide.fn 111 := trivial
  refine callsIn_of_wp Tryz.func111 rfl hf ?_ rfl
  simp only [Tryz.ntmps111, List.size_toArray, List.length_cons, List.length_nil, Nat.reduceAdd, Nat.reduceSub, Array.replicate_succ, Array.replicate_zero, List.push_toArray, List.append_toArray, List.nil_append, List.cons_append]
  gi_wp2
  gi_loopw [3] (fun i wr => ∃ (k : Nat), i = .int .i64 ((m : Int) - 1 - k) ∧ k ≤ m ∧ Hid (J (xs.take k) wr) ∧ Hid ((∀ k p, ps[k]? = some p → ∃ g, ao = some ⟨g, 0, none⟩ ∧ g < H ∧ wr.cell? ⟨g, k * 2, none⟩ = some (.int .i64 p.1) ∧ wr.cell? ⟨g, k * 2 + 1, none⟩ = some p.2.1) ∧ wr.cell? ⟨bx, 0, none⟩ = some (.slice ao m cap))) (fun i _ => (intOf i + 1).toNat)
  case atStart => exact ⟨0, by go_num, Nat.zero_le _, HJ0, HR0⟩
  case round =>
    obtain ⟨k, rfl, hk, HJk, HRk⟩ := hrel
    by_cases hlt : k < m
    · obtain ⟨i, hi⟩ : ∃ i : Nat, (i : Int) = (m : Int) - 1 - k := ⟨m - 1 - k, by omega⟩
      rw [← hi]
      have hik : m - 1 - i = k := by omega
      have hi0 : (0 : Int) ≤ (i : Int) := by omega
      have him : (i : Int) < (m : Int) := by omega
      obtain ⟨p, hp⟩ : ∃ p, ps[i]? = some p := ⟨_, List.getElem?_eq_getElem (by have := HM.out; omega)⟩
      obtain ⟨g, rfl, hg, c0, c1⟩ := HRk.out.1 i p hp
      have e0 := HRk.out.2
      obtain ⟨x, hxk, hfx⟩ : ∃ x, xs[k]? = some x ∧ f x = (i, p) := by have := HX.out i p hp; rwa [hik] at this
      have HT : Hid (xs.take k ++ [x] = xs.take (k + 1)) := by
        show _ = _
        rw [List.take_add_one, hxk]; rfl
      have hlen : (xs.take k).length < m := by rw [List.length_take]; have := HL.out; omega
      have hyy := hY (xs.take k) x _ HJk.out hlen
      rw [hfx] at hyy
      obtain ⟨fn, tmps, assign, body, hy, hR⟩ := hyy
      rw [HT.out] at hR
      have HRz : Hid (∀ W3, KpH H wr W3 → (∀ k p, ps[k]? = some p → ∃ g', (some ⟨g, 0, none⟩ : Option Addr) = some ⟨g', 0, none⟩ ∧ g' < H ∧ W3.cell? ⟨g', k * 2, none⟩ = some (.int .i64 p.1) ∧ W3.cell? ⟨g', k * 2 + 1, none⟩ = some p.2.1) ∧ W3.cell? ⟨bx, 0, none⟩ = some (.slice (some ⟨g, 0, none⟩) m cap)) := fun W3 hk3 => ⟨fun k' p' hk' => by
        obtain ⟨g', e, h1, h2, h3⟩ := HRk.out.1 k' p' hk'
        exact ⟨g', e, h1, cell_kpH hk3 h1 h2, cell_kpH hk3 h1 h3⟩, cell_kpH hk3 hbx HRk.out.2⟩
      have HI : Hid ((i : Int) = (m : Int) - 1 - k) := hi
      clear hp hlen hY HRk HR0 hxk hi hik d0 hfx
      gi_wp2
      refine hR.mono ?_
      rintro e W3 (⟨rfl, hJ3, hk3⟩ | ⟨rfl, hJx3⟩)
      · gi_wp2
        go_roundw
        case rel => exact ⟨k + 1, by have := HI.out; go_num, by omega, hJ3, HRz.out W3 hk3⟩
        case measure => simp [intOf]
      · gi_wp2
        refine bodyPost_ret (results_none rfl _ _ _) rfl ?_
        exact ⟨⟨_, rfl⟩, .inr ⟨xs.take (k + 1), ⟨xs.drop (k + 1), (List.take_append_drop _ _).symm⟩, hJx3⟩⟩
    · have e : k = m := by omega
      subst e
      have HE : Hid (xs.take k = xs) := List.take_of_length_le (by have := HL.out; omega)
      rw [HE.out] at HJk
      have hneg : ¬ (0 : Int) ≤ (k : Int) - 1 - k := by omega
      gi_wp2
      go_end0
      first | exact ⟨⟨_, rfl⟩, .inl ⟨xs, rfl, HJk.out⟩⟩ | exact ⟨⟨_, rfl⟩, .inl HJk.out⟩
end Go.Proofs.YtijimcjmpeakpaaGreat.C

namespace Go.Proofs.YtijimcjmpeakpaaGreat.C
open Go.RowKit Go.Maps Go.Shelf Go.Sort Go.Proofs.YtijimcjmpeakpaaGreat
attribute [local go_sem] Oper.semAt_some
set_option linter.unusedVariables false
set_option linter.unusedSimpArgs false
set_option maxRecDepth 100000

theorem compact_upto {zs : List Int} (hs : zs.Pairwise (· ≤ ·)) : ∀ m, m ≤ zs.length → (Lib.compactUpTo zs.toArray m).Pairwise (· < ·) ∧ (∀ x ∈ Lib.compactUpTo zs.toArray m, x ∈ zs ∧ ∀ y, zs[m - 1]? = some y → 0 < m → x ≤ y) ∧ (Lib.compactUpTo zs.toArray m).length ≤ m
  | 0, _ => by simp [Lib.compactUpTo]
  | m + 1, hm => by
    obtain ⟨h1, h2, h3⟩ := compact_upto hs m (by omega)
    have hle : ∀ i j (hi : i < zs.length) (hj : j < zs.length), i < j → zs[i] ≤ zs[j] := List.pairwise_iff_getElem.1 hs
    have em : zs.toArray[m]! = zs[m] := by simp [show m < zs.length by omega]
    rw [Lib.compactUpTo_succ]
    by_cases hk : Lib.keeps zs.toArray m = true
    · rw [if_pos hk, em]
      refine ⟨?_, fun x hx => ?_, by simp; omega⟩
      · rw [List.pairwise_append]
        refine ⟨h1, by simp, fun a ha b hb => ?_⟩
        simp at hb
        subst hb
        have hm0 : 0 < m := by
          rcases Nat.eq_zero_or_pos m with e | e
          · subst e; simp [Lib.compactUpTo] at ha
          · exact e
        have hl := (h2 a ha).2 zs[m - 1] (List.getElem?_eq_getElem (by omega)) hm0
        have hl2 := hle (m - 1) m (by omega) (by omega) (by omega)
        have hne : zs[m] ≠ zs[m - 1] := fun e => by
          have := Lib.keeps_neg (d := zs.toArray) hm0 (by simp [show m < zs.length by omega, show m - 1 < zs.length by omega, e])
          rw [this] at hk
          cases hk
        omega
      · simp only [Nat.add_sub_cancel]
        rcases List.mem_append.1 hx with hx | hx
        · refine ⟨(h2 x hx).1, fun y hy _ => ?_⟩
          rw [List.getElem?_eq_getElem (by omega)] at hy
          cases hy
          rcases Nat.eq_zero_or_pos m with e | e
          · subst e; simp [Lib.compactUpTo] at hx
          · have hl := (h2 x hx).2 zs[m - 1] (List.getElem?_eq_getElem (by omega)) e
            have hl2 := hle (m - 1) m (by omega) (by omega) (by omega)
            omega
        · simp at hx
          subst hx
          refine ⟨List.getElem_mem _, fun y hy _ => ?_⟩
          rw [List.getElem?_eq_getElem (by omega)] at hy
          cases hy
          exact Int.le_refl _
    · rw [if_neg hk, List.append_nil]
      refine ⟨h1, fun x hx => ⟨(h2 x hx).1, fun y hy _ => ?_⟩, by omega⟩
      simp only [Nat.add_sub_cancel] at hy
      rw [List.getElem?_eq_getElem (by omega)] at hy
      cases hy
      rcases Nat.eq_zero_or_pos m with e | e
      · subst e; simp [Lib.compactUpTo] at hx
      · have hl := (h2 x hx).2 zs[m - 1] (List.getElem?_eq_getElem (by omega)) e
        have hl2 := hle (m - 1) m (by omega) (by omega) (by omega)
        omega
theorem compact_ok {zs : List Int} (hs : zs.Pairwise (· ≤ ·)) : (Lib.compact zs).Nodup ∧ (∀ x ∈ Lib.compact zs, x ∈ zs) ∧ (Lib.compact zs).length ≤ zs.length := by
  obtain ⟨h1, h2, h3⟩ := compact_upto hs zs.length (Nat.le_refl _)
  exact ⟨h1.imp (fun h => by omega), fun x hx => (h2 x hx).1, h3⟩
/-- doublets go -/
theorem compact_c {w : World} {B : Nat} {v : Value} {zs : List Int} (h : w.ownsRow B TIn 1 v zs.length (IV zs)) (hle : (Lib.compact zs).length ≤ zs.length) (hl : zs.length < 4611686018427387904) :
    Calls Tryz.prog 56 #[v] w fun e w' => ∃ v', e = .returned v' ∧ v'.ownBlock = v.ownBlock ∧ w'.ownsRow B TIn 1 v' (Lib.compact zs).length (IV (Lib.compact zs)) ∧ w'.os = w.os ∧ w'.tape = w.tape ∧ w'.output = w.output ∧ w.heap.size ≤ w'.heap.size ∧ ∀ i, i < w.heap.size → v.ownBlock ≠ some i → w'.heap[i]? = w.heap[i]? := by
  rcases h.2 with ⟨rfl, h0⟩ | ⟨g, cap, cur, rfl, hb, hg, hnc, hcm, hcs, htake⟩
  · have hz : zs = [] := List.length_eq_zero_iff.1 h0
    subst hz
    refine (Tryz.slices_Compact_int_empty none 0 w).mono ?_
    rintro e w' ⟨rfl, rfl⟩
    exact ⟨_, rfl, rfl, h, rfl, rfl, rfl, Nat.le_refl _, fun _ _ _ => rfl⟩
  · have hH : Holds (Value.int .i64) w g 0 zs.toArray := by
      intro j hj
      have hj' : j < zs.length := by simpa using hj
      have hx : zs[j]? = some (zs.toArray[j]!) := by simp [hj']
      have c1 := h.cells (g := g) rfl j _ (IV_get hx)
      rw [WideShapes.add_plain] at c1
      exact ⟨c1, h.frozenAt _⟩
    refine (Tryz.slices_Compact_int g 0 cap zs w hH (by omega) hnc).mono ?_
    rintro e w' ⟨rfl, n, rfl⟩
    have hblk : ∀ (d : Array Int) i, i ≠ g → (putRow (Value.int .i64) (Sort.ahead w n) g 0 d).heap[i]? = w.heap[i]? := fun d i hne => by
      unfold putRow mapBlock
      simp only
      rw [Array.getElem?_modify, if_neg (Ne.symm hne)]
      rfl
    have hself : ∀ (d : Array Int), (putRow (Value.int .i64) (Sort.ahead w n) g 0 d).heap[g]? = some (.cells (putCells (Value.int .i64) 0 d cur) TIn (0, 0)) := fun d => by
      unfold putRow mapBlock
      simp only
      rw [Array.getElem?_modify, if_pos rfl, ahead_block, hg]
      rfl
    refine ⟨_, rfl, rfl, ⟨by simp [IV], .inr ⟨g, cap, _, rfl, hb, hself _, by omega, hcm, by simp [putCells, hcs], ?_⟩⟩, rfl, rfl, rfl, ?_, fun i hi hne => hblk _ i (fun e => hne (by rw [e]; rfl))⟩
    · refine List.ext_getElem? fun i => ?_
      rw [List.getElem?_take]
      by_cases hi : i < (Lib.compact zs).length * 1
      · rw [if_pos hi]
        have hi' : i < (Lib.compact zs).length := by omega
        have hic : i < cur.size := by rw [hcs]; omega
        rw [Array.getElem?_toList, putCells, Array.getElem?_mapIdx, Array.getElem?_eq_getElem hic]
        simp only [Option.map_some]
        rw [if_pos ⟨by omega, by simp; omega⟩, IV_get (x := (Lib.compact zs)[i]) (List.getElem?_eq_getElem hi')]
        simp [hi', List.getElem?_append_left hi']
      · rw [if_neg hi, List.getElem?_eq_none (by simp [IV]; omega)]
    · unfold putRow mapBlock
      simp
def noteAt (L : List Ln) (s : Int) : Bool := match lineAt L s with
  | some l => l.note
  | none => false
/-- Through -/
def throughR (S : K.Dk) (C : Ch) (ks : List Int) : Int × K.Dk × Ch :=
  if ks.all (fun k => K.inD S.n k) = true then
    (if (ks.filter (dirtyAt C.L)).any (noteAt C.L) = true then flushR S C else settleR (Lib.compact (sortI (ks.filter (dirtyAt C.L)))) S C)
  else (31, S, C)
theorem dirt_thr {C : Ch} (ks : List Int) : Dirt (Lib.compact (sortI (ks.filter (dirtyAt C.L)))) C := by
  obtain ⟨h1, h2, _⟩ := compact_ok (sortI_sorted (ks.filter (dirtyAt C.L)))
  refine ⟨h1, fun s hs => ?_⟩
  have h3 := (List.mem_filter.1 ((sortI_perm _).mem_iff.1 (h2 s hs))).2
  unfold dirtyAt at h3
  cases hl : lineAt C.L s with
  | none => rw [hl] at h3; cases h3
  | some l => rw [hl] at h3; exact ⟨l, (lineAt_mem hl).1, (lineAt_mem hl).2, h3⟩
/-- numbers that were handed in -/
def IRw (w : World) (F : List Nat) (ao : Option Addr) (ks : List Int) : Prop := ∀ (k : Nat) (x : Int), ks[k]? = some x → ∃ g off, ao = some ⟨g, off, none⟩ ∧ g < w.heap.size ∧ g ∉ F ∧ w.cell? ⟨g, off + k, none⟩ = some (.int .i64 x)
section
variable {w w' : World} {P : Loc} {S S' : K.Dk} {C C' : Ch}
theorem CAct.grown {P' : Loc} {W' : World} {row : Option Nat} (ha : CAct w w' P P' C S' C') (hg : w'.grownBy W' row) (hr : ∀ k, row = some k → w.heap.size ≤ k) (hn : ∀ i ∈ P'.fp C'.L, row ≠ some i) : CAct w W' P P' C S' C' :=
  ⟨ha.rc.same fun i hi => hg.block i (ha.rc.lt i hi) (fun e => hn i hi e.symm), ha.kp.grown hg (fun k e => .inr (hr k e)), ha.sub, ha.bc, ha.bd⟩
theorem CAct.rowI {P' : Loc} {H n : Nat} {v : Value} {xs : List Value} (ha : CAct w w' P P' C S' C') (hH : ∀ i ∈ P.fp C.L, i < H) (ho : w.ownsRow H TIn 1 v n xs) : w'.ownsRow H TIn 1 v n xs :=
  K.ownsRow_block ho fun g hg => ha.kp.block g (K.row_lt ho g hg).1 (fun hm => by have := hH g hm; have := row_base ho hg; omega)
set_option maxHeartbeats 8000000 in
theorem through_c (h : RC w P S C) (hf : K.FsOk S.fs) (hq : S.q.length + dirtyN C.L < 1048576) {ao : Option Addr} {m cap : Nat} {ks : List Int} (hm : m = ks.length) (hml : m ≤ 1048576) (hr : IRw w (P.fp C.L) ao ks) :
    Calls Tryz.prog 25 #[.pointer (some ⟨P.bc, 0, none⟩), .slice ao m cap] w fun r w' => r = .returned (.int .i64 (throughR S C ks).1) ∧ ∃ P', CAct w w' P P' C (throughR S C ks).2.1 (throughR S C ks).2.2 := by
  have hu := usable_c h
  obtain ⟨i0, hi, hz0, hz1, hz2⟩ := info_parts I.A.infoKey
  have hn1 := h.rk.n1
  have HM : Hid (m = ks.length) := hm
  have HLT : Hid (∀ i ∈ P.fp C.L, i < w.heap.size) := h.lt
  have H0 : Hid (CAct w w P P C S C) := CAct.refl h
  have HR : Hid (∀ W, CAct w W P P C S C → ∀ (k : Nat) (x : Int), ks[k]? = some x → ∃ g off, ao = some ⟨g, off, none⟩ ∧ W.cell? ⟨g, off + k, none⟩ = some (.int .i64 x)) := fun W ha k x hk => by
    obtain ⟨g, off, e, h1, h2, h3⟩ := hr k x hk
    refine ⟨g, off, e, ?_⟩
    have hb := ha.kp.block g h1 h2
    unfold World.cell? at h3 ⊢
    rw [hb]; exact h3
  have HH : Hid (∀ W, CAct w W P P C S C → ∀ x, Calls Tryz.prog 54 #[.pointer (some ⟨P.bc, 0, none⟩), .int .i64 x] W fun r w' => r = .returned (.bool (K.inD S.n x)) ∧ CAct W w' P P C S C) := fun W ha x => has_c ha.rc x
  have HC : Hid (∀ W, CAct w W P P C S C → W.cell? ⟨P.bc, 3, none⟩ = some (.map (some P.bl))) := fun W ha => ha.rc.c 3
  have HLk : Hid (∀ W, CAct w W P P C S C → ∀ x, K.inD S.n x = true → (Instr.lookup TLm (.map (some P.bl)) (.int .i64 x) false).run Tryz.prog W = .ok (linePtr (lineAt C.L x)) W) := fun W ha x hx => by
    obtain ⟨t, rfl, ht⟩ := inD_nat hx
    exact ha.rc.look (K.wfI t (by omega))
  have HLn : Hid (∀ W, CAct w W P P C S C → ∀ l ∈ C.L, W.cell? ⟨l.blk, 512, none⟩ = some (.bool l.dirty) ∧ W.cell? ⟨l.blk, 513, none⟩ = some (.bool l.note)) := fun W ha l hl => ⟨(ha.rc.lcell hl 512).trans (lcells_dirty (ha.rc.ok l hl).2), (ha.rc.lcell hl 513).trans (lcells_note (ha.rc.ok l hl).2)⟩
  have HFl : Hid (∀ W, CAct w W P P C S C → Calls Tryz.prog 24 #[.pointer (some ⟨P.bc, 0, none⟩)] W fun r w' => r = .returned (.int .i64 (flushR S C).1) ∧ ∃ P', CAct w w' P P' C (flushR S C).2.1 (flushR S C).2.2) := fun W ha => by
    refine (flush_c ha.rc hf hq).mono ?_
    rintro r w' ⟨rfl, P', ha'⟩
    exact ⟨rfl, P', ha.trans ha'⟩
  have HSo : Hid (∀ W v, CAct w W P P C S C → W.ownsRow w.heap.size TIn 1 v (ks.filter (dirtyAt C.L)).length (IV (ks.filter (dirtyAt C.L))) → Calls Tryz.prog 55 #[v] W fun r W1 => r = .returned (.tuple #[]) ∧ Calls Tryz.prog 56 #[v] W1 fun r W2 => ∃ v', r = .returned v' ∧ Calls Tryz.prog 52 #[.pointer (some ⟨P.bc, 0, none⟩), v'] W2 fun r w' => r = .returned (.int .i64 (settleR (Lib.compact (sortI (ks.filter (dirtyAt C.L)))) S C).1) ∧ ∃ P', CAct w w' P P' C (settleR (Lib.compact (sortI (ks.filter (dirtyAt C.L)))) S C).2.1 (settleR (Lib.compact (sortI (ks.filter (dirtyAt C.L)))) S C).2.2) := fun W v ha ho => by
    have hfl : (ks.filter (dirtyAt C.L)).length ≤ 1048576 := by have := List.length_filter_le (dirtyAt C.L) ks; omega
    have key : ∀ {W W' : World}, CAct w W P P C S C → (∀ g, v.ownBlock = some g → w.heap.size ≤ g) → W'.os = W.os → W'.tape = W.tape → W'.output = W.output → W.heap.size ≤ W'.heap.size → (∀ i, i < W.heap.size → v.ownBlock ≠ some i → W'.heap[i]? = W.heap[i]?) → CAct w W' P P C S C := fun {W W'} ha hv e1 e2 e3 e4 e5 => ha.grown (row := v.ownBlock) ⟨e1, e2, e3, e4, fun k hk hne => e5 k hk (fun e => hne e.symm)⟩ hv (fun i hi e => by have := hv i e; have := h.lt i hi; omega)
    have hv : ∀ g, v.ownBlock = some g → w.heap.size ≤ g := fun g hg => row_base ho hg
    refine (sort_c ho (by omega)).mono ?_
    rintro r W1 ⟨rfl, ho1, a1, a2, a3, a4, a5⟩
    have ha1 := key ha hv a1 a2 a3 a4 a5
    obtain ⟨hcn, hcm, hcl⟩ := compact_ok (sortI_sorted (ks.filter (dirtyAt C.L)))
    have hsl : (sortI (ks.filter (dirtyAt C.L))).length = (ks.filter (dirtyAt C.L)).length := (sortI_perm _).length_eq
    rw [← hsl] at ho1
    refine ⟨rfl, (compact_c ho1 hcl (by omega)).mono ?_⟩
    rintro r W2 ⟨v', rfl, hvb, ho2, b1, b2, b3, b4, b5⟩
    have ha2 := key ha1 hv b1 b2 b3 b4 b5
    refine ⟨v', rfl, ?_⟩
    have hdt := dirt_thr (C := C) ks
    have hkl : (Lib.compact (sortI (ks.filter (dirtyAt C.L)))).length ≤ 65536 := by
      have h1 := nodup_sub_len hdt.nd (b := secs C.L) (fun x hx => by
        obtain ⟨l, hl, e, _⟩ := hdt.has x hx
        exact List.mem_map.2 ⟨l, hl, e⟩)
      have := h.lim
      simp only [secs, List.length_map] at h1
      omega
    refine (settle_c ha2.rc hf hq ho2 (fun g hg hm => by have := row_base ho2 hg; have := h.lt g hm; omega) hdt hkl).mono ?_
    rintro r w' ⟨rfl, P', ha'⟩
    exact ⟨rfl, P', ha2.trans ha'⟩
  clear h hf hq hr hm
  go_enter Tryz.func25, Tryz.ntmps25
  go_wp2_with (go_at_call 41; refine hu.mono ?_; rintro e w9 ⟨rfl, hw9⟩; rw [hw9]; clear hw9 hu)
  go_loopw [5, 6, 15] (fun dv nv i wr => ∃ (k : Nat), k ≤ m ∧ i = .int .i64 k ∧ nv = .bool (((ks.take k).filter (dirtyAt C.L)).any (noteAt C.L)) ∧ Hid (wr.ownsRow w.heap.size TIn 1 dv ((ks.take k).filter (dirtyAt C.L)).length (IV ((ks.take k).filter (dirtyAt C.L)))) ∧ Hid (CAct w wr P P C S C) ∧ Hid ((ks.take k).all (fun k => K.inD S.n k) = true)) (fun _ _ i _ => m - (intOf i).toNat)
  case atStart => exact ⟨0, Nat.zero_le _, rfl, rfl, World.ownsRow_nil _ _ _ _, H0, rfl⟩
  case round =>
    obtain ⟨k, hk, rfl, rfl, HO, HA, HAL⟩ := hrel
    obtain ⟨da, dc, hdv⟩ := int_form HO.out
    subst hdv
    generalize hfd : (ks.take k).filter (dirtyAt C.L) = d at *
    generalize hany : d.any (noteAt C.L) = an at *
    have HANY : Hid (d.any (noteAt C.L) = an) := hany
    have HFD : Hid ((ks.take k).filter (dirtyAt C.L) = d) := hfd
    clear hany hfd
    by_cases hlt : k < m
    · have hkz : (k : Int) < (m : Int) := by omega
      obtain ⟨x, hx⟩ : ∃ x, ks[k]? = some x := ⟨_, List.getElem?_eq_getElem (by have := HM.out; omega)⟩
      obtain ⟨g, off, rfl, c1⟩ := HR.out wr HA.out k x hx
      have HT : Hid (ks.take (k + 1) = ks.take k ++ [x]) := by show _ = _; rw [List.take_add_one, hx]; rfl
      have hh := HH.out wr HA.out x
      by_cases hin : K.inD S.n x = true
      · rw [hin] at hh
        have HX : Hid (∀ w1, CAct wr w1 P P C S C → CAct w w1 P P C S C ∧ w1.cell? ⟨P.bc, 3, none⟩ = some (.map (some P.bl)) ∧ (Instr.lookup TLm (.map (some P.bl)) (.int .i64 x) false).run Tryz.prog w1 = .ok (linePtr (lineAt C.L x)) w1 ∧ w1.ownsRow w.heap.size TIn 1 (.slice da d.length dc) d.length (IV d)) := fun w1 ha1 => by
          have ha := HA.out.trans ha1
          exact ⟨ha, HC.out w1 ha, HLk.out w1 ha x hin, ha1.rowI HLT.out HO.out⟩
        have HAL2 : Hid ((ks.take (k + 1)).all (fun k => K.inD S.n k) = true) := by show _ = _; rw [HT.out, List.all_append, HAL.out]; simp [hin]
        cases hl : lineAt C.L x with
        | none =>
          have hd : dirtyAt C.L x = false := by unfold dirtyAt; rw [hl]
          have HF : Hid ((ks.take (k + 1)).filter (dirtyAt C.L) = d) := by show _ = _; rw [HT.out, List.filter_append, HFD.out]; simp [hd]
          simp only [hl, linePtr] at HX
          have e1 := neq_lp_none
          clear hx hd hl hin HH HR HC HLk HLn HFl HSo
          go_wp2_with (go_at_call 54; refine hh.mono ?_; clear hh; rintro r w1 ⟨rfl, ha1⟩; obtain ⟨ha, c3, hlk, ho1⟩ := HX.out w1 ha1; have HA1 : Hid (CAct w w1 P P C S C) := ha; have HO1 : Hid (w1.ownsRow w.heap.size TIn 1 (.slice da d.length dc) d.length (IV d)) := ho1; clear ha ho1 ha1)
          go_roundw
          case rel => exact ⟨k + 1, by omega, by go_num, by rw [HF.out, HANY.out], by rw [HF.out]; exact HO1, HA1, HAL2⟩
          case measure => simp [intOf]; omega
        | some l =>
          obtain ⟨hlm, hls⟩ := lineAt_mem hl
          simp only [hl, linePtr] at HX
          have e1 := neq_lp_some
          have HLN : Hid (∀ w1, CAct w w1 P P C S C → w1.cell? ⟨l.blk, 512, none⟩ = some (.bool l.dirty) ∧ w1.cell? ⟨l.blk, 513, none⟩ = some (.bool l.note)) := fun w1 ha => HLn.out w1 ha l hlm
          have hd : dirtyAt C.L x = l.dirty := by unfold dirtyAt; rw [hl]
          have hnt : noteAt C.L x = l.note := by unfold noteAt; rw [hl]
          have HF : Hid ((ks.take (k + 1)).filter (dirtyAt C.L) = d ++ (if l.dirty = true then [x] else [])) := by
            show _ = _
            rw [HT.out, List.filter_append, HFD.out, List.filter_cons, hd]; rfl
          have HNt : Hid (noteAt C.L x = l.note) := hnt
          have HFL : Hid (d.length ≤ 1048576) := by
            have h1 := List.length_filter_le (dirtyAt C.L) (ks.take k)
            rw [HFD.out] at h1
            have h2 : (ks.take k).length ≤ k := List.length_take_le _ _
            show _ ≤ _
            omega
          clear hx hd hl hin HH HR HC HLk HLn HFl HSo hlm hls hnt
          generalize l.dirty = dy at *
          generalize l.note = nt at *
          cases dy
          · go_wp2_with (go_at_call 54; refine hh.mono ?_; clear hh; rintro r w1 ⟨rfl, ha1⟩; obtain ⟨ha, c3, hlk, ho1⟩ := HX.out w1 ha1; obtain ⟨cd, cn⟩ := HLN.out w1 ha; have HA1 : Hid (CAct w w1 P P C S C) := ha; have HO1 : Hid (w1.ownsRow w.heap.size TIn 1 (.slice da d.length dc) d.length (IV d)) := ho1; clear ha ho1 ha1)
            go_roundw
            case rel => exact ⟨k + 1, by omega, by go_num, by rw [HF.out]; simp [HANY.out], by rw [HF.out]; show World.ownsRow _ _ _ _ _ _ _; simpa using HO1.out, HA1, HAL2⟩
            case measure => simp [intOf]; omega
          · cases an <;>
            · go_wp2_with (first | (go_at_call 54; refine hh.mono ?_; clear hh; rintro r w1 ⟨rfl, ha1⟩; obtain ⟨ha, c3, hlk, ho1⟩ := HX.out w1 ha1; obtain ⟨cd, cn⟩ := HLN.out w1 ha; have HA1 : Hid (CAct w w1 P P C S C) := ha; have HO1 : Hid (w1.ownsRow w.heap.size TIn 1 (.slice da d.length dc) d.length (IV d)) := ho1; clear ha ho1 ha1) | (at_builtin; refine wpList_append_own_at _ rfl _ _ 22 rfl w.heap.size TIn i0 _ 1 8 Tryz.underlying22 hi hz0 hz1 hz2 rfl (by decide) (.slice da d.length dc) d.length (IV d) rfl (HO1.out.alloc _) ⟨w1.heap.size, 0, none⟩ 1 1 [.int .i64 x] rfl rfl (I.A.news1 _ _) (by simp [Value.oneCell']) (by have := HFL.out; unfold maxLen; omega) (by have := HFL.out; omega) (by have := HA1.out.kp.size; simp; omega) ?_; intro v' w5 hown5 hgrow5 _ hat5; have HO5 : Hid (w5.ownsRow w.heap.size TIn 1 v' (d ++ [x]).length (IV (d ++ [x]))) := (by rw [List.length_append, IV, List.map_append]; exact hown5); have HA5 : Hid (CAct w w5 P P C S C) := ((HA1.out.grown (World.grownBy_alloc w1 _ none) (fun k e => by cases e) (fun i _ e => by cases e)).grown hgrow5 (fun k e => row_base HO1.out e) (fun i hi e => by have h1 := row_base HO1.out e; have h2 := HLT.out i hi; omega)); obtain ⟨cd5, cn5⟩ := HLN.out w5 HA5.out; clear hown5 hgrow5 hat5))
              go_roundw
              case rel => exact ⟨k + 1, by omega, by go_num, by rw [HF.out]; simp [HANY.out, HNt.out], by rw [HF.out]; show World.ownsRow _ _ _ _ _ _ _; simpa using HO5.out, HA5, HAL2⟩
              case measure => simp [intOf]; omega
      · have hin' : K.inD S.n x = false := by simpa using hin
        rw [hin'] at hh
        have HALL : Hid (¬ ks.all (fun k => K.inD S.n k) = true) := fun hall => by
          rw [List.all_eq_true] at hall
          have := hall x (List.mem_of_getElem? hx)
          rw [hin'] at this
          cases this
        clear hx hin hin' HH HR HC HLk HLn HFl HSo
        go_wp2_with (go_at_call 54; refine hh.mono ?_; clear hh; rintro r w1 ⟨rfl, ha1⟩)
        go_ret
        have e : throughR S C ks = (31, S, C) := by unfold throughR; rw [if_neg HALL.out]
        rw [e]
        exact ⟨rfl, P, HA.out.trans ha1⟩
    · have hkz : ¬ (k : Int) < (m : Int) := by omega
      have HE : Hid (ks.take k = ks) := List.take_of_length_le (by have := HM.out; omega)
      have hd2 : d = ks.filter (dirtyAt C.L) := by rw [← HFD.out, HE.out]
      subst hd2
      rw [HE.out] at HAL
      have HTE : Hid (throughR S C ks = if an = true then flushR S C else settleR (Lib.compact (sortI (ks.filter (dirtyAt C.L)))) S C) := by show _ = _; unfold throughR; rw [if_pos HAL.out, HANY.out]
      have hfl := HFl.out wr HA.out
      have hso := HSo.out wr (.slice da (ks.filter (dirtyAt C.L)).length dc) HA.out HO.out
      clear HH HR HC HLk HLn HFl HSo
      cases an
      · go_wp2_with (first | (go_at_call 55; refine hso.mono ?_; clear hso; rintro r w1 ⟨rfl, hco⟩) | (go_at_call 56; refine hco.mono ?_; clear hco; rintro r w2 ⟨v2, rfl, hst⟩) | (go_at_call 52; refine hst.mono ?_; clear hst; rintro r w3 ⟨rfl, ha3⟩))
        go_ret
        rw [HTE.out, if_neg (by simp)]
        exact ⟨rfl, ha3⟩
      · go_wp2_with (go_at_call 24; refine hfl.mono ?_; clear hfl; rintro r w1 ⟨rfl, ha1⟩)
        go_ret
        have e : throughR S C ks = flushR S C := by rw [HTE.out]; simp
        rw [e]
        exact ⟨rfl, ha1⟩
end
end Go.Proofs.YtijimcjmpeakpaaGreat.C

namespace Go.Proofs.YtijimcjmpeakpaaGreat.C
open Go.RowKit Go.Maps Go.Shelf Go.Proofs.YtijimcjmpeakpaaGreat
attribute [local go_sem] Oper.semAt_some
set_option linter.unusedVariables false
set_option linter.unusedSimpArgs false
set_option maxRecDepth 100000

abbrev TBk : TypeId := 78
abbrev TBs : TypeId := 76
/-- what was put into the law's book: the sector, where the bytes lie, the bytes -/
abbrev Be := Int × Value × K.Bl
def getB (A : List Be) (s : Int) : K.Bl := match A with
  | [] => K.z512
  | a :: A => if a.1 = s then a.2.2 else getB A s
theorem getB_append (A B : List Be) (s : Int) (h : ∀ a ∈ A, a.1 ≠ s) : getB (A ++ B) s = getB B s := by
  induction A with
  | nil => rfl
  | cons a A ih =>
    rw [List.cons_append]
    conv => lhs; unfold getB
    rw [if_neg (h a (by simp))]
    exact ih fun x hx => h x (by simp [hx])
theorem getB_snoc (A : List Be) (x : Be) (t : Int) (h : x.1 ≠ t) : getB (A ++ [x]) t = getB A t := by
  induction A with
  | nil => simp [getB, h]
  | cons a A ih =>
    rw [List.cons_append]
    unfold getB
    rw [ih]
theorem getB_at {A : List Be} {k : Nat} {a : Be} {s : Int} (h : A[k]? = some a) (hs : a.1 = s) (hno : ∀ x ∈ A.take k, x.1 ≠ s) : getB A s = a.2.2 := by
  have e : A = A.take k ++ a :: A.drop (k + 1) := by
    have hk := (List.getElem?_eq_some_iff.1 h).1
    have h1 := (List.getElem?_eq_some_iff.1 h).2
    rw [← h1, List.getElem_cons_drop, List.take_append_drop]
  rw [e, getB_append _ _ _ hno]
  unfold getB
  rw [if_pos hs]
theorem getB_set {A : List Be} {k : Nat} {a : Be} {s : Int} (h : A[k]? = some a) (hs : a.1 = s) (hno : ∀ x ∈ A.take k, x.1 ≠ s) (v : Value) (bs : K.Bl) (t : Int) : getB (A.set k (s, v, bs)) t = if t = s then bs else getB A t := by
  induction A generalizing k with
  | nil => simp at h
  | cons x A ih =>
    cases k with
    | zero =>
      simp at h
      subst h
      rw [List.set_cons_zero]
      unfold getB
      by_cases e : t = s
      · rw [if_pos e, if_pos e.symm]
      · rw [if_neg e, if_neg (fun h => e h.symm), if_neg (by rw [hs]; exact fun h => e h.symm)]
    | succ k =>
      rw [List.set_cons_succ]
      have hx : x.1 ≠ s := hno x (by simp)
      have := ih (k := k) (by simpa using h) (fun y hy => hno y (by simp [hy]))
      unfold getB
      rw [this]
      by_cases e : t = s
      · rw [if_pos e, if_pos e, if_neg (by rw [e]; exact hx)]
      · rw [if_neg e, if_neg e]
/-- the law's book in memory -/
structure Bk (w : World) (kb : Nat) (av bw : Value) (A : List Be) : Prop where
  blk : w.heap[kb]? = some (.cells #[av, bw] TBk (0, 0))
  ra : w.ownsRow 0 TIn 1 av A.length (IV (A.map (·.1)))
  rb : w.ownsRow 0 TBy 1 bw A.length (A.map (·.2.1))
  dat : ∀ a ∈ A, w.ownsRow 0 5 1 a.2.1 512 (a.2.2.map bv)
def bfp (kb : Nat) (av bw : Value) (A : List Be) : List Nat := kb :: (av.ownBlock.toList ++ (bw.ownBlock.toList ++ A.flatMap fun a => a.2.1.ownBlock.toList))
section
variable {w w' : World} {kb : Nat} {av bw : Value} {A : List Be}
theorem Bk.same (h : Bk w kb av bw A) (hs : ∀ i ∈ bfp kb av bw A, w'.heap[i]? = w.heap[i]?) : Bk w' kb av bw A := by
  refine ⟨(hs kb (by simp [bfp])).trans h.blk, K.ownsRow_block h.ra fun g hg => hs g (by simp [bfp, hg]), K.ownsRow_block h.rb fun g hg => hs g (by simp [bfp, hg]), fun a ha => K.ownsRow_block (h.dat a ha) fun g hg => hs g ?_⟩
  simp only [bfp, List.mem_cons, List.mem_append, List.mem_flatMap]
  exact .inr (.inr (.inr ⟨a, ha, by simp [hg]⟩))
theorem Bk.lt (h : Bk w kb av bw A) : ∀ i ∈ bfp kb av bw A, i < w.heap.size := by
  intro i hi
  simp only [bfp, List.mem_cons, List.mem_append, List.mem_flatMap, Option.mem_toList] at hi
  rcases hi with rfl | hi | hi | ⟨a, ha, hi⟩
  · exact (Array.getElem?_eq_some_iff.1 h.blk).1
  · exact (K.row_lt h.ra i hi).1
  · exact (K.row_lt h.rb i hi).1
  · exact (K.row_lt (h.dat a ha) i hi).1
theorem Bk.later (h : Bk w kb av bw A) (hb : Below w.heap.size w w') : Bk w' kb av bw A := h.same fun i hi => hb.block i (h.lt i hi)
theorem Bk.kept {F : List Nat} (h : Bk w kb av bw A) (hk : K.Kp w w' F) (hd : ∀ i ∈ bfp kb av bw A, i ∉ F) : Bk w' kb av bw A := h.same fun i hi => hk.block i (h.lt i hi) (hd i hi)
theorem Bk.kinds (h : Bk w kb av bw A) : av.ownBlock ≠ some kb ∧ bw.ownBlock ≠ some kb ∧ (∀ g, av.ownBlock = some g → bw.ownBlock ≠ some g) ∧ ∀ a ∈ A, ∀ g, a.2.1.ownBlock = some g → g ≠ kb ∧ av.ownBlock ≠ some g ∧ bw.ownBlock ≠ some g := by
  have hb := h.blk
  have k1 := K.row_lt h.ra
  have k2 := K.row_lt h.rb
  refine ⟨fun e => ?_, fun e => ?_, fun g e1 e2 => ?_, fun a ha g e => ⟨fun e' => ?_, fun e' => ?_, fun e' => ?_⟩⟩
  · obtain ⟨_, cs, h1⟩ := k1 _ e; rw [hb] at h1; simp at h1; exact absurd h1.2 (by decide)
  · obtain ⟨_, cs, h1⟩ := k2 _ e; rw [hb] at h1; simp at h1; exact absurd h1.2 (by decide)
  · obtain ⟨_, cs, h1⟩ := k1 _ e1; obtain ⟨_, cs', h2⟩ := k2 _ e2; rw [h1] at h2; simp at h2; exact absurd h2.2 (by decide)
  · subst e'; obtain ⟨_, cs, h1⟩ := K.row_lt (h.dat a ha) _ e; rw [hb] at h1; simp at h1; exact absurd h1.2 (by decide)
  · obtain ⟨_, cs, h1⟩ := K.row_lt (h.dat a ha) _ e; obtain ⟨_, cs', h2⟩ := k1 _ e'; rw [h1] at h2; simp at h2; exact absurd h2.2 (by decide)
  · obtain ⟨_, cs, h1⟩ := K.row_lt (h.dat a ha) _ e; obtain ⟨_, cs', h2⟩ := k2 _ e'; rw [h1] at h2; simp at h2; exact absurd h2.2 (by decide)
theorem by_form {w : World} {B n : Nat} {v : Value} {xs : List Value} (h : w.ownsRow B TBy 1 v n xs) : ∃ ao cap, v = .slice ao n cap := by
  rcases h.2 with ⟨hv, hn⟩ | ⟨g, cap, cur, hv, _⟩
  · exact ⟨none, 0, by rw [hv, hn]⟩
  · exact ⟨_, _, hv⟩
theorem row_at {w : World} {B T n : Nat} {v : Value} {xs : List Value} (h : w.ownsRow B T 1 v n xs) {k : Nat} {x : Value} (hx : xs[k]? = some x) : ∃ g cap, v = .slice (some ⟨g, 0, none⟩) n cap ∧ w.cell? ⟨g, k, none⟩ = some x ∧ w.frozen? ⟨g, k, none⟩ = false := by
  rcases h.2 with ⟨hv, hn⟩ | ⟨g, cap, cur, rfl, _, hg, _⟩
  · have h1 := h.1
    have h2 := (List.getElem?_eq_some_iff.1 hx).1
    omega
  · refine ⟨g, cap, rfl, ?_, K.frozen_of hg⟩
    have c1 := h.cells (g := g) rfl k _ hx
    rwa [WideShapes.add_plain, Nat.zero_add] at c1
theorem infoBy : (Tryz.prog.info? TBy).map (fun i => (i.zero, i.size, i.bytes)) = some (some (.slice none 0 0), 1, 24) := by kernel_rfl
set_option maxHeartbeats 4000000 in
theorem get_c (h : Bk w kb av bw A) (s : Int) (hl : A.length ≤ 1048576) :
    Calls Tryz.prog 23 #[.pointer (some ⟨kb, 0, none⟩), .int .i64 s] w fun r w' => ∃ v, r = .returned v ∧ w'.ownsRow 0 5 1 v 512 ((getB A s).map bv) ∧ Below w.heap.size w w' := by
  obtain ⟨ao, ac, rfl⟩ := int_form h.ra
  obtain ⟨bo, bc, rfl⟩ := by_form h.rb
  obtain ⟨n, hn⟩ : ∃ n, n = A.length := ⟨_, rfl⟩
  have c0 : w.cell? ⟨kb, 0, none⟩ = some (.slice ao n ac) := by rw [hn]; exact (K.cell_of h.blk).trans rfl
  have c1 : w.cell? ⟨kb, 1, none⟩ = some (.slice bo n bc) := by rw [hn]; exact (K.cell_of h.blk).trans rfl
  have HA : Hid (∀ k a, A[k]? = some a → (∃ g, ao = some ⟨g, 0, none⟩ ∧ w.cell? ⟨g, k, none⟩ = some (.int .i64 a.1)) ∧ (∃ g, bo = some ⟨g, 0, none⟩ ∧ w.cell? ⟨g, k, none⟩ = some a.2.1) ∧ w.ownsRow 0 5 1 a.2.1 512 (a.2.2.map bv)) := fun k a hk => by
    have h1 : (IV (A.map (·.1)))[k]? = some (.int .i64 a.1) := IV_get (by rw [List.getElem?_map, hk]; rfl)
    have h2 : (A.map (·.2.1))[k]? = some a.2.1 := by rw [List.getElem?_map, hk]; rfl
    obtain ⟨g, _, e, d, _⟩ := row_at h.ra h1
    obtain ⟨g', _, e', d', _⟩ := row_at h.rb h2
    cases e
    cases e'
    exact ⟨⟨g, rfl, d⟩, ⟨g', rfl, d'⟩, h.dat a (List.mem_of_getElem? hk)⟩
  have HN : Hid (n = A.length) := hn
  rw [← hn] at hl
  obtain ⟨Z, hZ, hmk⟩ := K.run_row w (n := 512) (by omega)
  have hmk' : (Instr.makeSlice 80 (.int .i64 512) (.int .i64 512)).run Tryz.prog w = .ok (.slice (some ⟨w.heap.size, 0, none⟩) 512 512) (w.alloc (.cells (K.z512.map bv).toArray 5)) := by
    have := K.run_image w (n := 1) (by omega)
    simpa [K.imgL] using this
  have HZ : Hid ((w.alloc (.cells (K.z512.map bv).toArray 5)).ownsRow 0 5 1 (.slice (some ⟨w.heap.size, 0, none⟩) 512 512) 512 (K.z512.map bv)) := by
    have hz : (K.z512.map bv).length = 512 := by simp [K.z512]
    exact ⟨by rw [hz], .inr ⟨w.heap.size, 512, _, rfl, Nat.zero_le _, heap_alloc_new w _, Nat.le_refl _, by decide, by simp [K.z512], by rw [Nat.mul_one, ← hz, List.toList_toArray, List.take_length]⟩⟩
  clear h hn hmk
  go_enter Tryz.func23, Tryz.ntmps23
  go_wp2
  go_loopw [5] (fun i wr => ∃ (k : Nat), k ≤ n ∧ i = .int .i64 k ∧ wr = w ∧ Hid (∀ x ∈ A.take k, x.1 ≠ s)) (fun i _ => n - (intOf i).toNat)
  case atStart => exact ⟨0, Nat.zero_le _, rfl, rfl, fun x hx => by simp at hx⟩
  case round =>
    obtain ⟨k, hk, rfl, rfl, HNO⟩ := hrel
    by_cases hlt : k < n
    · have hkz : (k : Int) < (n : Int) := by omega
      obtain ⟨a, ha⟩ : ∃ a, A[k]? = some a := ⟨_, List.getElem?_eq_getElem (by have := HN.out; omega)⟩
      obtain ⟨⟨g, rfl, d0⟩, ⟨g', rfl, d1⟩, hd⟩ := HA.out k a ha
      by_cases hs : a.1 = s
      · have hs' : decide (a.1 = s) = true := decide_eq_true hs
        have HG : Hid (getB A s = a.2.2) := getB_at ha hs HNO.out
        have HD : Hid (wr.ownsRow 0 5 1 a.2.1 512 (a.2.2.map bv)) := hd
        clear ha hd HZ hmk'
        go_wp2
        go_ret
        exact ⟨_, rfl, by rw [HG.out]; exact HD.out, Below.refl _ _⟩
      · have hs' : decide (a.1 = s) = false := decide_eq_false hs
        have HX : Hid (∀ x ∈ A.take (k + 1), x.1 ≠ s) := fun x hx => by
          rw [List.take_add_one, ha] at hx
          rcases List.mem_append.1 hx with hx | hx
          · exact HNO.out x hx
          · simp at hx; rw [hx]; exact hs
        clear ha hd HZ hmk'
        go_wp2
        go_roundw
        case rel => first | exact ⟨k + 1, by omega, by go_num, rfl, HX⟩ | exact ⟨k + 1, by omega, by go_num, trivial, HX⟩
        case measure => simp [intOf]; omega
    · have hkz : ¬ (k : Int) < (n : Int) := by omega
      have HG : Hid (getB A s = K.z512) := by
        have h1 := HNO.out
        rw [List.take_of_length_le (by have := HN.out; omega)] at h1
        have := getB_append A [] s h1
        rw [List.append_nil] at this
        rw [this]; rfl
      go_wp2
      go_ret
      exact ⟨_, rfl, by rw [HG.out]; exact HZ.out, (Below.refl _ _).alloc (Nat.le_refl _) _⟩
theorem set_same {l : List Int} {k : Nat} {x : Int} (h : l[k]? = some x) : l.set k x = l := by
  apply List.ext_getElem?
  intro i
  rw [List.getElem?_set]
  by_cases e : k = i
  · subst e; rw [if_pos rfl, if_pos (List.getElem?_eq_some_iff.1 h).1, h]
  · rw [if_neg e]
set_option maxHeartbeats 8000000 in
theorem put_c (h : Bk w kb av bw A) (s : Int) {vo : Option Addr} {vc : Nat} {bs : K.Bl} (hv : w.ownsRow 0 5 1 (.slice vo 512 vc) 512 (bs.map bv)) (hl : A.length < 1048576) :
    Calls Tryz.prog 19 #[.pointer (some ⟨kb, 0, none⟩), .int .i64 s, .slice vo 512 vc] w fun r w' => r = .returned (.tuple #[]) ∧ ∃ av' bw' A', Bk w' kb av' bw' A' ∧ (∀ t, getB A' t = if t = s then bs else getB A t) ∧ A'.length ≤ A.length + 1 ∧ K.Kp w w' (bfp kb av bw A) ∧ ∀ i ∈ bfp kb av' bw' A', i ∈ bfp kb av bw A ∨ w.heap.size ≤ i ∨ (Value.slice vo 512 vc).ownBlock = some i := by
  obtain ⟨ia, hia, iz0, iz1, iz2⟩ := info_parts I.A.infoKey
  obtain ⟨ib, hib, jz0, jz1, jz2⟩ := info_parts infoBy
  obtain ⟨ao, ac, rfl⟩ := int_form h.ra
  obtain ⟨bo, bc, rfl⟩ := by_form h.rb
  obtain ⟨n, hn⟩ : ∃ n, n = A.length := ⟨_, rfl⟩
  rw [← hn] at h ⊢
  have c0 : w.cell? ⟨kb, 0, none⟩ = some (.slice ao n ac) := (K.cell_of h.blk).trans rfl
  have c1 : w.cell? ⟨kb, 1, none⟩ = some (.slice bo n bc) := (K.cell_of h.blk).trans rfl
  have HB : Hid (Bk w kb (.slice ao n ac) (.slice bo n bc) A) := h
  have HV : Hid (w.ownsRow 0 5 1 (.slice vo 512 vc) 512 (bs.map bv)) := hv
  have HA : Hid (∀ k a, A[k]? = some a → (∃ g, ao = some ⟨g, 0, none⟩ ∧ w.cell? ⟨g, k, none⟩ = some (.int .i64 a.1)) ∧ (∃ g, bo = some ⟨g, 0, none⟩ ∧ w.cell? ⟨g, k, none⟩ = some a.2.1 ∧ w.frozen? ⟨g, k, none⟩ = false)) := fun k a hk => by
    have h1 : (IV (A.map (·.1)))[k]? = some (.int .i64 a.1) := IV_get (by rw [List.getElem?_map, hk]; rfl)
    have h2 : (A.map (·.2.1))[k]? = some a.2.1 := by rw [List.getElem?_map, hk]; rfl
    obtain ⟨g, _, e, d, _⟩ := row_at h.ra h1
    obtain ⟨g', _, e', d', f'⟩ := row_at h.rb h2
    cases e
    cases e'
    exact ⟨⟨g, rfl, d⟩, ⟨g', rfl, d', f'⟩⟩
  have HN : Hid (n = A.length) := hn
  rw [← hn] at hl
  clear h hn hv
  go_enter Tryz.func19, Tryz.ntmps19
  go_wp2
  go_loopw [6] (fun i wr => ∃ (k : Nat), k ≤ n ∧ i = .int .i64 k ∧ wr = w ∧ Hid (∀ x ∈ A.take k, x.1 ≠ s)) (fun i _ => n - (intOf i).toNat)
  case atStart => exact ⟨0, Nat.zero_le _, rfl, rfl, fun x hx => by simp at hx⟩
  case round =>
    obtain ⟨k, hk, rfl, rfl, HNO⟩ := hrel
    by_cases hlt : k < n
    · have hkz : (k : Int) < (n : Int) := by omega
      obtain ⟨a, ha⟩ : ∃ a, A[k]? = some a := ⟨_, List.getElem?_eq_getElem (by have := HN.out; omega)⟩
      obtain ⟨⟨g, rfl, d0⟩, ⟨g', rfl, d1, f1⟩⟩ := HA.out k a ha
      by_cases hs : a.1 = s
      · have hs' : decide (a.1 = s) = true := decide_eq_true hs
        have HG : Hid (A[k]? = some a ∧ a.1 = s) := ⟨ha, hs⟩
        clear ha
        go_wp2
        refine bodyPost_ret (results_none rfl _ _ _) rfl ?_
        obtain ⟨ha, hs⟩ := HG.out
        have hb := HB.out
        obtain ⟨k1, k2, k3, k4⟩ := hb.kinds
        have hgk : g' ≠ kb := fun e => k2 (by rw [e]; rfl)
        have hgg : g ≠ g' := fun e => k3 g rfl (by rw [e]; rfl)
        refine ⟨rfl, .slice (some ⟨g, 0, none⟩) n ac, .slice (some ⟨g', 0, none⟩) n bc, A.set k (s, .slice vo 512 vc, bs), ⟨?_, ?_, ?_, ?_⟩, getB_set ha hs HNO.out _ _, by rw [List.length_set]; have := HN.out; omega, ?_, ?_⟩
        · exact (Below.heap_setCell _ _ _ _ (Ne.symm hgk)).trans hb.blk
        · rw [List.length_set, List.map_set, set_same (by rw [List.getElem?_map, ha]; simp [hs])]
          exact K.ownsRow_block hb.ra fun i hi => by cases hi; exact Below.heap_setCell _ _ _ _ hgg
        · rw [List.length_set, List.map_set]
          have := K.row_set (j := k) (.slice vo 512 vc) (by have := hb.rb; rw [← HN.out] at this; exact this) (by rw [List.length_map]; have := HN.out; omega)
          rw [← HN.out]
          exact this
        · intro x hx
          rcases List.mem_or_eq_of_mem_set hx with hx | rfl
          · exact K.ownsRow_block (hb.dat x hx) fun i hi => Below.heap_setCell _ _ _ _ (fun e => (k4 x hx i hi).2.2 (by rw [e]; rfl))
          · exact K.ownsRow_block HV.out fun i hi => Below.heap_setCell _ _ _ _ (fun e => by
              obtain ⟨_, cs, h1⟩ := K.row_lt HV.out i hi
              obtain ⟨_, cs', h2⟩ := K.row_lt hb.rb g' rfl
              rw [e, h2] at h1
              simp at h1
              exact absurd h1.2 (by decide))
        · exact (K.Kp.refl _ _).set (.inl (by simp [bfp, Value.ownBlock])) k _
        · intro i hi
          simp only [bfp, List.mem_cons, List.mem_append, List.mem_flatMap, Option.mem_toList] at hi ⊢
          rcases hi with hi | hi | hi | ⟨x, hx, hi⟩
          · exact .inl (.inl hi)
          · exact .inl (.inr (.inl hi))
          · exact .inl (.inr (.inr (.inl hi)))
          · rcases List.mem_or_eq_of_mem_set hx with hx | rfl
            · exact .inl (.inr (.inr (.inr ⟨x, hx, hi⟩)))
            · exact .inr (.inr hi)
      · have hs' : decide (a.1 = s) = false := decide_eq_false hs
        have HX : Hid (∀ x ∈ A.take (k + 1), x.1 ≠ s) := fun x hx => by
          rw [List.take_add_one, ha] at hx
          rcases List.mem_append.1 hx with hx | hx
          · exact HNO.out x hx
          · simp at hx; rw [hx]; exact hs
        clear ha
        go_wp2
        go_roundw
        case rel => first | exact ⟨k + 1, by omega, by go_num, rfl, HX⟩ | exact ⟨k + 1, by omega, by go_num, trivial, HX⟩
        case measure => simp [intOf]; omega
    · have hkz : ¬ (k : Int) < (n : Int) := by omega
      have HNA : Hid (∀ x ∈ A, x.1 ≠ s) := by
        have h1 := HNO.out
        rw [List.take_of_length_le (by have := HN.out; omega)] at h1
        exact h1
      have HR : Hid (wr.ownsRow 0 TIn 1 (.slice ao n ac) n (IV (A.map (·.1)))) := by have := HB.out.ra; rw [← HN.out] at this; exact this
      have HRB : Hid (wr.ownsRow 0 TBy 1 (.slice bo n bc) n (A.map (·.2.1))) := by have := HB.out.rb; rw [← HN.out] at this; exact this
      have HNW : Hid (∀ (W : World) (v : Value), ∀ (j : Nat) (u : Value), [Value.slice vo 512 vc][j]? = some u → ((W.setCell ⟨kb, 0, none⟩ v).alloc (.cells #[.slice vo 512 vc] TBy)).cell? ((⟨W.heap.size, 0, none⟩ : Addr).add j) = some u) := fun W v => by
        have := World.news_of_block (heap_alloc_new (W.setCell ⟨kb, 0, none⟩ v) (.cells #[.slice vo 512 vc] TBy))
        rw [World.size_setCell] at this
        exact this
      have HKL : Hid (kb < wr.heap.size) := (Array.getElem?_eq_some_iff.1 HB.out.blk).1
      clear HA
      go_wp2_with (first
        | (at_builtin; (refine wpList_append_own_at _ rfl _ _ 22 rfl 0 TIn ia _ 1 8 Tryz.underlying22 hia iz0 iz1 iz2 rfl (by decide) (.slice ao n ac) n (IV (A.map (·.1))) rfl (HR.out.alloc _) ⟨wr.heap.size, 0, none⟩ 1 1 [.int .i64 s] rfl rfl (I.A.news1 _ _) (by simp [Value.oneCell']) (by unfold maxLen; omega) (by omega) (Nat.zero_le _) ?_; intro v1 w1 hown1 hg1 _ hat1; obtain ⟨a1, m1, hv1⟩ := int_form hown1; have hk1 : w1.heap[kb]? = some (.cells #[.slice ao n ac, .slice bo n bc] TBk (0, 0)) := (hg1.block kb (by rw [World.size_alloc]; have := HKL.out; omega) (fun e => HB.out.kinds.1 e.symm)).trans ((Below.heap_alloc _ _ _ HKL.out).trans HB.out.blk); have d0 : w1.cell? ⟨kb, 0, none⟩ = some (.slice ao n ac) := (K.cell_of hk1).trans rfl; have z0 : w1.frozen? ⟨kb, 0, none⟩ = false := K.frozen_of hk1; have d1 : (w1.setCell ⟨kb, 0, none⟩ v1).cell? ⟨kb, 1, none⟩ = some (.slice bo n bc) := (K.cell_of (K.blk_set hk1 0 v1)).trans rfl; have HK1 : Hid (w1.heap[kb]? = some (.cells #[.slice ao n ac, .slice bo n bc] TBk (0, 0))) := hk1; have HO1 : Hid (w1.ownsRow 0 TIn 1 v1 (n + 1) (IV (A.map (·.1)) ++ [.int .i64 s])) := hown1; have HG1 : Hid ((wr.alloc (.cells #[.int .i64 s] TIn)).grownBy w1 (Value.slice ao n ac).ownBlock) := hg1; have HAT1 : Hid (v1.ownBlock = (Value.slice ao n ac).ownBlock ∨ v1.ownBlock = some (wr.heap.size + 1)) := (by show _ ∨ _; simpa using hat1); have HRB1 : Hid ((w1.setCell ⟨kb, 0, none⟩ v1).ownsRow 0 TBy 1 (.slice bo n bc) n (A.map (·.2.1))) := (K.ownsRow_block HRB.out fun i hi => (Below.heap_setCell _ _ _ _ (fun e => HB.out.kinds.2.1 (by have e' : i = kb := e; rw [← e']; exact hi))).trans ((hg1.block i (by rw [World.size_alloc]; have := (K.row_lt HRB.out i hi).1; omega) (fun e => HB.out.kinds.2.2.1 i e.symm hi)).trans (Below.heap_alloc _ _ _ (K.row_lt HRB.out i hi).1))); subst hv1; clear hk1 hown1 hg1 hat1))
        | (at_builtin; (refine wpList_append_own_at _ rfl _ _ TBs rfl 0 TBy ib _ 1 24 Tryz.underlying76 hib jz0 jz1 jz2 rfl (by decide) (.slice bo n bc) n (A.map (·.2.1)) rfl (HRB1.out.alloc _) ⟨w1.heap.size, 0, none⟩ 1 1 [.slice vo 512 vc] rfl rfl (HNW.out w1 (.slice a1 (n + 1) m1)) (by simp [Value.oneCell']) (by unfold maxLen; omega) (by omega) (Nat.zero_le _) ?_; intro v2 w2 hown2 hg2 _ hat2; obtain ⟨a2, m2, hv2⟩ := by_form hown2; have HK2 : Hid (w2.heap[kb]? = some (.cells #[.slice a1 (n + 1) m1, .slice bo n bc] TBk (0, 0))) := ((hg2.block kb (by rw [World.size_alloc, World.size_setCell]; have := (Array.getElem?_eq_some_iff.1 HK1.out).1; omega) (fun e => HB.out.kinds.2.1 e.symm)).trans ((Below.heap_alloc _ _ _ (by rw [World.size_setCell]; exact (Array.getElem?_eq_some_iff.1 HK1.out).1)).trans (K.blk_set HK1.out 0 (.slice a1 (n + 1) m1)))); have d2 : w2.cell? ⟨kb, 1, none⟩ = some (.slice bo n bc) := (K.cell_of HK2.out).trans rfl; have z2 : w2.frozen? ⟨kb, 1, none⟩ = false := K.frozen_of HK2.out; have HO2 : Hid (w2.ownsRow 0 TBy 1 v2 (n + 1) (A.map (·.2.1) ++ [.slice vo 512 vc])) := hown2; have HG2 : Hid (((w1.setCell ⟨kb, 0, none⟩ (.slice a1 (n + 1) m1)).alloc (.cells #[.slice vo 512 vc] TBy)).grownBy w2 (Value.slice bo n bc).ownBlock) := hg2; have HAT2 : Hid (v2.ownBlock = (Value.slice bo n bc).ownBlock ∨ v2.ownBlock = some (w1.heap.size + 1)) := (by show _ ∨ _; simpa using hat2); subst hv2; clear hown2 hg2 hat2)))
      go_end0
      have hb := HB.out
      obtain ⟨k1, k2, k3, k4⟩ := hb.kinds
      have hs1 : wr.heap.size + 1 ≤ w1.heap.size := by have := HG1.out.size; rw [World.size_alloc] at this; exact this
      have hs2 : w1.heap.size + 1 ≤ w2.heap.size := by have := HG2.out.size; rw [World.size_alloc, World.size_setCell] at this; exact this
      have same1 : ∀ g, g < w1.heap.size → g ≠ kb → (Value.slice bo n bc).ownBlock ≠ some g → (w2.setCell ⟨kb, 1, none⟩ (.slice a2 (n + 1) m2)).heap[g]? = w1.heap[g]? := fun g hg h1 h2 => by
        rw [Below.heap_setCell _ _ _ _ h1, HG2.out.block g (by rw [World.size_alloc, World.size_setCell]; omega) (fun e => h2 e.symm), Below.heap_alloc _ _ _ (by rw [World.size_setCell]; exact hg), Below.heap_setCell _ _ _ _ h1]
      have same : ∀ g, g < wr.heap.size → g ≠ kb → (Value.slice ao n ac).ownBlock ≠ some g → (Value.slice bo n bc).ownBlock ≠ some g → (w2.setCell ⟨kb, 1, none⟩ (.slice a2 (n + 1) m2)).heap[g]? = wr.heap[g]? := fun g hg h1 h2 h3 => by
        rw [same1 g (by omega) h1 h3, HG1.out.block g (by rw [World.size_alloc]; omega) (fun e => h2 e.symm), Below.heap_alloc _ _ _ hg]
      have hkF : kb ∈ bfp kb (.slice ao n ac) (.slice bo n bc) A := by simp [bfp]
      refine ⟨rfl, .slice a1 (n + 1) m1, .slice a2 (n + 1) m2, A ++ [(s, .slice vo 512 vc, bs)], ⟨?_, ?_, ?_, ?_⟩, fun t => ?_, by rw [List.length_append, List.length_singleton]; have := HN.out; omega, ?_, ?_⟩
      · exact K.blk_set HK2.out 1 _
      · rw [List.length_append, List.length_singleton, ← HN.out, List.map_append, List.map_singleton, IV, List.map_append, List.map_singleton]
        refine K.ownsRow_block HO1.out fun g hg => ?_
        obtain ⟨hgl, cs, hgt⟩ := K.row_lt HO1.out g hg
        have hgk : g ≠ kb := fun e => by rw [e, HK1.out] at hgt; simp at hgt; exact absurd hgt.2 (by decide)
        refine same1 g hgl hgk (fun e => ?_)
        obtain ⟨_, cs', h2⟩ := K.row_lt HRB1.out g e
        rw [Below.heap_setCell _ _ _ _ hgk, hgt] at h2
        simp at h2
        exact absurd h2.2 (by decide)
      · rw [List.length_append, List.length_singleton, ← HN.out, List.map_append, List.map_singleton]
        refine K.ownsRow_block HO2.out fun g hg => Below.heap_setCell _ _ _ _ (fun e => ?_)
        obtain ⟨_, cs, hgt⟩ := K.row_lt HO2.out g hg
        rw [show g = kb from e, HK2.out] at hgt
        simp at hgt
        exact absurd hgt.2 (by decide)
      · intro x hx
        rcases List.mem_append.1 hx with hx | hx
        · exact K.ownsRow_block (hb.dat x hx) fun g hg => same g (K.row_lt (hb.dat x hx) g hg).1 (k4 x hx g hg).1 (k4 x hx g hg).2.1 (k4 x hx g hg).2.2
        · simp at hx
          subst hx
          refine K.ownsRow_block HV.out fun g hg => ?_
          obtain ⟨hgl, cs, hgt⟩ := K.row_lt HV.out g hg
          refine same g hgl (fun e => ?_) (fun e => ?_) (fun e => ?_)
          · rw [e, hb.blk] at hgt; simp at hgt; exact absurd hgt.2 (by decide)
          · obtain ⟨_, cs', h2⟩ := K.row_lt hb.ra g e; rw [hgt] at h2; simp at h2; exact absurd h2.2 (by decide)
          · obtain ⟨_, cs', h2⟩ := K.row_lt hb.rb g e; rw [hgt] at h2; simp at h2; exact absurd h2.2 (by decide)
      · by_cases e : t = s
        · subst e
          rw [if_pos rfl, getB_append A _ t HNA.out]
          simp [getB]
        · rw [if_neg e, getB_snoc A _ t (fun h => e h.symm)]
      · have q1 : K.Kp wr w1 (bfp kb (.slice ao n ac) (.slice bo n bc) A) := ((K.Kp.refl wr _).grown (World.grownBy_alloc wr _ none) (fun k e => by cases e)).grown HG1.out (fun k e => .inl (by simp [bfp, e]))
        have q2 := ((q1.set (.inl hkF) 0 (.slice a1 (n + 1) m1)).grown (World.grownBy_alloc _ (.cells #[.slice vo 512 vc] TBy) none) (fun k e => by cases e)).grown HG2.out (fun k e => .inl (by simp [bfp, e]))
        exact q2.set (.inl hkF) 1 _
      · intro i hi
        simp only [bfp, List.mem_cons, List.mem_append, List.mem_flatMap, Option.mem_toList] at hi ⊢
        rcases hi with hi | hi | hi | ⟨x, hx, hi⟩
        · exact .inl (.inl hi)
        · rcases HAT1.out with e | e
          · rw [e] at hi; exact .inl (.inr (.inl hi))
          · rw [e] at hi; cases hi; exact .inr (.inl (by omega))
        · rcases HAT2.out with e | e
          · rw [e] at hi; exact .inl (.inr (.inr (.inl hi)))
          · rw [e] at hi; cases hi; exact .inr (.inl (by omega))
        · rcases hx with hx | hx
          · exact .inl (.inr (.inr (.inr ⟨x, hx, hi⟩)))
          · simp at hx; subst hx; exact .inr (.inr hi)
end
end Go.Proofs.YtijimcjmpeakpaaGreat.C

namespace Go.Proofs.YtijimcjmpeakpaaGreat.C
open Go.RowKit Go.Maps Go.Shelf Go.Proofs.YtijimcjmpeakpaaGreat
attribute [local go_sem] Oper.semAt_some
set_option linter.unusedVariables false
set_option linter.unusedSimpArgs false
set_option maxRecDepth 100000

theorem apart_nil {n : Nat} : Apart n [] := ⟨(fun p hp => by cases hp), List.Pairwise.nil⟩
theorem eql_sps (w : World) (a : Addr) (n c : Nat) : (binOp .eql TSps (.slice (some a) n c) (.slice none 0 0)).run Tryz.prog w = .ok (.bool false) w := by rfl
/-- an empty list that is not nil -/
theorem cloneS_none (w : World) (a : Addr) (cap : Nat) : Calls Tryz.prog 38 #[.slice (some a) 0 cap] w fun r w' => ∃ v, r = .returned v ∧ w'.ownsRow w.heap.size TSp 2 v 0 [] ∧ Below w.heap.size w w' := by
  obtain ⟨i0, hi, hz0, hz1, hz2⟩ := info_parts infoSp
  have z23 := Tryz.sizeOf98
  have u22 : ∀ w, Sem.run Tryz.prog (underlying TSps) w = .ok (TypeDesc.slice TSp) w := run_underlying Tryz.underlying31
  have e1 := eql_sps
  go_enter Tryz.func38, Tryz.ntmps38
  go_wp2_with (at_builtin; refine wpList_append_own _ rfl _ _ TSps rfl w.heap.size TSp i0 _ 2 16 Tryz.underlying31 hi hz0 hz1 hz2 rfl (by decide) _ _ _ rfl (World.ownsRow_made w #[] 0 (Nat.le_refl _) (Nat.zero_le _) (by simp)) a 0 cap [] rfl rfl (fun j u hu => by simp at hu) (fun u hu => by simp at hu) (by decide) (by decide) (by simp) ?_; intro v1 w1 h1 hg1 _)
  go_ret
  have hg2 : (w.alloc (.cells #[] TSp)).grownBy w1 (some w.heap.size) := hg1
  exact ⟨_, rfl, by simpa using h1, ((Below.refl _ w).alloc (Nat.le_refl _) _).grown hg2 (by simp) (by intro k hk; cases hk; exact Nat.le_refl _)⟩
theorem cloneS_any {w : World} {cap : Nat} {ao : Option Addr} {l : List (Int × Int)} (hr : SpR w ao l) (hl : l.length ≤ 1048576) (hao : ao = none → l = []) :
    Calls Tryz.prog 38 #[.slice ao l.length cap] w fun r w' => ∃ v, r = .returned v ∧ w'.ownsRow w.heap.size TSp 2 v l.length (spcells l) ∧ Below w.heap.size w w' := by
  cases l with
  | nil =>
    cases ao with
    | none => exact cloneS_c hr hl hao (fun a e => by cases e)
    | some a => exact cloneS_none w a cap
  | cons p l =>
    refine cloneS_c hr hl hao (fun a e => ?_)
    obtain ⟨g, off, e', _⟩ := hr 0 p rfl
    rw [e] at e'
    cases e'
    exact ⟨_, _, rfl⟩
set_option maxHeartbeats 4000000 in
theorem new_c2 {w : World} {b ms ml : Nat} {qv fv : Value} {S : K.Dk} (h : K.RK w 0 b ms ml qv fv S) {most : Nat} (hm0 : 1 ≤ most) (hm1 : most ≤ 1024) {ao : Option Addr} {cap : Nat} {l : List (Int × Int)} (hr : SpR w ao l) (hl : l.length ≤ 64) (hw : ∀ p ∈ l, I64 p.1 ∧ I64 p.2) (ha : Apart S.n l) (hao : ao = none → l = []) (hfar : l ≠ [] → ∀ b' off, ao = some ⟨b', off, none⟩ → b' ∉ K.fp b ms ml qv fv) :
    Calls Tryz.prog 12 #[.pointer (some ⟨b, 0, none⟩), .int .i64 most, .slice ao l.length cap] w fun r w' => ∃ P, r = .returned (.tuple #[.pointer (some ⟨P.bc, 0, none⟩), .int .i64 0]) ∧ Made w w' b ms ml qv fv S most l P := by
  have hs := K.sectors_any h
  have hn0 := h.n0
  have hn1 := h.n1
  have hmk := fun (w : World) => run_makeMap (P := Tryz.prog) TLm w
  have hap : apartB S.n l = true := apartB_iff.2 ha
  -- the spans behind the question for the sectors
  have HSP : Hid (∀ w1, K.DAct w w1 0 b ms ml ms ml qv fv qv fv S → SpR w1 ao l) := fun w1 hd k p hk => by
    obtain ⟨g, off, e, hg, c0, c1⟩ := hr k p hk
    have hb := hd.kp.block g hg (hfar (by rintro rfl; simp at hk) g off e)
    refine ⟨g, off, e, Nat.lt_of_lt_of_le hg hd.kp.size, ?_, ?_⟩
    · unfold World.cell? at c0 ⊢; rw [hb]; exact c0
    · unfold World.cell? at c1 ⊢; rw [hb]; exact c1
  have HL : Hid (∀ w1, K.DAct w w1 0 b ms ml ms ml qv fv qv fv S → Calls Tryz.prog 37 #[.slice ao l.length cap, .int .i64 S.n] w1 fun r w2 => r = .returned (.bool true) ∧ Below w1.heap.size w1 w2 ∧ Calls Tryz.prog 38 #[.slice ao l.length cap] w2 fun r w3 => ∃ ao' cap', r = .returned (.slice ao' l.length cap') ∧ w3.ownsRow w2.heap.size TSp 2 (.slice ao' l.length cap') l.length (spcells l) ∧ Below w2.heap.size w2 w3) := fun w1 hd => by
    have hsp := HSP.out w1 hd
    have h1 := lieApart_c (n := S.n) (cap := cap) hsp (by omega) hn1 hw
    rw [hap] at h1
    refine h1.mono ?_
    rintro r w2 ⟨rfl, hb⟩
    refine ⟨rfl, hb, (cloneS_any (cap := cap) (hsp.later hb) (by omega) hao).mono ?_⟩
    rintro r w3 ⟨v, rfl, ho, hb3⟩
    obtain ⟨ao', cap', rfl, _⟩ := sp_form ho
    exact ⟨ao', cap', rfl, ho, hb3⟩
  have HNW := fun w => I.new_any w
  have d1 : ¬ ((most : Int) < 1) := by omega
  have d2 : ¬ ((1024 : Int) < (most : Int)) := by omega
  have d3 : ¬ ((64 : Int) < (l.length : Int)) := by omega
  have d4 : ¬ ((S.n : Int) = 0) := by omega
  have d4' : ¬ (S.n = 0) := by omega
  have b1 : decide ((most : Int) < 1) = false := decide_eq_false d1
  have b2 : decide ((l.length : Int) > 64) = false := decide_eq_false d3
  have HLe : Hid (l.length ≤ 64) := hl
  have HH : Hid (K.RK w 0 b ms ml qv fv S) := h
  have HA : Hid (Apart S.n l) := ha
  clear hr hw ha hao hfar hap HSP h
  go_enter Tryz.func12, Tryz.ntmps12
  go_wp2_with (first | (go_at_call 36; refine hs.mono ?_; clear hs; rintro r w1 ⟨rfl, hd1⟩; have hlp := HL.out w1 hd1; clear HL) | (go_at_call 37; refine hlp.mono ?_; clear hlp; rintro r w2 ⟨rfl, hb2, hcl⟩) | (go_at_call 38; refine hcl.mono ?_; clear hcl; rintro r w3 ⟨ao', cap', rfl, ho3, hb3⟩) | (go_at_call 39; refine (HNW _).mono ?_; clear HNW; rintro r w5 ⟨bo, bm, g, rfl, hro, hb5, hfp⟩))
  refine bodyPost_ret (results_tmp2 rfl _ _ _) rfl ?_
  have s1 := hd1.kp.size
  have s2 := hb2.size
  have s3 := hb3.size
  have s4 : (w3.alloc (.map #[] 0)).heap.size = w3.heap.size + 1 := World.size_alloc _ _
  rw [s4] at hfp
  have s5 := hb5.size
  rw [s4] at s5
  have hb34 : Below w3.heap.size w3 (w3.alloc (.map #[] 0)) := (Below.refl _ w3).alloc (Nat.le_refl _) _
  have hb35 : Below w3.heap.size w3 w5 := hb34.trans (hb5.mono (by rw [s4]; omega))
  obtain ⟨w6, hw6⟩ : ∃ w6, w6 = w5.alloc (.cells #[.pointer (some ⟨b, 0, none⟩), .int .i64 most, .slice ao' l.length cap', .map (some w3.heap.size), .pointer (some ⟨bo, 0, none⟩), .int .u64 0, .int .u64 0, .int .u64 0, .int .u64 0] TCa) := ⟨_, rfl⟩
  have hb56 : Below w5.heap.size w5 w6 := by rw [hw6]; exact (Below.refl _ w5).alloc (Nat.le_refl _) _
  have hb36 : Below w3.heap.size w3 w6 := hb35.trans (hb56.mono (by omega))
  have hb46 : Below (w3.heap.size + 1) (w3.alloc (.map #[] 0)) w6 := (by rw [s4] at hb5; exact hb5 : Below (w3.heap.size + 1) (w3.alloc (.map #[] 0)) w5).trans (hb56.mono s5)
  have hb16 : Below w1.heap.size w1 w6 := (hb2.trans (hb3.mono s2)).trans (hb36.mono (by omega))
  have hrk6 := hd1.rk.later hb16
  have hdl := HH.out.lt
  have hol := hro.lt
  have hnb : ∀ i, (Value.slice ao' l.length cap').ownBlock = some i → w2.heap.size ≤ i ∧ i < w3.heap.size := fun i e => ⟨row_base ho3 e, (K.row_lt ho3 i e).1⟩
  have hmap : w6.ownsMap Tryz.prog TIn I.ptrE w3.heap.size 0 (.map []) := K.ownsMap_block (World.ownsMap_made w3 Tryz.prog TIn I.ptrE) (hb46.block _ (by omega))
  refine ⟨⟨w5.heap.size, b, ms, ml, qv, fv, .slice ao' l.length cap', (Value.slice ao' l.length cap').ownBlock, w3.heap.size, bo, bm, g, []⟩, rfl, ?_⟩
  show Made w (w5.alloc _) b ms ml qv fv S most l _
  rw [← hw6]
  have hcf : ∀ i ∈ Loc.cfp ⟨w5.heap.size, b, ms, ml, qv, fv, .slice ao' l.length cap', (Value.slice ao' l.length cap').ownBlock, w3.heap.size, bo, bm, g, []⟩ [], i = w5.heap.size ∨ i = w3.heap.size ∨ (w2.heap.size ≤ i ∧ i < w3.heap.size) := fun i hi => by
    simp only [Loc.cfp, List.map_nil, List.append_nil, List.mem_cons, Option.mem_toList] at hi
    rcases hi with hi | hi | hi
    · exact .inl hi
    · exact .inr (.inl hi)
    · exact .inr (.inr (hnb i hi))
  refine ⟨⟨?_, hrk6, hro.later hb56, rfl, .inr ⟨rfl, K.ownsRow_block (owns_mono ho3 (Nat.zero_le _)) (fun i hi => hb36.block i (hnb i hi).2)⟩, ⟨.map [], hmap, ⟨by simp [newCh], by simp [newCh], fun k _ => rfl, rfl⟩⟩, (fun l hl => by cases hl), List.nodup_nil, (fun l hl => by cases hl), ⟨Nat.zero_le _, hm0, hm1⟩, HLe.out, HA.out.1, ?_, ?_, ?_⟩, ⟨rfl, rfl, rfl, rfl, rfl⟩, ?_, ?_⟩
  · show w6.heap[w5.heap.size]? = _
    rw [hw6]; exact heap_alloc_new w5 _
  · intro i hi ho
    have h1 := hdl i hi
    have h2 := hfp i ho
    omega
  · intro i hi hc
    have h1 := hdl i hi
    rcases hcf i hc with h2 | h2 | h2 <;> omega
  · intro i ho hc
    have h1 := hfp i ho
    have h3 := hol i ho
    rcases hcf i hc with h2 | h2 | h2 <;> omega
  · exact hd1.kp.trans (K.Kp.of_below hb16 _) (fun i hi => .inl hi)
  · rintro i (hi | hi)
    · have h1 := hfp i hi; omega
    · rcases hcf i hi with h2 | h2 | h2 <;> omega
section
variable {w : World} {b ms ml : Nat} {qv fv : Value} {S : K.Dk}
theorem new_all2 (h : K.RK w 0 b ms ml qv fv S) (k : Int) {ao : Option Addr} {cap : Nat} {l : List (Int × Int)} (hr : SpR w ao l) (hl : l.length ≤ 1048576) (hw : ∀ p ∈ l, I64 p.1 ∧ I64 p.2) (hao : ao = none → l = []) (hfar : l ≠ [] → ∀ b' off, ao = some ⟨b', off, none⟩ → b' ∉ K.fp b ms ml qv fv) :
    Calls Tryz.prog 12 #[.pointer (some ⟨b, 0, none⟩), .int .i64 k, .slice ao l.length cap] w (NewPost w b ms ml qv fv S k l) := by
  by_cases hk : k < 1 ∨ 1024 < k
  · have e : newE S.n k l = 50 := by unfold newE; rw [if_pos hk]
    refine (new_lines h hk _).mono ?_
    rintro r w' ⟨rfl, hrk, hkp⟩
    exact ⟨none, by rw [e], hkp, .inl ⟨rfl, by rw [e]; decide, hrk⟩⟩
  · obtain ⟨m, hm⟩ : ∃ m : Nat, (m : Int) = k := ⟨k.toNat, by omega⟩
    subst hm
    by_cases hs : 64 < l.length ∨ apartB S.n l = false
    · have e : newE S.n m l = 51 := by unfold newE; rw [if_neg hk, if_pos hs]
      refine (new_spans h (by omega) (by omega) hr hl hw (hfar (fun e => by subst e; rcases hs with hs | hs; simp at hs; exact absurd apart_nil (apartB_no.1 hs))) (by rw [apartB_no] at hs; exact hs)).mono ?_
      rintro r w' ⟨rfl, hrk, hkp⟩
      exact ⟨none, by rw [e], hkp, .inl ⟨rfl, by rw [e]; decide, hrk⟩⟩
    · have e : newE S.n m l = 0 := by unfold newE; rw [if_neg hk, if_neg hs]
      have ha : Apart S.n l := Classical.byContradiction fun hn => hs (.inr (apartB_no.2 hn))
      refine (new_c2 h (by omega) (by omega) hr (by omega) hw ha hao hfar).mono ?_
      rintro r w' ⟨P, rfl, hM⟩
      exact ⟨_, by rw [e], hM.kp, .inr ⟨e, P, rfl, by rw [Int.toNat_natCast]; exact hM⟩⟩
end
end Go.Proofs.YtijimcjmpeakpaaGreat.C

namespace Go.Proofs.YtijimcjmpeakpaaGreat.C
open Go.RowKit Go.Maps Go.Shelf Go.Proofs.YtijimcjmpeakpaaGreat
attribute [local go_sem] Oper.semAt_some
set_option linter.unusedVariables false
set_option linter.unusedSimpArgs false
set_option maxRecDepth 100000

theorem kp_other {w w' : World} {b : Nat} (h : K.Kp w w' [b]) {F : List Nat} (hb : ∀ i ∈ F, i ≠ b) (hl : ∀ i ∈ F, i < w.heap.size) : ∀ i ∈ F, w'.heap[i]? = w.heap[i]? := fun i hi => h.block i (hl i hi) (by simpa using hb i hi)
/-- the queue, told -/
theorem queue_c {w : World} {P : Loc} {S : K.Dk} {C : Ch} (h : RC w P S C) (hq : S.q.length ≤ 1048576) :
    Calls Tryz.prog 32 #[.pointer (some ⟨P.bd, 0, none⟩)] w fun r w' => ∃ ao cap ps, r = .returned (.slice ao ps.length cap) ∧ PtR w' ao ps ∧ (∀ p ∈ ps, w'.ownsRow w.heap.size 5 1 p.2.1 512 (p.2.2.map bv)) ∧ ps.map K.bare = S.q ∧ CAct w w' P P C S C := by
  refine (K.queue_any h.rk hq).mono ?_
  rintro r w' ⟨v, ps, rfl, ht, hb, hda⟩
  obtain ⟨ao, cap, rfl, hp⟩ := told_form ht
  exact ⟨ao, cap, ps, rfl, hp, ht.dat, hb, h.dsame hda⟩
theorem image_c {w : World} {P : Loc} {S : K.Dk} {C : Ch} (h : RC w P S C) :
    Calls Tryz.prog 33 #[.pointer (some ⟨P.bd, 0, none⟩)] w fun r w' => ∃ g cap, r = .returned (.slice (some ⟨g, 0, none⟩) (S.n * 512) cap) ∧ S.n * 512 ≤ cap ∧ w.heap.size ≤ g ∧ w'.ownsRow w.heap.size 5 1 (.slice (some ⟨g, 0, none⟩) (S.n * 512) cap) (S.n * 512) ((K.imgL S.n S.safe).map bv) ∧ CAct w w' P P C S C := by
  refine (K.image_any h.rk).mono ?_
  rintro r w' ⟨v, rfl, ho, hda⟩
  have h0 := h.rk.n0
  rcases ho.2 with ⟨_, hz⟩ | ⟨g, cap, cur, rfl, hb, hg, hc, _⟩
  · omega
  · exact ⟨g, cap, rfl, hc, hb, ho, h.dsame hda⟩
theorem results_cell1 {fn : Func} {p : Tmp} {tp : TypeId} (h : fn.results = #[.cell p tp]) (tmps : Array Value) (P : Program) (w : World) :
    (results fn tmps).run P w = ((asAddr (tmps.getD p undef)).run P w).andThen fun a w₁ => (loadVar tp a).run P w₁ := by
  simp only [results, h]
  simp [Sem.run_bind, Result.andThen]
theorem load_by {w : World} {a : Addr} {x : Option Addr} {n c : Nat} (h : w.cell? a = some (.slice x n c)) : ((asAddr (.pointer (some a))).run Tryz.prog w).andThen (fun a w₁ => (loadVar TBy a).run Tryz.prog w₁) = .ok (.slice x n c) w := by
  simp [loadVar, go_sem, h]
theorem find_first {α : Type} {L L1 L2 : List α} {l : α} {p : α → Bool} (h : L = L1 ++ l :: L2) (h1 : ∀ x ∈ L1, p x = false) (h2 : p l = true) : L.find? p = some l := by
  rw [h, List.find?_append, List.find?_eq_none.2 (fun x hx => by simp [h1 x hx])]
  simp [h2]
theorem put_grown {W : World} {D : Nat} {o o' : Obj} (h : W.heap[D]? = some o) : W.grownBy (W.putObj D o') (some D) := ⟨rfl, rfl, rfl, by simp [World.putObj], fun k _ hne => World.putObj_heap_other (fun e => hne (by rw [e]))⟩
set_option maxHeartbeats 8000000 in
theorem onDisk_c {w : World} {P : Loc} {S : K.Dk} {C : Ch} (h : RC w P S C) (hq : S.q.length ≤ 1048576) {s : Nat} (hs : s < S.n) :
    Calls Tryz.prog 49 #[.pointer (some ⟨P.bc, 0, none⟩), .int .i64 s] w fun r w' => ∃ v, r = .returned v ∧ w'.ownsRow w.heap.size 5 1 v 512 ((K.look S s).map bv) ∧ CAct w w' P P C S C := by
  have hn1 := h.rk.n1
  refine (callsIn_wide (n := 4)).1 ?_
  have f0 : Fence.wide.fn 49 := trivial
  have f1 : Fence.wide.fn 32 := trivial
  have f2 : Fence.wide.fn 82 := trivial
  have f3 : Fence.wide.fn 111 := trivial
  obtain ⟨w1, hw1⟩ : ∃ w1, w1 = (w.alloc (.cells #[.int .i64 s] TIn)).alloc (.cells #[.slice none 0 0] TBy) := ⟨_, rfl⟩
  have hB1 : Below w.heap.size w w1 := by rw [hw1]; exact ((Below.refl _ w).alloc (Nat.le_refl _) _).alloc (by simp) _
  have hs1 : w1.heap.size = w.heap.size + 2 := by rw [hw1]; simp
  have h1 := h.later hB1
  have c0 : w1.cell? ⟨P.bc, 0, none⟩ = some (.pointer (some ⟨P.bd, 0, none⟩)) := h1.c 0
  have x0 : Boxed w1 w.heap.size TIn (.int .i64 s) := by rw [hw1]; exact (Boxed.new w TIn _).alloc _
  have x1 : Boxed w1 (w.heap.size + 1) TBy (.slice none 0 0) := by
    have := Boxed.new (w.alloc (.cells #[.int .i64 s] TIn)) TBy (.slice none 0 0)
    rw [World.size_alloc] at this
    rw [hw1]; exact this
  have HQ : Hid (Calls Tryz.prog 32 #[.pointer (some ⟨P.bd, 0, none⟩)] w1 fun r w2 => ∃ ao cap ps, r = .returned (.slice ao ps.length cap) ∧ PtR w2 ao ps ∧ (∀ p ∈ ps, w2.ownsRow w.heap.size 5 1 p.2.1 512 (p.2.2.map bv)) ∧ ps.map K.bare = S.q ∧ CAct w w2 P P C S C ∧ Boxed w2 w.heap.size TIn (.int .i64 s) ∧ Boxed w2 (w.heap.size + 1) TBy (.slice none 0 0) ∧ w.heap.size + 2 ≤ w2.heap.size) := by
    refine (queue_c h1 hq).mono ?_
    rintro r w2 ⟨ao, cap, ps, rfl, e1, e2, e3, e4⟩
    have hlt := h.lt
    have hne : ∀ i, w.heap.size ≤ i → i ∉ P.fp C.L := fun i hi hm => by have := hlt i hm; omega
    exact ⟨ao, cap, ps, rfl, e1, fun p hp => owns_mono (e2 p hp) (by omega), e3, e4.from_later hB1 hlt, (e4.kp.block _ (by omega) (hne _ (Nat.le_refl _))).trans x0, (e4.kp.block _ (by omega) (hne _ (by omega))).trans x1, by have := e4.kp.size; omega⟩
  have HH : Hid (RC w P S C) := h
  have HSL : Hid (s < S.n) := hs
  refine callsIn_of_wp_marks Tryz.func49 rfl f0 ?_ rfl
  simp only [Tryz.ntmps49, List.size_toArray, List.length_cons, List.length_nil, Nat.reduceAdd, Nat.reduceSub, Array.replicate_succ, Array.replicate_zero, List.push_toArray, List.append_toArray, List.nil_append, List.cons_append]
  have c0' := c0
  rw [hw1] at c0'
  have HQ' := HQ
  rw [hw1] at HQ'
  clear h h1 x0 x1 hs HQ
  gi_wp2_with (first | (gi_at_call 32; refine (callsIn_wide.2 HQ'.out).mono ?_; clear HQ'; rintro r w2 ⟨ao, cap, ps, rfl, hpt, hdat, hbare, ha2, y0, y1, hs2⟩) | (gi_at_call 82; refine (callsIn_wide.2 (backward_c _ _ _ _)).mono ?_; rintro e w' ⟨rfl, rfl⟩))
  obtain ⟨W0, hW0⟩ : ∃ W0, W0 = w2.alloc (.cells #[.slice ao ps.length cap] TPts) := ⟨_, rfl⟩
  rw [← hW0]
  have hB20 : Below w2.heap.size w2 W0 := by rw [hW0]; exact (Below.refl _ w2).alloc (Nat.le_refl _) _
  have hs0 : W0.heap.size = w2.heap.size + 1 := by rw [hW0]; simp
  have bx : W0.cell? ⟨w2.heap.size, 0, none⟩ = some (.slice ao ps.length cap) := by rw [hW0]; exact (Boxed.new w2 TPts _).cell
  have hpl : ps.length ≤ 1048576 := by have := congrArg List.length hbare; rw [List.length_map] at this; omega
  have hseq := back_seq (fun x : { x // x ∈ backL ps } => x.1) (backL ps).attach 3 (by omega) (H := W0.heap.size) (by rw [List.attach_map_subtype_val]) bx (by omega) (fun k p hk => by
    obtain ⟨g, e, h1, h2, h3⟩ := hpt k p hk
    exact ⟨g, e, Nat.lt_of_lt_of_le h1 hB20.size, cell_later hB20 h2, cell_later hB20 h3⟩) (fun k p hk g e => by
    obtain ⟨g', e', h1, _⟩ := hpt k p hk
    rw [e] at e'
    cases e'
    omega) hpl
  have HX : Hid (∀ W, K.Kp W0 W [w.heap.size + 1] → Boxed W w.heap.size TIn (.int .i64 s) ∧ (∀ p ∈ ps, W.ownsRow w.heap.size 5 1 p.2.1 512 (p.2.2.map bv)) ∧ CAct w W P P C S C) := fun W hk => by
    have hk2 : K.Kp w2 W [w.heap.size + 1] := (K.Kp.of_below hB20 _).trans hk (fun i hi => .inl hi)
    refine ⟨(hk2.block _ (by omega) (by simp)).trans y0, fun p hp => K.ownsRow_block (hdat p hp) (fun g hg => ?_), ?_⟩
    · obtain ⟨hgl, cs, hgt⟩ := K.row_lt (hdat p hp) g hg
      refine hk2.block g hgl ?_
      simp only [List.mem_singleton]
      rintro rfl
      rw [show w2.heap[w.heap.size + 1]? = _ from y1] at hgt
      simp at hgt
      exact absurd hgt.2 (by decide)
    · have hlt := HH.out.lt
      refine ⟨ha2.rc.same fun i hi => hk2.block i (ha2.rc.lt i hi) (fun hm => ?_), ha2.kp.trans hk2 (fun i hi => .inr (by simp at hi; omega)), ha2.sub, ha2.bc, ha2.bd⟩
      simp at hm
      have := hlt i hi
      omega
  have HY1 : Hid (∀ W, Below W0.heap.size W0 W → Boxed W (w.heap.size + 1) TBy (.slice none 0 0)) := fun W hb => (hb.block _ (by omega)).trans ((hB20.block _ (by omega)).trans y1)
  have HPS : Hid (∀ x : { x // x ∈ backL ps }, ∃ g c, x.1.2.2.1 = .slice (some ⟨g, 0, none⟩) 512 c) := fun x => by
    obtain ⟨g, c, cur, e, _⟩ := K.own_form (hdat x.1.2 (mem_backL x.2)) (by omega)
    exact ⟨g, c, e⟩
  have HBR : Hid (ps.map K.bare = S.q) := hbare
  have hwl : w.heap.size + 2 ≤ W0.heap.size := by omega
  clear hpt hdat hbare ha2 y0 y1 hW0 c0 c0' hw1 hB1 bx
  refine wpIn_rangeFunc_ownH rfl (by omega) (gf := 111) (lb := #[.pointer (some ⟨w2.heap.size, 0, none⟩)]) rfl f3 (enters_of Tryz.func111 (by kernel_rfl) rfl)
    hseq kpH_t (kpH_b (Nat.le_refl _)) (Below.refl _ _) (fun _ => rfl)
    (fun pre W => Below W0.heap.size W0 W ∧ ∀ x ∈ pre, x.1.2.1 ≠ s)
    (fun c pre' W => c = .ret ∧ ∃ pre x, pre' = pre ++ [x] ∧ (∀ y ∈ pre, y.1.2.1 ≠ s) ∧ x.1.2.1 = s ∧ Boxed W (w.heap.size + 1) TBy x.1.2.2.1 ∧ K.Kp W0 W [w.heap.size + 1])
    (OwnFrom.and (ownFrom_below (Nat.le_refl _) (Nat.le_refl _)) (fun _ _ _ _ h _ _ => h))
    (fun c s' X Y row hs hg hr => by
      obtain ⟨e1, pre, x, e2, e3, e4, e5, e6⟩ := hs
      exact ⟨e1, pre, x, e2, e3, e4, boxed_own _ TBy (fun _ : Unit => x.1.2.2.1) () X Y row e5 hg (fun r e => (hr r e).2), e6.grown hg (fun k e => .inr (hr k e).1)⟩)
    ⟨Below.refl _ _, fun x hx => by cases hx⟩
    (fun x a' W => ∃ b, W0.heap.size ≤ b ∧ W.heap[b]? = some (.cells #[.int .i64 x.1.2.1, x.1.2.2.1] TPt (0, 0)) ∧ a' = { tmps := #[.pointer (some ⟨P.bc, 0, none⟩), .int .i64 s, undef, .pointer (some ⟨w.heap.size, 0, none⟩), .pointer (some ⟨w.heap.size + 1, 0, none⟩), undef, .pointer (some ⟨b, 0, none⟩), .pointer (some ⟨P.bc, 0, none⟩), .pointer (some ⟨P.bc, 0, none⟩), .pointer (some ⟨P.bc, 0, none⟩), .pointer (some ⟨P.bd, 0, none⟩), .slice ao ps.length cap, .func (.func 111) #[] #[.pointer (some ⟨w2.heap.size, 0, none⟩)], .int .i64 x.1.1, .agg #[.int .i64 x.1.2.1, x.1.2.2.1], undef, undef, undef, undef, undef, undef, undef, undef, undef, undef, undef, undef, undef, undef, undef, undef], defers := [] })
    (fun x a' s' X Y row hs hg hrow => by
      obtain ⟨b, hb, hc, e⟩ := hs
      exact ⟨b, hb, (hg.block b (Array.getElem?_eq_some_iff.1 hc).1 (fun e' => by obtain ⟨_, o, ho, hcc⟩ := hrow b e'.symm; rw [hc] at ho; cases ho; cases hcc)).trans hc, e⟩)
    ?assign ?body ?done ?stop
  case assign =>
    rintro l pre x W K hI hK
    obtain ⟨gx, cx, hx⟩ := HPS.out x
    simp only [hx] at hK ⊢
    gi_wp2
    exact hK _ _ ⟨by simp, fun k o _ hk _ => (Below.heap_alloc _ _ _ (Array.getElem?_eq_some_iff.1 hk).1).trans hk⟩ (fun i hi => Below.heap_alloc _ _ _ (Nat.lt_of_lt_of_le hi hI.1.size)) ⟨hI.1.alloc hI.1.size _, hI.2⟩ ⟨W.heap.size, hI.1.size, heap_alloc_new W _, rfl⟩
  case body =>
    rintro l pre x a' W hl ⟨r, hr⟩ ⟨hB, hpre⟩ ⟨b, hb0, hbc, rfl⟩ hlt
    obtain ⟨gx, cx, hx⟩ := HPS.out x
    have hkp : K.Kp W0 W [w.heap.size + 1] := K.Kp.of_below hB _
    obtain ⟨y0, _, _⟩ := HX.out W hkp
    have d0 := y0.cell
    have y1 := HY1.out W hB
    have d1 := y1.cell
    have z1 := y1.frozen
    have k0 : W.cell? ⟨b, 0, none⟩ = some (.int .i64 x.1.2.1) := (K.cell_of hbc).trans rfl
    have k1 : W.cell? ⟨b, 1, none⟩ = some (.slice (some ⟨gx, 0, none⟩) 512 cx) := (K.cell_of hbc).trans (by rw [hx]; rfl)
    simp only [hx]
    have HKP : Hid (K.Kp W0 W [w.heap.size + 1]) := hkp
    have HY : Hid (Boxed W (w.heap.size + 1) TBy (.slice none 0 0)) := y1
    have HB : Hid (Below W0.heap.size W0 W ∧ ∀ x ∈ pre, x.1.2.1 ≠ s) := ⟨hB, hpre⟩
    have HXE : Hid (x.1.2.2.1 = .slice (some ⟨gx, 0, none⟩) 512 cx) := hx
    clear y0 y1 hkp hB hpre hbc hseq
    by_cases he : x.1.2.1 = s
    · have he' : decide ((x.1.2.1 : Int) = (s : Int)) = true := decide_eq_true (by omega)
      have he2 : (x.1.2.1 : Int) = (s : Int) := by omega
      gi_wp2
      refine ⟨(KeepsOthers.setCell _ _ _).from _, rfl, pre, x, rfl, HB.out.2, he, ?_, HKP.out.set (.inl (by simp)) 0 _⟩
      rw [HXE.out]
      exact HY.out.set _
    · have he' : decide ((x.1.2.1 : Int) = (s : Int)) = false := decide_eq_false (by omega)
      have he2 : ¬ (x.1.2.1 : Int) = (s : Int) := by omega
      gi_wp2
      exact ⟨KeepsFrom.refl _ _, fun i _ => rfl, HB.out.1, fun y hy => by
        rcases List.mem_append.1 hy with hy | hy
        · exact HB.out.2 y hy
        · simp at hy; subst hy; exact he⟩
  case done =>
    rintro D ys W hD rfl ⟨hB, hall⟩ hK
    have hkp : K.Kp W0 W [w.heap.size + 1] := K.Kp.of_below hB _
    obtain ⟨y0, _, hca⟩ := HX.out W hkp
    have y1 := HY1.out W hB
    have hnone : K.lastQ s S.q = none := by
      rw [← HBR.out, back_last, List.find?_eq_none.2 (fun x hx => by simpa using hall ⟨x, hx⟩ (List.mem_attach _ _))]
      rfl
    have HLK : Hid (K.look S s = S.safe s) := by show _ = _; unfold K.look; rw [hnone]; rfl
    have hDb : W.heap[D]? = some (.deferred (some [])) := hK
    have hDl : D < W.heap.size := (Array.getElem?_eq_some_iff.1 hK).1
    have HS : Hid (∀ W', CAct w W' P P C S C → Boxed W' w.heap.size TIn (.int .i64 s) → W'.cell? ⟨P.bc, 0, none⟩ = some (.pointer (some ⟨P.bd, 0, none⟩)) ∧ W'.cell? ⟨w.heap.size, 0, none⟩ = some (.int .i64 s)) := fun W' ha hy => ⟨ha.rc.c 0, hy.cell⟩
    have hfar : ∀ i ∈ P.fp C.L, i < w.heap.size := HH.out.lt
    have HIM : Hid (Calls Tryz.prog 33 #[.pointer (some ⟨P.bd, 0, none⟩)] W.drew fun r W3 => ∃ g ic, r = .returned (.slice (some ⟨g, 0, none⟩) (S.n * 512) ic) ∧ S.n * 512 ≤ ic ∧ (W3.cell? ⟨P.bc, 0, none⟩ = some (.pointer (some ⟨P.bd, 0, none⟩)) ∧ W3.cell? ⟨w.heap.size, 0, none⟩ = some (.int .i64 s)) ∧ Hid (Calls Tryz.prog 47 #[.slice (some ⟨g, s * 512, none⟩) 512 (ic - s * 512)] W3 fun r W4 => ∃ vo vc, r = .returned (.slice vo 512 vc) ∧ (W4.cell? ⟨P.bc, 0, none⟩ = some (.pointer (some ⟨P.bd, 0, none⟩)) ∧ W4.cell? ⟨w.heap.size, 0, none⟩ = some (.int .i64 s)) ∧ W4.cell? ⟨w.heap.size + 1, 0, none⟩ = some (.slice none 0 0) ∧ W4.frozen? ⟨w.heap.size + 1, 0, none⟩ = false ∧ Hid (Boxed W4 (w.heap.size + 1) TBy (.slice none 0 0) ∧ W4.heap[D]? = some (.deferred (some [])) ∧ W4.ownsRow W0.heap.size TB8 1 (.slice vo 512 vc) 512 ((S.safe s).map bv) ∧ CAct w W4 P P C S C))) := by
      have hcd : CAct w W.drew P P C S C := ⟨hca.rc.drew, ⟨hca.kp.os, hca.kp.tape, hca.kp.output, hca.kp.size, hca.kp.block⟩, hca.sub, hca.bc, hca.bd⟩
      have hW0W := hB.size
      refine (image_c hcd.rc).mono ?_
      rintro r W3 ⟨g, ic, rfl, hic, hg, ho, ha3⟩
      have hc3 := hcd.trans ha3
      have hne : ∀ i, w.heap.size ≤ i → i ∉ P.fp C.L := fun i hi hm => by have := hfar i hm; omega
      have hsd : W.drew.heap.size = W.heap.size := rfl
      have y03 : Boxed W3 w.heap.size TIn (.int .i64 s) := (ha3.kp.block _ (by rw [hsd]; omega) (hne _ (Nat.le_refl _))).trans y0
      have y13 : Boxed W3 (w.heap.size + 1) TBy (.slice none 0 0) := (ha3.kp.block _ (by rw [hsd]; omega) (hne _ (by omega))).trans y1
      have hD3 : W3.heap[D]? = some (.deferred (some [])) := (ha3.kp.block _ (by rw [hsd]; exact hDl) (hne _ (by omega))).trans hDb
      refine ⟨g, ic, rfl, hic, HS.out W3 hc3 y03, ?_⟩
      have hsn := HSL.out
      obtain ⟨Dm, hDm, hso⟩ := hc3.rc.rk.sm
      have hok := hso.ok s hsn
      have hbr : BRow W3 (some ⟨g, s * 512, none⟩) (ic - s * 512) (S.safe s) := ⟨hok.lt, by rw [hok.len]; decide, (fun e => by cases e), fun _ => ⟨g, s * 512, rfl, fun k hk => by
        have hk' : k < 512 := by rw [← hok.len]; exact hk
        have h1 := K.imgL_get (F := S.safe) (n := S.n) (s := s) (j := k) (fun t ht => (hso.ok t ht).len) hsn hk'
        rw [List.getElem?_eq_getElem hk] at h1
        have c1 := ho.cells (g := g) rfl (s * 512 + k) _ (by rw [List.getElem?_map, h1]; rfl)
        rw [WideShapes.add_plain, Nat.zero_add] at c1
        exact c1⟩⟩
      refine (clone_some ⟨g, s * 512, none⟩ (ic - s * 512) 512 (S.safe s) W3 hbr hok.len (by decide)).mono ?_
      rintro r W4 ⟨v, rfl, ho4, hb4⟩
      obtain ⟨vo, vc, cur, rfl, _⟩ := K.own_form ho4 (by omega)
      have hc4 := hc3.later hb4
      have y04 : Boxed W4 w.heap.size TIn (.int .i64 s) := (hb4.block _ y03.lt).trans y03
      have y14 : Boxed W4 (w.heap.size + 1) TBy (.slice none 0 0) := (hb4.block _ y13.lt).trans y13
      have hD4 : W4.heap[D]? = some (.deferred (some [])) := (hb4.block _ (Array.getElem?_eq_some_iff.1 hD3).1).trans hD3
      exact ⟨_, _, rfl, HS.out W4 hc4 y04, y14.cell, y14.frozen, y14, hD4, owns_mono ho4 (by have := ha3.kp.size; rw [hsd] at this; omega), hc4⟩
    have HS0 : Hid (W.cell? ⟨P.bc, 0, none⟩ = some (.pointer (some ⟨P.bd, 0, none⟩)) ∧ W.cell? ⟨w.heap.size, 0, none⟩ = some (.int .i64 s)) := HS.out W hca y0
    obtain ⟨a, ha⟩ : ∃ a, a = s * 512 := ⟨_, rfl⟩
    obtain ⟨L, hL⟩ : ∃ L, L = S.n * 512 := ⟨_, rfl⟩
    have hwr : IntKind.i64.wrap ((s : Int) * 512) = (a : Int) := by have := HSL.out; rw [IntKind.wrap_i64]; omega
    have i1 : (0 : Int) ≤ (a : Int) := by omega
    have i2 : (a : Int) ≤ (L : Int) := by have := HSL.out; omega
    have HAL : Hid (a + 512 ≤ L) := by have := HSL.out; show _ ≤ _; omega
    rw [← ha, ← hL] at HIM
    clear ha hL
    have HST : Hid (∀ (X : World) (v : Value), (X.cell? ⟨P.bc, 0, none⟩ = some (.pointer (some ⟨P.bd, 0, none⟩)) ∧ X.cell? ⟨w.heap.size, 0, none⟩ = some (.int .i64 s)) → ((X.setCell ⟨w.heap.size + 1, 0, none⟩ v).cell? ⟨P.bc, 0, none⟩ = some (.pointer (some ⟨P.bd, 0, none⟩)) ∧ (X.setCell ⟨w.heap.size + 1, 0, none⟩ v).cell? ⟨w.heap.size, 0, none⟩ = some (.int .i64 s))) := fun X v h => by
      have hbc := hfar P.bc (by simp [Loc.fp, Loc.cfp])
      refine ⟨?_, ?_⟩
      · have := h.1
        unfold World.cell? at this ⊢
        rw [Below.heap_setCell _ _ _ _ (by show P.bc ≠ w.heap.size + 1; omega)]
        exact this
      · have := h.2
        unfold World.cell? at this ⊢
        rw [Below.heap_setCell _ _ _ _ (by show w.heap.size ≠ w.heap.size + 1; omega)]
        exact this
    clear hall hkp hca y0 y1 hnone hDb hfar HX HY1 HPS HBR HS hseq hB
    gi_wp2
    refine wpIn_wide.2 ?_
    go_region_held3 (fun w' => w'.cell? ⟨P.bc, 0, none⟩ = some (.pointer (some ⟨P.bd, 0, none⟩)) ∧ w'.cell? ⟨w.heap.size, 0, none⟩ = some (.int .i64 s)) (first | exact HS0.out | exact hS3 | exact hS4 | exact hS5 | go_keep) (first | (go_at_call 33; refine Calls.mono HIM.out ?_; rintro r W3 ⟨g, ic, rfl, hic, hS3, HCL⟩; have e1 : (L : Int) ≤ (ic : Int) := (by omega); have e2 : (512 : Int) ≤ ((ic - a : Nat) : Int) := (by have := HAL.out; omega); have e3 : (512 : Int) ≤ (ic : Int) - (a : Int) := (by have := HAL.out; omega); have e4 : (a : Int) ≤ (ic : Int) := (by omega); have e5 : ¬ ic = a := (by have := HAL.out; omega)) | (go_at_call 47; refine Calls.mono HCL.out ?_; rintro r W4 ⟨vo, vc, rfl, hS4, k4, z4, HF4⟩; have hS5 := HST.out W4 (.slice vo 512 vc) hS4))
    obtain ⟨y4, hD4, ho4, hc4⟩ := HF4.out
    have hD2 : D ≠ w.heap.size + 1 := by omega
    have hfar : ∀ i ∈ P.fp C.L, i < w.heap.size := HH.out.lt
    have hK4 : (W4.setCell ⟨w.heap.size + 1, 0, none⟩ (.slice vo 512 vc)).heap[D]? = some (.deferred (some [])) := (Below.heap_setCell _ _ _ _ hD2).trans hD4
    have y5 : Boxed (W4.setCell ⟨w.heap.size + 1, 0, none⟩ (.slice vo 512 vc)) (w.heap.size + 1) TBy (.slice vo 512 vc) := y4.set _
    gi_wp2
    refine ⟨by simp, .inl ⟨_, _, rfl, run_takeDeferred hK4, ?_⟩⟩
    have r2 : ((W4.setCell ⟨w.heap.size + 1, 0, none⟩ (.slice vo 512 vc)).putObj D (.deferred none)).cell? ⟨w.heap.size + 1, 0, none⟩ = some (.slice vo 512 vc) := K.cell_of ((World.putObj_heap_other (Ne.symm hD2)).trans y5)
    refine ⟨_, by rw [results_cell1 (p := 4) (tp := TBy) rfl]; exact load_by r2, _, rfl, ?_, (hc4.grown (K.grown_set W4 (w.heap.size + 1) 0 (.slice vo 512 vc)) (fun k e => by cases e; omega) (fun i hi e => by have := hfar i hi; simp at e; omega)).grown (put_grown hK4) (fun k e => by cases e; omega) (fun i hi e => by have := hfar i hi; simp at e; omega)⟩
    rw [HLK.out]
    have ho5 := owns_mono ho4 (show w.heap.size ≤ W0.heap.size by omega)
    refine K.ownsRow_block ho5 fun g' hg' => ?_
    have hge := row_base ho4 hg'
    obtain ⟨_, cs, h3⟩ := K.row_lt ho4 g' hg'
    have hgD : g' ≠ D := fun e => by rw [e, hD4] at h3; cases h3
    exact (World.putObj_heap_other hgD).trans (Below.heap_setCell _ _ _ _ (by show g' ≠ w.heap.size + 1; omega))
  case stop =>
    rintro D c pre' W hD ⟨rest, hrest⟩ ⟨rfl, pre, x, rfl, h1, h2, b2, hkp⟩ hK
    gi_wp2
    refine ⟨by simp, .inl ⟨_, _, rfl, run_takeDeferred hK, ?_⟩⟩
    obtain ⟨gx, cx, hx⟩ := HPS.out x
    obtain ⟨y0, hrows, hca⟩ := HX.out W hkp
    have hD2 : D ≠ w.heap.size + 1 := by omega
    have hfar : ∀ i ∈ P.fp C.L, i < w.heap.size := HH.out.lt
    rw [hx] at b2
    have r2 : (W.putObj D (.deferred none)).cell? ⟨w.heap.size + 1, 0, none⟩ = some (.slice (some ⟨gx, 0, none⟩) 512 cx) := K.cell_of ((World.putObj_heap_other (Ne.symm hD2)).trans b2)
    have hL : backL ps = pre.map Subtype.val ++ x.1 :: rest.map Subtype.val := by
      have := congrArg (List.map Subtype.val) hrest
      rw [List.attach_map_subtype_val] at this
      simpa using this
    have hlook : K.look S s = x.1.2.2.2 := by
      unfold K.look
      rw [← HBR.out, back_last, find_first hL (fun y hy => by obtain ⟨z, hz, rfl⟩ := List.mem_map.1 hy; simpa using h1 z hz) (by simpa using h2)]
      rfl
    refine ⟨_, by rw [results_cell1 (p := 4) (tp := TBy) rfl]; exact load_by r2, _, rfl, ?_, hca.grown (put_grown hK) (fun k e => by cases e; omega) (fun i hi e => by have := hfar i hi; simp at e; omega)⟩
    have hr := hrows x.1.2 (mem_backL x.2)
    rw [hx] at hr
    rw [hlook]
    refine K.ownsRow_block hr fun g hg => World.putObj_heap_other (fun e => ?_)
    obtain ⟨_, cs, h3⟩ := K.row_lt hr g hg
    rw [e, hK] at h3
    cases h3
end Go.Proofs.YtijimcjmpeakpaaGreat.C

namespace Go.Proofs.YtijimcjmpeakpaaGreat.C
open Go.RowKit Go.Maps Go.Shelf Go.Proofs.YtijimcjmpeakpaaGreat
attribute [local go_sem] Oper.semAt_some
set_option linter.unusedVariables false
set_option linter.unusedSimpArgs false
set_option maxRecDepth 100000

def peekL (S : K.Dk) (C : Ch) (s : Int) : K.Bl := if K.inD S.n s = true then seen S C s.toNat else []
section
variable {w w' : World} {P : Loc} {S S' : K.Dk} {C C' : Ch}
set_option maxHeartbeats 2000000 in
theorem peek_c (h : RC w P S C) (hq : S.q.length ≤ 1048576) (s : Int) :
    Calls Tryz.prog 21 #[.pointer (some ⟨P.bc, 0, none⟩), .int .i64 s] w fun r w' => ∃ v, r = .returned (.tuple #[v, .int .i64 (if K.inD S.n s = true then 0 else 31)]) ∧ w'.ownsRow w.heap.size TB8 1 v (peekL S C s).length ((peekL S C s).map bv) ∧ CAct w w' P P C S C := by
  have hrf := refusal_c h s
  unfold peekL
  by_cases hi : K.inD S.n s = true
  · simp only [hi, if_true] at hrf ⊢
    obtain ⟨t, rfl, ht⟩ := inD_nat hi
    rw [Int.toNat_natCast]
    have hn1 := h.rk.n1
    have hwf : I.wfK (t : Int) := K.wfI t (by omega)
    have HC3 : Hid (∀ w1, CAct w w1 P P C S C → w1.cell? ⟨P.bc, 3, none⟩ = some (.map (some P.bl)) ∧ (Instr.lookup TLm (.map (some P.bl)) (.int .i64 t) false).run Tryz.prog w1 = .ok (linePtr (lineAt C.L t)) w1) := fun w1 ha => ⟨ha.rc.c 3, ha.rc.look hwf⟩
    unfold seen
    cases hl : lineAt C.L t with
    | some l =>
      simp only [hl, linePtr] at HC3 ⊢
      have HC : Hid (∀ w1, CAct w w1 P P C S C → Calls Tryz.prog 47 #[.slice (some ⟨l.blk, 0, none⟩) 512 512] w1 fun r w2 => ∃ v, r = .returned v ∧ w2.ownsRow w.heap.size TB8 1 v l.dat.length (l.dat.map bv) ∧ CAct w w2 P P C S C) := fun w1 ha => by
        have hm : l ∈ C.L := (lineAt_mem hl).1
        have hok := (ha.rc.ok l hm).2
        have hbr : BRow w1 (some ⟨l.blk, 0, none⟩) 512 l.dat := ⟨hok.lt, by rw [hok.len]; decide, (fun e => by cases e), fun _ => ⟨l.blk, 0, rfl, fun k hk => by
          rw [Nat.zero_add]
          exact (ha.rc.lcell hm k).trans (lcells_dat hok (by rw [List.getElem?_map, List.getElem?_eq_getElem hk]; rfl))⟩⟩
        refine (clone_some ⟨l.blk, 0, none⟩ 512 512 l.dat w1 hbr hok.len (by decide)).mono ?_
        rintro r w2 ⟨v, rfl, ho, hb⟩
        exact ⟨v, rfl, by rw [hok.len]; exact owns_mono ho ha.kp.size, ha.later hb⟩
      have e1 := neq_lp_some
      clear h hl hq
      go_enter Tryz.func21, Tryz.ntmps21
      go_wp2_with (first | (go_at_call 43; refine hrf.mono ?_; clear hrf; rintro r w1 ⟨rfl, ha1⟩; obtain ⟨c3, hlk⟩ := HC3.out w1 ha1) | (go_at_call 47; refine (HC.out w1 ha1).mono ?_; clear HC; rintro r w3 ⟨v, rfl, ho, ha3⟩))
      refine bodyPost_ret (results_tmp2 rfl _ _ _) rfl ?_
      exact ⟨v, rfl, ho, ha3⟩
    | none =>
      simp only [hl, linePtr] at HC3 ⊢
      have HO : Hid (∀ w1, CAct w w1 P P C S C → Calls Tryz.prog 49 #[.pointer (some ⟨P.bc, 0, none⟩), .int .i64 t] w1 fun r w2 => ∃ v, r = .returned v ∧ w2.ownsRow w.heap.size TB8 1 v (K.look S t).length ((K.look S t).map bv) ∧ CAct w w2 P P C S C) := fun w1 ha => by
        refine (onDisk_c ha.rc hq ht).mono ?_
        rintro r w2 ⟨v, rfl, ho, ha2⟩
        have hlk := (K.look_ok ha.rc.rk ht).len
        exact ⟨v, rfl, by rw [hlk]; exact owns_mono ho ha.kp.size, ha.trans ha2⟩
      have e1 := neq_lp_none
      clear h hl hq
      go_enter Tryz.func21, Tryz.ntmps21
      go_wp2_with (first | (go_at_call 43; refine hrf.mono ?_; clear hrf; rintro r w1 ⟨rfl, ha1⟩; obtain ⟨c3, hlk⟩ := HC3.out w1 ha1) | (go_at_call 49; refine (HO.out w1 ha1).mono ?_; clear HO; rintro r w3 ⟨v, rfl, ho, ha3⟩))
      refine bodyPost_ret (results_tmp2 rfl _ _ _) rfl ?_
      exact ⟨v, rfl, ho, ha3⟩
  · simp only [hi, if_false] at hrf ⊢
    clear h hq
    go_enter Tryz.func21, Tryz.ntmps21
    go_wp2_with (go_at_call 43; refine hrf.mono ?_; clear hrf; rintro r w1 ⟨rfl, ha1⟩)
    refine bodyPost_ret (results_tmp2 rfl _ _ _) rfl ?_
    exact ⟨_, rfl, World.ownsRow_nil _ _ _ _, ha1⟩
end
end Go.Proofs.YtijimcjmpeakpaaGreat.C

namespace Go.Proofs.YtijimcjmpeakpaaGreat.C
open Go.RowKit Go.Maps Go.Shelf Go.Proofs.YtijimcjmpeakpaaGreat
attribute [local go_sem] Oper.semAt_some
set_option linter.unusedVariables false
set_option linter.unusedSimpArgs false
set_option maxRecDepth 100000

/-- may there be such a cache? -/
def fitB (n k : Int) (l : List (Int × Int)) : Bool := decide (1 ≤ n ∧ n ≤ 65536 ∧ newE n.toNat k l = 0)
theorem newE_three (n : Nat) (k : Int) (l : List (Int × Int)) : newE n k l = 0 ∨ newE n k l = 50 ∨ newE n k l = 51 := by
  unfold newE
  split
  · exact .inr (.inl rfl)
  · split
    · exact .inr (.inr rfl)
    · exact .inl rfl
theorem fits_c (w : World) (n k : Int) {v : Value} {l : List (Int × Int)} (hv : ArgS w v l) (hw : ∀ p ∈ l, I64 p.1 ∧ I64 p.2) :
    Calls Tryz.prog 15 #[.agg #[.int .i64 n, .int .i64 k, v]] w fun r w' => r = .returned (.bool (fitB n k l)) ∧ Below w.heap.size w w' := by
  obtain ⟨ao, c0, rfl, _⟩ := hv.form
  obtain ⟨W0, hW0⟩ : ∃ W0, W0 = w.alloc (.cells #[.int .i64 n, .int .i64 k, .slice ao l.length c0] TSe) := ⟨_, rfl⟩
  have hB0 : Below w.heap.size w W0 := by rw [hW0]; exact (Below.refl _ w).alloc (Nat.le_refl _) _
  have hbx : W0.heap[w.heap.size]? = some (.cells #[.int .i64 n, .int .i64 k, .slice ao l.length c0] TSe) := by rw [hW0]; exact heap_alloc_new w _
  have k0 : W0.cell? ⟨w.heap.size, 0, none⟩ = some (.int .i64 n) := (K.cell_of hbx).trans rfl
  by_cases hn : n < 1 ∨ 65536 < n
  · have e : fitB n k l = false := by unfold fitB; rw [decide_eq_false]; omega
    rw [e]
    have HNew : Hid (Calls Tryz.prog 34 #[.int .i64 n] W0 fun r w' => r = .returned (.tuple #[.pointer none, .int .i64 30]) ∧ w' = W0) := rnew_bad W0 n hn
    have HB : Hid (Below w.heap.size w W0) := hB0
    clear hv hw hB0 hbx hn e
    go_enter Tryz.func15, Tryz.ntmps15
    go_wp2_with fail
    rw [← hW0]
    refine Calls.mono HNew.out ?_
    clear HNew
    rintro e W1 ⟨rfl, hw1⟩
    rw [hw1]
    clear hw1 hW0
    go_wp2
    go_ret
    exact ⟨rfl, HB.out⟩
  · obtain ⟨m, hm⟩ : ∃ m : Nat, (m : Int) = n := ⟨n.toNat, by omega⟩
    subst hm
    obtain ⟨W1, hW1⟩ : ∃ W1, W1 = W0.alloc (.cells (rdcells m) TRd) := ⟨_, rfl⟩
    have hB1 : Below W0.heap.size W0 W1 := by rw [hW1]; exact (Below.refl _ _).alloc (Nat.le_refl _) _
    have hbw : Below w.heap.size w W1 := hB0.trans (hB1.mono hB0.size)
    have hby := (hB1.block w.heap.size (Array.getElem?_eq_some_iff.1 hbx).1).trans hbx
    have p0 : W1.cell? ⟨W0.heap.size, 0, none⟩ = some (.int .i64 m) := by
      have : W1.heap[W0.heap.size]? = some (.cells (rdcells m) TRd) := by rw [hW1]; exact heap_alloc_new _ _
      exact (K.cell_of this).trans rfl
    have q1 : W1.cell? ⟨w.heap.size, 1, none⟩ = some (.int .i64 k) := (K.cell_of hby).trans rfl
    have q2 : W1.cell? ⟨w.heap.size, 2, none⟩ = some (.slice ao l.length c0) := (K.cell_of hby).trans rfl
    have HNew : Hid (Calls Tryz.prog 34 #[.int .i64 m] W0 fun r w' => r = .returned (.tuple #[.pointer (some ⟨W0.heap.size, 0, none⟩), .int .i64 0]) ∧ w' = W1) := by rw [hW1]; exact rnew_any W0 m (by omega) (by omega)
    have HRc : Hid (Calls Tryz.prog 42 #[.pointer (some ⟨W0.heap.size, 0, none⟩), .int .i64 k, .slice ao l.length c0] W1 fun r w' => ∃ cp, r = .returned (.tuple #[.pointer cp, .int .i64 (newE m k l)]) ∧ Below w.heap.size w w') := by
      refine (rcnew_all p0 (by omega) (by omega) k (hv.later hbw) hw).mono ?_
      rintro r w' ⟨cp, rfl, hb, _⟩
      exact ⟨cp, rfl, hbw.trans (hb.mono hbw.size)⟩
    have HF : Hid (fitB m k l = decide (newE m k l = 0)) := by
      show _ = _
      unfold fitB
      rw [Int.toNat_natCast]
      rw [decide_eq_decide]
      constructor
      · exact fun h => h.2.2
      · exact fun h => ⟨by omega, by omega, h⟩
    rw [HF.out]
    clear hv hw hB0 hbx hn hB1 hbw hby p0 hW1
    generalize newE m k l = ne at *
    go_enter Tryz.func15, Tryz.ntmps15
    go_wp2_with fail
    rw [← hW0]
    refine Calls.mono HNew.out ?_
    clear HNew
    rintro e W2 ⟨rfl, hw2⟩
    rw [hw2]
    clear hw2 hW0 k0
    go_wp2_with fail
    refine Calls.mono HRc.out ?_
    clear HRc
    rintro e W3 ⟨cp, rfl, hb3⟩
    go_wp2
    go_ret
    exact ⟨rfl, hb3⟩
/-- what opened gives -/
def OpdPost (w : World) (n k : Int) (l : List (Int × Int)) (r : Ending) (w' : World) : Prop :=
  Below w.heap.size w w' ∧ ((fitB n k l = false ∧ r = .returned (.tuple #[.pointer none, .pointer none])) ∨ (fitB n k l = true ∧ ∃ P : Loc, r = .returned (.tuple #[.pointer (some ⟨P.bd, 0, none⟩), .pointer (some ⟨P.bc, 0, none⟩)]) ∧ RC w' P (K.newDk n.toNat) (newCh k.toNat l) ∧ ∀ i ∈ P.fp [], w.heap.size ≤ i))
theorem opened_c (w : World) (n k : Int) {v : Value} {l : List (Int × Int)} (hv : ArgS w v l) (hl : l.length ≤ 1048576) (hw : ∀ p ∈ l, I64 p.1 ∧ I64 p.2) :
    Calls Tryz.prog 16 #[.agg #[.int .i64 n, .int .i64 k, v]] w (OpdPost w n k l) := by
  obtain ⟨ao, c0, rfl, hsp, hao⟩ := hv.form
  obtain ⟨W0, hW0⟩ : ∃ W0, W0 = w.alloc (.cells #[.int .i64 n, .int .i64 k, .slice ao l.length c0] TSe) := ⟨_, rfl⟩
  have hB0 : Below w.heap.size w W0 := by rw [hW0]; exact (Below.refl _ w).alloc (Nat.le_refl _) _
  have hbx : W0.heap[w.heap.size]? = some (.cells #[.int .i64 n, .int .i64 k, .slice ao l.length c0] TSe) := by rw [hW0]; exact heap_alloc_new w _
  have k0 : W0.cell? ⟨w.heap.size, 0, none⟩ = some (.int .i64 n) := (K.cell_of hbx).trans rfl
  have e0 : ∀ (w : World), (binOp .eql 30 (.pointer none) (.pointer none)).run Tryz.prog w = .ok (.bool true) w := fun _ => rfl
  have e1 : ∀ (w : World) (a : Addr), (binOp .eql 30 (.pointer (some a)) (.pointer none)).run Tryz.prog w = .ok (.bool false) w := fun _ _ => rfl
  by_cases hn : n < 1 ∨ 65536 < n
  · have e : fitB n k l = false := by unfold fitB; rw [decide_eq_false]; omega
    have HNew := K.new_bad W0 n hn
    have HNh : Hid (Calls Tryz.prog 31 #[.int .i64 n] W0 _) := HNew
    have HB : Hid (Below w.heap.size w W0) := hB0
    have HE : Hid (fitB n k l = false) := e
    clear hv hw hB0 hbx hn e hsp hao hl HNew
    go_enter Tryz.func16, Tryz.ntmps16
    go_wp2_with fail
    rw [← hW0]
    refine Calls.mono HNh.out ?_
    clear HNh
    rintro e W1 ⟨rfl, hw1⟩
    rw [hw1]
    clear hw1 hW0
    go_wp2
    refine bodyPost_ret (results_tmp2 rfl _ _ _) rfl ?_
    exact ⟨HB.out, .inl ⟨HE.out, rfl⟩⟩
  · obtain ⟨m, hm⟩ : ∃ m : Nat, (m : Int) = n := ⟨n.toNat, by omega⟩
    subst hm
    have HN : Hid (Calls Tryz.prog 31 #[.int .i64 m] W0 fun r w' => ∃ b, r = .returned (.tuple #[.pointer (some ⟨b, 0, none⟩), .int .i64 0]) ∧ ∃ ms ml, K.RK w' 0 b ms ml (.slice none 0 0) (.slice none 0 0) (K.newDk m) ∧ Below W0.heap.size W0 w' ∧ ∀ i ∈ K.fp b ms ml (.slice none 0 0) (.slice none 0 0), W0.heap.size ≤ i) := K.new_any W0 m (by omega) (by omega)
    have HC : Hid (∀ W1 b ms ml, K.RK W1 0 b ms ml (.slice none 0 0) (.slice none 0 0) (K.newDk m) → Below W0.heap.size W0 W1 → (∀ i ∈ K.fp b ms ml (.slice none 0 0) (.slice none 0 0), W0.heap.size ≤ i) → W1.cell? ⟨w.heap.size, 1, none⟩ = some (.int .i64 k) ∧ W1.cell? ⟨w.heap.size, 2, none⟩ = some (.slice ao l.length c0) ∧ Calls Tryz.prog 12 #[.pointer (some ⟨b, 0, none⟩), .int .i64 k, .slice ao l.length c0] W1 fun r w' => ∃ cp, r = .returned (.tuple #[.pointer cp, .int .i64 (newE m k l)]) ∧ (newE m k l = 0 → OpdPost w m k l (.returned (.tuple #[.pointer (some ⟨b, 0, none⟩), .pointer cp])) w') ∧ (newE m k l ≠ 0 → OpdPost w m k l (.returned (.tuple #[.pointer none, .pointer none])) w')) := fun W1 b ms ml hrk hb1 hfp => by
      have hbw : Below w.heap.size w W1 := hB0.trans (hb1.mono hB0.size)
      have hby := (hb1.block w.heap.size (Array.getElem?_eq_some_iff.1 hbx).1).trans hbx
      have hs0 : w.heap.size < W0.heap.size := (Array.getElem?_eq_some_iff.1 hbx).1
      refine ⟨(K.cell_of hby).trans rfl, (K.cell_of hby).trans rfl, ?_⟩
      have hfar : l ≠ [] → ∀ b' off, ao = some ⟨b', off, none⟩ → b' ∉ K.fp b ms ml (.slice none 0 0) (.slice none 0 0) := fun hne b' off e hm => by
        have h1 := hv.lt hne (show Value.slice ao l.length c0 = .slice (some ⟨b', off, none⟩) l.length c0 by rw [e])
        have h2 := hfp b' hm
        omega
      refine (new_all2 hrk k (cap := c0) (hsp.later hbw) hl hw hao hfar).mono ?_
      rintro r w' ⟨cp, rfl, hkp, hcase⟩
      have hbb : Below w.heap.size w w' := hbw.trans (hkp.below (fun i hi => by have := hfp i hi; omega) hbw.size)
      have hFt : newE m k l = 0 → fitB m k l = true := fun h0 => by unfold fitB; rw [decide_eq_true]; rw [Int.toNat_natCast]; exact ⟨by omega, by omega, h0⟩
      have hFf : newE m k l ≠ 0 → fitB m k l = false := fun h0 => by unfold fitB; rw [decide_eq_false]; rw [Int.toNat_natCast]; exact fun h => h0 h.2.2
      refine ⟨cp, rfl, fun h0 => ⟨hbb, .inr ⟨hFt h0, ?_⟩⟩, fun h0 => ⟨hbb, .inl ⟨hFf h0, rfl⟩⟩⟩
      rcases hcase with ⟨_, h1, _⟩ | ⟨_, P, rfl, hM⟩
      · exact absurd h0 h1
      · obtain ⟨g1, g2, g3, g4, g5⟩ := hM.bd
        refine ⟨P, by rw [g1], by rw [Int.toNat_natCast]; exact hM.rc, fun i hi => ?_⟩
        have hs1 := hb1.size
        simp only [Loc.fp, List.mem_append] at hi
        rcases hi with hi | hi | hi
        · unfold Loc.dfp at hi
          rw [g1, g2, g3, g4, g5] at hi
          have := hfp i hi
          omega
        · have := hM.new i (.inl hi); omega
        · have := hM.new i (.inr hi); omega
    clear hv hw hB0 hbx hn hsp hao hl
    rcases newE_three m k l with h0 | h0
    · simp only [h0, show ((0 : Int) ≠ 0) = False by simp, false_implies, true_implies, and_true] at HC
      go_enter Tryz.func16, Tryz.ntmps16
      go_wp2_with fail
      rw [← hW0]
      refine Calls.mono HN.out ?_
      clear HN hW0 k0
      rintro e W1 ⟨b, rfl, ms, ml, hrk, hb1, hfp⟩
      obtain ⟨q1, q2, hnw⟩ := HC.out W1 b ms ml hrk hb1 hfp
      clear HC hrk hb1 hfp
      have HNW : Hid (Calls Tryz.prog 12 #[.pointer (some ⟨b, 0, none⟩), .int .i64 k, .slice ao l.length c0] W1 _) := hnw
      clear hnw
      go_wp2_with fail
      refine Calls.mono HNW.out ?_
      clear HNW q1 q2
      rintro e W2 ⟨cp, rfl, hp⟩
      have HP : Hid (OpdPost w m k l (.returned (.tuple #[.pointer (some ⟨b, 0, none⟩), .pointer cp])) W2) := hp
      clear hp
      go_wp2
      refine bodyPost_ret (results_tmp2 rfl _ _ _) rfl ?_
      exact HP.out
    · have hne : newE m k l ≠ 0 := by omega
      have HC2 : Hid (∀ W1 b ms ml, K.RK W1 0 b ms ml (.slice none 0 0) (.slice none 0 0) (K.newDk m) → Below W0.heap.size W0 W1 → (∀ i ∈ K.fp b ms ml (.slice none 0 0) (.slice none 0 0), W0.heap.size ≤ i) → W1.cell? ⟨w.heap.size, 1, none⟩ = some (.int .i64 k) ∧ W1.cell? ⟨w.heap.size, 2, none⟩ = some (.slice ao l.length c0) ∧ Calls Tryz.prog 12 #[.pointer (some ⟨b, 0, none⟩), .int .i64 k, .slice ao l.length c0] W1 fun r w' => ∃ cp, ∃ z : Int, z ≠ 0 ∧ r = .returned (.tuple #[.pointer cp, .int .i64 z]) ∧ OpdPost w m k l (.returned (.tuple #[.pointer none, .pointer none])) w') := fun W1 b ms ml hrk hb1 hfp => by
        obtain ⟨q1, q2, hnw⟩ := HC.out W1 b ms ml hrk hb1 hfp
        refine ⟨q1, q2, hnw.mono ?_⟩
        rintro r w' ⟨cp, rfl, _, hp⟩
        exact ⟨cp, _, hne, rfl, hp hne⟩
      clear HC hne h0
      go_enter Tryz.func16, Tryz.ntmps16
      go_wp2_with fail
      rw [← hW0]
      refine Calls.mono HN.out ?_
      clear HN hW0 k0
      rintro e W1 ⟨b, rfl, ms, ml, hrk, hb1, hfp⟩
      obtain ⟨q1, q2, hnw⟩ := HC2.out W1 b ms ml hrk hb1 hfp
      clear HC2 hrk hb1 hfp
      have HNW : Hid (Calls Tryz.prog 12 #[.pointer (some ⟨b, 0, none⟩), .int .i64 k, .slice ao l.length c0] W1 _) := hnw
      clear hnw
      go_wp2_with fail
      refine Calls.mono HNW.out ?_
      clear HNW q1 q2
      rintro e W2 ⟨cp, z, hz, rfl, hp⟩
      have HP : Hid (OpdPost w m k l (.returned (.tuple #[.pointer none, .pointer none])) W2) := hp
      have hz' : decide (z = 0) = false := decide_eq_false hz
      clear hp
      go_wp2
      refine bodyPost_ret (results_tmp2 rfl _ _ _) rfl ?_
      exact HP.out
end Go.Proofs.YtijimcjmpeakpaaGreat.C

namespace Go.Proofs.YtijimcjmpeakpaaGreat.C
open Go.ChangeShapes Go.WideShapes Go.ChangeAt Go.RowKit Go.Deep Go.Proofs.YtijimcjmpeakpaaGreat
set_option linter.unusedVariables false
set_option maxRecDepth 100000

theorem cellsKeep : Tryz.prog.cellsOf 25 = 1 := by kernel_rfl
theorem cellsInts : Tryz.prog.cellsOf 22 = 1 := by kernel_rfl
theorem cellsBool : Tryz.prog.cellsOf 4 = 1 := by kernel_rfl
theorem cellsFa5 : Tryz.prog.cellsOf 24 = 5 := by kernel_rfl
theorem fiveV {cs : List Value} (h : cs.length = 5) : ∃ a b c d e, cs = [a, b, c, d, e] := by
  match cs, h with
  | [a, b, c, d, e], _ => exact ⟨a, b, c, d, e, rfl⟩
/-- a call that was handed in -/
structure Opc where
  kind : Int
  sector : Int
  fill : Nat
  more : Int
  lo : Option Addr
  lc : Nat
  list : List Int
  f : K.Flt
  ko : Option Addr
  kn : Nat
  kc : Nat
def Opc.cells (o : Opc) : List Value := [.int .i64 o.kind, .int .i64 o.sector, .int .u8 o.fill, .int .i64 o.more, .slice o.lo o.list.length o.lc, .int .i64 o.f.kind, .int .i64 o.f.sector, .int .i64 o.f.after, .int .i64 o.f.times, .bool o.f.land, .slice o.ko o.kn o.kc]
/-- numbers in cells -/
def IRd (W : World) (ao : Option Addr) (ks : List Int) : Prop := ∀ (k : Nat) (x : Int), ks[k]? = some x → ∃ g off, ao = some ⟨g, off, none⟩ ∧ g < W.heap.size ∧ W.cell? ⟨g, off + k, none⟩ = some (.int .i64 x)
structure OpcOk (W : World) (o : Opc) : Prop where
  fill : o.fill < 256
  sw : (Lit.int .i64 o.sector).wf = true
  fa : K.I64 o.f.after
  ft : K.I64 o.f.times
  ll : o.list.length ≤ 1048576
  row : IRd W o.lo o.list
theorem i64_of_wf {z : Int} (h : (Lit.int .i64 z).wf = true) : K.I64 z := by
  have e1 : IntKind.i64.min = -9223372036854775808 := rfl
  have e2 : IntKind.i64.max = 9223372036854775807 := rfl
  simp [Lit.wf] at h
  unfold K.I64
  omega
theorem open_fault {H : Type} {enc : TypeId × Value → H} {W : World} {base fuel : Nat} {cs : List Value} {x : DataW H × List MemPlace} (hf : DataW.trod enc Tryz.prog W base (fun _ => true) true fuel 24 cs = some x) :
    ∃ f : K.Flt, cs = K.fcell f ∧ K.I64 f.after ∧ K.I64 f.times := by
  obtain ⟨xs, m, _, _, hl, hxl, hall⟩ := DataW.trod_struct Tryz.underlying24 hf
  obtain ⟨a, b, c, d, e, rfl⟩ := fiveV (hl.trans cellsFa5)
  have hx5 : xs.length = 5 := hxl
  have h0 : DataW.trod enc Tryz.prog W base (fun _ => true) true m 3 (([a, b, c, d, e].drop 0).take (Tryz.prog.cellsOf 3)) = xs[0]? := hall 0 _ rfl
  have h1 : DataW.trod enc Tryz.prog W base (fun _ => true) true m 3 (([a, b, c, d, e].drop 1).take (Tryz.prog.cellsOf 3)) = xs[1]? := hall 1 _ rfl
  have h2 : DataW.trod enc Tryz.prog W base (fun _ => true) true m 3 (([a, b, c, d, e].drop 2).take (Tryz.prog.cellsOf 3)) = xs[2]? := hall 2 _ rfl
  have h3 : DataW.trod enc Tryz.prog W base (fun _ => true) true m 3 (([a, b, c, d, e].drop 3).take (Tryz.prog.cellsOf 3)) = xs[3]? := hall 3 _ rfl
  have h4 : DataW.trod enc Tryz.prog W base (fun _ => true) true m 4 (([a, b, c, d, e].drop 4).take (Tryz.prog.cellsOf 4)) = xs[4]? := hall 4 _ rfl
  rw [List.getElem?_eq_getElem (by omega)] at h0 h1 h2 h3 h4
  rw [cellsInt] at h0 h1 h2 h3
  rw [cellsBool] at h4
  obtain ⟨z0, e0, _, _⟩ := DataW.trod_int Tryz.underlying3 h0
  obtain ⟨z1, e1, _, _⟩ := DataW.trod_int Tryz.underlying3 h1
  obtain ⟨z2, e2, _, w2⟩ := DataW.trod_int Tryz.underlying3 h2
  obtain ⟨z3, e3, _, w3⟩ := DataW.trod_int Tryz.underlying3 h3
  obtain ⟨z4, e4, _⟩ := DataW.trod_bool Tryz.underlying4 h4
  simp at e0 e1 e2 e3 e4
  subst e0; subst e1; subst e2; subst e3; subst e4
  exact ⟨⟨z0, z1, z2, z3, z4⟩, rfl, i64_of_wf w2, i64_of_wf w3⟩
theorem cell_lt {W : World} {g o : Nat} {v : Value} (h : W.cell? ⟨g, o, none⟩ = some v) : g < W.heap.size := by
  unfold World.cell? at h
  rcases Nat.lt_or_ge g W.heap.size with hh | hh
  · exact hh
  · simp only at h
    rw [Array.getElem?_eq_none hh] at h
    simp at h
theorem open_ints {H : Type} {enc : TypeId × Value → H} {W : World} {base fuel : Nat} {cs : List Value} {d : DataW H} {p : List MemPlace} (hf : DataW.trod enc Tryz.prog W base (fun _ => true) true fuel 22 cs = some (d, p)) (hb : Rows.uptoBulk d ≤ 1048576) :
    ∃ (ao : Option Addr) (cap : Nat) (l : List Int), cs = [.slice ao l.length cap] ∧ IRd W ao l ∧ l.length ≤ 1048576 := by
  rcases open_slice Tryz.underlying22 hf with ⟨hcs, _⟩ | ⟨x, len, cap, m, n, D, Pl, hcs, _, hl, hm, hmm, hx, hel⟩
  · exact ⟨none, 0, [], hcs, fun k x hk => by simp at hk, by simp⟩
  · have hmc : m = cap := by simpa using hmm
    have hd : d = .slice ((List.range len).map D) ((List.range (m - len)).map fun j => D (len + j)) := (Prod.mk.inj hx).1
    have hlen : len ≤ 1048576 := by
      have b1 := bulk_slice ((List.range len).map D) ((List.range (m - len)).map fun j => D (len + j))
      have b2 := length_le_bulk ((List.range len).map D)
      rw [← hd] at b1
      simp at b2
      omega
    have hel' : ∀ i, ∃ q : Int, i < len → W.cell? (x.add i) = some (.int .i64 q) := by
      intro i
      by_cases hi : i < len
      · obtain ⟨cs', hc1, hc2⟩ := hel i (by omega)
        rw [cellsInt] at hc1
        obtain ⟨q, rfl, _⟩ := DataW.trod_int Tryz.underlying3 hc2
        refine ⟨q, fun _ => ?_⟩
        have h1 := (World.cells?_some hc1).2.2 0 (by decide)
        rw [Nat.mul_one] at h1
        have e : (x.add i).add 0 = x.add i := by simp [Addr.add]
        rw [e] at h1
        exact h1
      · exact ⟨0, fun h => absurd h hi⟩
    obtain ⟨T, hT⟩ := Classical.axiomOfChoice hel'
    refine ⟨some x, cap, (List.range len).map T, by rw [hcs]; simp, fun k y hk => ?_, by simpa using hlen⟩
    have hk2 : k < len := by
      have := (List.getElem?_eq_some_iff.1 hk).1
      simpa using this
    obtain ⟨pb, po, rfl⟩ : ∃ pb po, x = ⟨pb, po, none⟩ := by
      have h1 := World.cell?_spot (hT 0 (by omega))
      obtain ⟨b, off, spot⟩ := x
      have : spot = none := by simpa [Addr.add] using h1
      exact ⟨b, off, by rw [this]⟩
    have hq : T k = y := by simpa [hk2] using hk
    have h1 := hT k hk2
    rw [add_plain, hq] at h1
    exact ⟨pb, po, rfl, cell_lt h1, h1⟩
theorem open_bools {H : Type} {enc : TypeId × Value → H} {W : World} {base fuel : Nat} {cs : List Value} {d : DataW H} {p : List MemPlace} (hf : DataW.trod enc Tryz.prog W base (fun _ => true) true fuel 25 cs = some (d, p)) : ∃ (ao : Option Addr) (n cap : Nat), cs = [.slice ao n cap] := by
  rcases open_slice Tryz.underlying25 hf with ⟨hcs, _⟩ | ⟨x, len, cap, m, n, D, Pl, hcs, _⟩
  · exact ⟨none, 0, 0, hcs⟩
  · exact ⟨some x, len, cap, hcs⟩
theorem open_opc {H : Type} {enc : TypeId × Value → H} {W : World} {base fuel : Nat} {cs : List Value} {d : DataW H} {p : List MemPlace} (hf : DataW.trod enc Tryz.prog W base (fun _ => true) true fuel 27 cs = some (d, p)) (hb : Rows.uptoBulk d ≤ 1048576) :
    ∃ o : Opc, cs = o.cells ∧ OpcOk W o ∧ 8 ≤ Rows.uptoBulk d := by
  obtain ⟨xs, m, _, hx, hl, hxl, hall⟩ := DataW.trod_struct Tryz.underlying27 hf
  obtain ⟨a, b, c, d', ls, f0, f1, f2, f3, f4, g, rfl⟩ := elevenV (hl.trans cellsOp)
  have hx7 : xs.length = 7 := hxl
  have h0 : DataW.trod enc Tryz.prog W base (fun _ => true) true m 3 (([a, b, c, d', ls, f0, f1, f2, f3, f4, g].drop 0).take (Tryz.prog.cellsOf 3)) = xs[0]? := hall 0 _ rfl
  have h1 : DataW.trod enc Tryz.prog W base (fun _ => true) true m 3 (([a, b, c, d', ls, f0, f1, f2, f3, f4, g].drop 1).take (Tryz.prog.cellsOf 3)) = xs[1]? := hall 1 _ rfl
  have h2 : DataW.trod enc Tryz.prog W base (fun _ => true) true m 5 (([a, b, c, d', ls, f0, f1, f2, f3, f4, g].drop 2).take (Tryz.prog.cellsOf 5)) = xs[2]? := hall 2 _ rfl
  have h3 : DataW.trod enc Tryz.prog W base (fun _ => true) true m 3 (([a, b, c, d', ls, f0, f1, f2, f3, f4, g].drop 3).take (Tryz.prog.cellsOf 3)) = xs[3]? := hall 3 _ rfl
  have h4 : DataW.trod enc Tryz.prog W base (fun _ => true) true m 22 (([a, b, c, d', ls, f0, f1, f2, f3, f4, g].drop 4).take (Tryz.prog.cellsOf 22)) = xs[4]? := hall 4 _ rfl
  have h5 : DataW.trod enc Tryz.prog W base (fun _ => true) true m 24 (([a, b, c, d', ls, f0, f1, f2, f3, f4, g].drop 5).take (Tryz.prog.cellsOf 24)) = xs[5]? := hall 5 _ rfl
  have h6 : DataW.trod enc Tryz.prog W base (fun _ => true) true m 25 (([a, b, c, d', ls, f0, f1, f2, f3, f4, g].drop 10).take (Tryz.prog.cellsOf 25)) = xs[6]? := hall 6 _ rfl
  rw [List.getElem?_eq_getElem (by omega)] at h0 h1 h2 h3 h4 h5 h6
  rw [cellsInt] at h0 h1 h3
  rw [cellsU8] at h2
  rw [cellsInts] at h4
  rw [cellsFa5] at h5
  rw [cellsKeep] at h6
  obtain ⟨z0, e0, _, _⟩ := DataW.trod_int Tryz.underlying3 h0
  obtain ⟨z1, e1, _, w1⟩ := DataW.trod_int Tryz.underlying3 h1
  obtain ⟨z2, e2, _, w2⟩ := DataW.trod_int Tryz.underlying5 h2
  obtain ⟨z3, e3, _, _⟩ := DataW.trod_int Tryz.underlying3 h3
  obtain ⟨f, e5, fa, ft⟩ := open_fault h5
  have hb8 : 8 ≤ Rows.uptoBulk d := by
    have hd : d = .agg (xs.map Prod.fst) := (Prod.mk.inj hx).1
    have h7 := length_le_bulk (xs.map Prod.fst)
    rw [List.length_map, hx7] at h7
    rw [hd]
    simp only [Rows.uptoBulk]
    omega
  have hb4 : Rows.uptoBulk xs[4].1 ≤ 1048576 := by
    have hd : d = .agg (xs.map Prod.fst) := (Prod.mk.inj hx).1
    have h6 : xs[4].1 ∈ xs.map Prod.fst := List.mem_map_of_mem (List.getElem_mem _)
    have h7 := bulk_le_all h6
    rw [hd] at hb
    simp only [Rows.uptoBulk] at hb
    omega
  obtain ⟨lo, lc, l, e4, hr, hll⟩ := open_ints (d := xs[4].1) (p := xs[4].2) h4 hb4
  obtain ⟨ko, kn, kc, e6⟩ := open_bools (d := xs[6].1) (p := xs[6].2) h6
  simp [K.fcell] at e0 e1 e2 e3 e4 e5 e6
  obtain ⟨q0, q1, q2, q3, q4⟩ := e5
  subst e0; subst e1; subst e2; subst e3; subst e4; subst e6; subst q0; subst q1; subst q2; subst q3; subst q4
  have hbb := bounds_u8 w2
  obtain ⟨fill, rfl⟩ := Int.eq_ofNat_of_zero_le hbb.1
  exact ⟨⟨z0, z1, fill, z3, lo, lc, l, f, ko, kn, kc⟩, rfl, ⟨by show fill < 256; omega, w1, fa, ft, hll, hr⟩, hb8⟩
theorem bulk_times {H : Type} : ∀ (l : List (DataW H)), (∀ d ∈ l, 8 ≤ Rows.uptoBulk d) → 8 * l.length ≤ Rows.uptoBulkAll l
  | [], _ => by simp
  | d :: l, h => by
    have h1 := bulk_times l (fun x hx => h x (List.mem_cons_of_mem _ hx))
    have h2 := h d (by simp)
    simp only [Rows.uptoBulkAll, List.length_cons]
    omega
/-- the script's row -/
structure OcRow (W : World) (ao : Option Addr) (l : List Opc) : Prop where
  at_ : ∀ (k : Nat) o, l[k]? = some o → ∃ b off, ao = some ⟨b, off, none⟩ ∧ ∀ j, j < 11 → W.cell? ⟨b, off + k * 11 + j, none⟩ = o.cells[j]?
theorem open_opcs {H : Type} {enc : TypeId × Value → H} {W : World} {base fuel : Nat} {a0 : Option Addr} {len0 cap0 : Nat} {d : DataW H} {p : List MemPlace} (hf : DataW.trod enc Tryz.prog W base (fun _ => true) true fuel 72 [.slice a0 len0 cap0] = some (d, p)) (hb : Rows.uptoBulk d ≤ 1048576) :
    ∃ l : List Opc, len0 = l.length ∧ OcRow W a0 l ∧ (∀ o ∈ l, OpcOk W o) ∧ 8 * len0 ≤ 1048576 := by
  rcases open_slice Tryz.underlying72 hf with ⟨hcs, _⟩ | ⟨x, len, cap, m, n, D, Pl, hcs, _, hl, hm, hmm, hx, hel⟩
  · simp at hcs
    obtain ⟨rfl, rfl, rfl⟩ := hcs
    exact ⟨[], rfl, ⟨fun k q hk => by simp at hk⟩, by simp, by decide⟩
  · simp at hcs
    obtain ⟨rfl, rfl, rfl⟩ := hcs
    have hmc : m = cap0 := by simpa using hmm
    have hd : d = .slice ((List.range len0).map D) ((List.range (m - len0)).map fun j => D (len0 + j)) := (Prod.mk.inj hx).1
    have b1 := bulk_slice ((List.range len0).map D) ((List.range (m - len0)).map fun j => D (len0 + j))
    rw [← hd] at b1
    have hlen : len0 ≤ 1048575 := by
      have b2 := length_le_bulk ((List.range len0).map D)
      simp at b2
      omega
    have hel' : ∀ i, ∃ q : Opc, i < len0 → (∀ j, j < 11 → W.cell? ((x.add (i * 11)).add j) = q.cells[j]?) ∧ OpcOk W q ∧ 8 ≤ Rows.uptoBulk (D i) := by
      intro i
      by_cases hi : i < len0
      · obtain ⟨cs', hc1, hc2⟩ := hel i (by omega)
        rw [cellsOp] at hc1
        have hbi : Rows.uptoBulk (D i) ≤ 1048576 := by
          have h6 : D i ∈ (List.range len0).map D := List.mem_map_of_mem (List.mem_range.2 hi)
          have h7 := bulk_le_all h6
          omega
        obtain ⟨q, rfl, hq⟩ := open_opc hc2 hbi
        exact ⟨q, fun _ => ⟨(World.cells?_some hc1).2.2, hq⟩⟩
      · exact ⟨⟨0, 0, 0, 0, none, 0, [], ⟨0, 0, 0, 0, false⟩, none, 0, 0⟩, fun h => absurd h hi⟩
    obtain ⟨T, hT⟩ := Classical.axiomOfChoice hel'
    have hlen8 : 8 * len0 ≤ 1048576 := by
      have h1 := bulk_times ((List.range len0).map D) (fun d hd => by
        obtain ⟨i, hi, rfl⟩ := List.mem_map.1 hd
        exact (hT i (List.mem_range.1 hi)).2.2)
      simp only [List.length_map, List.length_range] at h1
      omega
    refine ⟨(List.range len0).map T, by simp, ⟨fun k q hk => ?_⟩, fun y hy => ?_, hlen8⟩
    · have hk2 : k < len0 := by
        have := (List.getElem?_eq_some_iff.1 hk).1
        simpa using this
      have hq : T k = q := by simpa [hk2] using hk
      obtain ⟨pb, po, rfl⟩ : ∃ pb po, x = ⟨pb, po, none⟩ := by
        have h0 := (hT 0 (by omega)).1 0 (by decide)
        have h1 := World.cell?_spot (show W.cell? ((x.add (0 * 11)).add 0) = some (.int .i64 (T 0).kind) from h0)
        obtain ⟨b, off, spot⟩ := x
        have : spot = none := by simpa [Addr.add] using h1
        exact ⟨b, off, by rw [this]⟩
      refine ⟨pb, po, rfl, fun j hj => ?_⟩
      have g0 := (hT k hk2).1 j hj
      rw [add_plain, add_plain, hq] at g0
      exact g0
    · obtain ⟨i, hi, rfl⟩ := List.mem_map.1 hy
      exact (hT i (List.mem_range.1 hi)).2.1
end Go.Proofs.YtijimcjmpeakpaaGreat.C

namespace Go.Proofs.YtijimcjmpeakpaaGreat.C
open Go.RowKit Go.Maps Go.Shelf Go.Proofs.YtijimcjmpeakpaaGreat
set_option linter.unusedVariables false
set_option linter.unusedSimpArgs false
set_option maxRecDepth 100000

/-- what the law has behind some of its calls: the cache of its own, and the book; G: what each sector should have -/
structure Kpr (w0 W : World) (bc bd kb n i : Nat) (P : Loc) (S : K.Dk) (C : Ch) (av bw : Value) (A : List Be) (G : Nat → K.Bl) : Prop where
  hc : Hc w0 W P S C
  bk : Bk W kb av bw A
  bn : ∀ x ∈ bfp kb av bw A, w0.heap.size ≤ x ∧ x ∉ P.fp C.L
  fs : K.FsOk S.fs
  ql : S.q.length + dirtyN C.L ≤ 2 * i
  al : A.length ≤ i
  gd : Good S C
  eq : ∀ s : Nat, s < n → G s = seen S C s
  nn : S.n = n
  ec : P.bc = bc
  ed : P.bd = bd
/-- the call of this round, in a block that is none of the others' -/
structure Xo (W : World) (xb : Nat) (oc : Array Value) (T : TypeId) (P : Loc) (C : Ch) (kb : Nat) (av bw : Value) (A : List Be) : Prop where
  xo : W.heap[xb]? = some (.cells oc T (0, 0))
  xf : xb ∉ P.fp C.L
  xg : xb ∉ bfp kb av bw A
section
variable {w0 W W' : World} {bc bd kb n i xb : Nat} {oc : Array Value} {T : TypeId} {P P' : Loc} {S S' : K.Dk} {C C' : Ch} {av bw : Value} {A : List Be} {G G' : Nat → K.Bl}
theorem Xo.lt (h : Xo W xb oc T P C kb av bw A) : xb < W.heap.size := (Array.getElem?_eq_some_iff.1 h.xo).1
theorem Xo.later (h : Xo W xb oc T P C kb av bw A) (hb : Below W.heap.size W W') : Xo W' xb oc T P C kb av bw A := ⟨(hb.block _ h.lt).trans h.xo, h.xf, h.xg⟩
theorem Xo.act (h : Xo W xb oc T P C kb av bw A) (ha : CAct W W' P P' C S' C') : Xo W' xb oc T P' C' kb av bw A :=
  ⟨(ha.kp.block _ h.lt h.xf).trans h.xo, fun hm => (ha.sub _ hm).elim h.xf (fun h1 => by have := h.lt; omega), h.xg⟩
theorem Xo.cell (h : Xo W xb oc T P C kb av bw A) (j : Nat) : W.cell? ⟨xb, j, none⟩ = oc[j]? := K.cell_of h.xo
theorem Kpr.later (h : Kpr w0 W bc bd kb n i P S C av bw A G) (hb : Below W.heap.size W W') : Kpr w0 W' bc bd kb n i P S C av bw A G :=
  ⟨h.hc.later hb, h.bk.later hb, h.bn, h.fs, h.ql, h.al, h.gd, h.eq, h.nn, h.ec, h.ed⟩
theorem Kpr.more (h : Kpr w0 W bc bd kb n i P S C av bw A G) : Kpr w0 W bc bd kb n (i + 1) P S C av bw A G :=
  ⟨h.hc, h.bk, h.bn, h.fs, by have := h.ql; omega, by have := h.al; omega, h.gd, h.eq, h.nn, h.ec, h.ed⟩
theorem Kpr.far (h : Kpr w0 W bc bd kb n i P S C av bw A G) (ha : CAct W W' P P' C S' C') : Bk W' kb av bw A ∧ ∀ x ∈ bfp kb av bw A, w0.heap.size ≤ x ∧ x ∉ P'.fp C'.L := by
  refine ⟨h.bk.kept ha.kp (fun x hx => (h.bn x hx).2), fun x hx => ⟨(h.bn x hx).1, fun hm => ?_⟩⟩
  rcases ha.sub x hm with h1 | h1
  · exact (h.bn x hx).2 h1
  · have := h.bk.lt x hx; omega
theorem Kpr.acts (h : Kpr w0 W bc bd kb n i P S C av bw A G) (ha : CAct W W' P P' C S' C') (hs : Good S' C') (he : ∀ s : Nat, s < n → G' s = seen S' C' s) (hf : K.FsOk S'.fs) (hq : S'.q.length + dirtyN C'.L ≤ S.q.length + dirtyN C.L + 2) (hn : S'.n = S.n) : Kpr w0 W' bc bd kb n (i + 1) P' S' C' av bw A G' :=
  ⟨h.hc.step ha, (h.far ha).1, (h.far ha).2, hf, by have := h.ql; omega, by have := h.al; omega, hs, he, hn.trans h.nn, ha.bc.trans h.ec, ha.bd.trans h.ed⟩
theorem Kpr.act (h : Kpr w0 W bc bd kb n i P S C av bw A G) (ha : CAct W W' P P' C S' C') (hs : Sees S C S' C') (hf : K.FsOk S'.fs) (hq : S'.q.length + dirtyN C'.L ≤ S.q.length + dirtyN C.L + 2) (hn : S'.n = S.n) : Kpr w0 W' bc bd kb n (i + 1) P' S' C' av bw A G :=
  h.acts ha hs.good (fun s hs' => by rw [h.eq s hs', hs.eq]) hf hq hn
/-- a call that changes nothing at all -/
theorem Kpr.stay (h : Kpr w0 W bc bd kb n i P S C av bw A G) (ha : CAct W W' P P C S C) : Kpr w0 W' bc bd kb n i P S C av bw A G :=
  ⟨h.hc.step ha, (h.far ha).1, (h.far ha).2, h.fs, h.ql, h.al, h.gd, h.eq, h.nn, h.ec, h.ed⟩
/-- bytes are put into the book -/
theorem Kpr.putB (h : Kpr w0 W bc bd kb n i P S C av bw A G) {av' bw' : Value} {A' : List Be} {v : Value} (hb : Bk W' kb av' bw' A') (hl : A'.length ≤ i) (hk : K.Kp W W' (bfp kb av bw A)) (hsub : ∀ x ∈ bfp kb av' bw' A', x ∈ bfp kb av bw A ∨ W.heap.size ≤ x ∨ v.ownBlock = some x) (hv : ∀ x, v.ownBlock = some x → w0.heap.size ≤ x ∧ x ∉ P.fp C.L) (hG : ∀ t : Nat, t < n → G' t = G t) : Kpr w0 W' bc bd kb n i P S C av' bw' A' G' := by
  have hfar : ∀ x ∈ P.fp C.L, x ∉ bfp kb av bw A := fun x hx hm => (h.bn x hm).2 hx
  refine ⟨⟨h.hc.rc.kept hk hfar, h.hc.bel.trans (hk.below (fun x hx => (h.bn x hx).1) h.hc.bel.size), h.hc.new⟩, hb, fun x hx => ?_, h.fs, h.ql, hl, h.gd, fun t ht => (hG t ht).trans (h.eq t ht), h.nn, h.ec, h.ed⟩
  rcases hsub x hx with h1 | h1 | h1
  · exact h.bn x h1
  · have hlt := h.hc.rc.lt
    refine ⟨Nat.le_trans h.hc.bel.size h1, fun hm => ?_⟩
    have := hlt x hm
    omega
  · exact hv x h1
end
section
theorem back_sees {S : K.Dk} {C : Ch} (g : Good S C) : Sees S C (backR S C).2.2.1 (backR S C).2.2.2 := by
  unfold backR
  cases hf : C.L.find? dirtyData with
  | none => exact Sees.refl g
  | some l =>
    simp only
    obtain ⟨h1, h2⟩ := find_mem hf
    have hd : l.dirty = true := by unfold dirtyData at h2; simp at h2; exact h2.1
    have := wb_sees g h1 hd
    split <;> exact this
theorem dirtyN_cons (y : Ln) (M : List Ln) : dirtyN (y :: M) = (if y.dirty = true then 1 else 0) + dirtyN M := by
  unfold dirtyN
  rw [List.filter_cons]
  cases y.dirty <;> simp <;> omega
theorem dirtyN_cleanL (L : List Ln) (s : Int) : dirtyN (cleanL L s) ≤ dirtyN L := by
  induction L with
  | nil => exact Nat.le_refl _
  | cons x L ih =>
    have e : cleanL (x :: L) s = (if (x.sec : Int) = s then cleaned x else x) :: cleanL L s := rfl
    rw [e, dirtyN_cons, dirtyN_cons]
    have : (if ((if (x.sec : Int) = s then cleaned x else x) : Ln).dirty = true then 1 else 0) ≤ (if x.dirty = true then 1 else 0) := by
      split
      · simp [cleaned]
      · exact Nat.le_refl _
    omega
theorem wb_held {S : K.Dk} {C : Ch} (s : Int) : (K.FsOk S.fs → K.FsOk (wbS S C s).fs) ∧ (wbS S C s).q.length + dirtyN (wbC S C s).L ≤ S.q.length + dirtyN C.L + 1 := by
  refine ⟨fun h => wbS_ok h, ?_⟩
  have h1 := wbS_q S C s
  have h2 : dirtyN (wbC S C s).L ≤ dirtyN C.L := by
    unfold wbC
    split
    · split
      · exact dirtyN_cleanL C.L s
      · exact Nat.le_refl _
    · exact Nat.le_refl _
  omega
theorem back_held {S : K.Dk} {C : Ch} : (K.FsOk S.fs → K.FsOk (backR S C).2.2.1.fs) ∧ (backR S C).2.2.1.q.length + dirtyN (backR S C).2.2.2.L ≤ S.q.length + dirtyN C.L + 2 ∧ (backR S C).2.2.1.n = S.n := by
  unfold backR
  cases hf : C.L.find? dirtyData with
  | none => exact ⟨id, by simp only; omega, rfl⟩
  | some l =>
    simp only
    obtain ⟨h1, h2⟩ := wb_held (S := S) (C := C) l.sec
    split <;> exact ⟨h1, by simp only; omega, wbS_n _ _ _⟩
theorem through_sees {S : K.Dk} {C : Ch} (g : Good S C) (ks : List Int) : Sees S C (throughR S C ks).2.1 (throughR S C ks).2.2 ∧ (K.FsOk S.fs → K.FsOk (throughR S C ks).2.1.fs) ∧ (throughR S C ks).2.1.q.length + dirtyN (throughR S C ks).2.2.L ≤ S.q.length + dirtyN C.L + 2 ∧ (throughR S C ks).2.1.n = S.n := by
  unfold throughR
  split
  · split
    · have k := (flush_ok (S := S) g.nd).1
      have hp := k.phi
      exact ⟨flush_sees g, k.fs, by split at hp <;> omega, k.n⟩
    · have k := (settle_ok (S := S) g.nd (dirt_thr (C := C) ks)).1
      have hp := k.phi
      exact ⟨settle_sees g (dirt_thr ks), k.fs, by split at hp <;> omega, k.n⟩
  · exact ⟨Sees.refl g, id, by simp only; omega, rfl⟩
theorem flush_all {S : K.Dk} {C : Ch} (g : Good S C) : Sees S C (flushR S C).2.1 (flushR S C).2.2 ∧ (K.FsOk S.fs → K.FsOk (flushR S C).2.1.fs) ∧ (flushR S C).2.1.q.length + dirtyN (flushR S C).2.2.L ≤ S.q.length + dirtyN C.L + 2 ∧ (flushR S C).2.1.n = S.n := by
  have k := (flush_ok (S := S) g.nd).1
  have hp := k.phi
  exact ⟨flush_sees g, k.fs, by split at hp <;> omega, k.n⟩
theorem dirtyN_append (A B : List Ln) : dirtyN (A ++ B) = dirtyN A + dirtyN B := by simp [dirtyN]
theorem read_held {S : K.Dk} {C : Ch} (g : Good S C) (s : Int) (b : Nat) (hlen : C.L.length ≤ C.most) (hm1 : 1 ≤ C.most) : (K.FsOk S.fs → K.FsOk (readR S C s b).2.2.1.fs) ∧ (readR S C s b).2.2.1.q.length + dirtyN (readR S C s b).2.2.2.L ≤ S.q.length + dirtyN C.L + 2 ∧ (readR S C s b).2.2.1.n = S.n ∧ ((readR S C s b).1 ≠ 0 → (readR S C s b).2.1 = []) ∧ (K.inD S.n s = false → (readR S C s b).1 = 31) := by
  unfold readR
  by_cases hi : K.inD S.n s = true
  · rw [if_pos hi]
    cases hl : lineAt C.L s with
    | some l =>
      simp only
      refine ⟨id, ?_, by first | rfl | trivial, fun h => absurd rfl h, fun h => by rw [hi] at h; cases h⟩
      unfold useC
      rw [hl]
      show S.q.length + dirtyN (dropL C.L s ++ [l]) ≤ _
      rw [dirtyN_append]
      have h1 := dirtyN_drop C.L s
      have h2 : dirtyN [l] ≤ 1 := by unfold dirtyN; exact List.length_filter_le _ _
      omega
    | none =>
      simp only
      obtain ⟨hh, _, _⟩ := room_ok (S := S) (C := missC C) g.nd hlen hm1
      have hp : (roomR S (missC C)).2.1.q.length + dirtyN (roomR S (missC C)).2.2.L ≤ S.q.length + dirtyN C.L + 1 := hh.phi
      have hfs := hh.fs
      have hn := hh.n
      generalize roomR S (missC C) = R at *
      obtain ⟨e, S1, C1⟩ := R
      simp only at *
      by_cases he : e = 0
      · rw [if_pos he]
        by_cases hre : K.rdE S1 s = 0
        · rw [if_pos hre]
          refine ⟨fun hf => K.rdS_ok (hfs hf) s, ?_, (rdS_n S1 s).trans hn, fun h => absurd rfl h, fun h => by rw [hi] at h; cases h⟩
          simp only
          rw [K.rdS_q, dirtyN_append]
          have h2 : ∀ x : Ln, dirtyN [x] ≤ 1 := fun x => by unfold dirtyN; exact List.length_filter_le _ _
          have := h2 ⟨s.toNat, b, K.rdL S1 s, false, isN C.notes s⟩
          omega
        · rw [if_neg hre]
          refine ⟨fun hf => K.rdS_ok (hfs hf) s, ?_, (rdS_n S1 s).trans hn, fun _ => rfl, fun h => by rw [hi] at h; cases h⟩
          simp only
          rw [K.rdS_q]
          omega
      · rw [if_neg he]
        exact ⟨hfs, by simp only; omega, hn, fun _ => rfl, fun h => by rw [hi] at h; cases h⟩
  · rw [if_neg hi]
    exact ⟨id, by simp only; omega, rfl, fun _ => rfl, fun _ => rfl⟩
theorem write_held {S : K.Dk} {C : Ch} (g : Good S C) (s : Int) (bs : K.Bl) (b : Nat) (hlen : C.L.length ≤ C.most) (hm1 : 1 ≤ C.most) : (K.FsOk S.fs → K.FsOk (writeR S C s bs b).2.1.fs) ∧ (writeR S C s bs b).2.1.q.length + dirtyN (writeR S C s bs b).2.2.L ≤ S.q.length + dirtyN C.L + 2 ∧ (writeR S C s bs b).2.1.n = S.n := by
  have h2 : ∀ x : Ln, dirtyN [x] ≤ 1 := fun x => by unfold dirtyN; exact List.length_filter_le _ _
  unfold writeR
  by_cases hi : K.inD S.n s = true
  · rw [if_pos hi]
    by_cases h512 : bs.length = 512
    · rw [if_pos h512]
      cases hl : lineAt C.L s with
      | some l =>
        simp only
        refine ⟨id, ?_, trivial⟩
        rw [dirtyN_append]
        have h1 := dirtyN_drop C.L s
        have := h2 { l with dat := bs, dirty := true }
        omega
      | none =>
        simp only
        obtain ⟨hh, _, _⟩ := room_ok (S := S) (C := missC C) g.nd hlen hm1
        have hp : (roomR S (missC C)).2.1.q.length + dirtyN (roomR S (missC C)).2.2.L ≤ S.q.length + dirtyN C.L + 1 := hh.phi
        have hfs := hh.fs
        have hn := hh.n
        generalize roomR S (missC C) = R at *
        obtain ⟨e, S1, C1⟩ := R
        simp only at *
        by_cases he : e = 0
        · rw [if_pos he]
          refine ⟨hfs, ?_, hn⟩
          simp only
          rw [dirtyN_append]
          have := h2 ⟨s.toNat, b, bs, true, isN C.notes s⟩
          omega
        · rw [if_neg he]
          exact ⟨hfs, by simp only; omega, hn⟩
    · rw [if_neg h512]
      exact ⟨id, by simp only; omega, rfl⟩
  · rw [if_neg hi]
    exact ⟨id, by simp only; omega, rfl⟩
end
end Go.Proofs.YtijimcjmpeakpaaGreat.C

namespace Go.Proofs.YtijimcjmpeakpaaGreat.C
open Go.RowKit Go.Maps Go.Shelf Go.Proofs.YtijimcjmpeakpaaGreat
set_option linter.unusedVariables false
set_option linter.unusedSimpArgs false
set_option maxRecDepth 100000

abbrev TOp : TypeId := 27
theorem seen_ok {w : World} {P : Loc} {S : K.Dk} {C : Ch} (h : RC w P S C) {t : Nat} (ht : t < S.n) : K.OkB (seen S C t) := by
  unfold seen
  cases hl : lineAt C.L t with
  | some l => exact (h.ok l (lineAt_mem hl).1).2
  | none => exact K.look_ok h.rk ht
section
variable {w0 W W' : World} {bc bd kb n i : Nat} {P P' : Loc} {S S' : K.Dk} {C C' : Ch} {av bw : Value} {A : List Be} {G : Nat → K.Bl}
theorem Kpr.okG (h : Kpr w0 W bc bd kb n i P S C av bw A G) {t : Nat} (ht : t < n) : K.OkB (G t) := by
  rw [h.eq t ht]
  exact seen_ok h.hc.rc (by rw [h.nn]; exact ht)
theorem k_flush (h : Kpr w0 W bc bd kb n i P S C av bw A G) (hi : 8 * i ≤ 1048576) :
    Calls Tryz.prog 24 #[.pointer (some ⟨bc, 0, none⟩)] W fun r W' => ∃ e : Int, r = .returned (.int .i64 e) ∧ ∃ P' S' C', Kpr w0 W' bc bd kb n (i + 1) P' S' C' av bw A G := by
  have hq := h.ql
  obtain ⟨h1, h2, h3, h4⟩ := flush_all h.gd
  have hc := flush_c h.hc.rc h.fs (by omega)
  rw [h.ec] at hc
  refine hc.mono ?_
  rintro r W' ⟨rfl, P', ha⟩
  exact ⟨_, rfl, P', _, _, h.act ha h1 (h2 h.fs) h3 h4⟩
theorem k_back (h : Kpr w0 W bc bd kb n i P S C av bw A G) (hi : 8 * i ≤ 1048576) :
    Calls Tryz.prog 26 #[.pointer (some ⟨bc, 0, none⟩)] W fun r W' => ∃ z e : Int, r = .returned (.tuple #[.int .i64 z, .int .i64 e]) ∧ ∃ P' S' C', Kpr w0 W' bc bd kb n (i + 1) P' S' C' av bw A G := by
  have hq := h.ql
  obtain ⟨h2, h3, h4⟩ := back_held (S := S) (C := C)
  have hc := back_c h.hc.rc h.fs (by omega)
  rw [h.ec] at hc
  refine hc.mono ?_
  rintro r W' ⟨rfl, P', ha⟩
  exact ⟨_, _, rfl, P', _, _, h.act ha (back_sees h.gd) (h2 h.fs) h3 h4⟩
theorem k_through (h : Kpr w0 W bc bd kb n i P S C av bw A G) (hi : 8 * i ≤ 1048576) {ao : Option Addr} {cap : Nat} {ks : List Int} (hl : ks.length ≤ 1048576) (hr : IRd w0 ao ks) :
    Calls Tryz.prog 25 #[.pointer (some ⟨bc, 0, none⟩), .slice ao ks.length cap] W fun r W' => ∃ e : Int, r = .returned (.int .i64 e) ∧ ∃ P' S' C', Kpr w0 W' bc bd kb n (i + 1) P' S' C' av bw A G := by
  have hq := h.ql
  obtain ⟨h1, h2, h3, h4⟩ := through_sees h.gd ks
  have hrw : IRw W (P.fp C.L) ao ks := fun k x hk => by
    obtain ⟨g, off, e, g1, g2⟩ := hr k x hk
    exact ⟨g, off, e, Nat.lt_of_lt_of_le g1 h.hc.bel.size, fun hm => by have := h.hc.new g hm; omega, cell_later h.hc.bel g2⟩
  have hc := through_c (cap := cap) h.hc.rc h.fs (by omega) rfl hl hrw
  rw [h.ec] at hc
  refine hc.mono ?_
  rintro r W' ⟨rfl, P', ha⟩
  exact ⟨_, rfl, P', _, _, h.act ha h1 (h2 h.fs) h3 h4⟩
theorem faS_n (S : K.Dk) (f : K.Flt) : (K.faS S f).n = S.n := by
  unfold K.faS
  split <;> rfl
theorem k_fault (h : Kpr w0 W bc bd kb n i P S C av bw A G) (f : K.Flt) (fa : K.I64 f.after) (ft : K.I64 f.times) :
    Calls Tryz.prog 27 #[.pointer (some ⟨bd, 0, none⟩), .agg #[.int .i64 f.kind, .int .i64 f.sector, .int .i64 f.after, .int .i64 f.times, .bool f.land]] W fun r W' => ∃ e : Int, r = .returned (.int .i64 e) ∧ ∃ P' S' C', Kpr w0 W' bc bd kb n (i + 1) P' S' C' av bw A G := by
  have hc := K.fault_gen h.hc.rc.rk h.fs f
  rw [h.ed] at hc
  refine hc.mono ?_
  rintro r W' ⟨rfl, fv1, hda⟩
  have hda' : K.DAct W W' 0 P.bd P.ms P.ml P.ms P.ml P.qv P.fv P.qv fv1 (K.faS S f) := by rw [h.ed]; exact hda
  have ha := h.hc.rc.disk (faS_n S f) hda'
  exact ⟨_, rfl, _, _, _, h.act ha (fault_sees h.gd f) (K.faS_ok h.fs fa ft) (by rw [K.faS_q]; omega) (faS_n S f)⟩
theorem k_read (h : Kpr w0 W bc bd kb n i P S C av bw A G) (hi : 8 * i ≤ 1048576) (s : Int) :
    Calls Tryz.prog 20 #[.pointer (some ⟨bc, 0, none⟩), .int .i64 s] W fun r W' => ∃ (va : Option Addr) (vc : Nat) (bl : K.Bl) (e : Int), r = .returned (.tuple #[.slice va bl.length vc, .int .i64 e]) ∧ W'.ownsRow 0 TB8 1 (.slice va bl.length vc) bl.length (bl.map bv) ∧ (e = 0 → bl = G s.toNat ∧ K.inD n s = true) ∧ (K.inD n s = false → e = 31) ∧ ∃ P' S' C', CAct W W' P P' C S' C' ∧ Kpr w0 W' bc bd kb n (i + 1) P' S' C' av bw A G := by
  have hq := h.ql
  have hlim := h.hc.rc.lim
  have hc := read_c h.hc.rc h.fs (by omega) s
  rw [h.ec] at hc
  refine hc.mono ?_
  rintro r W' ⟨b, v, rfl, ho, P', ha⟩
  obtain ⟨h1, h2⟩ := read_sees h.gd s b hlim.1 hlim.2.1
  obtain ⟨h3, h4, h5, _, h7⟩ := read_held h.gd s b hlim.1 hlim.2.1
  obtain ⟨va, vc, hv⟩ : ∃ va vc, v = .slice va (readR S C s b).2.1.length vc := by
    rcases ho.2 with ⟨hv, h0⟩ | ⟨g, cap, cur, hv, _⟩
    · exact ⟨none, 0, by rw [hv, h0]⟩
    · exact ⟨_, _, hv⟩
  subst hv
  refine ⟨va, vc, _, _, rfl, owns_mono ho (Nat.zero_le _), fun e => ?_, fun e => ?_, P', _, _, ha, h.act ha h1 (h3 h.fs) h4 h5⟩
  · obtain ⟨e1, e2⟩ := h2 e
    rw [h.nn] at e2
    obtain ⟨t, rfl, ht⟩ := inD_nat e2
    rw [Int.toNat_natCast] at e1 ⊢
    exact ⟨e1.trans (h.eq t ht).symm, e2⟩
  · exact h7 (by rw [h.nn]; exact e)
theorem k_peek (h : Kpr w0 W bc bd kb n i P S C av bw A G) (hi : 8 * i ≤ 2097152) (s : Int) :
    Calls Tryz.prog 21 #[.pointer (some ⟨bc, 0, none⟩), .int .i64 s] W fun r W' => ∃ (va : Option Addr) (vc : Nat) (bl : K.Bl), r = .returned (.tuple #[.slice va bl.length vc, .int .i64 (if K.inD n s = true then 0 else 31)]) ∧ W'.ownsRow 0 TB8 1 (.slice va bl.length vc) bl.length (bl.map bv) ∧ (K.inD n s = true → bl = G s.toNat) ∧ CAct W W' P P C S C ∧ Kpr w0 W' bc bd kb n i P S C av bw A G := by
  have hq := h.ql
  have hc := peek_c h.hc.rc (by omega) s
  rw [h.ec, h.nn] at hc
  refine hc.mono ?_
  rintro r W' ⟨v, rfl, ho, ha⟩
  obtain ⟨va, vc, hv⟩ : ∃ va vc, v = .slice va (peekL S C s).length vc := by
    rcases ho.2 with ⟨hv, h0⟩ | ⟨g, cap, cur, hv, _⟩
    · exact ⟨none, 0, by rw [hv, h0]⟩
    · exact ⟨_, _, hv⟩
  subst hv
  refine ⟨va, vc, _, rfl, owns_mono ho (Nat.zero_le _), fun e => ?_, ha, h.stay ha⟩
  obtain ⟨t, rfl, ht⟩ := inD_nat e
  unfold peekL
  rw [h.nn, if_pos e, Int.toNat_natCast]
  exact (h.eq t ht).symm
/-- the book is asked, and its answer held against a row -/
theorem k_get (h : Kpr w0 W bc bd kb n i P S C av bw A (fun t => getB A t)) (hi : 8 * i ≤ 2097152) {s : Int} (hin : K.inD n s = true) {va : Option Addr} {vc : Nat} {bl : K.Bl} (hbl : bl = getB A s.toNat) (ho : W.ownsRow 0 TB8 1 (.slice va bl.length vc) bl.length (bl.map bv)) :
    Calls Tryz.prog 23 #[.pointer (some ⟨kb, 0, none⟩), .int .i64 s] W fun r W' => ∃ vo c, r = .returned (.slice vo 512 c) ∧ Below W.heap.size W W' ∧ Hid (Calls Tryz.prog 22 #[.slice va bl.length vc, .slice vo 512 c] W' fun r W'' => r = .returned (.bool true) ∧ Below W.heap.size W W'') := by
  obtain ⟨t, rfl, ht⟩ := inD_nat hin
  rw [Int.toNat_natCast] at hbl
  have hok := h.okG ht
  have hal := h.al
  refine (get_c h.bk t (by omega)).mono ?_
  rintro r W' ⟨v, rfl, ho', hb⟩
  obtain ⟨vo, c, rfl, hb2⟩ := K.own_brow ho' hok.len hok.lt (by decide)
  have ho2 := K.ownsRow_block ho (fun g hg => hb.block g (K.row_lt ho g hg).1)
  have hlen : bl.length = 512 := by rw [hbl]; exact hok.len
  obtain ⟨va', vc', e, hb1⟩ := K.own_brow ho2 rfl (by rw [hbl]; exact hok.lt) (by rw [hlen]; decide)
  cases e
  refine ⟨vo, c, rfl, hb, ?_⟩
  have hsm := same_any _ _ _ _ _ _ W' hb1 hb2
  rw [hok.len, decide_eq_true hbl] at hsm
  refine hsm.mono ?_
  rintro r W'' ⟨rfl, q, rfl⟩
  exact ⟨rfl, hb.os, hb.tape, hb.output, hb.size, hb.block⟩
theorem k_write (h : Kpr w0 W bc bd kb n i P S C av bw A G) (hi : 8 * i ≤ 1048576) (s : Int) {bl : K.Bl} {g c m B : Nat} (hm : m = bl.length) (hm1 : m ≤ 1023) (hlt : ∀ x ∈ bl, x < 256) (hB : 0 < m) (ho : W.ownsRow B TB8 1 (.slice (some ⟨g, 0, none⟩) m c) m (bl.map bv)) :
    Calls Tryz.prog 17 #[.pointer (some ⟨bc, 0, none⟩), .int .i64 s, .slice (some ⟨g, 0, none⟩) m c] W fun r W' => ∃ e : Int, r = .returned (.int .i64 e) ∧ ∃ P' S' C', CAct W W' P P' C S' C' ∧ (e ≠ 0 → Kpr w0 W' bc bd kb n (i + 1) P' S' C' av bw A G) ∧ (e = 0 → K.inD n s = true ∧ bl.length = 512 ∧ Kpr w0 W' bc bd kb n (i + 1) P' S' C' av bw A (fun t => if t = s.toNat then bl else G t)) := by
  have hq := h.ql
  have hlim := h.hc.rc.lim
  have hsrc : m = 512 → Src W (P.fp C.L) (some ⟨g, 0, none⟩) bl := fun _ => ⟨g, 0, rfl, h.hc.rc.farB ho g rfl, (K.row_lt ho g rfl).1, fun j v hv => by
    have c1 := ho.cells (g := g) rfl j v hv
    rwa [WideShapes.add_plain] at c1⟩
  have hc := write_c (cap := c) h.hc.rc h.fs (by omega) s hlt hm (by omega) hsrc
  rw [h.ec] at hc
  refine hc.mono ?_
  rintro r W' ⟨b, rfl, P', ha⟩
  obtain ⟨g1, g2, g3⟩ := write_sees h.gd s bl b hlim.1 hlim.2.1
  obtain ⟨h3, h4, h5⟩ := write_held h.gd s bl b hlim.1 hlim.2.1
  refine ⟨_, rfl, P', _, _, ha, fun e => h.acts ha g1 (fun t ht => by rw [g2 e, h.eq t ht]) (h3 h.fs) h4 h5, fun e => ?_⟩
  obtain ⟨k1, k2, k3⟩ := g3 e
  refine ⟨by rw [← h.nn]; exact k1, k2, h.acts ha g1 (fun t ht => ?_) (h3 h.fs) h4 h5⟩
  rw [k3]
  by_cases e1 : t = s.toNat
  · rw [if_pos e1, if_pos e1]
  · rw [if_neg e1, if_neg e1, h.eq t ht]
theorem k_put {s : Int} {bl : K.Bl} (h : Kpr w0 W bc bd kb n i P S C av bw A (fun t => if t = s.toNat then bl else getB A t)) (hi : i ≤ 1048576) (hal : A.length + 1 ≤ i) (hin : K.inD n s = true) {vo : Option Addr} {c : Nat} {B : Nat} (hB : w0.heap.size ≤ B) (ho : W.ownsRow B TB8 1 (.slice vo 512 c) 512 (bl.map bv)) :
    Calls Tryz.prog 19 #[.pointer (some ⟨kb, 0, none⟩), .int .i64 s, .slice vo 512 c] W fun r W' => r = .returned (.tuple #[]) ∧ ∃ av' bw' A', Kpr w0 W' bc bd kb n i P S C av' bw' A' (fun t => getB A' t) ∧ K.Kp W W' (bfp kb av bw A) := by
  obtain ⟨t, rfl, ht⟩ := inD_nat hin
  refine (put_c h.bk t (owns_mono ho (Nat.zero_le _)) (by omega)).mono ?_
  rintro r W' ⟨rfl, av', bw', A', hb, hg, hl, hk, hsub⟩
  refine ⟨rfl, av', bw', A', h.putB (v := .slice vo 512 c) hb (by omega) hk hsub (fun x hx => ⟨Nat.le_trans hB (row_base ho hx), h.hc.rc.farB ho x hx⟩) (fun u hu => ?_), hk⟩
  rw [hg, Int.toNat_natCast]
  by_cases e : u = t
  · rw [if_pos e, if_pos (by omega)]
  · rw [if_neg e, if_neg (by omega)]
end
end Go.Proofs.YtijimcjmpeakpaaGreat.C

namespace Go.Proofs.YtijimcjmpeakpaaGreat.C
open Go.RowKit Go.Maps Go.Shelf Go.Proofs.YtijimcjmpeakpaaGreat
attribute [local go_sem] Oper.semAt_some
set_option linter.unusedVariables false
set_option linter.unusedSimpArgs false
set_option maxRecDepth 100000

def Nx (w0 W : World) (bc bd kb n i : Nat) : Prop := ∃ P S C av bw A, Kpr w0 W bc bd kb n i P S C av bw A (fun t => getB A t)
theorem eq_cn (w : World) : (binOp .eql 28 (.pointer none) (.pointer none)).run Tryz.prog w = .ok (.bool true) w := by rfl
theorem eq_dn (w : World) : (binOp .eql 30 (.pointer none) (.pointer none)).run Tryz.prog w = .ok (.bool true) w := by rfl
theorem eq_ds (w : World) (a : Addr) : (binOp .eql 30 (.pointer (some a)) (.pointer none)).run Tryz.prog w = .ok (.bool false) w := by rfl
theorem run_book (w : World) : (Instr.build TBk #[]).run Tryz.prog w = .ok (.agg #[.slice none 0 0, .slice none 0 0]) w := run_build w TBk _ _ (by kernel_rfl)
theorem w_drew (X : World) : Below X.heap.size X X.drew := ⟨rfl, rfl, rfl, Nat.le_refl _, fun _ _ => rfl⟩
theorem lawKeeps_no (w : World) (n k : Int) {v : Value} {l : List (Int × Int)} (hv : ArgS w v l) (hl : l.length ≤ 1048576) (hw : ∀ p ∈ l, I64 p.1 ∧ I64 p.2) (hfit : fitB n k l = false) (so : Option Addr) (m cap : Nat) :
    Calls Tryz.prog 5 #[.agg #[.int .i64 n, .int .i64 k, v], .slice so m cap] w fun r w' => r = .returned (.bool true) ∧ Below w.heap.size w w' := by
  obtain ⟨ao, c0, hve, _⟩ := hv.form
  subst hve
  obtain ⟨W0, hW0⟩ : ∃ W0, W0 = w.alloc (.cells #[.int .i64 n, .int .i64 k, .slice ao l.length c0] TSe) := ⟨_, rfl⟩
  have hB0 : Below w.heap.size w W0 := by rw [hW0]; exact (Below.refl _ w).alloc (Nat.le_refl _) _
  have hbx : W0.heap[w.heap.size]? = some (.cells #[.int .i64 n, .int .i64 k, .slice ao l.length c0] TSe) := by rw [hW0]; exact heap_alloc_new w _
  have hlt : w.heap.size < W0.heap.size := (Array.getElem?_eq_some_iff.1 hbx).1
  have HC : Hid (∀ W, Below W0.heap.size W0 W → W.cell? ⟨w.heap.size, 0, none⟩ = some (.int .i64 n) ∧ W.cell? ⟨w.heap.size, 1, none⟩ = some (.int .i64 k) ∧ W.cell? ⟨w.heap.size, 2, none⟩ = some (.slice ao l.length c0)) := fun W hb => by
    have h1 := (hb.block _ hlt).trans hbx
    exact ⟨(K.cell_of h1).trans rfl, (K.cell_of h1).trans rfl, (K.cell_of h1).trans rfl⟩
  have HF : Hid (∀ W, Below W0.heap.size W0 W → Below w.heap.size w W) := fun W hb => hB0.trans (hb.mono hB0.size)
  have HFit : Hid (∀ W, Below W0.heap.size W0 W → Calls Tryz.prog 15 #[.agg #[.int .i64 n, .int .i64 k, .slice ao l.length c0]] W fun r w' => r = .returned (.bool false) ∧ Below W0.heap.size W0 w') := fun W hb => by
    refine (fits_c W n k (hv.later (HF.out W hb)) hw).mono ?_
    rintro r w' ⟨rfl, hb'⟩
    exact ⟨by rw [hfit], hb.trans (hb'.mono hb.size)⟩
  have HOp : Hid (∀ W, Below W0.heap.size W0 W → Calls Tryz.prog 16 #[.agg #[.int .i64 n, .int .i64 k, .slice ao l.length c0]] W fun r w' => r = .returned (.tuple #[.pointer none, .pointer none]) ∧ Below W0.heap.size W0 w') := fun W hb => by
    refine (opened_c W n k (hv.later (HF.out W hb)) hl hw).mono ?_
    rintro r w' ⟨hb', ⟨_, rfl⟩ | ⟨h1, _⟩⟩
    · exact ⟨rfl, hb.trans (hb'.mono hb.size)⟩
    · rw [hfit] at h1; cases h1
  have e1 := eq_dn
  clear hv hw hB0 hbx hlt hl hfit
  go_enter Tryz.func5, Tryz.ntmps5
  go_wp2_with fail
  rw [← hW0]
  refine Calls.mono (heads_c W0) ?_
  clear hW0
  rintro e W1 ⟨rfl, hb1⟩
  obtain ⟨q0, q1, q2⟩ := HC.out W1 hb1
  have hf1 := HFit.out W1 hb1
  clear HFit hb1
  go_wp2_with fail
  refine Calls.mono hf1 ?_
  clear hf1 q0 q1 q2
  rintro e W2 ⟨rfl, hb2⟩
  obtain ⟨q0, q1, q2⟩ := HC.out W2 hb2
  have hf2 := HOp.out W2 hb2
  clear HOp hb2
  go_wp2_with fail
  refine Calls.mono hf2 ?_
  clear hf2 q0 q1 q2
  rintro e W3 ⟨rfl, hb3⟩
  go_wp2
  go_ret
  exact ⟨rfl, HF.out _ hb3⟩
set_option maxHeartbeats 8000000 in
theorem lawKeeps_yes (w : World) (n : Nat) (k : Int) {v : Value} {l : List (Int × Int)} (hv : ArgS w v l) (hl : l.length ≤ 1048576) (hw : ∀ p ∈ l, I64 p.1 ∧ I64 p.2) (hfit : fitB n k l = true) (so : Option Addr) (m cap : Nat) (os : List Opc) (hm : m = os.length) (hm8 : 8 * m ≤ 1048576) (hr : OcRow w so os) (hok : ∀ o ∈ os, OpcOk w o) :
    Calls Tryz.prog 5 #[.agg #[.int .i64 n, .int .i64 k, v], .slice so m cap] w fun r w' => r = .returned (.bool true) ∧ Below w.heap.size w w' := by
  obtain ⟨ao, c0, hve, _⟩ := hv.form
  subst hve
  obtain ⟨W0, hW0⟩ : ∃ W0, W0 = w.alloc (.cells #[.int .i64 n, .int .i64 k, .slice ao l.length c0] TSe) := ⟨_, rfl⟩
  have hB0 : Below w.heap.size w W0 := by rw [hW0]; exact (Below.refl _ w).alloc (Nat.le_refl _) _
  have hbx : W0.heap[w.heap.size]? = some (.cells #[.int .i64 n, .int .i64 k, .slice ao l.length c0] TSe) := by rw [hW0]; exact heap_alloc_new w _
  have hlt : w.heap.size < W0.heap.size := (Array.getElem?_eq_some_iff.1 hbx).1
  have HC : Hid (∀ W, Below W0.heap.size W0 W → W.cell? ⟨w.heap.size, 0, none⟩ = some (.int .i64 n) ∧ W.cell? ⟨w.heap.size, 1, none⟩ = some (.int .i64 k) ∧ W.cell? ⟨w.heap.size, 2, none⟩ = some (.slice ao l.length c0)) := fun W hb => by
    have h1 := (hb.block _ hlt).trans hbx
    exact ⟨(K.cell_of h1).trans rfl, (K.cell_of h1).trans rfl, (K.cell_of h1).trans rfl⟩
  have HF : Hid (∀ W, Below W0.heap.size W0 W → Below w.heap.size w W) := fun W hb => hB0.trans (hb.mono hB0.size)
  have HFit : Hid (∀ W, Below W0.heap.size W0 W → Calls Tryz.prog 15 #[.agg #[.int .i64 n, .int .i64 k, .slice ao l.length c0]] W fun r w' => r = .returned (.bool true) ∧ Below W0.heap.size W0 w') := fun W hb => by
    refine (fits_c W n k (hv.later (HF.out W hb)) hw).mono ?_
    rintro r w' ⟨rfl, hb'⟩
    exact ⟨by rw [hfit], hb.trans (hb'.mono hb.size)⟩
  have hn1 : n ≤ 65536 := by unfold fitB at hfit; have := of_decide_eq_true hfit; omega
  have HOp : Hid (∀ W, Below W0.heap.size W0 W → Calls Tryz.prog 16 #[.agg #[.int .i64 n, .int .i64 k, .slice ao l.length c0]] W fun r w' => ∃ bd bc, r = .returned (.tuple #[.pointer (some ⟨bd, 0, none⟩), .pointer (some ⟨bc, 0, none⟩)]) ∧ Hid (Nx W0 (w'.alloc (.cells #[.slice none 0 0, .slice none 0 0] TBk)) bc bd w'.heap.size n 0)) := fun W hb => by
    refine (opened_c W n k (hv.later (HF.out W hb)) hl hw).mono ?_
    rintro r w' ⟨hb', ⟨h1, _⟩ | ⟨_, P, rfl, hrc, hnew⟩⟩
    · rw [hfit] at h1; cases h1
    · have hb2 : Below W0.heap.size W0 w' := hb.trans (hb'.mono hb.size)
      have hba : Below w'.heap.size w' (w'.alloc (.cells #[.slice none 0 0, .slice none 0 0] TBk)) := (Below.refl _ w').alloc (Nat.le_refl _) _
      rw [Int.toNat_natCast] at hrc
      refine ⟨P.bd, P.bc, rfl, P, _, _, .slice none 0 0, .slice none 0 0, [], ⟨⟨hrc.later hba, hb2.trans (hba.mono hb2.size), fun i hi => Nat.le_trans hb.size (hnew i hi)⟩, ⟨heap_alloc_new w' _, World.ownsRow_nil _ _ _ _, World.ownsRow_nil _ _ _ _, fun a ha => by cases ha⟩, fun x hx => ?_, ⟨by simp [K.newDk], by simp [K.newDk]⟩, by simp [K.newDk, newCh, dirtyN], Nat.le_refl _, ⟨List.nodup_nil, fun l hl => by cases hl⟩, fun s hs => rfl, rfl, rfl, rfl⟩⟩
      have hx' : x = w'.heap.size := by simpa [bfp, Value.ownBlock] using hx
      subst hx'
      refine ⟨hb2.size, fun hm => ?_⟩
      have := hrc.lt _ hm
      omega
  have HN : Hid (os.length = m) := hm.symm
  have HR : Hid (OcRow w so os) := hr
  have HO : Hid (∀ o ∈ os, OpcOk w o ∧ IRd W0 o.lo o.list) := fun o ho => ⟨hok o ho, fun k x hx => by
    obtain ⟨g, off, e, h1, h2⟩ := (hok o ho).row k x hx
    exact ⟨g, off, e, Nat.lt_of_lt_of_le h1 hB0.size, cell_later hB0 h2⟩⟩
  have e1 := eq_ds
  have e2 := eq_cp
  have hbk := run_book
  have HW0 : Hid (∀ W, Below W0.heap.size W0 W → Below w.heap.size w W) := HF
  clear hv hw hB0 hbx hlt hl hfit hm hr hok
  go_enter Tryz.func5, Tryz.ntmps5
  go_wp2_with fail
  rw [← hW0]
  refine Calls.mono (heads_c W0) ?_
  clear hW0
  rintro e W1 ⟨rfl, hb1⟩
  obtain ⟨q0, q1, q2⟩ := HC.out W1 hb1
  have hf1 := HFit.out W1 hb1
  clear HFit hb1
  go_wp2_with fail
  refine Calls.mono hf1 ?_
  clear hf1 q0 q1 q2
  rintro e W2 ⟨rfl, hb2⟩
  obtain ⟨q0, q1, q2⟩ := HC.out W2 hb2
  have hf2 := HOp.out W2 hb2
  clear HOp hb2
  go_wp2_with fail
  refine Calls.mono hf2 ?_
  clear hf2 q0 q1 q2
  rintro e W3 ⟨bd, bc, rfl, HNX⟩
  obtain ⟨kb, hkb⟩ : ∃ kb, kb = W3.heap.size := ⟨_, rfl⟩
  go_wp2
  rw [← hkb] at HNX ⊢
  clear hkb
  go_loopw [10] (fun c wr => ∃ i : Nat, i ≤ m ∧ c = .int .i64 i ∧ Hid (Nx W0 wr bc bd kb n i)) (fun c _ => m - (intOf c).toNat)
  case atStart => exact ⟨0, Nat.zero_le _, rfl, HNX⟩
  case round =>
    obtain ⟨i, hi, rfl, HX⟩ := hrel
    by_cases hlt : i < m
    · obtain ⟨o, ho⟩ : ∃ o, os[i]? = some o := ⟨_, List.getElem?_eq_getElem (by have := HN.out; omega)⟩
      obtain ⟨P, S, C, av, bw, A, hkp⟩ := HX.out
      obtain ⟨bs, off, hao, hcs⟩ := HR.out.at_ i o ho
      subst hao
      have hokk := HO.out o (List.mem_of_getElem? ho)
      have hbl : Below w.heap.size w wr := HF.out wr hkp.hc.bel
      have hc : ∀ j, j < 11 → wr.cell? ⟨bs, off + i * 11 + j, none⟩ = o.cells[j]? := fun j hj => by
        have h1 := hcs j hj
        obtain ⟨v, hv⟩ : ∃ v, o.cells[j]? = some v := ⟨_, List.getElem?_eq_getElem hj⟩
        rw [hv] at h1 ⊢
        exact cell_later hbl h1
      obtain ⟨W1, hW1⟩ : ∃ W1, W1 = wr.alloc (.cells o.cells.toArray TOp) := ⟨_, rfl⟩
      have hB1 : Below wr.heap.size wr W1 := by rw [hW1]; exact (Below.refl _ wr).alloc (Nat.le_refl _) _
      have hx1 : W1.heap[wr.heap.size]? = some (.cells o.cells.toArray TOp) := by rw [hW1]; exact heap_alloc_new wr _
      have HK1 : Hid (Kpr W0 W1 bc bd kb n i P S C av bw A (fun t => getB A t)) := hkp.later hB1
      have HXo : Hid (Xo W1 wr.heap.size o.cells.toArray TOp P C kb av bw A) := ⟨hx1, fun hm => by have := hkp.hc.rc.lt _ hm; omega, fun hm => by have := hkp.bk.lt _ hm; omega⟩
      have HOk : Hid (OpcOk w o ∧ IRd W0 o.lo o.list) := hokk
      have hi8 : 8 * i ≤ 1048576 := by omega
      obtain ⟨okind, osec, ofill, omore, olo, olc, olist, ⟨fk, fsec, fa, ft, fl⟩, oko, okn, okc⟩ := o
      have q0 : wr.cell? ⟨bs, off + i * 11, none⟩ = some (.int .i64 okind) := hc 0 (by decide)
      have q1 : wr.cell? ⟨bs, off + i * 11 + 1, none⟩ = some (.int .i64 osec) := hc 1 (by decide)
      have q2 : wr.cell? ⟨bs, off + i * 11 + 2, none⟩ = some (.int .u8 ofill) := hc 2 (by decide)
      have q3 : wr.cell? ⟨bs, off + i * 11 + 3, none⟩ = some (.int .i64 omore) := hc 3 (by decide)
      have q4 : wr.cell? ⟨bs, off + i * 11 + 4, none⟩ = some (.slice olo olist.length olc) := hc 4 (by decide)
      have q5 : wr.cell? ⟨bs, off + i * 11 + 5, none⟩ = some (.int .i64 fk) := hc 5 (by decide)
      have q6 : wr.cell? ⟨bs, off + i * 11 + 6, none⟩ = some (.int .i64 fsec) := hc 6 (by decide)
      have q7 : wr.cell? ⟨bs, off + i * 11 + 7, none⟩ = some (.int .i64 fa) := hc 7 (by decide)
      have q8 : wr.cell? ⟨bs, off + i * 11 + 8, none⟩ = some (.int .i64 ft) := hc 8 (by decide)
      have q9 : wr.cell? ⟨bs, off + i * 11 + 9, none⟩ = some (.bool fl) := hc 9 (by decide)
      have q10 : wr.cell? ⟨bs, off + i * 11 + 10, none⟩ = some (.slice oko okn okc) := hc 10 (by decide)
      have hnl : (i : Int) < (m : Int) := by omega
      have HWe : Hid (W1 = wr.alloc (.cells #[.int .i64 okind, .int .i64 osec, .int .u8 ofill, .int .i64 omore, .slice olo olist.length olc, .int .i64 fk, .int .i64 fsec, .int .i64 fa, .int .i64 ft, .bool fl, .slice oko okn okc] TOp)) := hW1
      clear hkp hcs hokk hc hB1 hx1 hW1 ho HX hbl
      by_cases k3 : okind = 3
      · subst k3
        go_wp2_with fail
        rw [← HWe.out]
        refine Calls.mono (k_flush HK1.out hi8) ?_
        rintro r W3 ⟨e, rfl, P3, S3, C3, hk3⟩
        have HK3 : Hid (Nx W0 W3 bc bd kb n (i + 1)) := ⟨P3, S3, C3, av, bw, A, hk3⟩
        clear hk3
        go_wp2
        go_roundw
        case rel => exact ⟨i + 1, by omega, by go_num, HK3⟩
        case measure => simp [intOf]; omega
      · by_cases k4 : okind = 4
        · subst k4
          have ll := HOk.out.1.ll
          go_wp2_with fail
          rw [← HWe.out]
          refine Calls.mono (k_through HK1.out hi8 ll HOk.out.2) ?_
          rintro r W3 ⟨e, rfl, P3, S3, C3, hk3⟩
          have HK3 : Hid (Nx W0 W3 bc bd kb n (i + 1)) := ⟨P3, S3, C3, av, bw, A, hk3⟩
          clear hk3
          go_wp2
          go_roundw
          case rel => exact ⟨i + 1, by omega, by go_num, HK3⟩
          case measure => simp [intOf]; omega
        · by_cases k5 : okind = 5
          · subst k5
            go_wp2_with fail
            rw [← HWe.out]
            refine Calls.mono (k_back HK1.out hi8) ?_
            rintro r W3 ⟨z, e, rfl, P3, S3, C3, hk3⟩
            have HK3 : Hid (Nx W0 W3 bc bd kb n (i + 1)) := ⟨P3, S3, C3, av, bw, A, hk3⟩
            clear hk3
            go_wp2
            go_roundw
            case rel => exact ⟨i + 1, by omega, by go_num, HK3⟩
            case measure => simp [intOf]; omega
          · by_cases k12 : okind = 12
            · subst k12
              have hfa := HOk.out.1.fa
              have hft := HOk.out.1.ft
              go_wp2_with fail
              rw [← HWe.out]
              refine Calls.mono (k_fault HK1.out ⟨fk, fsec, fa, ft, fl⟩ hfa hft) ?_
              rintro r W3 ⟨e, rfl, P3, S3, C3, hk3⟩
              have HK3 : Hid (Nx W0 W3 bc bd kb n (i + 1)) := ⟨P3, S3, C3, av, bw, A, hk3⟩
              clear hk3
              go_wp2
              go_roundw
              case rel => exact ⟨i + 1, by omega, by go_num, HK3⟩
              case measure => simp [intOf]; omega
            · by_cases k2 : okind = 2
              · subst k2
                have hfill := HOk.out.1.fill
                obtain ⟨mm, hmm⟩ : ∃ mm, mm = K.blen omore := ⟨_, rfl⟩
                have hmb : 0 < mm ∧ mm ≤ 1023 := by rw [hmm]; unfold K.blen; split <;> omega
                obtain ⟨bl, hbl⟩ : ∃ bl, bl = K.bytesL ofill mm := ⟨_, rfl⟩
                have HL : Hid (mm = bl.length ∧ ∀ x ∈ bl, x < 256) := by rw [hbl]; exact ⟨(K.bytesL_len _ _).symm, K.bytesL_lt _ _⟩
                have HBys : Hid (∀ X : World, Calls Tryz.prog 18 #[.int .u8 ofill, .int .i64 omore] X fun r w' => ∃ v, r = .returned v ∧ w'.ownsRow X.heap.size 5 1 v mm (bl.map bv) ∧ Below X.heap.size X w') := fun X => by
                  have := K.bytes_any X ofill omore hfill
                  rw [← hmm, ← hbl] at this
                  exact this
                have HCl : Hid (∀ W' P' C' av' bw' A', Xo W' wr.heap.size #[.int .i64 2, .int .i64 osec, .int .u8 ofill, .int .i64 omore, .slice olo olist.length olc, .int .i64 fk, .int .i64 fsec, .int .i64 fa, .int .i64 ft, .bool fl, .slice oko okn okc] TOp P' C' kb av' bw' A' → (W'.cell? ⟨wr.heap.size, 1, none⟩ = some (.int .i64 osec) ∧ W'.cell? ⟨wr.heap.size, 2, none⟩ = some (.int .u8 ofill) ∧ W'.cell? ⟨wr.heap.size, 3, none⟩ = some (.int .i64 omore))) := fun W' P' C' av' bw' A' h => ⟨(h.cell 1).trans rfl, (h.cell 2).trans rfl, (h.cell 3).trans rfl⟩
                have HXo' : Hid (Xo W1 wr.heap.size #[.int .i64 2, .int .i64 osec, .int .u8 ofill, .int .i64 omore, .slice olo olist.length olc, .int .i64 fk, .int .i64 fsec, .int .i64 fa, .int .i64 ft, .bool fl, .slice oko okn okc] TOp P C kb av bw A) := HXo.out
                have HP2 : Hid (∀ W3 P3 S3 C3, Kpr W0 W3 bc bd kb n (i + 1) P3 S3 C3 av bw A (fun t => if t = osec.toNat then bl else getB A t) → K.inD n osec = true → bl.length = 512 → Xo W3 wr.heap.size #[.int .i64 2, .int .i64 osec, .int .u8 ofill, .int .i64 omore, .slice olo olist.length olc, .int .i64 fk, .int .i64 fsec, .int .i64 fa, .int .i64 ft, .bool fl, .slice oko okn okc] TOp P3 C3 kb av bw A → (W3.cell? ⟨wr.heap.size, 1, none⟩ = some (.int .i64 osec) ∧ W3.cell? ⟨wr.heap.size, 2, none⟩ = some (.int .u8 ofill) ∧ W3.cell? ⟨wr.heap.size, 3, none⟩ = some (.int .i64 omore)) ∧ (W3.drew.cell? ⟨wr.heap.size, 1, none⟩ = some (.int .i64 osec) ∧ W3.drew.cell? ⟨wr.heap.size, 2, none⟩ = some (.int .u8 ofill) ∧ W3.drew.cell? ⟨wr.heap.size, 3, none⟩ = some (.int .i64 omore)) ∧ Calls Tryz.prog 18 #[.int .u8 ofill, .int .i64 omore] W3.drew fun r W4 => ∃ vo vc, r = .returned (.slice vo 512 vc) ∧ (W4.cell? ⟨wr.heap.size, 1, none⟩ = some (.int .i64 osec) ∧ W4.cell? ⟨wr.heap.size, 2, none⟩ = some (.int .u8 ofill) ∧ W4.cell? ⟨wr.heap.size, 3, none⟩ = some (.int .i64 omore)) ∧ Hid (Calls Tryz.prog 19 #[.pointer (some ⟨kb, 0, none⟩), .int .i64 osec, .slice vo 512 vc] W4 fun r W5 => r = .returned (.tuple #[]) ∧ (W5.cell? ⟨wr.heap.size, 1, none⟩ = some (.int .i64 osec) ∧ W5.cell? ⟨wr.heap.size, 2, none⟩ = some (.int .u8 ofill) ∧ W5.cell? ⟨wr.heap.size, 3, none⟩ = some (.int .i64 omore)) ∧ Hid (Nx W0 W5 bc bd kb n (i + 1)))) := fun W3 P3 S3 C3 hk3 hin h512 hx3 => by
                  have hbd := w_drew W3
                  have hal := HK1.out.al
                  refine ⟨HCl.out _ _ _ _ _ _ hx3, HCl.out _ _ _ _ _ _ (hx3.later hbd), ?_⟩
                  refine (HBys.out W3.drew).mono ?_
                  rintro r W4 ⟨v, rfl, ho4, hb4⟩
                  have hB4 : Below W3.heap.size W3 W4 := hbd.trans (hb4.mono hbd.size)
                  have hk4 := hk3.later hB4
                  have hx4 := hx3.later hB4
                  have hmm2 : mm = 512 := by rw [HL.out.1, h512]
                  rw [hmm2] at ho4
                  obtain ⟨vo, vc, cur, rfl, _⟩ := K.own_form ho4 (by omega)
                  refine ⟨_, _, rfl, HCl.out _ _ _ _ _ _ hx4, ?_⟩
                  have hsz : W0.heap.size ≤ W3.drew.heap.size := hk3.hc.bel.size
                  refine (k_put hk4 (by omega) (by omega) hin hsz ho4).mono ?_
                  rintro r W5 ⟨rfl, av5, bw5, A5, hk5, hkp5⟩
                  have h5 := (hkp5.block _ hx4.lt hx4.xg).trans hx4.xo
                  exact ⟨rfl, ⟨(K.cell_of h5).trans rfl, (K.cell_of h5).trans rfl, (K.cell_of h5).trans rfl⟩, _, _, _, _, _, _, hk5⟩
                have HWA : Hid (∀ W2 v, W2.ownsRow W1.drew.heap.size 5 1 v mm (bl.map bv) → Below W1.drew.heap.size W1.drew W2 → ∃ g2 c2, v = .slice (some ⟨g2, 0, none⟩) mm c2 ∧ (W2.cell? ⟨wr.heap.size, 1, none⟩ = some (.int .i64 osec) ∧ W2.cell? ⟨wr.heap.size, 2, none⟩ = some (.int .u8 ofill) ∧ W2.cell? ⟨wr.heap.size, 3, none⟩ = some (.int .i64 omore)) ∧ Hid (Calls Tryz.prog 17 #[.pointer (some ⟨bc, 0, none⟩), .int .i64 osec, .slice (some ⟨g2, 0, none⟩) mm c2] W2 fun r W3 => ∃ e : Int, r = .returned (.int .i64 e) ∧ (W3.cell? ⟨wr.heap.size, 1, none⟩ = some (.int .i64 osec) ∧ W3.cell? ⟨wr.heap.size, 2, none⟩ = some (.int .u8 ofill) ∧ W3.cell? ⟨wr.heap.size, 3, none⟩ = some (.int .i64 omore)) ∧ Hid ((e ≠ 0 → Nx W0 W3 bc bd kb n (i + 1)) ∧ (e = 0 → ∃ P3 S3 C3, Kpr W0 W3 bc bd kb n (i + 1) P3 S3 C3 av bw A (fun t => if t = osec.toNat then bl else getB A t) ∧ K.inD n osec = true ∧ bl.length = 512 ∧ Xo W3 wr.heap.size #[.int .i64 2, .int .i64 osec, .int .u8 ofill, .int .i64 omore, .slice olo olist.length olc, .int .i64 fk, .int .i64 fsec, .int .i64 fa, .int .i64 ft, .bool fl, .slice oko okn okc] TOp P3 C3 kb av bw A)))) := fun W2 v ho2 hb2 => by
                  obtain ⟨g2, c2, cur2, rfl, _⟩ := K.own_form ho2 hmb.1
                  have hbd := w_drew W1
                  have hB2 : Below W1.heap.size W1 W2 := hbd.trans (hb2.mono hbd.size)
                  have hx2 := HXo'.out.later hB2
                  refine ⟨g2, c2, rfl, HCl.out _ _ _ _ _ _ hx2, ?_⟩
                  refine (k_write (HK1.out.later hB2) hi8 osec HL.out.1 hmb.2 HL.out.2 hmb.1 ho2).mono ?_
                  rintro r W3 ⟨e, rfl, P3, S3, C3, ha3, h1, h2⟩
                  have hx3 := hx2.act ha3
                  exact ⟨e, rfl, HCl.out _ _ _ _ _ _ hx3, fun he => ⟨_, _, _, _, _, _, h1 he⟩, fun he => ⟨P3, S3, C3, (h2 he).2.2, (h2 he).1, (h2 he).2.1, hx3⟩⟩
                have HS1 : Hid ((W1.cell? ⟨wr.heap.size, 1, none⟩ = some (.int .i64 osec) ∧ W1.cell? ⟨wr.heap.size, 2, none⟩ = some (.int .u8 ofill) ∧ W1.cell? ⟨wr.heap.size, 3, none⟩ = some (.int .i64 omore)) ∧ (W1.drew.cell? ⟨wr.heap.size, 1, none⟩ = some (.int .i64 osec) ∧ W1.drew.cell? ⟨wr.heap.size, 2, none⟩ = some (.int .u8 ofill) ∧ W1.drew.cell? ⟨wr.heap.size, 3, none⟩ = some (.int .i64 omore))) := ⟨HCl.out _ _ _ _ _ _ HXo'.out, HCl.out _ _ _ _ _ _ (HXo'.out.later (w_drew W1))⟩
                go_wp2_with fail
                rw [← HWe.out]
                clear hmm hbl hmb q0 q1 q2 q3 q4 q5 q6 q7 q8 q9 q10
                go_region_held3 (fun w' => (w'.cell? ⟨wr.heap.size, 1, none⟩ = some (.int .i64 osec) ∧ w'.cell? ⟨wr.heap.size, 2, none⟩ = some (.int .u8 ofill) ∧ w'.cell? ⟨wr.heap.size, 3, none⟩ = some (.int .i64 omore))) (first | exact HS1.out.1 | exact HS1.out.2 | exact hS2 | exact hS3 | go_keep) (first | (go_at_call 18; refine Calls.mono (HBys.out _) ?_; rintro r W2 ⟨v, rfl, ho2, hb2⟩; obtain ⟨g2, c2, rfl, hS2, HWr⟩ := HWA.out W2 v ho2 hb2; clear ho2 hb2) | (go_at_call 17; refine Calls.mono HWr.out ?_; rintro r W3 ⟨e, rfl, hS3, HE⟩))
                by_cases he : e = 0
                · subst he
                  obtain ⟨P3, S3, C3, hk3, hin, h512, hx3⟩ := HE.out.2 rfl
                  obtain ⟨hT3, hT3d, hby⟩ := HP2.out W3 P3 S3 C3 hk3 hin h512 hx3
                  have HBY : Hid _ := hby
                  clear hk3 hin h512 hx3 hby HE HWr HWA hS3 hS2
                  go_wp2_with fail
                  go_region_held3 (fun w' => (w'.cell? ⟨wr.heap.size, 1, none⟩ = some (.int .i64 osec) ∧ w'.cell? ⟨wr.heap.size, 2, none⟩ = some (.int .u8 ofill) ∧ w'.cell? ⟨wr.heap.size, 3, none⟩ = some (.int .i64 omore))) (first | exact hT3 | exact hT3d | exact hS4 | exact hS5 | go_keep) (first | (go_at_call 18; refine Calls.mono HBY.out ?_; rintro r W4 ⟨vo, vc, rfl, hS4, HPt⟩) | (go_at_call 19; refine Calls.mono HPt.out ?_; rintro r W5 ⟨rfl, hS5, HN5⟩))
                  go_wp2
                  go_roundw
                  case rel => exact ⟨i + 1, by omega, by go_num, HN5⟩
                  case measure => simp [intOf]; omega
                · have HN5 : Hid (Nx W0 W3 bc bd kb n (i + 1)) := HE.out.1 he
                  clear HE HWr HWA hS3 hS2
                  go_wp2
                  go_roundw
                  case rel => exact ⟨i + 1, by omega, by go_num, HN5⟩
                  case measure => simp [intOf]; omega
              · by_cases k1 : okind = 1
                · subst k1
                  have hrd := k_read HK1.out hi8 osec
                  have HRD : Hid _ := hrd
                  clear hrd
                  go_wp2_with fail
                  rw [← HWe.out]
                  refine Calls.mono HRD.out ?_
                  clear HRD q0 q1 q2 q3 q4 q5 q6 q7 q8 q9 q10
                  rintro r W2 ⟨va, vc, bl, e, rfl, ho2, hz, h31, P2, S2, C2, ha2, hk2⟩
                  have HK2 : Hid (Kpr W0 W2 bc bd kb n (i + 1) P2 S2 C2 av bw A (fun t => getB A t)) := hk2
                  have HX2 : Hid (Xo W2 wr.heap.size _ TOp P2 C2 kb av bw A) := HXo.out.act ha2
                  have y1 : W2.cell? ⟨wr.heap.size, 1, none⟩ = some (.int .i64 osec) := (HX2.out.cell 1).trans rfl
                  have HO2 : Hid (W2.ownsRow 0 TB8 1 (.slice va bl.length vc) bl.length (bl.map bv)) := ho2
                  have HZ : Hid ((e = 0 → bl = getB A osec.toNat ∧ K.inD n osec = true) ∧ (K.inD n osec = false → e = 31)) := ⟨hz, h31⟩
                  have HPk : Hid (Calls Tryz.prog 21 #[.pointer (some ⟨bc, 0, none⟩), .int .i64 osec] W2 fun r W3 => ∃ (pa : Option Addr) (pc : Nat) (pl : K.Bl) (z : Int), r = .returned (.tuple #[.slice pa pl.length pc, .int .i64 z]) ∧ W3.cell? ⟨w.heap.size, 0, none⟩ = some (.int .i64 n) ∧ W3.cell? ⟨wr.heap.size, 1, none⟩ = some (.int .i64 osec) ∧ Hid ((K.inD n osec = true → z = 0 ∧ pl = getB A osec.toNat) ∧ (K.inD n osec = false → z = 31) ∧ W3.ownsRow 0 TB8 1 (.slice pa pl.length pc) pl.length (pl.map bv) ∧ W3.ownsRow 0 TB8 1 (.slice va bl.length vc) bl.length (bl.map bv) ∧ Kpr W0 W3 bc bd kb n (i + 1) P2 S2 C2 av bw A (fun t => getB A t))) := by
                    refine (k_peek HK2.out (by omega) osec).mono ?_
                    rintro r W3 ⟨pa, pc, pl, rfl, ho3, hp3, ha3, hk3⟩
                    refine ⟨pa, pc, pl, _, rfl, (HC.out W3 hk3.hc.bel).1, ((HX2.out.act ha3).cell 1).trans rfl, fun hin => ⟨if_pos hin, hp3 hin⟩, fun hin => ?_, ho3, ha3.row HK2.out.hc.rc HO2.out, hk3⟩
                    rw [hin]; rfl
                  clear hk2 ha2 ho2 hz h31
                  go_wp2_with fail
                  refine Calls.mono HPk.out ?_
                  clear HPk y1
                  rintro r W3 ⟨pa, pc, pl, z, rfl, x0, y1, HQ⟩
                  have HG : Hid (∀ W, Below W3.heap.size W3 W → K.inD n osec = true → (W.cell? ⟨wr.heap.size, 1, none⟩ = some (.int .i64 osec)) ∧ (Nx W0 W bc bd kb n (i + 1)) ∧ (bl = getB A osec.toNat → Calls Tryz.prog 23 #[.pointer (some ⟨kb, 0, none⟩), .int .i64 osec] W fun r W' => ∃ vo c, r = .returned (.slice vo 512 c) ∧ Hid (Calls Tryz.prog 22 #[.slice va bl.length vc, .slice vo 512 c] W' fun r W'' => r = .returned (.bool true) ∧ Below W3.heap.size W3 W'')) ∧ (Calls Tryz.prog 23 #[.pointer (some ⟨kb, 0, none⟩), .int .i64 osec] W fun r W' => ∃ vo c, r = .returned (.slice vo 512 c) ∧ Hid (Calls Tryz.prog 22 #[.slice pa pl.length pc, .slice vo 512 c] W' fun r W'' => r = .returned (.bool true) ∧ Below W3.heap.size W3 W''))) := fun W hb hin => by
                    obtain ⟨g1, g2, g3, g4, g5⟩ := HQ.out
                    have hk := g5.later hb
                    refine ⟨cell_later hb y1, ⟨_, _, _, _, _, _, hk⟩, fun hbl => ?_, ?_⟩
                    · refine (k_get hk (by omega) hin hbl (K.ownsRow_block g4 (fun g hg => hb.block g (K.row_lt g4 g hg).1))).mono ?_
                      rintro r W' ⟨vo, c, rfl, _, hsm⟩
                      refine ⟨vo, c, rfl, hsm.out.mono ?_⟩
                      rintro r W'' ⟨rfl, hb'⟩
                      exact ⟨rfl, hb.trans (hb'.mono hb.size)⟩
                    · refine (k_get hk (by omega) hin (g1 hin).2 (K.ownsRow_block g3 (fun g hg => hb.block g (K.row_lt g3 g hg).1))).mono ?_
                      rintro r W' ⟨vo, c, rfl, _, hsm⟩
                      refine ⟨vo, c, rfl, hsm.out.mono ?_⟩
                      rintro r W'' ⟨rfl, hb'⟩
                      exact ⟨rfl, hb.trans (hb'.mono hb.size)⟩
                  by_cases hin : K.inD n osec = true
                  · have hz0 := (HQ.out.1 hin).1
                    subst hz0
                    have hin2 : 0 ≤ osec ∧ osec < (n : Int) := by simpa [K.inD] using hin
                    have a1 : decide (osec ≥ 0) = true := decide_eq_true hin2.1
                    have a1' : (0 : Int) ≤ osec := hin2.1
                    have a2 : osec < (n : Int) := hin2.2
                    by_cases he : e = 0
                    · subst he
                      obtain ⟨_, _, hgt, _⟩ := HG.out W3 (Below.refl _ _) hin
                      have HGT : Hid _ := hgt (HZ.out.1 rfl).1
                      clear hgt
                      go_wp2_with fail
                      refine Calls.mono HGT.out ?_
                      clear HGT
                      rintro r W4 ⟨vo, c4, rfl, HSM⟩
                      go_wp2_with fail
                      refine Calls.mono HSM.out ?_
                      clear HSM
                      rintro r W5 ⟨rfl, hb5⟩
                      obtain ⟨y5, _, _, hg2⟩ := HG.out W5 hb5 hin
                      have HG2 : Hid _ := hg2
                      clear hg2 hb5
                      go_wp2_with fail
                      refine Calls.mono HG2.out ?_
                      clear HG2
                      rintro r W6 ⟨vo6, c6, rfl, HSM⟩
                      go_wp2_with fail
                      refine Calls.mono HSM.out ?_
                      clear HSM
                      rintro r W7 ⟨rfl, hb7⟩
                      have HN7 : Hid (Nx W0 W7 bc bd kb n (i + 1)) := (HG.out W7 hb7 hin).2.1
                      clear hb7
                      go_wp2
                      go_roundw
                      case rel => exact ⟨i + 1, by omega, by go_num, HN7⟩
                      case measure => simp [intOf]; omega
                    · obtain ⟨_, _, _, hg2⟩ := HG.out W3 (Below.refl _ _) hin
                      have HG2 : Hid _ := hg2
                      clear hg2
                      go_wp2_with fail
                      refine Calls.mono HG2.out ?_
                      clear HG2
                      rintro r W6 ⟨vo6, c6, rfl, HSM⟩
                      go_wp2_with fail
                      refine Calls.mono HSM.out ?_
                      clear HSM
                      rintro r W7 ⟨rfl, hb7⟩
                      have HN7 : Hid (Nx W0 W7 bc bd kb n (i + 1)) := (HG.out W7 hb7 hin).2.1
                      clear hb7
                      go_wp2
                      go_roundw
                      case rel => exact ⟨i + 1, by omega, by go_num, HN7⟩
                      case measure => simp [intOf]; omega
                  · have hin' : K.inD n osec = false := by simpa using hin
                    have hz0 := HQ.out.2.1 hin'
                    have he0 := HZ.out.2 hin'
                    subst hz0
                    subst he0
                    have HN7 : Hid (Nx W0 W3 bc bd kb n (i + 1)) := ⟨_, _, _, _, _, _, HQ.out.2.2.2.2⟩
                    by_cases a1 : (0 : Int) ≤ osec
                    · have a2 : ¬ osec < (n : Int) := fun h => hin (by simp [K.inD]; exact ⟨a1, h⟩)
                      go_wp2
                      go_roundw
                      case rel => exact ⟨i + 1, by omega, by go_num, HN7⟩
                      case measure => simp [intOf]; omega
                    · have a1' : decide (osec ≥ 0) = false := decide_eq_false a1
                      go_wp2
                      go_roundw
                      case rel => exact ⟨i + 1, by omega, by go_num, HN7⟩
                      case measure => simp [intOf]; omega
                · by_cases k6 : okind = 6
                  · subst k6
                    have hrd := k_read HK1.out hi8 osec
                    have HRD : Hid _ := hrd
                    clear hrd
                    go_wp2_with fail
                    rw [← HWe.out]
                    refine Calls.mono HRD.out ?_
                    clear HRD q0 q1 q2 q3 q4 q5 q6 q7 q8 q9 q10
                    rintro r W2 ⟨va, vc, bl, e, rfl, ho2, hz, h31, P2, S2, C2, ha2, hk2⟩
                    have HK2 : Hid (Kpr W0 W2 bc bd kb n (i + 1) P2 S2 C2 av bw A (fun t => getB A t)) := hk2
                    have HX2 : Hid (Xo W2 wr.heap.size _ TOp P2 C2 kb av bw A) := HXo.out.act ha2
                    have y1 : W2.cell? ⟨wr.heap.size, 1, none⟩ = some (.int .i64 osec) := (HX2.out.cell 1).trans rfl
                    have HO2 : Hid (W2.ownsRow 0 TB8 1 (.slice va bl.length vc) bl.length (bl.map bv)) := ho2
                    have HZ : Hid ((e = 0 → bl = getB A osec.toNat ∧ K.inD n osec = true) ∧ (K.inD n osec = false → e = 31)) := ⟨hz, h31⟩
                    have HPk : Hid (Calls Tryz.prog 21 #[.pointer (some ⟨bc, 0, none⟩), .int .i64 osec] W2 fun r W3 => ∃ (pa : Option Addr) (pc : Nat) (pl : K.Bl) (z : Int), r = .returned (.tuple #[.slice pa pl.length pc, .int .i64 z]) ∧ W3.cell? ⟨w.heap.size, 0, none⟩ = some (.int .i64 n) ∧ W3.cell? ⟨wr.heap.size, 1, none⟩ = some (.int .i64 osec) ∧ Hid ((K.inD n osec = true → z = 0 ∧ pl = getB A osec.toNat) ∧ (K.inD n osec = false → z = 31) ∧ W3.ownsRow 0 TB8 1 (.slice pa pl.length pc) pl.length (pl.map bv) ∧ W3.ownsRow 0 TB8 1 (.slice va bl.length vc) bl.length (bl.map bv) ∧ Kpr W0 W3 bc bd kb n (i + 1) P2 S2 C2 av bw A (fun t => getB A t))) := by
                      refine (k_peek HK2.out (by omega) osec).mono ?_
                      rintro r W3 ⟨pa, pc, pl, rfl, ho3, hp3, ha3, hk3⟩
                      refine ⟨pa, pc, pl, _, rfl, (HC.out W3 hk3.hc.bel).1, ((HX2.out.act ha3).cell 1).trans rfl, fun hin => ⟨if_pos hin, hp3 hin⟩, fun hin => ?_, ho3, ha3.row HK2.out.hc.rc HO2.out, hk3⟩
                      rw [hin]; rfl
                    clear hk2 ha2 ho2 hz h31
                    go_wp2_with fail
                    refine Calls.mono HPk.out ?_
                    clear HPk y1
                    rintro r W3 ⟨pa, pc, pl, z, rfl, x0, y1, HQ⟩
                    have HG : Hid (∀ W, Below W3.heap.size W3 W → K.inD n osec = true → (W.cell? ⟨wr.heap.size, 1, none⟩ = some (.int .i64 osec)) ∧ (Nx W0 W bc bd kb n (i + 1)) ∧ (bl = getB A osec.toNat → Calls Tryz.prog 23 #[.pointer (some ⟨kb, 0, none⟩), .int .i64 osec] W fun r W' => ∃ vo c, r = .returned (.slice vo 512 c) ∧ Hid (Calls Tryz.prog 22 #[.slice va bl.length vc, .slice vo 512 c] W' fun r W'' => r = .returned (.bool true) ∧ Below W3.heap.size W3 W'')) ∧ (Calls Tryz.prog 23 #[.pointer (some ⟨kb, 0, none⟩), .int .i64 osec] W fun r W' => ∃ vo c, r = .returned (.slice vo 512 c) ∧ Hid (Calls Tryz.prog 22 #[.slice pa pl.length pc, .slice vo 512 c] W' fun r W'' => r = .returned (.bool true) ∧ Below W3.heap.size W3 W''))) := fun W hb hin => by
                      obtain ⟨g1, g2, g3, g4, g5⟩ := HQ.out
                      have hk := g5.later hb
                      refine ⟨cell_later hb y1, ⟨_, _, _, _, _, _, hk⟩, fun hbl => ?_, ?_⟩
                      · refine (k_get hk (by omega) hin hbl (K.ownsRow_block g4 (fun g hg => hb.block g (K.row_lt g4 g hg).1))).mono ?_
                        rintro r W' ⟨vo, c, rfl, _, hsm⟩
                        refine ⟨vo, c, rfl, hsm.out.mono ?_⟩
                        rintro r W'' ⟨rfl, hb'⟩
                        exact ⟨rfl, hb.trans (hb'.mono hb.size)⟩
                      · refine (k_get hk (by omega) hin (g1 hin).2 (K.ownsRow_block g3 (fun g hg => hb.block g (K.row_lt g3 g hg).1))).mono ?_
                        rintro r W' ⟨vo, c, rfl, _, hsm⟩
                        refine ⟨vo, c, rfl, hsm.out.mono ?_⟩
                        rintro r W'' ⟨rfl, hb'⟩
                        exact ⟨rfl, hb.trans (hb'.mono hb.size)⟩
                    by_cases hin : K.inD n osec = true
                    · have hz0 := (HQ.out.1 hin).1
                      subst hz0
                      have hin2 : 0 ≤ osec ∧ osec < (n : Int) := by simpa [K.inD] using hin
                      have a1 : decide (osec ≥ 0) = true := decide_eq_true hin2.1
                      have a1' : (0 : Int) ≤ osec := hin2.1
                      have a2 : osec < (n : Int) := hin2.2
                      by_cases he : e = 0
                      · subst he
                        obtain ⟨_, _, hgt, _⟩ := HG.out W3 (Below.refl _ _) hin
                        have HGT : Hid _ := hgt (HZ.out.1 rfl).1
                        clear hgt
                        go_wp2_with fail
                        refine Calls.mono HGT.out ?_
                        clear HGT
                        rintro r W4 ⟨vo, c4, rfl, HSM⟩
                        go_wp2_with fail
                        refine Calls.mono HSM.out ?_
                        clear HSM
                        rintro r W5 ⟨rfl, hb5⟩
                        obtain ⟨y5, _, _, hg2⟩ := HG.out W5 hb5 hin
                        have HG2 : Hid _ := hg2
                        clear hg2 hb5
                        go_wp2_with fail
                        refine Calls.mono HG2.out ?_
                        clear HG2
                        rintro r W6 ⟨vo6, c6, rfl, HSM⟩
                        go_wp2_with fail
                        refine Calls.mono HSM.out ?_
                        clear HSM
                        rintro r W7 ⟨rfl, hb7⟩
                        have HN7 : Hid (Nx W0 W7 bc bd kb n (i + 1)) := (HG.out W7 hb7 hin).2.1
                        clear hb7
                        go_wp2
                        go_roundw
                        case rel => exact ⟨i + 1, by omega, by go_num, HN7⟩
                        case measure => simp [intOf]; omega
                      · obtain ⟨_, _, _, hg2⟩ := HG.out W3 (Below.refl _ _) hin
                        have HG2 : Hid _ := hg2
                        clear hg2
                        go_wp2_with fail
                        refine Calls.mono HG2.out ?_
                        clear HG2
                        rintro r W6 ⟨vo6, c6, rfl, HSM⟩
                        go_wp2_with fail
                        refine Calls.mono HSM.out ?_
                        clear HSM
                        rintro r W7 ⟨rfl, hb7⟩
                        have HN7 : Hid (Nx W0 W7 bc bd kb n (i + 1)) := (HG.out W7 hb7 hin).2.1
                        clear hb7
                        go_wp2
                        go_roundw
                        case rel => exact ⟨i + 1, by omega, by go_num, HN7⟩
                        case measure => simp [intOf]; omega
                    · have hin' : K.inD n osec = false := by simpa using hin
                      have hz0 := HQ.out.2.1 hin'
                      have he0 := HZ.out.2 hin'
                      subst hz0
                      subst he0
                      have HN7 : Hid (Nx W0 W3 bc bd kb n (i + 1)) := ⟨_, _, _, _, _, _, HQ.out.2.2.2.2⟩
                      by_cases a1 : (0 : Int) ≤ osec
                      · have a2 : ¬ osec < (n : Int) := fun h => hin (by simp [K.inD]; exact ⟨a1, h⟩)
                        go_wp2
                        go_roundw
                        case rel => exact ⟨i + 1, by omega, by go_num, HN7⟩
                        case measure => simp [intOf]; omega
                      · have a1' : decide (osec ≥ 0) = false := decide_eq_false a1
                        go_wp2
                        go_roundw
                        case rel => exact ⟨i + 1, by omega, by go_num, HN7⟩
                        case measure => simp [intOf]; omega
                  · have HK3 : Hid (Nx W0 W1 bc bd kb n (i + 1)) := ⟨P, S, C, av, bw, A, HK1.out.more⟩
                    go_wp2
                    rw [← HWe.out]
                    go_roundw
                    case rel => exact ⟨i + 1, by omega, by go_num, HK3⟩
                    case measure => simp [intOf]; omega
    · have hnl : ¬ (i : Int) < (m : Int) := by omega
      obtain ⟨P, S, C, av, bw, A, hkp⟩ := HX.out
      have HFin : Hid (Below w.heap.size w wr) := HF.out wr hkp.hc.bel
      clear hkp
      go_wp2
      go_ret
      exact ⟨rfl, HFin.out⟩
end Go.Proofs.YtijimcjmpeakpaaGreat.C

namespace Go.Proofs.YtijimcjmpeakpaaGreat.cacheKeeps
open Go.ChangeShapes Go.WideShapes Go.ChangeAt Go.RowKit
open Go.Deep
set_option linter.unusedVariables false

theorem walk {w : World} {n k : Int} {v : Value} {l : List (Int × Int)} (hv : C.ArgS w v l) (hl : l.length ≤ 1048576) (hw : ∀ p ∈ l, C.I64 p.1 ∧ C.I64 p.2) (so : Option Addr) (m cap : Nat) (os : List C.Opc) (hm : m = os.length) (hm8 : 8 * m ≤ 1048576) (hr : C.OcRow w so os) (hok : ∀ o ∈ os, C.OpcOk w o) :
    Calls Tryz.prog 5 #[.agg #[.int .i64 n, .int .i64 k, v], .slice so m cap] w fun r w' => r = .returned (.bool true) ∧ Below w.heap.size w w' := by
  cases hf : C.fitB n k l with
  | false => exact C.lawKeeps_no w n k hv hl hw hf so m cap
  | true =>
    obtain ⟨t, rfl⟩ : ∃ t : Nat, n = t := ⟨n.toNat, by unfold C.fitB at hf; have := of_decide_eq_true hf; omega⟩
    exact C.lawKeeps_yes w t k hv hl hw hf so m cap os hm hm8 hr hok
set_option maxRecDepth 100000 in
theorem contract (H : Type) (enc : TypeId × Value → H) (W : World) (base : Nat) (args : Array Value) (ds gs : List (DataW H)) (before : List MemPlace)
    (hval : ∀ (j : Nat) t v, Tryz.f5.params[j]? = some t → args[j]? = some v → Value.okWide Tryz.prog W .any base t v)
    (hW : DataW.Whole enc Tryz.prog Tryz.f5.params.toList Rows.cacheKeepsSpec.vars false W args.toList ds gs before) (hk : Rows.uptoSmall H (ds ++ gs) = true) :
    Calls Tryz.prog 5 args W fun e W' => ∃ v, e = .returned v ∧ Rows.cacheKeepsSpec.post enc Tryz.prog Tryz.f5 false true false false W args v W' := by
  have hW' := hW
  obtain ⟨p, q, hA0, hV, rfl, hfz, hnd⟩ := hW
  have hA : DataW.TrodAll enc Tryz.prog W 0 (fun _ => true) true Tryz.f5.params.toList args.toList ds p := hA0
  rw [Tryz.params5] at hA hval
  obtain ⟨v0, vs0, d0, ds0, p0, q0, hargs, rfl, rfl, h0, r0⟩ := trodAll_cons hA
  obtain ⟨v1, vs1, d1, ds1, p1, q1, rfl, rfl, rfl, h1, r1⟩ := trodAll_cons r0
  obtain ⟨rfl, rfl, rfl⟩ := trodAll_nil r1
  obtain rfl : args = #[v0, v1] := by cases args; simp_all
  obtain ⟨rfl, rfl⟩ := trodVars_none hV
  obtain ⟨cs, rfl, _⟩ := okWide_struct Tryz.underlying42 (hval 0 42 v0 rfl rfl)
  obtain ⟨ao, len0, cap0, rfl⟩ := okWide_slice Tryz.underlying72 (hval 1 72 v1 rfl rfl)
  have k0 := h0
  have k1 := h1
  have lt0 : ∀ x ∈ p0, x.block < W.heap.size := by obtain ⟨m, hm⟩ := k0; exact DataW.trod_lt m _ _ _ hm
  have lt1 : ∀ x ∈ p1, x.block < W.heap.size := by obtain ⟨m, hm⟩ := k1; exact DataW.trod_lt m _ _ _ hm
  have hbd := bulk_bound hk
  simp only [Rows.uptoBulkAll, List.append_nil] at hbd
  have hwalk : Calls Tryz.prog 5 #[.agg cs, .slice ao len0 cap0] W fun e w' => e = .returned (.bool true) ∧ Below W.heap.size W w' := by
    obtain ⟨f0, hf0⟩ := h0
    obtain ⟨n, k, v, l, e1, g1, g2, g3⟩ := C.open_setup hf0
    have e3 : cs = #[.int .i64 n, .int .i64 k, v] := by
      cases cs; simpa [Value.cells] using e1
    rw [e3]
    obtain ⟨f1, hf1⟩ := h1
    obtain ⟨os, t1, t2, t3, t4⟩ := C.open_opcs hf1 (by omega)
    exact walk g1 (by omega) g2 ao len0 cap0 os t1 t4 t2 t3
  clear hA0
  refine hwalk.mono fun e W' ⟨he, bel⟩ => ?_
  subst he
  exact ⟨_, rfl, _, _, _, [], _, [], hW', trodAll_mk1 (shut_bool Tryz.underlying4 _), trodAll_cons_mk (Below.trod C.laidOut (by kernel_rfl) (of_decide_eq_true (by kernel_rfl)) k0 bel lt0) (trodAll_cons_mk (Below.trod C.laidOut (by kernel_rfl) (of_decide_eq_true (by kernel_rfl)) k1 bel lt1) trodAll_mk0), rfl, bel.frame _, fun h => by cases h⟩

set_option maxRecDepth 100000 in
theorem lifted (os : Os) (started : os.Started) (H : Type) (enc : TypeId × Value → H) (F : Stop.Interp) :
    ReturnsInHanded {} Tryz.checked os 5 .any ((Rows.OpenSpec.upto Rows.cacheKeepsSpec).pre6 enc Tryz.prog Tryz.f5 Rows.cacheKeepsUptoRow.domain false) (((Rows.OpenSpec.upto Rows.cacheKeepsSpec).at F).post enc Tryz.prog Tryz.f5 false true false false) := by
  refine returnsInHanded_of_cond (C := Tryz.checked) (s := Rows.OpenSpec.upto Rows.cacheKeepsSpec) (k := Rows.uptoSmall) rfl C.own started (by kernel_rfl) Tryz.func5
    (OpenSpec.witness (enc := enc) (C := Tryz.checked) (s := Rows.OpenSpec.upto Rows.cacheKeepsSpec) (k := Rows.uptoSmall) rfl false ⟨#[], #[.agg #[.int .i64 0, .int .i64 0, .slice none 0 0], .slice none 0 0], []⟩ 8 (by kernel_rfl) (by kernel_rfl) (by kernel_rfl)
      (x := ([.agg [.lit (.int .i64 0), .lit (.int .i64 0), .nil], .nil], [], [])) (by kernel_rfl) rfl (by kernel_rfl)) ?_
  intro W base args ds gs before hval hW _ hk _
  exact contract H enc W base args ds gs before hval hW hk
end Go.Proofs.YtijimcjmpeakpaaGreat.cacheKeeps
namespace Go.Proofs.YtijimcjmpeakpaaGreat
theorem cacheKeeps_proved : Rows.CacheKeepsUptoSaid :=
  OpenClaim.holds_of_cond 5 Tryz.f5 rfl rfl rfl rfl rfl rfl rfl ⟨rfl, rfl, rfl, rfl, rfl⟩ rfl rfl rfl rfl rfl (by kernel_rfl) Tryz.func5 (by kernel_rfl)
    (of_decide_eq_true (by kernel_rfl)) (by unfold Func.isWrapper; first | (rw [if_pos (by decide +kernel)]; kernel_rfl) | (rw [if_neg (by decide +kernel)]; exact ⟨rfl, rfl⟩))
    (fun os started H enc _ F => cacheKeeps.lifted os started H enc F)
#print axioms cacheKeeps_proved
end Go.Proofs.YtijimcjmpeakpaaGreat
