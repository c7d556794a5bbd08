import Derived.Test.YtbamjfnjenmdaaaGreatzCPx
namespace Go.Proofs.YtbamjfnjenmdaaaGreat.C
open Go.RowKit Go.Maps Go.Shelf Go.Proofs.YtbamjfnjenmdaaaGreat
set_option linter.unusedVariables false
set_option linter.unusedSimpArgs false
set_option maxRecDepth 100000

/-- what a sector reads, through the cache -/
def seen (S : K.Dk) (C : Ch) (s : Nat) : K.Bl := match lineAt C.L s with
  | some l => l.dat
  | none => K.look S s
/-- a clean line has what the disk reads -/
structure Good (S : K.Dk) (C : Ch) : Prop where
  nd : (secs C.L).Nodup
  cl : ∀ l ∈ C.L, l.dirty = false → l.dat = K.look S l.sec
structure Sees (S : K.Dk) (C : Ch) (S' : K.Dk) (C' : Ch) : Prop where
  good : Good S' C'
  eq : ∀ s : Nat, seen S' C' s = seen S C s
theorem Sees.refl {S : K.Dk} {C : Ch} (h : Good S C) : Sees S C S C := ⟨h, fun _ => rfl⟩
theorem Sees.trans {S S1 S2 : K.Dk} {C C1 C2 : Ch} (h : Sees S C S1 C1) (k : Sees S1 C1 S2 C2) : Sees S C S2 C2 := ⟨k.good, fun s => (k.eq s).trans (h.eq s)⟩
theorem look_push (S : K.Dk) (s : Nat) (l : K.Bl) (S' : K.Dk) (hq : S'.q = S.q ++ [(s, l)]) (hs : S'.safe = S.safe) (t : Nat) : K.look S' t = if t = s then l else K.look S t := by
  unfold K.look
  rw [hq, hs, K.lastQ_snoc]
  by_cases e : t = s
  · rw [if_pos e, if_pos e.symm]; rfl
  · rw [if_neg e, if_neg (fun h => e h.symm)]
theorem look_same (S S' : K.Dk) (hq : S'.q = S.q) (hs : S'.safe = S.safe) (t : Nat) : K.look S' t = K.look S t := by
  unfold K.look
  rw [hq, hs]
theorem failS_safe (S : K.Dk) (k s : Int) : (K.failS S k s).safe = S.safe := by unfold K.failS; split <;> rfl
theorem failS_q (S : K.Dk) (k s : Int) : (K.failS S k s).q = S.q := by unfold K.failS; split <;> rfl
/-- a write changes what one sector reads, or nothing at all -/
theorem look_wr (S : K.Dk) (s : Nat) (l : K.Bl) : ((∀ t, K.look (K.wrS S s l) t = K.look S t) ∧ K.wrE S s l ≠ 0) ∨ (∀ t, K.look (K.wrS S s l) t = if t = s then l else K.look S t) := by
  unfold K.wrS K.wrE
  by_cases h1 : K.inD S.n s = true
  · rw [if_pos h1, if_pos h1]
    by_cases h2 : l.length = 512
    · rw [if_pos h2, if_pos h2]
      by_cases h3 : K.hitF S.fs 2 s = true
      · rw [if_pos h3, if_pos h3]
        by_cases h4 : K.landF S.fs 2 s = true
        · rw [if_pos h4]
          exact .inr (look_push S s l _ (by simp [K.pushS, failS_q]) (by simp [K.pushS, failS_safe]))
        · rw [if_neg h4]
          exact .inl ⟨look_same S _ (failS_q _ _ _) (failS_safe _ _ _), by decide⟩
      · rw [if_neg h3, if_neg h3]
        exact .inr (look_push S s l _ (by simp [K.wrote, failS_q]) (by simp [K.wrote, failS_safe]))
    · rw [if_neg h2, if_neg h2]
      exact .inl ⟨fun _ => rfl, by decide⟩
  · rw [if_neg h1, if_neg h1]
    exact .inl ⟨fun _ => rfl, by decide⟩
theorem lay_all (q : List K.Pu) (f : Nat → K.Bl) (s : Nat) : ∀ n, K.layTo (fun _ => true) q f n s = (K.lastQ s (q.take n)).getD (f s)
  | 0 => by simp [K.layTo, K.lastQ]
  | n + 1 => by
    have ih := lay_all q f s n
    unfold K.layTo
    rw [List.take_add_one]
    cases hq : q[n]? with
    | none => simp; exact ih
    | some x =>
      simp only [if_true, Option.toList_some]
      rw [K.lastQ_snoc]
      simp only [K.upd]
      by_cases e : s = x.1
      · rw [if_pos e, if_pos e.symm]; rfl
      · rw [if_neg e, if_neg (fun h => e h.symm)]; exact ih
theorem look_ba (S : K.Dk) (t : Nat) : K.look (K.baS S) t = K.look S t := by
  unfold K.baS
  split
  · exact look_same _ _ (failS_q _ _ _) (failS_safe _ _ _) t
  · rw [← look_same S (K.failS S 3 (-1)) (failS_q _ _ _) (failS_safe _ _ _) t]
    generalize K.failS S 3 (-1) = T
    unfold K.look
    simp only [K.barred, K.settled]
    rw [lay_all, List.take_length]
    simp [K.lastQ]
theorem look_rd (S : K.Dk) (s : Int) (t : Nat) : K.look (K.rdS S s) t = K.look S t := by
  unfold K.rdS
  split
  · split
    · exact look_same _ _ (failS_q _ _ _) (failS_safe _ _ _) t
    · exact look_same _ _ (by simp [K.readS, failS_q]) (by simp [K.readS, failS_safe]) t
  · rfl
theorem look_fa (S : K.Dk) (f : K.Flt) (t : Nat) : K.look (K.faS S f) t = K.look S t := by
  unfold K.faS
  split
  · exact look_same _ _ rfl rfl t
  · rfl
/-- another disk that reads the same -/
theorem Good.disk {S S' : K.Dk} {C C' : Ch} (h : Good S C) (hl : ∀ t, K.look S' t = K.look S t) (hL : C'.L = C.L) : Sees S C S' C' := by
  refine ⟨⟨by rw [hL]; exact h.nd, fun l hm hd => ?_⟩, fun s => ?_⟩
  · rw [hL] at hm
    rw [hl]; exact h.cl l hm hd
  · unfold seen
    rw [hL]
    split
    · rfl
    · exact hl s
theorem lineAt_clean (L : List Ln) (s t : Int) : lineAt (cleanL L s) t = (lineAt L t).map fun x => if (x.sec : Int) = s then cleaned x else x := by
  induction L with
  | nil => rfl
  | cons x L ih =>
    unfold cleanL at ih ⊢
    rw [List.map_cons]
    unfold lineAt
    have e : (((if (x.sec : Int) = s then cleaned x else x) : Ln).sec : Int) = x.sec := by split <;> rfl
    rw [e]
    by_cases h : (x.sec : Int) = t
    · rw [if_pos h, if_pos h]; rfl
    · rw [if_neg h, if_neg h]; exact ih
theorem lineAt_append (A B : List Ln) (t : Int) : lineAt (A ++ B) t = (lineAt A t).or (lineAt B t) := by
  induction A with
  | nil => simp [lineAt]
  | cons x A ih =>
    show (if (x.sec : Int) = t then some x else lineAt (A ++ B) t) = (if (x.sec : Int) = t then some x else lineAt A t).or (lineAt B t)
    by_cases h : (x.sec : Int) = t
    · rw [if_pos h, if_pos h]; rfl
    · rw [if_neg h, if_neg h]; exact ih
theorem lineAt_drop (L : List Ln) (s t : Int) : lineAt (dropL L s) t = if t = s then none else lineAt L t := by
  induction L with
  | nil => simp [dropL, lineAt]
  | cons x L ih =>
    unfold dropL at ih ⊢
    rw [List.filter_cons]
    by_cases h : (x.sec : Int) = s
    · rw [if_neg (by simp [h])]
      rw [ih]
      by_cases ht : t = s
      · rw [if_pos ht, if_pos ht]
      · rw [if_neg ht, if_neg ht]
        conv => rhs; unfold lineAt
        rw [if_neg (fun e => ht (by omega))]
    · rw [if_pos (by simp [h])]
      by_cases ht : t = s
      · rw [if_pos ht] at ih ⊢
        unfold lineAt
        rw [if_neg (by omega)]
        exact ih
      · rw [if_neg ht] at ih ⊢
        unfold lineAt
        rw [ih]
theorem same_line {L : List Ln} (hd : (secs L).Nodup) {x l : Ln} (hx : x ∈ L) (hl : l ∈ L) (e : x.sec = l.sec) : x = l := by
  have h1 := at_line hd hx
  have h2 := at_line hd hl
  rw [e, h2] at h1
  cases h1
  rfl
/-- a line is written back -/
theorem wb_sees {S : K.Dk} {C : Ch} (g : Good S C) {l : Ln} (hl : l ∈ C.L) (hd : l.dirty = true) : Sees S C (wbS S C l.sec) (wbC S C l.sec) := by
  have ha := at_line g.nd hl
  unfold wbS wbC
  rw [ha]
  simp only
  rcases look_wr S l.sec l.dat with ⟨h1, h2⟩ | h1
  · rw [if_neg h2]
    exact g.disk h1 rfl
  · by_cases h2 : K.wrE S l.sec l.dat = 0
    · rw [if_pos h2]
      refine ⟨⟨by show (secs (cleanL C.L l.sec)).Nodup; rw [secs_cleanL]; exact g.nd, fun x hx hxd => ?_⟩, fun t => ?_⟩
      · obtain ⟨y, hy, e⟩ := List.mem_map.1 hx
        by_cases hys : (y.sec : Int) = l.sec
        · rw [if_pos hys] at e
          have := same_line g.nd hy hl (by omega)
          subst this
          subst e
          rw [h1]
          exact (if_pos rfl).symm
        · rw [if_neg hys] at e
          subst e
          rw [h1, if_neg (by omega)]
          exact g.cl y hy hxd
      · unfold seen
        simp only
        rw [lineAt_clean]
        cases hat : lineAt C.L t with
        | none =>
          simp only [Option.map_none]
          rw [h1, if_neg]
          rintro rfl
          rw [ha] at hat
          cases hat
        | some x =>
          simp only [Option.map_some]
          split <;> rfl
    · rw [if_neg h2]
      refine ⟨⟨g.nd, fun x hx hxd => ?_⟩, fun t => ?_⟩
      · rw [h1, if_neg]
        · exact g.cl x hx hxd
        · intro e
          have := same_line g.nd hx hl e
          subst this
          rw [hd] at hxd
          cases hxd
      · unfold seen
        cases hat : lineAt C.L t with
        | none =>
          simp only
          rw [h1, if_neg]
          rintro rfl
          rw [ha] at hat
          cases hat
        | some x => rfl
theorem backs_sees : ∀ (ks : List Int) (S : K.Dk) (C : Ch), Good S C → Dirt ks C → Sees S C (backs ks S C).2.1 (backs ks S C).2.2
  | [], S, C, g, _ => Sees.refl g
  | s :: ks, S, C, g, hd => by
    rw [backs_cons]
    obtain ⟨l, hl, rfl, hdy⟩ := hd.has s (by simp)
    have hw := wb_sees g hl hdy
    split
    · rename_i he
      exact hw.trans (backs_sees ks _ _ hw.good (dirt_next g.nd hd he).1)
    · exact hw
theorem settle_sees {ks : List Int} {S : K.Dk} {C : Ch} (g : Good S C) (hd : Dirt ks C) : Sees S C (settleR ks S C).2.1 (settleR ks S C).2.2 := by
  have h := backs_sees ks S C g hd
  unfold settleR
  split
  · exact h.trans (h.good.disk (look_ba _) rfl)
  · exact h
theorem flush_sees {S : K.Dk} {C : Ch} (g : Good S C) : Sees S C (flushR S C).2.1 (flushR S C).2.2 := by
  have h := settle_sees g (dirt_dl (p := isData) g.nd)
  unfold flushR
  split
  · split
    · exact h
    · exact h.trans (settle_sees h.good (dirt_dl (p := isNoted) h.good.nd))
  · exact h
theorem secs_drop (L : List Ln) (s : Int) (h : (secs L).Nodup) : (secs (dropL L s)).Nodup := (List.filter_sublist.map _).nodup h
/-- a line gives way, the disk has its bytes -/
theorem drop_sees {S S' : K.Dk} {C C' : Ch} (g : Good S C) {l : Ln} (hl : l ∈ C.L) (h1 : ∀ t, K.look S' t = if t = l.sec then l.dat else K.look S t) (hL : C'.L = dropL C.L l.sec) : Sees S C S' C' := by
  refine ⟨⟨by rw [hL]; exact secs_drop _ _ g.nd, fun x hx hxd => ?_⟩, fun t => ?_⟩
  · rw [hL] at hx
    obtain ⟨hx1, hx2⟩ := List.mem_filter.1 hx
    have hx3 : (x.sec : Int) ≠ l.sec := by simpa using hx2
    rw [h1, if_neg (by omega)]
    exact g.cl x hx1 hxd
  · unfold seen
    rw [hL, lineAt_drop]
    by_cases e : t = l.sec
    · subst e
      rw [if_pos rfl, at_line g.nd hl]
      simp only
      rw [h1, if_pos rfl]
    · rw [if_neg (by omega)]
      cases lineAt C.L t with
      | some x => rfl
      | none => simp only; rw [h1, if_neg e]
theorem gw_sees {S : K.Dk} {C : Ch} (g : Good S C) {l : Ln} (hl : l ∈ C.L) : Sees S C (gwR S C l).2.1 (gwR S C l).2.2 := by
  unfold gwR
  by_cases hd : l.dirty = true
  · rw [if_pos hd]
    have hw := wb_sees g hl hd
    unfold wbS wbC at hw
    rw [at_line g.nd hl] at hw
    simp only at hw
    by_cases h0 : K.wrE S l.sec l.dat = 0
    · rw [if_pos h0]
      rcases look_wr S l.sec l.dat with ⟨_, h2⟩ | h1
      · exact absurd h0 h2
      · exact drop_sees g hl h1 rfl
    · rw [if_neg h0] at hw ⊢
      exact hw
  · rw [if_neg hd]
    have hd' : l.dirty = false := by simpa using hd
    refine drop_sees g hl (fun t => ?_) rfl
    by_cases e : t = l.sec
    · rw [if_pos e, e, g.cl l hl hd']
    · rw [if_neg e]
theorem room_sees {S : K.Dk} {C : Ch} (g : Good S C) : Sees S C (roomR S C).2.1 (roomR S C).2.2 := by
  unfold roomR
  split
  · exact Sees.refl g
  · split
    · rename_i l hf
      exact gw_sees g (find_mem hf).1
    · have hw := flush_sees g
      split
      · split
        · rename_i l hf
          exact hw.trans (gw_sees hw.good (find_mem hf).1)
        · exact hw
      · exact hw
/-- a line goes to the end, perhaps with other bytes -/
theorem end_at (L : List Ln) (s : Nat) (l : Ln) (hl : l.sec = s) (t : Nat) : lineAt (dropL L s ++ [l]) t = if t = s then some l else lineAt L t := by
  rw [lineAt_append, lineAt_drop]
  by_cases e : t = s
  · subst e
    rw [if_pos rfl, if_pos rfl]
    simp [lineAt, hl]
  · rw [if_neg e, if_neg (by omega)]
    have : lineAt [l] (t : Int) = none := by
      unfold lineAt
      rw [if_neg (by omega)]
      rfl
    rw [this]
    simp
theorem secs_end (L : List Ln) (s : Nat) (l : Ln) (hl : l.sec = s) (h : (secs L).Nodup) : (secs (dropL L s ++ [l])).Nodup := by
  unfold secs
  rw [List.map_append, List.nodup_append]
  refine ⟨secs_drop _ _ h, by simp, fun a ha b hb => ?_⟩
  simp at hb
  subst hb
  obtain ⟨x, hx, rfl⟩ := List.mem_map.1 ha
  have := (List.mem_filter.1 hx).2
  intro e
  simp at this
  omega
theorem drop_none {L : List Ln} {s : Int} (h : lineAt L s = none) : dropL L s = L := List.filter_eq_self.2 fun x hx => by simpa using lineAt_none h x hx
theorem use_sees {S : K.Dk} {C : Ch} (g : Good S C) (s : Nat) : Sees S C S (useC C s) := by
  unfold useC
  cases hl : lineAt C.L s with
  | none => exact g.disk (fun _ => rfl) rfl
  | some l =>
    obtain ⟨h1, h2⟩ := lineAt_mem hl
    have hs : l.sec = s := by omega
    refine ⟨⟨secs_end C.L s l hs g.nd, fun x hx hxd => ?_⟩, fun t => ?_⟩
    · refine g.cl x ?_ hxd
      rcases List.mem_append.1 hx with hx | hx
      · exact (List.mem_filter.1 hx).1
      · simp at hx; rw [hx]; exact h1
    · unfold seen
      simp only
      rw [end_at _ _ _ hs]
      by_cases e : t = s
      · subst e; rw [if_pos rfl, hl]
      · rw [if_neg e]
theorem read_sees {S : K.Dk} {C : Ch} (g : Good S C) (s : Int) (b : Nat) (hlen : C.L.length ≤ C.most) (hm1 : 1 ≤ C.most) : Sees S C (readR S C s b).2.2.1 (readR S C s b).2.2.2 ∧ ((readR S C s b).1 = 0 → (readR S C s b).2.1 = seen S C s.toNat ∧ K.inD S.n s = true) := by
  unfold readR
  by_cases hi : K.inD S.n s = true
  · rw [if_pos hi]
    obtain ⟨t, rfl, ht⟩ := inD_nat hi
    rw [Int.toNat_natCast]
    cases hl : lineAt C.L t with
    | some l =>
      simp only
      exact ⟨use_sees g t, fun _ => ⟨by unfold seen; rw [hl], hi⟩⟩
    | none =>
      simp only
      have g1 : Sees S C S (missC C) := g.disk (fun _ => rfl) rfl
      have hr := g1.trans (room_sees g1.good)
      have hh := (room_ok (S := S) (C := missC C) g1.good.nd hlen hm1).1
      have hno := hh.sub t hl
      have hn := hh.n
      generalize roomR S (missC C) = R at *
      obtain ⟨e, S1, C1⟩ := R
      simp only at *
      by_cases he : e = 0
      · rw [if_pos he]
        by_cases hre : K.rdE S1 t = 0
        · rw [if_pos hre]
          have hrl : K.rdL S1 t = K.look S1 t := by
            unfold K.rdE at hre
            unfold K.rdL
            rw [hn, hi] at *
            simp only [if_true] at hre ⊢
            by_cases hh1 : K.hitF S1.fs 1 t = true
            · rw [if_pos hh1] at hre; omega
            · rw [if_neg hh1]; simp
          simp only
          rw [hrl]
          have hd := drop_none hno
          refine ⟨⟨⟨?_, fun x hx hxd => ?_⟩, fun u => ?_⟩, fun _ => ⟨?_, hi⟩⟩
          · have := secs_end C1.L t ⟨t, b, K.look S1 t, false, isN C.notes t⟩ rfl hr.good.nd
            rw [hd] at this
            exact this
          · rw [look_rd]
            rcases List.mem_append.1 hx with hx | hx
            · exact hr.good.cl x hx hxd
            · simp at hx; rw [hx]
          · rw [← hr.eq u]
            have := end_at C1.L t ⟨t, b, K.look S1 t, false, isN C.notes t⟩ rfl u
            rw [hd] at this
            unfold seen
            simp only
            rw [this]
            by_cases e : u = t
            · subst e; rw [if_pos rfl, hno]
            · rw [if_neg e]
              split
              · rfl
              · exact look_rd _ _ _
          · rw [← hr.eq t]
            unfold seen
            rw [hno]
        · rw [if_neg hre]
          exact ⟨hr.trans (hr.good.disk (look_rd _ _) rfl), fun h => by simp at h⟩
      · rw [if_neg he]
        exact ⟨hr, fun h => absurd h he⟩
  · rw [if_neg hi]
    exact ⟨Sees.refl g, fun h => by simp at h⟩
theorem write_sees {S : K.Dk} {C : Ch} (g : Good S C) (s : Int) (bs : K.Bl) (b : Nat) (hlen : C.L.length ≤ C.most) (hm1 : 1 ≤ C.most) : Good (writeR S C s bs b).2.1 (writeR S C s bs b).2.2 ∧ ((writeR S C s bs b).1 ≠ 0 → ∀ t, seen (writeR S C s bs b).2.1 (writeR S C s bs b).2.2 t = seen S C t) ∧ ((writeR S C s bs b).1 = 0 → K.inD S.n s = true ∧ bs.length = 512 ∧ ∀ t, seen (writeR S C s bs b).2.1 (writeR S C s bs b).2.2 t = if t = s.toNat then bs else seen S C t) := by
  have hz : ∀ {A B : K.Dk} {C D : Ch}, Sees A C B D → ∀ {e : Int}, e ≠ 0 → Good B D ∧ (e ≠ 0 → ∀ t, seen B D t = seen A C t) ∧ (e = 0 → K.inD S.n s = true ∧ bs.length = 512 ∧ ∀ t, seen B D t = if t = s.toNat then bs else seen A C t) := fun h _ he => ⟨h.good, fun _ => h.eq, fun h0 => absurd h0 he⟩
  unfold writeR
  by_cases hi : K.inD S.n s = true
  · rw [if_pos hi]
    obtain ⟨t, rfl, ht⟩ := inD_nat hi
    rw [Int.toNat_natCast] at hz ⊢
    by_cases h512 : bs.length = 512
    · rw [if_pos h512]
      have key : ∀ {S1 : K.Dk} {C1 C2 : Ch} {l : Ln}, Sees S C S1 C1 → l.sec = t → l.dat = bs → l.dirty = true → C2.L = dropL C1.L t ++ [l] → Good S1 C2 ∧ K.inD S.n (t : Int) = true ∧ bs.length = 512 ∧ ∀ u, seen S1 C2 u = if u = t then bs else seen S C u := fun {S1 C1 C2 l} hr h1 h2 h3 hL => by
        refine ⟨⟨by rw [hL]; exact secs_end _ _ _ h1 hr.good.nd, fun x hx hxd => ?_⟩, hi, h512, fun u => ?_⟩
        · rw [hL] at hx
          rcases List.mem_append.1 hx with hx | hx
          · exact hr.good.cl x (List.mem_filter.1 hx).1 hxd
          · simp at hx; rw [hx, h3] at hxd; cases hxd
        · rw [← hr.eq u]
          unfold seen
          rw [hL, end_at _ _ _ h1]
          by_cases e : u = t
          · rw [if_pos e, if_pos e]; exact h2
          · rw [if_neg e, if_neg e]
      cases hl : lineAt C.L t with
      | some l =>
        simp only
        have hk := key (C1 := C) (C2 := { hitC C with L := dropL C.L t ++ [{ l with dat := bs, dirty := true }] }) (l := { l with dat := bs, dirty := true }) (Sees.refl g) (by have := (lineAt_mem hl).2; show l.sec = t; omega) rfl rfl rfl
        exact ⟨hk.1, fun h => absurd rfl h, fun _ => hk.2⟩
      | none =>
        simp only
        have g1 : Sees S C S (missC C) := g.disk (fun _ => rfl) rfl
        have hr := g1.trans (room_sees g1.good)
        have hh := (room_ok (S := S) (C := missC C) g1.good.nd hlen hm1).1
        have hno := hh.sub t hl
        generalize roomR S (missC C) = R at *
        obtain ⟨e, S1, C1⟩ := R
        simp only at *
        by_cases he : e = 0
        · rw [if_pos he]
          have hk := key (C1 := C1) (C2 := { C1 with L := C1.L ++ [⟨t, b, bs, true, isN C.notes t⟩] }) (l := ⟨t, b, bs, true, isN C.notes t⟩) hr rfl rfl rfl (by rw [drop_none hno])
          exact ⟨hk.1, fun h => absurd rfl h, fun _ => hk.2⟩
        · rw [if_neg he]
          exact hz hr he
    · rw [if_neg h512]
      exact hz (Sees.refl g) (by simp)
  · rw [if_neg hi]
    exact hz (Sees.refl g) (by simp)
theorem fault_sees {S : K.Dk} {C : Ch} (g : Good S C) (f : K.Flt) : Sees S C (K.faS S f) C := g.disk (look_fa S f) rfl
end Go.Proofs.YtbamjfnjenmdaaaGreat.C

namespace Go.Proofs.YtbamjfnjenmdaaaGreat.C
open Go.RowKit Go.Maps Go.Shelf Go.Proofs.YtbamjfnjenmdaaaGreat
attribute [local go_sem] Oper.semAt_some
set_option linter.unusedVariables false
set_option linter.unusedSimpArgs false
set_option maxRecDepth 100000

/-- is a sector's line dirty? -/
def dirtyAt (L : List Ln) (s : Int) : Bool := match lineAt L s with
  | some l => l.dirty
  | none => false
def safeAt (S : K.Dk) (C : Ch) (s : Int) : Bool := K.inD S.n s && !dirtyAt C.L s && !K.waitsI S.q s
section
variable {w w' : World} {P : Loc} {S S' : K.Dk} {C C' : Ch}
/-- Back -/
def backR (S : K.Dk) (C : Ch) : Int × Int × K.Dk × Ch := match C.L.find? dirtyData with
  | none => (-1, 0, S, C)
  | some l => if wbE S C l.sec = 0 then (l.sec, 0, wbS S C l.sec, wbC S C l.sec) else (-1, 33, wbS S C l.sec, wbC S C l.sec)
set_option maxHeartbeats 2000000 in
theorem back_c (h : RC w P S C) (hf : K.FsOk S.fs) (hq : S.q.length < 1048576) :
    Calls Tryz.prog 15 #[.pointer (some ⟨P.bc, 0, none⟩)] w fun r w' => r = .returned (.tuple #[.int .i64 (backR S C).1, .int .i64 (backR S C).2.1]) ∧ ∃ P', CAct w w' P P' C (backR S C).2.2.1 (backR S C).2.2.2 := by
  have hu := usable_c h
  have hlb := least_back h
  have hmf : ∀ (fn : Fn) (first cap : Array Value) (w : World), (Instr.makeFunc fn first cap).run Tryz.prog w = .ok (.func fn first cap) w := fun _ _ _ _ => rfl
  have HA : Hid (∀ w1, Below w.heap.size w w1 → CAct w w1 P P C S C) := fun w1 hb => (CAct.refl h).later hb
  unfold backR
  cases hfd : C.L.find? dirtyData with
  | none =>
    rw [hfd] at hlb
    simp only [secOf, Option.isSome_none] at hlb ⊢
    have HLB : Hid (Calls Tryz.prog 41 #[.pointer (some ⟨P.bc, 0, none⟩), .func (.func 42) #[] #[]] w fun r w' => r = .returned (.tuple #[.int .i64 0, .bool false]) ∧ Below w.heap.size w w') := hlb
    clear h hf hq hlb hfd
    go_enter Tryz.func15, Tryz.ntmps15
    go_wp2_with (first | (go_at_call 33; refine hu.mono ?_; rintro e w9 ⟨rfl, hw9⟩; rw [hw9]; clear hw9) | (go_at_call 41; refine HLB.out.mono ?_; rintro e w1 ⟨rfl, hb1⟩))
    refine bodyPost_ret (results_tmp2 rfl _ _ _) rfl ?_
    exact ⟨rfl, P, HA.out _ hb1⟩
  | some l =>
    rw [hfd] at hlb
    simp only [secOf, Option.isSome_some] at hlb ⊢
    have hl := (find_mem hfd).1
    have HLB : Hid (Calls Tryz.prog 41 #[.pointer (some ⟨P.bc, 0, none⟩), .func (.func 42) #[] #[]] w fun r w' => r = .returned (.tuple #[.int .i64 l.sec, .bool true]) ∧ Below w.heap.size w w') := hlb
    have HWB : Hid (∀ w1, Below w.heap.size w w1 → Calls Tryz.prog 43 #[.pointer (some ⟨P.bc, 0, none⟩), .int .i64 l.sec] w1 fun r w' => r = .returned (.int .i64 (wbE S C l.sec)) ∧ ∃ P', CAct w w' P P' C (wbS S C l.sec) (wbC S C l.sec)) := fun w1 hb => by
      refine (wb_c (h.later hb) hf hq ⟨l, hl, rfl⟩).mono ?_
      rintro r w' ⟨rfl, P', ha⟩
      exact ⟨rfl, P', ha.from_later hb h.lt⟩
    clear h hf hq hlb hfd hl HA
    rcases wbE_two S C l.sec with he | he
    · rw [if_pos he]
      rw [he] at HWB
      go_enter Tryz.func15, Tryz.ntmps15
      go_wp2_with (first | (go_at_call 33; refine hu.mono ?_; rintro e w9 ⟨rfl, hw9⟩; rw [hw9]; clear hw9) | (go_at_call 41; refine HLB.out.mono ?_; rintro e w1 ⟨rfl, hb1⟩) | (go_at_call 43; refine (HWB.out w1 hb1).mono ?_; rintro e w2 ⟨rfl, ha2⟩))
      refine bodyPost_ret (results_tmp2 rfl _ _ _) rfl ?_
      exact ⟨rfl, ha2⟩
    · rw [if_neg (by omega)]
      rw [he] at HWB
      go_enter Tryz.func15, Tryz.ntmps15
      go_wp2_with (first | (go_at_call 33; refine hu.mono ?_; rintro e w9 ⟨rfl, hw9⟩; rw [hw9]; clear hw9) | (go_at_call 41; refine HLB.out.mono ?_; rintro e w1 ⟨rfl, hb1⟩) | (go_at_call 43; refine (HWB.out w1 hb1).mono ?_; rintro e w2 ⟨rfl, ha2⟩))
      refine bodyPost_ret (results_tmp2 rfl _ _ _) rfl ?_
      exact ⟨rfl, ha2⟩
end
end Go.Proofs.YtbamjfnjenmdaaaGreat.C
