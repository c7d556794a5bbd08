import Derived.Test.YtbamjfnjenmdaaaGreatzCZso
namespace Go.Proofs.YtbamjfnjenmdaaaGreat.C
open Go.RowKit Go.Maps Go.Shelf Go.Proofs.YtbamjfnjenmdaaaGreat
set_option linter.unusedVariables false
set_option linter.unusedSimpArgs false
set_option maxRecDepth 100000

/-- a line knows whether it is a note's -/
def Nt (C : Ch) : Prop := ∀ l ∈ C.L, l.note = isN C.notes l.sec
/-- nothing becomes safe, and what is written is data -/
def QD (N : Nat → Bool) (S S' : K.Dk) : Prop := S'.safe = S.safe ∧ ∀ p ∈ S'.q, p ∈ S.q ∨ N p.1 = false
theorem QD.refl (N : Nat → Bool) (S : K.Dk) : QD N S S := ⟨rfl, fun p hp => .inl hp⟩
theorem QD.trans {N : Nat → Bool} {S S1 S2 : K.Dk} (h : QD N S S1) (k : QD N S1 S2) : QD N S S2 := ⟨k.1.trans h.1, fun p hp => (k.2 p hp).elim (h.2 p) .inr⟩
theorem QD.same {N : Nat → Bool} {S S1 S2 : K.Dk} (h : QD N S S1) (h1 : S2.safe = S1.safe) (h2 : S2.q = S1.q) : QD N S S2 := ⟨h1.trans h.1, fun p hp => h.2 p (by rw [← h2]; exact hp)⟩
/-- what a call leaves of the order: nothing became safe and no note was written; or no note waits; or the data that are safe are what they were when it was called -/
def Ord (N : Nat → Bool) (S : K.Dk) (C : Ch) (S' : K.Dk) : Prop := QD N S S' ∨ (∀ p ∈ S'.q, N p.1 = false) ∨ (∀ x, N x = false → S'.safe x = seen S C x)
theorem Ord.same {N : Nat → Bool} {S S1 S2 : K.Dk} {C : Ch} (h : Ord N S C S1) (h1 : S2.safe = S1.safe) (h2 : S2.q = S1.q) : Ord N S C S2 := by
  rcases h with h | h | h
  · exact .inl (h.same h1 h2)
  · exact .inr (.inl (by rw [h2]; exact h))
  · exact .inr (.inr (by rw [h1]; exact h))
theorem wr_q (S : K.Dk) (s : Nat) (l : K.Bl) : (K.wrS S s l).safe = S.safe ∧ ((K.wrS S s l).q = S.q ∨ (K.wrS S s l).q = S.q ++ [(s, l)]) := by
  unfold K.wrS
  split
  · split
    · split
      · split
        · exact ⟨by simp [K.pushS, failS_safe], .inr (by simp [K.pushS, failS_q])⟩
        · exact ⟨failS_safe _ _ _, .inl (failS_q _ _ _)⟩
      · exact ⟨by simp [K.wrote, failS_safe], .inr (by simp [K.wrote, failS_q])⟩
    · exact ⟨rfl, .inl rfl⟩
  · exact ⟨rfl, .inl rfl⟩
theorem ba_q (S : K.Dk) : (K.baE S = 0 ∧ (K.baS S).q = []) ∨ (K.baE S ≠ 0 ∧ (K.baS S).q = S.q ∧ (K.baS S).safe = S.safe) := by
  unfold K.baE K.baS
  split
  · exact .inr ⟨by decide, failS_q _ _ _, failS_safe _ _ _⟩
  · exact .inl ⟨rfl, rfl⟩
theorem look_empty {S : K.Dk} (h : S.q = []) (x : Nat) : K.look S x = S.safe x := by
  unfold K.look
  rw [h]
  rfl
/-- a line of a kind is written back -/
theorem wb_q (S : K.Dk) (C : Ch) (s : Nat) : (wbS S C s).safe = S.safe ∧ ∀ p ∈ (wbS S C s).q, p ∈ S.q ∨ p.1 = s := by
  unfold wbS
  split
  · rename_i l hl
    have hs : l.sec = s := by have := (lineAt_mem hl).2; omega
    obtain ⟨h1, h2⟩ := wr_q S l.sec l.dat
    refine ⟨h1, fun p hp => ?_⟩
    rcases h2 with h2 | h2
    · rw [h2] at hp; exact .inl hp
    · rw [h2] at hp
      rcases List.mem_append.1 hp with hp | hp
      · exact .inl hp
      · simp at hp; rw [hp]; exact .inr hs
  · exact ⟨rfl, fun p hp => .inl hp⟩
theorem wb_data {N : Nat → Bool} (S : K.Dk) (C : Ch) {s : Nat} (h : N s = false) : QD N S (wbS S C s) := by
  obtain ⟨h1, h2⟩ := wb_q S C s
  exact ⟨h1, fun p hp => (h2 p hp).imp id (fun e => by rw [e]; exact h)⟩
theorem backs_q (M : Nat → Prop) : ∀ (ks : List Int) (S : K.Dk) (C : Ch), (secs C.L).Nodup → Dirt ks C → (∀ t : Nat, (t : Int) ∈ ks → M t) → (backs ks S C).2.1.safe = S.safe ∧ ∀ p ∈ (backs ks S C).2.1.q, p ∈ S.q ∨ M p.1
  | [], S, C, _, _, _ => ⟨rfl, fun p hp => .inl hp⟩
  | s :: ks, S, C, hsd, hd, hM => by
    rw [backs_cons]
    obtain ⟨l, hl, rfl, hdy⟩ := hd.has s (by simp)
    obtain ⟨h1, h2⟩ := wb_q S C l.sec
    have hm := hM l.sec (by simp)
    split
    · rename_i he
      obtain ⟨g1, g2⟩ := backs_q M ks (wbS S C l.sec) (wbC S C l.sec) (by rw [secs_wbC]; exact hsd) (dirt_next hsd hd he).1 (fun t ht => hM t (by simp [ht]))
      refine ⟨g1.trans h1, fun p hp => ?_⟩
      rcases g2 p hp with h | h
      · rcases h2 p h with h | h
        · exact .inl h
        · exact .inr (by rw [h]; exact hm)
      · exact .inr h
    · refine ⟨h1, fun p hp => ?_⟩
      rcases h2 p hp with h | h
      · exact .inl h
      · exact .inr (by rw [h]; exact hm)
/-- what settle leaves: the queue is empty, or nothing became safe -/
theorem settle_q (M : Nat → Prop) {ks : List Int} {S : K.Dk} {C : Ch} (hsd : (secs C.L).Nodup) (hd : Dirt ks C) (hM : ∀ t : Nat, (t : Int) ∈ ks → M t) : ((settleR ks S C).1 = 0 ∧ (settleR ks S C).2.1.q = []) ∨ ((settleR ks S C).1 ≠ 0 ∧ (settleR ks S C).2.1.safe = S.safe ∧ ∀ p ∈ (settleR ks S C).2.1.q, p ∈ S.q ∨ M p.1) := by
  obtain ⟨h1, h2⟩ := backs_q M ks S C hsd hd hM
  unfold settleR
  by_cases h0 : (backs ks S C).1 = 0
  · rw [if_pos h0]
    rcases ba_q (backs ks S C).2.1 with ⟨e, hq⟩ | ⟨e, hq, hs⟩
    · exact .inl ⟨if_pos e, hq⟩
    · refine .inr ⟨by simp only; rw [if_neg e]; decide, hs.trans h1, fun p hp => ?_⟩
      simp only at hp
      rw [hq] at hp
      exact h2 p hp
  · rw [if_neg h0]
    exact .inr ⟨h0, h1, h2⟩
/-- behind the data the queue is empty, and what is safe of the data is what they read -/
theorem flush_ord {S : K.Dk} {C : Ch} (g : Good S C) (nt : Nt C) : Ord (fun x => isN C.notes x) S C (flushR S C).2.1 ∧ ((flushR S C).1 = 0 → (flushR S C).2.1.q = []) := by
  have hdd := dirt_dl (p := isData) g.nd
  have hMd : ∀ t : Nat, (t : Int) ∈ dlL isData C.L → isN C.notes t = false := fun t ht => by
    obtain ⟨l, hl, e⟩ := List.mem_map.1 ((sortI_perm _).mem_iff.1 ht)
    obtain ⟨h1, h2⟩ := List.mem_filter.1 hl
    have h3 := nt l h1
    simp only [Bool.and_eq_true, isData] at h2
    rw [← e, ← h3]
    simpa using h2.2
  have hq1 := settle_q (fun x => isN C.notes x = false) (S := S) g.nd hdd hMd
  have hs1 := settle_sees g hdd
  obtain ⟨k1, c1⟩ := settle_ok (S := S) g.nd hdd
  have hmn := settle_most (dlL isData C.L) S C
  unfold flushR
  generalize hr : settleR (dlL isData C.L) S C = r at *
  obtain ⟨e, S1, C1⟩ := r
  simp only at *
  by_cases h0 : e = 0
  · rw [if_pos h0]
    have hq : S1.q = [] := by
      rcases hq1 with h | h
      · exact h.2
      · exact absurd h0 h.1
    have hnt1 : ∀ l ∈ C1.L, l.dirty = true → l.note = true := fun l hl hdy => by
      cases hn : l.note with
      | true => rfl
      | false => exact absurd (mem_dl (k1.old l hl hdy) hdy (show isData l = true by simp [isData, hn])) (c1 h0 l hl hdy)
    have hsafe : ∀ x : Nat, isN C.notes x = false → S1.safe x = seen S C x := fun x hx => by
      rw [← hs1.eq x]
      unfold seen
      cases hl : lineAt C1.L x with
      | none => exact (look_empty hq x).symm
      | some l =>
        simp only
        obtain ⟨hlm, hls⟩ := lineAt_mem hl
        have hsec : l.sec = x := by omega
        cases hdy : l.dirty with
        | false => rw [hs1.good.cl l hlm hdy, hsec, look_empty hq]
        | true =>
          have h1 := hnt1 l hlm hdy
          have h2 := nt l (k1.old l hlm hdy)
          rw [h1, hls] at h2
          rw [hx] at h2
          cases h2
    by_cases hz : (dlL isNoted C1.L).length = 0
    · rw [if_pos hz]
      exact ⟨.inr (.inr hsafe), fun _ => hq⟩
    · rw [if_neg hz]
      have hMn : ∀ t : Nat, (t : Int) ∈ dlL isNoted C1.L → isN C.notes t = true := fun t ht => by
        obtain ⟨l, hl, e⟩ := List.mem_map.1 ((sortI_perm _).mem_iff.1 ht)
        obtain ⟨h1, h2⟩ := List.mem_filter.1 hl
        simp only [Bool.and_eq_true, isNoted] at h2
        have h3 := nt l (k1.old l h1 h2.1)
        rw [← e, ← h3]
        exact h2.2
      have hdn := dirt_dl (p := isNoted) hs1.good.nd
      obtain ⟨b1, b2⟩ := backs_q (fun x => isN C.notes x = true) (dlL isNoted C1.L) S1 C1 hs1.good.nd hdn hMn
      have hlk : ∀ x : Nat, isN C.notes x = false → K.look (backs (dlL isNoted C1.L) S1 C1).2.1 x = S1.safe x := fun x hx => by
        unfold K.look
        cases hl : K.lastQ x (backs (dlL isNoted C1.L) S1 C1).2.1.q with
        | none => rw [b1]; rfl
        | some bl =>
          obtain ⟨i, hi, _⟩ := K.lastQ_some hl
          have := b2 _ (List.mem_of_getElem? hi)
          rw [hq] at this
          simp at this
          rw [hx] at this
          cases this
      refine ⟨.inr (.inr fun x hx => ?_), fun h1 => ?_⟩
      · rw [← hsafe x hx]
        unfold settleR
        by_cases hb0 : (backs (dlL isNoted C1.L) S1 C1).1 = 0
        · rw [if_pos hb0]
          rcases ba_q (backs (dlL isNoted C1.L) S1 C1).2.1 with ⟨_, hq2⟩ | ⟨_, _, hs2⟩
          · rw [← look_empty hq2, look_ba]
            exact hlk x hx
          · simp only
            rw [hs2, b1]
        · rw [if_neg hb0, b1]
      · rcases settle_q (fun x => isN C.notes x = true) (S := S1) hs1.good.nd hdn hMn with h | h
        · exact h.2
        · exact absurd h1 h.1
  · rw [if_neg h0]
    refine ⟨.inl ?_, fun h => absurd h h0⟩
    rcases hq1 with h | h
    · exact absurd h.1 h0
    · exact ⟨h.2.1, h.2.2⟩
theorem gw_ord {S : K.Dk} {C : Ch} (nt : Nt C) {l : Ln} (hl : l ∈ C.L) (hm : mayGo l = true) : QD (fun x => isN C.notes x) S (gwR S C l).2.1 := by
  have key : l.dirty = true → QD (fun x => isN C.notes x) S (K.wrS S l.sec l.dat) := fun hd => by
    have hn : isN C.notes l.sec = false := by
      rw [← nt l hl]
      unfold mayGo at hm
      rw [hd] at hm
      simpa using hm
    obtain ⟨h1, h2⟩ := wr_q S l.sec l.dat
    refine ⟨h1, fun p hp => ?_⟩
    rcases h2 with h2 | h2
    · rw [h2] at hp; exact .inl hp
    · rw [h2] at hp
      rcases List.mem_append.1 hp with hp | hp
      · exact .inl hp
      · simp at hp; rw [hp]; exact .inr hn
  unfold gwR
  by_cases hd : l.dirty = true
  · rw [if_pos hd]
    split <;> exact key hd
  · rw [if_neg hd]
    exact QD.refl _ _
theorem room_ord {S : K.Dk} {C : Ch} (g : Good S C) (nt : Nt C) : Ord (fun x => isN C.notes x) S C (roomR S C).2.1 := by
  unfold roomR
  split
  · exact .inl (QD.refl _ _)
  · split
    · rename_i l hf
      obtain ⟨h1, h2⟩ := find_mem hf
      exact .inl (gw_ord nt h1 h2)
    · obtain ⟨ho, _⟩ := flush_ord g nt
      split
      · rename_i h0
        have hcl := (flush_ok (S := S) g.nd).2 h0
        split
        · rename_i l hf
          obtain ⟨h1, _⟩ := find_mem hf
          have hd := hcl l h1
          have e : (gwR (flushR S C).2.1 (flushR S C).2.2 l).2.1 = (flushR S C).2.1 := by unfold gwR; rw [if_neg (by rw [hd]; decide)]
          rw [e]
          exact ho
        · exact ho
      · exact ho
theorem rd_q (S : K.Dk) (s : Int) : (K.rdS S s).safe = S.safe ∧ (K.rdS S s).q = S.q := by
  refine ⟨?_, K.rdS_q S s⟩
  unfold K.rdS
  split
  · split
    · exact failS_safe _ _ _
    · simp [K.readS, failS_safe]
  · rfl
theorem read_ord {S : K.Dk} {C : Ch} (g : Good S C) (nt : Nt C) (s : Int) (b : Nat) : Ord (fun x => isN C.notes x) S C (readR S C s b).2.2.1 := by
  have g1 : Sees S C S (missC C) := g.disk (fun _ => rfl) rfl
  have hr : Ord (fun x => isN C.notes x) S C (roomR S (missC C)).2.1 := room_ord (C := missC C) g1.good nt
  unfold readR
  split
  · split
    · exact .inl (QD.refl _ _)
    · split
      · split
        · exact hr.same (rd_q _ _).1 (rd_q _ _).2
        · exact hr.same (rd_q _ _).1 (rd_q _ _).2
      · exact hr
  · exact .inl (QD.refl _ _)
theorem write_ord {S : K.Dk} {C : Ch} (g : Good S C) (nt : Nt C) (s : Int) (bs : K.Bl) (b : Nat) : Ord (fun x => isN C.notes x) S C (writeR S C s bs b).2.1 := by
  have g1 : Sees S C S (missC C) := g.disk (fun _ => rfl) rfl
  have hr : Ord (fun x => isN C.notes x) S C (roomR S (missC C)).2.1 := room_ord (C := missC C) g1.good nt
  unfold writeR
  split
  · split
    · split
      · exact .inl (QD.refl _ _)
      · split
        · exact hr
        · exact hr
    · exact .inl (QD.refl _ _)
  · exact .inl (QD.refl _ _)
theorem back_ord {S : K.Dk} {C : Ch} (nt : Nt C) : Ord (fun x => isN C.notes x) S C (backR S C).2.2.1 := by
  unfold backR
  cases hf : C.L.find? dirtyData with
  | none => exact .inl (QD.refl _ _)
  | some l =>
    simp only
    obtain ⟨h1, h2⟩ := find_mem hf
    have hn : isN C.notes l.sec = false := by
      rw [← nt l h1]
      unfold dirtyData at h2
      simp at h2
      exact h2.2
    have := wb_data (N := fun x => isN C.notes x) S C (s := l.sec) hn
    split <;> exact .inl this
theorem through_ord {S : K.Dk} {C : Ch} (g : Good S C) (nt : Nt C) (ks : List Int) : Ord (fun x => isN C.notes x) S C (throughR S C ks).2.1 := by
  unfold throughR
  split
  · split
    · exact (flush_ord g nt).1
    · rename_i hno
      have hM : ∀ t : Nat, (t : Int) ∈ Lib.compact (sortI (ks.filter (dirtyAt C.L))) → isN C.notes t = false := fun t ht => by
        have h1 := (sortI_perm _).mem_iff.1 ((compact_ok (sortI_sorted (ks.filter (dirtyAt C.L)))).2.1 _ ht)
        have h2 : noteAt C.L t = false := by
          cases hn : noteAt C.L t with
          | false => rfl
          | true => exact absurd (List.any_eq_true.2 ⟨_, h1, hn⟩) hno
        obtain ⟨l, hl, e, _⟩ := (dirt_thr (C := C) ks).has t ht
        have h3 := at_line g.nd hl
        rw [e] at h3
        unfold noteAt at h2
        rw [h3] at h2
        simp only at h2
        rw [← e, ← nt l hl]
        exact h2
      rcases settle_q (fun x => isN C.notes x = false) (S := S) g.nd (dirt_thr (C := C) ks) hM with h | h
      · exact .inr (.inl (by rw [h.2]; intro p hp; cases hp))
      · exact .inl ⟨h.2.1, h.2.2⟩
  · exact .inl (QD.refl _ _)
end Go.Proofs.YtbamjfnjenmdaaaGreat.C
