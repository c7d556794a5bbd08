import Derived.Test.YtbamjfnjenmdaaaGreatG36
namespace Go.Proofs.YtbamjfnjenmdaaaGreat.C
open Go.RowKit Go.Maps Go.Shelf Go.Proofs.YtbamjfnjenmdaaaGreat
attribute [local go_sem] Oper.semAt_some
set_option linter.unusedVariables false
set_option linter.unusedSimpArgs false
set_option maxRecDepth 100000

/-- two spans share no sector -/
def Off2 (p q : Int × Int) : Prop := p.1 + p.2 ≤ q.1 ∨ q.1 + q.2 ≤ p.1
/-- the spans lie on the disk, and apart -/
def Apart (n : Nat) (l : List (Int × Int)) : Prop := (∀ p ∈ l, 0 ≤ p.1 ∧ 1 ≤ p.2 ∧ p.1 + p.2 ≤ n) ∧ l.Pairwise Off2
theorem Apart.perm {n : Nat} {l l' : List (Int × Int)} (h : l'.Perm l) : Apart n l' ↔ Apart n l := by
  unfold Apart
  rw [h.pairwise_iff (fun {a b} hab => hab.symm)]
  exact and_congr_left' ⟨fun k p hp => k p (h.mem_iff.2 hp), fun k p hp => k p (h.mem_iff.1 hp)⟩
/-- the walk over the rising spans -/
def chk (n : Int) : List (Int × Int) → Int → Bool
  | [], _ => true
  | p :: l, e => if p.1 < e ∨ p.2 < 1 ∨ n - p.1 < p.2 then false else chk n l (p.1 + p.2)
theorem chk_cons (n : Int) (p : Int × Int) (l : List (Int × Int)) (e : Int) : chk n (p :: l) e = if p.1 < e ∨ p.2 < 1 ∨ n - p.1 < p.2 then false else chk n l (p.1 + p.2) := rfl
theorem chk_iff (n : Nat) : ∀ (l : List (Int × Int)) (e : Int), 0 ≤ e → l.Pairwise (fun p q => p.1 ≤ q.1) → (chk n l e = true ↔ (∀ p ∈ l, e ≤ p.1 ∧ 1 ≤ p.2 ∧ p.1 + p.2 ≤ n) ∧ l.Pairwise Off2)
  | [], e, _, _ => by simp [chk]
  | p :: l, e, he, hs => by
    unfold chk
    obtain ⟨h1, h2⟩ := List.pairwise_cons.1 hs
    by_cases hb : p.1 < e ∨ p.2 < 1 ∨ (n : Int) - p.1 < p.2
    · rw [if_pos hb]
      constructor
      · intro h; cases h
      · rintro ⟨h, _⟩
        have := h p (by simp)
        omega
    · rw [if_neg hb]
      have hp : e ≤ p.1 ∧ 1 ≤ p.2 ∧ p.1 + p.2 ≤ n := by omega
      rw [chk_iff n l (p.1 + p.2) (by omega) h2]
      constructor
      · rintro ⟨ha, hw⟩
        refine ⟨fun q hq => ?_, List.pairwise_cons.2 ⟨fun q hq => .inl (ha q hq).1, hw⟩⟩
        rcases List.mem_cons.1 hq with rfl | hq
        · exact hp
        · have := ha q hq; omega
      · rintro ⟨ha, hw⟩
        obtain ⟨w1, w2⟩ := List.pairwise_cons.1 hw
        refine ⟨fun q hq => ?_, w2⟩
        have := ha q (by simp [hq])
        have h3 := h1 q hq
        rcases w1 q hq with h4 | h4 <;> omega
theorem sortedLo_pw {l : List (Int × Int)} (h : SortedLo l) : l.Pairwise (fun p q => p.1 ≤ q.1) := by
  rw [List.pairwise_iff_getElem]
  intro i j hi hj hij
  exact h i j _ _ (List.getElem?_eq_getElem hi) (List.getElem?_eq_getElem hj) hij
/-- do they lie apart? -/
@[reducible] def off2D : DecidableRel Off2 := fun p q => inferInstanceAs (Decidable (p.1 + p.2 ≤ q.1 ∨ q.1 + q.2 ≤ p.1))
@[reducible] def apartD (n : Nat) (l : List (Int × Int)) : Decidable (Apart n l) := by
  unfold Apart
  haveI := off2D
  exact inferInstance
def apartB (n : Nat) (l : List (Int × Int)) : Bool := @decide (Apart n l) (apartD n l)
theorem apartB_iff {n : Nat} {l : List (Int × Int)} : apartB n l = true ↔ Apart n l := by unfold apartB; simp
theorem chk_sorted {n : Nat} {l l' : List (Int × Int)} (hp : l'.Perm l) (hs : SortedLo l') : chk n l' 0 = apartB n l := by
  have h1 := chk_iff n l' 0 (by omega) (sortedLo_pw hs)
  have h2 : chk n l' 0 = true ↔ apartB n l = true := by rw [h1, apartB_iff]; exact Apart.perm hp
  cases ha : chk n l' 0 <;> cases hb : apartB n l <;> simp_all
set_option maxHeartbeats 4000000 in
theorem lieApart_c {w : World} {cap n : Nat} {ao : Option Addr} {l : List (Int × Int)} (hr : SpR w ao l) (hl : l.length ≤ 1048576) (hn : n ≤ 65536) (hw : ∀ p ∈ l, I64 p.1 ∧ I64 p.2) :
    Calls Tryz.prog 49 #[.slice ao l.length cap, .int .i64 n] w fun r w' => r = .returned (.bool (apartB n l)) ∧ Below w.heap.size w w' := by
  have hv := values_c w ao l.length cap
  have HS : Hid (Calls Tryz.prog 67 #[.func (.func 105) #[] #[.pointer (some ⟨w.heap.size, 0, none⟩)], .func (.func 69) #[] #[]] (w.alloc (.cells #[.slice ao l.length cap] TSps)) fun r w' => ∃ ao' cap' l', r = .returned (.slice ao' l.length cap') ∧ l'.Perm l ∧ SortedLo l' ∧ SpR w' ao' l' ∧ Below w.heap.size w w') := by
    have hb : Below w.heap.size w (w.alloc (.cells #[.slice ao l.length cap] TSps)) := (Below.refl _ w).alloc (Nat.le_refl _) _
    refine (sorted_c (bx := w.heap.size) (cap := cap) (ao := ao) (l := l) (by simp) (hr.later hb) hl).mono ?_
    rintro r w' ⟨ao', cap', l', rfl, hp, hs, hsp, hb'⟩
    exact ⟨ao', cap', l', rfl, hp, hs, hsp, hb.trans (hb'.mono hb.size)⟩
  clear hr
  go_enter Tryz.func49, Tryz.ntmps49
  go_wp2_with (first | (go_at_call 68; refine hv.mono ?_; clear hv; rintro r w9 ⟨rfl, hw9⟩; rw [hw9]; clear hw9) | (go_at_call 67; refine HS.out.mono ?_; clear HS; rintro r w1 ⟨ao', cap', l', rfl, hp, hs, hsp, hb1⟩))
  have HC : Hid (chk n l' 0 = apartB n l) := chk_sorted hp hs
  have HSP : Hid (SpR w1 ao' l') := hsp
  have HB1 : Hid (Below w.heap.size w w1) := hb1
  obtain ⟨m, hm⟩ : ∃ m, m = l.length := ⟨_, rfl⟩
  have HM : Hid (m = l'.length) := by show _ = _; rw [hm, hp.length_eq]
  have HW : Hid (∀ p ∈ l', I64 p.1 ∧ I64 p.2) := fun p hp' => hw p (hp.mem_iff.1 hp')
  rw [← hm] at hl ⊢
  clear hp hs hsp hb1 hm hw
  go_loopw [6, 14] (fun e i wr => ∃ (k : Nat) (z : Int), k ≤ m ∧ i = .int .i64 k ∧ e = .int .i64 z ∧ 0 ≤ z ∧ z ≤ 65536 ∧ Hid (chk n l' 0 = chk n (l'.drop k) z) ∧ Hid (Below w1.heap.size w1 wr)) (fun _ i _ => m - (intOf i).toNat)
  case atStart => exact ⟨0, 0, Nat.zero_le _, rfl, rfl, by omega, by omega, rfl, Below.refl _ _⟩
  case round =>
    obtain ⟨k, z, hk, rfl, rfl, hz0, hz1, HK, HB⟩ := hrel
    by_cases hlt : k < m
    · have hkz : (k : Int) < (m : Int) := by omega
      obtain ⟨p, hp⟩ : ∃ p, l'[k]? = some p := ⟨_, List.getElem?_eq_getElem (by have := HM.out; omega)⟩
      obtain ⟨g, off, rfl, _, d0, d1⟩ := HSP.out k p hp
      have e0 := cell_later HB.out d0
      have e1 := cell_later HB.out d1
      have hdr : l'.drop k = p :: l'.drop (k + 1) := by
        have hk' : k < l'.length := by have := HM.out; omega
        rw [List.drop_eq_getElem_cons hk']
        congr 1
        rw [List.getElem?_eq_getElem hk'] at hp
        simpa using hp
      have hki := HK.out
      rw [hdr] at hki
      rw [chk_cons] at hki
      have hpw := HW.out p (List.mem_of_getElem? hp)
      obtain ⟨p1, p2⟩ := p
      simp only at e0 e1 hki hpw
      have HB2 : Hid (Below w1.heap.size w1 (wr.alloc (.cells #[.int .i64 p1, .int .i64 p2] TSp))) := HB.out.alloc HB.out.size _
      clear hp hdr d0 d1 HK
      have HKI : Hid (chk n l' 0 = if p1 < z ∨ p2 < 1 ∨ (n : Int) - p1 < p2 then false else chk n (l'.drop (k + 1)) (p1 + p2)) := hki
      clear hki
      by_cases h1 : p1 < z
      · have b1 : decide (p1 < z) = true := decide_eq_true h1
        have hfin : apartB n l = false := by rw [← HC.out, HKI.out, if_pos (.inl h1)]
        go_wp2
        go_ret
        exact ⟨by first | rfl | (rw [hfin]; rfl), HB1.out.trans (HB2.out.mono HB1.out.size)⟩
      · have b1 : decide (p1 < z) = false := decide_eq_false h1
        by_cases h2 : p2 < 1
        · have b2 : decide (p2 < 1) = true := decide_eq_true h2
          have hfin : apartB n l = false := by rw [← HC.out, HKI.out, if_pos (.inr (.inl h2))]
          go_wp2
          go_ret
          exact ⟨by first | rfl | (rw [hfin]; rfl), HB1.out.trans (HB2.out.mono HB1.out.size)⟩
        · have b2 : decide (p2 < 1) = false := decide_eq_false h2
          have hwr : IntKind.i64.wrap ((n : Int) - p1) = (n : Int) - p1 := by rw [IntKind.wrap_i64]; omega
          by_cases h3 : (n : Int) - p1 < p2
          · have b3 : decide (p2 > (n : Int) - p1) = true := decide_eq_true h3
            have hfin : apartB n l = false := by rw [← HC.out, HKI.out, if_pos (.inr (.inr h3))]
            go_wp2
            go_ret
            exact ⟨by first | rfl | (rw [hfin]; rfl), HB1.out.trans (HB2.out.mono HB1.out.size)⟩
          · have b3 : decide (p2 > (n : Int) - p1) = false := decide_eq_false h3
            have hw2 : IntKind.i64.wrap (p1 + p2) = p1 + p2 := by rw [IntKind.wrap_i64]; omega
            have HK2 : Hid (chk n l' 0 = chk n (l'.drop (k + 1)) (p1 + p2)) := by show _ = _; rw [HKI.out, if_neg (by omega)]
            clear HKI
            go_wp2
            go_roundw
            case rel => exact ⟨k + 1, p1 + p2, by omega, by go_num, by go_num, by omega, by omega, HK2, HB2⟩
            case measure => simp [intOf]; omega
    · have hkz : ¬ (k : Int) < (m : Int) := by omega
      have hfin : apartB n l = true := by
        rw [← HC.out, HK.out, List.drop_of_length_le (by have := HM.out; omega)]; rfl
      go_wp2
      go_ret
      exact ⟨by first | rfl | (rw [hfin]; rfl), HB1.out.trans (HB.out.mono HB1.out.size)⟩
/-- a copy of the spans -/
theorem cloneS_c {w : World} {cap : Nat} {ao : Option Addr} {l : List (Int × Int)} (hr : SpR w ao l) (hl : l.length ≤ 1048576) (hao : ao = none → l = []) (hau : ∀ a, ao = some a → ∃ b off, a = ⟨b, off, none⟩) :
    Calls Tryz.prog 50 #[.slice ao l.length cap] w fun r w' => ∃ v, r = .returned v ∧ w'.ownsRow w.heap.size TSp 2 v l.length (spcells l) ∧ Below w.heap.size w w' := by
  obtain ⟨i0, hi, hz0, hz1, hz2⟩ := info_parts infoSp
  cases ao with
  | none =>
    have hz := hao rfl
    subst hz
    refine (AnyE.slices_Clone_nil Tryz.cloneS _ cap w).mono ?_
    rintro r w' ⟨rfl, rfl⟩
    exact ⟨_, rfl, World.ownsRow_nil _ _ _ _, Below.refl _ _⟩
  | some a =>
    obtain ⟨b, off, rfl⟩ := hau a rfl
    have hlen : (spcells l).length = l.length * 2 := by
      clear hr hl hao hau
      induction l with
      | nil => rfl
      | cons p t ih => simp [spcells, spcell] at ih ⊢; omega
    have := AnyE.slices_Clone Tryz.cloneS i0 _ 2 16 hi hz0 hz1 hz2 rfl (by decide) Tryz.sizeOf66 b off l.length cap (spcells l) w hlen (by unfold maxLen; omega) (by omega) (fun j u hu => by
      have hj := (List.getElem?_eq_some_iff.1 hu).1
      obtain ⟨p, hp⟩ : ∃ p, l[j / 2]? = some p := ⟨_, List.getElem?_eq_getElem (by omega)⟩
      obtain ⟨g, off', e, _, c0, c1⟩ := hr (j / 2) p hp
      cases e
      obtain ⟨s0, s1⟩ := spcells_get l (j / 2) p hp
      rcases Nat.mod_two_eq_zero_or_one j with h0 | h0
      · have ej : j = j / 2 * 2 := by omega
        rw [ej] at hu ⊢
        rw [s0] at hu
        cases hu
        exact c0
      · have ej : j = j / 2 * 2 + 1 := by omega
        rw [ej] at hu ⊢
        rw [s1] at hu
        cases hu
        rw [← Nat.add_assoc]
        exact c1) (fun u hu => by
      simp only [spcells, List.mem_flatMap, spcell] at hu
      obtain ⟨p, _, hp⟩ := hu
      simp at hp
      rcases hp with rfl | rfl <;> rfl)
    change Calls Tryz.prog 50 _ _ _ at this
    refine this.mono ?_
    rintro r w' ⟨v, rfl, ho, _, hb⟩
    exact ⟨v, rfl, ho, hb⟩
end Go.Proofs.YtbamjfnjenmdaaaGreat.C
