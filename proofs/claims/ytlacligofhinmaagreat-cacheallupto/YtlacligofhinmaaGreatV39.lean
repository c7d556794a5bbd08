import Derived.Test.YtlacligofhinmaaGreatV38
import Derived.Test.YtlacligofhinmaaGreatV28
namespace Go.Proofs.YtlacligofhinmaaGreat.C
open Go.RowKit Go.Maps Go.Shelf Go.Proofs.YtlacligofhinmaaGreat
attribute [local go_sem] Oper.semAt_some
set_option linter.unusedVariables false
set_option linter.unusedSimpArgs false
set_option maxRecDepth 100000

/-- numbers that lie in memory -/
def NumR (w : World) (ao : Option Addr) (ks : List Int) : Prop := ∀ (k : Nat) (x : Int), ks[k]? = some x → ∃ g off, ao = some ⟨g, off, none⟩ ∧ w.cell? ⟨g, off + k, none⟩ = some (.int .i64 x)
set_option maxHeartbeats 4000000 in
theorem rnamed_any {w : World} {ao : Option Addr} {cap m : Nat} {ks : List Int} (hr : NumR w ao ks) (hm : m = ks.length) (hml : m ≤ 1048576) (s : Int) :
    Calls Tryz.prog 73 #[.slice ao m cap, .int .i64 s] w fun r w' => r = .returned (.bool (decide (s ∈ ks))) ∧ w' = w := by
  have HR : Hid (NumR w ao ks) := hr
  have HM : Hid (m = ks.length) := hm
  clear hr hm
  go_enter Tryz.func73, Tryz.ntmps73
  go_wp2
  go_loopw [5] (fun iv wk => ∃ (i : Nat), i ≤ m ∧ iv = .int .i64 i ∧ wk = w ∧ Hid (∀ (j : Nat) x, j < i → ks[j]? = some x → x ≠ s)) (fun iv _ => m - (intOf iv).toNat)
  case atStart => exact ⟨0, Nat.zero_le _, rfl, rfl, fun j x hj => by omega⟩
  case round =>
    obtain ⟨i, hi, rfl, rfl, HF⟩ := hrel
    by_cases hlt : i < m
    · have hiz : (i : Int) < (m : Int) := by omega
      obtain ⟨x, hx⟩ : ∃ x, ks[i]? = some x := ⟨_, List.getElem?_eq_getElem (by have := HM.out; omega)⟩
      obtain ⟨g, off, rfl, k0⟩ := HR.out i x hx
      by_cases he : x = s
      · have HY : Hid (decide (s ∈ ks) = true) := by show _ = _; rw [← he]; exact decide_eq_true (List.mem_of_getElem? hx)
        subst he
        clear hx
        go_wp2
        go_ret
        rw [HY.out]
        exact ⟨rfl, rfl⟩
      · have he' : (x == s) = false := by simpa using he
        have HN : Hid (∀ (j : Nat) x, j < i + 1 → ks[j]? = some x → x ≠ s) := fun j y hj hy => by
          by_cases e : j = i
          · subst e; rw [hx] at hy; cases hy; exact he
          · exact HF.out j y (by omega) hy
        clear hx
        go_wp2
        go_roundw
        case rel => exact ⟨i + 1, by omega, by go_num, trivial, HN⟩
        case measure => simp [intOf]; omega
    · have hiz : ¬ (i : Int) < (m : Int) := by omega
      have HY : Hid (decide (s ∈ ks) = false) := decide_eq_false (fun hm => by
        obtain ⟨j, hj⟩ := List.getElem?_of_mem hm
        exact HF.out j s (by have := (List.getElem?_eq_some_iff.1 hj).1; have := HM.out; omega) hj rfl)
      go_wp2
      go_ret
      rw [HY.out]
      exact ⟨rfl, rfl⟩
/-- the sectors that Through writes back, rising -/
def thrL (L : List Ln) (ks : List Int) : List Int := Lib.compact (sortI (ks.filter (dirtyAt L)))
theorem upto_mem (d : Array Int) : ∀ m j, j < m → d[j]! ∈ Lib.compactUpTo d m
  | 0, j, h => by omega
  | m + 1, j, h => by
    rw [Lib.compactUpTo_succ]
    by_cases e : j < m
    · exact List.mem_append_left _ (upto_mem d m j e)
    · obtain rfl : j = m := by omega
      by_cases hk : Lib.keeps d j = true
      · rw [if_pos hk]; simp
      · have hk' : ¬ (j = 0 ∨ d[j]! ≠ d[j - 1]!) := by simpa [Lib.keeps] using hk
        have h0 : j ≠ 0 := fun e => hk' (.inl e)
        have h1 : d[j]! = d[j - 1]! := Classical.byContradiction fun e => hk' (.inr e)
        rw [h1]
        exact List.mem_append_left _ (upto_mem d j (j - 1) (by omega))
theorem compact_mem {zs : List Int} {x : Int} (h : x ∈ zs) : x ∈ Lib.compact zs := by
  obtain ⟨j, hj⟩ := List.getElem?_of_mem h
  obtain ⟨h1, h2⟩ := List.getElem?_eq_some_iff.1 hj
  have := upto_mem zs.toArray zs.length j h1
  unfold Lib.compact
  have e : zs.toArray[j]! = x := by simp [h1, h2]
  rw [e] at this
  exact this
theorem dirtyAt_iff {L : List Ln} (hd : (secs L).Nodup) {x : Int} : dirtyAt L x = true ↔ ∃ l ∈ L, (l.sec : Int) = x ∧ l.dirty = true := by
  unfold dirtyAt
  constructor
  · intro h
    cases hl : lineAt L x with
    | none => rw [hl] at h; cases h
    | some l => rw [hl] at h; exact ⟨l, (lineAt_mem hl).1, (lineAt_mem hl).2, h⟩
  · rintro ⟨l, hm, rfl, hdy⟩
    rw [at_line hd hm]; exact hdy
theorem thr_mem (L : List Ln) (ks : List Int) (x : Int) : x ∈ thrL L ks ↔ x ∈ ks ∧ dirtyAt L x = true := by
  unfold thrL
  constructor
  · intro h
    have := (compact_ok (sortI_sorted (ks.filter (dirtyAt L)))).2.1 x h
    exact List.mem_filter.1 ((sortI_perm _).mem_iff.1 this)
  · intro h
    exact compact_mem ((sortI_perm _).mem_iff.2 (List.mem_filter.2 h))
theorem thr_sorted (L : List Ln) (ks : List Int) : (thrL L ks).Pairwise (· < ·) := (compact_upto (sortI_sorted _) _ (Nat.le_refl _)).1
/-- what stands while Through goes through the sectors -/
structure Thr (ks zs : List Int) (k : Nat) (s : Int) (C1 : Ch) : Prop where
  dirt : Dirt (zs.drop k) C1
  ge : ∀ x ∈ zs.drop k, s ≤ x
  ink : ∀ x ∈ zs.drop k, x ∈ ks
  all : ∀ x, x ∈ ks → dirtyAt C1.L x = true → s ≤ x → x ∈ zs.drop k
  nd : (secs C1.L).Nodup
  so : zs.Pairwise (· < ·)
theorem Thr.start {ks : List Int} {C : Ch} (hsd : (secs C.L).Nodup) : Thr ks (thrL C.L ks) 0 0 C := by
  refine ⟨dirt_thr ks, fun x hx => ?_, fun x hx => ((thr_mem _ _ _).1 hx).1, fun x h1 h2 _ => (thr_mem _ _ _).2 ⟨h1, h2⟩, hsd, thr_sorted _ _⟩
  obtain ⟨l, _, rfl, _⟩ := (dirtyAt_iff hsd).1 ((thr_mem _ _ _).1 hx).2
  omega
theorem Thr.skip {ks zs : List Int} {k : Nat} {s : Int} {C1 : Ch} (h : Thr ks zs k s C1) (hn : ¬ (s ∈ ks ∧ dirtyAt C1.L s = true)) : Thr ks zs k (s + 1) C1 := by
  refine ⟨h.dirt, fun x hx => ?_, h.ink, fun x h1 h2 h3 => h.all x h1 h2 (by omega), h.nd, h.so⟩
  have h1 := h.ge x hx
  have h2 : x ≠ s := fun e => by
    subst e
    obtain ⟨l, hl, hs, hdy⟩ := h.dirt.has x hx
    exact hn ⟨h.ink x hx, (dirtyAt_iff h.nd).2 ⟨l, hl, hs, hdy⟩⟩
  omega
theorem Thr.head {ks zs : List Int} {k : Nat} {s : Int} {C1 : Ch} (h : Thr ks zs k s C1) (hk : s ∈ ks) (hd : dirtyAt C1.L s = true) : zs.drop k = s :: zs.drop (k + 1) := by
  have hm := h.all s hk hd (Int.le_refl _)
  have hso := h.so.drop (i := k)
  cases e : zs.drop k with
  | nil => rw [e] at hm; cases hm
  | cons y t =>
    rw [e] at hm hso
    have ht : t = zs.drop (k + 1) := by rw [← List.drop_drop (l := zs) (i := 1) (j := k), e]; rfl
    have h1 := h.ge y (by rw [e]; simp)
    have h2 : y = s := by
      rcases List.mem_cons.1 hm with h5 | h5
      · exact h5.symm
      · have := (List.pairwise_cons.1 hso).1 _ h5; omega
    rw [h2, ht]
theorem Thr.next {ks zs : List Int} {k : Nat} {s : Int} {S1 : K.Dk} {C1 : Ch} (h : Thr ks zs k s C1) (hd : zs.drop k = s :: zs.drop (k + 1)) (he : wbE S1 C1 s = 0) : Thr ks zs (k + 1) (s + 1) (wbC S1 C1 s) := by
  have hdi := h.dirt
  have hso := h.so.drop (i := k)
  rw [hd] at hdi hso
  obtain ⟨n1, n2, n3⟩ := dirt_next h.nd hdi he
  refine ⟨n1, fun x hx => ?_, fun x hx => h.ink x (by rw [hd]; simp [hx]), fun x h1 h2 h3 => ?_, by rw [secs_wbC]; exact h.nd, h.so⟩
  · have := (List.pairwise_cons.1 hso).1 x hx; omega
  · obtain ⟨l, hl, rfl, hdy⟩ := (dirtyAt_iff (by rw [secs_wbC]; exact h.nd)).1 h2
    obtain ⟨h4, h5⟩ := n3 l hl hdy
    have h6 := h.all l.sec h1 ((dirtyAt_iff h.nd).2 ⟨l, h4, rfl, hdy⟩) (by omega)
    rw [hd] at h6
    rcases List.mem_cons.1 h6 with h7 | h7
    · exact absurd h7 h5
    · exact h7
theorem Thr.done {ks zs : List Int} {k : Nat} {s : Int} {C1 : Ch} (h : Thr ks zs k s C1) (hn : ∀ l ∈ C1.L, (l.sec : Int) < s) : zs.drop k = [] := by
  cases e : zs.drop k with
  | nil => rfl
  | cons y t =>
    have h1 := h.ge y (by rw [e]; simp)
    obtain ⟨l, hl, hs, _⟩ := h.dirt.has y (by rw [e]; simp)
    have := hn l hl
    omega
theorem thr_any {L : List Ln} (hd : (secs L).Nodup) (ks : List Int) : (ks.filter (dirtyAt L)).any (noteAt L) = true ↔ ∃ l ∈ L, l.note = true ∧ l.dirty = true ∧ (l.sec : Int) ∈ ks := by
  rw [List.any_eq_true]
  constructor
  · rintro ⟨x, hx, hn⟩
    obtain ⟨h1, h2⟩ := List.mem_filter.1 hx
    obtain ⟨l, hl, rfl, hdy⟩ := (dirtyAt_iff hd).1 h2
    unfold noteAt at hn
    rw [at_line hd hl] at hn
    exact ⟨l, hl, hn, hdy, h1⟩
  · rintro ⟨l, hl, hn, hdy, hk⟩
    refine ⟨l.sec, List.mem_filter.2 ⟨hk, (dirtyAt_iff hd).2 ⟨l, hl, rfl, hdy⟩⟩, ?_⟩
    unfold noteAt
    rw [at_line hd hl]; exact hn
end Go.Proofs.YtlacligofhinmaaGreat.C

namespace Go.Proofs.YtlacligofhinmaaGreat.C
open Go.RowKit Go.Maps Go.Shelf Go.Proofs.YtlacligofhinmaaGreat
attribute [local go_sem] Oper.semAt_some
set_option linter.unusedVariables false
set_option linter.unusedSimpArgs false
set_option maxRecDepth 100000

section
variable {w w' : World} {A : Qa} {S S' : K.Dk} {C C' : Ch}
def ThP (w : World) (A : Qa) (C : Ch) (R : Int × K.Dk × Ch) (r : Ending) (w' : World) : Prop :=
  r = .returned (.int .i64 R.1) ∧ ∃ A', QAct w w' A A' C R.2.1 R.2.2 1
set_option maxHeartbeats 16000000 in
theorem rthrough_any (h : RQ w A S C) (hq : A.pot C < 1048576) {ao : Option Addr} {m cap : Nat} {ks : List Int} (hm : m = ks.length) (hml : m ≤ 1048576) (hr : IRw w A.fp ao ks) :
    Calls Tryz.prog 30 #[.pointer (some ⟨A.q, 0, none⟩), .slice ao m cap] w (ThP w A C (throughR S C ks)) := by
  have HNum : Hid (∀ W A1 S1 C1 N, QAct w W A A1 C S1 C1 N → NumR W ao ks) := fun W A1 S1 C1 N ha k x hk => by
    obtain ⟨g, off, e, h1, h2, h3⟩ := hr k x hk
    refine ⟨g, off, e, ?_⟩
    have hb := ha.kp.block g h1 h2
    unfold World.cell? at h3 ⊢
    rw [hb]; exact h3
  have HM : Hid (m = ks.length) := hm
  have HPot : Hid (A.pot C < 1048576) := hq
  have HQ0 : Hid (∀ W, (∃ q, W = w.drewN q) → QAct w W A A C S C 0) := fun W hW => by obtain ⟨q, rfl⟩ := hW; exact (QAct.refl h).drewN q
  have hn1 := h.rr.n1
  have HRb : Hid (∀ (j : Nat) x, ks[j]? = some x → K.inD S.n x = false → throughR S C ks = (31, S, C)) := fun j x hj hx => by
    unfold throughR
    rw [if_neg]
    intro ha
    have := List.all_eq_true.1 ha x (List.mem_of_getElem? hj)
    rw [hx] at this
    cases this
  have HRf : Hid ((∀ (j : Nat) x, ks[j]? = some x → K.inD S.n x = true) → ∀ (i : Nat) l, C.L[i]? = some l → l.note = true → l.dirty = true → (l.sec : Int) ∈ ks → throughR S C ks = flushR S C) := fun ha i l hl h1 h2 h3 => by
    unfold throughR
    rw [if_pos (List.all_eq_true.2 fun x hx => by obtain ⟨j, hj⟩ := List.getElem?_of_mem hx; exact ha j x hj), if_pos ((thr_any h.sd ks).2 ⟨l, List.mem_of_getElem? hl, h1, h2, h3⟩)]
  have HRs : Hid ((∀ (j : Nat) x, ks[j]? = some x → K.inD S.n x = true) → (∀ (i : Nat) l, C.L[i]? = some l → ¬ (l.note = true ∧ l.dirty = true ∧ (l.sec : Int) ∈ ks)) → throughR S C ks = settleR (thrL C.L ks) S C) := fun ha hno => by
    unfold throughR
    rw [if_pos (List.all_eq_true.2 fun x hx => by obtain ⟨j, hj⟩ := List.getElem?_of_mem hx; exact ha j x hj), if_neg]
    · rfl
    · intro hy
      obtain ⟨l, hl, h1⟩ := (thr_any h.sd ks).1 hy
      obtain ⟨i, hi⟩ := List.getElem?_of_mem hl
      exact hno i l hi h1
  have HT0 : Hid (Thr ks (thrL C.L ks) 0 0 C) := Thr.start h.sd
  have HFl : Hid (∀ W, (∃ q, W = w.drewN q) → Calls Tryz.prog 28 #[.pointer (some ⟨A.q, 0, none⟩)] W fun r w' => r = .returned (.int .i64 (flushR S C).1) ∧ ∃ A', QAct w w' A A' C (flushR S C).2.1 (flushR S C).2.2 1) := fun W hW => by
    obtain ⟨q, rfl⟩ := hW
    refine (rflush_any (h.drewN q) (by simpa using hq)).mono ?_
    rintro r w' ⟨rfl, A', ha'⟩
    exact ⟨rfl, A', (ha'.from_later (K.below_drewN w q) h.lt).more (by split <;> omega)⟩
  obtain ⟨zs, hzs⟩ : ∃ zs, zs = thrL C.L ks := ⟨_, rfl⟩
  rw [← hzs] at HRs HT0
  -- the first loop
  have HL0 : Hid (∀ W, (∃ q, W = w.drewN q) → W.cell? ⟨A.q, 0, none⟩ = some (.pointer (some ⟨A.p, 0, none⟩)) ∧ NumR W ao ks ∧ ∀ (x : Int) q, Calls Tryz.prog 47 #[.pointer (some ⟨A.p, 0, none⟩), .int .i64 x] (W.drewN q) fun r w' => r = .returned (.bool (K.inD S.n x)) ∧ w' = W.drewN q) := fun W hW => by
    have ha := HQ0.out W hW
    exact ⟨ha.rq.c 0, HNum.out _ _ _ _ _ ha, fun x q => K.rHas_any (ha.rq.drewN q).rr x⟩
  -- the second loop
  obtain ⟨bo, bc, hv⟩ := h.form
  have hx1 := h.x1024
  have hln := h.ln
  have HL1 : Hid (∀ W, (∃ q, W = w.drewN q) → W.cell? ⟨A.q, 3, none⟩ = some (.slice bo A.X.length bc) ∧ (∀ (i : Nat) l, C.L[i]? = some l → ∃ g, bo = some ⟨g, 0, none⟩ ∧ W.cell? ⟨g, i * 3, none⟩ = some (.int .i64 l.sec) ∧ W.cell? ⟨g, i * 3 + 2, none⟩ = some (.bool l.dirty)) ∧ (∀ l, l ∈ C.L → Calls Tryz.prog 38 #[.pointer (some ⟨A.q, 0, none⟩), .int .i64 l.sec] W fun r w' => r = .returned (.bool l.note) ∧ ∃ q', w' = w.drewN q') ∧ ∀ s, Calls Tryz.prog 73 #[.slice ao m cap, .int .i64 s] W fun r w' => r = .returned (.bool (decide (s ∈ ks))) ∧ w' = W) := fun W hW => by
    have ha := HQ0.out W hW
    obtain ⟨q, rfl⟩ := hW
    refine ⟨by rw [← hv]; exact ha.rq.c 3, fun i l hl => ha.rq.see hv hl, fun l hl => ?_, fun s => rnamed_any (HNum.out _ _ _ _ _ ha) HM.out hml s⟩
    have := rnote_any ha.rq (s := (l.sec : Int)) (by have := (h.ok l hl).1; omega)
    refine this.mono ?_
    rintro r w' ⟨rfl, q', rfl⟩
    exact ⟨by rw [h.nt l hl], q + q', by rw [World.drewN_drewN]⟩
  -- the third loop
  have HL2 : Hid (∀ W A1 S1 C1, QAct w W A A1 C S1 C1 0 → W.cell? ⟨A.q, 0, none⟩ = some (.pointer (some ⟨A.p, 0, none⟩)) ∧ W.cell? ⟨A.p, 0, none⟩ = some (.int .i64 S1.n) ∧ (∀ l ∈ C1.L, l.sec < S1.n) ∧ (∀ s, Calls Tryz.prog 73 #[.slice ao m cap, .int .i64 s] W fun r w' => r = .returned (.bool (decide (s ∈ ks))) ∧ w' = W) ∧ (∀ s, lineAt C1.L s = none → Calls Tryz.prog 48 #[.pointer (some ⟨A.q, 0, none⟩), .int .i64 s] W fun r w' => r = .returned (.int .i64 (-1)) ∧ w' = W) ∧ (∀ s l, lineAt C1.L s = some l → ∃ (i n g c : Nat), n ≤ 1024 ∧ i < n ∧ W.cell? ⟨A.q, 3, none⟩ = some (.slice (some ⟨g, 0, none⟩) n c) ∧ W.cell? ⟨g, i * 3 + 2, none⟩ = some (.bool l.dirty) ∧ (Calls Tryz.prog 48 #[.pointer (some ⟨A.q, 0, none⟩), .int .i64 s] W fun r w' => r = .returned (.int .i64 i) ∧ w' = W) ∧ (l.dirty = true → Calls Tryz.prog 74 #[.pointer (some ⟨A.q, 0, none⟩), .int .i64 i] W fun r w' => r = .returned (.int .i64 (wbE S1 C1 s)) ∧ ∃ A', QAct w w' A A' C (wbS S1 C1 s) (wbC S1 C1 s) (if wbE S1 C1 s = 0 then 0 else 1))) ∧ (Calls Tryz.prog 69 #[.pointer (some ⟨A.p, 0, none⟩)] W fun r w' => r = .returned (.int .i64 (K.baE S1)) ∧ ∃ A', QAct w w' A A' C (K.baS S1) C1 1)) := fun W A1 S1 C1 ha => by
    have hp := ha.pot
    have hp0 := HPot.out
    have c0 := ha.rq.c 0
    rw [ha.q] at c0
    have p0 := ha.rq.rr.c 0
    rw [ha.p] at p0
    refine ⟨by rw [c0, ← ha.p]; rfl, p0, fun l hl => (ha.rq.ok l hl).1, fun s => rnamed_any (HNum.out _ _ _ _ _ ha) HM.out hml s, fun s hs => ?_, fun s l hs => ?_, ?_⟩
    · have := rfind_none ha.rq hs
      rw [ha.q] at this
      exact this
    · obtain ⟨hlm, hls⟩ := lineAt_mem hs
      obtain ⟨i, hil⟩ := List.getElem?_of_mem hlm
      obtain ⟨o1, k1, hv1⟩ := ha.rq.form
      obtain ⟨g, rfl, j0, j2⟩ := ha.rq.see hv1 hil
      have hf := rfind_at ha.rq hil
      rw [ha.q, hls] at hf
      have hi1 := (List.getElem?_eq_some_iff.1 hil).1
      have hl1 := ha.rq.ln
      have c3 := ha.rq.c 3
      rw [ha.q] at c3
      refine ⟨i, A1.X.length, g, k1, ha.rq.x1024, by omega, by rw [c3, ← hv1]; rfl, j2, hf, fun hd => ?_⟩
      have := rback_at ha.rq (by simp only [Qa.pot] at hp hp0; omega) hil hd
      rw [ha.q, hls] at this
      refine this.mono ?_
      rintro r w' ⟨rfl, A', ha'⟩
      have h9 := ha.trans ha'
      rw [Nat.zero_add] at h9
      exact ⟨rfl, A', h9⟩
    · have := rbar_any ha.rq (by omega)
      rw [ha.p] at this
      refine this.mono ?_
      rintro r w' ⟨rfl, A', ha'⟩
      exact ⟨rfl, A', (ha.trans ha').more (by omega)⟩
  have HN : Hid (∀ W A1 S1 C1, QAct w W A A1 C S1 C1 0 → S1.n ≤ 65536) := fun W A1 S1 C1 ha => ha.rq.rr.n1
  obtain ⟨n, hn⟩ : ∃ n, n = A.X.length := ⟨_, rfl⟩
  rw [← hn] at HL1 hx1 hln
  have HLn : Hid (n = C.L.length) := hln
  clear h hv hn hln hq hr hm hzs hn1
  go_enter Tryz.func30, Tryz.ntmps30
  go_wp2
  go_loopw [5] (fun iv wk => ∃ (i : Nat), i ≤ m ∧ iv = .int .i64 i ∧ Hid (∃ q, wk = w.drewN q) ∧ Hid (∀ (j : Nat) x, j < i → ks[j]? = some x → K.inD S.n x = true)) (fun iv _ => m - (intOf iv).toNat)
  case atStart => exact ⟨0, Nat.zero_le _, rfl, ⟨0, rfl⟩, fun j x hj => by omega⟩
  case round =>
    obtain ⟨i, hi, rfl, HWk, HF⟩ := hrel
    by_cases hlt : i < m
    · have hiz : (i : Int) < (m : Int) := by omega
      obtain ⟨x, hx⟩ : ∃ x, ks[i]? = some x := ⟨_, List.getElem?_eq_getElem (by have := HM.out; omega)⟩
      obtain ⟨c0, hnr, hha⟩ := HL0.out wr HWk.out
      obtain ⟨g, off, rfl, k0⟩ := hnr i x hx
      have hhx := hha x
      have HX : Hid (ks[i]? = some x) := hx
      have HD : Hid (∀ m, ∃ q, wr.drewN m = w.drewN q) := fun m => by obtain ⟨q0, e⟩ := HWk.out; exact ⟨q0 + m, by rw [e, World.drewN_drewN]⟩
      obtain ⟨b, hb⟩ : ∃ b, b = K.inD S.n x := ⟨_, rfl⟩
      rw [← hb] at hhx
      have HBx : Hid (b = K.inD S.n x) := hb
      clear hnr hha hx hb
      cases b
      · have HE : Hid (throughR S C ks = (31, S, C)) := HRb.out i x HX.out HBx.out.symm
        go_wp2
        go_quiet (first | (go_at_call 47; exact Calls.quiet_of_same (hhx _)))
        go_wp2
        go_ret
        show ThP _ _ _ _ _ _
        rw [HE.out]
        exact ⟨rfl, A, (HQ0.out _ (HD.out _)).more (by omega)⟩
      · have HF2 : Hid (∀ (j : Nat) x, j < i + 1 → ks[j]? = some x → K.inD S.n x = true) := fun j y hj hy => by
          by_cases e : j = i
          · subst e; rw [HX.out] at hy; cases hy; exact HBx.out.symm
          · exact HF.out j y (by omega) hy
        go_wp2
        go_quiet (first | (go_at_call 47; exact Calls.quiet_of_same (hhx _)))
        go_wp2
        go_roundw
        case rel => exact ⟨i + 1, by omega, by go_num, HD.out _, HF2⟩
        case measure => simp [intOf]; omega
    · have hiz : ¬ (i : Int) < (m : Int) := by omega
      have HAl : Hid (∀ (j : Nat) x, ks[j]? = some x → K.inD S.n x = true) := fun j x hx => HF.out j x (by have := (List.getElem?_eq_some_iff.1 hx).1; have := HM.out; omega) hx
      obtain ⟨W0, hW0⟩ : ∃ W0, W0 = wr := ⟨_, rfl⟩
      subst hW0
      clear HF HL0 HRb
      go_wp2
      go_loopw [6] (fun iv wk => ∃ (i : Nat), i ≤ n ∧ iv = .int .i64 i ∧ Hid (∃ q, wk = w.drewN q) ∧ Hid (∀ (j : Nat) l, j < i → C.L[j]? = some l → ¬ (l.note = true ∧ l.dirty = true ∧ (l.sec : Int) ∈ ks))) (fun iv _ => n - (intOf iv).toNat)
      case atStart => exact ⟨0, Nat.zero_le _, rfl, HWk, fun j x hj => by omega⟩
      case round =>
        obtain ⟨i2, hi2, rfl, HWj, HG⟩ := hrel
        obtain ⟨c3, hse, hno, hna⟩ := HL1.out wr HWj.out
        by_cases hlt2 : i2 < n
        · have hiz2 : (i2 : Int) < (n : Int) := by omega
          obtain ⟨l, hl⟩ : ∃ l, C.L[i2]? = some l := ⟨_, List.getElem?_eq_getElem (by have := HLn.out; omega)⟩
          obtain ⟨g, rfl, k0, k2⟩ := hse i2 l hl
          have hnol := hno l (List.mem_of_getElem? hl)
          have HLi : Hid (C.L[i2]? = some l) := hl
          clear hse hno hna hl
          go_wp2_with fail
          refine Calls.mono hnol ?_
          clear hnol
          rintro r wk ⟨rfl, hwk⟩
          obtain ⟨c3', hse', _, hna'⟩ := HL1.out wk hwk
          obtain ⟨g', e, k0', k2'⟩ := hse' i2 l HLi.out
          cases e
          have hnl := hna' l.sec
          have HWw : Hid (∃ q, wk = w.drewN q) := hwk
          clear k0 k2 c3 hse' hna' hwk HWj
          go_wp2_with fail
          refine Calls.mono hnl ?_
          clear hnl
          rintro r wk2 ⟨rfl, hw2⟩
          rw [hw2]
          clear hw2
          have HNx : Hid (¬ (l.note = true ∧ l.dirty = true ∧ (l.sec : Int) ∈ ks) → ∀ (j : Nat) l, j < i2 + 1 → C.L[j]? = some l → ¬ (l.note = true ∧ l.dirty = true ∧ (l.sec : Int) ∈ ks)) := fun hd j x hj hx => by
            by_cases e : j = i2
            · subst e; rw [HLi.out] at hx; cases hx; exact hd
            · exact HG.out j x (by omega) hx
          cases hnt : l.note with
          | false =>
            have HN3 := HNx.out (fun hc => by rw [hnt] at hc; cases hc.1)
            have HN4 : Hid _ := HN3
            clear HN3 HNx
            go_wp2
            go_roundw
            case rel => exact ⟨i2 + 1, by omega, by go_num, HWw, HN4.out⟩
            case measure => simp [intOf]; omega
          | true =>
            cases hdy : l.dirty with
            | false =>
              rw [hdy] at k2'
              have HN3 := HNx.out (fun hc => by rw [hdy] at hc; cases hc.2.1)
              have HN4 : Hid _ := HN3
              clear HN3 HNx
              go_wp2
              go_roundw
              case rel => exact ⟨i2 + 1, by omega, by go_num, HWw, HN4.out⟩
              case measure => simp [intOf]; omega
            | true =>
              rw [hdy] at k2'
              by_cases hin : (l.sec : Int) ∈ ks
              · rw [decide_eq_true hin]
                have HE : Hid (throughR S C ks = flushR S C) := HRf.out HAl.out i2 l HLi.out hnt hdy hin
                have hfl := HFl.out wk HWw.out
                clear HNx
                go_wp2_with fail
                refine Calls.mono hfl ?_
                clear hfl
                rintro r w9 ⟨rfl, ha9⟩
                have HA9 : Hid _ := ha9
                clear ha9
                go_wp2
                go_ret
                show ThP _ _ _ _ _ _
                rw [HE.out]
                exact ⟨rfl, HA9.out⟩
              · rw [decide_eq_false hin]
                have HN3 := HNx.out (fun hc => hin hc.2.2)
                have HN4 : Hid _ := HN3
                clear HN3 HNx
                go_wp2
                go_roundw
                case rel => exact ⟨i2 + 1, by omega, by go_num, HWw, HN4.out⟩
                case measure => simp [intOf]; omega
        · have hiz2 : ¬ (i2 : Int) < (n : Int) := by omega
          have HE := HRs.out HAl.out (fun j l hl => HG.out j l (by have := (List.getElem?_eq_some_iff.1 hl).1; have := HLn.out; omega) hl)
          have HEs : Hid (throughR S C ks = settleR zs S C) := HE
          have HA0 : Hid (∃ A1, QAct w wr A A1 C S C 0) := ⟨A, HQ0.out wr HWj.out⟩
          obtain ⟨W3, hW3⟩ : ∃ W3, W3 = wr := ⟨_, rfl⟩
          subst hW3
          clear HE HG hse hno hna HL1 HRf HRs HFl HAl
          go_wp2
          go_loopw [9] (fun sv wk => ∃ (s : Nat) (k : Nat) (S1 : K.Dk) (C1 : Ch), s ≤ S1.n ∧ S1.n ≤ 65536 ∧ sv = .int .i64 s ∧ Hid (∃ A1, QAct w wk A A1 C S1 C1 0) ∧ Hid (Thr ks zs k s C1) ∧ Hid (backs zs S C = backs (zs.drop k) S1 C1)) (fun sv _ => 65537 - (intOf sv).toNat)
          case atStart => exact ⟨0, 0, S, C, Nat.zero_le _, (by obtain ⟨A1, ha⟩ := HA0.out; exact HN.out _ _ _ _ ha), rfl, HA0, HT0, rfl⟩
          case round =>
            obtain ⟨s, k, S1, C1, hs, hs1, rfl, HA, HT, HK⟩ := hrel
            obtain ⟨A1, ha⟩ := HA.out
            obtain ⟨c0, p0, hsec, hna, hfn, hfs, hba⟩ := HL2.out wr A1 S1 C1 ha
            by_cases hlt3 : s < S1.n
            · have hsz : (s : Int) < (S1.n : Int) := by omega
              have HSk : Hid (¬ ((s : Int) ∈ ks ∧ dirtyAt C1.L s = true) → Thr ks zs k ((s + 1 : Nat) : Int) C1) := fun hc => by
                have := HT.out.skip hc
                simpa using this
              cases hl : lineAt C1.L (s : Int) with
              | none =>
                have hfi := hfn s hl
                have HT2 : Hid _ := HSk.out (fun hc => by have := hc.2; unfold dirtyAt at this; rw [hl] at this; cases this)
                clear hna hfn hfs hba hsec HSk HT ha
                go_wp2_with fail
                refine Calls.mono hfi ?_
                clear hfi
                rintro r w9 ⟨rfl, hw9⟩
                rw [hw9]
                clear hw9
                go_wp2
                go_roundw
                case rel => exact ⟨s + 1, k, S1, C1, by omega, hs1, by go_num, HA, HT2.out, HK⟩
                case measure => simp [intOf]; omega
              | some l =>
                obtain ⟨i3, n3, g3, cc3, hn3, hi3, q3, q2, hfi, hbk⟩ := hfs s l hl
                have hnam := hna s
                have hi3z : (i3 : Int) ≥ 0 := by omega
                have hi3n : (i3 : Int) < (n3 : Int) := by omega
                by_cases hin : (s : Int) ∈ ks
                · rw [decide_eq_true hin] at hnam
                  cases hdy : l.dirty with
                  | false =>
                    rw [hdy] at q2
                    have HT2 : Hid _ := HSk.out (fun hc => by have := hc.2; unfold dirtyAt at this; rw [hl] at this; simp only at this; rw [hdy] at this; cases this)
                    clear hna hfn hfs hba hsec HSk HT ha hbk
                    go_wp2_with (first | (go_at_call 48; refine hfi.mono ?_; clear hfi; rintro r w9 ⟨rfl, hw9⟩; rw [hw9]; clear hw9) | (go_at_call 73; refine hnam.mono ?_; clear hnam; rintro r w9 ⟨rfl, hw9⟩; rw [hw9]; clear hw9))
                    go_roundw
                    case rel => exact ⟨s + 1, k, S1, C1, by omega, hs1, by go_num, HA, HT2.out, HK⟩
                    case measure => simp [intOf]; omega
                  | true =>
                    rw [hdy] at q2
                    have hda : dirtyAt C1.L s = true := by unfold dirtyAt; rw [hl]; exact hdy
                    have hhd := HT.out.head hin hda
                    have hk2 := HK.out
                    rw [hhd, backs_cons] at hk2
                    have hb2 := hbk hdy
                    rcases wbE_two S1 C1 s with he | he
                    · rw [if_pos he] at hk2
                      rw [he] at hb2
                      have HT2 : Hid (Thr ks zs (k + 1) ((s + 1 : Nat) : Int) (wbC S1 C1 s)) := by
                        have := HT.out.next (S1 := S1) hhd he
                        show Thr _ _ _ _ _
                        simpa using this
                      have HK2 : Hid _ := hk2
                      have HNn : Hid ((wbS S1 C1 s).n = S1.n) := wbS_n S1 C1 s
                      have HBB : Hid (Calls Tryz.prog 74 #[.pointer (some ⟨A.q, 0, none⟩), .int .i64 i3] wr fun r w' => r = .returned (.int .i64 0) ∧ ∃ A', QAct w w' A A' C (wbS S1 C1 s) (wbC S1 C1 s) 0) := hb2
                      clear hna hfn hfs hba hsec HSk HT ha hbk hk2 hhd hda HK hb2 HA
                      go_wp2_with (first | (go_at_call 48; refine hfi.mono ?_; clear hfi; rintro r w9 ⟨rfl, hw9⟩; rw [hw9]; clear hw9) | (go_at_call 73; refine hnam.mono ?_; clear hnam; rintro r w9 ⟨rfl, hw9⟩; rw [hw9]; clear hw9) | (go_at_call 74; refine HBB.out.mono ?_; clear HBB; rintro r w8 ⟨rfl, ha8⟩; have HA8 : Hid (∃ A', QAct w w8 A A' C (wbS S1 C1 s) (wbC S1 C1 s) 0) := ha8; clear ha8))
                      go_roundw
                      case rel => exact ⟨s + 1, k + 1, _, _, by rw [HNn.out]; omega, by rw [HNn.out]; exact hs1, by go_num, HA8, HT2, HK2.out⟩
                      case measure => simp [intOf]; omega
                    · rw [if_neg (by omega)] at hk2
                      rw [he] at hb2
                      have HE : Hid (throughR S C ks = (33, wbS S1 C1 s, wbC S1 C1 s)) := by
                        show _ = _
                        rw [HEs.out]
                        unfold settleR
                        rw [hk2, if_neg (by simp)]
                      have HBB : Hid (Calls Tryz.prog 74 #[.pointer (some ⟨A.q, 0, none⟩), .int .i64 i3] wr fun r w' => r = .returned (.int .i64 33) ∧ ∃ A', QAct w w' A A' C (wbS S1 C1 s) (wbC S1 C1 s) 1) := hb2
                      clear hna hfn hfs hba hsec HSk HT ha hbk hk2 hhd hda HK hb2 HA
                      go_wp2_with (first | (go_at_call 48; refine hfi.mono ?_; clear hfi; rintro r w9 ⟨rfl, hw9⟩; rw [hw9]; clear hw9) | (go_at_call 73; refine hnam.mono ?_; clear hnam; rintro r w9 ⟨rfl, hw9⟩; rw [hw9]; clear hw9) | (go_at_call 74; refine HBB.out.mono ?_; clear HBB; rintro r w8 ⟨rfl, ha8⟩; have HA8 : Hid (∃ A', QAct w w8 A A' C (wbS S1 C1 s) (wbC S1 C1 s) 1) := ha8; clear ha8))
                      go_ret
                      show ThP _ _ _ _ _ _
                      rw [HE.out]
                      exact ⟨rfl, HA8.out⟩
                · rw [decide_eq_false hin] at hnam
                  have HT2 : Hid _ := HSk.out (fun hc => hin hc.1)
                  clear hna hfn hfs hba hsec HSk HT ha hbk
                  go_wp2_with (first | (go_at_call 48; refine hfi.mono ?_; clear hfi; rintro r w9 ⟨rfl, hw9⟩; rw [hw9]; clear hw9) | (go_at_call 73; refine hnam.mono ?_; clear hnam; rintro r w9 ⟨rfl, hw9⟩; rw [hw9]; clear hw9))
                  go_roundw
                  case rel => exact ⟨s + 1, k, S1, C1, by omega, hs1, by go_num, HA, HT2.out, HK⟩
                  case measure => simp [intOf]; omega
            · have hsz : ¬ (s : Int) < (S1.n : Int) := by omega
              have hdr := HT.out.done (fun l hl => by have := hsec l hl; omega)
              have hk2 := HK.out
              rw [hdr] at hk2
              have HE : Hid (throughR S C ks = ((if K.baE S1 = 0 then 0 else 33), K.baS S1, C1)) := by
                show _ = _
                rw [HEs.out]
                unfold settleR
                rw [hk2]
                rfl
              clear hna hfn hfs hsec HT ha hk2 hdr HK HA
              rcases baE_two S1 with he | he
              · simp only [he, if_true] at HE hba
                go_wp2_with fail
                refine Calls.mono hba ?_
                clear hba
                rintro r w9 ⟨rfl, ha9⟩
                have HA9 : Hid _ := ha9
                clear ha9
                go_wp2
                go_ret
                show ThP _ _ _ _ _ _
                rw [HE.out]
                exact ⟨rfl, HA9.out⟩
              · simp only [he, show ((33 : Int) = 0) = False by simp, if_false] at HE hba
                go_wp2_with fail
                refine Calls.mono hba ?_
                clear hba
                rintro r w9 ⟨rfl, ha9⟩
                have HA9 : Hid _ := ha9
                clear ha9
                go_wp2
                go_ret
                show ThP _ _ _ _ _ _
                rw [HE.out]
                exact ⟨rfl, HA9.out⟩
end
end Go.Proofs.YtlacligofhinmaaGreat.C

namespace Go.Proofs.YtlacligofhinmaaGreat.K
open Go.RowKit Go.Maps Go.Proofs.YtlacligofhinmaaGreat
attribute [local go_sem] Oper.semAt_some
set_option linter.unusedVariables false
set_option linter.unusedSimpArgs false
set_option maxRecDepth 100000
set_option maxHeartbeats 4000000 in
theorem SamePuts_yes {W : World} {B B' : Nat} {v v' : Value} {A Q : List Pv} (h : W.ownsRow B TPt 2 v A.length (qcells A)) (h' : W.ownsRow B' TPt 2 v' Q.length (qcells Q)) (hd : ∀ x ∈ A, W.ownsRow 0 5 1 x.2.1 512 (x.2.2.map bv)) (hd' : ∀ x ∈ Q, W.ownsRow 0 5 1 x.2.1 512 (x.2.2.map bv)) (he : A.map bare = Q.map bare) (hok : ∀ x ∈ A, OkB x.2.2) (hl : A.length ≤ 1048576) :
    Calls Tryz.prog 90 #[v, v'] W fun r W' => r = .returned (.bool true) ∧ Below W.heap.size W W' := by
  have hlen : Q.length = A.length := by have := congrArg List.length he; simpa using this.symm
  rw [hlen] at h'
  obtain ⟨ao, c, rfl⟩ := own_slice h
  obtain ⟨ao', c', rfl⟩ := own_slice h'
  obtain ⟨n, hn⟩ : ∃ n, n = A.length := ⟨_, rfl⟩
  have HN : Hid (A.length = n ∧ Q.length = n) := ⟨hn.symm, by rw [hlen, hn]⟩
  rw [← hn] at h h' hl ⊢
  have HR : Hid (W.ownsRow B TPt 2 (.slice ao n c) n (qcells A) ∧ W.ownsRow B' TPt 2 (.slice ao' n c') n (qcells Q)) := ⟨h, h'⟩
  have HD : Hid (∀ x ∈ A, W.ownsRow 0 5 1 x.2.1 512 (x.2.2.map bv)) := hd
  have HD' : Hid (∀ x ∈ Q, W.ownsRow 0 5 1 x.2.1 512 (x.2.2.map bv)) := hd'
  have HE : Hid (A.map bare = Q.map bare) := he
  have HO : Hid (∀ x ∈ A, OkB x.2.2) := hok
  clear h h' hn hd hd' he hok hlen
  go_enter Tryz.func90, Tryz.ntmps90
  go_wp2
  go_loopw [5] (fun cc wr => ∃ i : Nat, i ≤ n ∧ cc = .int .i64 i ∧ Hid (Below W.heap.size W wr)) (fun cc _ => n - (intOf cc).toNat)
  case atStart => exact ⟨0, Nat.zero_le _, rfl, Below.refl _ _⟩
  case round =>
    obtain ⟨i, hi, rfl, HB⟩ := hrel
    by_cases hlt : i < n
    · obtain ⟨x, hx⟩ : ∃ x, A[i]? = some x := ⟨_, List.getElem?_eq_getElem (by have := HN.out.1; omega)⟩
      obtain ⟨y, hy⟩ : ∃ y, Q[i]? = some y := ⟨_, List.getElem?_eq_getElem (by have := HN.out.2; omega)⟩
      obtain ⟨s, u, l⟩ := x
      obtain ⟨s', u', l'⟩ := y
      have hbe : bare (s, u, l) = bare (s', u', l') := by
        have h1 : (A.map bare)[i]? = (Q.map bare)[i]? := by rw [HE.out]
        rw [List.getElem?_map, List.getElem?_map, hx, hy] at h1
        simpa using h1
      simp only [bare, Prod.mk.injEq] at hbe
      obtain ⟨rfl, rfl⟩ := hbe
      obtain ⟨g, hg⟩ : ∃ g, ao = some ⟨g, 0, none⟩ := by
        rcases HR.out.1.2 with ⟨e, h0⟩ | ⟨g, cap', cur, e, _⟩
        · omega
        · simp at e; exact ⟨g, e.1⟩
      obtain ⟨g', hg'⟩ : ∃ g, ao' = some ⟨g, 0, none⟩ := by
        rcases HR.out.2.2 with ⟨e, h0⟩ | ⟨g, cap', cur, e, _⟩
        · omega
        · simp at e; exact ⟨g, e.1⟩
      subst hg
      subst hg'
      have k1 := ownsRow_block HR.out.1 (w' := wr) (fun x e => HB.out.block x (row_lt HR.out.1 x e).1)
      have k2 := ownsRow_block HR.out.2 (w' := wr) (fun x e => HB.out.block x (row_lt HR.out.2 x e).1)
      obtain ⟨q0, q1⟩ := qrow_at k1 hx HN.out.1
      obtain ⟨r0, r1⟩ := qrow_at k2 hy HN.out.2
      simp only at q0 q1 r0 r1
      have hok := HO.out _ (List.mem_of_getElem? hx)
      have d1 := HD.out _ (List.mem_of_getElem? hx)
      have d2 := HD'.out _ (List.mem_of_getElem? hy)
      simp only at hok d1 d2
      obtain ⟨a1, c1, rfl, b1⟩ := own_brow (ownsRow_block d1 (w' := wr) (fun x e => HB.out.block x (row_lt d1 x e).1)) hok.len hok.lt (by decide)
      obtain ⟨a2, c2, rfl, b2⟩ := own_brow (ownsRow_block d2 (w' := wr) (fun x e => HB.out.block x (row_lt d2 x e).1)) hok.len hok.lt (by decide)
      have hs := same_any a1 a2 c1 c2 l l wr.drew (b1.later (below_drew wr)) (b2.later (below_drew wr))
      rw [hok.len, decide_eq_true rfl] at hs
      have HSm2 : Hid (Calls Tryz.prog 26 #[.slice a1 512 c1, .slice a2 512 c2] wr.drew fun e w' => e = .returned (.bool true) ∧ ∃ q, w' = wr.drew.drewN q) := hs
      clear k1 k2 hx hy hok d1 d2 b1 b2 hs
      have HSd : Hid (Calls Tryz.prog 26 #[.slice a1 512 c1, .slice a2 512 c2] wr.drew fun e w' => e = .returned (.bool true) ∧ ∃ q, w' = wr.drew.drewN q) := HSm2.out
      go_wp2
      go_region_held3 (fun w' => w'.cell? ⟨g, i * 2 + 1, none⟩ = some (.slice a1 512 c1) ∧ w'.cell? ⟨g', i * 2 + 1, none⟩ = some (.slice a2 512 c2)) (first | go_keep | exact ⟨q1, r1⟩) (first | (go_at_call 26; refine HSd.out.mono ?_; rintro e w2 ⟨rfl, q, rfl⟩))
      go_wp2
      go_quiet (fail)
      go_wp2
      go_roundw
      case rel => exact ⟨i + 1, by omega, by go_num, HB.out.trans ((below_drewN wr _).mono HB.out.size)⟩
      case measure => simp [intOf]; omega
    · have e : i = n := by omega
      subst e
      go_wp2
      go_ret
      exact ⟨rfl, HB.out⟩
end Go.Proofs.YtlacligofhinmaaGreat.K
