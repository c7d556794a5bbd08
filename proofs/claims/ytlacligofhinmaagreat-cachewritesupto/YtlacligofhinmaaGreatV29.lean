import Derived.Test.YtlacligofhinmaaGreatV28
namespace Go.Proofs.YtlacligofhinmaaGreat.C
open Go.RowKit Go.Maps Go.Shelf Go.Proofs.YtlacligofhinmaaGreat
attribute [local go_sem] Oper.semAt_some
set_option linter.unusedVariables false
set_option linter.unusedSimpArgs false
set_option maxRecDepth 100000

theorem isN_succ {notes : List (Int × Int)} {k : Nat} {p : Int × Int} (hp : notes[k]? = some p) (s : Int) : isN (notes.take (k + 1)) s = (isN (notes.take k) s || (decide (p.1 ≤ s) && decide (s - p.1 < p.2))) := by
  unfold isN
  rw [List.take_add_one, hp]
  simp [List.any_append]
theorem isN_hit {notes : List (Int × Int)} {k : Nat} {p : Int × Int} (hp : notes[k]? = some p) {s : Int} (h1 : p.1 ≤ s) (h2 : s - p.1 < p.2) : isN notes s = true := by
  unfold isN
  exact List.any_eq_true.2 ⟨p, List.mem_of_getElem? hp, by simp [h1, h2]⟩
section
variable {w w' : World} {A : Qa} {S S' : K.Dk} {C C' : Ch}
theorem RQ.form (h : RQ w A S C) : ∃ ao cap, A.lv = .slice ao A.X.length cap := by
  rcases h.lr.2 with ⟨e, h0⟩ | ⟨g, cap, cur, e, _⟩
  · exact ⟨none, 0, by rw [e, h0]⟩
  · exact ⟨_, _, e⟩
/-- a line's cells -/
theorem RQ.at_ (h : RQ w A S C) {ao : Option Addr} {cap : Nat} (hv : A.lv = .slice ao A.X.length cap) {i : Nat} {x : Xl} (hx : A.X[i]? = some x) : ∃ g, ao = some ⟨g, 0, none⟩ ∧ A.lv.ownBlock = some g ∧ w.cell? ⟨g, i * 3, none⟩ = some (.int .i64 x.sec) ∧ w.cell? ⟨g, i * 3 + 1, none⟩ = some x.v ∧ w.cell? ⟨g, i * 3 + 2, none⟩ = some (.bool x.dirty) ∧ ∀ j, w.frozen? ⟨g, j, none⟩ = false := by
  have hlt := (List.getElem?_eq_some_iff.1 hx).1
  have hl := h.lr
  rcases hl.2 with ⟨e, h0⟩ | ⟨g, cap', cur, e, _, hg, _⟩
  · omega
  · rw [hv] at e
    simp only [Value.slice.injEq] at e
    obtain ⟨rfl, _, rfl⟩ := e
    rw [hv] at hl
    exact ⟨g, rfl, by rw [hv]; rfl, (xrow_at hl hx rfl).1, (xrow_at hl hx rfl).2.1, (xrow_at hl hx rfl).2.2, fun j => K.frozen_of hg⟩
set_option maxHeartbeats 4000000 in
theorem rnote_any (h : RQ w A S C) {s : Int} (hs : 0 ≤ s ∧ s ≤ 65536) :
    Calls Tryz.prog 38 #[.pointer (some ⟨A.q, 0, none⟩), .int .i64 s] w fun r w' => r = .returned (.bool (isN C.notes s)) ∧ ∃ q, w' = w.drewN q := by
  obtain ⟨ao, cap, hnv, hao⟩ := (show NR w A.nv A.nv.ownBlock C.notes from .inr ⟨rfl, h.nr⟩).form
  have c2 : ∀ q, (w.drewN q).cell? ⟨A.q, 2, none⟩ = some (.slice ao C.notes.length cap) := fun q => by rw [← hnv]; exact h.c 2
  obtain ⟨n, hn⟩ : ∃ n, n = C.notes.length := ⟨_, rfl⟩
  have hl := h.nl
  rw [← hn] at c2 hl
  have HN : Hid (n = C.notes.length) := hn
  have HR : Hid (∀ (k : Nat) (p : Int × Int), C.notes[k]? = some p → ∃ g, ao = some ⟨g, 0, none⟩ ∧ w.cell? ⟨g, k * 2, none⟩ = some (.int .i64 p.1) ∧ w.cell? ⟨g, k * 2 + 1, none⟩ = some (.int .i64 p.2)) := hao
  have hn1 := h.rr.n1
  have HP : Hid (∀ p ∈ C.notes, 0 ≤ p.1 ∧ p.1 ≤ 65536) := fun p hp => by have := h.nok p hp; omega
  clear h hn hao hnv hn1
  generalize C.notes = notes at *
  go_enter Tryz.func38, Tryz.ntmps38
  go_wp2
  go_loopw [5] (fun i wr => ∃ k : Nat, k ≤ n ∧ i = .int .i64 k ∧ Hid (isN (notes.take k) s = false) ∧ Hid (∃ q, wr = w.drewN q)) (fun i _ => n - (intOf i).toNat)
  case atStart => exact ⟨0, Nat.zero_le _, rfl, by simp [Hid, isN], 0, rfl⟩
  case round =>
    obtain ⟨k, hk, rfl, HF, HW⟩ := hrel
    have d2 : wr.cell? ⟨A.q, 2, none⟩ = some (.slice ao n cap) := by obtain ⟨q, e⟩ := HW.out; rw [e]; exact c2 q
    by_cases hlt : k < n
    · have hkz : (k : Int) < (n : Int) := by omega
      obtain ⟨p, hq⟩ : ∃ p, notes[k]? = some p := ⟨_, List.getElem?_eq_getElem (by have := HN.out; omega)⟩
      obtain ⟨g, rfl, d0, d1⟩ := HR.out k p hq
      have e0 : wr.cell? ⟨g, k * 2, none⟩ = some (.int .i64 p.1) := by obtain ⟨q, e⟩ := HW.out; rw [e]; exact d0
      have e1 : wr.cell? ⟨g, k * 2 + 1, none⟩ = some (.int .i64 p.2) := by obtain ⟨q, e⟩ := HW.out; rw [e]; exact d1
      have hp1 := HP.out p (List.mem_of_getElem? hq)
      have HQ : Hid (notes[k]? = some p) := hq
      have HW2 : Hid (∀ q, ∃ q', wr.drewN q = w.drewN q') := fun q => by obtain ⟨q0, e⟩ := HW.out; exact ⟨q0 + q, by rw [e, World.drewN_drewN]⟩
      have hwr : IntKind.i64.wrap (s - p.1) = s - p.1 := by rw [IntKind.wrap_i64]; omega
      obtain ⟨p1, p2⟩ := p
      simp only at e0 e1 hp1 hwr
      clear d0 d1 hq HW
      by_cases h1 : p1 ≤ s
      · have b1 : decide (s ≥ p1) = true := decide_eq_true h1
        by_cases h2 : s - p1 < p2
        · have b2 : decide (s - p1 < p2) = true := decide_eq_true h2
          have HI : Hid (isN notes s = true) := isN_hit HQ.out h1 h2
          go_wp2
          go_quiet (fail)
          go_wp2
          go_ret
          rw [HI.out]
          exact ⟨rfl, HW2.out _⟩
        · have b2 : decide (s - p1 < p2) = false := decide_eq_false h2
          have HI : Hid (isN (notes.take (k + 1)) s = false) := by show _ = _; rw [isN_succ HQ.out, HF.out]; simp [h2]
          go_wp2
          go_quiet (fail)
          go_wp2
          go_roundw
          case rel => exact ⟨k + 1, by omega, by go_num, HI, HW2.out _⟩
          case measure => simp [intOf]; omega
      · have b1 : decide (s ≥ p1) = false := decide_eq_false h1
        have HI : Hid (isN (notes.take (k + 1)) s = false) := by show _ = _; rw [isN_succ HQ.out, HF.out]; simp [h1]
        go_wp2
        go_quiet (fail)
        go_wp2
        go_roundw
        case rel => exact ⟨k + 1, by omega, by go_num, HI, HW2.out _⟩
        case measure => simp [intOf]; omega
    · have hkz : ¬ (k : Int) < (n : Int) := by omega
      have HI : Hid (isN notes s = false) := by
        have h1 := HF.out
        rw [List.take_of_length_le (by have := HN.out; omega)] at h1
        exact h1
      go_wp2
      go_ret
      rw [HI.out]
      exact ⟨rfl, HW.out⟩
theorem Nodup_at {L : List Ln} (hd : (secs L).Nodup) {i j : Nat} {l l' : Ln} (hi : L[i]? = some l) (hj : L[j]? = some l') (e : l.sec = l'.sec) : i = j := by
  obtain ⟨h1, e1⟩ := List.getElem?_eq_some_iff.1 hi
  obtain ⟨h2, e2⟩ := List.getElem?_eq_some_iff.1 hj
  exact (List.getElem_inj (h₀ := by simpa using h1) (h₁ := by simpa using h2) hd).1 (by simp [e1, e2, e])
set_option maxHeartbeats 4000000 in
theorem rfind_at (h : RQ w A S C) {i : Nat} {l : Ln} (hi : C.L[i]? = some l) :
    Calls Tryz.prog 48 #[.pointer (some ⟨A.q, 0, none⟩), .int .i64 l.sec] w fun r w' => r = .returned (.int .i64 i) ∧ w' = w := by
  obtain ⟨ao, cap, hv⟩ := h.form
  have c3 : w.cell? ⟨A.q, 3, none⟩ = some (.slice ao A.X.length cap) := by rw [← hv]; exact h.c 3
  have hx1 := h.x1024
  have hln := h.ln
  have hil := (List.getElem?_eq_some_iff.1 hi).1
  have HR : Hid (∀ (k : Nat), k < A.X.length → ∃ g x, ao = some ⟨g, 0, none⟩ ∧ w.cell? ⟨g, k * 3, none⟩ = some (.int .i64 (x : Nat)) ∧ (k = i → x = l.sec) ∧ (k ≠ i → x ≠ l.sec)) := fun k hk => by
    have hx := List.getElem?_eq_getElem hk
    obtain ⟨g, e, _, k0, _⟩ := h.at_ hv hx
    obtain ⟨l', hl', e1, _⟩ := h.sim.get hx
    refine ⟨g, _, e, k0, fun e2 => ?_, fun e2 e3 => e2 (Nodup_at h.sd hl' hi (by rw [← e1, e3]))⟩
    subst e2
    rw [hi] at hl'
    cases hl'
    exact e1
  obtain ⟨n, hn⟩ : ∃ n, n = A.X.length := ⟨_, rfl⟩
  rw [← hn] at c3 hx1 HR hln
  have hin : i < n := by omega
  clear h hv hi hn hln hil
  go_enter Tryz.func48, Tryz.ntmps48
  go_wp2
  go_loopw [5] (fun j wr => ∃ k : Nat, k ≤ i ∧ j = .int .i64 k ∧ wr = w) (fun j _ => n - (intOf j).toNat)
  case atStart => exact ⟨0, Nat.zero_le _, rfl, rfl⟩
  case round =>
    obtain ⟨k, hk, rfl, rfl⟩ := hrel
    have hkz : (k : Int) < (n : Int) := by omega
    obtain ⟨g, x, rfl, d0, h1, h2⟩ := HR.out k (by omega)
    by_cases he : k = i
    · obtain rfl := h1 he
      subst he
      clear h1 h2
      go_wp2
      go_ret
      exact ⟨rfl, rfl⟩
    · have hne := h2 he
      have hne' : ¬ (x : Int) = (l.sec : Int) := by omega
      have hne2 : ((x : Int) == (l.sec : Int)) = false := by simpa using hne'
      clear h1 h2
      go_wp2
      go_roundw
      case rel => exact ⟨k + 1, by omega, by go_num, trivial⟩
      case measure => simp [intOf]; omega
set_option maxHeartbeats 4000000 in
theorem rfind_none (h : RQ w A S C) {s : Int} (hi : lineAt C.L s = none) :
    Calls Tryz.prog 48 #[.pointer (some ⟨A.q, 0, none⟩), .int .i64 s] w fun r w' => r = .returned (.int .i64 (-1)) ∧ w' = w := by
  obtain ⟨ao, cap, hv⟩ := h.form
  have c3 : w.cell? ⟨A.q, 3, none⟩ = some (.slice ao A.X.length cap) := by rw [← hv]; exact h.c 3
  have hx1 := h.x1024
  have HR : Hid (∀ (k : Nat), k < A.X.length → ∃ g x, ao = some ⟨g, 0, none⟩ ∧ w.cell? ⟨g, k * 3, none⟩ = some (.int .i64 (x : Nat)) ∧ (x : Int) ≠ s) := fun k hk => by
    have hx := List.getElem?_eq_getElem hk
    obtain ⟨g, e, _, k0, _⟩ := h.at_ hv hx
    obtain ⟨l', hl', e1, _⟩ := h.sim.get hx
    refine ⟨g, _, e, k0, fun e2 => ?_⟩
    exact lineAt_none hi l' (List.mem_of_getElem? hl') (by rw [← e1]; exact e2)
  obtain ⟨n, hn⟩ : ∃ n, n = A.X.length := ⟨_, rfl⟩
  rw [← hn] at c3 hx1 HR
  clear h hv hi hn
  go_enter Tryz.func48, Tryz.ntmps48
  go_wp2
  go_loopw [5] (fun j wr => ∃ k : Nat, k ≤ n ∧ j = .int .i64 k ∧ wr = w) (fun j _ => n - (intOf j).toNat)
  case atStart => exact ⟨0, Nat.zero_le _, rfl, rfl⟩
  case round =>
    obtain ⟨k, hk, rfl, rfl⟩ := hrel
    by_cases hlt : k < n
    · have hkz : (k : Int) < (n : Int) := by omega
      obtain ⟨g, x, rfl, d0, h2⟩ := HR.out k hlt
      have hne2 : ((x : Int) == s) = false := by simpa using h2
      go_wp2
      go_roundw
      case rel => exact ⟨k + 1, by omega, by go_num, trivial⟩
      case measure => simp [intOf]; omega
    · have hkz : ¬ (k : Int) < (n : Int) := by omega
      go_wp2
      go_ret
      exact ⟨rfl, rfl⟩
end
end Go.Proofs.YtlacligofhinmaaGreat.C
