import Derived.Test.YthmonfmpgjbhmabWA
import Derived.Deep.RegionHeld3
namespace Go.Proofs.Ythmonfmpgjbhmab.K
open Go.RowKit Go.Maps Go.Proofs.Ythmonfmpgjbhmab
attribute [local go_sem] Oper.semAt_some
set_option linter.unusedVariables false
set_option linter.unusedSimpArgs false
set_option maxRecDepth 100000

theorem lastQ_cons (s : Nat) (x : Pu) (r : List Pu) : lastQ s (x :: r) = (lastQ s r).or (if x.1 = s then some x.2 else none) := by
  conv => lhs; unfold lastQ
  cases lastQ s r <;> rfl
theorem lastQ_append (s : Nat) (a b : List Pu) : lastQ s (a ++ b) = (lastQ s b).or (lastQ s a) := by
  induction a with
  | nil => simp [lastQ]
  | cons x r ih => rw [List.cons_append, lastQ_cons, ih, lastQ_cons, Option.or_assoc]
/-- the last write of a sector in a list -/
def lastV (s : Int) : List Pv → Option Pv
  | [] => none
  | x :: r => (lastV s r).or (if (x.1 : Int) = s then some x else none)
theorem lastV_mem {s : Int} {x : Pv} : ∀ {Q : List Pv}, lastV s Q = some x → x ∈ Q ∧ (x.1 : Int) = s
  | [], h => by cases h
  | y :: r, h => by
    unfold lastV at h
    cases hr : lastV s r with
    | some z => rw [hr] at h; simp at h; subst h; obtain ⟨h1, h2⟩ := lastV_mem hr; exact ⟨List.mem_cons_of_mem _ h1, h2⟩
    | none =>
      rw [hr] at h
      simp at h
      obtain ⟨h1, rfl⟩ := h
      exact ⟨by simp, h1⟩
theorem lastV_none {s : Int} : ∀ {Q : List Pv}, (∀ x ∈ Q, (x.1 : Int) ≠ s) → lastV s Q = none
  | [], _ => rfl
  | y :: r, h => by
    unfold lastV
    rw [lastV_none (fun x hx => h x (List.mem_cons_of_mem _ hx)), if_neg (h y (by simp))]
    rfl
theorem lastV_cons (s : Int) (x : Pv) (r : List Pv) : lastV s (x :: r) = (lastV s r).or (if (x.1 : Int) = s then some x else none) := rfl
theorem lastV_bare (s : Nat) : ∀ (Q : List Pv), (lastV s Q).map (fun x => x.2.2) = lastQ s (Q.map bare)
  | [] => rfl
  | y :: r => by
    rw [List.map_cons, lastQ_cons, ← lastV_bare s r, lastV_cons]
    have e2 : (bare y).1 = y.1 ∧ (bare y).2 = y.2.2 := ⟨rfl, rfl⟩
    rw [e2.1, e2.2]
    cases lastV s r with
    | some z => rfl
    | none =>
      by_cases e : y.1 = s
      · rw [if_pos (by omega), if_pos e]; rfl
      · rw [if_neg (by omega), if_neg e]; rfl
theorem lastV_at {s : Int} {x : Pv} : ∀ {Q : List Pv} {i : Nat}, Q[i]? = some x → (x.1 : Int) = s → (∀ (j : Nat) y, i < j → Q[j]? = some y → (y.1 : Int) ≠ s) → lastV s Q = some x
  | [], i, h, _, _ => by simp at h
  | y :: r, 0, h, hs, hn => by
    simp at h; subst h
    unfold lastV
    rw [lastV_none (fun z hz => by obtain ⟨j, hj⟩ := List.getElem?_of_mem hz; exact hn (j + 1) z (by omega) (by simpa using hj)), if_pos hs]
    rfl
  | y :: r, i + 1, h, hs, hn => by
    unfold lastV
    rw [lastV_at (i := i) (by simpa using h) hs (fun j z hj hz => hn (j + 1) z (by omega) (by simpa using hz))]
    rfl
theorem qcells_get : ∀ {Q : List Pv} {i : Nat} {x : Pv}, Q[i]? = some x → (qcells Q)[i * 2]? = some (.int .i64 x.1) ∧ (qcells Q)[i * 2 + 1]? = some x.2.1
  | [], i, x, h => by simp at h
  | y :: r, 0, x, h => by simp at h; subst h; exact ⟨rfl, rfl⟩
  | y :: r, i + 1, x, h => by
    have ih := qcells_get (Q := r) (i := i) (by simpa using h)
    have e : qcells (y :: r) = [.int .i64 y.1, y.2.1] ++ qcells r := by simp [qcells, qcell]
    rw [e, List.getElem?_append_right (by simp; omega), List.getElem?_append_right (by simp; omega)]
    rw [show (i + 1) * 2 - ([.int .i64 y.1, y.2.1] : List Value).length = i * 2 by simp; omega, show (i + 1) * 2 + 1 - ([.int .i64 y.1, y.2.1] : List Value).length = i * 2 + 1 by simp; omega]
    exact ih
theorem qrow_at {w : World} {B g n cap : Nat} {Q : List Pv} (h : w.ownsRow B TPt 2 (.slice (some ⟨g, 0, none⟩) n cap) n (qcells Q)) {i : Nat} {x : Pv} (hi : Q[i]? = some x) (hn : Q.length = n) : w.cell? ⟨g, i * 2, none⟩ = some (.int .i64 x.1) ∧ w.cell? ⟨g, i * 2 + 1, none⟩ = some x.2.1 := by
  have hlt := (List.getElem?_eq_some_iff.1 hi).1
  obtain ⟨h1, h2⟩ := qcells_get hi
  exact ⟨(h.cellAt _ (by omega)).trans h1, (h.cellAt _ (by omega)).trans h2⟩
/-- what laid wants of a sector, by the first writes -/
def wantV (z : Value) (s : Int) (ps : List Pv) : Value := match lastV s ps with
  | some x => x.2.1
  | none => z
def wantL (z : Bl) (s : Int) (ps : List Pv) : Bl := match lastV s ps with
  | some x => x.2.2
  | none => z
theorem lastV_snoc (s : Int) (ps : List Pv) (x : Pv) : lastV s (ps ++ [x]) = if (x.1 : Int) = s then some x else lastV s ps := by
  induction ps with
  | nil => simp [lastV]
  | cons y r ih =>
    rw [List.cons_append, lastV_cons, ih, lastV_cons]
    by_cases e : (x.1 : Int) = s
    · rw [if_pos e, if_pos e]; rfl
    · rw [if_neg e, if_neg e]
theorem wantL_bare (z : Bl) (s : Nat) (ps : List Pv) : wantL z s ps = (lastQ s (ps.map bare)).getD z := by
  rw [← lastV_bare]
  unfold wantL
  cases lastV s ps <;> rfl
set_option maxHeartbeats 8000000 in
theorem laid_yes {W : World} {g cap g' cap' n : Nat} {F F' : Nat → Bl} {B : Nat} {qv : Value} {ps : List Pv} (h : Img W g cap n F) (h' : Img W g' cap' n F') (hq : W.ownsRow B TPt 2 qv ps.length (qcells ps)) (hd : ∀ x ∈ ps, W.ownsRow 0 5 1 x.2.1 512 (x.2.2.map bv)) (hok : ∀ x ∈ ps, OkB x.2.2) (hl : ps.length ≤ 1048576) (he : ∀ s, s < n → F' s = (lastQ s (ps.map bare)).getD (F s)) :
    Calls Try.prog 15 #[.slice (some ⟨g, 0, none⟩) (n * 512) cap, qv, .slice (some ⟨g', 0, none⟩) (n * 512) cap'] W fun r W' => r = .returned (.bool true) ∧ Below W.heap.size W W' := by
  obtain ⟨qo, qc, rfl⟩ := own_slice hq
  obtain ⟨m, hm⟩ : ∃ m, m = ps.length := ⟨_, rfl⟩
  have HM : Hid (ps.length = m) := hm.symm
  rw [← hm] at hq hl ⊢
  have HI : Hid (Img W g cap n F ∧ Img W g' cap' n F') := ⟨h, h'⟩
  have HQ : Hid (W.ownsRow B TPt 2 (.slice qo m qc) m (qcells ps)) := hq
  have HD : Hid (∀ x ∈ ps, W.ownsRow 0 5 1 x.2.1 512 (x.2.2.map bv)) := hd
  have HO : Hid (∀ x ∈ ps, OkB x.2.2) := hok
  have HE : Hid (∀ s, s < n → F' s = (lastQ s (ps.map bare)).getD (F s)) := he
  have hn1 := h.n1
  have hdv : (((n * 512 : Nat) : Int)).tdiv 512 = (n : Int) := by rw [Int.tdiv_eq_ediv_of_nonneg (by omega)]; omega
  have hdv2 : ((n : Int) * 512).tdiv 512 = (n : Int) := by rw [Int.tdiv_eq_ediv_of_nonneg (by omega)]; omega
  clear h h' hq hd hok he hm
  go_enter Try.func15, Try.ntmps15
  go_wp2
  go_loopw [7] (fun c wr => ∃ s : Nat, s ≤ n ∧ c = .int .i64 s ∧ Hid (Below W.heap.size W wr)) (fun c _ => n - (intOf c).toNat)
  case atStart => exact ⟨0, Nat.zero_le _, rfl, Below.refl _ _⟩
  case round =>
    obtain ⟨s, hs, rfl, HB⟩ := hrel
    obtain ⟨Wo, hWo⟩ : ∃ Wo, Wo = wr := ⟨_, rfl⟩
    subst hWo
    by_cases hlt : s < n
    · have hse := sector_any (HI.out.1.later HB.out) hlt
      have hslt : (s : Int) < (n : Int) := by omega
      go_wp2_with fail
      refine hse.mono ?_
      clear hse
      rintro e w1 ⟨rfl, rfl⟩
      go_wp2
      go_loopw [8, 9] (fun c8 c9 wr => ∃ i : Nat, i ≤ m ∧ c9 = .int .i64 i ∧ c8 = wantV (.slice (some ⟨g, s * 512, none⟩) 512 (cap - s * 512)) s (ps.take i) ∧ Hid (Below W.heap.size W wr)) (fun _ c9 _ => m - (intOf c9).toNat)
      case atStart => exact ⟨0, Nat.zero_le _, rfl, rfl, HB⟩
      case round =>
        obtain ⟨i, hi, rfl, rfl, HB2⟩ := hrel
        by_cases hlt2 : i < m
        · obtain ⟨x, hx⟩ : ∃ x, ps[i]? = some x := ⟨_, List.getElem?_eq_getElem (by have := HM.out; omega)⟩
          obtain ⟨gq, hgq⟩ : ∃ gq, qo = some ⟨gq, 0, none⟩ := by
            rcases HQ.out.2 with ⟨e, h0⟩ | ⟨g, cap', cur, e, _⟩
            · omega
            · simp at e; exact ⟨g, e.1⟩
          subst hgq
          obtain ⟨q0, q1⟩ := qrow_at (ownsRow_block HQ.out (w' := wr) (fun x e => HB2.out.block x (row_lt HQ.out x e).1)) hx HM.out
          obtain ⟨vo, vc, hv⟩ := own_slice (HD.out x (List.mem_of_getElem? hx))
          rw [hv] at q1
          have HX : Hid (ps.take (i + 1) = ps.take i ++ [x]) := by show _ = _; rw [List.take_add_one, hx]; rfl
          have HV : Hid (x.2.1 = .slice vo 512 vc) := hv
          clear hx hv
          generalize hwv : wantV (.slice (some ⟨g, s * 512, none⟩) 512 (cap - s * 512)) s (ps.take i) = wv
          by_cases hxs : (x.1 : Int) = (s : Int)
          · have HN : Hid (.slice vo 512 vc = wantV (.slice (some ⟨g, s * 512, none⟩) 512 (cap - s * 512)) s (ps.take (i + 1))) := by
              show _ = _
              unfold wantV
              rw [HX.out, lastV_snoc, if_pos hxs]
              exact HV.out.symm
            have hxs' : x.1 = s := by omega
            rw [hxs'] at q0
            clear hwv hxs
            go_wp2
            go_roundw
            case rel => exact ⟨i + 1, by omega, by go_num, HN.out, HB2⟩
            case measure => simp [intOf]; omega
          · have HN : Hid (wv = wantV (.slice (some ⟨g, s * 512, none⟩) 512 (cap - s * 512)) s (ps.take (i + 1))) := by
              show _ = _
              rw [← hwv]
              unfold wantV
              rw [HX.out, lastV_snoc, if_neg hxs]
            have hxs' : ¬ (x.1 = s) := by omega
            clear hwv
            go_wp2
            go_roundw
            case rel => exact ⟨i + 1, by omega, by go_num, HN.out, HB2⟩
            case measure => simp [intOf]; omega
        · have e : i = m := by omega
          subst e
          have htk : ps.take i = ps := List.take_of_length_le (by have := HM.out; omega)
          rw [htk]
          have hI := HI.out.1.later HB2.out
          have hI' := HI.out.2.later HB2.out
          obtain ⟨a1, c1, hwv, hbr⟩ : ∃ a1 c1, wantV (.slice (some ⟨g, s * 512, none⟩) 512 (cap - s * 512)) s ps = .slice a1 512 c1 ∧ BRow wr a1 c1 (F' s) := by
            rw [HE.out s hlt, ← wantL_bare]
            unfold wantV wantL
            cases hv : lastV s ps with
            | none => exact ⟨_, _, rfl, hI.sec hlt _⟩
            | some x =>
              have hx := (lastV_mem hv).1
              have hok := HO.out x hx
              have d1 := HD.out x hx
              exact own_brow (ownsRow_block d1 (w' := wr) (fun y e => HB2.out.block y (row_lt d1 y e).1)) hok.len hok.lt (by decide)
          rw [hwv]
          have hse := sector_any hI' hlt
          have hsm := same_any a1 (some ⟨g', s * 512, none⟩) c1 (cap' - s * 512) (F' s) (F' s) wr hbr (hI'.sec hlt _)
          rw [(hI'.ok s hlt).len, decide_eq_true rfl] at hsm
          clear htk hI hI' hbr hwv
          go_wp2_with fail
          refine hse.mono ?_
          clear hse
          rintro e w1 ⟨rfl, rfl⟩
          go_wp2_with fail
          refine hsm.mono ?_
          clear hsm
          rintro e w2 ⟨rfl, q, rfl⟩
          have HB3 : Hid (Below W.heap.size W (w1.drewN q)) := HB2.out.trans ((w_drewN w1 q).mono HB2.out.size)
          go_wp2
          go_roundw
          case rel => exact ⟨s + 1, by omega, by go_num, HB3⟩
          case measure => simp [intOf]; omega
    · have e : s = n := by omega
      subst e
      go_wp2
      go_ret
      exact ⟨rfl, HB.out⟩
end Go.Proofs.Ythmonfmpgjbhmab.K
