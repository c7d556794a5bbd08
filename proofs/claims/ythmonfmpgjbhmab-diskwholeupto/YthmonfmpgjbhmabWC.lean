import Derived.Test.YthmonfmpgjbhmabWB
import Derived.Deep.RegionHeld3
namespace Go.Proofs.Ythmonfmpgjbhmab.K
open Go.RowKit Go.Maps Go.Proofs.Ythmonfmpgjbhmab
attribute [local go_sem] Oper.semAt_some
set_option linter.unusedVariables false
set_option linter.unusedSimpArgs false
set_option maxRecDepth 100000

set_option maxHeartbeats 8000000 in
theorem among_yes {W : World} {g cap g' cap' n : Nat} {F F' : Nat → Bl} {B : Nat} {qv : Value} {ps : List Pv} (h : Img W g cap n F) (h' : Img W g' cap' n F') (hq : W.ownsRow B TPt 2 qv ps.length (qcells ps)) (hd : ∀ x ∈ ps, W.ownsRow 0 5 1 x.2.1 512 (x.2.2.map bv)) (hok : ∀ x ∈ ps, OkB x.2.2) (hl : ps.length ≤ 1048576) (he : ∀ s, s < n → F' s = F s ∨ ∃ x ∈ ps, x.1 = s ∧ F' s = x.2.2) :
    Calls Try.prog 17 #[.slice (some ⟨g, 0, none⟩) (n * 512) cap, qv, .slice (some ⟨g', 0, none⟩) (n * 512) cap'] W fun r W' => r = .returned (.bool true) ∧ Below W.heap.size W W' := by
  obtain ⟨qo, qc, rfl⟩ := own_slice hq
  obtain ⟨m, hm⟩ : ∃ m, m = ps.length := ⟨_, rfl⟩
  have HM : Hid (ps.length = m) := hm.symm
  rw [← hm] at hq hl ⊢
  have HI : Hid (Img W g cap n F ∧ Img W g' cap' n F') := ⟨h, h'⟩
  have HQ : Hid (W.ownsRow B TPt 2 (.slice qo m qc) m (qcells ps)) := hq
  have HD : Hid (∀ x ∈ ps, W.ownsRow 0 5 1 x.2.1 512 (x.2.2.map bv)) := hd
  have HO : Hid (∀ x ∈ ps, OkB x.2.2) := hok
  have HE : Hid (∀ s, s < n → F' s = F s ∨ ∃ x ∈ ps, x.1 = s ∧ F' s = x.2.2) := he
  have hn1 := h.n1
  have hdv : (((n * 512 : Nat) : Int)).tdiv 512 = (n : Int) := by rw [Int.tdiv_eq_ediv_of_nonneg (by omega)]; omega
  have hdv2 : ((n : Int) * 512).tdiv 512 = (n : Int) := by rw [Int.tdiv_eq_ediv_of_nonneg (by omega)]; omega
  clear h h' hq hd hok he hm
  go_enter Try.func17, Try.ntmps17
  go_wp2
  go_loopw [7] (fun c wr => ∃ s : Nat, s ≤ n ∧ c = .int .i64 s ∧ Hid (Below W.heap.size W wr)) (fun c _ => n - (intOf c).toNat)
  case atStart => exact ⟨0, Nat.zero_le _, rfl, Below.refl _ _⟩
  case round =>
    obtain ⟨s, hs, rfl, HB⟩ := hrel
    obtain ⟨Wo, hWo⟩ : ∃ Wo, Wo = wr := ⟨_, rfl⟩
    subst hWo
    by_cases hlt : s < n
    · have hse := sector_any (HI.out.2.later HB.out) hlt
      have hse2 := sector_any (HI.out.1.later HB.out) hlt
      have hslt : (s : Int) < (n : Int) := by omega
      have hsm := same_any (some ⟨g', s * 512, none⟩) (some ⟨g, s * 512, none⟩) (cap' - s * 512) (cap - s * 512) (F' s) (F s) Wo ((HI.out.2.later HB.out).sec hlt _) ((HI.out.1.later HB.out).sec hlt _)
      rw [(HI.out.2.ok s hlt).len, (HI.out.1.ok s hlt).len] at hsm
      go_wp2_with fail
      refine hse.mono ?_
      clear hse
      rintro e w1 ⟨rfl, rfl⟩
      go_wp2_with fail
      refine hse2.mono ?_
      clear hse2
      rintro e w2 ⟨rfl, rfl⟩
      go_wp2_with fail
      refine hsm.mono ?_
      clear hsm
      rintro e w3 ⟨rfl, q3, rfl⟩
      have HB3 : Hid (Below W.heap.size W (w2.drewN q3)) := HB.out.trans ((w_drewN w2 q3).mono HB.out.size)
      go_wp2
      go_loopw [9, 10] (fun c9 c10 wr => ∃ (i : Nat) (ok : Bool), i ≤ m ∧ c10 = .int .i64 i ∧ c9 = .bool ok ∧ Hid (ok = false → F' s ≠ F s ∧ ∀ x ∈ ps.take i, x.1 = s → F' s ≠ x.2.2) ∧ Hid (Below W.heap.size W wr)) (fun _ c10 _ => m - (intOf c10).toNat)
      case atStart => exact ⟨0, decide (F' s = F s), Nat.zero_le _, rfl, rfl, (fun h => ⟨by simpa using h, by simp⟩), HB3⟩
      case round =>
        obtain ⟨i, ok, hi, rfl, rfl, HK, HB2⟩ := hrel
        cases ok with
        | true =>
          by_cases hlt2 : i < m
          · have hl3 : (i : Int) < (m : Int) := by omega
            go_wp2
            go_roundw
            case rel => exact ⟨s + 1, by omega, by go_num, HB2⟩
            case measure => simp [intOf]; omega
          · have hl3 : ¬ (i : Int) < (m : Int) := by omega
            go_wp2
            go_roundw
            case rel => exact ⟨s + 1, by omega, by go_num, HB2⟩
            case measure => simp [intOf]; omega
        | false =>
          have HK2 : Hid (F' s ≠ F s ∧ ∀ x ∈ ps.take i, x.1 = s → F' s ≠ x.2.2) := HK.out rfl
          clear HK
          by_cases hlt2 : i < m
          · obtain ⟨x, hx⟩ : ∃ x, ps[i]? = some x := ⟨_, List.getElem?_eq_getElem (by have := HM.out; omega)⟩
            obtain ⟨gq, hgq⟩ : ∃ gq, qo = some ⟨gq, 0, none⟩ := by
              rcases HQ.out.2 with ⟨e, h0⟩ | ⟨g, cap', cur, e, _⟩
              · omega
              · simp at e; exact ⟨g, e.1⟩
            subst hgq
            obtain ⟨q0, q1⟩ := qrow_at (ownsRow_block HQ.out (w' := wr) (fun x e => HB2.out.block x (row_lt HQ.out x e).1)) hx HM.out
            have hok := HO.out x (List.mem_of_getElem? hx)
            have d1 := HD.out x (List.mem_of_getElem? hx)
            obtain ⟨vo, vc, hv, hbr⟩ := own_brow (ownsRow_block d1 (w' := wr) (fun y e => HB2.out.block y (row_lt d1 y e).1)) hok.len hok.lt (by decide)
            rw [hv] at q1
            have HX : Hid (ps.take (i + 1) = ps.take i ++ [x]) := by show _ = _; rw [List.take_add_one, hx]; rfl
            by_cases hxs : x.1 = s
            · have hsm := same_any (some ⟨g', s * 512, none⟩) vo (cap' - s * 512) vc (F' s) x.2.2 wr ((HI.out.2.later HB2.out).sec hlt _) hbr
              rw [(HI.out.2.ok s hlt).len, hok.len] at hsm
              rw [hxs] at q0
              clear hx hok d1 hv hbr
              go_wp2_with fail
              refine hsm.mono ?_
              clear hsm
              rintro e w2' ⟨rfl, q, rfl⟩
              go_wp2
              go_roundw
              case rel => exact ⟨i + 1, decide (F' s = x.2.2), by omega, by go_num, rfl, (fun h => ⟨HK2.out.1, fun y hy he => by
                rw [HX.out] at hy
                rcases List.mem_append.1 hy with hy | hy
                · exact HK2.out.2 y hy he
                · simp at hy; subst hy; simpa using h⟩), HB2.out.trans ((w_drewN wr _).mono HB2.out.size)⟩
              case measure => simp [intOf]; omega
            · have hxs' : ((x.1 : Int) == (s : Int)) = false := by simp; omega
              have hxs2 : ¬ ((x.1 : Int) = (s : Int)) := by omega
              clear hx hok d1 hv hbr
              go_wp2
              go_roundw
              case rel => exact ⟨i + 1, false, by omega, by go_num, rfl, (fun h => ⟨HK2.out.1, fun y hy he => by
                rw [HX.out] at hy
                rcases List.mem_append.1 hy with hy | hy
                · exact HK2.out.2 y hy he
                · simp at hy; subst hy; exact absurd he hxs⟩), HB2⟩
              case measure => simp [intOf]; omega
          · exfalso
            obtain ⟨k1, k2⟩ := HK2.out
            rcases HE.out s hlt with h1 | ⟨x, hx, h1, h2⟩
            · exact k1 h1
            · rw [List.take_of_length_le (by have := HM.out; omega)] at k2
              exact k2 x hx h1 h2
    · have e : s = n := by omega
      subst e
      go_wp2
      go_ret
      exact ⟨rfl, HB.out⟩
end Go.Proofs.Ythmonfmpgjbhmab.K
