import Derived.Test.YtfifaaopdhcaaaaGreatDoorY31
import Derived.Test.YtfifaaopdhcaaaaGreatDoorY32
import Derived.Test.YtfifaaopdhcaaaaGreatDoorY40
import Derived.Test.YtfifaaopdhcaaaaGreatDoorY33
import Derived.Test.YtfifaaopdhcaaaaGreatDoorY34
namespace Go.Proofs.YtfifaaopdhcaaaaGreatDoor
open Go.RowKit
set_option linter.unusedVariables false
set_option linter.unusedSimpArgs false
set_option maxRecDepth 100000
theorem sV_lenU (l : List Nat) (z a : Nat) : ∀ k, (sV l z a k).length = k
  | 0 => rfl
  | k + 1 => by show (sV l z a k ++ _).length = _; simp [sV_lenU l z a k]
theorem both_status0 (l : List Nat) (hl : ∀ x ∈ l, x < 256) (hs : l.length ≤ 1048576) : ∃ (c : Nat) (rs : List (Nat × Nat)) (er dn : Nat), (rs.length = dn ∧ dn ≤ 1048576) ∧ 
    (∀ W ao cap n, BRow W ao cap l → l.length = n → Calls Tryz.prog 20 #[.slice ao n cap, .bool false] W fun e w' => ∃ da dc, e = .returned (.tuple #[.agg #[.int .u32 (c : Int), .slice da dn dc], .int .i64 (er : Int)]) ∧ Runs w' da rs ∧ Below W.heap.size W w') ∧
    (∀ W ao cap n, CRow W ao cap l → l.length = n → Calls Tryz.prog 21 #[.slice ao n cap, .bool false] W fun e w' => ∃ da dc, e = .returned (.tuple #[.agg #[.int .u32 (c : Int), .slice da dn dc], .int .i64 (er : Int)]) ∧ Runs w' da rs ∧ Below W.heap.size W w') := by
  have hnz : nzW false = 4 := rfl
  have hhd : sHd false = 4 := rfl
  by_cases h0 : l.length < 4
  · have hS := st_short (l := l) false (by rw [hhd]; exact h0)
    refine ⟨0, [], 81, 0, ⟨rfl, by decide⟩, fun W ao cap n h hn => ?_, fun W ao cap n h hn => ?_⟩
    · refine Calls.mono (unpackStatus0_no ao cap n l W h hn 0 hS.1 81 (by decide) hS.2) ?_
      rintro e w' ⟨rfl, hb⟩
      exact ⟨none, 0, rfl, ⟨by simp, fun h => absurd rfl h⟩, hb⟩
    · refine Calls.mono (rStU0_short ao cap n W (by omega)) ?_
      rintro e w' ⟨rfl, hb⟩
      exact ⟨none, 0, rfl, ⟨by simp, fun h => absurd rfl h⟩, hb⟩
  · obtain ⟨q, r, hqr, hr⟩ : ∃ q r, l.length = 4 + 8 * q + r ∧ r < 8 := ⟨(l.length - 4) / 8, (l.length - 4) % 8, by omega, by omega⟩
    by_cases hr0 : r = 0
    · subst hr0
      have hS := st_full (l := l) false q (by rw [hnz, hhd]; omega) hs
      by_cases hq : q = 0
      · subst hq
        have hF : sFin l false 0 = 81 := by rw [hS.2]; cases sSd l false 0 <;> rfl
        refine ⟨0, [], 81, 0, ⟨rfl, by decide⟩, fun W ao cap n h hn => ?_, fun W ao cap n h hn => ?_⟩
        · refine Calls.mono (unpackStatus0_no ao cap n l W h hn 0 hS.1 81 (by decide) hF) ?_
          rintro e w' ⟨rfl, hb⟩
          exact ⟨none, 0, rfl, ⟨by simp, fun h => absurd rfl h⟩, hb⟩
        · refine Calls.mono (rStU0_short ao cap n W (by omega)) ?_
          rintro e w' ⟨rfl, hb⟩
          exact ⟨none, 0, rfl, ⟨by simp, fun h => absurd rfl h⟩, hb⟩
      · have hF : sFin l false q = 0 := by rw [hS.2, decide_eq_true (show 0 < q by omega)]; simp [sSd, ndE]
        have hh := s_head (l := l) false (by rw [hhd]; omega)
        have hV : sVal l false q = sV l 4 4 q := by unfold sVal; rw [hh.1]; rfl
        refine ⟨valB (l.take 4), sV l 4 4 q, 0, q, ⟨sV_lenU _ _ _ _, by omega⟩, fun W ao cap n h hn => ?_, fun W ao cap n h hn => ?_⟩
        · refine Calls.mono (unpackStatus0_ok ao cap n l W h hn q hS.1 hF) ?_
          rintro e w' ⟨ra, rc, rfl, hr9, hb⟩
          rw [hV] at hr9
          rw [rv_t (show 0 + 4 ≤ l.length by omega)]
          exact ⟨ra, rc, rfl, hr9, hb⟩
        · obtain ⟨b, off, rfl⟩ := h.some (by omega)
          exact rStU0_ok b off cap n q l W h hn (by omega) (by omega) (by omega) _ rfl
    · have hS := st_part (l := l) false q (by rw [hnz, hhd]; omega) (by rw [hnz, hhd]; omega) hs
      refine ⟨0, [], 81, 0, ⟨rfl, by decide⟩, fun W ao cap n h hn => ?_, fun W ao cap n h hn => ?_⟩
      · refine Calls.mono (unpackStatus0_no ao cap n l W h hn (q + 1) hS.1 81 (by decide) hS.2) ?_
        rintro e w' ⟨rfl, hb⟩
        exact ⟨none, 0, rfl, ⟨by simp, fun h => absurd rfl h⟩, hb⟩
      · by_cases hq : q = 0
        · refine Calls.mono (rStU0_short ao cap n W (by subst hq; omega)) ?_
          rintro e w' ⟨rfl, hb⟩
          exact ⟨none, 0, rfl, ⟨by simp, fun h => absurd rfl h⟩, hb⟩
        · refine Calls.mono (rStU0_part ao cap n q r W (by omega) (by omega) (by omega) (by omega) hr) ?_
          rintro e w' ⟨rfl, hb⟩
          exact ⟨none, 0, rfl, ⟨by simp, fun h => absurd rfl h⟩, hb⟩
theorem both_status1 (l : List Nat) (hl : ∀ x ∈ l, x < 256) (hs : l.length ≤ 1048576) : ∃ (c : Nat) (rs : List (Nat × Nat)) (er dn : Nat), (rs.length = dn ∧ dn ≤ 1048576) ∧ 
    (∀ W ao cap n, BRow W ao cap l → l.length = n → Calls Tryz.prog 20 #[.slice ao n cap, .bool true] W fun e w' => ∃ da dc, e = .returned (.tuple #[.agg #[.int .u32 (c : Int), .slice da dn dc], .int .i64 (er : Int)]) ∧ Runs w' da rs ∧ Below W.heap.size W w') ∧
    (∀ W ao cap n, CRow W ao cap l → l.length = n → Calls Tryz.prog 21 #[.slice ao n cap, .bool true] W fun e w' => ∃ da dc, e = .returned (.tuple #[.agg #[.int .u32 (c : Int), .slice da dn dc], .int .i64 (er : Int)]) ∧ Runs w' da rs ∧ Below W.heap.size W w') := by
  have hnz : nzW true = 8 := rfl
  have hhd : sHd true = 8 := rfl
  by_cases h0 : l.length < 8
  · have hS := st_short (l := l) true (by rw [hhd]; exact h0)
    refine ⟨0, [], 81, 0, ⟨rfl, by decide⟩, fun W ao cap n h hn => ?_, fun W ao cap n h hn => ?_⟩
    · refine Calls.mono (unpackStatus1_no ao cap n l W h hn 0 hS.1 81 (by decide) hS.2) ?_
      rintro e w' ⟨rfl, hb⟩
      exact ⟨none, 0, rfl, ⟨by simp, fun h => absurd rfl h⟩, hb⟩
    · refine Calls.mono (rStU1_short ao cap n W (by omega)) ?_
      rintro e w' ⟨rfl, hb⟩
      exact ⟨none, 0, rfl, ⟨by simp, fun h => absurd rfl h⟩, hb⟩
  · obtain ⟨q, r, hqr, hr⟩ : ∃ q r, l.length = 8 + 16 * q + r ∧ r < 16 := ⟨(l.length - 8) / 16, (l.length - 8) % 16, by omega, by omega⟩
    by_cases hr0 : r = 0
    · subst hr0
      have hS := st_full (l := l) true q (by rw [hnz, hhd]; omega) hs
      by_cases hq : q = 0
      · subst hq
        have hF : sFin l true 0 = 81 := by rw [hS.2]; cases sSd l true 0 <;> rfl
        refine ⟨0, [], 81, 0, ⟨rfl, by decide⟩, fun W ao cap n h hn => ?_, fun W ao cap n h hn => ?_⟩
        · refine Calls.mono (unpackStatus1_no ao cap n l W h hn 0 hS.1 81 (by decide) hF) ?_
          rintro e w' ⟨rfl, hb⟩
          exact ⟨none, 0, rfl, ⟨by simp, fun h => absurd rfl h⟩, hb⟩
        · refine Calls.mono (rStU1_short ao cap n W (by omega)) ?_
          rintro e w' ⟨rfl, hb⟩
          exact ⟨none, 0, rfl, ⟨by simp, fun h => absurd rfl h⟩, hb⟩
      · by_cases hc : valB ((l.drop 4).take 4) = q
        · have hrv : rvV l (raA l 0 4) 4 = q := by rw [ra_t (show 0 + 4 ≤ l.length by omega), rv_t (show 0 + 4 + 4 ≤ l.length by omega)]; exact hc
          have hF : sFin l true q = 0 := by rw [hS.2, decide_eq_true (show 0 < q by omega)]; simp [sSd, hrv, ndE]
          have hh := s_head (l := l) true (by rw [hhd]; omega)
          have hV : sVal l true q = sV l 8 8 q := by unfold sVal; rw [hh.1]; rfl
          refine ⟨valB (l.take 4), sV l 8 8 q, 0, q, ⟨sV_lenU _ _ _ _, by omega⟩, fun W ao cap n h hn => ?_, fun W ao cap n h hn => ?_⟩
          · refine Calls.mono (unpackStatus1_ok ao cap n l W h hn q hS.1 hF) ?_
            rintro e w' ⟨ra, rc, rfl, hr9, hb⟩
            rw [hV] at hr9
            rw [rv_t (show 0 + 4 ≤ l.length by omega)]
            exact ⟨ra, rc, rfl, hr9, hb⟩
          · obtain ⟨b, off, rfl⟩ := h.some (by omega)
            exact rStU1_ok b off cap n q l W h hn (by omega) (by omega) (by omega) hc _ rfl
        · have hrv : rvV l (raA l 0 4) 4 ≠ q := by rw [ra_t (show 0 + 4 ≤ l.length by omega), rv_t (show 0 + 4 + 4 ≤ l.length by omega)]; exact hc
          have hF : sFin l true q = 81 := by rw [hS.2, decide_eq_true (show 0 < q by omega)]; simp [sSd, hrv, ndE]
          refine ⟨0, [], 81, 0, ⟨rfl, by decide⟩, fun W ao cap n h hn => ?_, fun W ao cap n h hn => ?_⟩
          · refine Calls.mono (unpackStatus1_no ao cap n l W h hn q hS.1 81 (by decide) hF) ?_
            rintro e w' ⟨rfl, hb⟩
            exact ⟨none, 0, rfl, ⟨by simp, fun h => absurd rfl h⟩, hb⟩
          · obtain ⟨b, off, rfl⟩ := h.some (by omega)
            refine Calls.mono (rStU1_count b off cap n q l W h hn (by omega) (by omega) (by omega) _ rfl hc) ?_
            rintro e w' ⟨rfl, hb⟩
            exact ⟨none, 0, rfl, ⟨by simp, fun h => absurd rfl h⟩, hb⟩
    · have hS := st_part (l := l) true q (by rw [hnz, hhd]; omega) (by rw [hnz, hhd]; omega) hs
      refine ⟨0, [], 81, 0, ⟨rfl, by decide⟩, fun W ao cap n h hn => ?_, fun W ao cap n h hn => ?_⟩
      · refine Calls.mono (unpackStatus1_no ao cap n l W h hn (q + 1) hS.1 81 (by decide) hS.2) ?_
        rintro e w' ⟨rfl, hb⟩
        exact ⟨none, 0, rfl, ⟨by simp, fun h => absurd rfl h⟩, hb⟩
      · by_cases hq : q = 0
        · refine Calls.mono (rStU1_short ao cap n W (by subst hq; omega)) ?_
          rintro e w' ⟨rfl, hb⟩
          exact ⟨none, 0, rfl, ⟨by simp, fun h => absurd rfl h⟩, hb⟩
        · refine Calls.mono (rStU1_part ao cap n q r W (by omega) (by omega) (by omega) (by omega) hr) ?_
          rintro e w' ⟨rfl, hb⟩
          exact ⟨none, 0, rfl, ⟨by simp, fun h => absurd rfl h⟩, hb⟩
end Go.Proofs.YtfifaaopdhcaaaaGreatDoor
