import Derived.Test.YtfifaaopdhcaaaaGreatDoorY18
import Derived.Test.YtfifaaopdhcaaaaGreatDoorY19
import Derived.Test.YtfifaaopdhcaaaaGreatDoorY20
import Derived.Test.YtfifaaopdhcaaaaGreatDoorY22
import Derived.Test.YtfifaaopdhcaaaaGreatDoorY24
import Derived.Test.YtfifaaopdhcaaaaGreatDoorY26
import Derived.Test.YtfifaaopdhcaaaaGreatDoorY13
import Derived.Deep.RegionHeld3
namespace Go.Proofs.YtfifaaopdhcaaaaGreatDoor
open Go.RowKit
set_option linter.unusedVariables false
set_option linter.unusedSimpArgs false
set_option maxRecDepth 100000
theorem nd_f0 : ndE false 0 = 81 := rfl
theorem nd_81 (b : Bool) : ndE b 81 = 81 := by cases b <;> rfl
theorem nd_170 (b : Bool) : ndE b 170 = 170 := by cases b <;> rfl
section
variable {l : List Nat}
theorem ok_t {a k : Nat} (h : a + k ≤ l.length) : okR l a k = true := by simp [okR]; exact h
theorem ok_f {a k : Nat} (h : l.length < a + k) : okR l a k = false := by simp [okR]; exact h
theorem rv_t {a k : Nat} (h : a + k ≤ l.length) : rvV l a k = valB ((l.drop a).take k) := by unfold rvV; rw [if_pos (ok_t h)]
theorem ra_t {a k : Nat} (h : a + k ≤ l.length) : raA l a k = a + k := by unfold raA; rw [if_pos (ok_t h)]
theorem rr_t {a k : Nat} (h : a + k ≤ l.length) : rrL l a k = (l.drop a).take k := by unfold rrL; rw [if_pos (ok_t h)]
theorem rr_rest {a : Nat} (h : a ≤ l.length) : rrL l a (l.length - a) = l.drop a := by
  rw [rr_t (by omega), List.take_of_length_le (by rw [List.length_drop]; exact Nat.le_refl _)]
theorem okT_iff {a : Nat} : okT l a = true ↔ a + 4 ≤ l.length ∧ valB ((l.drop a).take 4) ≤ 4096 ∧ a + 4 + valB ((l.drop a).take 4) ≤ l.length ∧ tx (bstr ((l.drop (a + 4)).take (valB ((l.drop a).take 4)))) = true := by
  unfold okT tx
  simp only [Bool.and_eq_true, decide_eq_true_eq, okR]
  constructor
  · rintro ⟨h1, h2, h3, h4⟩
    refine ⟨h1, h2, h3, ?_, h4⟩
    rw [bstr_size, List.length_take, List.length_drop]; omega
  · rintro ⟨h1, h2, h3, _, h4⟩
    exact ⟨h1, h2, h3, h4⟩
theorem okT_drop {a : Nat} (ha : a ≤ l.length) : okT (l.drop a) 0 = okT l a := by
  rw [Bool.eq_iff_iff, okT_iff, okT_iff]
  simp only [List.length_drop, List.drop_drop, List.drop_zero, Nat.zero_add, Nat.add_zero]
  have e : a + (l.length - a) = l.length := by omega
  constructor
  · rintro ⟨h1, h2, h3, h4⟩; exact ⟨by omega, h2, by omega, by simpa [Nat.add_comm] using h4⟩
  · rintro ⟨h1, h2, h3, h4⟩; exact ⟨by omega, h2, by omega, by simpa [Nat.add_comm] using h4⟩
theorem tvS_drop {a : Nat} (ha : a ≤ l.length) : tvS (l.drop a) 0 = tvS l a := by
  unfold tvS
  rw [okT_drop ha]
  simp [List.drop_drop, Nat.add_comm]
theorem taA_drop {a : Nat} (ha : a ≤ l.length) : taA l a = a + taA (l.drop a) 0 := by
  unfold taA
  rw [okT_drop ha]
  split
  · simp; omega
  · rfl
theorem taA_le {a : Nat} (ha : a ≤ l.length) : taA l a ≤ l.length := by
  unfold taA
  split
  · rename_i h; exact (okT_iff.1 h).2.2.1
  · exact ha
/-! a meta, a server's item -/
theorem mt_ok (h4 : 4 ≤ l.length) (ht : tx (bstr (l.drop 4)) = true) : mtE l = 0 := by
  unfold mtE
  rw [ra_t (by omega : 0 + 4 ≤ l.length), Nat.zero_add, rr_rest h4, ht, ok_t (by omega), ok_t (by omega), ra_t (by omega)]
  have : 4 + (l.length - 4) = l.length := by omega
  simp [this, ndE]
theorem mt_bad (h4 : 4 ≤ l.length) (ht : tx (bstr (l.drop 4)) = false) : mtE l = 81 := by
  unfold mtE
  rw [ra_t (by omega : 0 + 4 ≤ l.length), Nat.zero_add, rr_rest h4, ht, ok_t (by omega), ok_t (by omega)]
  exact nd_81 _
theorem mt_short (h4 : l.length < 4) : mtE l = 81 := by
  unfold mtE
  rw [ok_f (show l.length < 0 + 4 by omega), nd_f0, nd_81, nd_81, nd_81]
theorem sv_ok (ht : okT l 0 = true) : svE l = 0 := by
  have h := taA_le (l := l) (Nat.zero_le _)
  unfold svE
  rw [ht, ok_t (by omega), ra_t (by omega)]
  have : taA l 0 + (l.length - taA l 0) = l.length := by omega
  simp [this, ndE]
theorem sv_no (ht : okT l 0 = false) : svE l = 81 := by
  unfold svE
  rw [ht, nd_f0, nd_81, nd_81]
/-! a request for infos -/
theorem uA_t {a : Nat} : ∀ k, a + 2 * k ≤ l.length → uA l a k = a + 2 * k ∧ ∀ e, uE l a e k = e
  | 0, _ => ⟨rfl, fun _ => rfl⟩
  | k + 1, h => by
    obtain ⟨h1, h2⟩ := uA_t (a := a) k (by omega)
    refine ⟨?_, fun e => ?_⟩
    · show raA l (uA l a k) 2 = _
      rw [h1, ra_t (show a + 2 * k + 2 ≤ l.length by omega)]; omega
    · show ndE (okR l (uA l a k) 2) (uE l a e k) = _
      rw [h1, h2, ok_t (show a + 2 * k + 2 ≤ l.length by omega)]; rfl
theorem uE_f {a : Nat} (ha : a ≤ l.length) : ∀ k, l.length < a + 2 * k → uE l a 0 k = 81
  | 0, h => by omega
  | k + 1, h => by
    show ndE (okR l (uA l a k) 2) (uE l a 0 k) = _
    rcases Nat.lt_or_ge l.length (a + 2 * k) with h1 | h1
    · rw [uE_f ha k h1, nd_81]
    · obtain ⟨h2, h3⟩ := uA_t k h1
      rw [h2, h3, ok_f (show l.length < a + 2 * k + 2 by omega)]; rfl
theorem uE_81 {a : Nat} : ∀ k, uE l a 81 k = 81
  | 0 => rfl
  | k + 1 => by show ndE _ (uE l a 81 k) = _; rw [uE_81 k, nd_81]
theorem uE_170 {a : Nat} : ∀ k, uE l a 170 k = 170
  | 0 => rfl
  | k + 1 => by show ndE _ (uE l a 170 k) = _; rw [uE_170 k, nd_170]
theorem cnE_81 (n m : Nat) : cnE n m 81 = 81 := by unfold cnE; split <;> simp
theorem u_noT (ht : okT l 0 = false) : uFin l = 81 := by
  unfold uFin
  rw [ht, nd_f0, nd_81, cnE_81, uE_81, nd_81]
theorem u_short (ht : okT l 0 = true) (h2 : l.length < taA l 0 + 2) : uFin l = 81 := by
  unfold uFin
  rw [ht, ok_f h2]
  have e : ndE false (ndE true 0) = 81 := rfl
  rw [e, cnE_81, uE_81, nd_81]
theorem u_many (ht : okT l 0 = true) (h2 : taA l 0 + 2 ≤ l.length) (h3 : 64 < valB ((l.drop (taA l 0)).take 2)) : uFin l = 170 := by
  unfold uFin
  rw [ht, ok_t h2, rv_t h2]
  have e : ndE true (ndE true 0) = 0 := rfl
  have e2 : cnE (valB ((l.drop (taA l 0)).take 2)) 64 0 = 170 := by unfold cnE; rw [if_pos h3]; rfl
  rw [e, e2, uE_170, nd_170]
theorem u_cnt {v : Nat} (ht : okT l 0 = true) (h2 : taA l 0 + 2 ≤ l.length) (hv : valB ((l.drop (taA l 0)).take 2) = v) (h3 : v ≤ 64) : uCnt l = v ∧ uFin l = ndE (decide (uA l (taA l 0 + 2) v = l.length)) (uE l (taA l 0 + 2) 0 v) ∧ uVal l = uV l (taA l 0 + 2) v := by
  have e : ndE true (ndE true 0) = 0 := rfl
  have e2 : cnE v 64 0 = 0 := by unfold cnE; rw [if_neg (by omega)]
  have e3 : cnV v 64 0 = v := by unfold cnV; rw [e2]; rfl
  have hc : uCnt l = v := by unfold uCnt; rw [ht, ok_t h2, rv_t h2, hv, e, e3]
  refine ⟨hc, ?_, ?_⟩
  · unfold uFin
    rw [ht, ok_t h2, rv_t h2, hv, e, e2, e3, ra_t h2]
  · unfold uVal
    rw [hc, ra_t h2]
theorem u_form {v : Nat} (ht : okT l 0 = true) (h2 : taA l 0 + 2 ≤ l.length) (hv : valB ((l.drop (taA l 0)).take 2) = v) (h3 : v ≤ 64) (h4 : l.length ≠ taA l 0 + 2 + 2 * v) : uFin l = 81 := by
  rw [(u_cnt ht h2 hv h3).2.1]
  rcases Nat.lt_or_ge l.length (taA l 0 + 2 + 2 * v) with h5 | h5
  · rw [uE_f h2 v h5, nd_81]
  · obtain ⟨h6, h7⟩ := uA_t v h5
    rw [h6, h7, decide_eq_false (by omega)]; rfl
theorem u_okay {v : Nat} (ht : okT l 0 = true) (h2 : taA l 0 + 2 ≤ l.length) (hv : valB ((l.drop (taA l 0)).take 2) = v) (h3 : v ≤ 64) (h4 : l.length = taA l 0 + 2 + 2 * v) : uFin l = 0 := by
  rw [(u_cnt ht h2 hv h3).2.1]
  obtain ⟨h6, h7⟩ := uA_t (l := l) (a := taA l 0 + 2) v (by omega)
  rw [h6, h7, decide_eq_true (by omega)]; rfl
/-! a request for metas -/
theorem tE_81 {a : Nat} : ∀ k, tE l a 81 k = 81
  | 0 => rfl
  | k + 1 => by show ndE _ (tE l a 81 k) = _; rw [tE_81 k, nd_81]
theorem tE_170 {a : Nat} : ∀ k, tE l a 170 k = 170
  | 0 => rfl
  | k + 1 => by show ndE _ (tE l a 170 k) = _; rw [tE_170 k, nd_170]
theorem tA_le {a : Nat} (ha : a ≤ l.length) : ∀ k, tA l a k ≤ l.length
  | 0 => ha
  | k + 1 => taA_le (tA_le ha k)
theorem tE_stick {a k : Nat} (h0 : tE l a 0 k = 0) (h : okT l (tA l a k) = false) : ∀ j, k < j → tE l a 0 j = 81
  | 0, h => by omega
  | j + 1, hj => by
    show ndE (okT l (tA l a j)) (tE l a 0 j) = 81
    by_cases e : k = j
    · subst e; rw [h0, h]; rfl
    · rw [tE_stick h0 h j (by omega), nd_81]
theorem t_noT (ht : okT l 0 = false) : tFin l = 81 := by
  unfold tFin
  rw [ht, nd_f0, nd_81, cnE_81, tE_81, nd_81]
theorem t_short (ht : okT l 0 = true) (h2 : l.length < taA l 0 + 4) : tFin l = 81 := by
  unfold tFin
  rw [ht, ok_f h2]
  have e : ndE false (ndE true 0) = 81 := rfl
  rw [e, cnE_81, tE_81, nd_81]
theorem t_many (ht : okT l 0 = true) (h2 : taA l 0 + 4 ≤ l.length) (h3 : 16 < valB ((l.drop (taA l 0)).take 4)) : tFin l = 170 := by
  unfold tFin
  rw [ht, ok_t h2, rv_t h2]
  have e : ndE true (ndE true 0) = 0 := rfl
  have e2 : cnE (valB ((l.drop (taA l 0)).take 4)) 16 0 = 170 := by unfold cnE; rw [if_pos h3]; rfl
  rw [e, e2, tE_170, nd_170]
theorem t_cnt {v : Nat} (ht : okT l 0 = true) (h2 : taA l 0 + 4 ≤ l.length) (hv : valB ((l.drop (taA l 0)).take 4) = v) (h3 : v ≤ 16) : tCnt l = v ∧ tFin l = ndE (decide (tA l (taA l 0 + 4) v = l.length)) (tE l (taA l 0 + 4) 0 v) ∧ tVal l = tV l (taA l 0 + 4) v := by
  have e : ndE true (ndE true 0) = 0 := rfl
  have e2 : cnE v 16 0 = 0 := by unfold cnE; rw [if_neg (by omega)]
  have e3 : cnV v 16 0 = v := by unfold cnV; rw [e2]; rfl
  have hc : tCnt l = v := by unfold tCnt; rw [ht, ok_t h2, rv_t h2, hv, e, e3]
  refine ⟨hc, ?_, ?_⟩
  · unfold tFin
    rw [ht, ok_t h2, rv_t h2, hv, e, e2, e3, ra_t h2]
  · unfold tVal
    rw [hc, ra_t h2]
/-! a status -/
theorem s_at_ {z a : Nat} : ∀ k, a + 2 * z * k ≤ l.length → sA l z a k = a + 2 * z * k ∧ ∀ e, sE l z a e k = e
  | 0, _ => ⟨rfl, fun _ => rfl⟩
  | k + 1, h => by
    have e : 2 * z * (k + 1) = 2 * z * k + z + z := by rw [Nat.mul_add, Nat.mul_one]; omega
    obtain ⟨h1, h2⟩ := s_at_ (z := z) (a := a) k (by omega)
    refine ⟨?_, fun e' => ?_⟩
    · show raA l (raA l (sA l z a k) z) z = _
      rw [h1, ra_t (show a + 2 * z * k + z ≤ l.length by omega), ra_t (show a + 2 * z * k + z + z ≤ l.length by omega)]; omega
    · show ndE (okR l (raA l (sA l z a k) z) z) (ndE (okR l (sA l z a k) z) (sE l z a e' k)) = _
      rw [h1, h2, ra_t (show a + 2 * z * k + z ≤ l.length by omega), ok_t (show a + 2 * z * k + z ≤ l.length by omega), ok_t (show a + 2 * z * k + z + z ≤ l.length by omega)]; rfl
theorem s_last {z a k : Nat} (h : a + 2 * z * k ≤ l.length) (h2 : l.length < a + 2 * z * (k + 1)) : sE l z a 0 (k + 1) = 81 := by
  have e : 2 * z * (k + 1) = 2 * z * k + z + z := by rw [Nat.mul_add, Nat.mul_one]; omega
  obtain ⟨h1, h3⟩ := s_at_ (z := z) (a := a) k h
  show ndE (okR l (raA l (sA l z a k) z) z) (ndE (okR l (sA l z a k) z) (sE l z a 0 k)) = _
  rw [h1, h3]
  rcases Nat.lt_or_ge l.length (a + 2 * z * k + z) with h5 | h5
  · rw [ok_f h5, nd_f0, nd_81]
  · rw [ok_t h5, ra_t h5, ok_f (show l.length < a + 2 * z * k + z + z by omega)]; rfl
def sHd (wide : Bool) : Nat := if wide = true then 8 else 4
theorem s_head (wide : Bool) (h : sHd wide ≤ l.length) : sHa l wide = sHd wide ∧ sHe l wide = 0 := by
  cases wide
  · have h4 : 0 + 4 ≤ l.length := by simpa [sHd] using h
    simp [sHa, sHe, sHd, ra_t h4, ok_t h4, ndE]
  · have h8 : 8 ≤ l.length := by simpa [sHd] using h
    have h4 : 0 + 4 ≤ l.length := by omega
    simp only [sHa, sHe, sHd, if_true]
    rw [ra_t h4, Nat.zero_add, ra_t (show 4 + 4 ≤ l.length by omega), ok_t (show 4 + 4 ≤ l.length by omega), ok_t h4]
    exact ⟨rfl, rfl⟩
theorem s_headless (wide : Bool) (h : l.length < sHd wide) : sHe l wide = 81 := by
  cases wide
  · have h4 : l.length < 0 + 4 := by simpa [sHd] using h
    simp [sHe, ok_f h4, ndE]
  · have h8 : l.length < 8 := by simpa [sHd] using h
    simp only [sHe, if_true]
    rcases Nat.lt_or_ge l.length (0 + 4) with h4 | h4
    · rw [ok_f h4, nd_f0, nd_81]
    · rw [ok_t h4, ra_t h4, ok_f (show l.length < 0 + 4 + 4 by omega)]; rfl
theorem st_short (wide : Bool) (h : l.length < sHd wide) : Sto l wide 0 ∧ sFin l wide 0 = 81 := by
  have he := s_headless wide h
  refine ⟨⟨fun j hj => by omega, .inl (by show sHe l wide ≠ 0; rw [he]; decide), by decide⟩, ?_⟩
  unfold sFin
  show ndE _ (ndE _ (ndE _ (sHe l wide))) = _
  rw [he, nd_81, nd_81, nd_81]
theorem st_full (wide : Bool) (K : Nat) (h : l.length = sHd wide + 2 * nzW wide * K) (hl : l.length ≤ 1048576) : Sto l wide K ∧ sFin l wide K = ndE (sSd l wide K) (ndE (decide (0 < K)) 0) := by
  obtain ⟨h1, h2⟩ := s_head (l := l) wide (by omega)
  have hz : 1 ≤ 2 * nzW wide := by cases wide <;> decide
  have hm : ∀ j, j < K → 2 * nzW wide * j + 1 ≤ 2 * nzW wide * K := fun j hj => by
    have := Nat.mul_le_mul_left (2 * nzW wide) (show j + 1 ≤ K from hj)
    rw [Nat.mul_add, Nat.mul_one] at this; omega
  have hA : ∀ j, j ≤ K → sA l (nzW wide) (sHd wide) j = sHd wide + 2 * nzW wide * j ∧ ∀ e, sE l (nzW wide) (sHd wide) e j = e := fun j hj => s_at_ j (by
    have := Nat.mul_le_mul_left (2 * nzW wide) hj; omega)
  refine ⟨⟨fun j hj => ?_, .inr ?_, ?_⟩, ?_⟩
  · rw [h1, h2, (hA j (by omega)).1, (hA j (by omega)).2]; have := hm j hj; exact ⟨rfl, by omega⟩
  · rw [h1, (hA K (by omega)).1]; omega
  · have h9 : K ≤ 2 * nzW wide * K := Nat.le_mul_of_pos_left K hz
    omega
  · unfold sFin
    rw [h1, h2, (hA K (by omega)).1, (hA K (by omega)).2, decide_eq_true (by omega)]; rfl
theorem st_part (wide : Bool) (k : Nat) (h : sHd wide + 2 * nzW wide * k < l.length) (h2 : l.length < sHd wide + 2 * nzW wide * (k + 1)) (hl : l.length ≤ 1048576) : Sto l wide (k + 1) ∧ sFin l wide (k + 1) = 81 := by
  obtain ⟨h1, he⟩ := s_head (l := l) wide (by omega)
  have hz : 1 ≤ 2 * nzW wide := by cases wide <;> decide
  have hA : ∀ j, j ≤ k → sA l (nzW wide) (sHd wide) j = sHd wide + 2 * nzW wide * j ∧ ∀ e, sE l (nzW wide) (sHd wide) e j = e := fun j hj => s_at_ j (by
    have := Nat.mul_le_mul_left (2 * nzW wide) hj; omega)
  have hL := s_last (l := l) (z := nzW wide) (a := sHd wide) (k := k) (by omega) h2
  refine ⟨⟨fun j hj => ?_, .inl (by rw [h1, he, hL]; decide), ?_⟩, ?_⟩
  · have := Nat.mul_le_mul_left (2 * nzW wide) (show j ≤ k by omega)
    rw [h1, he, (hA j (by omega)).1, (hA j (by omega)).2]; exact ⟨rfl, by omega⟩
  · have h9 : k ≤ 2 * nzW wide * k := Nat.le_mul_of_pos_left k hz
    omega
  · unfold sFin
    rw [h1, he, hL, nd_81, nd_81, nd_81]
end
end Go.Proofs.YtfifaaopdhcaaaaGreatDoor

namespace Go.Proofs.YtfifaaopdhcaaaaGreatDoor
open Go.RowKit
set_option linter.unusedVariables false
set_option linter.unusedSimpArgs false
set_option maxRecDepth 100000
theorem val_lt {l : List Nat} (hl : ∀ x ∈ l, x < 256) (a k B : Nat) (hB : 256 ^ k ≤ B) : valB ((l.drop a).take k) < B := by
  exact Nat.lt_of_lt_of_le (valB_bound l a k hl) hB
theorem rnamed_yesA (ao : Option Addr) (cap n : Nat) (l : List Nat) (w : World) (h : CRow w ao cap l) (HN : Hid (l.length = n)) (hn : n ≤ 1048576) (ht : okT l 0 = true) :
    Calls Tryz.prog 46 #[.slice ao n cap] w fun e w' => ∃ ar, e = .returned (.tuple #[.string (tvS l 0), .slice ar (n - taA l 0) (cap - taA l 0), .bool true]) ∧ (∀ V, CRow V ao cap l → CRow V ar (cap - taA l 0) (l.drop (taA l 0))) ∧ Below w.heap.size w w' := by
  have hN := HN.out
  obtain ⟨h1, h2, h3, h4⟩ := okT_iff.1 ht
  obtain ⟨b, off, rfl⟩ := h.some (by omega)
  simp only [Nat.zero_add, List.drop_zero] at h1 h2 h3 h4
  have e1 : tvS l 0 = bstr ((l.drop 4).take (valB (l.take 4))) := by unfold tvS; rw [if_pos ht]; simp
  have e2 : taA l 0 = 4 + valB (l.take 4) := by unfold taA; rw [if_pos ht]; simp
  rw [e1, e2]
  exact rnamed_textA b off cap n _ l w h HN hn rfl h2 (by omega) true h4
theorem rnamed_yes (ao : Option Addr) (cap n : Nat) (l : List Nat) (w : World) (h : CRow w ao cap l) (HN : Hid (l.length = n)) (hn : n ≤ 1048576) (ht : okT l 0 = true) :
    Calls Tryz.prog 46 #[.slice ao n cap] w fun e w' => ∃ ar, e = .returned (.tuple #[.string (tvS l 0), .slice ar (n - taA l 0) (cap - taA l 0), .bool true]) ∧ CRow w' ar (cap - taA l 0) (l.drop (taA l 0)) ∧ Below w.heap.size w w' := by
  have hN := HN.out
  obtain ⟨h1, h2, h3, h4⟩ := okT_iff.1 ht
  obtain ⟨b, off, rfl⟩ := h.some (by omega)
  simp only [Nat.zero_add, List.drop_zero] at h1 h2 h3 h4
  have e1 : tvS l 0 = bstr ((l.drop 4).take (valB (l.take 4))) := by unfold tvS; rw [if_pos ht]; simp
  have e2 : taA l 0 = 4 + valB (l.take 4) := by unfold taA; rw [if_pos ht]; simp
  rw [e1, e2]
  exact rnamed_text b off cap n _ l w h HN hn rfl h2 (by omega) true h4
theorem rnamed_no (ao : Option Addr) (cap n : Nat) (l : List Nat) (w : World) (h : CRow w ao cap l) (HN : Hid (l.length = n)) (hn : n ≤ 1048576) (ht : okT l 0 = false) :
    Calls Tryz.prog 46 #[.slice ao n cap] w fun e w' => ∃ s ar m c, e = .returned (.tuple #[.string s, .slice ar m c, .bool false]) ∧ Below w.heap.size w w' := by
  have hN := HN.out
  by_cases h4 : n < 4
  · refine Calls.mono (rnamed_short ao cap n w h4) ?_
    rintro e w' ⟨rfl, hb⟩
    exact ⟨_, _, _, _, rfl, hb⟩
  · obtain ⟨b, off, rfl⟩ := h.some (by omega)
    have hv4 : valB (l.take 4) < 4294967296 := by have h9 := val_lt h.row.lt 0 4 _ (Nat.le_refl _); simpa using h9
    by_cases h5 : valB (l.take 4) ≤ 4096 ∧ 4 + valB (l.take 4) ≤ n
    · have h6 : tx (bstr ((l.drop 4).take (valB (l.take 4)))) = false := by
        cases h7 : tx (bstr ((l.drop 4).take (valB (l.take 4)))) with
        | false => rfl
        | true =>
          have := okT_iff.2 (show 0 + 4 ≤ l.length ∧ _ from ⟨by omega, by simpa using h5.1, by simp; omega, by simpa using h7⟩)
          rw [ht] at this; cases this
      refine Calls.mono (rnamed_text b off cap n _ l w h HN hn rfl h5.1 h5.2 false h6) ?_
      rintro e w' ⟨ar, rfl, _, hb⟩
      exact ⟨_, _, _, _, rfl, hb⟩
    · refine Calls.mono (rnamed_long b off cap n _ l w h HN hn (by omega) rfl (fun h => by omega) hv4) ?_
      rintro e w' ⟨rfl, hb⟩
      exact ⟨_, _, _, _, rfl, hb⟩
theorem copyN (ao : Option Addr) (cap n : Nat) (l : List Nat) (w : World) (h : BRow w ao cap l) (hn : l.length = n) :
    Calls Tryz.prog 40 #[.slice ao n cap] w fun e w' => ∃ ao2 cap2, e = .returned (.slice ao2 n cap2) ∧ w'.ownsRow w.heap.size 5 1 (.slice ao2 n cap2) n (l.map bv) ∧ Below w.heap.size w w' := by
  subst hn
  cases ao with
  | none =>
    obtain ⟨rfl, rfl⟩ := h.nil rfl
    refine (copy_none w).mono ?_
    rintro e w' ⟨rfl, rfl⟩
    exact ⟨_, _, rfl, World.ownsRow_nil _ _ _ _, Below.refl _ _⟩
  | some ad =>
    refine (copy_some ad cap l w h).mono ?_
    rintro e w' ⟨v, rfl, ho, hb⟩
    obtain ⟨ao2, cap2, rfl⟩ := owns_form ho
    exact ⟨ao2, cap2, rfl, ho, hb⟩
/-- the answer's box, and a row that lies elsewhere -/
structure Dr (w W : World) (zs : Array Value) (T : TypeId) (ao : Option Addr) (n cap : Nat) (l : List Nat) : Prop where
  bx : Bx1 w W zs T
  row : ∃ B, w.heap.size < B ∧ W.ownsRow B 5 1 (.slice ao n cap) n (l.map bv)
theorem Dr.later {w W V : World} {zs : Array Value} {T : TypeId} {ao : Option Addr} {n cap : Nat} {l : List Nat} (h : Dr w W zs T ao n cap l) (k : Below W.heap.size W V) : Dr w V zs T ao n cap l := by
  obtain ⟨B, hB, hr⟩ := h.row
  exact ⟨h.bx.later k, B, hB, owns_sameU hr (fun g hg => k.block g (owns_typeU hr g hg).2.2)⟩
theorem Dr.brow {w W V : World} {zs : Array Value} {T : TypeId} {ao : Option Addr} {n cap : Nat} {l : List Nat} (h : Dr w W zs T ao n cap l) (k : KeptIn (fun g => g = w.heap.size) W V) (hl : ∀ x ∈ l, x < 256) (hn : l.length = n) (hs : n ≤ 1048576) : BRow V ao cap l := by
  obtain ⟨B, hB, hr⟩ := h.row
  have hr2 : V.ownsRow B 5 1 (.slice ao n cap) n (l.map bv) := owns_sameU hr (fun g hg => k.block g (owns_typeU hr g hg).2.2 (by have := (owns_typeU hr g hg).2.1; omega))
  subst hn
  obtain ⟨ao', cap', hv, hb⟩ := BRow.own hr2 hl (by omega)
  simp only [Value.slice.injEq] at hv
  obtain ⟨rfl, _, rfl⟩ := hv
  exact hb
end Go.Proofs.YtfifaaopdhcaaaaGreatDoor
