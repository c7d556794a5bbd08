import Derived.Test.YtjikibhhhchgeaaDoorPUqj
import Derived.Test.YtjikibhhhchgeaaDoorPUtj
import Derived.Test.YtjikibhhhchgeaaDoorL3
import Derived.Test.YtjikibhhhchgeaaDoorL9
import Derived.Test.YtjikibhhhchgeaaDoorL4
import Derived.Test.YtjikibhhhchgeaaDoorPUuj
import Derived.Test.YtjikibhhhchgeaaDoorPUvj
import Derived.Test.YtjikibhhhchgeaaDoorPUwj
import Derived.Test.YtjikibhhhchgeaaDoorRPa
import Derived.Test.YtjikibhhhchgeaaDoorPPm
import Derived.Test.YtjikibhhhchgeaaDoorPPs
import Derived.Test.YtjikibhhhchgeaaDoorPIn
import Derived.Deep.RegionHeld3
namespace Go.Proofs.YtjikibhhhchgeaaDoor
open Go.RowKit
set_option linter.unusedVariables false
set_option linter.unusedSimpArgs false
set_option maxRecDepth 100000
/-- what is read at a place where a number lies -/
theorem rd_at {l pre tl : List Nat} (x k a : Nat) (h : l = pre ++ (bigTo x k k ++ tl)) (ha : pre.length = a) (hx : x < 256 ^ k) : okR l a k = true ∧ rvV l a k = x ∧ raA l a k = a + k := by
  have h1 : okR l a k = true := by
    unfold okR; rw [h]; simp [bigTo_length]; omega
  refine ⟨h1, ?_, ?_⟩
  · unfold rvV; rw [if_pos h1, h, ← ha, List.drop_left, List.take_left' (bigTo_length _ _ _)]
    exact valB_big x k hx
  · unfold raA; rw [if_pos h1]
theorem rr_at {l pre m tl : List Nat} (k a : Nat) (h : l = pre ++ (m ++ tl)) (ha : pre.length = a) (hm : m.length = k) : okR l a k = true ∧ rrL l a k = m ∧ raA l a k = a + k := by
  have h1 : okR l a k = true := by
    unfold okR; rw [h]; simp; omega
  refine ⟨h1, ?_, ?_⟩
  · unfold rrL; rw [if_pos h1, h, ← ha, List.drop_left, List.take_left' hm]
  · unfold raA; rw [if_pos h1]
theorem tx_at {l pre tl : List Nat} (s : ByteArray) (a : Nat) (h : l = pre ++ ((bigTo s.size 4 4 ++ sbytes s) ++ tl)) (ha : pre.length = a) (ht : tx s = true) : okT l a = true ∧ tvS l a = s ∧ taA l a = a + 4 + s.size := by
  obtain ⟨h1, h2⟩ := tx_true ht
  have h3 : l = pre ++ (bigTo s.size 4 4 ++ (sbytes s ++ tl)) := by rw [h]; simp
  have h4 : l = (pre ++ bigTo s.size 4 4) ++ (sbytes s ++ tl) := by rw [h]; simp
  obtain ⟨q1, q2, q3⟩ := rd_at s.size 4 a h3 ha (by omega)
  obtain ⟨p1, p2, p3⟩ := rr_at s.size (a + 4) h4 (by simp [bigTo_length, ha]) (sbytes_length s)
  have q4 : valB ((l.drop a).take 4) = s.size := by unfold rvV at q2; rw [if_pos q1] at q2; exact q2
  have p4 : (l.drop (a + 4)).take s.size = sbytes s := by unfold rrL at p2; rw [if_pos p1] at p2; exact p2
  have h0 : okT l a = true := by
    unfold okT; rw [q4, p4, q1, p1, bstr_sbytes, h2]; simp; omega
  refine ⟨h0, ?_, ?_⟩
  · unfold tvS; rw [if_pos h0, q4, p4, bstr_sbytes]
  · unfold taA; rw [if_pos h0, q4]
theorem flat_split {α : Type} (f : α → List Nat) (l : List α) (j : Nat) (hj : j < l.length) : l.flatMap f = (l.take j).flatMap f ++ (f l[j] ++ (l.drop (j + 1)).flatMap f) := by
  have e : l = l.take j ++ l[j] :: l.drop (j + 1) := by rw [← List.drop_eq_getElem_cons hj, List.take_append_drop]
  conv => lhs; rw [e]
  rw [List.flatMap_append, List.flatMap_cons]
theorem ndT (e : Nat) : ndE true e = e := rfl
/-- kinds -/
theorem u_at (ks : List Nat) (hk : ∀ x ∈ ks, x < 65536) {l pre tl : List Nat} (a : Nat) (h : l = pre ++ (u16L ks ++ tl)) (ha : pre.length = a) : ∀ j, j ≤ ks.length → uA l a j = a + 2 * j ∧ uE l a 0 j = 0 ∧ uV l a j = ks.take j
  | 0, _ => ⟨rfl, rfl, by simp [uV]⟩
  | j + 1, hj => by
    obtain ⟨i1, i2, i3⟩ := u_at ks hk a h ha j (by omega)
    have hjl : j < ks.length := by omega
    have e : ks = ks.take j ++ ks[j] :: ks.drop (j + 1) := by rw [← List.drop_eq_getElem_cons hjl, List.take_append_drop]
    have e2 : l = (pre ++ u16L (ks.take j)) ++ (bigTo ks[j] 2 2 ++ (u16L (ks.drop (j + 1)) ++ tl)) := by
      rw [h]
      have : u16L ks = u16L (ks.take j) ++ (bigTo ks[j] 2 2 ++ u16L (ks.drop (j + 1))) := by
        exact flat_split _ ks j hjl
      rw [this]; simp
    obtain ⟨q1, q2, q3⟩ := rd_at ks[j] 2 (a + 2 * j) e2 (by rw [List.length_append, u16L_len, List.length_take, ha]; omega) (by have := hk _ (List.getElem_mem hjl); omega)
    refine ⟨?_, ?_, ?_⟩
    · show raA l (uA l a j) 2 = _; rw [i1, q3]; omega
    · show ndE (okR l (uA l a j) 2) (uE l a 0 j) = 0; rw [i1, q1, i2]; rfl
    · show uV l a j ++ [rvV l (uA l a j) 2] = _; rw [i3, i1, q2, List.take_succ_eq_append_getElem hjl]
def strN (qs : List ByteArray) : Nat := (strL qs).length
/-- texts -/
theorem t_at (qs : List ByteArray) (hq : txs qs = true) {l pre tl : List Nat} (a : Nat) (h : l = pre ++ (strL qs ++ tl)) (ha : pre.length = a) : ∀ j, j ≤ qs.length → tA l a j = a + (strL (qs.take j)).length ∧ tE l a 0 j = 0 ∧ tV l a j = qs.take j
  | 0, _ => ⟨by simp [tA, strL], rfl, by simp [tV]⟩
  | j + 1, hj => by
    obtain ⟨i1, i2, i3⟩ := t_at qs hq a h ha j (by omega)
    have hjl : j < qs.length := by omega
    have e : qs = qs.take j ++ qs[j] :: qs.drop (j + 1) := by rw [← List.drop_eq_getElem_cons hjl, List.take_append_drop]
    have e2 : l = (pre ++ strL (qs.take j)) ++ ((bigTo qs[j].size 4 4 ++ sbytes qs[j]) ++ (strL (qs.drop (j + 1)) ++ tl)) := by
      rw [h]
      have : strL qs = strL (qs.take j) ++ ((bigTo qs[j].size 4 4 ++ sbytes qs[j]) ++ strL (qs.drop (j + 1))) := by
        exact flat_split _ qs j hjl
      rw [this]; simp
    obtain ⟨q1, q2, q3⟩ := tx_at qs[j] (a + (strL (qs.take j)).length) e2 (by rw [List.length_append, ha]) (txs_mem hq j hjl)
    refine ⟨?_, ?_, ?_⟩
    · show taA l (tA l a j) = _; rw [i1, q3, List.take_succ_eq_append_getElem hjl, strL_snoc]; simp [bigTo_length, sbytes_length]; omega
    · show ndE (okT l (tA l a j)) (tE l a 0 j) = 0; rw [i1, q1, i2]; rfl
    · show tV l a j ++ [tvS l (tA l a j)] = _; rw [i3, i1, q2, List.take_succ_eq_append_getElem hjl]
theorem nL_nz (x : Nat) (wide : Bool) : (nL x wide).length = nzW wide := by rw [nL_length]; rfl
theorem nL_at {l pre tl : List Nat} (x : Nat) (wide : Bool) (a : Nat) (h : l = pre ++ (nL x wide ++ tl)) (ha : pre.length = a) (hx : x < 18446744073709551616) (hf : wide = true ∨ x ≤ 4294967295) : okR l a (nzW wide) = true ∧ rvV l a (nzW wide) = x ∧ raA l a (nzW wide) = a + nzW wide := by
  cases wide
  · have hx4 : x ≤ 4294967295 := by simpa using hf
    simp only [nL, Bool.false_eq_true, if_false] at h
    rw [Nat.mod_eq_of_lt (by omega)] at h
    exact rd_at x 4 a h ha (by omega)
  · simp only [nL, if_true] at h
    exact rd_at x 8 a h ha (by omega)
theorem runL_ln (wide : Bool) : ∀ (rs : List (Nat × Nat)), (runL wide rs).length = rs.length * (2 * nzW wide)
  | [] => by simp [runL]
  | x :: rs => by
    have := runL_ln wide rs
    unfold runL at this ⊢
    rw [List.flatMap_cons, List.length_append, this, List.length_append, nL_nz, nL_nz, List.length_cons, Nat.add_mul]; omega
/-- runs -/
theorem s_at (wide : Bool) (rs : List (Nat × Nat)) (hr : ∀ x ∈ rs, x.1 < 18446744073709551616 ∧ x.2 < 18446744073709551616) (hf : fitA wide rs = true) {l pre tl : List Nat} (a : Nat) (h : l = pre ++ (runL wide rs ++ tl)) (ha : pre.length = a) : ∀ j, j ≤ rs.length → sA l (nzW wide) a j = a + j * (2 * nzW wide) ∧ sE l (nzW wide) a 0 j = 0 ∧ sV l (nzW wide) a j = rs.take j
  | 0, _ => ⟨by simp [sA], rfl, by simp [sV]⟩
  | j + 1, hj => by
    obtain ⟨i1, i2, i3⟩ := s_at wide rs hr hf a h ha j (by omega)
    have hjl : j < rs.length := by omega
    have e : rs = rs.take j ++ rs[j] :: rs.drop (j + 1) := by rw [← List.drop_eq_getElem_cons hjl, List.take_append_drop]
    have hfj := fitA_mem hf j hjl
    have hrj := hr _ (List.getElem_mem hjl)
    have hf1 : wide = true ∨ (rs[j].1 ≤ 4294967295 ∧ rs[j].2 ≤ 4294967295) := by simpa [fit1] using hfj
    have e2 : l = (pre ++ runL wide (rs.take j)) ++ (nL rs[j].1 wide ++ (nL rs[j].2 wide ++ (runL wide (rs.drop (j + 1)) ++ tl))) := by
      rw [h]
      have : runL wide rs = runL wide (rs.take j) ++ (nL rs[j].1 wide ++ (nL rs[j].2 wide ++ runL wide (rs.drop (j + 1)))) := by
        have h9 := flat_split (fun x : Nat × Nat => nL x.1 wide ++ nL x.2 wide) rs j hjl
        rw [List.append_assoc] at h9
        exact h9
      rw [this]; simp
    have e3 : l = ((pre ++ runL wide (rs.take j)) ++ nL rs[j].1 wide) ++ (nL rs[j].2 wide ++ (runL wide (rs.drop (j + 1)) ++ tl)) := by rw [e2]; simp
    have hpl : (pre ++ runL wide (rs.take j)).length = a + j * (2 * nzW wide) := by rw [List.length_append, runL_ln, List.length_take, ha, Nat.min_eq_left (by omega)]
    obtain ⟨q1, q2, q3⟩ := nL_at rs[j].1 wide _ e2 hpl hrj.1 (hf1.imp id (·.1))
    obtain ⟨p1, p2, p3⟩ := nL_at rs[j].2 wide (a + j * (2 * nzW wide) + nzW wide) e3 (by rw [List.length_append, hpl, nL_nz]) hrj.2 (hf1.imp id (·.2))
    refine ⟨?_, ?_, ?_⟩
    · show raA l (raA l (sA l (nzW wide) a j) (nzW wide)) (nzW wide) = _; rw [i1, q3, p3, Nat.add_mul]; omega
    · show ndE (okR l (raA l (sA l (nzW wide) a j) (nzW wide)) (nzW wide)) (ndE (okR l (sA l (nzW wide) a j) (nzW wide)) (sE l (nzW wide) a 0 j)) = 0; rw [i1, q1, q3, p1, i2]; rfl
    · show sV l (nzW wide) a j ++ [(rvV l (sA l (nzW wide) a j) (nzW wide), rvV l (raA l (sA l (nzW wide) a j) (nzW wide)) (nzW wide))] = _
      rw [i3, i1, q2, q3, p2, List.take_succ_eq_append_getElem hjl]
theorem mt_at (c : Nat) (s : ByteArray) (hc : c < 4294967296) (ht : tx s = true) : mtE (meL c s) = 0 ∧ rvV (meL c s) 0 4 = c ∧ bstr (rrL (meL c s) (raA (meL c s) 0 4) ((meL c s).length - raA (meL c s) 0 4)) = s := by
  obtain ⟨q1, q2, q3⟩ := rd_at (l := meL c s) (pre := []) (tl := sbytes s) c 4 0 (by simp [meL]) rfl (by omega)
  have hl : (meL c s).length = 4 + s.size := by simp [meL, bigTo_length, sbytes_length]
  obtain ⟨p1, p2, p3⟩ := rr_at (l := meL c s) (pre := bigTo c 4 4) (m := sbytes s) (tl := []) s.size (0 + 4) (by simp [meL]) (by simp [bigTo_length]) (sbytes_length s)
  have e : (meL c s).length - (0 + 4) = s.size := by omega
  unfold mtE
  rw [q3, q1, e, p1, p2, p3, bstr_sbytes, ht, q2]
  refine ⟨?_, rfl, rfl⟩
  simp [ndE]; omega
theorem sv_at (s : ByteArray) (m : List Nat) (ht : tx s = true) : svE (seL s m) = 0 ∧ tvS (seL s m) 0 = s ∧ rrL (seL s m) (taA (seL s m) 0) ((seL s m).length - taA (seL s m) 0) = m := by
  obtain ⟨q1, q2, q3⟩ := tx_at (l := seL s m) (pre := []) (tl := m) s 0 (by simp [seL]) rfl ht
  have hl : (seL s m).length = 4 + s.size + m.length := by simp [seL, bigTo_length, sbytes_length]; omega
  obtain ⟨p1, p2, p3⟩ := rr_at (l := seL s m) (pre := bigTo s.size 4 4 ++ sbytes s) (m := m) (tl := []) m.length (0 + 4 + s.size) (by simp [seL]) (by simp [bigTo_length, sbytes_length]) rfl
  have e : (seL s m).length - (0 + 4 + s.size) = m.length := by omega
  unfold svE
  rw [q3, q1, e, p1, p2, p3, q2]
  refine ⟨?_, rfl, rfl⟩
  simp [ndE]; omega
theorem ir_at (s : ByteArray) (ks : List Nat) (ht : tx s = true) (hk : ∀ x ∈ ks, x < 65536) (hn : ks.length ≤ 64) : uFin (irL s ks) = 0 ∧ tvS (irL s ks) 0 = s ∧ uCnt (irL s ks) = ks.length ∧ uVal (irL s ks) = ks := by
  obtain ⟨q1, q2, q3⟩ := tx_at (l := irL s ks) (pre := []) (tl := bigTo ks.length 2 2 ++ u16L ks) s 0 (by simp [irL]) rfl ht
  obtain ⟨p1, p2, p3⟩ := rd_at (l := irL s ks) (pre := bigTo s.size 4 4 ++ sbytes s) (tl := u16L ks) ks.length 2 (0 + 4 + s.size) (by simp [irL]) (by simp [bigTo_length, sbytes_length]) (by omega)
  have hl : (irL s ks).length = 4 + s.size + 2 + 2 * ks.length := by simp [irL, bigTo_length, sbytes_length, u16L_len]; omega
  obtain ⟨i1, i2, i3⟩ := u_at (l := irL s ks) (pre := bigTo s.size 4 4 ++ sbytes s ++ bigTo ks.length 2 2) (tl := []) ks hk (0 + 4 + s.size + 2) (by simp [irL]) (by simp [bigTo_length, sbytes_length]; omega) ks.length (Nat.le_refl _)
  have hE : cnE ks.length 64 0 = 0 := by unfold cnE; rw [if_neg (by omega)]
  have hV : cnV ks.length 64 0 = ks.length := by unfold cnV; rw [hE, if_pos rfl]
  have hc : uCnt (irL s ks) = ks.length := by
    unfold uCnt; rw [q3, q1, p1, p2]; exact hV
  refine ⟨?_, q2, hc, ?_⟩
  · unfold uFin; rw [q3, q1, p1, p2, p3]
    simp only [ndT, hE, hV]
    rw [i1, i2, hl]; simp [ndE]
  · unfold uVal; rw [hc, q3, p3, i3, List.take_length]
theorem mq_at (s : ByteArray) (qs : List ByteArray) (ht : tx s = true) (hk : txs qs = true) (hn : qs.length ≤ 16) : tFin (mqL s qs) = 0 ∧ tvS (mqL s qs) 0 = s ∧ tCnt (mqL s qs) = qs.length ∧ tVal (mqL s qs) = qs := by
  obtain ⟨q1, q2, q3⟩ := tx_at (l := mqL s qs) (pre := []) (tl := bigTo qs.length 4 4 ++ strL qs) s 0 (by simp [mqL]) rfl ht
  obtain ⟨p1, p2, p3⟩ := rd_at (l := mqL s qs) (pre := bigTo s.size 4 4 ++ sbytes s) (tl := strL qs) qs.length 4 (0 + 4 + s.size) (by simp [mqL]) (by simp [bigTo_length, sbytes_length]) (by omega)
  have hl : (mqL s qs).length = 4 + s.size + 4 + (strL qs).length := by simp [mqL, bigTo_length, sbytes_length]; omega
  obtain ⟨i1, i2, i3⟩ := t_at (l := mqL s qs) (pre := bigTo s.size 4 4 ++ sbytes s ++ bigTo qs.length 4 4) (tl := []) qs hk (0 + 4 + s.size + 4) (by simp [mqL]) (by simp [bigTo_length, sbytes_length]; omega) qs.length (Nat.le_refl _)
  have hE : cnE qs.length 16 0 = 0 := by unfold cnE; rw [if_neg (by omega)]
  have hV : cnV qs.length 16 0 = qs.length := by unfold cnV; rw [hE, if_pos rfl]
  have hc : tCnt (mqL s qs) = qs.length := by
    unfold tCnt; rw [q3, q1, p1, p2]; exact hV
  refine ⟨?_, q2, hc, ?_⟩
  · unfold tFin; rw [q3, q1, p1, p2, p3]
    simp only [ndT, hE, hV]
    rw [i1, i2, hl, List.take_length]; simp [ndE]
  · unfold tVal; rw [hc, q3, p3, i3, List.take_length]
theorem st_at (wide : Bool) (cx : Nat) (rs : List (Nat × Nat)) (hcx : cx < 4294967296) (hr : ∀ x ∈ rs, x.1 < 18446744073709551616 ∧ x.2 < 18446744073709551616) (hf : fitA wide rs = true) (h0 : 0 < rs.length) (hn : rs.length ≤ 1048576) : Sto (stL wide cx rs) wide rs.length ∧ sFin (stL wide cx rs) wide rs.length = 0 ∧ rvV (stL wide cx rs) 0 4 = cx ∧ sVal (stL wide cx rs) wide rs.length = rs := by
  obtain ⟨q1, q2, q3⟩ := rd_at (l := stL wide cx rs) (pre := []) (tl := (if wide = true then bigTo rs.length 4 4 else []) ++ runL wide rs) cx 4 0 (by simp [stL]) rfl (by omega)
  have hl : (stL wide cx rs).length = (if wide = true then 8 else 4) + rs.length * (2 * nzW wide) := by
    unfold stL; cases wide <;> simp [bigTo_length, runL_ln] <;> omega
  have hz : 4 ≤ nzW wide := by unfold nzW; split <;> omega
  have hha : sHa (stL wide cx rs) wide = (if wide = true then 8 else 4) ∧ sHe (stL wide cx rs) wide = 0 ∧ sSd (stL wide cx rs) wide rs.length = true := by
    cases wide
    · simp [sHa, sHe, sSd, q1, q3, ndE]
    · obtain ⟨p1, p2, p3⟩ := rd_at (l := stL true cx rs) (pre := bigTo cx 4 4) (tl := runL true rs) rs.length 4 (0 + 4) (by simp [stL]) (by simp [bigTo_length]) (by omega)
      simp only [Nat.zero_add] at p1 p2 p3 q3
      simp [sHa, sHe, sSd, q1, q3, p1, p2, p3, ndE]
  obtain ⟨ha, he, hs⟩ := hha
  have hI := s_at wide rs hr hf (l := stL wide cx rs) (pre := bigTo cx 4 4 ++ (if wide = true then bigTo rs.length 4 4 else [])) (tl := []) (if wide = true then 8 else 4) (by simp [stL]) (by cases wide <;> simp [bigTo_length])
  have hm : ∀ j, j < rs.length → j * (2 * nzW wide) < rs.length * (2 * nzW wide) := fun j hj => Nat.mul_lt_mul_of_pos_right hj (by omega)
  obtain ⟨i1, i2, i3⟩ := hI rs.length (Nat.le_refl _)
  refine ⟨⟨fun j hj => ?_, .inr ?_, by omega⟩, ?_, q2, ?_⟩
  · obtain ⟨j1, j2, _⟩ := hI j (by omega)
    rw [ha, he, j1, j2, hl]
    have := hm j hj
    exact ⟨rfl, by omega⟩
  · rw [ha, i1, hl]; exact Nat.le_refl _
  · unfold sFin; rw [hs, ha, he, i1, i2, hl]; simp [ndE, h0]
  · unfold sVal; rw [ha, i3, List.take_length]
end Go.Proofs.YtjikibhhhchgeaaDoor

namespace Go.Proofs.YtjikibhhhchgeaaDoor
open Go.RowKit
set_option linter.unusedVariables false
set_option linter.unusedSimpArgs false
set_option maxRecDepth 100000
theorem brow_nil (w : World) : BRow w none 0 [] := ⟨by simp, by simp, fun _ => ⟨rfl, rfl⟩, fun h => absurd rfl h⟩
theorem u16s_nil (w : World) (a : Option Addr) : U16s w a [] := ⟨by simp, fun h => absurd rfl h⟩
theorem strs_nil (w : World) (a : Option Addr) : Strs w a [] := ⟨by simp, fun h => absurd rfl h⟩
theorem runs_nil (w : World) (a : Option Addr) : Runs w a [] := ⟨by simp, fun h => absurd rfl h⟩
theorem em_nil {s : ByteArray} (h : s = ByteArray.empty) : s = ⟨#[]⟩ := h.trans rfl
theorem th_info (k sz fl : Nat) (s : ByteArray) (mn pf mx : Nat) (d : List Nat) (hk : k < 65536) (hsz : sz < 18446744073709551616) (hfl : fl < 65536) (hmn : mn < 4294967296) (hpf : pf < 4294967296) (hmx : mx < 4294967296)
    (ao : Option Addr) (cap n : Nat) (w : World) (h : BRow w ao cap (rInfoC k sz fl s mn pf mx d).1) (hn : (rInfoC k sz fl s mn pf mx d).1.length = n) (hT : Tabs w) :
    Calls Tryd.prog 11 #[.slice ao n cap] w fun e w' => ∃ (k' sz' fl' : Nat) (s' : ByteArray) (mn' pf' mx' : Nat) (da : Option Addr) (dn dc : Nat) (d' : List Nat) (er : Nat), e = .returned (.tuple #[.agg #[.int .u16 (k' : Int), .int .u64 (sz' : Int), .int .u16 (fl' : Int), .string s', .int .u32 (mn' : Int), .int .u32 (pf' : Int), .int .u32 (mx' : Int), .slice da dn dc], .int .i64 (er : Int)]) ∧ d'.length = dn ∧ BRow w' da dc d' ∧ Below w.heap.size w w' ∧ ((rInfoC k sz fl s mn pf mx d).2 = 0 → er = 0 ∧ k' = k ∧ sz' = sz ∧ fl' = fl ∧ s' = s ∧ mn' = mn ∧ pf' = pf ∧ mx' = mx ∧ d' = d) := by
  by_cases hb : ifB k sz fl s mn pf mx d.length = true
  · have hc : rInfoC k sz fl s mn pf mx d = (inL k sz fl s mn pf mx d, 0) := by unfold rInfoC; rw [if_pos hb]
    rw [hc] at h hn ⊢
    simp only at h hn ⊢
    by_cases k0 : k = 0
    · subst k0
      simp [ifB, emB, blB] at hb
      obtain ⟨b1, ⟨b2, b3, b4⟩, b5⟩ := hb
      have hL : inL 0 sz fl s mn pf mx d = bigTo 0 2 2 ++ (bigTo sz 8 8 ++ (bigTo fl 2 2 ++ [])) := by simp [inL]
      obtain ⟨q1, q2, q3⟩ := rd_at (l := inL 0 sz fl s mn pf mx d) (pre := []) (tl := bigTo sz 8 8 ++ (bigTo fl 2 2 ++ [])) 0 2 0 hL rfl (by omega)
      obtain ⟨p1, p2, p3⟩ := rd_at (l := inL 0 sz fl s mn pf mx d) (pre := bigTo 0 2 2) (tl := bigTo fl 2 2 ++ []) sz 8 (0 + 2) hL (by simp [bigTo_length]) (by omega)
      obtain ⟨r1, r2, r3⟩ := rd_at (l := inL 0 sz fl s mn pf mx d) (pre := bigTo 0 2 2 ++ bigTo sz 8 8) (tl := []) fl 2 (0 + 2 + 8) (by rw [hL]; simp) (by simp [bigTo_length]) (by omega)
      refine (unpackInfo_0ok ao cap n _ w h hn 0 (0 + 2) 0 ⟨q2, q3, by rw [q1]; rfl⟩ sz (0 + 2 + 8) 0 ⟨p2, p3, by rw [p1]; rfl⟩ fl (0 + 2 + 8 + 2) 0 ⟨r2, r3, by rw [r1]; rfl⟩ rfl (by rw [hL]; simp [bigTo_length, ndE])).mono ?_
      rintro e w' ⟨rfl, hb'⟩
      refine ⟨0, sz, fl, ⟨#[]⟩, 0, 0, 0, none, 0, 0, [], 0, rfl, rfl, brow_nil _, hb', fun _ => ⟨rfl, rfl, rfl, rfl, ?_, b2.symm, b3.symm, b4.symm, b5.symm⟩⟩
      exact (em_nil b1).symm
    by_cases k12 : k = 1 ∨ k = 2
    · simp [ifB, k0, k12, exB, blB] at hb
      obtain ⟨⟨b1, b2⟩, b3, ⟨b4, b5, b6⟩, b7⟩ := hb
      have hL : inL k sz fl s mn pf mx d = bigTo k 2 2 ++ (sbytes s ++ []) := by simp [inL, k0, k12]
      obtain ⟨q1, q2, q3⟩ := rd_at (l := inL k sz fl s mn pf mx d) (pre := []) (tl := sbytes s ++ []) k 2 0 hL rfl (by omega)
      obtain ⟨p1, p2, p3⟩ := rr_at (l := inL k sz fl s mn pf mx d) (pre := bigTo k 2 2) (m := sbytes s) (tl := []) s.size (0 + 2) hL (by simp [bigTo_length]) (sbytes_length s)
      have hln : (inL k sz fl s mn pf mx d).length = 2 + s.size := by rw [hL]; simp [bigTo_length, sbytes_length]
      rcases k12 with e1 | e2
      · refine (unpackInfo_1ok ao cap n _ w h hn hT k (0 + 2) 0 s.size (0 + 2 + s.size) 0 ⟨q2, q3, by rw [q1]; rfl⟩ (by omega) s ⟨by rw [p2, bstr_sbytes], p3, by rw [b3, p1]; rfl⟩ k0 e1 (by rw [hln]; simp [ndE])).mono ?_
        rintro e w' ⟨rfl, hb'⟩
        exact ⟨k, 0, 0, s, 0, 0, 0, none, 0, 0, [], 0, rfl, rfl, brow_nil _, hb', fun _ => ⟨rfl, rfl, b1.symm, b2.symm, rfl, b4.symm, b5.symm, b6.symm, b7.symm⟩⟩
      · refine (unpackInfo_2ok ao cap n _ w h hn hT k (0 + 2) 0 s.size (0 + 2 + s.size) 0 ⟨q2, q3, by rw [q1]; rfl⟩ (by omega) s ⟨by rw [p2, bstr_sbytes], p3, by rw [b3, p1]; rfl⟩ k0 (by omega) e2 (by rw [hln]; simp [ndE])).mono ?_
        rintro e w' ⟨rfl, hb'⟩
        exact ⟨k, 0, 0, s, 0, 0, 0, none, 0, 0, [], 0, rfl, rfl, brow_nil _, hb', fun _ => ⟨rfl, rfl, b1.symm, b2.symm, rfl, b4.symm, b5.symm, b6.symm, b7.symm⟩⟩
    by_cases k3 : k = 3
    · subst k3
      simp [ifB, exB, emB] at hb
      obtain ⟨⟨b1, b2⟩, b3, b4⟩ := hb
      have hL : inL 3 sz fl s mn pf mx d = bigTo 3 2 2 ++ (bigTo mn 4 4 ++ (bigTo pf 4 4 ++ (bigTo mx 4 4 ++ []))) := by simp [inL]
      obtain ⟨q1, q2, q3⟩ := rd_at (l := inL 3 sz fl s mn pf mx d) (pre := []) (tl := bigTo mn 4 4 ++ (bigTo pf 4 4 ++ (bigTo mx 4 4 ++ []))) 3 2 0 hL rfl (by omega)
      obtain ⟨p1, p2, p3⟩ := rd_at (l := inL 3 sz fl s mn pf mx d) (pre := bigTo 3 2 2) (tl := bigTo pf 4 4 ++ (bigTo mx 4 4 ++ [])) mn 4 (0 + 2) hL (by simp [bigTo_length]) (by omega)
      obtain ⟨r1, r2, r3⟩ := rd_at (l := inL 3 sz fl s mn pf mx d) (pre := bigTo 3 2 2 ++ bigTo mn 4 4) (tl := bigTo mx 4 4 ++ []) pf 4 (0 + 2 + 4) (by rw [hL]; simp) (by simp [bigTo_length]) (by omega)
      obtain ⟨t1, t2, t3⟩ := rd_at (l := inL 3 sz fl s mn pf mx d) (pre := bigTo 3 2 2 ++ bigTo mn 4 4 ++ bigTo pf 4 4) (tl := []) mx 4 (0 + 2 + 4 + 4) (by rw [hL]; simp) (by simp [bigTo_length]) (by omega)
      refine (unpackInfo_3ok ao cap n _ w h hn 3 (0 + 2) 0 ⟨q2, q3, by rw [q1]; rfl⟩ mn (0 + 2 + 4) 0 ⟨p2, p3, by rw [p1]; rfl⟩ pf (0 + 2 + 4 + 4) 0 ⟨r2, r3, by rw [r1]; rfl⟩ mx (0 + 2 + 4 + 4 + 4) 0 ⟨t2, t3, by rw [t1]; rfl⟩ (by omega) (by omega) (by omega) rfl (by rw [hL]; simp [bigTo_length, ndE])).mono ?_
      rintro e w' ⟨rfl, hb'⟩
      exact ⟨3, 0, 0, ⟨#[]⟩, mn, pf, mx, none, 0, 0, [], 0, rfl, rfl, brow_nil _, hb', fun _ => ⟨rfl, rfl, b1.symm, b2.symm, (em_nil b3).symm, rfl, rfl, rfl, b4.symm⟩⟩
    · simp [ifB, k0, k12, k3, exB, emB, blB] at hb
      obtain ⟨⟨b1, b2⟩, b3, b4, b5, b6⟩ := hb
      have hL : inL k sz fl s mn pf mx d = bigTo k 2 2 ++ (d ++ []) := by simp [inL, k0, k12, k3]
      obtain ⟨q1, q2, q3⟩ := rd_at (l := inL k sz fl s mn pf mx d) (pre := []) (tl := d ++ []) k 2 0 hL rfl (by omega)
      obtain ⟨p1, p2, p3⟩ := rr_at (l := inL k sz fl s mn pf mx d) (pre := bigTo k 2 2) (m := d) (tl := []) d.length (0 + 2) hL (by simp [bigTo_length]) rfl
      have hln : (inL k sz fl s mn pf mx d).length = 2 + d.length := by rw [hL]; simp [bigTo_length]
      have hdl : d.length ≤ 140737488351232 := by have := h.len; omega
      refine (unpackInfo_ook ao cap n _ w h hn hT k (0 + 2) 0 d.length (0 + 2 + d.length) 0 ⟨q2, q3, by rw [q1]; rfl⟩ (by omega) d ⟨p2, p3, by rw [p1]; rfl⟩ k0 (by omega) (by omega) k3 (by rw [hln]; simp [ndE])).mono ?_
      rintro e w' ⟨a7, c7, n7, rfl, hl7, hr⟩
      exact ⟨k, 0, 0, ⟨#[]⟩, 0, 0, 0, a7, n7, c7, d, 0, rfl, hl7, hr.brow hdl, hr.bel, fun _ => ⟨rfl, rfl, b1.symm, b2.symm, (em_nil b3).symm, b4.symm, b5.symm, b6.symm, rfl⟩⟩
  · have hc : rInfoC k sz fl s mn pf mx d = ([], 81) := by unfold rInfoC; rw [if_neg hb]
    rw [hc] at h hn ⊢
    refine (unpackInfo_0no ao cap n _ w h hn 0 0 81 (by decide) 0 0 81 (by decide) 0 0 81 (by decide) rfl (by decide)).mono ?_
    rintro e w' ⟨rfl, hb'⟩
    exact ⟨0, 0, 0, ⟨#[]⟩, 0, 0, 0, none, 0, 0, [], 81, rfl, rfl, brow_nil _, hb', fun h => by cases h⟩
theorem th_ask (s : ByteArray) (ks : List Nat) (hks : ∀ x ∈ ks, x < 65536) (ao : Option Addr) (cap n : Nat) (w : World) (h : BRow w ao cap (rAskC s ks).1) (hn : (rAskC s ks).1.length = n) (hT : Tabs w) :
    Calls Tryd.prog 14 #[.slice ao n cap] w fun e w' => ∃ (s' : ByteArray) (ia : Option Addr) (m ic : Nat) (ks' : List Nat) (er : Nat), e = .returned (.tuple #[.agg #[.string s', .slice ia m ic], .int .i64 (er : Int)]) ∧ ks'.length = m ∧ U16s w' ia ks' ∧ Below w.heap.size w w' ∧ ((rAskC s ks).2 = 0 → er = 0 ∧ s' = s ∧ ks' = ks) := by
  by_cases hb : tx s = true ∧ ks.length ≤ 64
  · have hc : rAskC s ks = (irL s ks, 0) := by unfold rAskC; rw [if_pos hb.1, if_pos hb.2]
    rw [hc] at h hn ⊢
    obtain ⟨e1, e2, e3, e4⟩ := ir_at s ks hb.1 hks hb.2
    have hz := unpackAsk_ok ao cap n _ w h hn hT e1
    rw [e2, e3, e4] at hz
    refine hz.mono ?_
    rintro e w' ⟨ia, ic, rfl, hu, hb'⟩
    exact ⟨s, ia, ks.length, ic, ks, 0, rfl, rfl, hu, hb', fun _ => ⟨rfl, rfl, rfl⟩⟩
  · have hc : (rAskC s ks).1 = [] ∧ (rAskC s ks).2 ≠ 0 := by
      unfold rAskC; split
      · split
        · rename_i h1 h2; exact absurd ⟨h1, h2⟩ hb
        · exact ⟨rfl, by decide⟩
      · exact ⟨rfl, by decide⟩
    rw [hc.1] at h hn
    refine (unpackAsk_no ao cap n _ w h hn hT 81 (by decide) (by decide)).mono ?_
    rintro e w' ⟨rfl, hb'⟩
    exact ⟨⟨#[]⟩, none, 0, 0, [], 81, rfl, rfl, u16s_nil _ _, hb', fun h => absurd h hc.2⟩
theorem th_metas (s : ByteArray) (qs : List ByteArray) (ao : Option Addr) (cap n : Nat) (w : World) (h : BRow w ao cap (rMetasC s qs).1) (hn : (rMetasC s qs).1.length = n) (hT : Tabs w) :
    Calls Tryd.prog 16 #[.slice ao n cap] w fun e w' => ∃ (s' : ByteArray) (ia : Option Addr) (m ic : Nat) (qs' : List ByteArray) (er : Nat), e = .returned (.tuple #[.agg #[.string s', .slice ia m ic], .int .i64 (er : Int)]) ∧ qs'.length = m ∧ Strs w' ia qs' ∧ Below w.heap.size w w' ∧ ((rMetasC s qs).2 = 0 → er = 0 ∧ s' = s ∧ qs' = qs) := by
  by_cases hb : tx s = true ∧ txs qs = true ∧ qs.length ≤ 16
  · have hc : rMetasC s qs = (mqL s qs, 0) := by unfold rMetasC; rw [if_pos hb.1, if_pos hb.2.1, if_pos hb.2.2]
    rw [hc] at h hn ⊢
    obtain ⟨e1, e2, e3, e4⟩ := mq_at s qs hb.1 hb.2.1 hb.2.2
    have hz := unpackMetas_ok ao cap n _ w h hn hT e1
    rw [e2, e3, e4] at hz
    refine hz.mono ?_
    rintro e w' ⟨ia, ic, rfl, hu, hb'⟩
    exact ⟨s, ia, qs.length, ic, qs, 0, rfl, rfl, hu, hb', fun _ => ⟨rfl, rfl, rfl⟩⟩
  · have hc : (rMetasC s qs).1 = [] ∧ (rMetasC s qs).2 ≠ 0 := by
      unfold rMetasC; split
      · split
        · split
          · rename_i h1 h2 h3; exact absurd ⟨h1, h2, h3⟩ hb
          · exact ⟨rfl, by decide⟩
        · exact ⟨rfl, by decide⟩
      · exact ⟨rfl, by decide⟩
    rw [hc.1] at h hn
    refine (unpackMetas_no ao cap n _ w h hn hT 81 (by decide) (by decide)).mono ?_
    rintro e w' ⟨rfl, hb'⟩
    exact ⟨⟨#[]⟩, none, 0, 0, [], 81, rfl, rfl, strs_nil _ _, hb', fun h => absurd h hc.2⟩
theorem th_meta (c : Nat) (s : ByteArray) (hc4 : c < 4294967296) (ao : Option Addr) (cap n : Nat) (w : World) (h : BRow w ao cap (rMetaC c s).1) (hn : (rMetaC c s).1.length = n) (hT : Tabs w) :
    Calls Tryd.prog 18 #[.slice ao n cap] w fun e w' => ∃ (c' : Nat) (s' : ByteArray) (er : Nat), e = .returned (.tuple #[.agg #[.int .u32 (c' : Int), .string s'], .int .i64 (er : Int)]) ∧ Below w.heap.size w w' ∧ ((rMetaC c s).2 = 0 → er = 0 ∧ c' = c ∧ s' = s) := by
  by_cases hb : tx s = true
  · have hc : rMetaC c s = (meL c s, 0) := by unfold rMetaC; rw [if_pos hb]
    rw [hc] at h hn ⊢
    obtain ⟨e1, e2, e3⟩ := mt_at c s hc4 hb
    have hz := unpackMeta_ok ao cap n _ w h hn hT e1
    rw [e2, e3] at hz
    refine hz.mono ?_
    rintro e w' ⟨rfl, hb'⟩
    exact ⟨c, s, 0, rfl, hb', fun _ => ⟨rfl, rfl, rfl⟩⟩
  · have hc : rMetaC c s = ([], 81) := by unfold rMetaC; rw [if_neg hb]
    rw [hc] at h hn ⊢
    refine (unpackMeta_no ao cap n _ w h hn hT (by decide)).mono ?_
    rintro e w' ⟨rfl, hb'⟩
    exact ⟨0, ⟨#[]⟩, 81, rfl, hb', fun h => by cases h⟩
theorem th_server (s : ByteArray) (m : List Nat) (ao : Option Addr) (cap n : Nat) (w : World) (h : BRow w ao cap (rServerC s m).1) (hn : (rServerC s m).1.length = n) (hT : Tabs w) :
    Calls Tryd.prog 19 #[.slice ao n cap] w fun e w' => ∃ (s' : ByteArray) (da : Option Addr) (dn dc : Nat) (m' : List Nat) (er : Nat), e = .returned (.tuple #[.agg #[.string s', .slice da dn dc], .int .i64 (er : Int)]) ∧ m'.length = dn ∧ BRow w' da dc m' ∧ Below w.heap.size w w' ∧ ((rServerC s m).2 = 0 → er = 0 ∧ s' = s ∧ m' = m) := by
  by_cases hb : tx s = true
  · have hc : rServerC s m = (seL s m, 0) := by unfold rServerC; rw [if_pos hb]
    rw [hc] at h hn ⊢
    obtain ⟨e1, e2, e3⟩ := sv_at s m hb
    have hz := unpackServer_ok ao cap n _ w h hn hT e1
    rw [e2, e3] at hz
    have hdl : m.length ≤ 140737488351232 := by have := h.len; simp [seL] at this; omega
    refine hz.mono ?_
    rintro e w' ⟨da, dc, dn, rfl, hl, hr⟩
    exact ⟨s, da, dn, dc, m, 0, rfl, hl, hr.brow hdl, hr.bel, fun _ => ⟨rfl, rfl, rfl⟩⟩
  · have hc : rServerC s m = ([], 81) := by unfold rServerC; rw [if_neg hb]
    rw [hc] at h hn ⊢
    refine (unpackServer_no ao cap n _ w h hn hT (by decide)).mono ?_
    rintro e w' ⟨rfl, hb'⟩
    exact ⟨⟨#[]⟩, none, 0, 0, [], 81, rfl, rfl, brow_nil _, hb', fun h => by cases h⟩
theorem sto_nil (wide : Bool) : Sto [] wide 0 := ⟨fun j hj => by omega, .inr (by cases wide <;> decide), by decide⟩
theorem th_status (wide : Bool) (cx : Nat) (rs : List (Nat × Nat)) (hcx : cx < 4294967296) (hr : ∀ x ∈ rs, x.1 < 18446744073709551616 ∧ x.2 < 18446744073709551616) (hrn : rs.length ≤ 1048576) (ao : Option Addr) (cap n : Nat) (w : World) (h : BRow w ao cap (rStatusC wide cx rs).1) (hn : (rStatusC wide cx rs).1.length = n) :
    Calls Tryd.prog 20 #[.slice ao n cap, .bool wide] w fun e w' => ∃ (cx' : Nat) (ra : Option Addr) (rn rc : Nat) (rs' : List (Nat × Nat)) (er : Nat), e = .returned (.tuple #[.agg #[.int .u32 (cx' : Int), .slice ra rn rc], .int .i64 (er : Int)]) ∧ rs'.length = rn ∧ Runs w' ra rs' ∧ Below w.heap.size w w' ∧ ((rStatusC wide cx rs).2 = 0 → er = 0 ∧ cx' = cx ∧ rs' = rs) := by
  by_cases hb : (fitA wide rs && decide (0 < rs.length)) = true
  · have hc : rStatusC wide cx rs = (stL wide cx rs, 0) := by unfold rStatusC; rw [if_pos hb]
    rw [hc] at h hn ⊢
    have hb2 : fitA wide rs = true ∧ 0 < rs.length := by simpa using hb
    obtain ⟨e0, e1, e2, e3⟩ := st_at wide cx rs hcx hr hb2.1 hb2.2 hrn
    cases wide
    · have hz := unpackStatus0_ok ao cap n _ w h hn rs.length e0 e1
      rw [e2, e3] at hz
      refine hz.mono ?_
      rintro e w' ⟨ra, rc, rfl, hu, hb'⟩
      exact ⟨cx, ra, rs.length, rc, rs, 0, rfl, rfl, hu, hb', fun _ => ⟨rfl, rfl, rfl⟩⟩
    · have hz := unpackStatus1_ok ao cap n _ w h hn rs.length e0 e1
      rw [e2, e3] at hz
      refine hz.mono ?_
      rintro e w' ⟨ra, rc, rfl, hu, hb'⟩
      exact ⟨cx, ra, rs.length, rc, rs, 0, rfl, rfl, hu, hb', fun _ => ⟨rfl, rfl, rfl⟩⟩
  · have hc : rStatusC wide cx rs = ([], 81) := by unfold rStatusC; rw [if_neg hb]
    rw [hc] at h hn ⊢
    cases wide
    · refine (unpackStatus0_no ao cap n _ w h hn 0 (sto_nil _) 81 (by decide) (by decide)).mono ?_
      rintro e w' ⟨rfl, hb'⟩
      exact ⟨0, none, 0, 0, [], 81, rfl, rfl, runs_nil _ _, hb', fun h => by cases h⟩
    · refine (unpackStatus1_no ao cap n _ w h hn 0 (sto_nil _) 81 (by decide) (by decide)).mono ?_
      rintro e w' ⟨rfl, hb'⟩
      exact ⟨0, none, 0, 0, [], 81, rfl, rfl, runs_nil _ _, hb', fun h => by cases h⟩
theorem th_error (c : Nat) (s : ByteArray) (pl : Bool) (a : Nat) (hc4 : c < 4294967296) (ha8 : a < 18446744073709551616) (ao : Option Addr) (cap n : Nat) (w : World) (h : BRow w ao cap (rErrorC c s pl a).1) (hn : (rErrorC c s pl a).1.length = n) (hT : Tabs w) :
    Calls Tryd.prog 22 #[.slice ao n cap, .bool pl] w fun e w' => ∃ (c' : Nat) (s' : ByteArray) (pl' : Bool) (a' : Nat) (er : Nat), e = .returned (.tuple #[.agg #[.int .u32 (c' : Int), .string s', .bool pl', .int .u64 (a' : Int)], .int .i64 (er : Int)]) ∧ Below w.heap.size w w' ∧ ((rErrorC c s pl a).2 = 0 → er = 0 ∧ c' = c ∧ s' = s ∧ pl' = pl ∧ a' = a) := by
  by_cases hb : tx s = true ∧ (pl = true ∨ a = 0)
  · obtain ⟨ht, hp⟩ := hb
    obtain ⟨ht1, _⟩ := tx_true ht
    cases pl
    · have ha0 : a = 0 := by simpa using hp
      subst ha0
      have hc : rErrorC c s false 0 = (erL0 c s, 0) := by unfold rErrorC; rw [if_pos ht]; simp
      rw [hc] at h hn ⊢
      have hL : erL0 c s = bigTo c 4 4 ++ (bigTo s.size 2 2 ++ (sbytes s ++ [])) := by simp [erL0]
      obtain ⟨q1, q2, q3⟩ := rd_at (l := erL0 c s) (pre := []) (tl := bigTo s.size 2 2 ++ (sbytes s ++ [])) c 4 0 hL rfl (by omega)
      obtain ⟨p1, p2, p3⟩ := rd_at (l := erL0 c s) (pre := bigTo c 4 4) (tl := sbytes s ++ []) s.size 2 (0 + 4) hL (by simp [bigTo_length]) (by omega)
      obtain ⟨r1, r2, r3⟩ := rr_at (l := erL0 c s) (pre := bigTo c 4 4 ++ bigTo s.size 2 2) (m := sbytes s) (tl := []) s.size (0 + 4 + 2) (by rw [hL]; simp) (by simp [bigTo_length]) (sbytes_length s)
      refine (unpackError_ok0 ao cap n _ w h hn hT c (0 + 4) 0 s.size (0 + 4 + 2) 0 (0 + 4 + 2 + s.size) 0 s ⟨q2, q3, by rw [q1]; rfl⟩ ⟨p2, p3, by rw [p1]; rfl⟩ ⟨by rw [r2, bstr_sbytes], r3, by rw [ht, r1]; rfl⟩ (by rw [hL]; simp [bigTo_length, sbytes_length, ndE]; omega)).mono ?_
      rintro e w' ⟨rfl, hb'⟩
      exact ⟨c, s, false, 0, 0, rfl, hb', fun _ => ⟨rfl, rfl, rfl, rfl, rfl⟩⟩
    · have hc : rErrorC c s true a = (erL1 c s a, 0) := by unfold rErrorC; rw [if_pos ht]; simp
      rw [hc] at h hn ⊢
      have hL : erL1 c s a = bigTo c 4 4 ++ (bigTo s.size 2 2 ++ (sbytes s ++ (bigTo a 8 8 ++ []))) := by simp [erL1]
      obtain ⟨q1, q2, q3⟩ := rd_at (l := erL1 c s a) (pre := []) (tl := bigTo s.size 2 2 ++ (sbytes s ++ (bigTo a 8 8 ++ []))) c 4 0 hL rfl (by omega)
      obtain ⟨p1, p2, p3⟩ := rd_at (l := erL1 c s a) (pre := bigTo c 4 4) (tl := sbytes s ++ (bigTo a 8 8 ++ [])) s.size 2 (0 + 4) hL (by simp [bigTo_length]) (by omega)
      obtain ⟨r1, r2, r3⟩ := rr_at (l := erL1 c s a) (pre := bigTo c 4 4 ++ bigTo s.size 2 2) (m := sbytes s) (tl := bigTo a 8 8 ++ []) s.size (0 + 4 + 2) (by rw [hL]; simp) (by simp [bigTo_length]) (sbytes_length s)
      obtain ⟨t1, t2, t3⟩ := rd_at (l := erL1 c s a) (pre := bigTo c 4 4 ++ bigTo s.size 2 2 ++ sbytes s) (tl := []) a 8 (0 + 4 + 2 + s.size) (by rw [hL]; simp) (by simp [bigTo_length, sbytes_length]; omega) (by omega)
      refine (unpackError_ok1 ao cap n _ w h hn hT c (0 + 4) 0 s.size (0 + 4 + 2) 0 (0 + 4 + 2 + s.size) 0 s ⟨q2, q3, by rw [q1]; rfl⟩ ⟨p2, p3, by rw [p1]; rfl⟩ ⟨by rw [r2, bstr_sbytes], r3, by rw [ht, r1]; rfl⟩ a (0 + 4 + 2 + s.size + 8) 0 ⟨t2, t3, by rw [t1]; rfl⟩ (by rw [hL]; simp [bigTo_length, sbytes_length, ndE]; omega)).mono ?_
      rintro e w' ⟨rfl, hb'⟩
      exact ⟨c, s, true, a, 0, rfl, hb', fun _ => ⟨rfl, rfl, rfl, rfl, rfl⟩⟩
  · have hc : rErrorC c s pl a = ([], 81) := by
      unfold rErrorC; split
      · split
        · rename_i h1 h2; exact absurd ⟨h1, .inl h2⟩ hb
        · split
          · rename_i h1 h2 h3; exact absurd ⟨h1, .inr h3⟩ hb
          · rfl
      · rfl
    rw [hc] at h hn ⊢
    cases pl
    · refine (unpackError_no0 ao cap n _ w h hn hT 0 0 81 0 0 81 0 81 ⟨#[]⟩ (by decide) (by decide) ⟨by decide, by decide, by decide⟩ (by decide)).mono ?_
      rintro e w' ⟨rfl, hb'⟩
      exact ⟨0, ⟨#[]⟩, false, 0, 81, rfl, hb', fun h => by cases h⟩
    · refine (unpackError_no1 ao cap n _ w h hn hT 0 0 81 0 0 81 0 81 ⟨#[]⟩ (by decide) (by decide) ⟨by decide, by decide, by decide⟩ 0 0 81 (by decide) (by decide)).mono ?_
      rintro e w' ⟨rfl, hb'⟩
      exact ⟨0, ⟨#[]⟩, false, 0, 81, rfl, hb', fun h => by cases h⟩
theorem th_data (off : Nat) (m : List Nat) (ho : off < 18446744073709551616) (ao : Option Addr) (cap n : Nat) (w : World) (h : BRow w ao cap (rDataC off m).1) (hn : (rDataC off m).1.length = n) :
    Calls Tryd.prog 23 #[.slice ao n cap] w fun e w' => ∃ (o' : Nat) (da : Option Addr) (dn dc : Nat) (m' : List Nat) (er : Nat), e = .returned (.tuple #[.agg #[.int .u64 (o' : Int), .slice da dn dc], .int .i64 (er : Int)]) ∧ m'.length = dn ∧ BRow w' da dc m' ∧ Below w.heap.size w w' ∧ ((rDataC off m).2 = 0 → er = 0 ∧ o' = off ∧ m' = m) := by
  by_cases hb : m = []
  · have hc : rDataC off m = ([], 81) := by unfold rDataC; rw [if_pos hb]
    rw [hc] at h hn ⊢
    refine (unpackData_no ao cap n _ w h hn (by decide)).mono ?_
    rintro e w' ⟨rfl, hb'⟩
    exact ⟨0, none, 0, 0, [], 81, rfl, rfl, brow_nil _, hb', fun h => by cases h⟩
  · have hc : rDataC off m = (daL off m, 0) := by unfold rDataC; rw [if_neg hb]
    rw [hc] at h hn ⊢
    have hm0 : 0 < m.length := List.length_pos_iff.2 hb
    have hl : (daL off m).length = 8 + m.length := by simp [daL, bigTo_length]
    obtain ⟨q1, q2, q3⟩ := rd_at (l := daL off m) (pre := []) (tl := m) off 8 0 (by simp [daL]) rfl (by omega)
    obtain ⟨p1, p2, p3⟩ := rr_at (l := daL off m) (pre := bigTo off 8 8) (m := m) (tl := []) m.length (0 + 8) (by simp [daL]) (by simp [bigTo_length]) rfl
    have hz := unpackData_ok ao cap n (daL off m) w h hn (by omega)
    rw [q2, q3, show (daL off m).length - (0 + 8) = m.length by omega, p2] at hz
    have hdl : m.length ≤ 140737488351232 := by have := h.len; simp only at this; omega
    refine hz.mono ?_
    rintro e w' ⟨da, dc, dn, rfl, hl2, hr⟩
    exact ⟨off, da, dn, dc, m, 0, rfl, hl2, hr.brow hdl, hr.bel, fun _ => ⟨rfl, rfl, rfl⟩⟩
theorem th_hole (off ln : Nat) (ho : off < 18446744073709551616) (hl4 : ln < 4294967296) (ao : Option Addr) (cap n : Nat) (w : World) (h : BRow w ao cap (hoL off ln)) (hn : (hoL off ln).length = n) :
    Calls Tryd.prog 24 #[.slice ao n cap] w fun e w' => e = .returned (.tuple #[.agg #[.int .u64 (off : Int), .int .u32 (ln : Int)], .int .i64 0]) ∧ Below w.heap.size w w' := by
  have hl : (hoL off ln).length = 12 := by simp [hoL, bigTo_length]
  obtain ⟨q1, q2, q3⟩ := rd_at (l := hoL off ln) (pre := []) (tl := bigTo ln 4 4 ++ []) off 8 0 (by simp [hoL]) rfl (by omega)
  obtain ⟨p1, p2, p3⟩ := rd_at (l := hoL off ln) (pre := bigTo off 8 8) (tl := []) ln 4 (0 + 8) (by simp [hoL]) (by simp [bigTo_length]) (by omega)
  have hz := unpackHole_ok ao cap n _ w h hn hl
  rw [q2, q3, p2] at hz
  exact hz
end Go.Proofs.YtjikibhhhchgeaaDoor

namespace Go.Proofs.YtjikibhhhchgeaaDoor
open Go.RowKit
set_option linter.unusedVariables false
set_option linter.unusedSimpArgs false
set_option maxRecDepth 100000
theorem below_step {w a : World} (h : Below w.heap.size w a) : Below w.heap.size w a.drew := h.trans ((below_drewN a 1).mono h.size)
set_option maxHeartbeats 1000000 in
theorem kinds16_eq (a b : Option Addr) (n ca cb : Nat) (ks : List Nat) (w : World) (ha : U16s w a ks) (hb : U16s w b ks) (hl : ks.length = n) (hn : n ≤ 1048576) :
    Calls Tryd.prog 15 #[.slice a n ca, .slice b n cb] w fun e w' => e = .returned (.bool true) ∧ Below w.heap.size w w' := by
  have HA : Hid (U16s w a ks) := ha
  have HB : Hid (U16s w b ks) := hb
  have HL : Hid (ks.length = n) := hl
  clear ha hb hl
  go_enter Tryd.func15, Tryd.ntmps15
  go_wp2_with fail
  go_loopw [5] (fun iv wr => ∃ (j : Nat), j ≤ n ∧ iv = .int .i64 (j : Nat) ∧ Hid (Below w.heap.size w wr)) (fun iv _ => n - (intOf iv).toNat)
  case atStart => exact ⟨0, Nat.zero_le _, rfl, Below.refl _ _⟩
  case round =>
    obtain ⟨j, hj, rfl, HB0⟩ := hrel
    by_cases hlt : j < n
    · have hne : ks ≠ [] := by rintro rfl; have := HL.out; simp at this; omega
      have hjl : j < ks.length := by rw [HL.out]; exact hlt
      obtain ⟨b1, o1, rfl, hr1⟩ := (HA.out.later HB0.out).at_ hne
      obtain ⟨b2, o2, rfl, hr2⟩ := (HB.out.later HB0.out).at_ hne
      have c1 := hr1 j hjl
      have c2 := hr2 j hjl
      generalize ks[j] = v at c1 c2
      clear hr1 hr2 hne hjl
      go_wp2
      go_region
      go_wp2
      go_roundw
      case rel => exact ⟨j + 1, by omega, by go_num, below_step HB0.out⟩
      case measure => simp [intOf]; omega
    · go_wp2
      go_ret
      exact ⟨rfl, HB0.out⟩
set_option maxHeartbeats 1000000 in
theorem texts_eq (a b : Option Addr) (n ca cb : Nat) (ks : List ByteArray) (w : World) (ha : Strs w a ks) (hb : Strs w b ks) (hl : ks.length = n) (hn : n ≤ 1048576) :
    Calls Tryd.prog 17 #[.slice a n ca, .slice b n cb] w fun e w' => e = .returned (.bool true) ∧ Below w.heap.size w w' := by
  have HA : Hid (Strs w a ks) := ha
  have HB : Hid (Strs w b ks) := hb
  have HL : Hid (ks.length = n) := hl
  clear ha hb hl
  go_enter Tryd.func17, Tryd.ntmps17
  go_wp2_with fail
  go_loopw [5] (fun iv wr => ∃ (j : Nat), j ≤ n ∧ iv = .int .i64 (j : Nat) ∧ Hid (Below w.heap.size w wr)) (fun iv _ => n - (intOf iv).toNat)
  case atStart => exact ⟨0, Nat.zero_le _, rfl, Below.refl _ _⟩
  case round =>
    obtain ⟨j, hj, rfl, HB0⟩ := hrel
    by_cases hlt : j < n
    · have hne : ks ≠ [] := by rintro rfl; have := HL.out; simp at this; omega
      have hjl : j < ks.length := by rw [HL.out]; exact hlt
      obtain ⟨b1, o1, rfl, hr1⟩ := (HA.out.later HB0.out).at_ hne
      obtain ⟨b2, o2, rfl, hr2⟩ := (HB.out.later HB0.out).at_ hne
      have c1 := hr1 j hjl
      have c2 := hr2 j hjl
      generalize ks[j] = v at c1 c2
      clear hr1 hr2 hne hjl
      go_wp2
      go_region
      go_wp2
      go_roundw
      case rel => exact ⟨j + 1, by omega, by go_num, below_step HB0.out⟩
      case measure => simp [intOf]; omega
    · go_wp2
      go_ret
      exact ⟨rfl, HB0.out⟩
set_option maxHeartbeats 1000000 in
theorem runs_eq (a b : Option Addr) (n ca cb : Nat) (ks : List (Nat × Nat)) (w : World) (ha : Runs w a ks) (hb : Runs w b ks) (hl : ks.length = n) (hn : n ≤ 1048576) :
    Calls Tryd.prog 21 #[.slice a n ca, .slice b n cb] w fun e w' => e = .returned (.bool true) ∧ Below w.heap.size w w' := by
  have HA : Hid (Runs w a ks) := ha
  have HB : Hid (Runs w b ks) := hb
  have HL : Hid (ks.length = n) := hl
  clear ha hb hl
  go_enter Tryd.func21, Tryd.ntmps21
  go_wp2_with fail
  go_loopw [5] (fun iv wr => ∃ (j : Nat), j ≤ n ∧ iv = .int .i64 (j : Nat) ∧ Hid (Below w.heap.size w wr)) (fun iv _ => n - (intOf iv).toNat)
  case atStart => exact ⟨0, Nat.zero_le _, rfl, Below.refl _ _⟩
  case round =>
    obtain ⟨j, hj, rfl, HB0⟩ := hrel
    by_cases hlt : j < n
    · have hne : ks ≠ [] := by rintro rfl; have := HL.out; simp at this; omega
      have hjl : j < ks.length := by rw [HL.out]; exact hlt
      obtain ⟨b1, o1, rfl, hr1⟩ := (HA.out.later HB0.out).at_ hne
      obtain ⟨b2, o2, rfl, hr2⟩ := (HB.out.later HB0.out).at_ hne
      obtain ⟨c1, d1⟩ := hr1 j hjl
      obtain ⟨c2, d2⟩ := hr2 j hjl
      generalize ks[j] = v at c1 c2 d1 d2
      clear hr1 hr2 hne hjl
      go_wp2
      go_region
      go_wp2
      go_roundw
      case rel => exact ⟨j + 1, by omega, by go_num, below_step HB0.out⟩
      case measure => simp [intOf]; omega
    · go_wp2
      go_ret
      exact ⟨rfl, HB0.out⟩
set_option maxHeartbeats 1000000 in
theorem narrow_any (a : Option Addr) (n ca : Nat) (ks : List (Nat × Nat)) (w : World) (ha : Runs w a ks) (hl : ks.length = n) (hn : n ≤ 1048576) :
    Calls Tryd.prog 25 #[.slice a n ca] w fun e w' => e = .returned (.bool (fitA false ks)) ∧ w' = w := by
  have HA : Hid (Runs w a ks) := ha
  have HL : Hid (ks.length = n) := hl
  clear ha hl
  go_enter Tryd.func25, Tryd.ntmps25
  go_wp2_with fail
  have HF : Hid (∀ j (hj : j < ks.length), fitA false (ks.take j) = true → fit1 false ks[j] = true → fitA false (ks.take (j + 1)) = true) := fun j hj h1 h2 => fitA_take h1 hj h2
  have HFb : Hid (∀ j (hj : j < ks.length), fit1 false ks[j] = false → fitA false ks = false) := fun j hj h => fitA_bad hj h
  go_loopw [3] (fun iv wr => ∃ (j : Nat), j ≤ n ∧ iv = .int .i64 (j : Nat) ∧ Hid (fitA false (ks.take j) = true ∧ wr = w)) (fun iv _ => n - (intOf iv).toNat)
  case atStart => exact ⟨0, Nat.zero_le _, rfl, by simp [fitA], rfl⟩
  case round =>
    obtain ⟨j, hj, rfl, HJ⟩ := hrel
    obtain rfl : wr = w := HJ.out.2
    by_cases hlt : j < n
    · have hne : ks ≠ [] := by rintro rfl; have := HL.out; simp at this; omega
      have hjl : j < ks.length := by rw [HL.out]; exact hlt
      obtain ⟨b1, o1, rfl, hr1⟩ := HA.out.at_ hne
      obtain ⟨c1, d1⟩ := hr1 j hjl
      have HS1 : Hid _ := HF.out j hjl HJ.out.1
      have HS2 : Hid _ := HFb.out j hjl
      have hlt2 := HA.out.lt _ (List.getElem_mem hjl)
      generalize ks[j] = v at c1 d1 HS1 HS2 hlt2
      obtain ⟨x, y⟩ := v
      simp only [fit1, Bool.false_or] at HS1 HS2 c1 d1 hlt2
      clear hr1 hne hjl
      by_cases hx : x ≤ 4294967295
      · have fx : (x : Int) / 4294967296 = 0 := by omega
        by_cases hy : y ≤ 4294967295
        · have fy : (y : Int) / 4294967296 = 0 := by omega
          have HS3 : Hid (fitA false (ks.take (j + 1)) = true) := HS1.out (by simp [hx, hy])
          go_wp2
          go_roundw
          case rel => exact ⟨j + 1, by omega, by go_num, HS3.out, trivial⟩
          case measure => simp [intOf]; omega
        · have fy : ¬ ((y : Int) / 4294967296 = 0) := by omega
          have HS3 : Hid (fitA false ks = false) := HS2.out (by simp [hx, hy])
          go_wp2
          go_ret
          exact ⟨by rw [HS3.out]; rfl, rfl⟩
      · have fx : ¬ ((x : Int) / 4294967296 = 0) := by omega
        have HS3 : Hid (fitA false ks = false) := HS2.out (by simp [hx])
        go_wp2
        go_ret
        exact ⟨by rw [HS3.out]; rfl, rfl⟩
    · have e9 : ks.take j = ks := List.take_of_length_le (by rw [HL.out]; omega)
      have h9 := HJ.out.1
      rw [e9] at h9
      go_wp2
      go_ret
      exact ⟨rfl, rfl⟩
end Go.Proofs.YtjikibhhhchgeaaDoor

namespace Go.Proofs.YtjikibhhhchgeaaDoor
open Go.RowKit
set_option linter.unusedVariables false
set_option linter.unusedSimpArgs false
set_option maxRecDepth 100000
set_option maxHeartbeats 400000 in
theorem same08_any (ao bo : Option Addr) (cap cap' n n' : Nat) (l l' : List Nat) (w : World) (h : BRow w ao cap l) (h' : BRow w bo cap' l') (hn : l.length = n) (hn' : l'.length = n') :
    Calls Tryd.prog 47 #[.slice ao n cap, .slice bo n' cap'] w fun e w' => e = .returned (.bool (decide (l = l'))) ∧ Below w.heap.size w w' := by
  have H1 : Hid (Calls Tryd.prog 98 #[.slice ao n cap, .slice bo n' cap'] w fun e w' => e = .returned (.bool (decide (l = l'))) ∧ ∃ q, w' = w.drewN q) := by
    have := same_any ao bo cap cap' l l' w h h'
    rw [hn, hn'] at this
    exact this
  clear h h'
  go_enter Tryd.func47, Tryd.ntmps47
  go_wp2_with fail
  refine H1.out.mono ?_
  rintro e w1 ⟨rfl, q, hw⟩
  rw [hw]; clear hw
  go_wp2
  go_ret
  exact ⟨rfl, below_drewN _ _⟩
set_option maxHeartbeats 4000000 in
theorem sameInfo_any (k sz fl : Nat) (s : ByteArray) (mn pf mx : Nat) (da : Option Addr) (n dc : Nat) (d : List Nat) (sz2 fl2 : Nat) (s2 : ByteArray) (mn2 pf2 mx2 : Nat) (eb : Option Addr) (m ec : Nat) (d2 : List Nat) (c1 c2 c3 c4 c5 c6 : Bool) (w : World) (hr : BRow w da dc d) (hd : d.length = n) (hr2 : BRow w eb ec d2) (hd2 : d2.length = m) (e1 : ((sz : Int) == (sz2 : Int)) = c1) (e2 : ((fl : Int) == (fl2 : Int)) = c2) (e3 : (s.toList == s2.toList) = c3) (e4 : ((mn : Int) == (mn2 : Int)) = c4) (e5 : ((pf : Int) == (pf2 : Int)) = c5) (e6 : ((mx : Int) == (mx2 : Int)) = c6) :
    Calls Tryd.prog 13 #[.agg #[.int .u16 (k : Int), .int .u64 (sz : Int), .int .u16 (fl : Int), .string s, .int .u32 (mn : Int), .int .u32 (pf : Int), .int .u32 (mx : Int), .slice da n dc], .agg #[.int .u16 (k : Int), .int .u64 (sz2 : Int), .int .u16 (fl2 : Int), .string s2, .int .u32 (mn2 : Int), .int .u32 (pf2 : Int), .int .u32 (mx2 : Int), .slice eb m ec]] w fun e w' => e = .returned (.bool (c1 && (c2 && (c3 && (c4 && (c5 && (c6 && decide (d = d2)))))))) ∧ Below w.heap.size w w' := by
  obtain ⟨c7, h7⟩ : ∃ c, decide (d = d2) = c := ⟨_, rfl⟩
  have HS : Hid (∀ W, Below w.heap.size w W → Calls Tryd.prog 47 #[.slice da n dc, .slice eb m ec] W fun e w' => e = .returned (.bool c7) ∧ Below W.heap.size W w') := fun W hb => by have h := same08_any da eb dc ec n m d d2 W (hr.later hb) (hr2.later hb) hd hd2; rw [h7] at h; exact h
  rw [h7]
  clear hr hd hr2 hd2 h7
  have hx := mkb2 w #[.int .u16 (k : Int), .int .u64 (sz : Int), .int .u16 (fl : Int), .string s, .int .u32 (mn : Int), .int .u32 (pf : Int), .int .u32 (mx : Int), .slice da n dc] #[.int .u16 (k : Int), .int .u64 (sz2 : Int), .int .u16 (fl2 : Int), .string s2, .int .u32 (mn2 : Int), .int .u32 (pf2 : Int), .int .u32 (mx2 : Int), .slice eb m ec] 27 27
  go_enter Tryd.func13, Tryd.ntmps13
  go_upto_region 1 with fail
  generalize (w.alloc (Obj.cells #[.int .u16 (k : Int), .int .u64 (sz : Int), .int .u16 (fl : Int), .string s, .int .u32 (mn : Int), .int .u32 (pf : Int), .int .u32 (mx : Int), .slice da n dc] 27)).alloc (Obj.cells #[.int .u16 (k : Int), .int .u64 (sz2 : Int), .int .u16 (fl2 : Int), .string s2, .int .u32 (mn2 : Int), .int .u32 (pf2 : Int), .int .u32 (mx2 : Int), .slice eb m ec] 27) = W1 at *
  have HY : Hid (Bx2 w W1 #[.int .u16 (k : Int), .int .u64 (sz : Int), .int .u16 (fl : Int), .string s, .int .u32 (mn : Int), .int .u32 (pf : Int), .int .u32 (mx : Int), .slice da n dc] #[.int .u16 (k : Int), .int .u64 (sz2 : Int), .int .u16 (fl2 : Int), .string s2, .int .u32 (mn2 : Int), .int .u32 (pf2 : Int), .int .u32 (mx2 : Int), .slice eb m ec] 27 27) := hx
  clear hx
  have q0 := blk_at HY.out.a 0
  have r0 := blk_at HY.out.b 0
  have q1 := blk_at HY.out.a 1
  have r1 := blk_at HY.out.b 1
  have q2 := blk_at HY.out.a 2
  have r2 := blk_at HY.out.b 2
  have q3 := blk_at HY.out.a 3
  have r3 := blk_at HY.out.b 3
  have q4 := blk_at HY.out.a 4
  have r4 := blk_at HY.out.b 4
  have q5 := blk_at HY.out.a 5
  have r5 := blk_at HY.out.b 5
  have q6 := blk_at HY.out.a 6
  have r6 := blk_at HY.out.b 6
  have q7 := blk_at HY.out.a 7
  have r7 := blk_at HY.out.b 7
  simp at q0 r0 q1 r1 q2 r2 q3 r3 q4 r4 q5 r5 q6 r6 q7 r7
  cases c1 with
  | false =>
    go_wp2
    go_ret
    exact ⟨by simp, HY.out.bel⟩
  | true =>
    cases c2 with
    | false =>
      go_wp2
      go_ret
      exact ⟨by simp, HY.out.bel⟩
    | true =>
      cases c3 with
      | false =>
        go_wp2
        go_ret
        exact ⟨by simp, HY.out.bel⟩
      | true =>
        cases c4 with
        | false =>
          go_wp2
          go_ret
          exact ⟨by simp, HY.out.bel⟩
        | true =>
          cases c5 with
          | false =>
            go_wp2
            go_ret
            exact ⟨by simp, HY.out.bel⟩
          | true =>
            cases c6 with
            | false =>
              go_wp2
              go_ret
              exact ⟨by simp, HY.out.bel⟩
            | true =>
              go_wp2_with fail
              refine (HS.out _ HY.out.bel).mono ?_
              rintro e W5 ⟨rfl, hb5⟩
              have HB5 : Hid (Below w.heap.size w W5) := HY.out.bel.trans (hb5.mono HY.out.bel.size)
              clear hb5
              go_wp2
              go_ret
              exact ⟨by simp, HB5.out⟩
end Go.Proofs.YtjikibhhhchgeaaDoor
