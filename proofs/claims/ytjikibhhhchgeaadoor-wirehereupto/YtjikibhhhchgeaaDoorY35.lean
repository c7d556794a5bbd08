import Derived.Test.YtjikibhhhchgeaaDoorY34
import Derived.Test.YtjikibhhhchgeaaDoorY27
import Derived.Test.YtjikibhhhchgeaaDoorY30
import Derived.Test.YtjikibhhhchgeaaDoorY31
namespace Go.Proofs.YtjikibhhhchgeaaDoor
open Go.RowKit
set_option linter.unusedVariables false
set_option linter.unusedSimpArgs false
set_option maxRecDepth 100000
abbrev PkC (w : World) (r : List Nat × Nat) (e : Ending) (w' : World) : Prop := Pk w r.1 r.2 e w'
def rInfoC (k sz fl : Nat) (s : ByteArray) (mn pf mx : Nat) (d : List Nat) : List Nat × Nat := if ifB k sz fl s mn pf mx d.length = true then (inL k sz fl s mn pf mx d, 0) else ([], 81)
def rAskC (s : ByteArray) (ks : List Nat) : List Nat × Nat := if tx s = true then (if ks.length ≤ 64 then (irL s ks, 0) else ([], 170)) else ([], 81)
def rMetasC (s : ByteArray) (qs : List ByteArray) : List Nat × Nat := if tx s = true then (if txs qs = true then (if qs.length ≤ 16 then (mqL s qs, 0) else ([], 170)) else ([], 81)) else ([], 81)
def rMetaC (c : Nat) (s : ByteArray) : List Nat × Nat := if tx s = true then (meL c s, 0) else ([], 81)
def rServerC (s : ByteArray) (m : List Nat) : List Nat × Nat := if tx s = true then (seL s m, 0) else ([], 81)
def rStatusC (wide : Bool) (cx : Nat) (rs : List (Nat × Nat)) : List Nat × Nat := if (fitA wide rs && decide (0 < rs.length)) = true then (stL wide cx rs, 0) else ([], 81)
def rErrorC (c : Nat) (s : ByteArray) (pl : Bool) (a : Nat) : List Nat × Nat := if tx s = true then (if pl = true then (erL1 c s a, 0) else (if a = 0 then (erL0 c s, 0) else ([], 81))) else ([], 81)
def rDataC (off : Nat) (m : List Nat) : List Nat × Nat := if m = [] then ([], 81) else (daL off m, 0)
end Go.Proofs.YtjikibhhhchgeaaDoor

namespace Go.Proofs.YtjikibhhhchgeaaDoor
open Go.RowKit
set_option linter.unusedVariables false
set_option linter.unusedSimpArgs false
set_option maxRecDepth 100000
/-- what is read at a place where a number lies -/
theorem rd_at {l pre tl : List Nat} (x k a : Nat) (h : l = pre ++ (bigTo x k k ++ tl)) (ha : pre.length = a) (hx : x < 256 ^ k) : okR l a k = true ∧ rvV l a k = x ∧ raA l a k = a + k := by
  have h1 : okR l a k = true := by
    unfold okR; rw [h]; simp [bigTo_length]; omega
  refine ⟨h1, ?_, ?_⟩
  · unfold rvV; rw [if_pos h1, h, ← ha, List.drop_left, List.take_left' (bigTo_length _ _ _)]
    exact valB_big x k hx
  · unfold raA; rw [if_pos h1]
theorem rr_at {l pre m tl : List Nat} (k a : Nat) (h : l = pre ++ (m ++ tl)) (ha : pre.length = a) (hm : m.length = k) : okR l a k = true ∧ rrL l a k = m ∧ raA l a k = a + k := by
  have h1 : okR l a k = true := by
    unfold okR; rw [h]; simp; omega
  refine ⟨h1, ?_, ?_⟩
  · unfold rrL; rw [if_pos h1, h, ← ha, List.drop_left, List.take_left' hm]
  · unfold raA; rw [if_pos h1]
theorem tx_at {l pre tl : List Nat} (s : ByteArray) (a : Nat) (h : l = pre ++ ((bigTo s.size 4 4 ++ sbytes s) ++ tl)) (ha : pre.length = a) (ht : tx s = true) : okT l a = true ∧ tvS l a = s ∧ taA l a = a + 4 + s.size := by
  obtain ⟨h1, h2⟩ := tx_true ht
  have h3 : l = pre ++ (bigTo s.size 4 4 ++ (sbytes s ++ tl)) := by rw [h]; simp
  have h4 : l = (pre ++ bigTo s.size 4 4) ++ (sbytes s ++ tl) := by rw [h]; simp
  obtain ⟨q1, q2, q3⟩ := rd_at s.size 4 a h3 ha (by omega)
  obtain ⟨p1, p2, p3⟩ := rr_at s.size (a + 4) h4 (by simp [bigTo_length, ha]) (sbytes_length s)
  have q4 : valB ((l.drop a).take 4) = s.size := by unfold rvV at q2; rw [if_pos q1] at q2; exact q2
  have p4 : (l.drop (a + 4)).take s.size = sbytes s := by unfold rrL at p2; rw [if_pos p1] at p2; exact p2
  have h0 : okT l a = true := by
    unfold okT; rw [q4, p4, q1, p1, bstr_sbytes, h2]; simp; omega
  refine ⟨h0, ?_, ?_⟩
  · unfold tvS; rw [if_pos h0, q4, p4, bstr_sbytes]
  · unfold taA; rw [if_pos h0, q4]
theorem flat_split {α : Type} (f : α → List Nat) (l : List α) (j : Nat) (hj : j < l.length) : l.flatMap f = (l.take j).flatMap f ++ (f l[j] ++ (l.drop (j + 1)).flatMap f) := by
  have e : l = l.take j ++ l[j] :: l.drop (j + 1) := by rw [← List.drop_eq_getElem_cons hj, List.take_append_drop]
  conv => lhs; rw [e]
  rw [List.flatMap_append, List.flatMap_cons]
theorem ndT (e : Nat) : ndE true e = e := rfl
/-- kinds -/
theorem u_at (ks : List Nat) (hk : ∀ x ∈ ks, x < 65536) {l pre tl : List Nat} (a : Nat) (h : l = pre ++ (u16L ks ++ tl)) (ha : pre.length = a) : ∀ j, j ≤ ks.length → uA l a j = a + 2 * j ∧ uE l a 0 j = 0 ∧ uV l a j = ks.take j
  | 0, _ => ⟨rfl, rfl, by simp [uV]⟩
  | j + 1, hj => by
    obtain ⟨i1, i2, i3⟩ := u_at ks hk a h ha j (by omega)
    have hjl : j < ks.length := by omega
    have e : ks = ks.take j ++ ks[j] :: ks.drop (j + 1) := by rw [← List.drop_eq_getElem_cons hjl, List.take_append_drop]
    have e2 : l = (pre ++ u16L (ks.take j)) ++ (bigTo ks[j] 2 2 ++ (u16L (ks.drop (j + 1)) ++ tl)) := by
      rw [h]
      have : u16L ks = u16L (ks.take j) ++ (bigTo ks[j] 2 2 ++ u16L (ks.drop (j + 1))) := by
        exact flat_split _ ks j hjl
      rw [this]; simp
    obtain ⟨q1, q2, q3⟩ := rd_at ks[j] 2 (a + 2 * j) e2 (by rw [List.length_append, u16L_len, List.length_take, ha]; omega) (by have := hk _ (List.getElem_mem hjl); omega)
    refine ⟨?_, ?_, ?_⟩
    · show raA l (uA l a j) 2 = _; rw [i1, q3]; omega
    · show ndE (okR l (uA l a j) 2) (uE l a 0 j) = 0; rw [i1, q1, i2]; rfl
    · show uV l a j ++ [rvV l (uA l a j) 2] = _; rw [i3, i1, q2, List.take_succ_eq_append_getElem hjl]
def strN (qs : List ByteArray) : Nat := (strL qs).length
/-- texts -/
theorem t_at (qs : List ByteArray) (hq : txs qs = true) {l pre tl : List Nat} (a : Nat) (h : l = pre ++ (strL qs ++ tl)) (ha : pre.length = a) : ∀ j, j ≤ qs.length → tA l a j = a + (strL (qs.take j)).length ∧ tE l a 0 j = 0 ∧ tV l a j = qs.take j
  | 0, _ => ⟨by simp [tA, strL], rfl, by simp [tV]⟩
  | j + 1, hj => by
    obtain ⟨i1, i2, i3⟩ := t_at qs hq a h ha j (by omega)
    have hjl : j < qs.length := by omega
    have e : qs = qs.take j ++ qs[j] :: qs.drop (j + 1) := by rw [← List.drop_eq_getElem_cons hjl, List.take_append_drop]
    have e2 : l = (pre ++ strL (qs.take j)) ++ ((bigTo qs[j].size 4 4 ++ sbytes qs[j]) ++ (strL (qs.drop (j + 1)) ++ tl)) := by
      rw [h]
      have : strL qs = strL (qs.take j) ++ ((bigTo qs[j].size 4 4 ++ sbytes qs[j]) ++ strL (qs.drop (j + 1))) := by
        exact flat_split _ qs j hjl
      rw [this]; simp
    obtain ⟨q1, q2, q3⟩ := tx_at qs[j] (a + (strL (qs.take j)).length) e2 (by rw [List.length_append, ha]) (txs_mem hq j hjl)
    refine ⟨?_, ?_, ?_⟩
    · show taA l (tA l a j) = _; rw [i1, q3, List.take_succ_eq_append_getElem hjl, strL_snoc]; simp [bigTo_length, sbytes_length]; omega
    · show ndE (okT l (tA l a j)) (tE l a 0 j) = 0; rw [i1, q1, i2]; rfl
    · show tV l a j ++ [tvS l (tA l a j)] = _; rw [i3, i1, q2, List.take_succ_eq_append_getElem hjl]
theorem nL_nz (x : Nat) (wide : Bool) : (nL x wide).length = nzW wide := by rw [nL_length]; rfl
theorem nL_at {l pre tl : List Nat} (x : Nat) (wide : Bool) (a : Nat) (h : l = pre ++ (nL x wide ++ tl)) (ha : pre.length = a) (hx : x < 18446744073709551616) (hf : wide = true ∨ x ≤ 4294967295) : okR l a (nzW wide) = true ∧ rvV l a (nzW wide) = x ∧ raA l a (nzW wide) = a + nzW wide := by
  cases wide
  · have hx4 : x ≤ 4294967295 := by simpa using hf
    simp only [nL, Bool.false_eq_true, if_false] at h
    rw [Nat.mod_eq_of_lt (by omega)] at h
    exact rd_at x 4 a h ha (by omega)
  · simp only [nL, if_true] at h
    exact rd_at x 8 a h ha (by omega)
theorem runL_ln (wide : Bool) : ∀ (rs : List (Nat × Nat)), (runL wide rs).length = rs.length * (2 * nzW wide)
  | [] => by simp [runL]
  | x :: rs => by
    have := runL_ln wide rs
    unfold runL at this ⊢
    rw [List.flatMap_cons, List.length_append, this, List.length_append, nL_nz, nL_nz, List.length_cons, Nat.add_mul]; omega
/-- runs -/
theorem s_at (wide : Bool) (rs : List (Nat × Nat)) (hr : ∀ x ∈ rs, x.1 < 18446744073709551616 ∧ x.2 < 18446744073709551616) (hf : fitA wide rs = true) {l pre tl : List Nat} (a : Nat) (h : l = pre ++ (runL wide rs ++ tl)) (ha : pre.length = a) : ∀ j, j ≤ rs.length → sA l (nzW wide) a j = a + j * (2 * nzW wide) ∧ sE l (nzW wide) a 0 j = 0 ∧ sV l (nzW wide) a j = rs.take j
  | 0, _ => ⟨by simp [sA], rfl, by simp [sV]⟩
  | j + 1, hj => by
    obtain ⟨i1, i2, i3⟩ := s_at wide rs hr hf a h ha j (by omega)
    have hjl : j < rs.length := by omega
    have e : rs = rs.take j ++ rs[j] :: rs.drop (j + 1) := by rw [← List.drop_eq_getElem_cons hjl, List.take_append_drop]
    have hfj := fitA_mem hf j hjl
    have hrj := hr _ (List.getElem_mem hjl)
    have hf1 : wide = true ∨ (rs[j].1 ≤ 4294967295 ∧ rs[j].2 ≤ 4294967295) := by simpa [fit1] using hfj
    have e2 : l = (pre ++ runL wide (rs.take j)) ++ (nL rs[j].1 wide ++ (nL rs[j].2 wide ++ (runL wide (rs.drop (j + 1)) ++ tl))) := by
      rw [h]
      have : runL wide rs = runL wide (rs.take j) ++ (nL rs[j].1 wide ++ (nL rs[j].2 wide ++ runL wide (rs.drop (j + 1)))) := by
        have h9 := flat_split (fun x : Nat × Nat => nL x.1 wide ++ nL x.2 wide) rs j hjl
        rw [List.append_assoc] at h9
        exact h9
      rw [this]; simp
    have e3 : l = ((pre ++ runL wide (rs.take j)) ++ nL rs[j].1 wide) ++ (nL rs[j].2 wide ++ (runL wide (rs.drop (j + 1)) ++ tl)) := by rw [e2]; simp
    have hpl : (pre ++ runL wide (rs.take j)).length = a + j * (2 * nzW wide) := by rw [List.length_append, runL_ln, List.length_take, ha, Nat.min_eq_left (by omega)]
    obtain ⟨q1, q2, q3⟩ := nL_at rs[j].1 wide _ e2 hpl hrj.1 (hf1.imp id (·.1))
    obtain ⟨p1, p2, p3⟩ := nL_at rs[j].2 wide (a + j * (2 * nzW wide) + nzW wide) e3 (by rw [List.length_append, hpl, nL_nz]) hrj.2 (hf1.imp id (·.2))
    refine ⟨?_, ?_, ?_⟩
    · show raA l (raA l (sA l (nzW wide) a j) (nzW wide)) (nzW wide) = _; rw [i1, q3, p3, Nat.add_mul]; omega
    · show ndE (okR l (raA l (sA l (nzW wide) a j) (nzW wide)) (nzW wide)) (ndE (okR l (sA l (nzW wide) a j) (nzW wide)) (sE l (nzW wide) a 0 j)) = 0; rw [i1, q1, q3, p1, i2]; rfl
    · show sV l (nzW wide) a j ++ [(rvV l (sA l (nzW wide) a j) (nzW wide), rvV l (raA l (sA l (nzW wide) a j) (nzW wide)) (nzW wide))] = _
      rw [i3, i1, q2, q3, p2, List.take_succ_eq_append_getElem hjl]
theorem mt_at (c : Nat) (s : ByteArray) (hc : c < 4294967296) (ht : tx s = true) : mtE (meL c s) = 0 ∧ rvV (meL c s) 0 4 = c ∧ bstr (rrL (meL c s) (raA (meL c s) 0 4) ((meL c s).length - raA (meL c s) 0 4)) = s := by
  obtain ⟨q1, q2, q3⟩ := rd_at (l := meL c s) (pre := []) (tl := sbytes s) c 4 0 (by simp [meL]) rfl (by omega)
  have hl : (meL c s).length = 4 + s.size := by simp [meL, bigTo_length, sbytes_length]
  obtain ⟨p1, p2, p3⟩ := rr_at (l := meL c s) (pre := bigTo c 4 4) (m := sbytes s) (tl := []) s.size (0 + 4) (by simp [meL]) (by simp [bigTo_length]) (sbytes_length s)
  have e : (meL c s).length - (0 + 4) = s.size := by omega
  unfold mtE
  rw [q3, q1, e, p1, p2, p3, bstr_sbytes, ht, q2]
  refine ⟨?_, rfl, rfl⟩
  simp [ndE]; omega
theorem sv_at (s : ByteArray) (m : List Nat) (ht : tx s = true) : svE (seL s m) = 0 ∧ tvS (seL s m) 0 = s ∧ rrL (seL s m) (taA (seL s m) 0) ((seL s m).length - taA (seL s m) 0) = m := by
  obtain ⟨q1, q2, q3⟩ := tx_at (l := seL s m) (pre := []) (tl := m) s 0 (by simp [seL]) rfl ht
  have hl : (seL s m).length = 4 + s.size + m.length := by simp [seL, bigTo_length, sbytes_length]; omega
  obtain ⟨p1, p2, p3⟩ := rr_at (l := seL s m) (pre := bigTo s.size 4 4 ++ sbytes s) (m := m) (tl := []) m.length (0 + 4 + s.size) (by simp [seL]) (by simp [bigTo_length, sbytes_length]) rfl
  have e : (seL s m).length - (0 + 4 + s.size) = m.length := by omega
  unfold svE
  rw [q3, q1, e, p1, p2, p3, q2]
  refine ⟨?_, rfl, rfl⟩
  simp [ndE]; omega
theorem ir_at (s : ByteArray) (ks : List Nat) (ht : tx s = true) (hk : ∀ x ∈ ks, x < 65536) (hn : ks.length ≤ 64) : uFin (irL s ks) = 0 ∧ tvS (irL s ks) 0 = s ∧ uCnt (irL s ks) = ks.length ∧ uVal (irL s ks) = ks := by
  obtain ⟨q1, q2, q3⟩ := tx_at (l := irL s ks) (pre := []) (tl := bigTo ks.length 2 2 ++ u16L ks) s 0 (by simp [irL]) rfl ht
  obtain ⟨p1, p2, p3⟩ := rd_at (l := irL s ks) (pre := bigTo s.size 4 4 ++ sbytes s) (tl := u16L ks) ks.length 2 (0 + 4 + s.size) (by simp [irL]) (by simp [bigTo_length, sbytes_length]) (by omega)
  have hl : (irL s ks).length = 4 + s.size + 2 + 2 * ks.length := by simp [irL, bigTo_length, sbytes_length, u16L_len]; omega
  obtain ⟨i1, i2, i3⟩ := u_at (l := irL s ks) (pre := bigTo s.size 4 4 ++ sbytes s ++ bigTo ks.length 2 2) (tl := []) ks hk (0 + 4 + s.size + 2) (by simp [irL]) (by simp [bigTo_length, sbytes_length]; omega) ks.length (Nat.le_refl _)
  have hE : cnE ks.length 64 0 = 0 := by unfold cnE; rw [if_neg (by omega)]
  have hV : cnV ks.length 64 0 = ks.length := by unfold cnV; rw [hE, if_pos rfl]
  have hc : uCnt (irL s ks) = ks.length := by
    unfold uCnt; rw [q3, q1, p1, p2]; exact hV
  refine ⟨?_, q2, hc, ?_⟩
  · unfold uFin; rw [q3, q1, p1, p2, p3]
    simp only [ndT, hE, hV]
    rw [i1, i2, hl]; simp [ndE]
  · unfold uVal; rw [hc, q3, p3, i3, List.take_length]
theorem mq_at (s : ByteArray) (qs : List ByteArray) (ht : tx s = true) (hk : txs qs = true) (hn : qs.length ≤ 16) : tFin (mqL s qs) = 0 ∧ tvS (mqL s qs) 0 = s ∧ tCnt (mqL s qs) = qs.length ∧ tVal (mqL s qs) = qs := by
  obtain ⟨q1, q2, q3⟩ := tx_at (l := mqL s qs) (pre := []) (tl := bigTo qs.length 4 4 ++ strL qs) s 0 (by simp [mqL]) rfl ht
  obtain ⟨p1, p2, p3⟩ := rd_at (l := mqL s qs) (pre := bigTo s.size 4 4 ++ sbytes s) (tl := strL qs) qs.length 4 (0 + 4 + s.size) (by simp [mqL]) (by simp [bigTo_length, sbytes_length]) (by omega)
  have hl : (mqL s qs).length = 4 + s.size + 4 + (strL qs).length := by simp [mqL, bigTo_length, sbytes_length]; omega
  obtain ⟨i1, i2, i3⟩ := t_at (l := mqL s qs) (pre := bigTo s.size 4 4 ++ sbytes s ++ bigTo qs.length 4 4) (tl := []) qs hk (0 + 4 + s.size + 4) (by simp [mqL]) (by simp [bigTo_length, sbytes_length]; omega) qs.length (Nat.le_refl _)
  have hE : cnE qs.length 16 0 = 0 := by unfold cnE; rw [if_neg (by omega)]
  have hV : cnV qs.length 16 0 = qs.length := by unfold cnV; rw [hE, if_pos rfl]
  have hc : tCnt (mqL s qs) = qs.length := by
    unfold tCnt; rw [q3, q1, p1, p2]; exact hV
  refine ⟨?_, q2, hc, ?_⟩
  · unfold tFin; rw [q3, q1, p1, p2, p3]
    simp only [ndT, hE, hV]
    rw [i1, i2, hl, List.take_length]; simp [ndE]
  · unfold tVal; rw [hc, q3, p3, i3, List.take_length]
theorem st_at (wide : Bool) (cx : Nat) (rs : List (Nat × Nat)) (hcx : cx < 4294967296) (hr : ∀ x ∈ rs, x.1 < 18446744073709551616 ∧ x.2 < 18446744073709551616) (hf : fitA wide rs = true) (h0 : 0 < rs.length) (hn : rs.length ≤ 1048576) : Sto (stL wide cx rs) wide rs.length ∧ sFin (stL wide cx rs) wide rs.length = 0 ∧ rvV (stL wide cx rs) 0 4 = cx ∧ sVal (stL wide cx rs) wide rs.length = rs := by
  obtain ⟨q1, q2, q3⟩ := rd_at (l := stL wide cx rs) (pre := []) (tl := (if wide = true then bigTo rs.length 4 4 else []) ++ runL wide rs) cx 4 0 (by simp [stL]) rfl (by omega)
  have hl : (stL wide cx rs).length = (if wide = true then 8 else 4) + rs.length * (2 * nzW wide) := by
    unfold stL; cases wide <;> simp [bigTo_length, runL_ln] <;> omega
  have hz : 4 ≤ nzW wide := by unfold nzW; split <;> omega
  have hha : sHa (stL wide cx rs) wide = (if wide = true then 8 else 4) ∧ sHe (stL wide cx rs) wide = 0 ∧ sSd (stL wide cx rs) wide rs.length = true := by
    cases wide
    · simp [sHa, sHe, sSd, q1, q3, ndE]
    · obtain ⟨p1, p2, p3⟩ := rd_at (l := stL true cx rs) (pre := bigTo cx 4 4) (tl := runL true rs) rs.length 4 (0 + 4) (by simp [stL]) (by simp [bigTo_length]) (by omega)
      simp only [Nat.zero_add] at p1 p2 p3 q3
      simp [sHa, sHe, sSd, q1, q3, p1, p2, p3, ndE]
  obtain ⟨ha, he, hs⟩ := hha
  have hI := s_at wide rs hr hf (l := stL wide cx rs) (pre := bigTo cx 4 4 ++ (if wide = true then bigTo rs.length 4 4 else [])) (tl := []) (if wide = true then 8 else 4) (by simp [stL]) (by cases wide <;> simp [bigTo_length])
  have hm : ∀ j, j < rs.length → j * (2 * nzW wide) < rs.length * (2 * nzW wide) := fun j hj => Nat.mul_lt_mul_of_pos_right hj (by omega)
  obtain ⟨i1, i2, i3⟩ := hI rs.length (Nat.le_refl _)
  refine ⟨⟨fun j hj => ?_, .inr ?_, by omega⟩, ?_, q2, ?_⟩
  · obtain ⟨j1, j2, _⟩ := hI j (by omega)
    rw [ha, he, j1, j2, hl]
    have := hm j hj
    exact ⟨rfl, by omega⟩
  · rw [ha, i1, hl]; exact Nat.le_refl _
  · unfold sFin; rw [hs, ha, he, i1, i2, hl]; simp [ndE, h0]
  · unfold sVal; rw [ha, i3, List.take_length]
end Go.Proofs.YtjikibhhhchgeaaDoor

namespace Go.Proofs.YtjikibhhhchgeaaDoor
open Go.RowKit
set_option linter.unusedVariables false
set_option linter.unusedSimpArgs false
set_option maxRecDepth 100000
/-- one of each body -/
structure Bod where
  (k sz fl : Nat)
  s1 : ByteArray
  (mn pf mx : Nat)
  a1 : Option Addr
  (n1 c1 : Nat)
  d1 : List Nat
  s2 : ByteArray
  a2 : Option Addr
  (n2 c2 : Nat)
  ks : List Nat
  s3 : ByteArray
  a3 : Option Addr
  (n3 c3 : Nat)
  qs : List ByteArray
  mc : Nat
  s4 : ByteArray
  s5 : ByteArray
  a5 : Option Addr
  (n5 c5 : Nat)
  m5 : List Nat
  cx : Nat
  a6 : Option Addr
  (n6 c6 : Nat)
  rs : List (Nat × Nat)
  wide : Bool
  ec : Nat
  s7 : ByteArray
  pl : Bool
  ea : Nat
  off : Nat
  a8 : Option Addr
  (n8 c8 : Nat)
  m8 : List Nat
  (ho ln : Nat)
def Bod.cells (x : Bod) : Array Value := #[.int .u16 (x.k : Int), .int .u64 (x.sz : Int), .int .u16 (x.fl : Int), .string x.s1, .int .u32 (x.mn : Int), .int .u32 (x.pf : Int), .int .u32 (x.mx : Int), .slice x.a1 x.n1 x.c1, .string x.s2, .slice x.a2 x.n2 x.c2, .string x.s3, .slice x.a3 x.n3 x.c3, .int .u32 (x.mc : Int), .string x.s4, .string x.s5, .slice x.a5 x.n5 x.c5, .int .u32 (x.cx : Int), .slice x.a6 x.n6 x.c6, .bool x.wide, .int .u32 (x.ec : Int), .string x.s7, .bool x.pl, .int .u64 (x.ea : Int), .int .u64 (x.off : Int), .slice x.a8 x.n8 x.c8, .int .u64 (x.ho : Int), .int .u32 (x.ln : Int)]
structure Bod.ok (x : Bod) (w : World) : Prop where
  hk : x.k < 65536
  hsz : x.sz < 18446744073709551616
  hfl : x.fl < 65536
  h1 : x.s1.size ≤ 9223372036854775807
  hmn : x.mn < 4294967296
  hpf : x.pf < 4294967296
  hmx : x.mx < 4294967296
  r1 : BRow w x.a1 x.c1 x.d1
  l1 : x.d1.length = x.n1
  b1 : x.n1 ≤ 1048576
  h2 : x.s2.size ≤ 9223372036854775807
  r2 : U16s w x.a2 x.ks
  l2 : x.ks.length = x.n2
  h3 : x.s3.size ≤ 9223372036854775807
  r3 : Strs w x.a3 x.qs
  l3 : x.qs.length = x.n3
  b3 : x.n3 ≤ 1048576
  hmc : x.mc < 4294967296
  h4 : x.s4.size ≤ 9223372036854775807
  h5 : x.s5.size ≤ 9223372036854775807
  r5 : BRow w x.a5 x.c5 x.m5
  l5 : x.m5.length = x.n5
  b5 : x.n5 ≤ 1048576
  hcx : x.cx < 4294967296
  r6 : Runs w x.a6 x.rs
  l6 : x.rs.length = x.n6
  b6 : x.n6 ≤ 1048576
  hec : x.ec < 4294967296
  h7 : x.s7.size ≤ 9223372036854775807
  hea : x.ea < 18446744073709551616
  hoff : x.off < 18446744073709551616
  r8 : BRow w x.a8 x.c8 x.m8
  l8 : x.m8.length = x.n8
  b8 : x.n8 ≤ 1048576
  hho : x.ho < 18446744073709551616
  hln : x.ln < 4294967296
theorem Bod.ok.later {x : Bod} {w w' : World} (h : x.ok w) (hb : Below w.heap.size w w') : x.ok w' :=
  { h with r1 := h.r1.later hb, r2 := h.r2.later hb, r3 := h.r3.later hb, r5 := h.r5.later hb, r6 := h.r6.later hb, r8 := h.r8.later hb }
def Bod.res (x : Bod) : List (List Nat × Nat) := [rInfoC x.k x.sz x.fl x.s1 x.mn x.pf x.mx x.d1, rAskC x.s2 x.ks, rMetasC x.s3 x.qs, rMetaC x.mc x.s4, rServerC x.s5 x.m5, rStatusC x.wide x.cx x.rs, rErrorC x.ec x.s7 x.pl x.ea, rDataC x.off x.m8, (hoL x.ho x.ln, 0)]
/-- an answer of Pack -/
structure Rp where
  ao : Option Addr
  n : Nat
  cap : Nat
  E : Nat
  L : List Nat
def Rp.cells (r : Rp) : List Value := [.slice r.ao r.n r.cap, .int .i64 (r.E : Int)]
/-- what was packed so far -/
structure Pks (w W : World) (v : Value) (l : List Rp) : Prop where
  own : W.ownsRow w.heap.size 52 2 v l.length (l.flatMap Rp.cells)
  rows : ∀ r ∈ l, W.ownsRow w.heap.size 5 1 (.slice r.ao r.n r.cap) r.n (r.L.map bv) ∧ r.L.length = r.n ∧ ∀ y ∈ r.L, y < 256
  bel : Below w.heap.size w W
theorem owns_type2 {w : World} {base e n size : Nat} {v : Value} {xs : List Value} (h : w.ownsRow base e size v n xs) (g : Nat) (hg : v.ownBlock = some g) : (∃ cur, w.heap[g]? = some (.cells cur e (0, 0))) ∧ base ≤ g ∧ g < w.heap.size := by
  rcases h.2 with ⟨hv, _⟩ | ⟨g', cap, cur, hv, hb, hc, _⟩
  · subst hv; simp [Value.ownBlock] at hg
  · subst hv
    have e : g' = g := by simpa [Value.ownBlock] using hg
    subst e
    exact ⟨⟨cur, hc⟩, hb, block_lt hc⟩
theorem owns_same2 {w w' : World} {base e n size : Nat} {v : Value} {xs : List Value} (h : w.ownsRow base e size v n xs) (hs : ∀ g, v.ownBlock = some g → w'.heap[g]? = w.heap[g]?) : w'.ownsRow base e size v n xs := by
  refine ⟨h.1, ?_⟩
  rcases h.2 with h1 | ⟨g, cap, cur, hv, hb, hc, h4, h5, h6, h7⟩
  · exact .inl h1
  · exact .inr ⟨g, cap, cur, hv, hb, by rw [hs g (by rw [hv]; rfl)]; exact hc, h4, h5, h6, h7⟩
theorem owns_form2 {w : World} {base e n size : Nat} {v : Value} {xs : List Value} (h : w.ownsRow base e size v n xs) : ∃ ao cap, v = .slice ao n cap := by
  rcases h.2 with ⟨hv, h0⟩ | ⟨g, cap, cur, hv, _⟩
  · exact ⟨none, 0, by rw [hv, h0]⟩
  · exact ⟨_, _, hv⟩
theorem Pks.nil (w : World) : Pks w w (.slice none 0 0) [] := ⟨World.ownsRow_nil _ _ _ _, by simp, Below.refl _ _⟩
theorem Pks.later {w W W' : World} {v : Value} {l : List Rp} (h : Pks w W v l) (k : Below W.heap.size W W') : Pks w W' v l :=
  ⟨owns_same2 h.own (fun g hg => k.block g (owns_type2 h.own g hg).2.2), fun r hr => ⟨owns_same (h.rows r hr).1 (fun g hg => k.block g (owns_lt (h.rows r hr).1 g hg).1), (h.rows r hr).2⟩, h.bel.trans (k.mono h.bel.size)⟩
/-- one more: its row was made in between, then the list was grown -/
theorem Pks.add {w W W1 W2 w3 : World} {v v' : Value} {l : List Rp} {ao : Option Addr} {n cap E : Nat} {L : List Nat} (h : Pks w W v l) (hr : Row W W1 ao cap L) (hn : L.length = n) (hb : Below W1.heap.size W1 W2)
    (ho : w3.ownsRow w.heap.size 52 2 v' (l.length + 1) (l.flatMap Rp.cells ++ [.slice ao n cap, .int .i64 (E : Int)])) (hg : W2.grownBy w3 v.ownBlock) : Pks w w3 v' (l ++ [⟨ao, n, cap, E, L⟩]) := by
  have h2 := (h.later hr.bel).later hb
  have hnew : W2.ownsRow w.heap.size 5 1 (.slice ao n cap) n (L.map bv) := by
    subst hn
    exact owns_same (owns_mono hr.own h.bel.size) (fun g hg => hb.block g (owns_lt hr.own g hg).1)
  have hkeep : ∀ (u : Value) (m : Nat) (xs : List Value), W2.ownsRow w.heap.size 5 1 u m xs → w3.ownsRow w.heap.size 5 1 u m xs := fun u m xs hu => owns_same hu (fun g hg' => by
    refine hg.block g (owns_lt hu g hg').1 (fun e => ?_)
    obtain ⟨⟨cur, e1⟩, _, _⟩ := owns_type2 h2.own g e.symm
    obtain ⟨cur2, e2⟩ := owns_type hu g hg'
    rw [e1] at e2; simp at e2)
  refine ⟨by simpa [Rp.cells] using ho, fun r hm => ?_, h2.bel.grown hg h2.bel.size (fun g hg' => (owns_type2 h2.own g hg').2.1)⟩
  rcases List.mem_append.1 hm with hm | hm
  · exact ⟨hkeep _ _ _ (h2.rows r hm).1, (h2.rows r hm).2⟩
  · simp at hm; subst hm
    exact ⟨hkeep _ _ _ hnew, hn, hr.lt⟩
/-- a box of another type stays -/
theorem Pks.box {w W w3 : World} {v : Value} {l : List Rp} (h : Pks w W v l) (hg : W.grownBy w3 v.ownBlock) {b : Nat} {cs : Array Value} {t : TypeId} (hb : W.heap[b]? = some (.cells cs t (0, 0))) (ht : t ≠ 52) : w3.heap[b]? = some (.cells cs t (0, 0)) := by
  rw [hg.block b (block_lt hb) (fun e => ?_)]
  · exact hb
  · obtain ⟨⟨cur, e1⟩, _, _⟩ := owns_type2 h.own b e.symm
    rw [hb] at e1; simp at e1; exact ht e1.2
theorem infoPk : (Tryd.prog.info? 52).map (fun i => (i.zero, i.size, i.bytes)) = some (some (.agg #[.slice none 0 0, .int .i64 0]), 2, 32) := by kernel_rfl
end Go.Proofs.YtjikibhhhchgeaaDoor

namespace Go.Proofs.YtjikibhhhchgeaaDoor
open Go.RowKit
set_option linter.unusedVariables false
set_option linter.unusedSimpArgs false
set_option maxRecDepth 100000
theorem pMetaC (c : Nat) (s : ByteArray) (w : World) (h1 : c < 4294967296) (hs : s.size ≤ 9223372036854775807) (hT : Tabs w) :
    Calls Tryd.prog 34 #[.agg #[.int .u32 (c : Int), .string s]] w fun e w' => PkC w (rMetaC c s) e w' := by
  unfold rMetaC
  cases ht : tx s with
  | true => exact packMeta_ok c s w h1 hT ht
  | false => exact packMeta_bad c s w hs hT ht
theorem pDataC (off n : Nat) (da : Option Addr) (dc : Nat) (m : List Nat) (w : World) (h1 : off < 18446744073709551616) (hr : BRow w da dc m) (hm0 : m.length = n) (hn2 : n ≤ 1048576) :
    Calls Tryd.prog 29 #[.agg #[.int .u64 (off : Int), .slice da n dc]] w fun e w' => PkC w (rDataC off m) e w' := by
  by_cases hm : m = []
  · subst hm; simp at hm0; subst hm0
    exact packData_bad off da dc w
  · have hp : 0 < n := by rw [← hm0]; exact List.length_pos_iff.2 hm
    unfold rDataC; rw [if_neg hm]
    exact packData_ok off n da dc m w h1 hr hm0 hp (by omega)
theorem pErrorC (c : Nat) (s : ByteArray) (pl : Bool) (a : Nat) (w : World) (h1 : c < 4294967296) (h2 : a < 18446744073709551616) (hs : s.size ≤ 9223372036854775807) (hT : Tabs w) :
    Calls Tryd.prog 37 #[.agg #[.int .u32 (c : Int), .string s, .bool pl, .int .u64 (a : Int)]] w fun e w' => PkC w (rErrorC c s pl a) e w' := by
  unfold rErrorC
  cases ht : tx s with
  | false => exact packError_bad c s pl a w hs hT ht
  | true =>
    cases pl with
    | true => exact packError_ok1 c s a w h1 h2 hT ht
    | false =>
      by_cases ha : a = 0
      · simp only [if_true, Bool.false_eq_true, if_false, if_pos ha]
        exact packError_ok0 c s a w h1 ha hT ht
      · simp only [if_true, Bool.false_eq_true, if_false, if_neg ha]
        exact packError_at c s a w hs hT ht ha
theorem pAskC (s : ByteArray) (ia : Option Addr) (k ic : Nat) (ks : List Nat) (w : World) (hu : U16s w ia ks) (hks : ks.length = k) (hs : s.size ≤ 9223372036854775807) (hT : Tabs w) :
    Calls Tryd.prog 32 #[.agg #[.string s, .slice ia k ic]] w fun e w' => PkC w (rAskC s ks) e w' := by
  unfold rAskC
  rw [hks]
  cases ht : tx s with
  | false => exact packInfoReq_bad s ia k ic w hs hT ht
  | true =>
    by_cases hk : k ≤ 64
    · simp only [if_true, if_pos hk]
      exact packInfoReq_ok s ia k ic ks w hu hks hk hT ht
    · simp only [if_true, if_neg hk]
      exact packInfoReq_many s ia k ic w hs hT ht (by omega)
theorem pMetasC (s : ByteArray) (qa : Option Addr) (k qc : Nat) (qs : List ByteArray) (w : World) (hq : Strs w qa qs) (hks : qs.length = k) (hk : k ≤ 1048576) (hs : s.size ≤ 9223372036854775807) (hT : Tabs w) :
    Calls Tryd.prog 33 #[.agg #[.string s, .slice qa k qc]] w fun e w' => PkC w (rMetasC s qs) e w' := by
  unfold rMetasC
  rw [hks]
  cases ht : tx s with
  | false => exact packMetaReq_bad s qa k qc w hs hT ht
  | true =>
    cases htx : txs qs with
    | false => exact packMetaReq_bad2 s qa k qc qs w hq hks hk hs hT ht htx
    | true =>
      by_cases hk2 : k ≤ 16
      · simp only [if_true, if_pos hk2]
        exact packMetaReq_ok s qa k qc qs w hq hks hk2 hT ht htx
      · simp only [if_true, if_neg hk2]
        exact packMetaReq_many s qa k qc qs w hq hks hk (by omega) hs hT ht htx
theorem pStatusC (cx : Nat) (ra : Option Addr) (n rc : Nat) (wide : Bool) (rs : List (Nat × Nat)) (w : World) (hc : cx < 4294967296) (h : Runs w ra rs) (hn : rs.length = n) (hn2 : n ≤ 1048576) :
    Calls Tryd.prog 36 #[.agg #[.int .u32 (cx : Int), .slice ra n rc], .bool wide] w fun e w' => PkC w (rStatusC wide cx rs) e w' := by
  unfold rStatusC
  rw [hn]
  cases hf : (fitA wide rs && decide (0 < n)) with
  | false => exact packStatus_bad cx ra n rc wide rs w h hn hn2 hf
  | true =>
    have hf1 : fitA wide rs = true := by simp at hf; exact hf.1
    have hf2 : 0 < n := by simp at hf; exact hf.2
    cases wide with
    | true => exact packStatus_ok1 cx ra n rc rs w hc h hn hn2 hf2 hf1
    | false => exact packStatus_ok0 cx ra n rc rs w hc h hn hn2 hf2 hf1
theorem pServerC (s : ByteArray) (n : Nat) (da : Option Addr) (dc : Nat) (m : List Nat) (w : World) (hr : BRow w da dc m) (hm0 : m.length = n) (hn2 : n ≤ 1048576) (hs : s.size ≤ 9223372036854775807) (hT : Tabs w) :
    Calls Tryd.prog 35 #[.agg #[.string s, .slice da n dc]] w fun e w' => PkC w (rServerC s m) e w' := by
  unfold rServerC
  cases ht : tx s with
  | true => exact packServer_ok s n da dc m w hr hm0 (by omega) hT ht
  | false => exact packServer_bad s n da dc w hs hT ht
theorem pInfoC (k sz fl : Nat) (s : ByteArray) (mn pf mx : Nat) (da : Option Addr) (n dc : Nat) (d : List Nat) (w : World) (hk : k < 65536) (hsz : sz < 18446744073709551616) (hfl : fl < 65536) (hs : s.size ≤ 9223372036854775807) (hmn : mn < 4294967296) (hpf : pf < 4294967296) (hmx : mx < 4294967296) (hr : BRow w da dc d) (hd : d.length = n) (hn : n ≤ 1048576) (hT : Tabs w) :
    Calls Tryd.prog 31 #[.agg #[.int .u16 (k : Int), .int .u64 (sz : Int), .int .u16 (fl : Int), .string s, .int .u32 (mn : Int), .int .u32 (pf : Int), .int .u32 (mx : Int), .slice da n dc]] w fun e w' => PkC w (rInfoC k sz fl s mn pf mx d) e w' := by
  unfold rInfoC
  rw [hd]
  cases hf : ifB k sz fl s mn pf mx n with
  | false => exact packInfo_bad k sz fl s mn pf mx da n dc d w hk hsz hfl hs hmn hpf hmx hr hd hn hT hf
  | true =>
    by_cases h0 : k = 0
    · exact packInfo_0 k sz fl s mn pf mx da n dc d w hk hsz hfl hs hmn hpf hmx hr hd hn hT hf h0
    by_cases h1 : k = 1
    · exact packInfo_1 k sz fl s mn pf mx da n dc d w hk hsz hfl hs hmn hpf hmx hr hd hn hT hf h1
    by_cases h2 : k = 2
    · exact packInfo_2 k sz fl s mn pf mx da n dc d w hk hsz hfl hs hmn hpf hmx hr hd hn hT hf h2
    by_cases h3 : k = 3
    · exact packInfo_3 k sz fl s mn pf mx da n dc d w hk hsz hfl hs hmn hpf hmx hr hd hn hT hf h3
    exact packInfo_o k sz fl s mn pf mx da n dc d w hk hsz hfl hs hmn hpf hmx hr hd hn hT hf ⟨h0, h1, h2, h3⟩
end Go.Proofs.YtjikibhhhchgeaaDoor
