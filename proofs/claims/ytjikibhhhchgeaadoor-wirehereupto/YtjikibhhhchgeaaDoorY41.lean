import Derived.Test.YtjikibhhhchgeaaDoorY40
namespace Go.Proofs.YtjikibhhhchgeaaDoor
open Go.RowKit
set_option linter.unusedVariables false
set_option linter.unusedSimpArgs false
set_option maxRecDepth 100000
theorem bigTo_shift (v b k : Nat) (hb : b < 256) (j : Nat) (hj : j ≤ k) : bigTo (v * 256 + b) (k + 1) j = bigTo v k j := by
  unfold bigTo
  apply List.map_congr_left
  intro i hi
  have hij : i < j := List.mem_range.1 hi
  have e : 8 * (k + 1 - 1 - i) = 8 * (k - 1 - i) + 8 := by omega
  have e2 : (v * 256 + b) / 2 ^ (8 * (k - 1 - i) + 8) = v / 2 ^ (8 * (k - 1 - i)) := by
    rw [Nat.pow_add, show (2 : Nat) ^ 8 = 256 by decide, Nat.mul_comm (2 ^ (8 * (k - 1 - i))) 256, ← Nat.div_div_eq_div_mul]
    congr 1
    omega
  rw [e, e2]
theorem big_val : ∀ (k : Nat) (m : List Nat), m.length = k → (∀ x ∈ m, x < 256) → bigTo (valB m) k k = m
  | 0, m, h, _ => by rw [List.length_eq_zero_iff.1 h]; rfl
  | k + 1, m, h, hl => by
    have hne : m ≠ [] := by rintro rfl; simp at h
    obtain ⟨m', b, rfl⟩ : ∃ m' b, m = m' ++ [b] := ⟨m.dropLast, m.getLast hne, (List.dropLast_concat_getLast hne).symm⟩
    have hm : m'.length = k := by simpa using h
    have hb : b < 256 := hl b (by simp)
    rw [valB_snoc, bigTo_succ, bigTo_shift _ _ _ hb k (Nat.le_refl _), big_val k m' hm (fun x hx => hl x (by simp [hx]))]
    congr 2
    rw [show 8 * (k + 1 - 1 - k) = 0 by omega]
    omega
section
variable {l : List Nat}
theorem inv_rd (hl : ∀ x ∈ l, x < 256) {a k : Nat} (h : okR l a k = true) : l.drop a = bigTo (rvV l a k) k k ++ l.drop (a + k) := by
  have h1 : a + k ≤ l.length := by simpa [okR] using h
  have h2 : ((l.drop a).take k).length = k := by rw [List.length_take, List.length_drop]; omega
  unfold rvV
  rw [if_pos h, big_val k _ h2 (fun x hx => hl x (List.mem_of_mem_drop (List.mem_of_mem_take hx))), ← List.drop_drop, List.take_append_drop]
theorem inv_rr {a k : Nat} (h : okR l a k = true) : l.drop a = rrL l a k ++ l.drop (a + k) := by
  unfold rrL
  rw [if_pos h, ← List.drop_drop, List.take_append_drop]
theorem ra_ok {a k : Nat} (h : okR l a k = true) : raA l a k = a + k := by unfold raA; rw [if_pos h]
theorem inv_tx (hl : ∀ x ∈ l, x < 256) {a : Nat} (h : okT l a = true) : l.drop a = (bigTo (tvS l a).size 4 4 ++ sbytes (tvS l a)) ++ l.drop (taA l a) ∧ tx (tvS l a) = true := by
  have h0 := h
  simp only [okT, Bool.and_eq_true] at h
  obtain ⟨h1, h2, h3, h4⟩ := h
  have e1 := inv_rd hl h1
  have e2 := inv_rr h3
  have ev : rvV l a 4 = valB ((l.drop a).take 4) := by unfold rvV; rw [if_pos h1]
  rw [ev] at e1
  have er : rrL l (a + 4) (valB ((l.drop a).take 4)) = (l.drop (a + 4)).take (valB ((l.drop a).take 4)) := by unfold rrL; rw [if_pos h3]
  have hm : ∀ x ∈ (l.drop (a + 4)).take (valB ((l.drop a).take 4)), x < 256 := fun x hx => hl x (List.mem_of_mem_drop (List.mem_of_mem_take hx))
  have es : tvS l a = bstr ((l.drop (a + 4)).take (valB ((l.drop a).take 4))) := by unfold tvS; rw [if_pos h0]
  have hsz : (tvS l a).size = valB ((l.drop a).take 4) := by
    rw [es, bstr_size, List.length_take, List.length_drop]
    have : a + 4 + valB ((l.drop a).take 4) ≤ l.length := by simpa [okR] using h3
    omega
  have ea : taA l a = a + 4 + valB ((l.drop a).take 4) := by unfold taA; rw [if_pos h0]
  constructor
  · rw [hsz, ea, es]
    generalize valB ((l.drop a).take 4) = n at *
    rw [sbytes_bstr _ hm, e1, e2, er, List.append_assoc]
    congr 2
    rw [← er, ← e2]
    exact er
  · unfold tx
    have h2' : valB ((l.drop a).take 4) ≤ 4096 := by simpa using h2
    rw [hsz]
    simp only [h2', decide_true, Bool.true_and]
    rw [es]; exact h4
theorem u_inv (hl : ∀ x ∈ l, x < 256) (a e : Nat) : ∀ k, uE l a e k = 0 → e = 0 ∧ l.drop a = u16L (uV l a k) ++ l.drop (uA l a k)
  | 0, h => ⟨h, by simp [uV, uA, u16L]⟩
  | k + 1, h => by
    obtain ⟨h1, h2⟩ := ndE_zero (show ndE (okR l (uA l a k) 2) (uE l a e k) = 0 from h)
    obtain ⟨i1, i2⟩ := u_inv hl a e k h2
    refine ⟨i1, ?_⟩
    show l.drop a = u16L (uV l a k ++ [rvV l (uA l a k) 2]) ++ l.drop (raA l (uA l a k) 2)
    rw [i2, inv_rd hl h1, u16L_snoc, ra_ok h1, List.append_assoc]
theorem t_inv (hl : ∀ x ∈ l, x < 256) (a e : Nat) : ∀ k, tE l a e k = 0 → e = 0 ∧ l.drop a = strL (tV l a k) ++ l.drop (tA l a k) ∧ txs (tV l a k) = true
  | 0, h => ⟨h, by simp [tV, tA, strL], by simp [tV, txs]⟩
  | k + 1, h => by
    obtain ⟨h1, h2⟩ := ndE_zero (show ndE (okT l (tA l a k)) (tE l a e k) = 0 from h)
    obtain ⟨i1, i2, i3⟩ := t_inv hl a e k h2
    obtain ⟨j1, j2⟩ := inv_tx hl h1
    refine ⟨i1, ?_, ?_⟩
    · show l.drop a = strL (tV l a k ++ [tvS l (tA l a k)]) ++ l.drop (taA l (tA l a k))
      rw [i2, strL_snoc, List.append_assoc, ← j1]
    · show txs (tV l a k ++ [tvS l (tA l a k)]) = true
      unfold txs at i3 ⊢
      rw [List.all_append, i3]; simp [j2]
theorem inv_nL (hl : ∀ x ∈ l, x < 256) (wide : Bool) {a : Nat} (h : okR l a (nzW wide) = true) : l.drop a = nL (rvV l a (nzW wide)) wide ++ l.drop (a + nzW wide) ∧ (wide = true ∨ rvV l a (nzW wide) ≤ 4294967295) := by
  have e := inv_rd hl h
  cases wide
  · have hlt : rvV l a 4 < 4294967296 := rvV_lt2 _ _ _ _ hl (by decide) (by decide)
    refine ⟨?_, .inr (by show rvV l a 4 ≤ _; omega)⟩
    show l.drop a = nL (rvV l a 4) false ++ l.drop (a + 4)
    simp only [nL, Bool.false_eq_true, if_false]
    rw [Nat.mod_eq_of_lt hlt]; exact e
  · refine ⟨?_, .inl rfl⟩
    show l.drop a = nL (rvV l a 8) true ++ l.drop (a + 8)
    simp only [nL, if_true]; exact e
theorem runL_sn (wide : Bool) (r : List (Nat × Nat)) (x : Nat × Nat) : runL wide (r ++ [x]) = runL wide r ++ (nL x.1 wide ++ nL x.2 wide) := by simp [runL]
theorem s_inv (hl : ∀ x ∈ l, x < 256) (wide : Bool) (a e : Nat) : ∀ k, sE l (nzW wide) a e k = 0 → e = 0 ∧ l.drop a = runL wide (sV l (nzW wide) a k) ++ l.drop (sA l (nzW wide) a k) ∧ fitA wide (sV l (nzW wide) a k) = true
  | 0, h => ⟨h, by simp [sV, sA, runL], by simp [sV, fitA]⟩
  | k + 1, h => by
    obtain ⟨h1, h2⟩ := ndE_zero (show ndE (okR l (raA l (sA l (nzW wide) a k) (nzW wide)) (nzW wide)) (ndE (okR l (sA l (nzW wide) a k) (nzW wide)) (sE l (nzW wide) a e k)) = 0 from h)
    obtain ⟨h3, h4⟩ := ndE_zero h2
    obtain ⟨i1, i2, i3⟩ := s_inv hl wide a e k h4
    obtain ⟨j1, j2⟩ := inv_nL hl wide h3
    obtain ⟨p1, p2⟩ := inv_nL hl wide h1
    refine ⟨i1, ?_, ?_⟩
    · show l.drop a = runL wide (sV l (nzW wide) a k ++ [(rvV l (sA l (nzW wide) a k) (nzW wide), rvV l (raA l (sA l (nzW wide) a k) (nzW wide)) (nzW wide))]) ++ l.drop (raA l (raA l (sA l (nzW wide) a k) (nzW wide)) (nzW wide))
      rw [i2, runL_sn, List.append_assoc, List.append_assoc]
      congr 1
      rw [ra_ok h1, ← p1, ra_ok h3]
      exact j1
    · show fitA wide (sV l (nzW wide) a k ++ [(rvV l (sA l (nzW wide) a k) (nzW wide), rvV l (raA l (sA l (nzW wide) a k) (nzW wide)) (nzW wide))]) = true
      unfold fitA at i3 ⊢
      rw [List.all_append, i3]
      simp only [List.all_cons, List.all_nil, Bool.and_true, Bool.true_and, fit1]
      rcases j2 with j2 | j2
      · simp [j2]
      · rcases p2 with p2 | p2
        · simp [p2]
        · simp [j2, p2]
end
end Go.Proofs.YtjikibhhhchgeaaDoor
