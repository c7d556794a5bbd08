import Derived.Test.YtjikibhhhchgeaaDoorY43
import Derived.Test.YtjikibhhhchgeaaDoorY44
import Derived.Test.YtjikibhhhchgeaaDoorY45
namespace Go.Proofs.YtjikibhhhchgeaaDoor
open Go.RowKit
set_option linter.unusedVariables false
set_option linter.unusedSimpArgs false
set_option maxRecDepth 100000
theorem here_err0 {l : List Nat} (c : Nat) (s : ByteArray) (ht : tx s = true) (i : l = bigTo c 4 4 ++ (bigTo s.size 2 2 ++ (sbytes s ++ []))) : rErrorC c s false 0 = (l, 0) := by
  subst i; unfold rErrorC; rw [if_pos ht]; simp [erL0]
theorem here_err1 {l : List Nat} (c : Nat) (s : ByteArray) (a : Nat) (ht : tx s = true) (i : l = bigTo c 4 4 ++ (bigTo s.size 2 2 ++ (sbytes s ++ (bigTo a 8 8 ++ [])))) : rErrorC c s true a = (l, 0) := by
  subst i; unfold rErrorC; rw [if_pos ht]; simp [erL1]
theorem here_st {l : List Nat} (wide : Bool) (cx : Nat) (rs : List (Nat × Nat)) (hf : fitA wide rs = true) (h0 : 0 < rs.length) (i : l = bigTo cx 4 4 ++ ((if wide = true then bigTo rs.length 4 4 else []) ++ (runL wide rs ++ []))) : rStatusC wide cx rs = (l, 0) := by
  subst i; unfold rStatusC; rw [if_pos (by rw [hf]; simpa using h0)]; simp [stL]
theorem rr_sz {l : List Nat} {a k : Nat} (h : okR l a k = true) : (rrL l a k).length = k := by
  have h1 : a + k ≤ l.length := by simpa [okR] using h
  unfold rrL; rw [if_pos h, List.length_take, List.length_drop]; omega
theorem un_error (pl : Bool) (ao : Option Addr) (cap n : Nat) (l : List Nat) (w : World) (h : BRow w ao cap l) (hn : l.length = n) (hT : Tabs w) :
    Calls Tryd.prog 22 #[.slice ao n cap, .bool pl] w fun e w' => ∃ (c : Nat) (s : ByteArray) (pl' : Bool) (a : Nat) (er : Nat), e = .returned (.tuple #[.agg #[.int .u32 (c : Int), .string s, .bool pl', .int .u64 (a : Int)], .int .i64 (er : Int)]) ∧ Below w.heap.size w w' ∧ E3 er ∧ (c < 4294967296 ∧ s.size ≤ l.length ∧ a < 18446744073709551616) ∧ (er = 0 → rErrorC c s pl' a = (l, 0)) := by
  have hl := h.lt
  cases pl
  · have hf : ndE (decide (raA l (raA l (raA l 0 4) 2) (rvV l (raA l 0 4) 2) = l.length)) (ndE (tx (bstr (rrL l (raA l (raA l 0 4) 2) (rvV l (raA l 0 4) 2)))) (ndE (okR l (raA l (raA l 0 4) 2) (rvV l (raA l 0 4) 2)) (ndE (okR l (raA l 0 4) 2) (ndE (okR l 0 4) 0)))) = 0 ∨ ndE (decide (raA l (raA l (raA l 0 4) 2) (rvV l (raA l 0 4) 2) = l.length)) (ndE (tx (bstr (rrL l (raA l (raA l 0 4) 2) (rvV l (raA l 0 4) 2)))) (ndE (okR l (raA l (raA l 0 4) 2) (rvV l (raA l 0 4) 2)) (ndE (okR l (raA l 0 4) 2) (ndE (okR l 0 4) 0)))) = 81 := ndE_01 _ (ndE_01 _ (ndE_01 _ (ndE_01 _ (ndE_01 _ (.inl rfl)))))
    rcases hf with hf | hf
    · refine (unpackError_ok0 ao cap n l w h hn hT _ _ _ _ _ _ _ _ _ ⟨rfl, rfl, rfl⟩ ⟨rfl, rfl, rfl⟩ ⟨rfl, rfl, rfl⟩ hf).mono ?_
      rintro e w' ⟨rfl, hb⟩
      obtain ⟨f1, f2⟩ := ndE_zero hf
      obtain ⟨f3, f4⟩ := ndE_zero f2
      obtain ⟨f5, f6⟩ := ndE_zero f4
      obtain ⟨f7, f8⟩ := ndE_zero f6
      obtain ⟨f9, _⟩ := ndE_zero f8
      refine ⟨_, _, false, 0, 0, rfl, hb, .inl rfl, ⟨rvV_lt2 _ _ _ _ hl (by decide) (by decide), by rw [bstr_size]; exact rr_len _ _ _, by decide⟩, fun _ => ?_⟩
      have i1 := inv_rd hl f9
      have i2 := inv_rd hl f7
      have i3 := inv_rr f5
      have hz := rr_sz f5
      have hm : ∀ x ∈ rrL l (raA l (raA l 0 4) 2) (rvV l (raA l 0 4) 2), x < 256 := fun x hx => hl x (by unfold rrL at hx; rw [if_pos f5] at hx; exact List.mem_of_mem_drop (List.mem_of_mem_take hx))
      have hlen := of_decide_eq_true f1
      rw [ra_ok f5] at hlen
      rw [dr0, ← ra_ok f9, i2, ← ra_ok f7, i3, drN hlen] at i1
      exact here_err0 _ _ f3 (by rw [sbytes_bstr _ hm, bstr_size, hz]; exact i1)
    · refine (unpackError_no0 ao cap n l w h hn hT _ _ _ _ _ _ _ _ _ ⟨rfl, rfl, rfl⟩ ⟨rfl, rfl, rfl⟩ ⟨rfl, rfl, rfl⟩ hf).mono ?_
      rintro e w' ⟨rfl, hb⟩
      exact ⟨0, ⟨#[]⟩, false, 0, 81, rfl, hb, .inr (.inl rfl), ⟨by decide, Nat.zero_le _, by decide⟩, fun h => absurd h (by decide)⟩
  · have hf : ndE (decide (raA l (raA l (raA l (raA l 0 4) 2) (rvV l (raA l 0 4) 2)) 8 = l.length)) (ndE (okR l (raA l (raA l (raA l 0 4) 2) (rvV l (raA l 0 4) 2)) 8) (ndE (tx (bstr (rrL l (raA l (raA l 0 4) 2) (rvV l (raA l 0 4) 2)))) (ndE (okR l (raA l (raA l 0 4) 2) (rvV l (raA l 0 4) 2)) (ndE (okR l (raA l 0 4) 2) (ndE (okR l 0 4) 0))))) = 0 ∨ ndE (decide (raA l (raA l (raA l (raA l 0 4) 2) (rvV l (raA l 0 4) 2)) 8 = l.length)) (ndE (okR l (raA l (raA l (raA l 0 4) 2) (rvV l (raA l 0 4) 2)) 8) (ndE (tx (bstr (rrL l (raA l (raA l 0 4) 2) (rvV l (raA l 0 4) 2)))) (ndE (okR l (raA l (raA l 0 4) 2) (rvV l (raA l 0 4) 2)) (ndE (okR l (raA l 0 4) 2) (ndE (okR l 0 4) 0))))) = 81 := ndE_01 _ (ndE_01 _ (ndE_01 _ (ndE_01 _ (ndE_01 _ (ndE_01 _ (.inl rfl))))))
    rcases hf with hf | hf
    · refine (unpackError_ok1 ao cap n l w h hn hT _ _ _ _ _ _ _ _ _ ⟨rfl, rfl, rfl⟩ ⟨rfl, rfl, rfl⟩ ⟨rfl, rfl, rfl⟩ _ _ _ ⟨rfl, rfl, rfl⟩ hf).mono ?_
      rintro e w' ⟨rfl, hb⟩
      obtain ⟨f1, f2⟩ := ndE_zero hf
      obtain ⟨g1, f2⟩ := ndE_zero f2
      obtain ⟨f3, f4⟩ := ndE_zero f2
      obtain ⟨f5, f6⟩ := ndE_zero f4
      obtain ⟨f7, f8⟩ := ndE_zero f6
      obtain ⟨f9, _⟩ := ndE_zero f8
      refine ⟨_, _, true, _, 0, rfl, hb, .inl rfl, ⟨rvV_lt2 _ _ _ _ hl (by decide) (by decide), by rw [bstr_size]; exact rr_len _ _ _, rvV_lt2 _ _ _ _ hl (by decide) (by decide)⟩, fun _ => ?_⟩
      have i1 := inv_rd hl f9
      have i2 := inv_rd hl f7
      have i3 := inv_rr f5
      have hz := rr_sz f5
      have hm : ∀ x ∈ rrL l (raA l (raA l 0 4) 2) (rvV l (raA l 0 4) 2), x < 256 := fun x hx => hl x (by unfold rrL at hx; rw [if_pos f5] at hx; exact List.mem_of_mem_drop (List.mem_of_mem_take hx))
      have hlen := of_decide_eq_true f1
      have i4 := inv_rd hl g1
      rw [ra_ok g1] at hlen
      rw [dr0, ← ra_ok f9, i2, ← ra_ok f7, i3, ← ra_ok f5, i4, drN hlen] at i1
      exact here_err1 _ _ _ f3 (by rw [sbytes_bstr _ hm, bstr_size, hz]; exact i1)
    · refine (unpackError_no1 ao cap n l w h hn hT _ _ _ _ _ _ _ _ _ ⟨rfl, rfl, rfl⟩ ⟨rfl, rfl, rfl⟩ ⟨rfl, rfl, rfl⟩ _ _ _ ⟨rfl, rfl, rfl⟩ hf).mono ?_
      rintro e w' ⟨rfl, hb⟩
      exact ⟨0, ⟨#[]⟩, false, 0, 81, rfl, hb, .inr (.inl rfl), ⟨by decide, Nat.zero_le _, by decide⟩, fun h => absurd h (by decide)⟩
theorem sto_any (l : List Nat) (wide : Bool) (hl : l.length ≤ 1048576) : ∃ K, Sto l wide K ∧ K ≤ l.length := by
  have key : ∀ m, (∀ j, j < m → sE l (nzW wide) (sHa l wide) (sHe l wide) j = 0 ∧ sA l (nzW wide) (sHa l wide) j < l.length) ∨ ∃ K, K < m ∧ (∀ j, j < K → sE l (nzW wide) (sHa l wide) (sHe l wide) j = 0 ∧ sA l (nzW wide) (sHa l wide) j < l.length) ∧ ¬ (sE l (nzW wide) (sHa l wide) (sHe l wide) K = 0 ∧ sA l (nzW wide) (sHa l wide) K < l.length) := by
    intro m
    induction m with
    | zero => exact .inl (fun j hj => by omega)
    | succ m ih =>
      rcases ih with ih | ⟨K, h1, h2, h3⟩
      · by_cases hp : sE l (nzW wide) (sHa l wide) (sHe l wide) m = 0 ∧ sA l (nzW wide) (sHa l wide) m < l.length
        · exact .inl (fun j hj => by rcases Nat.lt_or_ge j m with h | h; exact ih j h; rw [show j = m by omega]; exact hp)
        · exact .inr ⟨m, by omega, ih, hp⟩
      · exact .inr ⟨K, by omega, h2, h3⟩
  have hz : 4 ≤ nzW wide := by unfold nzW; split <;> omega
  have grow : ∀ m, (∀ j, j < m → sE l (nzW wide) (sHa l wide) (sHe l wide) j = 0 ∧ sA l (nzW wide) (sHa l wide) j < l.length) → ∀ j, j < m → j ≤ sA l (nzW wide) (sHa l wide) j := by
    intro m ha j
    induction j with
    | zero => intro _; exact Nat.zero_le _
    | succ j ih =>
      intro hj
      obtain ⟨f1, f2⟩ := ndE_zero (show ndE _ (ndE _ _) = 0 from (ha (j + 1) hj).1)
      obtain ⟨f3, _⟩ := ndE_zero f2
      have := ih (by omega)
      show j + 1 ≤ raA l (raA l (sA l (nzW wide) (sHa l wide) j) (nzW wide)) (nzW wide)
      rw [ra_ok f1, ra_ok f3]
      omega
  rcases key (l.length + 2) with ha | ⟨K, h1, h2, h3⟩
  · have h1 := grow _ ha (l.length + 1) (by omega)
    have h2 := (ha (l.length + 1) (by omega)).2
    omega
  · have hKl : K ≤ l.length := by
      rcases Nat.eq_zero_or_pos K with h | h
      · omega
      · have g1 := grow K h2 (K - 1) (by omega)
        have g2 := (h2 (K - 1) (by omega)).2
        omega
    refine ⟨K, ⟨h2, ?_, by omega⟩, hKl⟩
    by_cases h4 : sE l (nzW wide) (sHa l wide) (sHe l wide) K = 0
    · right
      have : ¬ sA l (nzW wide) (sHa l wide) K < l.length := fun h => h3 ⟨h4, h⟩
      omega
    · exact .inl h4
theorem sHe_or (l : List Nat) (wide : Bool) : E3 (sHe l wide) := by
  unfold sHe; split
  · exact (E3.nd _ (E3.nd _ (.inl rfl)))
  · exact (E3.nd _ (.inl rfl))
theorem sFin_or (l : List Nat) (wide : Bool) (K : Nat) : E3 (sFin l wide K) := ((((sHe_or l wide).sE _ _ _ K).nd _).nd _).nd _
theorem st_inv {l : List Nat} (hl : ∀ x ∈ l, x < 256) (wide : Bool) (K : Nat) (hf : sFin l wide K = 0) : rStatusC wide (rvV l 0 4) (sVal l wide K) = (l, 0) := by
  obtain ⟨f1, f2⟩ := ndE_zero (show ndE _ _ = 0 from hf)
  obtain ⟨f3, f4⟩ := ndE_zero f2
  obtain ⟨f5, f6⟩ := ndE_zero f4
  obtain ⟨g1, g2, g3⟩ := s_inv hl wide _ _ _ f6
  have hlen := of_decide_eq_true f1
  rw [drN hlen] at g2
  have hk : (sVal l wide K).length = K := sV_len _ _ _ _
  have h0 : 0 < (sVal l wide K).length := by rw [hk]; exact of_decide_eq_true f5
  cases wide
  · obtain ⟨f7, _⟩ := ndE_zero (show ndE (okR l 0 4) 0 = 0 by simpa [sHe] using g1)
    have i1 := inv_rd hl f7
    have ha : sHa l false = raA l 0 4 := by simp [sHa]
    rw [dr0, ← ra_ok f7, ← ha, g2] at i1
    exact here_st false _ _ g3 h0 (by simpa [sVal] using i1)
  · obtain ⟨f8, f9⟩ := ndE_zero (show ndE (okR l (raA l 0 4) 4) (ndE (okR l 0 4) 0) = 0 by simpa [sHe] using g1)
    obtain ⟨f7, _⟩ := ndE_zero f9
    have i1 := inv_rd hl f7
    have i2 := inv_rd hl f8
    have ha : sHa l true = raA l (raA l 0 4) 4 := by simp [sHa]
    have hs : rvV l (raA l 0 4) 4 = K := by simpa [sSd] using f3
    rw [← ra_ok f8, ← ha, g2, hs] at i2
    rw [dr0, ← ra_ok f7, i2] at i1
    exact here_st true _ (sVal l true K) g3 h0 (by rw [hk]; simpa [sVal] using i1)
theorem un_status (wide : Bool) (ao : Option Addr) (cap n : Nat) (l : List Nat) (w : World) (h : BRow w ao cap l) (hn : l.length = n) (hl1 : l.length ≤ 1048576) :
    Calls Tryd.prog 20 #[.slice ao n cap, .bool wide] w fun e w' => ∃ (cx : Nat) (ra : Option Addr) (rn rc : Nat) (rs : List (Nat × Nat)) (er : Nat), e = .returned (.tuple #[.agg #[.int .u32 (cx : Int), .slice ra rn rc], .int .i64 (er : Int)]) ∧ rs.length = rn ∧ Runs w' ra rs ∧ (∀ ad, ra = some ad → w.heap.size ≤ ad.block) ∧ Below w.heap.size w w' ∧ E3 er ∧ (cx < 4294967296 ∧ rn ≤ l.length) ∧ (er = 0 → rStatusC wide cx rs = (l, 0)) := by
  have hl := h.lt
  obtain ⟨K, hK, hKl⟩ := sto_any l wide hl1
  by_cases hf : sFin l wide K = 0
  · cases wide
    · refine (unpackStatus0_new ao cap n l w h hn K hK hf).mono ?_
      rintro e w' ⟨ra, rc, rfl, hfr, hu, hb⟩
      exact ⟨_, ra, K, rc, _, 0, rfl, sV_len _ _ _ _, hu, hfr, hb, .inl rfl, ⟨rvV_lt2 _ _ _ _ hl (by decide) (by decide), hKl⟩, fun _ => st_inv hl false K hf⟩
    · refine (unpackStatus1_new ao cap n l w h hn K hK hf).mono ?_
      rintro e w' ⟨ra, rc, rfl, hfr, hu, hb⟩
      exact ⟨_, ra, K, rc, _, 0, rfl, sV_len _ _ _ _, hu, hfr, hb, .inl rfl, ⟨rvV_lt2 _ _ _ _ hl (by decide) (by decide), hKl⟩, fun _ => st_inv hl true K hf⟩
  · cases wide
    · refine (unpackStatus0_no ao cap n l w h hn K hK _ hf rfl).mono ?_
      rintro e w' ⟨rfl, hb⟩
      exact ⟨0, none, 0, 0, [], _, rfl, rfl, runs_nil _ _, fun ad e => (by cases e), hb, sFin_or _ _ _, ⟨by decide, Nat.zero_le _⟩, fun h => absurd h hf⟩
    · refine (unpackStatus1_no ao cap n l w h hn K hK _ hf rfl).mono ?_
      rintro e w' ⟨rfl, hb⟩
      exact ⟨0, none, 0, 0, [], _, rfl, rfl, runs_nil _ _, fun ad e => (by cases e), hb, sFin_or _ _ _, ⟨by decide, Nat.zero_le _⟩, fun h => absurd h hf⟩
end Go.Proofs.YtjikibhhhchgeaaDoor
