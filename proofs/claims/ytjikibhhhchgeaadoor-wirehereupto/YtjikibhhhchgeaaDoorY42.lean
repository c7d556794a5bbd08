import Derived.Test.YtjikibhhhchgeaaDoorY41
namespace Go.Proofs.YtjikibhhhchgeaaDoor
open Go.RowKit
set_option linter.unusedVariables false
set_option linter.unusedSimpArgs false
set_option maxRecDepth 100000
theorem dr0 {l : List Nat} : l.drop 0 = l := List.drop_zero
theorem drN {l : List Nat} {a : Nat} (h : a = l.length) : l.drop a = [] := by rw [h]; simp
theorem here_0 {l : List Nat} (v0 v1 : Nat) (i : l = bigTo 0 2 2 ++ (bigTo v0 8 8 ++ (bigTo v1 2 2 ++ []))) : rInfoC 0 v0 v1 ⟨#[]⟩ 0 0 0 [] = (l, 0) := by
  subst i; unfold rInfoC; rw [if_pos (by rfl)]; simp [inL]
theorem here_12 {l : List Nat} (k : Nat) (s : ByteArray) (hk : k = 1 ∨ k = 2) (ht : tx s = true) (i : l = bigTo k 2 2 ++ (sbytes s ++ [])) : rInfoC k 0 0 s 0 0 0 [] = (l, 0) := by
  have k0 : k ≠ 0 := by omega
  subst i; unfold rInfoC; rw [if_pos (by unfold ifB; rw [if_neg k0, if_pos hk, ht]; rfl)]; simp [inL, k0, hk]
theorem here_3 {l : List Nat} (v0 v1 v2 : Nat) (i : l = bigTo 3 2 2 ++ (bigTo v0 4 4 ++ (bigTo v1 4 4 ++ (bigTo v2 4 4 ++ [])))) : rInfoC 3 0 0 ⟨#[]⟩ v0 v1 v2 [] = (l, 0) := by
  subst i; unfold rInfoC; rw [if_pos (by rfl)]; simp [inL]
theorem here_o {l : List Nat} (k : Nat) (d : List Nat) (k0 : k ≠ 0) (k1 : k ≠ 1) (k2 : k ≠ 2) (k3 : k ≠ 3) (i : l = bigTo k 2 2 ++ (d ++ [])) : rInfoC k 0 0 ⟨#[]⟩ 0 0 0 d = (l, 0) := by
  subst i; unfold rInfoC; rw [if_pos (by unfold ifB; rw [if_neg k0, if_neg (by omega), if_neg k3]; rfl)]; simp [inL, k0, k1, k2, k3]
theorem rr_len (l : List Nat) (a k : Nat) : (rrL l a k).length ≤ l.length := by
  unfold rrL; split
  · rw [List.length_take, List.length_drop]; omega
  · simp
theorem un_info (ao : Option Addr) (cap n : Nat) (l : List Nat) (w : World) (h : BRow w ao cap l) (hn : l.length = n) (hT : Tabs w) :
    Calls Tryd.prog 11 #[.slice ao n cap] w fun e w' => ∃ (k sz fl : Nat) (s : ByteArray) (mn pf mx : Nat) (da : Option Addr) (dn dc : Nat) (d : List Nat) (er : Nat), e = .returned (.tuple #[.agg #[.int .u16 (k : Int), .int .u64 (sz : Int), .int .u16 (fl : Int), .string s, .int .u32 (mn : Int), .int .u32 (pf : Int), .int .u32 (mx : Int), .slice da dn dc], .int .i64 (er : Int)]) ∧ d.length = dn ∧ BRow w' da dc d ∧ (∀ ad, da = some ad → w.heap.size ≤ ad.block) ∧ Below w.heap.size w w' ∧ (er = 0 ∨ er = 81) ∧ (k < 65536 ∧ sz < 18446744073709551616 ∧ fl < 65536 ∧ s.size ≤ l.length ∧ mn < 4294967296 ∧ pf < 4294967296 ∧ mx < 4294967296 ∧ dn ≤ l.length) ∧ (er = 0 → rInfoC k sz fl s mn pf mx d = (l, 0)) := by
  have hl := h.lt
  have l2 : ∀ a, rvV l a 2 < 65536 := fun a => rvV_lt2 _ _ _ _ hl (by decide) (by decide)
  have l4 : ∀ a, rvV l a 4 < 4294967296 := fun a => rvV_lt2 _ _ _ _ hl (by decide) (by decide)
  have l8 : ∀ a, rvV l a 8 < 18446744073709551616 := fun a => rvV_lt2 _ _ _ _ hl (by decide) (by decide)
  have e1o : ndE (okR l 0 2) 0 = 0 ∨ ndE (okR l 0 2) 0 = 81 := ndE_01 _ (.inl rfl)
  by_cases k0 : rvV l 0 2 = 0
  · have hf : ndE (decide (raA l (raA l (raA l 0 2) 8) 2 = l.length)) (ndE (okR l (raA l (raA l 0 2) 8) 2) (ndE (okR l (raA l 0 2) 8) (ndE (okR l 0 2) 0))) = 0 ∨ ndE (decide (raA l (raA l (raA l 0 2) 8) 2 = l.length)) (ndE (okR l (raA l (raA l 0 2) 8) 2) (ndE (okR l (raA l 0 2) 8) (ndE (okR l 0 2) 0))) = 81 := ndE_01 _ (ndE_01 _ (ndE_01 _ e1o))
    rcases hf with hf | hf
    · refine (unpackInfo_0ok ao cap n l w h hn _ _ _ ⟨rfl, rfl, rfl⟩ _ _ _ ⟨rfl, rfl, rfl⟩ _ _ _ ⟨rfl, rfl, rfl⟩ k0 hf).mono ?_
      rintro e w' ⟨rfl, hb⟩
      obtain ⟨f1, f2⟩ := ndE_zero hf
      obtain ⟨f3, f4⟩ := ndE_zero f2
      obtain ⟨f5, f6⟩ := ndE_zero f4
      obtain ⟨f7, _⟩ := ndE_zero f6
      refine ⟨_, _, _, ⟨#[]⟩, 0, 0, 0, none, 0, 0, [], 0, rfl, rfl, brow_nil _, fun ad e => (by cases e), hb, .inl rfl, ⟨l2 _, l8 _, l2 _, Nat.zero_le _, by decide, by decide, by decide, Nat.zero_le _⟩, fun _ => ?_⟩
      have i1 := inv_rd hl f7
      have i2 := inv_rd hl f5
      have i3 := inv_rd hl f3
      have hlen := of_decide_eq_true f1
      rw [ra_ok f3] at hlen
      rw [dr0, ← ra_ok f7, i2, ← ra_ok f5, i3, drN hlen] at i1
      rw [k0] at i1 ⊢
      exact here_0 _ _ i1
    · refine (unpackInfo_0no ao cap n l w h hn _ _ _ ⟨rfl, rfl, rfl⟩ _ _ _ ⟨rfl, rfl, rfl⟩ _ _ _ ⟨rfl, rfl, rfl⟩ k0 hf).mono ?_
      rintro e w' ⟨rfl, hb⟩
      exact ⟨0, 0, 0, ⟨#[]⟩, 0, 0, 0, none, 0, 0, [], 81, rfl, rfl, brow_nil _, fun ad e => (by cases e), hb, .inr rfl, ⟨by decide, by decide, by decide, Nat.zero_le _, by decide, by decide, by decide, Nat.zero_le _⟩, fun h => by cases h⟩
  by_cases k1 : rvV l 0 2 = 1
  · have hf : ndE (decide (raA l (raA l 0 2) (l.length - raA l 0 2) = l.length)) (ndE (tx (bstr (rrL l (raA l 0 2) (l.length - raA l 0 2)))) (ndE (okR l (raA l 0 2) (l.length - raA l 0 2)) (ndE (okR l 0 2) 0))) = 0 ∨ ndE (decide (raA l (raA l 0 2) (l.length - raA l 0 2) = l.length)) (ndE (tx (bstr (rrL l (raA l 0 2) (l.length - raA l 0 2)))) (ndE (okR l (raA l 0 2) (l.length - raA l 0 2)) (ndE (okR l 0 2) 0))) = 81 := ndE_01 _ (ndE_01 _ (ndE_01 _ e1o))
    rcases hf with hf | hf
    · refine (unpackInfo_1ok ao cap n l w h hn hT _ _ _ _ _ _ ⟨rfl, rfl, rfl⟩ rfl _ ⟨rfl, rfl, rfl⟩ k0 k1 hf).mono ?_
      rintro e w' ⟨rfl, hb⟩
      obtain ⟨f1, f2⟩ := ndE_zero hf
      obtain ⟨f3, f4⟩ := ndE_zero f2
      obtain ⟨f5, f6⟩ := ndE_zero f4
      obtain ⟨f7, _⟩ := ndE_zero f6
      refine ⟨_, 0, 0, _, 0, 0, 0, none, 0, 0, [], 0, rfl, rfl, brow_nil _, fun ad e => (by cases e), hb, .inl rfl, ⟨l2 _, by decide, by decide, by rw [bstr_size]; exact rr_len _ _ _, by decide, by decide, by decide, Nat.zero_le _⟩, fun _ => ?_⟩
      have i1 := inv_rd hl f7
      have i2 := inv_rr f5
      have hlen := of_decide_eq_true f1
      rw [ra_ok f5] at hlen
      rw [dr0, ← ra_ok f7, i2, drN hlen] at i1
      have hm : ∀ x ∈ rrL l (raA l 0 2) (l.length - raA l 0 2), x < 256 := fun x hx => hl x (by unfold rrL at hx; rw [if_pos f5] at hx; exact List.mem_of_mem_drop (List.mem_of_mem_take hx))
      exact here_12 _ _ (.inl k1) f3 (by rw [sbytes_bstr _ hm]; exact i1)
    · refine (unpackInfo_1no ao cap n l w h hn hT _ _ _ _ _ _ ⟨rfl, rfl, rfl⟩ rfl _ ⟨rfl, rfl, rfl⟩ k0 k1 hf).mono ?_
      rintro e w' ⟨rfl, hb⟩
      exact ⟨0, 0, 0, ⟨#[]⟩, 0, 0, 0, none, 0, 0, [], 81, rfl, rfl, brow_nil _, fun ad e => (by cases e), hb, .inr rfl, ⟨by decide, by decide, by decide, Nat.zero_le _, by decide, by decide, by decide, Nat.zero_le _⟩, fun h => by cases h⟩
  by_cases k2 : rvV l 0 2 = 2
  · have hf : ndE (decide (raA l (raA l 0 2) (l.length - raA l 0 2) = l.length)) (ndE (tx (bstr (rrL l (raA l 0 2) (l.length - raA l 0 2)))) (ndE (okR l (raA l 0 2) (l.length - raA l 0 2)) (ndE (okR l 0 2) 0))) = 0 ∨ ndE (decide (raA l (raA l 0 2) (l.length - raA l 0 2) = l.length)) (ndE (tx (bstr (rrL l (raA l 0 2) (l.length - raA l 0 2)))) (ndE (okR l (raA l 0 2) (l.length - raA l 0 2)) (ndE (okR l 0 2) 0))) = 81 := ndE_01 _ (ndE_01 _ (ndE_01 _ e1o))
    rcases hf with hf | hf
    · refine (unpackInfo_2ok ao cap n l w h hn hT _ _ _ _ _ _ ⟨rfl, rfl, rfl⟩ rfl _ ⟨rfl, rfl, rfl⟩ k0 k1 k2 hf).mono ?_
      rintro e w' ⟨rfl, hb⟩
      obtain ⟨f1, f2⟩ := ndE_zero hf
      obtain ⟨f3, f4⟩ := ndE_zero f2
      obtain ⟨f5, f6⟩ := ndE_zero f4
      obtain ⟨f7, _⟩ := ndE_zero f6
      refine ⟨_, 0, 0, _, 0, 0, 0, none, 0, 0, [], 0, rfl, rfl, brow_nil _, fun ad e => (by cases e), hb, .inl rfl, ⟨l2 _, by decide, by decide, by rw [bstr_size]; exact rr_len _ _ _, by decide, by decide, by decide, Nat.zero_le _⟩, fun _ => ?_⟩
      have i1 := inv_rd hl f7
      have i2 := inv_rr f5
      have hlen := of_decide_eq_true f1
      rw [ra_ok f5] at hlen
      rw [dr0, ← ra_ok f7, i2, drN hlen] at i1
      have hm : ∀ x ∈ rrL l (raA l 0 2) (l.length - raA l 0 2), x < 256 := fun x hx => hl x (by unfold rrL at hx; rw [if_pos f5] at hx; exact List.mem_of_mem_drop (List.mem_of_mem_take hx))
      exact here_12 _ _ (.inr k2) f3 (by rw [sbytes_bstr _ hm]; exact i1)
    · refine (unpackInfo_2no ao cap n l w h hn hT _ _ _ _ _ _ ⟨rfl, rfl, rfl⟩ rfl _ ⟨rfl, rfl, rfl⟩ k0 k1 k2 hf).mono ?_
      rintro e w' ⟨rfl, hb⟩
      exact ⟨0, 0, 0, ⟨#[]⟩, 0, 0, 0, none, 0, 0, [], 81, rfl, rfl, brow_nil _, fun ad e => (by cases e), hb, .inr rfl, ⟨by decide, by decide, by decide, Nat.zero_le _, by decide, by decide, by decide, Nat.zero_le _⟩, fun h => by cases h⟩
  by_cases k3 : rvV l 0 2 = 3
  · have hf : ndE (decide (raA l (raA l (raA l (raA l 0 2) 4) 4) 4 = l.length)) (ndE (okR l (raA l (raA l (raA l 0 2) 4) 4) 4) (ndE (okR l (raA l (raA l 0 2) 4) 4) (ndE (okR l (raA l 0 2) 4) (ndE (okR l 0 2) 0)))) = 0 ∨ ndE (decide (raA l (raA l (raA l (raA l 0 2) 4) 4) 4 = l.length)) (ndE (okR l (raA l (raA l (raA l 0 2) 4) 4) 4) (ndE (okR l (raA l (raA l 0 2) 4) 4) (ndE (okR l (raA l 0 2) 4) (ndE (okR l 0 2) 0)))) = 81 := ndE_01 _ (ndE_01 _ (ndE_01 _ (ndE_01 _ e1o)))
    rcases hf with hf | hf
    · refine (unpackInfo_3ok ao cap n l w h hn _ _ _ ⟨rfl, rfl, rfl⟩ _ _ _ ⟨rfl, rfl, rfl⟩ _ _ _ ⟨rfl, rfl, rfl⟩ _ _ _ ⟨rfl, rfl, rfl⟩ k0 k1 k2 k3 hf).mono ?_
      rintro e w' ⟨rfl, hb⟩
      obtain ⟨f1, f2⟩ := ndE_zero hf
      obtain ⟨f3, f4⟩ := ndE_zero f2
      obtain ⟨f5, f6⟩ := ndE_zero f4
      obtain ⟨f7, f8⟩ := ndE_zero f6
      obtain ⟨f9, _⟩ := ndE_zero f8
      refine ⟨_, 0, 0, ⟨#[]⟩, _, _, _, none, 0, 0, [], 0, rfl, rfl, brow_nil _, fun ad e => (by cases e), hb, .inl rfl, ⟨l2 _, by decide, by decide, Nat.zero_le _, l4 _, l4 _, l4 _, Nat.zero_le _⟩, fun _ => ?_⟩
      have i1 := inv_rd hl f9
      have i2 := inv_rd hl f7
      have i3 := inv_rd hl f5
      have i4 := inv_rd hl f3
      have hlen := of_decide_eq_true f1
      rw [ra_ok f3] at hlen
      rw [dr0, ← ra_ok f9, i2, ← ra_ok f7, i3, ← ra_ok f5, i4, drN hlen] at i1
      rw [k3] at i1 ⊢
      exact here_3 _ _ _ i1
    · refine (unpackInfo_3no ao cap n l w h hn _ _ _ ⟨rfl, rfl, rfl⟩ _ _ _ ⟨rfl, rfl, rfl⟩ _ _ _ ⟨rfl, rfl, rfl⟩ _ _ _ ⟨rfl, rfl, rfl⟩ k0 k1 k2 k3 hf).mono ?_
      rintro e w' ⟨rfl, hb⟩
      exact ⟨0, 0, 0, ⟨#[]⟩, 0, 0, 0, none, 0, 0, [], 81, rfl, rfl, brow_nil _, fun ad e => (by cases e), hb, .inr rfl, ⟨by decide, by decide, by decide, Nat.zero_le _, by decide, by decide, by decide, Nat.zero_le _⟩, fun h => by cases h⟩
  · have hf : ndE (decide (raA l (raA l 0 2) (l.length - raA l 0 2) = l.length)) (ndE (okR l (raA l 0 2) (l.length - raA l 0 2)) (ndE (okR l 0 2) 0)) = 0 ∨ ndE (decide (raA l (raA l 0 2) (l.length - raA l 0 2) = l.length)) (ndE (okR l (raA l 0 2) (l.length - raA l 0 2)) (ndE (okR l 0 2) 0)) = 81 := ndE_01 _ (ndE_01 _ e1o)
    rcases hf with hf | hf
    · refine (unpackInfo_ook ao cap n l w h hn hT _ _ _ _ _ _ ⟨rfl, rfl, rfl⟩ rfl _ ⟨rfl, rfl, rfl⟩ k0 k1 k2 k3 hf).mono ?_
      rintro e w' ⟨a7, c7, n7, rfl, hl7, hr⟩
      obtain ⟨f1, f2⟩ := ndE_zero hf
      obtain ⟨f5, f6⟩ := ndE_zero f2
      obtain ⟨f7, _⟩ := ndE_zero f6
      have hdl := rr_len l (raA l 0 2) (l.length - raA l 0 2)
      refine ⟨_, 0, 0, ⟨#[]⟩, 0, 0, 0, a7, n7, c7, _, 0, rfl, hl7, hr.brow (Nat.le_trans hdl h.len), fun ad e => (owns_typeU hr.own ad.block (by rw [e]; rfl)).2.1, hr.bel, .inl rfl, ⟨l2 _, by decide, by decide, Nat.zero_le _, by decide, by decide, by decide, by rw [← hl7]; exact hdl⟩, fun _ => ?_⟩
      have i1 := inv_rd hl f7
      have i2 := inv_rr f5
      have hlen := of_decide_eq_true f1
      rw [ra_ok f5] at hlen
      rw [dr0, ← ra_ok f7, i2, drN hlen] at i1
      exact here_o _ _ k0 k1 k2 k3 i1
    · refine (unpackInfo_ono ao cap n l w h hn hT _ _ _ _ _ _ ⟨rfl, rfl, rfl⟩ rfl _ ⟨rfl, rfl, rfl⟩ k0 k1 k2 k3 hf).mono ?_
      rintro e w' ⟨rfl, hb⟩
      exact ⟨0, 0, 0, ⟨#[]⟩, 0, 0, 0, none, 0, 0, [], 81, rfl, rfl, brow_nil _, fun ad e => (by cases e), hb, .inr rfl, ⟨by decide, by decide, by decide, Nat.zero_le _, by decide, by decide, by decide, Nat.zero_le _⟩, fun h => by cases h⟩
end Go.Proofs.YtjikibhhhchgeaaDoor
