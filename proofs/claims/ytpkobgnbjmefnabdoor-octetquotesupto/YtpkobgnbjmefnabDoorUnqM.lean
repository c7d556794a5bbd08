import Derived.Test.YtpkobgnbjmefnabDoorQuoteM
namespace Go.Proofs.YtpkobgnbjmefnabDoor
open Go.RowKit
set_option linter.unusedVariables false

/-- the byte that a text begins with, by an escape or as it is -/
def fBL : List Nat → Option (Nat × Nat)
  | [] => none
  | c :: t => if c ≠ 92 then some (c, 1) else match t with
    | [] => none
    | d :: u => if d = 110 then some (10, 2) else if d = 34 ∨ d = 92 then some (d, 2) else if d = 120 then (match u with
        | a :: b :: _ => (match hv a, hv b with | some x, some y => some (16 * x + y, 4) | _, _ => none)
        | _ => none) else none
theorem fBL_pos (l : List Nat) (b k : Nat) (h : fBL l = some (b, k)) : 1 ≤ k ∧ k ≤ l.length := by
  cases l with
  | nil => simp [fBL] at h
  | cons c t =>
    by_cases hc : c = 92
    · subst hc
      cases t with
      | nil => simp [fBL] at h
      | cons d u =>
        by_cases h1 : d = 110
        · simp [fBL, h1] at h; simp; omega
        by_cases h2 : d = 34 ∨ d = 92
        · simp [fBL, h1, h2] at h; simp; omega
        by_cases h3 : d = 120
        · subst h3
          cases u with
          | nil => simp [fBL] at h
          | cons a u =>
            cases u with
            | nil => simp [fBL] at h
            | cons b' u =>
              cases ha : hv a with
              | none => simp [fBL, ha] at h
              | some x =>
                cases hb : hv b' with
                | none => simp [fBL, ha, hb] at h
                | some y => simp [fBL, ha, hb] at h; simp; omega
        · simp [fBL, h1, h2, h3] at h
    · simp [fBL, hc] at h; simp; omega
def uL : Nat → List Nat → Option (List Nat)
  | 0, l => if l = [] then some [] else none
  | n + 1, l => if l = [] then some [] else match fBL l with | some (b, k) => (uL n (l.drop k)).map (b :: ·) | none => none
def unL (l : List Nat) : Option (List Nat) := uL l.length l
theorem uL_more (n : Nat) : ∀ (l : List Nat), l.length ≤ n → uL n l = unL l := by
  induction n using Nat.strongRecOn with
  | ind n ih =>
    intro l hl
    cases l with
    | nil => cases n <;> simp [uL, unL]
    | cons c t =>
      cases n with
      | zero => simp at hl
      | succ m =>
        show uL (m + 1) (c :: t) = uL (t.length + 1) (c :: t)
        simp only [uL]
        rw [if_neg (by simp), if_neg (by simp)]
        cases hf : fBL (c :: t) with
        | none => rfl
        | some x =>
          obtain ⟨b, k⟩ := x
          have hk := fBL_pos _ _ _ hf
          dsimp only
          congr 1
          have hd : ((c :: t).drop k).length ≤ t.length := by rw [List.length_drop]; simp only [List.length_cons]; omega
          by_cases ht : t.length = m
          · rw [ht]
          · rw [ih m (by omega) _ (Nat.le_trans hd (by simpa using hl)), ih t.length (by simp at hl; omega) _ hd]
theorem unL_nil : unL [] = some [] := rfl
theorem unL_step (l : List Nat) (h : l ≠ []) : unL l = match fBL l with | some (b, k) => (unL (l.drop k)).map (b :: ·) | none => none := by
  cases l with
  | nil => exact absurd rfl h
  | cons c t =>
    show uL (t.length + 1) (c :: t) = _
    simp only [uL]
    rw [if_neg (by simp)]
    cases hf : fBL (c :: t) with
    | none => rfl
    | some x =>
      obtain ⟨b, k⟩ := x
      have hk := fBL_pos _ _ _ hf
      dsimp only
      rw [uL_more t.length _ (by rw [List.length_drop]; simp only [List.length_cons]; omega)]
theorem unL_some (l : List Nat) (b k : Nat) (h : fBL l = some (b, k)) : unL l = (unL (l.drop k)).map (b :: ·) := by
  have hne : l ≠ [] := fun e => by rw [e] at h; cases h
  rw [unL_step l hne, h]
theorem unL_none (l : List Nat) (hne : l ≠ []) (h : fBL l = none) : unL l = none := by rw [unL_step l hne, h]
theorem unL_plain : ∀ (p R : List Nat), (∀ c ∈ p, c ≠ 92) → unL (p ++ R) = (unL R).map (p ++ ·)
  | [], R, _ => by simp
  | c :: p, R, h => by
    have hc := h c (by simp)
    rw [List.cons_append, unL_some (c :: (p ++ R)) c 1 (by simp [fBL, hc]), List.drop_one, List.tail_cons, unL_plain p R (fun x hx => h x (by simp [hx])), Option.map_map]
    rfl
theorem map_toNat_ofNat (r : Nat) (h : r < 256) : (UInt8.ofNat r).toNat = r := by rw [UInt8.toNat_ofNat']; omega
theorem unL_piece (l : List UInt8) (h : l ≠ []) (R : List Nat) : unL ((piece l).map UInt8.toNat ++ R) = (unL R).map ((l.take (Lib.decodeL l).2).map UInt8.toNat ++ ·) := by
  have hone : (Lib.decodeL l).2 = 1 → (l.take (Lib.decodeL l).2).map UInt8.toNat = [(l.getD 0 0).toNat] := fun e => by
    rw [e]
    cases l with
    | nil => exact absurd rfl h
    | cons c t => rfl
  unfold piece
  split
  · rename_i h1
    obtain ⟨e1, e2⟩ := low_rune l h (by omega)
    rw [hone e2, e1]
    have hr : (UInt8.ofNat (Lib.decodeL l).1).toNat = (Lib.decodeL l).1 := map_toNat_ofNat _ (by omega)
    show unL ((92 : UInt8).toNat :: (UInt8.ofNat (Lib.decodeL l).1).toNat :: R) = _
    rw [hr]
    rw [unL_some _ (Lib.decodeL l).1 2 (by
      have : (92 : UInt8).toNat = 92 := rfl
      rw [this]
      simp only [fBL]
      rw [if_neg (by simp), if_neg (by omega), if_pos h1])]
    rfl
  split
  · rename_i h1 h2
    obtain ⟨e1, e2⟩ := low_rune l h (by omega)
    rw [hone e2, e1, h2]
    show unL (92 :: 110 :: R) = _
    rw [unL_some _ 10 2 (by simp [fBL])]
    rfl
  split
  · rename_i h1 h2 hb
    have e2 : (Lib.decodeL l).2 = 1 := by
      rcases (bad_iff l).1 hb with hb | hb | hb
      · exact (low_rune l h (by omega)).2
      · exact (low_rune l h (by omega)).2
      · exact hb.2
    rw [hone e2]
    have hc := UInt8.toNat_lt (l.getD 0 0)
    generalize (l.getD 0 0) = c at *
    have d1 := hv_dig (c.toNat / 16) (by omega)
    have d2 := hv_dig (c.toNat % 16) (by omega)
    have l1 := dig_lt (c.toNat / 16) (by omega)
    have l2 := dig_lt (c.toNat % 16) (by omega)
    show unL (92 :: 120 :: (UInt8.ofNat (dig (c.toNat / 16))).toNat :: (UInt8.ofNat (dig (c.toNat % 16))).toNat :: R) = _
    rw [map_toNat_ofNat _ (by omega), map_toNat_ofNat _ (by omega)]
    rw [unL_some _ c.toNat 4 (by
      simp only [fBL]
      rw [if_neg (by simp), if_neg (by decide), if_neg (by decide), if_pos trivial, d1, d2]
      dsimp only
      congr 2; omega)]
    rfl
  · rename_i h1 h2 hb
    exact unL_plain _ R (fun c hc => by
      obtain ⟨x, hx, rfl⟩ := List.mem_map.1 hc
      intro e
      exact plain_piece l h (by omega) hb x hx (by rw [← UInt8.toNat_inj]; exact e))
theorem unL_qbody_n (n : Nat) : ∀ l : List UInt8, l.length ≤ n → unL ((qbody l).map UInt8.toNat) = some (l.map UInt8.toNat) := by
  induction n with
  | zero =>
    intro l hl
    obtain rfl := List.eq_nil_of_length_eq_zero (by omega : l.length = 0)
    rfl
  | succ n ih =>
    intro l hl
    by_cases h : l = []
    · subst h; rfl
    · have hw := Lib.decodeL_width l
      rw [qbody_step l h, List.map_append, unL_piece l h, ih _ (by rw [List.length_drop]; omega)]
      simp only [Option.map_some]
      rw [← List.map_append, List.take_append_drop]
theorem unL_qbody (l : List UInt8) : unL ((qbody l).map UInt8.toNat) = some (l.map UInt8.toNat) := unL_qbody_n _ l (Nat.le_refl _)
end Go.Proofs.YtpkobgnbjmefnabDoor
