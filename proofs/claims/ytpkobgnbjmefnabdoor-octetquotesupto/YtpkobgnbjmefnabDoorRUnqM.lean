import Derived.Test.YtpkobgnbjmefnabDoorUnqW
namespace Go.Proofs.YtpkobgnbjmefnabDoor
open Go.RowKit
set_option linter.unusedVariables false

def hexAt (d : Nat) (v : List Nat) : Option Nat := if d = 120 then (match v with
    | a :: b :: _ => (match hv a, hv b with | some x, some y => some (16 * x + y) | _, _ => none)
    | _ => none) else none
/-- the document's way to read the first byte: it takes more -/
def fBR : List Nat → Option (Nat × Nat)
  | [] => none
  | c :: t => if c ≠ 92 then some (c, 1) else match t with
    | [] => none
    | d :: u => if d = 110 then some (10, 2) else match hexAt d u with
      | some z => some (z, 4)
      | none => some (d, 2)
theorem hexAt_len (d : Nat) (v : List Nat) (z : Nat) (h : hexAt d v = some z) : 2 ≤ v.length := by
  unfold hexAt at h
  split at h
  · cases v with
    | nil => cases h
    | cons a v =>
      cases v with
      | nil => cases h
      | cons b v => simp
  · cases h
theorem fBR_pos (l : List Nat) (b k : Nat) (h : fBR l = some (b, k)) : 1 ≤ k ∧ k ≤ l.length := by
  cases l with
  | nil => simp [fBR] at h
  | cons c t =>
    by_cases hc : c = 92
    · subst hc
      cases t with
      | nil => simp [fBR] at h
      | cons d u =>
        by_cases h1 : d = 110
        · simp [fBR, h1] at h; simp; omega
        · cases hx : hexAt d u with
          | none => simp [fBR, h1, hx] at h; simp; omega
          | some z =>
            have := hexAt_len d u z hx
            simp [fBR, h1, hx] at h; simp; omega
    · simp [fBR, hc] at h; simp; omega
theorem fBR_of (l : List Nat) (p : Nat × Nat) (h : fBL l = some p) : fBR l = some p := by
  cases l with
  | nil => simp [fBL] at h
  | cons c t =>
    by_cases hc : c = 92
    · subst hc
      cases t with
      | nil => simp [fBL] at h
      | cons d u =>
        by_cases h1 : d = 110
        · simp [fBL, h1] at h; simp [fBR, h1, h]
        by_cases h2 : d = 34 ∨ d = 92
        · have h3 : d ≠ 120 := by omega
          simp [fBL, h1, h2] at h
          simp [fBR, h1, hexAt, h3, h]
        by_cases h3 : d = 120
        · subst h3
          cases u with
          | nil => simp [fBL] at h
          | cons a u =>
            cases u with
            | nil => simp [fBL] at h
            | cons b' u =>
              cases ha : hv a with
              | none => simp [fBL, ha] at h
              | some x =>
                cases hb : hv b' with
                | none => simp [fBL, ha, hb] at h
                | some y => simp [fBL, ha, hb] at h; simp [fBR, hexAt, ha, hb, h]
        · simp [fBL, h1, h2, h3] at h
    · simp [fBL, hc] at h; simp [fBR, hc, h]
def rU : Nat → List Nat → Option (List Nat)
  | 0, l => if l = [] then some [] else none
  | n + 1, l => if l = [] then some [] else match fBR l with | some (b, k) => (rU n (l.drop k)).map (b :: ·) | none => none
def rUn (l : List Nat) : Option (List Nat) := rU l.length l
theorem rU_more (n : Nat) : ∀ (l : List Nat), l.length ≤ n → rU n l = rUn l := by
  induction n using Nat.strongRecOn with
  | ind n ih =>
    intro l hl
    cases l with
    | nil => cases n <;> simp [rU, rUn]
    | cons c t =>
      cases n with
      | zero => simp at hl
      | succ m =>
        show rU (m + 1) (c :: t) = rU (t.length + 1) (c :: t)
        simp only [rU]
        rw [if_neg (by simp), if_neg (by simp)]
        cases hf : fBR (c :: t) with
        | none => rfl
        | some x =>
          obtain ⟨b, k⟩ := x
          have hk := fBR_pos _ _ _ hf
          dsimp only
          congr 1
          have hd : ((c :: t).drop k).length ≤ t.length := by rw [List.length_drop]; simp only [List.length_cons]; omega
          by_cases ht : t.length = m
          · rw [ht]
          · rw [ih m (by omega) _ (Nat.le_trans hd (by simpa using hl)), ih t.length (by simp at hl; omega) _ hd]
theorem rUn_nil : rUn [] = some [] := rfl
theorem rUn_step (l : List Nat) (h : l ≠ []) : rUn l = match fBR l with | some (b, k) => (rUn (l.drop k)).map (b :: ·) | none => none := by
  cases l with
  | nil => exact absurd rfl h
  | cons c t =>
    show rU (t.length + 1) (c :: t) = _
    simp only [rU]
    rw [if_neg (by simp)]
    cases hf : fBR (c :: t) with
    | none => rfl
    | some x =>
      obtain ⟨b, k⟩ := x
      have hk := fBR_pos _ _ _ hf
      dsimp only
      rw [rU_more t.length _ (by rw [List.length_drop]; simp only [List.length_cons]; omega)]
theorem rUn_some (l : List Nat) (b k : Nat) (h : fBR l = some (b, k)) : rUn l = (rUn (l.drop k)).map (b :: ·) := by
  have hne : l ≠ [] := fun e => by rw [e] at h; cases h
  rw [rUn_step l hne, h]
theorem rUn_none (l : List Nat) (hne : l ≠ []) (h : fBR l = none) : rUn l = none := by rw [rUn_step l hne, h]
theorem rU_of (n : Nat) : ∀ (l m : List Nat), uL n l = some m → rU n l = some m := by
  induction n with
  | zero => intro l m h; exact h
  | succ n ih =>
    intro l m h
    simp only [uL] at h
    simp only [rU]
    by_cases hl : l = []
    · rw [if_pos hl] at h ⊢; exact h
    · rw [if_neg hl] at h ⊢
      cases hf : fBL l with
      | none => rw [hf] at h; cases h
      | some x =>
        obtain ⟨b, k⟩ := x
        rw [hf] at h
        rw [fBR_of l _ hf]
        dsimp only at h ⊢
        cases hu : uL n (l.drop k) with
        | none => rw [hu] at h; cases h
        | some m' => rw [hu] at h; rw [ih _ _ hu]; exact h
theorem rUn_of (l m : List Nat) (h : unL l = some m) : rUn l = some m := rU_of _ _ _ h

/-- what lies between the marks, from a place on -/
def bt (t : ByteArray) (i : Nat) : List Nat := ((sbytes t).take (t.size - 1)).drop i
theorem bt_cons (t : ByteArray) (k : Nat) (h : k < t.size - 1) : bt t k = sb t k :: bt t (k + 1) := by
  unfold bt
  have hl : k < ((sbytes t).take (t.size - 1)).length := by rw [List.length_take, sbytes_length]; omega
  rw [List.drop_eq_getElem_cons hl]
  congr 1
  have h1 := sbytes_get t k (by omega)
  rw [List.getElem_take]
  have hl2 : k < (sbytes t).length := by rw [sbytes_length]; omega
  rw [List.getElem?_eq_getElem hl2] at h1
  exact Option.some.inj h1
theorem bt_nil (t : ByteArray) (k : Nat) (h : t.size - 1 ≤ k) : bt t k = [] := by
  unfold bt
  exact List.drop_of_length_le (by rw [List.length_take]; omega)
theorem bt_one (t : ByteArray) : bt t 1 = sbytes (t.extract 1 (t.size - 1)) := by
  unfold bt sbytes
  rw [← List.map_take, ← List.map_drop]
  congr 1
  rw [ByteArray.data_extract]
  simp
  rw [← List.drop_one, ← List.drop_one, List.drop_take]
theorem ru_step (t : ByteArray) (k b j : Nat) (acc : List Nat) (hI : rUn (bt t 1) = (rUn (bt t k)).map (acc ++ ·)) (hf : fBR (bt t k) = some (b, j)) : rUn (bt t 1) = (rUn (bt t (k + j))).map ((acc ++ [b]) ++ ·) := by
  have hd : (bt t k).drop j = bt t (k + j) := by unfold bt; rw [List.drop_drop]
  rw [hI, rUn_some _ _ _ hf, hd, Option.map_map]
  congr 1
  funext m
  simp
theorem fr_plain (t : ByteArray) (k : Nat) (h : k < t.size - 1) (hc : sb t k ≠ 92) : fBR (bt t k) = some (sb t k, 1) := by
  rw [bt_cons t k h]; simp [fBR, hc]
theorem fr_end (t : ByteArray) (k : Nat) (h : k < t.size - 1) (hc : sb t k = 92) (h2 : t.size - 1 ≤ k + 1) : rUn (bt t k) = none := by
  rw [bt_cons t k h, bt_nil t (k + 1) h2, hc]; rfl
theorem fr_n (t : ByteArray) (k : Nat) (h : k + 1 < t.size - 1) (hc : sb t k = 92) (hd : sb t (k + 1) = 110) : fBR (bt t k) = some (10, 2) := by
  rw [bt_cons t k (by omega), bt_cons t (k + 1) h, hc, hd]; simp [fBR]
theorem fr_x (t : ByteArray) (k x y : Nat) (h : k + 4 ≤ t.size - 1) (hc : sb t k = 92) (hd : sb t (k + 1) = 120) (hx : hv (sb t (k + 2)) = some x) (hy : hv (sb t (k + 3)) = some y) : fBR (bt t k) = some (16 * x + y, 4) := by
  rw [bt_cons t k (by omega), bt_cons t (k + 1) (by omega), bt_cons t (k + 1 + 1) (by omega), bt_cons t (k + 1 + 1 + 1) (by omega), hc, hd]
  simp [fBR, hexAt, hx, hy]
theorem fr_d (t : ByteArray) (k : Nat) (h : k + 1 < t.size - 1) (hc : sb t k = 92) (hd : sb t (k + 1) ≠ 110) (hn : ¬ (sb t (k + 1) = 120 ∧ k + 4 ≤ t.size - 1 ∧ (hv (sb t (k + 2))).isSome = true ∧ (hv (sb t (k + 3))).isSome = true)) : fBR (bt t k) = some (sb t (k + 1), 2) := by
  have hx : hexAt (sb t (k + 1)) (bt t (k + 1 + 1)) = none := by
    unfold hexAt
    by_cases h120 : sb t (k + 1) = 120
    · rw [if_pos h120]
      by_cases h3 : k + 2 < t.size - 1
      · by_cases h4 : k + 3 < t.size - 1
        · rw [bt_cons t (k + 1 + 1) (by omega), bt_cons t (k + 1 + 1 + 1) (by omega)]
          cases ha : hv (sb t (k + 2)) with
          | none => simp [ha]
          | some x =>
            cases hb : hv (sb t (k + 3)) with
            | none => simp [ha, hb]
            | some y => exact absurd ⟨h120, by omega, by rw [ha]; rfl, by rw [hb]; rfl⟩ hn
        · rw [bt_cons t (k + 1 + 1) (by omega), bt_nil t (k + 1 + 1 + 1) (by omega)]
      · rw [bt_nil t (k + 1 + 1) (by omega)]
    · rw [if_neg h120]
  rw [bt_cons t k (by omega), bt_cons t (k + 1) h, hc]
  simp [fBR, hd, hx]
end Go.Proofs.YtpkobgnbjmefnabDoor
