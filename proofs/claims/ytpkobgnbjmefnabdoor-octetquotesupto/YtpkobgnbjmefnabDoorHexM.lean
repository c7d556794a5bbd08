import Derived.Test.YtpkobgnbjmefnabDoorReaderT
namespace Go.Proofs.YtpkobgnbjmefnabDoor
open Go.RowKit
set_option linter.unusedVariables false
set_option maxRecDepth 100000

/-- what a digit stands for -/
def hv (c : Nat) : Option Nat := if 48 ≤ c ∧ c ≤ 57 then some (c - 48) else if 97 ≤ c ∧ c ≤ 102 then some (c - 87) else none
def dig (v : Nat) : Nat := if v < 10 then 48 + v else 87 + v
def hexL (l : List Nat) : List Nat := l.flatMap fun x => [dig (x / 16), dig (x % 16)]
theorem dig_lt (v : Nat) (h : v < 16) : dig v < 256 := by unfold dig; split <;> omega
theorem hv_dig (v : Nat) (h : v < 16) : hv (dig v) = some v := by
  unfold dig hv
  split
  · rw [if_pos (by omega)]; congr 1; omega
  · rw [if_neg (by omega), if_pos (by omega)]; congr 1; omega
theorem hv_lt (c v : Nat) (h : hv c = some v) : v < 16 := by
  unfold hv at h
  split at h
  · simp at h; omega
  · split at h
    · simp at h; omega
    · simp at h
theorem hexL_snoc (l : List Nat) (x : Nat) : hexL (l ++ [x]) = hexL l ++ [dig (x / 16), dig (x % 16)] := by simp [hexL]
theorem hexL_length (l : List Nat) : (hexL l).length = 2 * l.length := by
  induction l with
  | nil => rfl
  | cons x l ih =>
    have e : hexL (x :: l) = [dig (x / 16), dig (x % 16)] ++ hexL l := by simp [hexL]
    rw [e, List.length_append, ih]; simp; omega
theorem hexL_lt (l : List Nat) (h : ∀ x ∈ l, x < 256) : ∀ x ∈ hexL l, x < 256 := by
  intro x hx
  obtain ⟨y, hy, hm⟩ := List.mem_flatMap.1 hx
  have := h y hy
  simp at hm
  rcases hm with rfl | rfl
  · exact dig_lt _ (by omega)
  · exact dig_lt _ (by omega)
theorem hexL_get (l : List Nat) (j : Nat) (hj : j < l.length) : (hexL l)[2 * j]? = some (dig (l[j] / 16)) ∧ (hexL l)[2 * j + 1]? = some (dig (l[j] % 16)) := by
  induction l generalizing j with
  | nil => simp at hj
  | cons x l ih =>
    have e : hexL (x :: l) = dig (x / 16) :: dig (x % 16) :: hexL l := by simp [hexL]
    rw [e]
    cases j with
    | zero => simp
    | succ j =>
      have := ih j (by simpa using hj)
      rw [show 2 * (j + 1) = 2 * j + 1 + 1 by omega]
      simpa using this

def sb (s : ByteArray) (i : Nat) : Nat := (s.get! i).toNat
theorem sb_lt (s : ByteArray) (i : Nat) : sb s i < 256 := UInt8.toNat_lt _
theorem sb_get (m : List Nat) (i : Nat) (hi : i < m.length) (h : ∀ x ∈ m, x < 256) : sb (bstr m) i = m[i] := by
  unfold sb bstr
  have : (⟨(m.map UInt8.ofNat).toArray⟩ : ByteArray).get! i = UInt8.ofNat m[i] := by
    show (m.map UInt8.ofNat).toArray[i]! = _
    simp [hi]
  rw [this, UInt8.toNat_ofNat']
  exact Nat.mod_eq_of_lt (h _ (List.getElem_mem hi))
def pairOk (s : ByteArray) (j : Nat) : Bool := (hv (sb s (2 * j))).isSome && (hv (sb s (2 * j + 1))).isSome
def pairV (s : ByteArray) (j : Nat) : Nat := 16 * (hv (sb s (2 * j))).getD 0 + (hv (sb s (2 * j + 1))).getD 0
def decTo (s : ByteArray) (k : Nat) : List Nat := (List.range k).map (pairV s)
def okTo (s : ByteArray) (k : Nat) : Bool := (List.range k).all (pairOk s)
def unhexR (s : ByteArray) : Option (List Nat) := if s.size % 2 = 0 ∧ okTo s (s.size / 2) = true then some (decTo s (s.size / 2)) else none
theorem decTo_succ (s : ByteArray) (k : Nat) : decTo s (k + 1) = decTo s k ++ [pairV s k] := by simp [decTo, List.range_succ]
theorem decTo_length (s : ByteArray) (k : Nat) : (decTo s k).length = k := by simp [decTo]
theorem okTo_succ (s : ByteArray) (k : Nat) : okTo s (k + 1) = (okTo s k && pairOk s k) := by simp [okTo, List.range_succ]
theorem okTo_bad (s : ByteArray) (k n : Nat) (hk : k < n) (h : pairOk s k = false) : okTo s n = false := by
  unfold okTo
  rw [List.all_eq_false]
  exact ⟨k, List.mem_range.2 hk, by simp [h]⟩
theorem pairV_lt (s : ByteArray) (k : Nat) (h : pairOk s k = true) : pairV s k < 256 := by
  unfold pairOk at h
  unfold pairV
  cases h1 : hv (sb s (2 * k)) with
  | none => simp [h1] at h
  | some a =>
    cases h2 : hv (sb s (2 * k + 1)) with
    | none => simp [h2] at h
    | some b =>
      have := hv_lt _ _ h1
      have := hv_lt _ _ h2
      simp; omega
theorem decTo_lt (s : ByteArray) (k : Nat) (h : okTo s k = true) : ∀ x ∈ decTo s k, x < 256 := by
  intro x hx
  obtain ⟨j, hj, rfl⟩ := List.mem_map.1 hx
  exact pairV_lt s j (List.all_eq_true.1 h j hj)
theorem unhexR_lt (s : ByteArray) (l : List Nat) (h : unhexR s = some l) : (∀ x ∈ l, x < 256) ∧ l.length ≤ s.size := by
  unfold unhexR at h
  split at h
  · rename_i hc
    simp at h; subst h
    exact ⟨decTo_lt s _ hc.2, by rw [decTo_length]; omega⟩
  · simp at h
theorem unhexR_odd (s : ByteArray) (h : s.size % 2 ≠ 0) : unhexR s = none := by unfold unhexR; rw [if_neg (fun hc => h hc.1)]
theorem unhexR_bad (s : ByteArray) (k : Nat) (hk : k < s.size / 2) (h : pairOk s k = false) : unhexR s = none := by
  unfold unhexR; rw [if_neg (fun hc => by rw [okTo_bad s k _ hk h] at hc; simp at hc)]
theorem unhexR_ok (s : ByteArray) (h : s.size % 2 = 0) (ho : okTo s (s.size / 2) = true) : unhexR s = some (decTo s (s.size / 2)) := by unfold unhexR; rw [if_pos ⟨h, ho⟩]
theorem unhexR_hex (l : List Nat) (h : ∀ x ∈ l, x < 256) : unhexR (bstr (hexL l)) = some l := by
  have hsz : (bstr (hexL l)).size = 2 * l.length := by rw [bstr_size, hexL_length]
  have hp : ∀ j (hj : j < l.length), pairOk (bstr (hexL l)) j = true ∧ pairV (bstr (hexL l)) j = l[j] := fun j hj => by
    obtain ⟨h1, h2⟩ := hexL_get l j hj
    have hlt := h _ (List.getElem_mem hj)
    have hl := hexL_length l
    have e1 : sb (bstr (hexL l)) (2 * j) = dig (l[j] / 16) := by
      rw [sb_get _ _ (by omega) (hexL_lt l h)]
      rw [List.getElem?_eq_getElem (by omega)] at h1; exact Option.some.inj h1
    have e2 : sb (bstr (hexL l)) (2 * j + 1) = dig (l[j] % 16) := by
      rw [sb_get _ _ (by omega) (hexL_lt l h)]
      rw [List.getElem?_eq_getElem (by omega)] at h2; exact Option.some.inj h2
    unfold pairOk pairV
    rw [e1, e2, hv_dig _ (by omega), hv_dig _ (by omega)]
    refine ⟨rfl, ?_⟩
    show 16 * (l[j] / 16) + l[j] % 16 = l[j]
    omega
  have hk : (bstr (hexL l)).size / 2 = l.length := by omega
  rw [unhexR_ok _ (by omega) (by
    rw [hk]; unfold okTo; rw [List.all_eq_true]
    intro j hj; exact (hp j (List.mem_range.1 hj)).1), hk]
  congr 1
  apply List.ext_getElem
  · rw [decTo_length]
  · intro j h1 h2
    simp only [decTo, List.getElem_map, List.getElem_range]
    exact (hp j h2).2
/-- the string of an owned row -/
theorem conv_own {w : World} {B : Nat} {v : Value} {l : List Nat} (h : w.ownsRow B 5 1 v l.length (l.map bv)) : (convert 37 9 v).run Tryd.prog w = .ok (.string (bstr l)) w := by
  rcases h.2 with ⟨hv, hn⟩ | ⟨g, cap, cur, hv, _⟩
  · have : l = [] := List.eq_nil_of_length_eq_zero hn
    subst this; subst hv
    rw [run_convert_bytes_string w 37 9 5 _ _ 0 Tryd.underlying37 Tryd.underlying5 Tryd.underlying9]
    rfl
  · subst hv
    exact run_text (P := Tryd.prog) w 37 9 5 Tryd.underlying37 Tryd.underlying5 Tryd.underlying9 ⟨g, 0, none⟩ cap l (h.cells rfl)
end Go.Proofs.YtpkobgnbjmefnabDoor
