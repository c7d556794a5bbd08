import Derived.Test.YtjkoambfecmglaaVSgz
namespace Go.Proofs.Ytjkoambfecmglaa
open Go.RowKit Go.Maps
set_option linter.unusedVariables false
set_option linter.unusedSimpArgs false
/-- the bytes behind a row of operations -/
def bsAt (s : SP) (first : List Nat) (ks : List Nat) : List Nat := ks.foldl (fun b k => s.eff k b) first
theorem bsAt_snoc (s : SP) (first ks : List Nat) (k : Nat) : bsAt s first (ks ++ [k]) = s.eff k (bsAt s first ks) := by unfold bsAt; rw [List.foldl_append]; rfl
/-- all below x was tried, and leads nowhere -/
def Tried (s : SP) (D : Nat) (bs : List Nat) (x : Nat) : Prop := ∀ i, i < x → s.ok D bs i = true → s.Dead (D ||| 2 ^ i) (s.eff i bs)
/-- where the search stands -/
structure Inv (s : SP) (first : List Nat) (ks : List Nat) (L : List Lv) : Prop where
  nd : ks.Nodup
  lt : ∀ k ∈ ks, k < s.m
  lv : ∀ j, j ≤ ks.length → ∃ v, L[j]? = some v ∧ v.D = mask (ks.take j) ∧ v.bs = bsAt s first (ks.take j) ∧ ∀ k, ks[j]? = some k → v.x = k + 1
  path : ∀ j k, ks[j]? = some k → Sub s.A (mask (ks.take j)) = false ∧ s.ok (mask (ks.take j)) (bsAt s first (ks.take j)) k = true ∧ Tried s (mask (ks.take j)) (bsAt s first (ks.take j)) k
theorem take_snoc {ks : List Nat} {j k : Nat} (h : ks[j]? = some k) : ks.take (j + 1) = ks.take j ++ [k] := by
  have hl := (List.getElem?_eq_some_iff.1 h).1
  rw [List.take_succ_eq_append_getElem hl, (List.getElem?_eq_some_iff.1 h).2]
theorem Inv.top {s : SP} {first ks : List Nat} {L : List Lv} (h : Inv s first ks L) : ∃ v, L[ks.length]? = some v ∧ v.D = mask ks ∧ v.bs = bsAt s first ks := by
  obtain ⟨v, h1, h2, h3, _⟩ := h.lv ks.length (Nat.le_refl _)
  rw [List.take_length] at h2 h3
  exact ⟨v, h1, h2, h3⟩
/-- the end is reached -/
theorem Inv.found {s : SP} {first ks : List Nat} {L : List Lv} (h : Inv s first ks L) (hS : Sub s.A (mask ks) = true) : s.Finds 0 first ks := by
  have : ∀ c j, j + c = ks.length → s.Finds (mask (ks.take j)) (bsAt s first (ks.take j)) (ks.drop j) := by
    intro c
    induction c with
    | zero =>
      intro j hj
      rw [List.take_of_length_le (by omega), List.drop_of_length_le (by omega)]
      exact .done hS
    | succ c ih =>
      intro j hj
      have hjl : j < ks.length := by omega
      have hk : ks[j]? = some ks[j] := List.getElem?_eq_getElem hjl
      obtain ⟨h1, h2, h3⟩ := h.path j _ hk
      have := ih (j + 1) (by omega)
      rw [take_snoc hk, mask_snoc, bsAt_snoc] at this
      rw [List.drop_eq_getElem_cons hjl]
      exact .step h1 (h.lt _ (List.getElem_mem hjl)) h2 h3 this
  have := this ks.length 0 (by omega)
  simpa [mask, bsAt] using this
/-- one more is played -/
theorem Inv.push {s : SP} {first ks : List Nat} {L L' : List Lv} {k : Nat} (h : Inv s first ks L) (hS : Sub s.A (mask ks) = false) (hk : k < s.m) (hok : s.ok (mask ks) (bsAt s first ks) k = true) (hnew : k ∉ ks) (ht : Tried s (mask ks) (bsAt s first ks) k) (hlv : ∀ j, j < ks.length → L'[j]? = L[j]?) (htop : ∃ v, L'[ks.length]? = some v ∧ v.D = mask ks ∧ v.bs = bsAt s first ks ∧ v.x = k + 1) (hnx : ∃ v, L'[ks.length + 1]? = some v ∧ v.D = mask ks ||| 2 ^ k ∧ v.bs = s.eff k (bsAt s first ks)) : Inv s first (ks ++ [k]) L' where
  nd := by
    rw [List.nodup_append]
    exact ⟨h.nd, by simp, fun a ha b hb => by simp at hb; subst hb; intro e; subst e; exact hnew ha⟩
  lt x hx := by
    rcases List.mem_append.1 hx with hx | hx
    · exact h.lt x hx
    · simp at hx; subst hx; exact hk
  lv j hj := by
    simp only [List.length_append, List.length_cons, List.length_nil] at hj
    rcases Nat.lt_trichotomy j ks.length with hlt | rfl | hgt
    · obtain ⟨v, h1, h2, h3, h4⟩ := h.lv j (by omega)
      refine ⟨v, by rw [hlv j hlt]; exact h1, ?_, ?_, fun x hx => h4 x ?_⟩
      · rw [List.take_append_of_le_length (by omega)]; exact h2
      · rw [List.take_append_of_le_length (by omega)]; exact h3
      · rw [List.getElem?_append_left hlt] at hx; exact hx
    · obtain ⟨v, h1, h2, h3, h4⟩ := htop
      refine ⟨v, h1, ?_, ?_, fun x hx => ?_⟩
      · rw [List.take_append_of_le_length (Nat.le_refl _), List.take_length]; exact h2
      · rw [List.take_append_of_le_length (Nat.le_refl _), List.take_length]; exact h3
      · rw [List.getElem?_append_right (Nat.le_refl _), Nat.sub_self] at hx
        simp at hx; subst hx; exact h4
    · obtain rfl : j = ks.length + 1 := by omega
      obtain ⟨v, h1, h2, h3⟩ := hnx
      refine ⟨v, h1, ?_, ?_, fun x hx => ?_⟩
      · rw [List.take_of_length_le (by simp), mask_snoc]; exact h2
      · rw [List.take_of_length_le (by simp), bsAt_snoc]; exact h3
      · rw [List.getElem?_eq_none (by simp)] at hx; cases hx
  path j x hx := by
    rcases Nat.lt_or_ge j ks.length with hlt | hge
    · rw [List.getElem?_append_left hlt] at hx
      rw [List.take_append_of_le_length (by omega)]
      exact h.path j x hx
    · rw [List.getElem?_append_right hge] at hx
      have hj : j = ks.length := by
        have := (List.getElem?_eq_some_iff.1 hx).1
        simp at this; omega
      subst hj
      simp at hx
      subst hx
      rw [List.take_append_of_le_length (Nat.le_refl _), List.take_length]
      exact ⟨hS, hok, ht⟩
/-- the last one leads nowhere -/
theorem Inv.pop {s : SP} {first ks : List Nat} {L : List Lv} {k : Nat} (h : Inv s first (ks ++ [k]) L) (hd : s.Dead (mask (ks ++ [k])) (bsAt s first (ks ++ [k]))) : Inv s first ks L ∧ ∃ v, L[ks.length]? = some v ∧ v.x = k + 1 ∧ k < s.m ∧ Tried s (mask ks) (bsAt s first ks) (k + 1) := by
  have hk : (ks ++ [k])[ks.length]? = some k := by simp
  have ht : (ks ++ [k]).take ks.length = ks := by rw [List.take_append_of_le_length (Nat.le_refl _), List.take_length]
  refine ⟨⟨(List.nodup_append.1 h.nd).1, fun x hx => h.lt x (List.mem_append_left _ hx), fun j hj => ?_, fun j x hx => ?_⟩, ?_⟩
  · obtain ⟨v, h1, h2, h3, h4⟩ := h.lv j (by simp; omega)
    rw [List.take_append_of_le_length hj] at h2 h3
    refine ⟨v, h1, h2, h3, fun x hx => h4 x ?_⟩
    rw [List.getElem?_append_left (List.getElem?_eq_some_iff.1 hx).1]; exact hx
  · have hlt := (List.getElem?_eq_some_iff.1 hx).1
    have := h.path j x (by rw [List.getElem?_append_left hlt]; exact hx)
    rwa [List.take_append_of_le_length (by omega)] at this
  · obtain ⟨v, h1, _, _, h4⟩ := h.lv ks.length (by simp)
    obtain ⟨_, h6, h7⟩ := h.path ks.length k hk
    rw [ht] at h6 h7
    refine ⟨v, h1, h4 k hk, h.lt k (by simp), fun i hi hok => ?_⟩
    rcases Nat.lt_or_ge i k with h8 | h8
    · exact h7 i h8 hok
    · obtain rfl : i = k := by omega
      rw [mask_snoc, bsAt_snoc] at hd
      exact hd
theorem Inv.same {s : SP} {first ks : List Nat} {L L' : List Lv} (h : Inv s first ks L) (hl : ∀ j v, j ≤ ks.length → L[j]? = some v → ∃ v', L'[j]? = some v' ∧ v'.D = v.D ∧ v'.bs = v.bs ∧ (j < ks.length → v'.x = v.x)) : Inv s first ks L' where
  nd := h.nd
  lt := h.lt
  lv j hj := by
    obtain ⟨v, h1, h2, h3, h4⟩ := h.lv j hj
    obtain ⟨v', g1, g2, g3, g4⟩ := hl j v hj h1
    exact ⟨v', g1, by rw [g2]; exact h2, by rw [g3]; exact h3, fun k hk => by rw [g4 (List.getElem?_eq_some_iff.1 hk).1]; exact h4 k hk⟩
  path := h.path
/-- not all is played: there is room below -/
theorem Inv.room {s : SP} {first ks : List Nat} {L : List Lv} (h : Inv s first ks L) (hm : s.m ≤ 16) (hA : ∀ i, s.A.testBit i = true → i < s.m) (hAl : s.A < 65536) (hS : Sub s.A (mask ks) = false) : ks.length < s.m := by
  have h1 := nodup_lt h.nd h.lt
  rcases Nat.lt_or_ge ks.length s.m with h2 | h2
  · exact h2
  · have hml : mask ks < 65536 := Nat.lt_of_lt_of_le (mask_lt h.lt) (Nat.pow_le_pow_right (n := 2) (by decide) hm)
    have : Sub s.A (mask ks) = true := (Sub_iff hml hAl).2 fun i hi => by
      rw [mask_bit]
      exact decide_eq_true (nodup_all h.nd h.lt (by omega) (hA i hi))
    rw [this] at hS; cases hS
theorem ok_new {s : SP} {ks bs : List Nat} {k : Nat} (hm : mask ks < 65536) (hk : k < 16) (h : s.ok (mask ks) bs k = true) : k ∉ ks := fun hmem => by
  unfold SP.ok at h
  have h1 : Sub (2 ^ k) (mask ks) = true := (Sub_iff hm (Nat.lt_of_lt_of_le (Nat.pow_lt_pow_right (by decide) hk) (by decide))).2 fun i hi => by
    rw [Nat.testBit_two_pow] at hi
    have := of_decide_eq_true hi
    subst this
    rw [mask_bit]; exact decide_eq_true hmem
  rw [h1] at h
  simp at h
/-- how much is left to be tried -/
def muS (m : Nat) (f : Nat → Nat) : Nat → Nat
  | 0 => (m + 1 - f 0) * (m + 2) ^ m
  | d + 1 => muS m f d + (m + 1 - f (d + 1)) * (m + 2) ^ (m - (d + 1))
theorem muS_same {m : Nat} {f g : Nat → Nat} : ∀ {d : Nat}, (∀ j, j ≤ d → f j = g j) → muS m f d = muS m g d
  | 0, h => by unfold muS; rw [h 0 (Nat.le_refl _)]
  | d + 1, h => by unfold muS; rw [muS_same (fun j hj => h j (by omega)), h (d + 1) (Nat.le_refl _)]
theorem muS_inc {m : Nat} {f g : Nat → Nat} {d : Nat} (h : ∀ j, j < d → f j = g j) (hx : f d < m + 1) (hg : g d = f d + 1) : muS m g d + (m + 2) ^ (m - d) = muS m f d := by
  have key : (m + 1 - (f d + 1)) * (m + 2) ^ (m - d) + (m + 2) ^ (m - d) = (m + 1 - f d) * (m + 2) ^ (m - d) := by
    rw [show m + 1 - f d = (m + 1 - (f d + 1)) + 1 by omega, Nat.add_mul, Nat.one_mul]
  cases d with
  | zero => unfold muS; rw [hg]; exact key
  | succ d =>
    unfold muS
    rw [muS_same (f := g) (g := f) (fun j hj => (h j (by omega)).symm), hg, Nat.add_assoc, key]
theorem muS_down {m : Nat} {f : Nat → Nat} {d : Nat} (hd : d < m) (h0 : f (d + 1) = 0) : muS m f (d + 1) < muS m f d + (m + 2) ^ (m - d) := by
  show muS m f d + (m + 1 - f (d + 1)) * (m + 2) ^ (m - (d + 1)) < _
  rw [h0, show m - d = (m - (d + 1)) + 1 by omega, Nat.pow_succ, Nat.mul_comm ((m + 2) ^ (m - (d + 1)))]
  have hp : 0 < (m + 2) ^ (m - (d + 1)) := Nat.pow_pos (by omega)
  have : (m + 1 - 0) * (m + 2) ^ (m - (d + 1)) < (m + 2) * (m + 2) ^ (m - (d + 1)) := Nat.mul_lt_mul_of_pos_right (by omega) hp
  omega
theorem muS_up {m : Nat} {f : Nat → Nat} {d : Nat} (hx : f (d + 1) ≤ m) : muS m f d < muS m f (d + 1) := by
  show _ < muS m f d + (m + 1 - f (d + 1)) * (m + 2) ^ (m - (d + 1))
  have hp : 0 < (m + 2) ^ (m - (d + 1)) := Nat.pow_pos (by omega)
  have : 0 < (m + 1 - f (d + 1)) * (m + 2) ^ (m - (d + 1)) := Nat.mul_pos (by omega) hp
  omega
/-- the next number of a level, read off the memory -/
def lvX (W : World) (gv j : Nat) : Nat := match W.cell? ⟨gv, j * 3 + 2, none⟩ with
  | some (.int _ x) => x.toNat
  | _ => 0
theorem Sm.lvX {W : World} {B Q m oc A gh hc gv vc n r N : Nat} {oa : Option Addr} {ah : List Nat} {L : List Lv} {M : DataW Unit} (h : Sm W B Q oa m oc A gh hc ah gv vc n L r N M) {j : Nat} {v : Lv} (hj : L[j]? = some v) : lvX W gv j = v.x := by
  unfold Ytjkoambfecmglaa.lvX
  rw [h.lvc hj (c := 2) (by decide)]
  simp
end Go.Proofs.Ytjkoambfecmglaa
