import Derived.Test.YtjkoambfecmglaaVSfz
namespace Go.Proofs.Ytjkoambfecmglaa
open Go.RowKit Go.Maps
set_option linter.unusedVariables false
set_option linter.unusedSimpArgs false
set_option maxRecDepth 100000
/-- what the program searches -/
def spOf (l : List Opv) (dss : List (List Nat)) (A : Nat) (ah : List Nat) : SP where
  m := l.length
  A := A
  ah k := ah.getD k 0
  fit k bs := match l[k]?, dss[k]? with
    | some p, some ds => p.fit bs ds
    | _, _ => false
  eff k bs := match l[k]?, dss[k]? with
    | some p, some ds => p.eff bs ds
    | _, _ => bs
theorem spOf_fit {l : List Opv} {dss : List (List Nat)} {A : Nat} {ah : List Nat} {k : Nat} {p : Opv} {ds bs : List Nat} (hp : l[k]? = some p) (hd : dss[k]? = some ds) : (spOf l dss A ah).fit k bs = p.fit bs ds := by
  show (match l[k]?, dss[k]? with
    | some p, some ds => p.fit bs ds
    | _, _ => false) = _
  rw [hp, hd]
theorem spOf_eff {l : List Opv} {dss : List (List Nat)} {A : Nat} {ah : List Nat} {k : Nat} {p : Opv} {ds bs : List Nat} (hp : l[k]? = some p) (hd : dss[k]? = some ds) : (spOf l dss A ah).eff k bs = p.eff bs ds := by
  show (match l[k]?, dss[k]? with
    | some p, some ds => p.eff bs ds
    | _, _ => bs) = _
  rw [hp, hd]
/-- leadsOn -/
theorem leads_any {W : World} {B Q m oc A gh hc gv vc n r N d k : Nat} {oa : Option Addr} {ah : List Nat} {L : List Lv} {M : DataW Unit} {l : List Opv} {dss : List (List Nat)} {hv bl : Lv} (h : Sm W B Q oa m oc A gh hc ah gv vc n L r N M) (hO : ∀ U, Below B W U → OpsD U oa l dss) (hml : l.length = m) (hw : ∀ (k : Nat) (p : Opv), l[k]? = some p → p.may n = true) (hkm : k < m) (hm : m ≤ 10) (hns : n ≤ 4096) (hah : ah.length = m) (hal : ∀ x ∈ ah, x < 65536) (hd : L[d]? = some hv) (hbl : L[d + 1]? = some bl) (hDl : hv.D < 65536) (hBW : B ≤ W.heap.size) :
    Calls Try.prog 56 #[.pointer (some ⟨Q, 0, none⟩), .pointer (some ⟨gv, d * 3, none⟩), .pointer (some ⟨gv, (d + 1) * 3, none⟩), .int .i64 (k : Int)] W fun e w' => ∃ b : Bool, e = .returned (.bool b) ∧ Below B W w' ∧
      ((spOf l dss A ah).ok hv.D hv.bs k = false → b = false ∧ Sm w' B Q oa m oc A gh hc ah gv vc n L r N M) ∧
      ((spOf l dss A ah).ok hv.D hv.bs k = true → b = (!has M (kl (hv.D ||| 2 ^ k) ((spOf l dss A ah).eff k hv.bs))) ∧ Sm w' B Q oa m oc A gh hc ah gv vc n (L.set (d + 1) { bl with D := hv.D ||| 2 ^ k, x := 0, bs := (spOf l dss A ah).eff k hv.bs }) r N M) := by
  have hkl : k < l.length := by omega
  obtain ⟨p, hp⟩ : ∃ p, l[k]? = some p := ⟨_, List.getElem?_eq_getElem hkl⟩
  have hO0 := hO W (Below.refl _ _)
  obtain ⟨ds, hds⟩ : ∃ ds, dss[k]? = some ds := ⟨_, List.getElem?_eq_getElem (by rw [hO0.len]; exact hkl)⟩
  obtain ⟨E, hE⟩ : ∃ E, ah[k]? = some E := ⟨_, List.getElem?_eq_getElem (by omega)⟩
  have hEl := hal E (List.mem_of_getElem? hE)
  have hrow := hO0.row k p ds hp hds
  obtain ⟨ob, oo, rfl, hc7⟩ := ops_at hO0.ops hp
  have hok : (spOf l dss A ah).ok hv.D hv.bs k = (!Sub (2 ^ k) hv.D && Sub E hv.D && p.fit hv.bs ds) := by
    unfold SP.ok
    rw [spOf_fit hp hds]
    have : (spOf l dss A ah).ah k = E := by show ah.getD k 0 = E; simp [List.getD, hE]
    rw [this]
  have no : ∀ {e : Ending} {w' : World}, (spOf l dss A ah).ok hv.D hv.bs k = false → e = .returned (.bool false) ∧ Below W.heap.size W w' → ∃ b : Bool, e = .returned (.bool b) ∧ Below B W w' ∧
      ((spOf l dss A ah).ok hv.D hv.bs k = false → b = false ∧ Sm w' B Q (some ⟨ob, oo, none⟩) m oc A gh hc ah gv vc n L r N M) ∧
      ((spOf l dss A ah).ok hv.D hv.bs k = true → b = (!has M (kl (hv.D ||| 2 ^ k) ((spOf l dss A ah).eff k hv.bs))) ∧ Sm w' B Q (some ⟨ob, oo, none⟩) m oc A gh hc ah gv vc n (L.set (d + 1) { bl with D := hv.D ||| 2 ^ k, x := 0, bs := (spOf l dss A ah).eff k hv.bs }) r N M) := fun {e w'} h0 h1 =>
    ⟨false, h1.1, h1.2.mono hBW, fun _ => ⟨rfl, h.later h1.2⟩, fun h2 => by rw [h0] at h2; cases h2⟩
  cases h1 : Sub (2 ^ k) hv.D with
  | true => exact (leads_done W B Q m oc A gh hc gv vc n r N ob oo d k E ah L M p hv h hkm hm hns hc7 hE hEl hd hDl h1).mono fun e w' he => no (by rw [hok, h1]; rfl) he
  | false =>
    cases h2 : Sub E hv.D with
    | false => exact (leads_early W B Q m oc A gh hc gv vc n r N ob oo d k E ah L M p hv h hkm hm hns hc7 hE hEl hd hDl h1 h2).mono fun e w' he => no (by rw [hok, h1, h2]; rfl) he
    | true =>
      have hfit := fun U hU => fits_any hv.a n hv.c p hv.bs ds U ((h.later (V := U) hU).brow hns hd) (h.now d hv hd).2.1 (h.nnc hd) (hrow.1.later hU) hrow.2 (hw k p hp) hns
      cases h3 : p.fit hv.bs ds with
      | false =>
        rw [h3] at hfit
        exact (leads_misfit W B Q m oc A gh hc gv vc n r N ob oo d k E ah L M p hv h hkm hm hns hc7 hE hEl hd hDl h1 h2 hfit).mono fun e w' he => no (by rw [hok, h1, h2, h3]; rfl) he
      | true =>
        rw [h3] at hfit
        refine (leads_yes W B Q m oc A gh hc gv vc n r N ob oo d k E ah L M p hv h hkm hm hns hc7 hE hEl hd hDl bl hbl ds (fun U hU => ((hO U hU).row k p ds hp hds).1) hrow.2 (hw k p hp) hBW h1 h2 hfit).mono ?_
        rintro e w' ⟨he, hb, hs⟩
        refine ⟨_, he, hb, fun h0 => ?_, fun _ => ?_⟩
        · rw [hok, h1, h2, h3] at h0; cases h0
        · rw [spOf_eff hp hds]; exact ⟨rfl, hs⟩
end Go.Proofs.Ytjkoambfecmglaa

namespace Go.Proofs.Ytjkoambfecmglaa
open Go.RowKit Go.Maps
set_option linter.unusedVariables false
set_option linter.unusedSimpArgs false
/-- the bytes behind a row of operations -/
def bsAt (s : SP) (first : List Nat) (ks : List Nat) : List Nat := ks.foldl (fun b k => s.eff k b) first
theorem bsAt_snoc (s : SP) (first ks : List Nat) (k : Nat) : bsAt s first (ks ++ [k]) = s.eff k (bsAt s first ks) := by unfold bsAt; rw [List.foldl_append]; rfl
/-- all below x was tried, and leads nowhere -/
def Tried (s : SP) (D : Nat) (bs : List Nat) (x : Nat) : Prop := ∀ i, i < x → s.ok D bs i = true → s.Dead (D ||| 2 ^ i) (s.eff i bs)
/-- where the search stands -/
structure Inv (s : SP) (first : List Nat) (ks : List Nat) (L : List Lv) : Prop where
  nd : ks.Nodup
  lt : ∀ k ∈ ks, k < s.m
  lv : ∀ j, j ≤ ks.length → ∃ v, L[j]? = some v ∧ v.D = mask (ks.take j) ∧ v.bs = bsAt s first (ks.take j) ∧ ∀ k, ks[j]? = some k → v.x = k + 1
  path : ∀ j k, ks[j]? = some k → Sub s.A (mask (ks.take j)) = false ∧ s.ok (mask (ks.take j)) (bsAt s first (ks.take j)) k = true ∧ Tried s (mask (ks.take j)) (bsAt s first (ks.take j)) k
theorem take_snoc {ks : List Nat} {j k : Nat} (h : ks[j]? = some k) : ks.take (j + 1) = ks.take j ++ [k] := by
  have hl := (List.getElem?_eq_some_iff.1 h).1
  rw [List.take_succ_eq_append_getElem hl, (List.getElem?_eq_some_iff.1 h).2]
theorem Inv.top {s : SP} {first ks : List Nat} {L : List Lv} (h : Inv s first ks L) : ∃ v, L[ks.length]? = some v ∧ v.D = mask ks ∧ v.bs = bsAt s first ks := by
  obtain ⟨v, h1, h2, h3, _⟩ := h.lv ks.length (Nat.le_refl _)
  rw [List.take_length] at h2 h3
  exact ⟨v, h1, h2, h3⟩
/-- the end is reached -/
theorem Inv.found {s : SP} {first ks : List Nat} {L : List Lv} (h : Inv s first ks L) (hS : Sub s.A (mask ks) = true) : s.Finds 0 first ks := by
  have : ∀ c j, j + c = ks.length → s.Finds (mask (ks.take j)) (bsAt s first (ks.take j)) (ks.drop j) := by
    intro c
    induction c with
    | zero =>
      intro j hj
      rw [List.take_of_length_le (by omega), List.drop_of_length_le (by omega)]
      exact .done hS
    | succ c ih =>
      intro j hj
      have hjl : j < ks.length := by omega
      have hk : ks[j]? = some ks[j] := List.getElem?_eq_getElem hjl
      obtain ⟨h1, h2, h3⟩ := h.path j _ hk
      have := ih (j + 1) (by omega)
      rw [take_snoc hk, mask_snoc, bsAt_snoc] at this
      rw [List.drop_eq_getElem_cons hjl]
      exact .step h1 (h.lt _ (List.getElem_mem hjl)) h2 h3 this
  have := this ks.length 0 (by omega)
  simpa [mask, bsAt] using this
/-- one more is played -/
theorem Inv.push {s : SP} {first ks : List Nat} {L L' : List Lv} {k : Nat} (h : Inv s first ks L) (hS : Sub s.A (mask ks) = false) (hk : k < s.m) (hok : s.ok (mask ks) (bsAt s first ks) k = true) (hnew : k ∉ ks) (ht : Tried s (mask ks) (bsAt s first ks) k) (hlv : ∀ j, j < ks.length → L'[j]? = L[j]?) (htop : ∃ v, L'[ks.length]? = some v ∧ v.D = mask ks ∧ v.bs = bsAt s first ks ∧ v.x = k + 1) (hnx : ∃ v, L'[ks.length + 1]? = some v ∧ v.D = mask ks ||| 2 ^ k ∧ v.bs = s.eff k (bsAt s first ks)) : Inv s first (ks ++ [k]) L' where
  nd := by
    rw [List.nodup_append]
    exact ⟨h.nd, by simp, fun a ha b hb => by simp at hb; subst hb; intro e; subst e; exact hnew ha⟩
  lt x hx := by
    rcases List.mem_append.1 hx with hx | hx
    · exact h.lt x hx
    · simp at hx; subst hx; exact hk
  lv j hj := by
    simp only [List.length_append, List.length_cons, List.length_nil] at hj
    rcases Nat.lt_trichotomy j ks.length with hlt | rfl | hgt
    · obtain ⟨v, h1, h2, h3, h4⟩ := h.lv j (by omega)
      refine ⟨v, by rw [hlv j hlt]; exact h1, ?_, ?_, fun x hx => h4 x ?_⟩
      · rw [List.take_append_of_le_length (by omega)]; exact h2
      · rw [List.take_append_of_le_length (by omega)]; exact h3
      · rw [List.getElem?_append_left hlt] at hx; exact hx
    · obtain ⟨v, h1, h2, h3, h4⟩ := htop
      refine ⟨v, h1, ?_, ?_, fun x hx => ?_⟩
      · rw [List.take_append_of_le_length (Nat.le_refl _), List.take_length]; exact h2
      · rw [List.take_append_of_le_length (Nat.le_refl _), List.take_length]; exact h3
      · rw [List.getElem?_append_right (Nat.le_refl _), Nat.sub_self] at hx
        simp at hx; subst hx; exact h4
    · obtain rfl : j = ks.length + 1 := by omega
      obtain ⟨v, h1, h2, h3⟩ := hnx
      refine ⟨v, h1, ?_, ?_, fun x hx => ?_⟩
      · rw [List.take_of_length_le (by simp), mask_snoc]; exact h2
      · rw [List.take_of_length_le (by simp), bsAt_snoc]; exact h3
      · rw [List.getElem?_eq_none (by simp)] at hx; cases hx
  path j x hx := by
    rcases Nat.lt_or_ge j ks.length with hlt | hge
    · rw [List.getElem?_append_left hlt] at hx
      rw [List.take_append_of_le_length (by omega)]
      exact h.path j x hx
    · rw [List.getElem?_append_right hge] at hx
      have hj : j = ks.length := by
        have := (List.getElem?_eq_some_iff.1 hx).1
        simp at this; omega
      subst hj
      simp at hx
      subst hx
      rw [List.take_append_of_le_length (Nat.le_refl _), List.take_length]
      exact ⟨hS, hok, ht⟩
/-- the last one leads nowhere -/
theorem Inv.pop {s : SP} {first ks : List Nat} {L : List Lv} {k : Nat} (h : Inv s first (ks ++ [k]) L) (hd : s.Dead (mask (ks ++ [k])) (bsAt s first (ks ++ [k]))) : Inv s first ks L ∧ ∃ v, L[ks.length]? = some v ∧ v.x = k + 1 ∧ k < s.m ∧ Tried s (mask ks) (bsAt s first ks) (k + 1) := by
  have hk : (ks ++ [k])[ks.length]? = some k := by simp
  have ht : (ks ++ [k]).take ks.length = ks := by rw [List.take_append_of_le_length (Nat.le_refl _), List.take_length]
  refine ⟨⟨(List.nodup_append.1 h.nd).1, fun x hx => h.lt x (List.mem_append_left _ hx), fun j hj => ?_, fun j x hx => ?_⟩, ?_⟩
  · obtain ⟨v, h1, h2, h3, h4⟩ := h.lv j (by simp; omega)
    rw [List.take_append_of_le_length hj] at h2 h3
    refine ⟨v, h1, h2, h3, fun x hx => h4 x ?_⟩
    rw [List.getElem?_append_left (List.getElem?_eq_some_iff.1 hx).1]; exact hx
  · have hlt := (List.getElem?_eq_some_iff.1 hx).1
    have := h.path j x (by rw [List.getElem?_append_left hlt]; exact hx)
    rwa [List.take_append_of_le_length (by omega)] at this
  · obtain ⟨v, h1, _, _, h4⟩ := h.lv ks.length (by simp)
    obtain ⟨_, h6, h7⟩ := h.path ks.length k hk
    rw [ht] at h6 h7
    refine ⟨v, h1, h4 k hk, h.lt k (by simp), fun i hi hok => ?_⟩
    rcases Nat.lt_or_ge i k with h8 | h8
    · exact h7 i h8 hok
    · obtain rfl : i = k := by omega
      rw [mask_snoc, bsAt_snoc] at hd
      exact hd
theorem Inv.same {s : SP} {first ks : List Nat} {L L' : List Lv} (h : Inv s first ks L) (hl : ∀ j v, j ≤ ks.length → L[j]? = some v → ∃ v', L'[j]? = some v' ∧ v'.D = v.D ∧ v'.bs = v.bs ∧ (j < ks.length → v'.x = v.x)) : Inv s first ks L' where
  nd := h.nd
  lt := h.lt
  lv j hj := by
    obtain ⟨v, h1, h2, h3, h4⟩ := h.lv j hj
    obtain ⟨v', g1, g2, g3, g4⟩ := hl j v hj h1
    exact ⟨v', g1, by rw [g2]; exact h2, by rw [g3]; exact h3, fun k hk => by rw [g4 (List.getElem?_eq_some_iff.1 hk).1]; exact h4 k hk⟩
  path := h.path
/-- not all is played: there is room below -/
theorem Inv.room {s : SP} {first ks : List Nat} {L : List Lv} (h : Inv s first ks L) (hm : s.m ≤ 16) (hA : ∀ i, s.A.testBit i = true → i < s.m) (hAl : s.A < 65536) (hS : Sub s.A (mask ks) = false) : ks.length < s.m := by
  have h1 := nodup_lt h.nd h.lt
  rcases Nat.lt_or_ge ks.length s.m with h2 | h2
  · exact h2
  · have hml : mask ks < 65536 := Nat.lt_of_lt_of_le (mask_lt h.lt) (Nat.pow_le_pow_right (n := 2) (by decide) hm)
    have : Sub s.A (mask ks) = true := (Sub_iff hml hAl).2 fun i hi => by
      rw [mask_bit]
      exact decide_eq_true (nodup_all h.nd h.lt (by omega) (hA i hi))
    rw [this] at hS; cases hS
theorem ok_new {s : SP} {ks bs : List Nat} {k : Nat} (hm : mask ks < 65536) (hk : k < 16) (h : s.ok (mask ks) bs k = true) : k ∉ ks := fun hmem => by
  unfold SP.ok at h
  have h1 : Sub (2 ^ k) (mask ks) = true := (Sub_iff hm (Nat.lt_of_lt_of_le (Nat.pow_lt_pow_right (by decide) hk) (by decide))).2 fun i hi => by
    rw [Nat.testBit_two_pow] at hi
    have := of_decide_eq_true hi
    subst this
    rw [mask_bit]; exact decide_eq_true hmem
  rw [h1] at h
  simp at h
/-- how much is left to be tried -/
def muS (m : Nat) (f : Nat → Nat) : Nat → Nat
  | 0 => (m + 1 - f 0) * (m + 2) ^ m
  | d + 1 => muS m f d + (m + 1 - f (d + 1)) * (m + 2) ^ (m - (d + 1))
theorem muS_same {m : Nat} {f g : Nat → Nat} : ∀ {d : Nat}, (∀ j, j ≤ d → f j = g j) → muS m f d = muS m g d
  | 0, h => by unfold muS; rw [h 0 (Nat.le_refl _)]
  | d + 1, h => by unfold muS; rw [muS_same (fun j hj => h j (by omega)), h (d + 1) (Nat.le_refl _)]
theorem muS_inc {m : Nat} {f g : Nat → Nat} {d : Nat} (h : ∀ j, j < d → f j = g j) (hx : f d < m + 1) (hg : g d = f d + 1) : muS m g d + (m + 2) ^ (m - d) = muS m f d := by
  have key : (m + 1 - (f d + 1)) * (m + 2) ^ (m - d) + (m + 2) ^ (m - d) = (m + 1 - f d) * (m + 2) ^ (m - d) := by
    rw [show m + 1 - f d = (m + 1 - (f d + 1)) + 1 by omega, Nat.add_mul, Nat.one_mul]
  cases d with
  | zero => unfold muS; rw [hg]; exact key
  | succ d =>
    unfold muS
    rw [muS_same (f := g) (g := f) (fun j hj => (h j (by omega)).symm), hg, Nat.add_assoc, key]
theorem muS_down {m : Nat} {f : Nat → Nat} {d : Nat} (hd : d < m) (h0 : f (d + 1) = 0) : muS m f (d + 1) < muS m f d + (m + 2) ^ (m - d) := by
  show muS m f d + (m + 1 - f (d + 1)) * (m + 2) ^ (m - (d + 1)) < _
  rw [h0, show m - d = (m - (d + 1)) + 1 by omega, Nat.pow_succ, Nat.mul_comm ((m + 2) ^ (m - (d + 1)))]
  have hp : 0 < (m + 2) ^ (m - (d + 1)) := Nat.pow_pos (by omega)
  have : (m + 1 - 0) * (m + 2) ^ (m - (d + 1)) < (m + 2) * (m + 2) ^ (m - (d + 1)) := Nat.mul_lt_mul_of_pos_right (by omega) hp
  omega
theorem muS_up {m : Nat} {f : Nat → Nat} {d : Nat} (hx : f (d + 1) ≤ m) : muS m f d < muS m f (d + 1) := by
  show _ < muS m f d + (m + 1 - f (d + 1)) * (m + 2) ^ (m - (d + 1))
  have hp : 0 < (m + 2) ^ (m - (d + 1)) := Nat.pow_pos (by omega)
  have : 0 < (m + 1 - f (d + 1)) * (m + 2) ^ (m - (d + 1)) := Nat.mul_pos (by omega) hp
  omega
/-- the next number of a level, read off the memory -/
def lvX (W : World) (gv j : Nat) : Nat := match W.cell? ⟨gv, j * 3 + 2, none⟩ with
  | some (.int _ x) => x.toNat
  | _ => 0
theorem Sm.lvX {W : World} {B Q m oc A gh hc gv vc n r N : Nat} {oa : Option Addr} {ah : List Nat} {L : List Lv} {M : DataW Unit} (h : Sm W B Q oa m oc A gh hc ah gv vc n L r N M) {j : Nat} {v : Lv} (hj : L[j]? = some v) : lvX W gv j = v.x := by
  unfold Ytjkoambfecmglaa.lvX
  rw [h.lvc hj (c := 2) (by decide)]
  simp
end Go.Proofs.Ytjkoambfecmglaa

namespace Go.Proofs.Ytjkoambfecmglaa
open Go.RowKit Go.Maps
set_option linter.unusedVariables false
set_option linter.unusedSimpArgs false
set_option maxRecDepth 100000
theorem run_ints (w : World) {n : Nat} (hn : n ≤ 1099511627776) : (Instr.makeSlice 24 (.int .i64 (n : Int)) (.int .i64 (n : Int))).run Try.prog w = .ok (.slice (some ⟨w.heap.size, 0, none⟩) n n) (w.alloc (.cells (Array.replicate n (Value.int .i64 0)) 3)) := by
  obtain ⟨i0, hi, hz0, hz1, hz2⟩ := info_parts Try.info3
  have h1 := run_make (P := Try.prog) w 24 3 i0 (.int .i64 0) Try.underlying24 hi hz0 .i64 .i64 (n : Int) (n : Int) (by omega) (Int.le_refl _) (by rw [hz2]; omega) (by omega)
  rw [Int.toNat_natCast, hz1] at h1
  rw [h1]
  congr 3
  apply Array.ext_getElem?
  intro k
  rcases Nat.lt_or_ge k n with hk | hk
  · simp [madeCells, Value.cells, hk, Nat.mod_one]
  · rw [Array.getElem?_eq_none (by simp [madeCells]; omega), Array.getElem?_eq_none (by simp; omega)]
set_option maxHeartbeats 8000000 in
/-- the way down, as an order -/
theorem way_any {W : World} {B Q m oc A gh hc gv vc n r N : Nat} {oa : Option Addr} {ah : List Nat} {L : List Lv} {M : DataW Unit} (h : Sm W B Q oa m oc A gh hc ah gv vc n L r N M) (hm : m ≤ 10) (ks : List Nat) (d : Nat) (hd : ks.length = d) (hdm : d ≤ m) (hx : ∀ (j k : Nat), ks[j]? = some k → ∃ v : Lv, L[j]? = some v ∧ v.x = k + 1) (hk : ∀ k ∈ ks, k < m) :
    Calls Try.prog 57 #[.pointer (some ⟨Q, 0, none⟩), .int .i64 (d : Int)] W fun e w' => ∃ za zc, e = .returned (.slice za d zc) ∧ w'.ownsRow W.heap.size 3 1 (.slice za d zc) d (ks.map iv) ∧ Below W.heap.size W w' := by
  have HM : Hid (∀ k ∈ ks, k < m) := hk
  have HX : Hid (∀ (j k : Nat), ks[j]? = some k → ∃ v : Lv, L[j]? = some v ∧ v.x = k + 1) := hx
  have HD : Hid (ks.length = d) := hd
  have HS : Hid (Sm W B Q oa m oc A gh hc ah gv vc n L r N M) := h
  have hmk := run_ints W (n := d) (by omega)
  have HB0 : Hid (Below W.heap.size W (W.alloc (.cells (Array.replicate d (Value.int .i64 0)) 3))) := (Below.refl _ W).alloc (Nat.le_refl _) _
  have HO0 : Hid ((W.alloc (.cells (Array.replicate d (Value.int .i64 0)) 3)).ownsRow W.heap.size 3 1 (.slice (some ⟨W.heap.size, 0, none⟩) d d) d ((ks.take 0 ++ List.replicate (d - 0) 0).map iv)) :=
    ⟨by simp, .inr ⟨W.heap.size, d, _, rfl, Nat.le_refl _, heap_new _ _, Nat.le_refl _, by unfold maxLen; omega, by simp, by simp [iv]⟩⟩
  clear h hd hx hk
  go_enter Try.func57, Try.ntmps57
  go_wp2_with fail
  go_loopw [11] (fun xv wr => ∃ i : Nat, i ≤ d ∧ xv = .int .i64 (i : Int) ∧ Hid (wr.ownsRow W.heap.size 3 1 (.slice (some ⟨W.heap.size, 0, none⟩) d d) d ((ks.take i ++ List.replicate (d - i) 0).map iv) ∧ Below W.heap.size W wr)) (fun xv _ => d - (intOf xv).toNat)
  case atStart => exact ⟨0, Nat.zero_le _, rfl, HO0.out, HB0.out⟩
  case round =>
    obtain ⟨i, hi, rfl, HR⟩ := hrel
    clear hmk HB0 HO0
    by_cases hlt : i < d
    · have n9 : decide ((i : Int) < (d : Int)) = true := decide_eq_true (by omega)
      have ii0 : (0 : Int) ≤ (i : Int) := by omega
      have ii9 : (i : Int) < (d : Int) := by omega
      have ii8 : (i : Int) < ((m + 1 : Nat) : Int) := by omega
      have ii7 : (i : Int) < (m : Int) + 1 := by omega
      obtain ⟨k, hk⟩ : ∃ k, ks[i]? = some k := ⟨_, List.getElem?_eq_getElem (by rw [HD.out]; exact hlt)⟩
      obtain ⟨v, hv, hvx⟩ := HX.out i k hk
      have hkm : k < m := HM.out k (List.mem_of_getElem? hk)
      have HSr := HS.out.later HR.out.2
      have c3 := HSr.q3
      have cx : wr.cell? ⟨gv, i * 3 + 2, none⟩ = some (.int .i64 ((k : Int) + 1)) := by
        rw [HSr.lvc hv (c := 2) (by decide)]
        simp [hvx]
      have hw : IntKind.i64.wrap ((k : Int) + 1 - 1) = (k : Int) := by rw [IntKind.wrap_i64]; omega
      obtain ⟨g, e0, _, hc, hf⟩ := own_some HR.out.1 (by omega)
      cases e0
      have cz : wr.cell? ⟨W.heap.size, i, none⟩ = some (.int .i64 0) := by
        rw [hc i hlt, List.getElem?_map, List.getElem?_append_right (by rw [List.length_take]; omega), List.length_take, HD.out, Nat.min_eq_left hi, Nat.sub_self, List.getElem?_replicate, if_pos (by omega)]
        rfl
      have fz := hf i
      have HN : Hid ((wr.setCell ⟨W.heap.size, i, none⟩ (.int .i64 (k : Int))).ownsRow W.heap.size 3 1 (.slice (some ⟨W.heap.size, 0, none⟩) d d) d ((ks.take (i + 1) ++ List.replicate (d - (i + 1)) 0).map iv) ∧ Below W.heap.size W (wr.setCell ⟨W.heap.size, i, none⟩ (.int .i64 (k : Int)))) := by
        refine ⟨?_, HR.out.2.setCell (p := ⟨W.heap.size, i, none⟩) (Nat.le_refl _) _⟩
        have := own_set HR.out.1 (.int .i64 (k : Int)) hlt
        rw [show (Value.int .i64 (k : Int)) = iv k from rfl, ← List.map_set, List.set_append_right _ _ (by rw [List.length_take]; omega), List.length_take, HD.out, Nat.min_eq_left hi, Nat.sub_self] at this
        rw [take_snoc hk, List.append_assoc]
        rw [show d - i = (d - (i + 1)) + 1 by omega, List.replicate_succ, List.set_cons_zero] at this
        exact this
      clear hc hf HSr hvx hv
      go_wp2
      go_roundw
      case rel => exact ⟨i + 1, by omega, by go_num, HN.out⟩
      case measure => simp [intOf]; omega
    · have n9 : decide ((i : Int) < (d : Int)) = false := decide_eq_false (by omega)
      obtain rfl : i = d := by omega
      go_wp2
      go_ret
      refine ⟨some ⟨W.heap.size, 0, none⟩, i, rfl, ?_, HR.out.2⟩
      have := HR.out.1
      rw [List.take_of_length_le (by rw [HD.out]; exact Nat.le_refl _), Nat.sub_self, List.replicate_zero, List.append_nil] at this
      exact this
end Go.Proofs.Ytjkoambfecmglaa
