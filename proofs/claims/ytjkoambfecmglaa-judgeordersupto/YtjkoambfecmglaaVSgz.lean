import Derived.Test.YtjkoambfecmglaaVSfz
namespace Go.Proofs.Ytjkoambfecmglaa
open Go.RowKit Go.Maps
set_option linter.unusedVariables false
set_option linter.unusedSimpArgs false
set_option maxRecDepth 100000
/-- what the program searches -/
def spOf (l : List Opv) (dss : List (List Nat)) (A : Nat) (ah : List Nat) : SP where
  m := l.length
  A := A
  ah k := ah.getD k 0
  fit k bs := match l[k]?, dss[k]? with
    | some p, some ds => p.fit bs ds
    | _, _ => false
  eff k bs := match l[k]?, dss[k]? with
    | some p, some ds => p.eff bs ds
    | _, _ => bs
theorem spOf_fit {l : List Opv} {dss : List (List Nat)} {A : Nat} {ah : List Nat} {k : Nat} {p : Opv} {ds bs : List Nat} (hp : l[k]? = some p) (hd : dss[k]? = some ds) : (spOf l dss A ah).fit k bs = p.fit bs ds := by
  show (match l[k]?, dss[k]? with
    | some p, some ds => p.fit bs ds
    | _, _ => false) = _
  rw [hp, hd]
theorem spOf_eff {l : List Opv} {dss : List (List Nat)} {A : Nat} {ah : List Nat} {k : Nat} {p : Opv} {ds bs : List Nat} (hp : l[k]? = some p) (hd : dss[k]? = some ds) : (spOf l dss A ah).eff k bs = p.eff bs ds := by
  show (match l[k]?, dss[k]? with
    | some p, some ds => p.eff bs ds
    | _, _ => bs) = _
  rw [hp, hd]
/-- leadsOn -/
theorem leads_any {W : World} {B Q m oc A gh hc gv vc n r N d k : Nat} {oa : Option Addr} {ah : List Nat} {L : List Lv} {M : DataW Unit} {l : List Opv} {dss : List (List Nat)} {hv bl : Lv} (h : Sm W B Q oa m oc A gh hc ah gv vc n L r N M) (hO : ∀ U, Below B W U → OpsD U oa l dss) (hml : l.length = m) (hw : ∀ (k : Nat) (p : Opv), l[k]? = some p → p.may n = true) (hkm : k < m) (hm : m ≤ 10) (hns : n ≤ 4096) (hah : ah.length = m) (hal : ∀ x ∈ ah, x < 65536) (hd : L[d]? = some hv) (hbl : L[d + 1]? = some bl) (hDl : hv.D < 65536) (hBW : B ≤ W.heap.size) :
    Calls Try.prog 56 #[.pointer (some ⟨Q, 0, none⟩), .pointer (some ⟨gv, d * 3, none⟩), .pointer (some ⟨gv, (d + 1) * 3, none⟩), .int .i64 (k : Int)] W fun e w' => ∃ b : Bool, e = .returned (.bool b) ∧ Below B W w' ∧
      ((spOf l dss A ah).ok hv.D hv.bs k = false → b = false ∧ Sm w' B Q oa m oc A gh hc ah gv vc n L r N M) ∧
      ((spOf l dss A ah).ok hv.D hv.bs k = true → b = (!has M (kl (hv.D ||| 2 ^ k) ((spOf l dss A ah).eff k hv.bs))) ∧ Sm w' B Q oa m oc A gh hc ah gv vc n (L.set (d + 1) { bl with D := hv.D ||| 2 ^ k, x := 0, bs := (spOf l dss A ah).eff k hv.bs }) r N M) := by
  have hkl : k < l.length := by omega
  obtain ⟨p, hp⟩ : ∃ p, l[k]? = some p := ⟨_, List.getElem?_eq_getElem hkl⟩
  have hO0 := hO W (Below.refl _ _)
  obtain ⟨ds, hds⟩ : ∃ ds, dss[k]? = some ds := ⟨_, List.getElem?_eq_getElem (by rw [hO0.len]; exact hkl)⟩
  obtain ⟨E, hE⟩ : ∃ E, ah[k]? = some E := ⟨_, List.getElem?_eq_getElem (by omega)⟩
  have hEl := hal E (List.mem_of_getElem? hE)
  have hrow := hO0.row k p ds hp hds
  obtain ⟨ob, oo, rfl, hc7⟩ := ops_at hO0.ops hp
  have hok : (spOf l dss A ah).ok hv.D hv.bs k = (!Sub (2 ^ k) hv.D && Sub E hv.D && p.fit hv.bs ds) := by
    unfold SP.ok
    rw [spOf_fit hp hds]
    have : (spOf l dss A ah).ah k = E := by show ah.getD k 0 = E; simp [List.getD, hE]
    rw [this]
  have no : ∀ {e : Ending} {w' : World}, (spOf l dss A ah).ok hv.D hv.bs k = false → e = .returned (.bool false) ∧ Below W.heap.size W w' → ∃ b : Bool, e = .returned (.bool b) ∧ Below B W w' ∧
      ((spOf l dss A ah).ok hv.D hv.bs k = false → b = false ∧ Sm w' B Q (some ⟨ob, oo, none⟩) m oc A gh hc ah gv vc n L r N M) ∧
      ((spOf l dss A ah).ok hv.D hv.bs k = true → b = (!has M (kl (hv.D ||| 2 ^ k) ((spOf l dss A ah).eff k hv.bs))) ∧ Sm w' B Q (some ⟨ob, oo, none⟩) m oc A gh hc ah gv vc n (L.set (d + 1) { bl with D := hv.D ||| 2 ^ k, x := 0, bs := (spOf l dss A ah).eff k hv.bs }) r N M) := fun {e w'} h0 h1 =>
    ⟨false, h1.1, h1.2.mono hBW, fun _ => ⟨rfl, h.later h1.2⟩, fun h2 => by rw [h0] at h2; cases h2⟩
  cases h1 : Sub (2 ^ k) hv.D with
  | true => exact (leads_done W B Q m oc A gh hc gv vc n r N ob oo d k E ah L M p hv h hkm hm hns hc7 hE hEl hd hDl h1).mono fun e w' he => no (by rw [hok, h1]; rfl) he
  | false =>
    cases h2 : Sub E hv.D with
    | false => exact (leads_early W B Q m oc A gh hc gv vc n r N ob oo d k E ah L M p hv h hkm hm hns hc7 hE hEl hd hDl h1 h2).mono fun e w' he => no (by rw [hok, h1, h2]; rfl) he
    | true =>
      have hfit := fun U hU => fits_any hv.a n hv.c p hv.bs ds U ((h.later (V := U) hU).brow hns hd) (h.now d hv hd).2.1 (h.nnc hd) (hrow.1.later hU) hrow.2 (hw k p hp) hns
      cases h3 : p.fit hv.bs ds with
      | false =>
        rw [h3] at hfit
        exact (leads_misfit W B Q m oc A gh hc gv vc n r N ob oo d k E ah L M p hv h hkm hm hns hc7 hE hEl hd hDl h1 h2 hfit).mono fun e w' he => no (by rw [hok, h1, h2, h3]; rfl) he
      | true =>
        rw [h3] at hfit
        refine (leads_yes W B Q m oc A gh hc gv vc n r N ob oo d k E ah L M p hv h hkm hm hns hc7 hE hEl hd hDl bl hbl ds (fun U hU => ((hO U hU).row k p ds hp hds).1) hrow.2 (hw k p hp) hBW h1 h2 hfit).mono ?_
        rintro e w' ⟨he, hb, hs⟩
        refine ⟨_, he, hb, fun h0 => ?_, fun _ => ?_⟩
        · rw [hok, h1, h2, h3] at h0; cases h0
        · rw [spOf_eff hp hds]; exact ⟨rfl, hs⟩
end Go.Proofs.Ytjkoambfecmglaa
