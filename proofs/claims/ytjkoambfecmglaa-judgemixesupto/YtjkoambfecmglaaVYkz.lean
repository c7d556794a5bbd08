import Derived.Test.YtjkoambfecmglaaVYjz
namespace Go.Proofs.Ytjkoambfecmglaa
open Go.RowKit
set_option linter.unusedVariables false
set_option linter.unusedSimpArgs false
set_option maxRecDepth 100000
/-- what may come next -/
def Nx (l : List Opv) (dss : List (List Nat)) (dn : List Int) (bs : List Nat) (q : Int) (k : Nat) (p : Opv) (ds : List Nat) : Prop := q = (k : Int) ∧ ¬ (k : Int) ∈ dn ∧ l[k]? = some p ∧ dss[k]? = some ds ∧ Nxt l dn p l.length ∧ p.fit bs ds = true
set_option maxHeartbeats 4000000 in
theorem step_any {W : World} {B P m oc n nc pc dc : Nat} {oa na pa wa : Option Addr} {bs : List Nat} {pl : List Bool} {ow : List Nat} {l : List Opv} {dss : List (List Nat)} {dn : List Int} (h : Wm W B P oa m oc na n nc bs pa pc pl wa dc ow) (hS : WkS l dn pl ow) (hh : HdN dn ow) (hO : OpsD W oa l dss) (hm : l.length = m) (hns : n ≤ 4096) (hw : ∀ (k : Nat) (p : Opv), l[k]? = some p → p.may n = true) (hB : B ≤ W.heap.size) (q : Int) :
    Calls Try.prog 26 #[.pointer (some ⟨P, 0, none⟩), .int .i64 q] W fun e w' => ∃ r : Bool, e = .returned (.bool r) ∧ Below B W w' ∧
      (r = false → ∀ k p ds, ¬ Nx l dss dn bs q k p ds) ∧
      (r = true → ∃ k p ds wa' dc' ow', Nx l dss dn bs q k p ds ∧ Wm w' B P oa m oc na n nc (p.eff bs ds) pa pc (pl.set k true) wa' dc' ow' ∧ WkS l (dn ++ [q]) (pl.set k true) ow' ∧ HdN (dn ++ [q]) ow') := by
  have no : ∀ {e : Ending} {w' : World}, e = .returned (.bool false) ∧ Below W.heap.size W w' → (∀ k p ds, ¬ Nx l dss dn bs q k p ds) → ∃ r : Bool, e = .returned (.bool r) ∧ Below B W w' ∧
      (r = false → ∀ k p ds, ¬ Nx l dss dn bs q k p ds) ∧
      (r = true → ∃ k p ds wa' dc' ow', Nx l dss dn bs q k p ds ∧ Wm w' B P oa m oc na n nc (p.eff bs ds) pa pc (pl.set k true) wa' dc' ow' ∧ WkS l (dn ++ [q]) (pl.set k true) ow' ∧ HdN (dn ++ [q]) ow') := fun {e w'} he hn => ⟨false, he.1, he.2.mono hB, fun _ => hn, fun h => by cases h⟩
  by_cases hq : q < 0
  · refine (step_neg W P q hq).mono fun e w' he => no he fun k p ds hx => ?_
    have := hx.1; omega
  obtain ⟨k, rfl⟩ : ∃ k : Nat, q = k := ⟨q.toNat, by omega⟩
  by_cases hkm : m ≤ k
  · refine (step_big W P m oc k oa h.c0 hkm).mono fun e w' he => no he fun k' p ds hx => ?_
    have h1 := (List.getElem?_eq_some_iff.1 hx.2.2.1).1
    have h2 := Int.ofNat.inj hx.1
    omega
  have hkm' : k < m := by omega
  obtain ⟨gp, rfl, hcp, hfp⟩ := h.row hkm'
  have hkl : k < l.length := by omega
  obtain ⟨b, hb⟩ : ∃ b, pl[k]? = some b := ⟨_, List.getElem?_eq_getElem (by rw [hS.len]; exact hkl)⟩
  rw [List.getElem?_map, hb] at hcp
  have hplk := hS.plk k hkl
  rw [hb] at hplk
  cases b with
  | true =>
    refine (step_played W P m oc k gp pc oa h.c0 h.c2 hcp hkm').mono fun e w' he => no he fun k' p ds hx => ?_
    have h2 := Int.ofNat.inj hx.1
    subst h2
    exact hx.2.1 (hplk.1 rfl)
  | false =>
    have hnd : ¬ (k : Int) ∈ dn := fun hd => by cases hplk.2 hd
    obtain ⟨p, hp⟩ : ∃ p, l[k]? = some p := ⟨_, List.getElem?_eq_getElem hkl⟩
    obtain ⟨ds, hds⟩ : ∃ ds, dss[k]? = some ds := ⟨_, List.getElem?_eq_getElem (by rw [hO.len]; exact hkl)⟩
    have hrow := hO.row k p ds hp hds
    obtain ⟨ob, oo, rfl, hc⟩ := ops_at hO.ops hp
    obtain ⟨r, hlc, hrn⟩ := lacks_wm h hS hh hO.ops hm p
    cases r with
    | true =>
      refine (step_lacks W P m oc n nc gp pc ob oo k na p h.c0 h.c1 h.c2 hcp hkm' hc hlc).mono fun e w' he => no he fun k' p' ds' hx => ?_
      have h2 := Int.ofNat.inj hx.1
      subst h2
      have h3 := hx.2.2.1
      rw [hp] at h3; cases h3
      cases hrn.2 hx.2.2.2.2.1
    | false =>
      have hfit := fun U hU => fits_any na n nc p bs ds U ((h.later (V := U) hU).brow hns) h.bsn h.nnc (hrow.1.later hU) hrow.2 (hw k p hp) hns
      cases hfb : p.fit bs ds with
      | false =>
        rw [hfb] at hfit
        refine (step_misfit W P m oc n nc gp pc ob oo k na p h.c0 h.c1 h.c2 hcp hkm' hc hlc hfit).mono fun e w' he => no he fun k' p' ds' hx => ?_
        have h2 := Int.ofNat.inj hx.1
        subst h2
        have h3 := hx.2.2.1; have h4 := hx.2.2.2.1
        rw [hp] at h3; cases h3
        rw [hds] at h4; cases h4
        have h5 := hx.2.2.2.2.2
        rw [hfb] at h5
        cases h5
      | true =>
        rw [hfb] at hfit
        refine (step_yes W B P m oc n nc gp pc dc ob oo k na wa p bs ds pl ow l dn h hS hm hns hkm' hcp hfp hc (h.apO (by omega) _ rfl) hB hlc hfit hrow.1 hrow.2 (hw k p hp)).mono ?_
        rintro e w' ⟨he, hbl, wa', dc', ow', h1, h2, h3⟩
        exact ⟨true, he, hbl, fun e => (by cases e), fun _ => ⟨k, p, ds, wa', dc', ow', ⟨rfl, hnd, hp, hds, hrn.1 rfl, hfb⟩, h1, h2, h3⟩⟩
end Go.Proofs.Ytjkoambfecmglaa
