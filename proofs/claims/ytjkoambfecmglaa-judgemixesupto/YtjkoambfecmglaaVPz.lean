import Derived.Test.YtjkoambfecmglaaJQ
import Derived.Deep.RegionHeld3
namespace Go.Proofs.Ytjkoambfecmglaa
open Go.RowKit
set_option linter.unusedVariables false
set_option linter.unusedSimpArgs false
set_option maxRecDepth 100000
/-- place i of the order goes: it is operation k, by its moments, with an answer that fits -/
def Goes (l : List Opv) (dss : List (List Nat)) (ord : List Int) (bs : List Nat) (i k : Nat) (p : Opv) (ds : List Nat) : Prop := ord[i]? = some (k : Int) ∧ ¬ (k : Int) ∈ ord.take i ∧ l[k]? = some p ∧ dss[k]? = some ds ∧ Nxt l (ord.take i) p l.length ∧ p.fit bs ds = true
/-- behind i places of the order the bytes are bs -/
def FolR (l : List Opv) (dss : List (List Nat)) (ord : List Int) (first : List Nat) : Nat → List Nat → Prop
  | 0, bs => bs = first
  | i + 1, bs' => ∃ (k : Nat) (bs ds : List Nat) (p : Opv), FolR l dss ord first i bs ∧ Goes l dss ord bs i k p ds ∧ bs' = p.eff bs ds
theorem FolR.nil {l : List Opv} {dss : List (List Nat)} {ord : List Int} {first : List Nat} : FolR l dss ord first 0 first := Eq.refl first
theorem FolR.step {l : List Opv} {dss : List (List Nat)} {ord : List Int} {first : List Nat} {i k : Nat} {bs ds : List Nat} {p : Opv} (h : FolR l dss ord first i bs) (g : Goes l dss ord bs i k p ds) : FolR l dss ord first (i + 1) (p.eff bs ds) := Exists.intro k (Exists.intro bs (Exists.intro ds (Exists.intro p (And.intro h (And.intro g rfl)))))
theorem FolR.zero {l : List Opv} {dss : List (List Nat)} {ord : List Int} {first bs : List Nat} (h : FolR l dss ord first 0 bs) : bs = first := h
theorem FolR.inv {l : List Opv} {dss : List (List Nat)} {ord : List Int} {first bs' : List Nat} {i : Nat} (h : FolR l dss ord first (i + 1) bs') : ∃ (k : Nat) (bs ds : List Nat) (p : Opv), FolR l dss ord first i bs ∧ Goes l dss ord bs i k p ds ∧ bs' = p.eff bs ds := h
theorem FolR.det {l : List Opv} {dss : List (List Nat)} {ord : List Int} {first : List Nat} : ∀ {i : Nat} {bs bs' : List Nat}, FolR l dss ord first i bs → FolR l dss ord first i bs' → bs = bs'
  | 0, _, _, h, h' => (FolR.zero h).trans (FolR.zero h').symm
  | i + 1, _, _, h9, h9' => by
    obtain ⟨k, bs, ds, p, h, g, e⟩ := FolR.inv h9
    obtain ⟨k', bs2, ds2, p2, h', g', e'⟩ := FolR.inv h9'
    subst e; subst e'
    cases FolR.det h h'
    obtain ⟨a1, _, a2, a3, _, _⟩ := g
    obtain ⟨b1, _, b2, b3, _, _⟩ := g'
    rw [a1] at b1
    have e := Int.ofNat.inj (Option.some.inj b1)
    subst e
    rw [a2] at b2; rw [a3] at b3
    cases b2; cases b3; rfl
/-- operations in memory, with their data -/
structure OpsD (W : World) (ao : Option Addr) (l : List Opv) (dss : List (List Nat)) : Prop where
  ops : OpsR W ao l
  len : dss.length = l.length
  row : ∀ (k : Nat) (p : Opv) (ds : List Nat), l[k]? = some p → dss[k]? = some ds → BRow W p.da p.dc ds ∧ ds.length = p.n
theorem OpsD.later {W V : World} {ao : Option Addr} {l : List Opv} {dss : List (List Nat)} (h : OpsD W ao l dss) (hb : Below W.heap.size W V) : OpsD V ao l dss :=
  ⟨h.ops.later hb, h.len, fun k p ds h1 h2 => ⟨(h.row k p ds h1 h2).1.later hb, (h.row k p ds h1 h2).2⟩⟩
/-- may operation q come next, by the moments? -/
def MayN (l : List Opv) (dn : List Int) (q : Int) : Prop := ¬ q ∈ dn ∧ ∃ (k : Nat) (p : Opv), q = (k : Int) ∧ l[k]? = some p ∧ Nxt l dn p l.length
theorem rNext_all (oa da : Option Addr) (m oc d dc : Nat) (l : List Opv) (dn : List Int) (q : Int) (w : World) (h : OpsR w oa l) (hm : l.length = m) (hs : m ≤ 1099511627776) (hz : ZRow w da dn) (hd : dn.length = d) (hds : d ≤ 1099511627776) :
    Calls Try.prog 29 #[.slice oa m oc, .slice da d dc, .int .i64 q] w fun e w' => ∃ r : Bool, e = .returned (.bool r) ∧ (r = true ↔ MayN l dn q) ∧ Below w.heap.size w w' := by
  by_cases hno : q < 0 ∨ (m : Int) ≤ q ∨ q ∈ dn
  · refine (rNext_no oa da m oc d dc l dn q w h hm hs hz hd hds hno).mono ?_
    rintro e w' ⟨rfl, hb⟩
    refine ⟨false, rfl, ⟨(fun h => by cases h), fun ⟨h1, k, p, e1, h2, h3⟩ => ?_⟩, hb⟩
    have hk := (List.getElem?_eq_some_iff.1 h2).1
    exact absurd hno (by rintro (h | h | h); omega; omega; exact h1 h)
  · have h0 : 0 ≤ q := Int.not_lt.1 (fun h => hno (.inl h))
    have h1 : q < (m : Int) := Int.not_le.1 (fun h => hno (.inr (.inl h)))
    have h2 : ¬ q ∈ dn := fun h => hno (.inr (.inr h))
    obtain ⟨k, rfl⟩ := Int.eq_ofNat_of_zero_le h0
    have hk : k < l.length := by omega
    refine (rNext_any oa da m oc d dc l dn k l[k] w h hm hs hz hd hds (List.getElem?_eq_getElem hk) h2).mono ?_
    rintro e w' ⟨r, rfl, hr, hb⟩
    refine ⟨r, rfl, hr.trans ⟨fun h3 => ⟨h2, k, l[k], rfl, List.getElem?_eq_getElem hk, by rw [hm]; exact h3⟩, ?_⟩, hb⟩
    rintro ⟨_, k', p, e1, h3, h4⟩
    have e2 := Int.ofNat.inj e1
    subst e2
    rw [List.getElem?_eq_getElem hk] at h3
    cases h3
    rw [← hm]; exact h4
end Go.Proofs.Ytjkoambfecmglaa
