import Derived.Test.YtjkoambfecmglaaVSpz
import Derived.Test.YtjkoambfecmglaaBulkD
import Derived.WalkKit
import Derived.ProofKit
import Derived.OpenShut
import Derived.ChangeOld
import Derived.SizedLaws
import Derived.JoinedCond
import Derived.Deep.Slices
namespace Go.Proofs.Ytjkoambfecmglaa
open Go.RowKit Go.Maps
set_option linter.unusedVariables false
set_option linter.unusedSimpArgs false
set_option maxRecDepth 100000
/-- the same operation, its data elsewhere -/
def Sib (p q : Opv) : Prop := q = ⟨p.k, p.fr, p.to_, p.off, p.len, q.da, p.n, q.dc, p.sy⟩
end Go.Proofs.Ytjkoambfecmglaa

namespace Go.Proofs.Ytjkoambfecmglaa
open Go.RowKit Go.Maps
set_option linter.unusedVariables false
set_option linter.unusedSimpArgs false
set_option maxRecDepth 100000
theorem Try.info50 : (Try.prog.info? 50).map (fun i => (i.zero, i.size, i.bytes)) = some (some (.agg #[.int .i64 0, .int .i64 0, .int .i64 0, .int .i64 0, .int .i64 0, .slice none 0 0, .bool false]), 7, 72) := by kernel_rfl
theorem Try.under23 : Try.prog.underlying 23 = some (.slice 50) := by kernel_rfl
theorem copy_row {ao : Option Addr} {cap n : Nat} {l : List Nat} {w : World} (h : BRow w ao cap l) (hn : l.length = n) :
    Calls Try.prog 9 #[.slice ao n cap] w fun e w' => ∃ va vc, e = .returned (.slice va n vc) ∧ w'.ownsRow w.heap.size 5 1 (.slice va n vc) n (l.map bv) ∧ Below w.heap.size w w' := by
  subst hn
  cases ao with
  | none =>
    obtain ⟨e1, e2⟩ := h.nil rfl
    subst e1 e2
    refine (copy_none w).mono ?_
    rintro e w' ⟨rfl, rfl⟩
    exact ⟨none, 0, rfl, ⟨rfl, .inl ⟨rfl, rfl⟩⟩, Below.refl _ _⟩
  | some ad =>
    refine (copy_some ad cap l w h).mono ?_
    rintro e w' ⟨v, rfl, ho, hb⟩
    obtain ⟨va, vc, rfl, _⟩ := BRow.own ho h.lt h.len
    exact ⟨va, vc, rfl, ho, hb⟩
abbrev ocells (l : List Opv) : List Value := l.flatMap fun o => o.cells.toList
theorem ocells_at : ∀ (l : List Opv) (i j : Nat) (o : Opv), l[i]? = some o → j < 7 → (ocells l)[i * 7 + j]? = o.cells[j]?
  | [], i, j, o, h, _ => by simp at h
  | u :: l, 0, j, o, h, hj => by
    simp at h
    subst h
    rw [ocells, List.flatMap_cons, List.getElem?_append_left (by simp; omega)]
    simp
  | u :: l, i + 1, j, o, h, hj => by
    have ih := ocells_at l i j o (by simpa using h) hj
    rw [ocells, List.flatMap_cons, List.getElem?_append_right (by simp; omega)]
    rw [show (i + 1) * 7 + j - u.cells.toList.length = i * 7 + j by simp; omega]
    exact ih
theorem own_form7 {w : World} {base e n : Nat} {v : Value} {xs : List Value} (h : w.ownsRow base e 7 v n xs) : ∃ ao cap, v = .slice ao n cap := by
  rcases h.2 with ⟨rfl, h0⟩ | ⟨g, cap, cur, rfl, _⟩
  · exact ⟨none, 0, by rw [h0]⟩
  · exact ⟨_, _, rfl⟩
end Go.Proofs.Ytjkoambfecmglaa

namespace Go.Proofs.Ytjkoambfecmglaa
open Go.RowKit
set_option linter.unusedVariables false
set_option linter.unusedSimpArgs false
set_option maxRecDepth 100000
/-- the same operations, their data elsewhere -/
structure Sibs (l l2 : List Opv) : Prop where
  len : l2.length = l.length
  sib : ∀ (k : Nat) (p q : Opv), l[k]? = some p → l2[k]? = some q → Sib p q
theorem Sib.symm {p q : Opv} (h : Sib p q) : Sib q p := by
  obtain ⟨k, fr, t, off, len, da, n, dc, sy⟩ := p
  obtain ⟨k2, fr2, t2, off2, len2, da2, n2, dc2, sy2⟩ := q
  unfold Sib at h
  injection h with g1 g2 g3 g4 g5 g6 g7 g8 g9
  simp only at g1 g2 g3 g4 g5 g7 g9
  subst g1 g2 g3 g4 g5 g7 g9
  rfl
theorem Sib.ans {p q : Opv} (h : Sib p q) : q.ans = p.ans := by unfold Sib at h; rw [h]; rfl
theorem Sib.bef {p q a b : Opv} (h : Sib p q) (h2 : Sib a b) : q.bef b = p.bef a := by unfold Sib at h h2; rw [h, h2]; rfl
theorem Sib.may {p q : Opv} (h : Sib p q) (n : Nat) : q.may n = p.may n := by unfold Sib at h; rw [h]; rfl
theorem Sib.fit {p q : Opv} (h : Sib p q) (bs ds : List Nat) : q.fit bs ds = p.fit bs ds := by unfold Sib at h; rw [h]; rfl
theorem Sib.eff {p q : Opv} (h : Sib p q) (bs ds : List Nat) : q.eff bs ds = p.eff bs ds := by unfold Sib at h; rw [h]; rfl
theorem Sibs.symm {l l2 : List Opv} (h : Sibs l l2) : Sibs l2 l := ⟨h.len.symm, fun k p q hp hq => (h.sib k q p hq hp).symm⟩
theorem Sibs.get {l l2 : List Opv} (h : Sibs l l2) {k : Nat} {p : Opv} (hp : l[k]? = some p) : ∃ q, l2[k]? = some q ∧ Sib p q := by
  have hk := (List.getElem?_eq_some_iff.1 hp).1
  have hq : l2[k]? = some (l2[k]'(by rw [h.len]; exact hk)) := List.getElem?_eq_getElem (by rw [h.len]; exact hk)
  exact ⟨_, hq, h.sib k p _ hp hq⟩
theorem Sibs.back {l l2 : List Opv} (h : Sibs l l2) {k : Nat} {q : Opv} (hq : l2[k]? = some q) : ∃ p, l[k]? = some p ∧ Sib p q := by
  obtain ⟨p, h1, h2⟩ := h.symm.get hq
  exact ⟨p, h1, h2.symm⟩
theorem Sibs.wrg {l l2 : List Opv} (h : Sibs l l2) (n : Nat) : wrg n l2 = wrg n l := by
  have e : l2.all (fun o => o.may n) = l.all (fun o => o.may n) := by
    have e2 : l2.map (fun o => o.may n) = l.map (fun o => o.may n) := by
      apply List.ext_getElem?
      intro k
      rw [List.getElem?_map, List.getElem?_map]
      cases hp : l[k]? with
      | none =>
        have : l.length ≤ k := List.getElem?_eq_none_iff.1 hp
        rw [List.getElem?_eq_none (by rw [h.len]; exact this)]
      | some p =>
        obtain ⟨q, hq, hs⟩ := h.get hp
        rw [hq]
        simp [hs.may n]
    have e3 : ∀ l : List Opv, l.all (fun o => o.may n) = (l.map (fun o => o.may n)).all id := fun l => by rw [List.all_map]; rfl
    rw [e3, e3, e2]
  unfold Go.Proofs.Ytjkoambfecmglaa.wrg
  rw [e]
theorem Sibs.whl {l l2 : List Opv} (h : Sibs l l2) {dn : List Int} {m : Nat} (hw : Whl l dn m) : Whl l2 dn m := fun j q hj hq ha => by
  obtain ⟨p, hp, hs⟩ := h.back hq
  exact hw j p hj hp (by rw [← hs.ans]; exact ha)
theorem Sibs.goes {l l2 : List Opv} (h : Sibs l l2) {dss : List (List Nat)} {ord : List Int} {bs ds : List Nat} {i k : Nat} {p : Opv} (hg : Goes l dss ord bs i k p ds) : ∃ q, Sib p q ∧ Goes l2 dss ord bs i k q ds := by
  obtain ⟨h1, h2, h3, h4, h5, h6⟩ := hg
  obtain ⟨q, hq, hs⟩ := h.get h3
  refine ⟨q, hs, h1, h2, hq, h4, fun j o hj ho hb => ?_, by rw [hs.fit]; exact h6⟩
  obtain ⟨p2, hp2, hs2⟩ := h.back ho
  exact h5 j p2 (by rw [← h.len]; exact hj) hp2 (by rw [← hs2.bef hs]; exact hb)
theorem Sibs.folR {l l2 : List Opv} (h : Sibs l l2) {dss : List (List Nat)} {ord : List Int} {first : List Nat} : ∀ {i : Nat} {bs : List Nat}, FolR l dss ord first i bs → FolR l2 dss ord first i bs
  | 0, _, hf => by
    have e := FolR.zero hf
    subst e
    exact FolR.nil
  | i + 1, _, hf => by
    obtain ⟨k, bs, ds, p, hf2, hg, e⟩ := FolR.inv hf
    subst e
    obtain ⟨q, hs, hg2⟩ := h.goes hg
    have := FolR.step (Sibs.folR h hf2) hg2
    rw [hs.eff] at this
    exact this
theorem Sibs.folOut {l l2 : List Opv} (h : Sibs l l2) {dss : List (List Nat)} {ord : List Int} {first : List Nat} {n : Nat} {W : World} {v : Value} {at_ en : Int} (hf : FolOut l dss ord first n W v at_ en) : FolOut l2 dss ord first n W v at_ en := by
  have hw := h.wrg n
  rcases hf with ⟨h1, h2, h3, h4⟩ | ⟨h1, i, bs, h2, h3, h4, h5⟩ | ⟨h1, bs, h2, h3, h4⟩ | ⟨h1, bs, co, cc, h2, h3, h4⟩
  · exact .inl ⟨by rw [hw]; exact h1, h2, h3, by rw [hw]; exact h4⟩
  · exact .inr (.inl ⟨by rw [hw]; exact h1, i, bs, h.folR h2, h3, fun k q ds hg => by
      obtain ⟨p, _, hg2⟩ := h.symm.goes hg
      exact h4 k p ds hg2, h5⟩)
  · exact .inr (.inr (.inl ⟨by rw [hw]; exact h1, bs, h.folR h2, fun hy => h3 (by rw [h.len] at hy; exact h.symm.whl hy), h4⟩))
  · exact .inr (.inr (.inr ⟨by rw [hw]; exact h1, bs, co, cc, h.folR h2, by rw [h.len]; exact h.whl h3, h4⟩))
theorem FolR.goes {l : List Opv} {dss : List (List Nat)} {ord : List Int} {first : List Nat} {i : Nat} : ∀ {j : Nat} {bs : List Nat}, FolR l dss ord first j bs → i < j → ∃ bs0 k p ds, FolR l dss ord first i bs0 ∧ Goes l dss ord bs0 i k p ds
  | 0, _, _, h => absurd h (Nat.not_lt_zero _)
  | j + 1, _, h9, h => by
    obtain ⟨k, bs, ds, p, hf, hg, e9⟩ := FolR.inv h9
    rcases Nat.lt_or_ge i j with h1 | h1
    · exact FolR.goes hf h1
    · obtain rfl : i = j := by omega
      exact ⟨bs, k, p, ds, hf, hg⟩
/-- two answers say the same -/
theorem FolOut.det {l : List Opv} {dss : List (List Nat)} {ord : List Int} {first : List Nat} {n : Nat} {W W' : World} {v v' : Value} {at_ en at2 en2 : Int} (h : FolOut l dss ord first n W v at_ en) (h' : FolOut l dss ord first n W' v' at2 en2) : at_ = at2 ∧ en = en2 ∧ ((v = .slice none 0 0 ∧ v' = .slice none 0 0) ∨ ∃ bs co cc co2 cc2, v = .slice co n cc ∧ BRow W co cc bs ∧ v' = .slice co2 n cc2 ∧ BRow W' co2 cc2 bs ∧ bs.length = n) := by
  rcases h with ⟨h1, h2, h3, h4⟩ | ⟨h1, i, bs, h2, h3, h4, h5, h6, h7⟩ | ⟨h1, bs, h2, h3, h4, h5, h6⟩ | ⟨h1, bs, co, cc, h2, h3, h4, h5, h6, h7, h8⟩ <;> rcases h' with ⟨g1, g2, g3, g4⟩ | ⟨g1, j, bs', g2, g3, g4, g5, g6, g7⟩ | ⟨g1, bs', g2, g3, g4, g5, g6⟩ | ⟨g1, bs', co', cc', g2, g3, g4, g5, g6, g7, g8⟩
  · exact ⟨by rw [h3, g3], by rw [h4, g4], .inl ⟨h2, g2⟩⟩
  · exact absurd g1 h1
  · exact absurd g1 h1
  · exact absurd g1 h1
  · exact absurd h1 g1
  · rcases Nat.lt_trichotomy i j with e | e | e
    · obtain ⟨bs0, k, p, ds, q1, q2⟩ := g2.goes e
      cases FolR.det h2 q1
      exact absurd q2 (h4 k p ds)
    · subst e; exact ⟨by rw [h6, g6], by rw [h7, g7], .inl ⟨h5, g5⟩⟩
    · obtain ⟨bs0, k, p, ds, q1, q2⟩ := h2.goes e
      cases FolR.det g2 q1
      exact absurd q2 (g4 k p ds)
  · obtain ⟨bs0, k, p, ds, q1, q2⟩ := g2.goes h3
    cases FolR.det h2 q1
    exact absurd q2 (h4 k p ds)
  · obtain ⟨bs0, k, p, ds, q1, q2⟩ := g2.goes h3
    cases FolR.det h2 q1
    exact absurd q2 (h4 k p ds)
  · exact absurd h1 g1
  · obtain ⟨bs0, k, p, ds, q1, q2⟩ := h2.goes g3
    cases FolR.det g2 q1
    exact absurd q2 (g4 k p ds)
  · exact ⟨by rw [h5, g5], by rw [h6, g6], .inl ⟨h4, g4⟩⟩
  · exact absurd g3 h3
  · exact absurd h1 g1
  · obtain ⟨bs0, k, p, ds, q1, q2⟩ := h2.goes g3
    cases FolR.det g2 q1
    exact absurd q2 (g4 k p ds)
  · exact absurd h3 g3
  · cases FolR.det h2 g2
    exact ⟨by rw [h7, g7], by rw [h8, g8], .inr ⟨bs, co, cc, co', cc', h4, h5, g4, g5, h6⟩⟩
end Go.Proofs.Ytjkoambfecmglaa

namespace Go.Proofs.Ytjkoambfecmglaa
open Go.RowKit
set_option linter.unusedVariables false
set_option linter.unusedSimpArgs false
set_option maxRecDepth 100000
theorem brow_own {W : World} {B k cc : Nat} {co : Option Addr} {bs : List Nat} (h : W.ownsRow B 5 1 (.slice co k cc) k (bs.map bv)) (hl : bs.length = k) (hlt : ∀ x ∈ bs, x < 256) (hk : k ≤ 140737488351232) : BRow W co cc bs := by
  subst hl
  obtain ⟨a, c, e, hr⟩ := BRow.own h hlt hk
  cases e
  exact hr
end Go.Proofs.Ytjkoambfecmglaa

namespace Go.Proofs.Ytjkoambfecmglaa
open Go.ChangeShapes Go.WideShapes Go.ChangeAt Go.RowKit Go.Lib
open Go.Deep
set_option linter.unusedVariables false
set_option linter.unusedSimpArgs false
set_option maxRecDepth 100000
theorem own : ownKnob Try.prog.godebug = none := by kernel_rfl
theorem laidOut : laidOutB Try.prog = true := by kernel_rfl
theorem take1 {cs : List Value} {j : Nat} {v : Value} (h : (cs.drop j).take 1 = [v]) : cs[j]? = some v := by
  have := congrArg (·[0]?) h
  simpa [List.getElem?_take, List.getElem?_drop] using this
theorem brow_ints (W : World) (x : Addr) (len cap : Nat) (zs : List Int) (hl : len ≤ zs.length) (hlen : len ≤ 140737488351232)
    (hcell : ∀ i, i < zs.length → W.cell? (x.add i) = some (.int .u8 (zs.getD i 0))) (hw : ∀ n ∈ zs, (Lit.int .u8 n).wf = true) :
    ∃ l : List Nat, l.length = len ∧ BRow W (some x) cap l := by
  have hb : ∀ i (hi : i < zs.length), 0 ≤ zs[i] ∧ zs[i] ≤ 255 := fun i hi => by
    have := bounds_u8 (hw _ (List.getElem_mem hi)); omega
  refine ⟨(zs.take len).map Int.toNat, by simp; omega, ⟨?_, by simp; omega, fun h => by simp at h, ?_⟩⟩
  · intro y hy
    obtain ⟨z, hz, rfl⟩ := List.mem_map.1 hy
    have hz' := List.mem_of_mem_take hz
    have := bounds_u8 (hw z hz'); omega
  · intro hne
    have hpos : 0 < len := by
      rcases Nat.eq_zero_or_pos len with h | h
      · subst h; simp at hne
      · exact h
    obtain ⟨b, off, rfl, hc⟩ := ints_at hcell (by omega)
    refine ⟨b, off, rfl, fun k hk => ?_⟩
    have hk' : k < len := by simp at hk; omega
    have h1 := hcell k (by omega)
    rw [add_plain] at h1
    rw [h1]
    have h2 := hb k (by omega)
    simp [bv, show k < zs.length by omega]
    omega
/-- bytes that were handed in -/
theorem open_b17 {H : Type} {enc : TypeId × Value → H} {W : World} {base fuel : Nat} {cs : List Value} {d : DataW H} {p : List MemPlace} (hf : DataW.trod enc Try.prog W base (fun _ => true) true fuel 22 cs = some (d, p)) (hb : Rows.uptoBulk d ≤ 1048576) :
    ∃ (ao : Option Addr) (cap : Nat) (l : List Nat), cs = [.slice ao l.length cap] ∧ BRow W ao cap l := by
  rcases open_ints (show Try.prog.underlying 22 = some (.slice 5) by kernel_rfl) Try.underlying5 (by kernel_rfl) hf with ⟨hcs, hx⟩ | ⟨x, l, c, zs, hcs, _, hl, hm, hz, hx, hcell, hwz⟩
  · exact ⟨none, 0, [], hcs, ⟨by simp, by simp, fun _ => ⟨rfl, rfl⟩, fun h => absurd rfl h⟩⟩
  · have hd : d = .slice (lits .u8 (zs.take l)) (lits .u8 (zs.drop l)) := (Prod.mk.inj hx).1
    have hz' : zs.length = c := by simpa using hz
    have hsl := bulk_slice (lits (H := H) .u8 (zs.take l)) (lits .u8 (zs.drop l))
    have hs1 := length_le_bulk (lits (H := H) .u8 (zs.take l))
    have hs2 := length_le_bulk (lits (H := H) .u8 (zs.drop l))
    rw [← hd] at hsl
    simp only [lits, List.length_map, List.length_take, List.length_drop] at hsl hs1 hs2
    obtain ⟨m, hm1, hm2⟩ := brow_ints W x l c zs (by omega) (by omega) hcell hwz
    subst hm1
    exact ⟨some x, c, m, hcs, hm2⟩
/-- numbers that were handed in -/
theorem open_z17 {H : Type} {enc : TypeId × Value → H} {W : World} {base fuel : Nat} {cs : List Value} {d : DataW H} {p : List MemPlace} (hf : DataW.trod enc Try.prog W base (fun _ => true) true fuel 24 cs = some (d, p)) (hb : Rows.uptoBulk d ≤ 1048576) :
    ∃ (ao : Option Addr) (cap : Nat) (l : List Int), cs = [.slice ao l.length cap] ∧ ZRow W ao l ∧ l.length ≤ cap ∧ l.length ≤ 1048576 ∧ (ao = none → l.length = 0 ∧ cap = 0) := by
  rcases open_ints (show Try.prog.underlying 24 = some (.slice 3) by kernel_rfl) (show Try.prog.underlying 3 = some (.int .i64) by kernel_rfl) (by kernel_rfl) hf with ⟨hcs, hx⟩ | ⟨x, l, c, zs, hcs, _, hl, hm, hz, hx, hcell, hwz⟩
  · exact ⟨none, 0, [], hcs, ⟨fun h => absurd rfl h⟩, by simp, by simp, fun _ => ⟨rfl, rfl⟩⟩
  · have hd : d = .slice (lits .i64 (zs.take l)) (lits .i64 (zs.drop l)) := (Prod.mk.inj hx).1
    have hz' : zs.length = c := by simpa using hz
    have hsl := bulk_slice (lits (H := H) .i64 (zs.take l)) (lits .i64 (zs.drop l))
    have hs1 := length_le_bulk (lits (H := H) .i64 (zs.take l))
    rw [← hd] at hsl
    simp only [lits, List.length_map, List.length_take, List.length_drop] at hsl hs1
    have hll : (zs.take l).length = l := by rw [List.length_take]; omega
    refine ⟨some x, c, zs.take l, by rw [hll]; exact hcs, ⟨fun hne => ?_⟩, by rw [hll]; omega, by rw [hll]; omega, fun h => by cases h⟩
    have hpos : 0 < l := by
      rcases Nat.eq_zero_or_pos l with h | h
      · subst h; simp at hne
      · exact h
    obtain ⟨b, off, rfl, hc⟩ := ints_at hcell (by omega)
    refine ⟨b, off, rfl, fun k hk => ?_⟩
    have hk' : k < l := by rw [hll] at hk; exact hk
    have h1 := hcell k (by omega)
    rw [add_plain] at h1
    rw [h1, List.getElem_take]
    simp [show k < zs.length by omega]
/-- an operation that was handed in -/
theorem open_o17 {H : Type} {enc : TypeId × Value → H} {w : World} {base : Nat} {fuel : Nat} {cs : List Value} {d : DataW H} {p : List MemPlace} (h : DataW.trod enc Try.prog w base (fun _ => true) true fuel 50 cs = some (d, p)) (hb : Rows.uptoBulk d ≤ 1048576) : ∃ (o : Opv) (ds : List Nat), cs = o.cells.toList ∧ BRow w o.da o.dc ds ∧ ds.length = o.n := by
  obtain ⟨xs, n, rfl, hx, hl, hxl, hall⟩ := DataW.trod_struct Try.underlying50 h
  have hl' : cs.length = 7 := hl.trans (by kernel_rfl)
  have h0 := hall 0 _ rfl
  obtain ⟨⟨y0, yp0⟩, hy0⟩ : ∃ y, xs[0]? = some y := ⟨_, List.getElem?_eq_getElem (by rw [hxl]; decide)⟩
  have k0 : Try.prog.cellsOf 48 = 1 := by kernel_rfl
  simp only [k0, hy0] at h0
  obtain ⟨z0, e0, _, w0⟩ := DataW.trod_int (show Try.prog.underlying 48 = some (.int .i64) by kernel_rfl) h0
  have t0 := take1 e0
  have h1 := hall 1 _ rfl
  obtain ⟨⟨y1, yp1⟩, hy1⟩ : ∃ y, xs[1]? = some y := ⟨_, List.getElem?_eq_getElem (by rw [hxl]; decide)⟩
  have k1 : Try.prog.cellsOf 3 = 1 := by kernel_rfl
  simp only [k1, hy1] at h1
  obtain ⟨z1, e1, _, w1⟩ := DataW.trod_int (show Try.prog.underlying 3 = some (.int .i64) by kernel_rfl) h1
  have t1 := take1 e1
  have h2 := hall 2 _ rfl
  obtain ⟨⟨y2, yp2⟩, hy2⟩ : ∃ y, xs[2]? = some y := ⟨_, List.getElem?_eq_getElem (by rw [hxl]; decide)⟩
  have k2 : Try.prog.cellsOf 3 = 1 := by kernel_rfl
  simp only [k2, hy2] at h2
  obtain ⟨z2, e2, _, w2⟩ := DataW.trod_int (show Try.prog.underlying 3 = some (.int .i64) by kernel_rfl) h2
  have t2 := take1 e2
  have h3 := hall 3 _ rfl
  obtain ⟨⟨y3, yp3⟩, hy3⟩ : ∃ y, xs[3]? = some y := ⟨_, List.getElem?_eq_getElem (by rw [hxl]; decide)⟩
  have k3 : Try.prog.cellsOf 3 = 1 := by kernel_rfl
  simp only [k3, hy3] at h3
  obtain ⟨z3, e3, _, w3⟩ := DataW.trod_int (show Try.prog.underlying 3 = some (.int .i64) by kernel_rfl) h3
  have t3 := take1 e3
  have h4 := hall 4 _ rfl
  obtain ⟨⟨y4, yp4⟩, hy4⟩ : ∃ y, xs[4]? = some y := ⟨_, List.getElem?_eq_getElem (by rw [hxl]; decide)⟩
  have k4 : Try.prog.cellsOf 3 = 1 := by kernel_rfl
  simp only [k4, hy4] at h4
  obtain ⟨z4, e4, _, w4⟩ := DataW.trod_int (show Try.prog.underlying 3 = some (.int .i64) by kernel_rfl) h4
  have t4 := take1 e4
  have h5 := hall 5 _ rfl
  obtain ⟨⟨y5, yp5⟩, hy5⟩ : ∃ y, xs[5]? = some y := ⟨_, List.getElem?_eq_getElem (by rw [hxl]; decide)⟩
  have k5 : Try.prog.cellsOf 22 = 1 := by kernel_rfl
  simp only [k5, hy5] at h5
  have hbk : Rows.uptoBulk y5 ≤ 1048576 := by
    have hd : d = .agg (xs.map (·.1)) := (Prod.mk.inj hx).1
    have hm : y5 ∈ xs.map (·.1) := List.mem_map.2 ⟨_, List.mem_of_getElem? hy5, rfl⟩
    have h1 := bulk_le_all hm
    rw [hd] at hb
    simp only [Rows.uptoBulk] at hb
    omega
  obtain ⟨ao, cap, ds, e5, hbr⟩ := open_b17 h5 hbk
  have t5 := take1 e5
  have h6 := hall 6 _ rfl
  obtain ⟨⟨y6, yp6⟩, hy6⟩ : ∃ y, xs[6]? = some y := ⟨_, List.getElem?_eq_getElem (by rw [hxl]; decide)⟩
  have k6 : Try.prog.cellsOf 4 = 1 := by kernel_rfl
  simp only [k6, hy6] at h6
  obtain ⟨z6, e6, _⟩ := DataW.trod_bool (show Try.prog.underlying 4 = some .bool by kernel_rfl) h6
  have t6 := take1 e6
  refine ⟨⟨z0, z1, z2, z3, z4, ao, ds.length, cap, z6⟩, ds, ?_, hbr, rfl⟩
  apply List.ext_getElem?
  intro i
  match i with
  | 0 => exact t0
  | 1 => exact t1
  | 2 => exact t2
  | 3 => exact t3
  | 4 => exact t4
  | 5 => exact t5
  | 6 => exact t6
  | i + 7 => rw [List.getElem?_eq_none (by omega)]; rfl
/-- operations that were handed in -/
theorem open_ops17 {H : Type} {enc : TypeId × Value → H} {W : World} {base fuel : Nat} {cs : List Value} {d : DataW H} {p : List MemPlace} (hf : DataW.trod enc Try.prog W base (fun _ => true) true fuel 23 cs = some (d, p)) (hb : Rows.uptoBulk d ≤ 1048576) :
    ∃ (ao : Option Addr) (cap : Nat) (l : List Opv) (dss : List (List Nat)), cs = [.slice ao l.length cap] ∧ OpsD W ao l dss ∧ l.length ≤ 1048576 := by
  rcases open_slice Try.under23 hf with ⟨hcs, _⟩ | ⟨x, len, cap, m, n, D, Pl, hcs, _, hl, hm, hmm, hx, hel⟩
  · exact ⟨none, 0, [], [], hcs, ⟨⟨fun h => absurd rfl h⟩, rfl, fun k p ds h => by simp at h⟩, by simp⟩
  · have hmc : m = cap := by simpa using hmm
    have hd : d = .slice ((List.range len).map D) ((List.range (m - len)).map fun j => D (len + j)) := (Prod.mk.inj hx).1
    have hb1 := bulk_slice ((List.range len).map D) ((List.range (m - len)).map fun j => D (len + j))
    have hlen : len ≤ 1048576 := by
      have b2 := length_le_bulk ((List.range len).map D)
      rw [← hd] at hb1
      simp at b2
      omega
    have cOp : Try.prog.cellsOf 50 = 7 := by kernel_rfl
    have hel' : ∀ i, ∃ od : Opv × List Nat, i < len → (BRow W od.1.da od.1.dc od.2 ∧ od.2.length = od.1.n) ∧ ∀ j, j < 7 → W.cell? ((x.add (i * 7)).add j) = od.1.cells[j]? := by
      intro i
      by_cases hi : i < len
      · obtain ⟨cs', hc1, hc2⟩ := hel i (by omega)
        rw [cOp] at hc1
        have hbi : Rows.uptoBulk (D i) ≤ 1048576 := by
          have h1 : D i ∈ (List.range len).map D := List.mem_map.2 ⟨i, List.mem_range.2 hi, rfl⟩
          have h2 := bulk_le_all h1
          rw [← hd] at hb1
          omega
        obtain ⟨o, ds, rfl, h2, h3⟩ := open_o17 hc2 hbi
        refine ⟨(o, ds), fun _ => ⟨⟨h2, h3⟩, fun j hj => ?_⟩⟩
        have h1 := (World.cells?_some hc1).2.2 j hj
        rw [h1, Array.getElem?_toList]
      · exact ⟨(⟨0, 0, 0, 0, 0, none, 0, 0, false⟩, []), fun h => absurd h hi⟩
    obtain ⟨T, hT⟩ := Classical.axiomOfChoice hel'
    have atk : ∀ (k : Nat) (p : Opv), ((List.range len).map fun i => (T i).1)[k]? = some p → k < len ∧ (T k).1 = p := fun k p hk => by
      rw [List.getElem?_map] at hk
      rcases Nat.lt_or_ge k len with h1 | h1
      · rw [List.getElem?_range h1] at hk
        cases hk
        exact ⟨h1, rfl⟩
      · rw [List.getElem?_eq_none (by simpa using h1)] at hk; cases hk
    refine ⟨some x, cap, (List.range len).map fun i => (T i).1, (List.range len).map fun i => (T i).2, by rw [hcs]; simp, ⟨⟨fun hne => ?_⟩, by simp, fun k p ds hp hds => ?_⟩, by simpa using hlen⟩
    · have h0 : 0 < len := by
        rcases Nat.eq_zero_or_pos len with h | h
        · subst h; simp at hne
        · exact h
      obtain ⟨pb, po, rfl⟩ : ∃ pb po, x = ⟨pb, po, none⟩ := by
        have h1 := (hT 0 h0).2 0 (by decide)
        have h2 := World.cell?_spot (show W.cell? ((x.add (0 * 7)).add 0) = some (.int .i64 (T 0).1.k) from h1)
        obtain ⟨b, off, spot⟩ := x
        have : spot = none := by simpa [Addr.add] using h2
        exact ⟨b, off, by rw [this]⟩
      refine ⟨pb, po, rfl, fun k hk j v hv => ?_⟩
      have hk2 : k < len := by simpa using hk
      have hj : j < 7 := by
        have := (Array.getElem?_eq_some_iff.1 hv).1
        simpa using this
      have h1 := (hT k hk2).2 j hj
      rw [add_plain, add_plain] at h1
      rw [h1, ← hv]
      simp
    · obtain ⟨h1, rfl⟩ := atk k p hp
      rw [List.getElem?_map, List.getElem?_range h1] at hds
      cases hds
      exact (hT k h1).1
end Go.Proofs.Ytjkoambfecmglaa
namespace Go.Proofs.Ytjkoambfecmglaa.judgeFollows
open Go.ChangeShapes Go.WideShapes Go.ChangeAt Go.RowKit Go.Lib
open Go.Deep
set_option linter.unusedVariables false
set_option linter.unusedSimpArgs false
set_option maxRecDepth 100000
end Go.Proofs.Ytjkoambfecmglaa.judgeFollows
namespace Go.Proofs.Ytjkoambfecmglaa
end Go.Proofs.Ytjkoambfecmglaa
