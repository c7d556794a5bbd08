import Derived.Test.YtjkoambfecmglaaVYjz
import Derived.Test.YtjkoambfecmglaaJQ
import Derived.Shelf.SlSortCmp.NoneTotal
import Derived.Test.YtjkoambfecmglaaProg
import Derived.Lib.SortBridge
namespace Go.Proofs.Ytjkoambfecmglaa
open Go.RowKit
set_option linter.unusedVariables false
set_option linter.unusedSimpArgs false
set_option maxRecDepth 100000
/-- what may come next -/
def Nx (l : List Opv) (dss : List (List Nat)) (dn : List Int) (bs : List Nat) (q : Int) (k : Nat) (p : Opv) (ds : List Nat) : Prop := q = (k : Int) ∧ ¬ (k : Int) ∈ dn ∧ l[k]? = some p ∧ dss[k]? = some ds ∧ Nxt l dn p l.length ∧ p.fit bs ds = true
set_option maxHeartbeats 4000000 in
theorem step_any {W : World} {B P m oc n nc pc dc : Nat} {oa na pa wa : Option Addr} {bs : List Nat} {pl : List Bool} {ow : List Nat} {l : List Opv} {dss : List (List Nat)} {dn : List Int} (h : Wm W B P oa m oc na n nc bs pa pc pl wa dc ow) (hS : WkS l dn pl ow) (hh : HdN dn ow) (hO : OpsD W oa l dss) (hm : l.length = m) (hns : n ≤ 4096) (hw : ∀ (k : Nat) (p : Opv), l[k]? = some p → p.may n = true) (hB : B ≤ W.heap.size) (q : Int) :
    Calls Try.prog 26 #[.pointer (some ⟨P, 0, none⟩), .int .i64 q] W fun e w' => ∃ r : Bool, e = .returned (.bool r) ∧ Below B W w' ∧
      (r = false → ∀ k p ds, ¬ Nx l dss dn bs q k p ds) ∧
      (r = true → ∃ k p ds wa' dc' ow', Nx l dss dn bs q k p ds ∧ Wm w' B P oa m oc na n nc (p.eff bs ds) pa pc (pl.set k true) wa' dc' ow' ∧ WkS l (dn ++ [q]) (pl.set k true) ow' ∧ HdN (dn ++ [q]) ow') := by
  have no : ∀ {e : Ending} {w' : World}, e = .returned (.bool false) ∧ Below W.heap.size W w' → (∀ k p ds, ¬ Nx l dss dn bs q k p ds) → ∃ r : Bool, e = .returned (.bool r) ∧ Below B W w' ∧
      (r = false → ∀ k p ds, ¬ Nx l dss dn bs q k p ds) ∧
      (r = true → ∃ k p ds wa' dc' ow', Nx l dss dn bs q k p ds ∧ Wm w' B P oa m oc na n nc (p.eff bs ds) pa pc (pl.set k true) wa' dc' ow' ∧ WkS l (dn ++ [q]) (pl.set k true) ow' ∧ HdN (dn ++ [q]) ow') := fun {e w'} he hn => ⟨false, he.1, he.2.mono hB, fun _ => hn, fun h => by cases h⟩
  by_cases hq : q < 0
  · refine (step_neg W P q hq).mono fun e w' he => no he fun k p ds hx => ?_
    have := hx.1; omega
  obtain ⟨k, rfl⟩ : ∃ k : Nat, q = k := ⟨q.toNat, by omega⟩
  by_cases hkm : m ≤ k
  · refine (step_big W P m oc k oa h.c0 hkm).mono fun e w' he => no he fun k' p ds hx => ?_
    have h1 := (List.getElem?_eq_some_iff.1 hx.2.2.1).1
    have h2 := Int.ofNat.inj hx.1
    omega
  have hkm' : k < m := by omega
  obtain ⟨gp, rfl, hcp, hfp⟩ := h.row hkm'
  have hkl : k < l.length := by omega
  obtain ⟨b, hb⟩ : ∃ b, pl[k]? = some b := ⟨_, List.getElem?_eq_getElem (by rw [hS.len]; exact hkl)⟩
  rw [List.getElem?_map, hb] at hcp
  have hplk := hS.plk k hkl
  rw [hb] at hplk
  cases b with
  | true =>
    refine (step_played W P m oc k gp pc oa h.c0 h.c2 hcp hkm').mono fun e w' he => no he fun k' p ds hx => ?_
    have h2 := Int.ofNat.inj hx.1
    subst h2
    exact hx.2.1 (hplk.1 rfl)
  | false =>
    have hnd : ¬ (k : Int) ∈ dn := fun hd => by cases hplk.2 hd
    obtain ⟨p, hp⟩ : ∃ p, l[k]? = some p := ⟨_, List.getElem?_eq_getElem hkl⟩
    obtain ⟨ds, hds⟩ : ∃ ds, dss[k]? = some ds := ⟨_, List.getElem?_eq_getElem (by rw [hO.len]; exact hkl)⟩
    have hrow := hO.row k p ds hp hds
    obtain ⟨ob, oo, rfl, hc⟩ := ops_at hO.ops hp
    obtain ⟨r, hlc, hrn⟩ := lacks_wm h hS hh hO.ops hm p
    cases r with
    | true =>
      refine (step_lacks W P m oc n nc gp pc ob oo k na p h.c0 h.c1 h.c2 hcp hkm' hc hlc).mono fun e w' he => no he fun k' p' ds' hx => ?_
      have h2 := Int.ofNat.inj hx.1
      subst h2
      have h3 := hx.2.2.1
      rw [hp] at h3; cases h3
      cases hrn.2 hx.2.2.2.2.1
    | false =>
      have hfit := fun U hU => fits_any na n nc p bs ds U ((h.later (V := U) hU).brow hns) h.bsn h.nnc (hrow.1.later hU) hrow.2 (hw k p hp) hns
      cases hfb : p.fit bs ds with
      | false =>
        rw [hfb] at hfit
        refine (step_misfit W P m oc n nc gp pc ob oo k na p h.c0 h.c1 h.c2 hcp hkm' hc hlc hfit).mono fun e w' he => no he fun k' p' ds' hx => ?_
        have h2 := Int.ofNat.inj hx.1
        subst h2
        have h3 := hx.2.2.1; have h4 := hx.2.2.2.1
        rw [hp] at h3; cases h3
        rw [hds] at h4; cases h4
        have h5 := hx.2.2.2.2.2
        rw [hfb] at h5
        cases h5
      | true =>
        rw [hfb] at hfit
        refine (step_yes W B P m oc n nc gp pc dc ob oo k na wa p bs ds pl ow l dn h hS hm hns hkm' hcp hfp hc (h.apO (by omega) _ rfl) hB hlc hfit hrow.1 hrow.2 (hw k p hp)).mono ?_
        rintro e w' ⟨he, hbl, wa', dc', ow', h1, h2, h3⟩
        exact ⟨true, he, hbl, fun e => (by cases e), fun _ => ⟨k, p, ds, wa', dc', ow', ⟨rfl, hnd, hp, hds, hrn.1 rfl, hfb⟩, h1, h2, h3⟩⟩
end Go.Proofs.Ytjkoambfecmglaa

namespace Go.Proofs.Ytjkoambfecmglaa
open Go.RowKit
set_option linter.unusedVariables false
set_option linter.unusedSimpArgs false
set_option maxRecDepth 100000
set_option maxHeartbeats 4000000 in
/-- slices.Clone of bytes -/
theorem clone_any (ao : Option Addr) (cap n : Nat) (bs : List Nat) (w : World) (h : BRow w ao cap bs) (hn : bs.length = n) :
    Calls Try.prog 42 #[.slice ao n cap] w fun e w' => ∃ co cc, e = .returned (.slice co n cc) ∧ w'.ownsRow w.heap.size 5 1 (.slice co n cc) n (bs.map bv) ∧ Below w.heap.size w w' := by
  subst hn
  cases ao with
  | none =>
    obtain ⟨h1, h2⟩ := h.nil rfl
    subst h1; subst h2
    have hnil : ∀ W, (binOp .eql 22 (.slice none 0 0) (.slice none 0 0)).run Try.prog W = .ok (.bool true) W := fun W => Lib.run_eql_slice_nil W 22 5 none 0 0 0 0 Try.underlying22
    clear h
    go_enter Try.func42, Try.ntmps42
    go_wp2
    go_ret
    exact ⟨none, 0, rfl, ⟨rfl, .inl ⟨rfl, rfl⟩⟩, Below.refl _ _⟩
  | some ad =>
    obtain ⟨i0, hi, hz0, hz1, hz2⟩ := info_parts Try.info5
    have HB : Hid (Below w.heap.size w (w.alloc (.cells #[] 5))) := (Below.refl _ w).alloc (Nat.le_refl _) _
    have HNw : Hid (∀ a, some ad = some a → ∀ j u, (bs.map bv)[j]? = some u → (w.alloc (.cells #[] 5)).cell? (a.add j) = some u) := (h.later HB.out).news
    have hlen := h.len
    have HO : Hid ((w.alloc (.cells #[] 5)).ownsRow w.heap.size 5 1 (.slice (some ⟨w.heap.size, 0, none⟩) 0 0) 0 []) := ⟨rfl, .inr ⟨w.heap.size, 0, #[], rfl, Nat.le_refl _, heap_new _ _, Nat.le_refl _, by unfold maxLen; omega, rfl, rfl⟩⟩
    have H1 : Hid (∀ u ∈ bs.map bv, u.oneCell' = true) := by
      intro u hu
      obtain ⟨x, _, rfl⟩ := List.mem_map.1 hu
      rfl
    have hnil : ∀ W, (binOp .eql 22 (.slice (some ad) bs.length cap) (.slice none 0 0)).run Try.prog W = .ok (.bool false) W := fun W => Lib.run_eql_slice_nil W 22 5 (some ad) bs.length cap 0 0 Try.underlying22
    clear h
    go_enter Try.func42, Try.ntmps42
    go_wp2_with (at_builtin; refine wpList_append_two _ rfl _ _ 22 rfl w.heap.size 5 i0 (.int .u8 0) 1 Try.underlying22 hi hz0 hz1 hz2 rfl _ 0 [] rfl HO.out (some ad) bs.length cap (bs.map bv) rfl (fun e => by cases e) (by simp) HNw.out H1.out (by unfold maxLen; omega) (by omega) (by simp) ?_)
    intro v' w1 hown hgrow _
    have HB1 : Hid (Below w.heap.size w w1) := HB.out.grown hgrow (by simp) (fun k e => by cases e; exact Nat.le_refl _)
    have HO1 : Hid (w1.ownsRow w.heap.size 5 1 v' bs.length (bs.map bv)) := by
      show w1.ownsRow _ _ _ _ _ _
      simpa using hown
    clear hgrow hown
    go_wp2
    go_ret
    rcases HO1.out.2 with ⟨h1, h2⟩ | ⟨g, c, cur, h1, _⟩
    · exact ⟨none, 0, by rw [h1, h2]; rfl, by have := HO1.out; rw [h1] at this; rw [h2] at this ⊢; exact this, HB1.out⟩
    · exact ⟨_, c, by rw [h1]; rfl, by have := HO1.out; rw [h1] at this; exact this, HB1.out⟩
end Go.Proofs.Ytjkoambfecmglaa

namespace Go.Proofs
open Go.Shelf
def Try.sortL_ren : Go.Shelf.Ren := ⟨fun | 6 => 44 | 15 => 65 | 14 => 64 | 28 => 77 | 29 => 78 | 20 => 69 | 21 => 70 | 22 => 71 | 23 => 72 | 24 => 73 | 25 => 74 | 26 => 75 | 27 => 76 | 46 => 79 | 47 => 80 | 48 => 81 | 49 => 82 | 50 => 83 | 57 => 84 | n => n, fun | 22 => 24 | 24 => 3 | 25 => 83 | 3 => 3 | 39 => 114 | 0 => 0 | 53 => 125 | 55 => 47 | 4 => 4 | 46 => 119 | 45 => 118 | 50 => 75 | 5 => 5 | 9 => 9 | 66 => 127 | 70 => 131 | 76 => 133 | 77 => 109 | n => n, fun | n => n⟩
theorem Try.sortL : Go.Proofs.SlLaysF.n6 Try.prog Try.sortL_ren := {
  mixed := by kernel_rfl
  f6 := ⟨Try.f44.name, by decide, Try.func44.trans (congrArg some (by kernel_rfl))⟩
  f14 := ⟨Try.f64.name, by decide, Try.func64.trans (congrArg some (by kernel_rfl))⟩
  f15 := Try.func65.trans (congrArg some (by kernel_rfl))
  f20 := ⟨Try.f69.name, by decide, Try.func69.trans (congrArg some (by kernel_rfl))⟩
  f21 := ⟨Try.f70.name, by decide, Try.func70.trans (congrArg some (by kernel_rfl))⟩
  f22 := ⟨Try.f71.name, by decide, Try.func71.trans (congrArg some (by kernel_rfl))⟩
  f23 := ⟨Try.f72.name, by decide, Try.func72.trans (congrArg some (by kernel_rfl))⟩
  f24 := ⟨Try.f73.name, by decide, Try.func73.trans (congrArg some (by kernel_rfl))⟩
  f25 := ⟨Try.f74.name, by decide, Try.func74.trans (congrArg some (by kernel_rfl))⟩
  f26 := ⟨Try.f75.name, by decide, Try.func75.trans (congrArg some (by kernel_rfl))⟩
  f27 := ⟨Try.f76.name, by decide, Try.func76.trans (congrArg some (by kernel_rfl))⟩
  f28 := Try.func77.trans (congrArg some (by kernel_rfl))
  f29 := Try.func78.trans (congrArg some (by kernel_rfl))
  f46 := ⟨Try.f79.name, by decide, Try.func79.trans (congrArg some (by kernel_rfl))⟩
  f47 := Try.func80.trans (congrArg some (by kernel_rfl))
  f48 := Try.func81.trans (congrArg some (by kernel_rfl))
  f49 := ⟨Try.f82.name, by decide, Try.func82.trans (congrArg some (by kernel_rfl))⟩
  f50 := ⟨Try.f83.name, by decide, Try.func83.trans (congrArg some (by kernel_rfl))⟩
  f57 := ⟨Try.f84.name, by decide, Try.func84.trans (congrArg some (by kernel_rfl))⟩
  t0 := Try.underlying0
  a0 := Try.isAgg0
  z0 := Try.sizeOf0
  v0 := Try.zeroValue0
  t3 := Try.underlying3
  a3 := Try.isAgg3
  z3 := Try.sizeOf3
  v3 := Try.zeroValue3
  t4 := Try.underlying4
  a4 := Try.isAgg4
  z4 := Try.sizeOf4
  v4 := Try.zeroValue4
  t5 := Try.underlying5
  a5 := Try.isAgg5
  z5 := Try.sizeOf5
  v5 := Try.zeroValue5
  t9 := Try.underlying9
  a9 := Try.isAgg9
  z9 := Try.sizeOf9
  v9 := Try.zeroValue9
  t22 := Try.underlying24
  a22 := Try.isAgg24
  z22 := Try.sizeOf24
  v22 := Try.zeroValue24
  a24 := Try.isAgg3
  z24 := Try.sizeOf3
  t25 := Try.underlying83
  a25 := Try.isAgg83
  z25 := Try.sizeOf83
  v25 := Try.zeroValue83
  t39 := Try.underlying114
  a39 := Try.isAgg114
  z39 := Try.sizeOf114
  v39 := Try.zeroValue114
  t45 := Try.underlying118
  a45 := Try.isAgg118
  z45 := Try.sizeOf118
  v45 := Try.zeroValue118
  t46 := Try.underlying119
  a46 := Try.isAgg119
  z46 := Try.sizeOf119
  v46 := Try.zeroValue119
  t50 := Try.underlying75
  a50 := Try.isAgg75
  z50 := Try.sizeOf75
  v50 := Try.zeroValue75
  t53 := Try.underlying125
  a53 := Try.isAgg125
  z53 := Try.sizeOf125
  v53 := Try.zeroValue125
  t55 := Try.underlying47
  a55 := Try.isAgg47
  z55 := Try.sizeOf47
  v55 := Try.zeroValue47
  t66 := Try.underlying127
  a66 := Try.isAgg127
  z66 := Try.sizeOf127
  v66 := Try.zeroValue127
  t70 := Try.underlying131
  a70 := Try.isAgg131
  z70 := Try.sizeOf131
  v70 := Try.zeroValue131
  t76 := Try.underlying133
  a76 := Try.isAgg133
  z76 := Try.sizeOf133
  v76 := Try.zeroValue133
  t77 := Try.underlying109
  a77 := Try.isAgg109
  z77 := Try.sizeOf109
  v77 := Try.zeroValue109 }
end Go.Proofs

namespace Go.Proofs.Ytjkoambfecmglaa
open Go.RowKit
set_option linter.unusedVariables false
set_option linter.unusedSimpArgs false
set_option maxRecDepth 100000
theorem isNaN_any (x : Int) (W : World) : Calls Try.prog 66 #[.int .i64 x] W fun e w' => e = .returned (.bool false) ∧ w' = W := by
  go_enter Try.func66, Try.ntmps66
  go_wp2
  go_ret
  exact ⟨by simp, rfl⟩
set_option maxHeartbeats 2000000 in
theorem compare_any (x y : Int) (W : World) : Calls Try.prog 46 #[.int .i64 x, .int .i64 y] W fun e w' => e = .returned (.int .i64 (Lib.compareInt x y)) ∧ w' = W := by
  have HN := fun (z : Int) U => isNaN_any z U
  unfold Lib.compareInt
  by_cases h1 : x < y
  · have n1 : decide (x < y) = true := decide_eq_true h1
    rw [if_pos h1]
    go_enter Try.func46, Try.ntmps46
    go_wp2_with (go_at_call 66; refine (HN _ _).mono ?_; rintro e w' ⟨rfl, rfl⟩)
    go_ret
    exact ⟨rfl, rfl⟩
  · have n1 : decide (x < y) = false := decide_eq_false h1
    rw [if_neg h1]
    by_cases h2 : y < x
    · have n2 : decide (x > y) = true := decide_eq_true h2
      have n3 : decide (y < x) = true := decide_eq_true h2
      rw [if_pos h2]
      go_enter Try.func46, Try.ntmps46
      go_wp2_with (go_at_call 66; refine (HN _ _).mono ?_; rintro e w' ⟨rfl, rfl⟩)
      go_ret
      exact ⟨rfl, rfl⟩
    · have n2 : decide (x > y) = false := decide_eq_false h2
      have n3 : decide (y < x) = false := decide_eq_false h2
      rw [if_neg h2]
      go_enter Try.func46, Try.ntmps46
      go_wp2_with (go_at_call 66; refine (HN _ _).mono ?_; rintro e w' ⟨rfl, rfl⟩)
      go_ret
      exact ⟨rfl, rfl⟩
end Go.Proofs.Ytjkoambfecmglaa

namespace Go.Proofs.Ytjkoambfecmglaa
open Go.RowKit
set_option linter.unusedVariables false
set_option linter.unusedSimpArgs false
set_option maxRecDepth 100000
set_option maxHeartbeats 4000000 in
/-- the closure that holds two operations against one another -/
theorem tocmp_any (W : World) (m oc ob oo bx a b : Nat) (ta tb : Int) (hbx : W.cell? ⟨bx, 0, none⟩ = some (.slice (some ⟨ob, oo, none⟩) m oc)) (ha : a < m) (hb : b < m) (ca : W.cell? ⟨ob, oo + a * 7 + 2, none⟩ = some (.int .i64 ta)) (cb : W.cell? ⟨ob, oo + b * 7 + 2, none⟩ = some (.int .i64 tb)) :
    Calls Try.prog 45 #[.int .i64 (a : Int), .int .i64 (b : Int), .pointer (some ⟨bx, 0, none⟩)] W fun e w' => e = .returned (.int .i64 (Lib.compareInt ta tb)) ∧ w' = W.drew := by
  have q1 : (0 : Int) ≤ (a : Int) := by omega
  have q2 : (a : Int) < (m : Int) := by omega
  have q3 : (0 : Int) ≤ (b : Int) := by omega
  have q4 : (b : Int) < (m : Int) := by omega
  have HN := fun U => compare_any ta tb U
  generalize Lib.compareInt ta tb = r at HN ⊢
  go_enter Try.func45, Try.ntmps45
  go_wp2_with fail
  refine wp_region_held_drew (S := (fun w' => w'.cell? ⟨bx, 0, none⟩ = some (.slice (some ⟨ob, oo, none⟩) m oc) ∧ w'.cell? ⟨ob, oo + a * 7 + 2, none⟩ = some (.int .i64 ta) ∧ w'.cell? ⟨ob, oo + b * 7 + 2, none⟩ = some (.int .i64 tb))) (by kernel_rfl) ?_ (fun hHeld => ?_)
  · exact ⟨hbx, ca, cb⟩
  refine wpAnyH_take (i := 0) (oi := { dst := some 6, op := Op.load 23 (Operand.tmp 2), type := 23, pos := _, after := #[], guard := none }) (v := ?_) rfl (by kernel_rfl) (by kernel_rfl) (by kernel_rfl) (fun _ _ _ h => h) (Or.inl ⟨by rfl, ?_⟩) (by assumption) ?_
  rotate_left
  · (intro w hSw; (try dsimp only at hSw); go_simp) <;> with_reducible rfl
  try simp only [Act.put, List.setIfInBounds_toArray, List.set_cons_zero, List.set_cons_succ]
  refine wpAnyH_take (i := 1) (oi := { dst := some 7, op := Op.move (Operand.tmp 0), type := 3, pos := _, after := #[], guard := none }) (v := ?_) rfl (by kernel_rfl) (by kernel_rfl) (by kernel_rfl) (fun _ _ _ h => h) (Or.inl ⟨by rfl, ?_⟩) (by assumption) ?_
  rotate_left
  · (intro w hSw; (try dsimp only at hSw); go_simp) <;> with_reducible rfl
  try simp only [Act.put, List.setIfInBounds_toArray, List.set_cons_zero, List.set_cons_succ]
  refine wpAnyH_take (i := 2) (oi := { dst := some 8, op := Op.indexAddr 23 (Operand.tmp 6) (Operand.tmp 7), type := 0, pos := _, after := _, guard := none }) (v := ?_) rfl (by kernel_rfl) (by kernel_rfl) (by kernel_rfl) (fun _ _ _ h => h) (Or.inl ⟨by rfl, ?_⟩) (by assumption) ?_
  rotate_left
  · (intro w hSw; (try dsimp only at hSw); go_simp) <;> with_reducible rfl
  try simp only [Act.put, List.setIfInBounds_toArray, List.set_cons_zero, List.set_cons_succ]
  refine wpAnyH_take (i := 3) (oi := { dst := some 9, op := Op.fieldAddr 50 (Operand.tmp 8) 2, type := 0, pos := _, after := _, guard := none }) (v := ?_) rfl (by kernel_rfl) (by kernel_rfl) (by kernel_rfl) (fun _ _ _ h => h) (Or.inl ⟨by rfl, ?_⟩) (by assumption) ?_
  rotate_left
  · (intro w hSw; (try dsimp only at hSw); go_simp) <;> with_reducible rfl
  try simp only [Act.put, List.setIfInBounds_toArray, List.set_cons_zero, List.set_cons_succ]
  refine wpAnyH_take (i := 4) (oi := { dst := some 10, op := Op.load 3 (Operand.tmp 9), type := 3, pos := _, after := _, guard := none }) (v := ?_) rfl (by kernel_rfl) (by kernel_rfl) (by kernel_rfl) (fun _ _ _ h => h) (Or.inl ⟨by rfl, ?_⟩) (by assumption) ?_
  rotate_left
  · (intro w hSw; (try dsimp only at hSw); go_simp) <;> with_reducible rfl
  try simp only [Act.put, List.setIfInBounds_toArray, List.set_cons_zero, List.set_cons_succ]
  refine wpAnyH_take (i := 5) (oi := { dst := some 11, op := Op.load 23 (Operand.tmp 2), type := 23, pos := _, after := #[], guard := none }) (v := ?_) rfl (by kernel_rfl) (by kernel_rfl) (by kernel_rfl) (fun _ _ _ h => h) (Or.inl ⟨by rfl, ?_⟩) (by assumption) ?_
  rotate_left
  · (intro w hSw; (try dsimp only at hSw); go_simp) <;> with_reducible rfl
  try simp only [Act.put, List.setIfInBounds_toArray, List.set_cons_zero, List.set_cons_succ]
  refine wpAnyH_take (i := 6) (oi := { dst := some 12, op := Op.move (Operand.tmp 1), type := 3, pos := _, after := #[], guard := none }) (v := ?_) rfl (by kernel_rfl) (by kernel_rfl) (by kernel_rfl) (fun _ _ _ h => h) (Or.inl ⟨by rfl, ?_⟩) (by assumption) ?_
  rotate_left
  · (intro w hSw; (try dsimp only at hSw); go_simp) <;> with_reducible rfl
  try simp only [Act.put, List.setIfInBounds_toArray, List.set_cons_zero, List.set_cons_succ]
  refine wpAnyH_take (i := 7) (oi := { dst := some 13, op := Op.indexAddr 23 (Operand.tmp 11) (Operand.tmp 12), type := 0, pos := _, after := _, guard := none }) (v := ?_) rfl (by kernel_rfl) (by kernel_rfl) (by kernel_rfl) (fun _ _ _ h => h) (Or.inl ⟨by rfl, ?_⟩) (by assumption) ?_
  rotate_left
  · (intro w hSw; (try dsimp only at hSw); go_simp) <;> with_reducible rfl
  try simp only [Act.put, List.setIfInBounds_toArray, List.set_cons_zero, List.set_cons_succ]
  refine wpAnyH_take (i := 8) (oi := { dst := some 14, op := Op.fieldAddr 50 (Operand.tmp 13) 2, type := 0, pos := _, after := _, guard := none }) (v := ?_) rfl (by kernel_rfl) (by kernel_rfl) (by kernel_rfl) (fun _ _ _ h => h) (Or.inl ⟨by rfl, ?_⟩) (by assumption) ?_
  rotate_left
  · (intro w hSw; (try dsimp only at hSw); go_simp) <;> with_reducible rfl
  try simp only [Act.put, List.setIfInBounds_toArray, List.set_cons_zero, List.set_cons_succ]
  refine wpAnyH_take (i := 9) (oi := { dst := some 15, op := Op.load 3 (Operand.tmp 14), type := 3, pos := _, after := _, guard := none }) (v := ?_) rfl (by kernel_rfl) (by kernel_rfl) (by kernel_rfl) (fun _ _ _ h => h) (Or.inl ⟨by rfl, ?_⟩) (by assumption) ?_
  rotate_left
  · (intro w hSw; (try dsimp only at hSw); go_simp) <;> with_reducible rfl
  try simp only [Act.put, List.setIfInBounds_toArray, List.set_cons_zero, List.set_cons_succ]
  refine wpAnyH_ready (rs := [10]) (by kernel_rfl) (by simp) ?_
  refine AllReadyH.cons (o := { dst := some 16, op := Op.call { callee := Callee.value (Operand.func 46), args := #[Operand.tmp 10, Operand.tmp 15], argTypes := #[3, 3] }, type := 3, pos := _, after := _, guard := none }) rfl (fun K hK => ?_) AllReadyH.nil
  go_simp
  go_at_call 46
  refine (HN _).mono ?_
  rintro ex w9 ⟨rfl, rfl⟩
  try go_simp
  clear hHeld
  refine hK.out _ _ ?_ (fun hHeld => ?_)
  · exact ⟨hbx, ca, cb⟩
  clear hK K
  try simp only [Act.put, List.setIfInBounds_toArray, List.set_cons_zero, List.set_cons_succ]
  refine wpAnyH_take (i := 11) (oi := { dst := some 5, op := Op.assign (Operand.tmp 16), type := 3, pos := _, after := _, guard := none }) (v := ?_) rfl (by kernel_rfl) (by kernel_rfl) (by kernel_rfl) (fun _ _ _ h => h) (Or.inl ⟨by rfl, ?_⟩) (by assumption) ?_
  rotate_left
  · (intro w hSw; (try dsimp only at hSw); go_simp) <;> with_reducible rfl
  try simp only [Act.put, List.setIfInBounds_toArray, List.set_cons_zero, List.set_cons_succ]
  refine wpAnyH_done (by kernel_rfl) ?_ _
  go_wp2
  go_ret
  exact ⟨rfl, rfl⟩
end Go.Proofs.Ytjkoambfecmglaa

namespace Go.Proofs.Ytjkoambfecmglaa
open Go.RowKit Go.Shelf Go.Sort Go.Lib
set_option linter.unusedVariables false
set_option linter.unusedSimpArgs false
set_option maxRecDepth 100000
abbrev iv (k : Nat) : Value := .int .i64 (k : Int)
def tof (l : List Opv) (m x : Nat) : Int := match l[x % m]? with
  | some p => p.to_
  | none => 0
theorem tof_at {l : List Opv} {m x : Nat} {p : Opv} (hx : x < m) (hp : l[x]? = some p) : tof l m x = p.to_ := by
  unfold tof; rw [Nat.mod_eq_of_lt hx, hp]
theorem ltC (x y : Int) : decide (Lib.compareInt x y < 0) = decide (x < y) := by
  unfold Lib.compareInt
  by_cases h1 : x < y
  · simp [h1]
  · by_cases h2 : y < x <;> simp [h1, h2]
theorem ltT (l : List Opv) (m x y : Nat) : ltOf (fun x y => Lib.compareInt (tof l m x) (tof l m y)) x y = decide (tof l m x < tof l m y) := by
  unfold ltOf; exact ltC _ _
theorem swoT (l : List Opv) (m : Nat) : SWO (ltOf (fun x y => Lib.compareInt (tof l m x) (tof l m y))) where
  irrefl x := by rw [ltT]; simp
  trans x y z h1 h2 := by rw [ltT] at *; simp at *; omega
  ntrans x y z h1 h2 := by rw [ltT] at *; simp at *; omega
theorem grown_grow (w : World) (os : Array Obj) : w.grownBy (grow w os) none := ⟨rfl, rfl, rfl, by simp, fun k hk _ => Go.Sort.heap_grow_old w os hk⟩
set_option maxHeartbeats 4000000 in
/-- what is owed is sorted by the moments at which it was answered -/
theorem sort_any (W : World) (B blk d dc m oc ob oo bx : Nat) (l : List Opv) (ow : List Nat) (ho : W.ownsRow B 3 1 (.slice (some ⟨blk, 0, none⟩) d dc) d (ow.map iv)) (hd : ow.length = d) (hpos : 0 < d) (hsz : d ≤ 1099511627776) (hlm : l.length = m) (hv : ∀ k ∈ ow, k < m) (hO : OpsR W (some ⟨ob, oo, none⟩) l) (hbx : W.cell? ⟨bx, 0, none⟩ = some (.slice (some ⟨ob, oo, none⟩) m oc)) (hne1 : bx ≠ blk) (hne2 : ob ≠ blk) :
    Calls Try.prog 44 #[.slice (some ⟨blk, 0, none⟩) d dc, .func (.func 45) #[] #[.pointer (some ⟨bx, 0, none⟩)]] W fun e w' => e = .returned (.tuple #[]) ∧
      ∃ ow' : List Nat, ow'.Perm ow ∧ ow'.Pairwise (fun a b : Nat => ∀ p q : Opv, l[a]? = some p → l[b]? = some q → p.to_ ≤ q.to_) ∧ w'.ownsRow B 3 1 (.slice (some ⟨blk, 0, none⟩) d dc) d (ow'.map iv) ∧ W.grownBy w' (some blk) := by
  have hm : 0 < m := by
    have : 0 < ow.length := by omega
    obtain ⟨k, hk⟩ := List.exists_mem_of_length_pos this
    have := hv k hk; omega
  obtain ⟨blk', e0, hBb, hc, hf⟩ := own_some ho hpos
  cases e0
  have hblk : blk < W.heap.size := (owns_in ho rfl).2
  obtain ⟨enc, henc⟩ : ∃ enc : Nat → Value, enc = fun x => .int .i64 ((x % m : Nat) : Int) := ⟨_, rfl⟩
  have henv : ∀ k, k < m → enc k = iv k := fun k hk => by rw [henc]; show Value.int .i64 _ = _; rw [Nat.mod_eq_of_lt hk]
  have h1 : OneCell enc := fun x => by rw [henc]; rfl
  have hob : ob < W.heap.size := by
    obtain ⟨b, off, e, hcc⟩ := hO.at_ (by rintro rfl; simp at hlm; omega)
    cases e
    exact World.block_lt_of_cell? _ _ (hcc 0 (by omega) 0 _ rfl)
  have hbxl : bx < W.heap.size := World.block_lt_of_cell? _ _ hbx
  have hto : ∀ x, W.cell? ⟨ob, oo + (x % m) * 7 + 2, none⟩ = some (.int .i64 (tof l m x)) := fun x => by
    have hx : x % m < l.length := by rw [hlm]; exact Nat.mod_lt _ hm
    obtain ⟨b, off, e, hcc⟩ := hO.at_ (by rintro rfl; simp at hlm; omega)
    cases e
    rw [hcc (x % m) hx 2 _ rfl]
    unfold tof
    rw [List.getElem?_eq_getElem hx]
    rfl
  have hcmp : CmpLays1 Try.prog 45 #[.pointer (some ⟨bx, 0, none⟩)] enc (fun x y => Lib.compareInt (tof l m x) (tof l m y)) blk 0 ow.toArray.size W := fun n os dk hs x y => by
    have far : ∀ a : Addr, a.block ≠ blk → a.block < W.heap.size → (sortWorld enc W blk 0 n dk os).cell? a = W.cell? a := fun a h2 h3 => by
      unfold sortWorld
      rw [cell?_grow _ _ _ (by rw [size_putRow]; exact h3), cell?_putRow_other enc _ blk 0 dk a (Or.inl h2)]
      rfl
    have := tocmp_any (sortWorld enc W blk 0 n dk os) m oc ob oo bx (x % m) (y % m) (tof l m x) (tof l m y) (by rw [far _ hne1 hbxl]; exact hbx) (Nat.mod_lt _ hm) (Nat.mod_lt _ hm) (by rw [far _ hne2 hob]; exact hto x) (by rw [far _ hne2 hob]; exact hto y)
    rw [henc] at this ⊢
    refine Calls.mono this fun e w' ⟨he, hw⟩ => ⟨he, 1, #[], ?_⟩
    rw [hw, grow_empty]; rfl
  have hH : Holds enc W blk 0 ow.toArray := fun j hj => by
    have hj' : j < ow.length := by simpa using hj
    refine ⟨?_, by rw [Nat.zero_add]; exact hf j⟩
    rw [Nat.zero_add, hc j (by omega), List.getElem?_map, List.getElem?_eq_getElem hj']
    have e1 : ow.toArray[j]! = ow[j] := by simp [hj']
    rw [e1, henv _ (hv _ (List.getElem_mem hj'))]
    rfl
  have eg : ∀ args w, (callFunc 45 args).run Try.prog w = .ok (.enter 45 args) w := enters_of Try.func45 (by kernel_rfl) rfl
  have hS := Any.slices_SortFunc Try.sortL enc h1 (fun x y => Lib.compareInt (tof l m x) (tof l m y)) (swoT l m) 45 #[.pointer (some ⟨bx, 0, none⟩)] blk 0 dc ow.toArray W eg hcmp hH hblk (by simp; omega)
  have hds : ow.toArray.size = d := by simpa using hd
  rw [hds] at hS
  change Calls Try.prog 44 _ _ _ at hS
  refine hS.mono ?_
  rintro e w' ⟨he, d', n, os, ⟨hp1, -, hp3⟩, hs, hw⟩
  have hsz' : d'.size = d := by rw [hp1, hds]
  have hperm : d'.toList.Perm ow := by
    have e1 : d'.extract 0 d = d' := by rw [← hsz']; simp
    have e2 : ow.toArray.extract 0 d = ow.toArray := by rw [← hds]; simp
    rw [e1, e2] at hp3
    simpa using hp3
  have hlen : d'.toList.length = d := by simpa using hsz'
  have hmem : ∀ k ∈ d'.toList, k < m := fun k hk => hv k (hperm.mem_iff.1 hk)
  refine ⟨he, d'.toList, hperm, ?_, ?_⟩
  · rw [List.pairwise_iff_getElem]
    intro i j hi hj hij p q hp hq
    have h2 := hs i j (Nat.zero_le _) hij (by omega)
    rw [ltT] at h2
    have ei : d'[i]! = d'.toList[i] := by
      rw [getElem!_pos d' i (by omega)]; simp
    have ej : d'[j]! = d'.toList[j] := by
      rw [getElem!_pos d' j (by omega)]; simp
    rw [ei, ej, tof_at (hmem _ (List.getElem_mem hj)) hq, tof_at (hmem _ (List.getElem_mem hi)) hp] at h2
    have := of_decide_eq_false h2
    omega
  · have hw2 : w' = grow ((W.drewN n).setCells blk 0 (d'.toList.map enc)) os := by
      rw [hw]
      have := sorted_world enc W blk 0 n ow.toArray d'.toList os hH (by rw [hlen, hds])
      rw [Array.toArray_toList] at this
      exact this
    have hvs : d'.toList.map enc = d'.toList.map iv := List.map_congr_left fun k hk => henv k (hmem k hk)
    rw [hvs] at hw2
    have hoD : (W.drewN n).ownsRow B 3 1 (.slice (some ⟨blk, 0, none⟩) d dc) d (ow.map iv) := owns_same ho fun _ _ => rfl
    obtain ⟨h3, h4⟩ := own_setCells (d'.toList.map iv) 0 hoD (by rw [List.length_map, hlen]; omega)
    rw [List.length_map, hlen, List.take_zero, List.nil_append, Nat.zero_add, List.drop_of_length_le (by rw [List.length_map, hd]; exact Nat.le_refl _), List.append_nil] at h3
    rw [hw2]
    refine ⟨owns_far h3 (grown_grow _ os) (by simp), ?_⟩
    have hD : W.grownBy (W.drewN n) (some blk) := ⟨rfl, rfl, rfl, Nat.le_refl _, fun _ _ _ => rfl⟩
    exact (hD.trans h4).trans ((grown_grow _ os).but _)
end Go.Proofs.Ytjkoambfecmglaa

namespace Go.Proofs.Ytjkoambfecmglaa
open Go.RowKit
set_option linter.unusedVariables false
set_option linter.unusedSimpArgs false
set_option maxRecDepth 100000
theorem Try.info4 : (Try.prog.info? 4).map (fun i => (i.zero, i.size, i.bytes)) = some (some (.bool false), 1, 1) := by kernel_rfl
theorem run_bools (w : World) {n : Nat} (hn : n ≤ 1099511627776) : (Instr.makeSlice 53 (.int .i64 (n : Int)) (.int .i64 (n : Int))).run Try.prog w = .ok (.slice (some ⟨w.heap.size, 0, none⟩) n n) (w.alloc (.cells (Array.replicate n (Value.bool false)) 4)) := by
  obtain ⟨i0, hi, hz0, hz1, hz2⟩ := info_parts Try.info4
  have h1 := run_make (P := Try.prog) w 53 4 i0 (.bool false) Try.underlying53 hi hz0 .i64 .i64 (n : Int) (n : Int) (by omega) (Int.le_refl _) (by rw [hz2]; omega) (by omega)
  rw [Int.toNat_natCast, hz1] at h1
  rw [h1]
  congr 3
  apply Array.ext_getElem?
  intro k
  rcases Nat.lt_or_ge k n with hk | hk
  · simp [madeCells, Value.cells, hk, Nat.mod_one]
  · rw [Array.getElem?_eq_none (by simp [madeCells]; omega), Array.getElem?_eq_none (by simp; omega)]
/-- what is owed changes, and nothing else of a walk -/
theorem Wm.re {W V : World} {B P m oc n nc pc dc dc' : Nat} {oa na pa wa wa' : Option Addr} {bs : List Nat} {pl : List Bool} {ow ow' : List Nat} (h : Wm W B P oa m oc na n nc bs pa pc pl wa dc ow) (hblk : V.heap[P]? = some (.cells #[.slice oa m oc, .slice na n nc, .slice pa m pc, .slice wa' ow'.length dc'] 61 (0, 0)))
    (hs : ∀ g, g < W.heap.size → g ≠ P → (∀ a, wa = some a → a.block ≠ g) → V.heap[g]? = W.heap[g]?) (hsz : W.heap.size ≤ V.heap.size) (ho : V.ownsRow B 3 1 (.slice wa' ow'.length dc') ow'.length (ow'.map iv)) (hf : ∀ a, wa' = some a → (∃ a0, wa = some a0 ∧ a0.block = a.block) ∨ W.heap.size ≤ a.block) : Wm V B P oa m oc na n nc bs pa pc pl wa' dc' ow' where
  blk := hblk
  hP := h.hP
  now := owns_same h.now fun g e => hs g (owns_in h.now e).2 (fun e2 => h.apN (by rw [e, e2])) (fun a ha e2 => (h.apW a ha).2.1 (by rw [e, e2]))
  bsn := h.bsn
  blt := h.blt
  pld := owns_same h.pld fun g e => hs g (owns_in h.pld e).2 (fun e2 => h.apP (by rw [e, e2])) (fun a ha e2 => (h.apW a ha).2.2.1 (by rw [e, e2]))
  owd := ⟨fun hl => by
    have hl' : 0 < ow'.length := by rcases ow' with _ | ⟨x, t⟩; exact absurd rfl hl; simp
    obtain ⟨g, e, _, hc, _⟩ := own_some ho hl'
    subst e
    refine ⟨g, 0, rfl, fun k hk => ?_⟩
    have hk' : k < ow'.length := by simpa using hk
    rw [Nat.zero_add, hc k hk', List.getElem?_map, List.getElem?_eq_getElem hk']
    simp [iv]⟩
  odc := by
    rcases ho.2 with ⟨h0, h1⟩ | ⟨_, _, _, hv, _, _, h1, _⟩
    · omega
    · simp at hv; omega
  apN := h.apN
  apP := h.apP
  apNP := h.apNP
  apW a e := by
    have hb : a.block < V.heap.size := by
      rcases ho.2 with ⟨h0, h1⟩ | ⟨g, _, _, hv, _, hc, _⟩
      · rw [e] at h0; simp at h0
      · rw [e] at hv
        simp at hv
        obtain ⟨rfl, _⟩ := hv
        exact (Array.getElem?_eq_some_iff.1 hc).1
    rcases hf a e with ⟨a0, h1, h2⟩ | h1
    · obtain ⟨h3, h4, h5, _⟩ := h.apW a0 h1
      rw [h2] at h3 h4 h5
      exact ⟨h3, h4, h5, hb⟩
    · refine ⟨?_, ?_, ?_, hb⟩
      · have := block_lt h.blk; omega
      · intro e2; have := (owns_in h.now e2).2; omega
      · intro e2; have := (owns_in h.pld e2).2; omega
  apO := h.apO
/-- the answered ones below i -/
def owOf (l : List Opv) (i : Nat) : List Nat := (List.range i).filter fun k => match l[k]? with
  | some p => p.ans
  | none => false
theorem owOf_succ {l : List Opv} {i : Nat} {p : Opv} (hp : l[i]? = some p) : owOf l (i + 1) = if p.ans then owOf l i ++ [i] else owOf l i := by
  unfold owOf
  rw [List.range_succ, List.filter_append]
  simp only [List.filter_cons, List.filter_nil, hp]
  split <;> simp
theorem owOf_mem {l : List Opv} {i k : Nat} : k ∈ owOf l i ↔ k < i ∧ ∃ p, l[k]? = some p ∧ p.ans = true := by
  unfold owOf
  rw [List.mem_filter, List.mem_range]
  constructor
  · rintro ⟨h1, h2⟩
    refine ⟨h1, ?_⟩
    cases h : l[k]? with
    | none => rw [h] at h2; cases h2
    | some p => rw [h] at h2; exact ⟨p, rfl, h2⟩
  · rintro ⟨h1, p, h2, h3⟩
    exact ⟨h1, by rw [h2]; exact h3⟩
theorem owOf_len (l : List Opv) (i : Nat) : (owOf l i).length ≤ i := by
  unfold owOf
  have := List.length_filter_le (fun k => match l[k]? with
    | some p => p.ans
    | none => false) (List.range i)
  simpa using this
/-- a walk that begins -/
theorem WkS.start {l : List Opv} {ow : List Nat} (hp : ow.Perm (owOf l l.length)) (hs : ow.Pairwise (fun a b : Nat => ∀ p q : Opv, l[a]? = some p → l[b]? = some q → p.to_ ≤ q.to_)) : WkS l [] (List.replicate l.length false) ow where
  len := by simp
  plk k hk := by simp [List.getElem?_replicate, hk]
  val k hk := (owOf_mem.1 (hp.mem_iff.1 hk)).2
  sorted := hs
  all k p h1 h2 _ := hp.mem_iff.2 (owOf_mem.2 ⟨(List.getElem?_eq_some_iff.1 h1).1, p, h1, h2⟩)
end Go.Proofs.Ytjkoambfecmglaa
