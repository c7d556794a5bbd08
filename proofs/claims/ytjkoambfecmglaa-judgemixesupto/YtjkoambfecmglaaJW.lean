import Derived.Test.YtjkoambfecmglaaJL
import Derived.Test.YtjkoambfecmglaaVSvz
import Derived.Deep.Grids
namespace Go.Proofs.Ytjkoambfecmglaa
open Go.RowKit
set_option linter.unusedVariables false
set_option linter.unusedSimpArgs false
set_option maxRecDepth 100000
theorem Sib.meets {p q : Opv} (h : Sib p q) (s : Nat) : q.meets s = p.meets s := by unfold Sib at h; rw [h]; rfl
theorem Sib.sync {p q : Opv} (h : Sib p q) : q.sy = p.sy := by unfold Sib at h; rw [h]
theorem hitAt_sibs {l l2 : List Opv} (h : Sibs l l2) (ord : List Int) (s i : Nat) : hitAt l2 ord s i = hitAt l ord s i := by
  unfold hitAt
  cases ord[i]? with
  | none => rfl
  | some z =>
    show (match l2[z.toNat]? with | some p => p.sy && p.meets s | none => false) = (match l[z.toNat]? with | some p => p.sy && p.meets s | none => false)
    cases hp : l[z.toNat]? with
    | none =>
      have : l.length ≤ z.toNat := List.getElem?_eq_none_iff.1 hp
      rw [List.getElem?_eq_none (by rw [h.len]; exact this)]
    | some p =>
      obtain ⟨q, hq, hs⟩ := h.get hp
      rw [hq]
      show (q.sy && q.meets s) = (p.sy && p.meets s)
      rw [hs.sync, hs.meets]
theorem flr_sibs {l l2 : List Opv} (h : Sibs l l2) (ord : List Int) (s : Nat) : ∀ i, flr l2 ord s i = flr l ord s i
  | 0 => rfl
  | i + 1 => by
    show (if hitAt l2 ord s i then i + 1 else flr l2 ord s i) = (if hitAt l ord s i then i + 1 else flr l ord s i)
    rw [hitAt_sibs h, flr_sibs h ord s i]
theorem Okay.sibs {l l2 : List Opv} (h : Sibs l l2) {dss : List (List Nat)} {ord : List Int} {first after : List Nat} {s i : Nat} (ho : Okay l dss ord first after s i) : Okay l2 dss ord first after s i := by
  obtain ⟨j, h1, h2, bs, h3, h4⟩ := ho
  exact ⟨j, by rw [flr_sibs h]; exact h1, h2, bs, h.folR h3, h4⟩
theorem Follows.sibs {l l2 : List Opv} (h : Sibs l l2) {dss : List (List Nat)} {ord : List Int} {first : List Nat} (ho : Follows l dss ord first) : Follows l2 dss ord first := by
  obtain ⟨bs, h1, h2⟩ := ho
  exact ⟨bs, h.folR h1, by rw [h.len]; exact h.whl h2⟩
theorem SvOut.sibs {l l2 : List Opv} (h : Sibs l l2) {dss : List (List Nat)} {ord : List Int} {first after : List Nat} {n s : Nat} {ok : Bool} {en : Nat} (ho : SvOut l dss ord first after n s ok en) : SvOut l2 dss ord first after n s ok en := by
  have hw := h.wrg n
  rcases ho with ⟨a1, a2, a3, a4⟩ | ⟨a1, a2, a3, a4, a5⟩ | ⟨a1, a2, a3, a4, a5, a6, a7, a8⟩ | ⟨a1, a2, a3, a4, a5, a6, a7⟩
  · exact .inl ⟨by rw [hw]; exact a1, a2, a3, by rw [hw]; exact a4⟩
  · exact .inr (.inl ⟨by rw [hw]; exact a1, a2.imp id (fun h2 h3 => h2 (h3.sibs h.symm)), a3, a4, a5⟩)
  · exact .inr (.inr (.inl ⟨by rw [hw]; exact a1, a2, a3.sibs h, a4, a5, a6, fun h2 => a7 (h2.sibs h.symm), fun j hj => (a8 j hj).sibs h⟩))
  · exact .inr (.inr (.inr ⟨by rw [hw]; exact a1, a2, a3.sibs h, a4, a5, a6, fun j hj => (a7 j hj).sibs h⟩))
set_option maxHeartbeats 16000000 in
/-- the law JudgeSurvives -/
theorem lawSurvives_any (w : World) (fa oa za aa : Option Addr) (n fc m oc d zc an ac : Nat) (first after : List Nat) (l : List Opv) (dss : List (List Nat)) (ord : List Int) (hb : BRow w fa fc first) (hn : first.length = n) (hfc : n ≤ fc) (h : OpsD w oa l dss) (hm : l.length = m) (hs : m ≤ 1048576) (hz : ZRow w za ord) (hd : ord.length = d) (hds : d ≤ 1048576) (hzc : d ≤ zc) (ha : BRow w aa ac after) (han : after.length = an) (hac : an ≤ ac) :
    Calls Try.prog 5 #[.slice fa n fc, .slice oa m oc, .slice za d zc, .slice aa an ac] w fun e w' => e = .returned (.bool true) ∧ Below w.heap.size w w' := by
  have HD : Hid (BRow w fa fc first ∧ first.length = n ∧ OpsD w oa l dss ∧ l.length = m ∧ m ≤ 1048576 ∧ ZRow w za ord ∧ ord.length = d ∧ d ≤ 1048576) := ⟨hb, hn, h, hm, hs, hz, hd, hds⟩
  have HA : Hid (n ≤ fc ∧ d ≤ zc ∧ BRow w aa ac after ∧ after.length = an ∧ an ≤ ac) := ⟨hfc, hzc, ha, han, hac⟩
  have HO1 : Hid _ := ops_any oa m oc l dss w h hm hs
  clear hb hn h hm hs hz hd hds hfc hzc ha han hac
  go_enter Try.func5, Try.ntmps5
  go_wp2_with fail
  refine Calls.mono HO1.out ?_
  rintro e W1 ⟨oa1, oc1, l1, rfl, hb1, hO1, hl1, hs1⟩
  have H1 : Hid (Below w.heap.size w W1 ∧ OpsD W1 oa1 l1 dss ∧ Sibs l l1 ∧ l1.length = m) := ⟨hb1, hO1, ⟨by rw [hl1, HD.out.2.2.2.1], hs1⟩, hl1⟩
  have HSv : Hid _ := survives_any fa oa1 za aa n fc m oc1 d zc an ac first after l1 dss ord W1 (HD.out.1.later hb1) HD.out.2.1 HA.out.1 hO1 hl1 (by have := HD.out.2.2.2.2.1; omega) (HD.out.2.2.2.2.2.1.later hb1) HD.out.2.2.2.2.2.2.1 (by have := HD.out.2.2.2.2.2.2.2; omega) (HA.out.2.2.1.later hb1) HA.out.2.2.2.1 HA.out.2.2.2.2
  clear hb1 hO1 hl1 hs1 HO1
  go_wp2_with fail
  refine Calls.mono HSv.out ?_
  rintro e W2 ⟨s, ok, en, rfl, hout, hb2⟩
  have HB2 : Hid (Below w.heap.size w W2 ∧ Below W1.heap.size W1 W2) := ⟨H1.out.1.trans (hb2.mono H1.out.1.size), hb2⟩
  have HRs : Hid _ := rSurvives_any fa oa za aa n fc m oc d zc an ac first after l dss ord W2 (HD.out.1.later HB2.out.1) HD.out.2.1 (HD.out.2.2.1.later HB2.out.1) HD.out.2.2.2.1 (by have := HD.out.2.2.2.2.1; omega) (HD.out.2.2.2.2.2.1.later HB2.out.1) HD.out.2.2.2.2.2.2.1 (by have := HD.out.2.2.2.2.2.2.2; omega) HA.out.2.1 (HA.out.2.2.1.later HB2.out.1) HA.out.2.2.2.1 HA.out.2.2.2.2
  have HOut : Hid (SvOut l dss ord first after n s ok en) := hout.sibs H1.out.2.2.1.symm
  clear hb2 hout HSv
  go_wp2_with fail
  refine Calls.mono HRs.out ?_
  rintro e W3 ⟨s', ok', en', rfl, hout, hb3⟩
  obtain ⟨rfl, rfl, rfl⟩ := HOut.out.det hout
  have HB3 : Hid (Below w.heap.size w W3 ∧ OpsD W3 oa1 l1 dss) := ⟨HB2.out.1.trans (hb3.mono HB2.out.1.size), (H1.out.2.1.later HB2.out.2).later hb3⟩
  have HSo : Hid _ := sameOps_any oa1 oa m oc1 oc l1 l dss W3 H1.out.2.2.2 HD.out.2.2.2.1 (by have := HD.out.2.2.2.2.1; omega) HB3.out.2 (HD.out.2.2.1.later HB3.out.1) H1.out.2.2.1.symm.sib
  clear hout hb3 HRs
  have n9 : ((en : Int) == (en : Int)) = true := by simp
  have n8 : ((s : Int) == (s : Int)) = true := by simp
  cases ok
  all_goals
    go_wp2_with fail
    refine Calls.mono HSo.out ?_
    rintro e W5 ⟨rfl, hb5⟩
    have HB5 : Hid (Below w.heap.size w W5) := HB3.out.1.trans (hb5.mono HB3.out.1.size)
    clear hb5
    go_wp2_with fail
    refine Calls.mono (heads_any W5) ?_
    rintro e W6 ⟨rfl, hb6⟩
    have HB6 : Hid (Below w.heap.size w W6) := HB5.out.trans (hb6.mono HB5.out.size)
    clear hb6
    go_wp2_with fail
    go_ret
    exact ⟨rfl, HB6.out⟩
end Go.Proofs.Ytjkoambfecmglaa

namespace Go.Proofs.Ytjkoambfecmglaa
open Go.ChangeShapes Go.WideShapes Go.ChangeAt Go.RowKit Go.Lib
open Go.Deep
set_option linter.unusedVariables false
set_option linter.unusedSimpArgs false
set_option maxRecDepth 100000
/-- bytes that were handed in, with their room -/
theorem open_b17c {H : Type} {enc : TypeId × Value → H} {W : World} {base fuel : Nat} {cs : List Value} {d : DataW H} {p : List MemPlace} (hf : DataW.trod enc Try.prog W base (fun _ => true) true fuel 22 cs = some (d, p)) (hb : Rows.uptoBulk d ≤ 1048576) :
    ∃ (ao : Option Addr) (cap : Nat) (l : List Nat), cs = [.slice ao l.length cap] ∧ BRow W ao cap l ∧ l.length ≤ cap := by
  rcases open_ints (show Try.prog.underlying 22 = some (.slice 5) by kernel_rfl) Try.underlying5 (by kernel_rfl) hf with ⟨hcs, hx⟩ | ⟨x, l, c, zs, hcs, _, hl, hm, hz, hx, hcell, hwz⟩
  · exact ⟨none, 0, [], hcs, ⟨by simp, by simp, fun _ => ⟨rfl, rfl⟩, fun h => absurd rfl h⟩, by simp⟩
  · have hd : d = .slice (lits .u8 (zs.take l)) (lits .u8 (zs.drop l)) := (Prod.mk.inj hx).1
    have hz' : zs.length = c := by simpa using hz
    have hsl := bulk_slice (lits (H := H) .u8 (zs.take l)) (lits .u8 (zs.drop l))
    have hs1 := length_le_bulk (lits (H := H) .u8 (zs.take l))
    have hs2 := length_le_bulk (lits (H := H) .u8 (zs.drop l))
    rw [← hd] at hsl
    simp only [lits, List.length_map, List.length_take, List.length_drop] at hsl hs1 hs2
    obtain ⟨m, hm1, hm2⟩ := brow_ints W x l c zs (by omega) (by omega) hcell hwz
    subst hm1
    exact ⟨some x, c, m, hcs, hm2, hl⟩
end Go.Proofs.Ytjkoambfecmglaa
namespace Go.Proofs.Ytjkoambfecmglaa.judgeSurvives
open Go.ChangeShapes Go.WideShapes Go.ChangeAt Go.RowKit Go.Lib
open Go.Deep
set_option linter.unusedVariables false
set_option linter.unusedSimpArgs false
set_option maxRecDepth 100000
theorem contract (H : Type) (enc : TypeId × Value → H) (W : World) (base : Nat) (args : Array Value) (ds gs : List (DataW H)) (before : List MemPlace)
    (hval : ∀ (j : Nat) t v, Try.f5.params[j]? = some t → args[j]? = some v → Value.okWide Try.prog W .any base t v)
    (hW : DataW.Whole enc Try.prog Try.f5.params.toList Rows.judgeSurvivesSpec.vars false W args.toList ds gs before) (hk : Rows.uptoSmall H (ds ++ gs) = true) :
    Calls Try.prog 5 args W fun e W' => ∃ v, e = .returned v ∧ Rows.judgeSurvivesSpec.post enc Try.prog Try.f5 false true false false W args v W' := by
  have hW' := hW
  obtain ⟨p, q, hA0, hV, rfl, hfz, hnd⟩ := hW
  have hA : DataW.TrodAll enc Try.prog W 0 (fun _ => true) true Try.f5.params.toList args.toList ds p := hA0
  rw [Try.params5] at hA hval
  obtain ⟨v0, vs0, d0, ds0, p0, q0, hargs, rfl, rfl, h0, r0⟩ := trodAll_cons hA
  obtain ⟨v1, vs1, d1, ds1, p1, q1, rfl, rfl, rfl, h1, r1⟩ := trodAll_cons r0
  obtain ⟨v2, vs2, d2, ds2, p2, q2, rfl, rfl, rfl, h2, r2⟩ := trodAll_cons r1
  obtain ⟨v3, vs3, d3, ds3, p3, q3, rfl, rfl, rfl, h3, r3⟩ := trodAll_cons r2
  obtain ⟨rfl, rfl, rfl⟩ := trodAll_nil r3
  obtain rfl : args = #[v0, v1, v2, v3] := by cases args; simp_all
  obtain ⟨rfl, rfl⟩ := trodVars_none hV
  have k0 := h0
  have k1 := h1
  have k2 := h2
  have k3 := h3
  have lt0 : ∀ x ∈ p0, x.block < W.heap.size := by obtain ⟨m, hm⟩ := k0; exact DataW.trod_lt m _ _ _ hm
  have lt1 : ∀ x ∈ p1, x.block < W.heap.size := by obtain ⟨m, hm⟩ := k1; exact DataW.trod_lt m _ _ _ hm
  have lt2 : ∀ x ∈ p2, x.block < W.heap.size := by obtain ⟨m, hm⟩ := k2; exact DataW.trod_lt m _ _ _ hm
  have lt3 : ∀ x ∈ p3, x.block < W.heap.size := by obtain ⟨m, hm⟩ := k3; exact DataW.trod_lt m _ _ _ hm
  obtain ⟨ao, len0, cap0, rfl⟩ := okWide_slice (show Try.prog.underlying 22 = some (.slice 5) by kernel_rfl) (hval 0 22 v0 rfl rfl)
  obtain ⟨so, len1, cap1, rfl⟩ := okWide_slice Try.under23 (hval 1 23 v1 rfl rfl)
  obtain ⟨po, len2, cap2, rfl⟩ := okWide_slice (show Try.prog.underlying 24 = some (.slice 3) by kernel_rfl) (hval 2 24 v2 rfl rfl)
  obtain ⟨qo, len3, cap3, rfl⟩ := okWide_slice (show Try.prog.underlying 22 = some (.slice 5) by kernel_rfl) (hval 3 22 v3 rfl rfl)
  have hbd := bulk_bound hk
  simp only [Rows.uptoBulkAll, List.append_nil] at hbd
  have hwalk : Calls Try.prog 5 #[.slice ao len0 cap0, .slice so len1 cap1, .slice po len2 cap2, .slice qo len3 cap3] W fun e w' => e = .returned (.bool true) ∧ Below W.heap.size W w' := by
    obtain ⟨f0, hf0⟩ := h0
    obtain ⟨f1, hf1⟩ := h1
    obtain ⟨f2, hf2⟩ := h2
    obtain ⟨f3, hf3⟩ := h3
    obtain ⟨ao', cap', first, e0, hbr, hbc⟩ := open_b17c hf0 (by omega)
    obtain ⟨so', c1, l, dss, e1, hO, hml⟩ := open_ops17 hf1 (by omega)
    obtain ⟨po', c2, ord, e2, hz, hzc, hdl, hzn⟩ := open_z17 hf2 (by omega)
    obtain ⟨qo', c3, after, e3, har, hac⟩ := open_b17c hf3 (by omega)
    simp [Value.cells] at e0 e1 e2 e3
    obtain ⟨rfl, rfl, rfl⟩ := e0
    obtain ⟨rfl, rfl, rfl⟩ := e1
    obtain ⟨rfl, rfl, rfl⟩ := e2
    obtain ⟨rfl, rfl, rfl⟩ := e3
    exact lawSurvives_any W ao so po qo _ cap0 _ cap1 _ cap2 _ cap3 first after l dss ord hbr rfl hbc hO rfl hml hz rfl hdl hzc har rfl hac
  clear hA0
  refine hwalk.mono fun e W' ⟨he, bel⟩ => ?_
  subst he
  exact ⟨_, rfl, _, _, _, [], _, [], hW', trodAll_mk1 (shut_bool (show Try.prog.underlying 4 = some .bool by kernel_rfl) _), trodAll_cons_mk (Below.trod laidOut (by kernel_rfl) (of_decide_eq_true (by kernel_rfl)) k0 bel lt0) (trodAll_cons_mk (Below.trod laidOut (by kernel_rfl) (of_decide_eq_true (by kernel_rfl)) k1 bel lt1) (trodAll_cons_mk (Below.trod laidOut (by kernel_rfl) (of_decide_eq_true (by kernel_rfl)) k2 bel lt2) (trodAll_cons_mk (Below.trod laidOut (by kernel_rfl) (of_decide_eq_true (by kernel_rfl)) k3 bel lt3) trodAll_mk0))), rfl, bel.frame _, fun h => by cases h⟩

set_option maxRecDepth 100000 in
theorem lifted (os : Os) (started : os.Started) (H : Type) (enc : TypeId × Value → H) (F : Stop.Interp) :
    ReturnsInHanded {} Try.checked os 5 .any ((Rows.OpenSpec.upto Rows.judgeSurvivesSpec).pre6 enc Try.prog Try.f5 Rows.judgeSurvivesUptoRow.domain false) (((Rows.OpenSpec.upto Rows.judgeSurvivesSpec).at F).post enc Try.prog Try.f5 false true false false) := by
  refine returnsInHanded_of_cond (C := Try.checked) (s := Rows.OpenSpec.upto Rows.judgeSurvivesSpec) (k := Rows.uptoSmall) rfl own started (by kernel_rfl) Try.func5
    (OpenSpec.witness (enc := enc) (C := Try.checked) (s := Rows.OpenSpec.upto Rows.judgeSurvivesSpec) (k := Rows.uptoSmall) rfl false ⟨#[], #[.slice none 0 0, .slice none 0 0, .slice none 0 0, .slice none 0 0], []⟩ 8 (by kernel_rfl) (by kernel_rfl) (by kernel_rfl)
      (x := ([.nil, .nil, .nil, .nil], [], [])) (by kernel_rfl) rfl (by kernel_rfl)) ?_
  intro W base args ds gs before hval hW _ hk _
  exact contract H enc W base args ds gs before hval hW hk
end Go.Proofs.Ytjkoambfecmglaa.judgeSurvives
namespace Go.Proofs.Ytjkoambfecmglaa
theorem judgeSurvives_proved : Rows.JudgeSurvivesUptoSaid :=
  OpenClaim.holds_of_cond 5 Try.f5 rfl rfl rfl rfl rfl rfl rfl ⟨rfl, rfl, rfl, rfl, rfl⟩ rfl rfl rfl rfl rfl (by kernel_rfl) Try.func5 (by kernel_rfl)
    (of_decide_eq_true (by kernel_rfl)) (by unfold Func.isWrapper; first | (rw [if_pos (by decide +kernel)]; kernel_rfl) | (rw [if_neg (by decide +kernel)]; exact ⟨rfl, rfl⟩))
    (fun os started H enc _ F => judgeSurvives.lifted os started H enc F)
#print axioms judgeSurvives_proved
end Go.Proofs.Ytjkoambfecmglaa

namespace Go.Proofs.Ytjkoambfecmglaa
open Go.RowKit
set_option linter.unusedVariables false
set_option linter.unusedSimpArgs false
set_option maxRecDepth 100000
/-- a row of Booleans -/
structure MRow (W : World) (ao : Option Addr) (l : List Bool) : Prop where
  at_ : l ≠ [] → ∃ b off, ao = some ⟨b, off, none⟩ ∧ ∀ k (hk : k < l.length), W.cell? ⟨b, off + k, none⟩ = some (.bool l[k])
theorem MRow.later {W V : World} {ao : Option Addr} {l : List Bool} (h : MRow W ao l) (hb : Below W.heap.size W V) : MRow V ao l :=
  ⟨fun hl => by obtain ⟨b, off, e, hc⟩ := h.at_ hl; exact ⟨b, off, e, fun k hk => cell_later hb (hc k hk)⟩⟩
/-- some sectors of a, the others of b -/
def mixL (a b : List Nat) (mix : List Bool) (k : Nat) : List Nat := (List.range a.length).map fun j => if j < k ∧ mix.getD (j / 512) false = true then b.getD j 0 else a.getD j 0
theorem mixL_len (a b : List Nat) (mix : List Bool) (k : Nat) : (mixL a b mix k).length = a.length := by simp [mixL]
theorem mixL_get (a b : List Nat) (mix : List Bool) (k j : Nat) : (mixL a b mix k)[j]? = if j < a.length then some (if j < k ∧ mix.getD (j / 512) false = true then b.getD j 0 else a.getD j 0) else none := by
  unfold mixL
  rw [List.getElem?_map]
  by_cases h : j < a.length
  · rw [List.getElem?_range h, if_pos h]; rfl
  · rw [List.getElem?_eq_none (by rw [List.length_range]; omega), if_neg h]; rfl
theorem getD_some {l : List Nat} {j : Nat} (h : j < l.length) : some (l.getD j 0) = l[j]? := by
  rw [List.getD_eq_getElem?_getD, List.getElem?_eq_getElem h]; rfl
theorem mixL_zero (a b : List Nat) (mix : List Bool) : mixL a b mix 0 = a := by
  apply List.ext_getElem?
  intro j
  rw [mixL_get]
  by_cases h : j < a.length
  · rw [if_pos h, if_neg (by omega), getD_some h]
  · rw [if_neg h, List.getElem?_eq_none (by omega)]
theorem mixL_yes {a b : List Nat} {mix : List Bool} {k : Nat} (hk : k < a.length) (hm : mix.getD (k / 512) false = true) : (mixL a b mix k).set k (b.getD k 0) = mixL a b mix (k + 1) := by
  apply List.ext_getElem?
  intro j
  rw [mixL_get]
  by_cases e : k = j
  · subst e
    rw [List.getElem?_set_self (by rw [mixL_len]; exact hk), if_pos hk, if_pos ⟨by omega, hm⟩]
  · rw [List.getElem?_set_ne e, mixL_get]
    by_cases h : j < a.length
    · rw [if_pos h, if_pos h]
      by_cases h2 : j < k ∧ mix.getD (j / 512) false = true
      · rw [if_pos h2, if_pos ⟨by omega, h2.2⟩]
      · rw [if_neg h2, if_neg (fun h3 => h2 ⟨by omega, h3.2⟩)]
    · rw [if_neg h, if_neg h]
theorem mixL_no {a b : List Nat} {mix : List Bool} {k : Nat} (hm : mix.getD (k / 512) false = false) : mixL a b mix k = mixL a b mix (k + 1) := by
  apply List.ext_getElem?
  intro j
  rw [mixL_get, mixL_get]
  by_cases h : j < a.length
  · rw [if_pos h, if_pos h]
    by_cases h2 : j < k ∧ mix.getD (j / 512) false = true
    · rw [if_pos h2, if_pos ⟨by omega, h2.2⟩]
    · have h5 : ¬ (j < k + 1 ∧ mix.getD (j / 512) false = true) := fun h3 => by
        rcases Nat.lt_or_ge j k with h4 | h4
        · exact h2 ⟨h4, h3.2⟩
        · have e : j = k := by omega
          have h6 := h3.2
          rw [e, hm] at h6; cases h6
      rw [if_neg h2, if_neg h5]
  · rw [if_neg h, if_neg h]
theorem mixL_lt {a b : List Nat} {mix : List Bool} {k : Nat} (ha : ∀ x ∈ a, x < 256) (hb : ∀ x ∈ b, x < 256) : ∀ x ∈ mixL a b mix k, x < 256 := by
  have hd : ∀ (l : List Nat) j, (∀ x ∈ l, x < 256) → l.getD j 0 < 256 := fun l j hl => by
    by_cases h : j < l.length
    · rw [List.getD_eq_getElem?_getD, List.getElem?_eq_getElem h]; exact hl _ (List.getElem_mem h)
    · rw [List.getD_eq_getElem?_getD, List.getElem?_eq_none (by omega)]; decide
  intro x hx
  obtain ⟨j, _, rfl⟩ := List.mem_map.1 hx
  split
  · exact hd b j hb
  · exact hd a j ha
theorem mixL_prt {a b : List Nat} {mix : List Bool} (hl : a.length = b.length) (s : Nat) : prt (mixL a b mix a.length) s = if mix.getD s false = true then prt b s else prt a s := by
  have hj : ∀ j, s * 512 ≤ j → j < (s + 1) * 512 → j / 512 = s := fun j h1 h2 => by omega
  by_cases hm : mix.getD s false = true
  · rw [if_pos hm]
    refine prt_congr fun j h1 h2 => ?_
    rw [mixL_get, hj j h1 h2]
    by_cases h : j < a.length
    · rw [if_pos h, if_pos ⟨h, hm⟩, getD_some (by omega)]
    · rw [if_neg h, List.getElem?_eq_none (by omega)]
  · rw [if_neg hm]
    refine prt_congr fun j h1 h2 => ?_
    rw [mixL_get, hj j h1 h2]
    by_cases h : j < a.length
    · rw [if_pos h, if_neg (fun h3 => hm h3.2), getD_some h]
    · rw [if_neg h, List.getElem?_eq_none (by omega)]
/-- of an order that is followed Survives takes what is there behind it -/
theorem SvOut.en0 {l : List Opv} {dss : List (List Nat)} {ord : List Int} {first after : List Nat} {n s : Nat} {ok : Bool} {en : Nat} (h : SvOut l dss ord first after n s ok en) (hw : wrg n l = 0) (ha : after.length = n) (hf : Follows l dss ord first) : en = 0 ∧ ((∀ j, j < secs n → Okay l dss ord first after j ord.length) → ok = true) := by
  rcases h with ⟨a1, _⟩ | ⟨_, a2, _⟩ | ⟨a1, a2, a3, a4, a5, a6, a7, a8⟩ | ⟨a1, a2, a3, a4, a5, a6, a7⟩
  · exact absurd hw a1
  · rcases a2 with h | h
    · exact absurd ha h
    · exact absurd hf h
  · exact ⟨a4, fun h => absurd (h s a6) a7⟩
  · exact ⟨a4, fun _ => a5⟩
theorem SvOut.yes {l : List Opv} {dss : List (List Nat)} {ord : List Int} {first after : List Nat} {n s : Nat} (h : SvOut l dss ord first after n s true 0) : after.length = n ∧ ∀ j, j < secs n → Okay l dss ord first after j ord.length := by
  rcases h with ⟨_, _, a3, _⟩ | ⟨_, _, _, a4, _⟩ | ⟨_, _, _, _, a5, _⟩ | ⟨a1, a2, a3, a4, a5, a6, a7⟩
  · cases a3
  · cases a4
  · cases a5
  · exact ⟨a2, a7⟩
theorem okay_end {l : List Opv} {dss : List (List Nat)} {ord : List Int} {first bs : List Nat} (h : FolR l dss ord first ord.length bs) (s : Nat) : Okay l dss ord first bs s ord.length := ⟨ord.length, flr_le _ _ _ _, Nat.le_refl _, bs, h, rfl⟩
/-- is one of the first i told to be safe? -/
def SyTo (l : List Opv) (ord : List Int) (i : Nat) : Prop := ∃ (j k : Nat) (p : Opv), j < i ∧ ord[j]? = some (k : Int) ∧ l[k]? = some p ∧ p.sy = true
theorem flr_none {l : List Opv} {ord : List Int} (ho : Ordd l ord) (hn : ¬ SyTo l ord ord.length) (s : Nat) : ∀ i, i ≤ ord.length → flr l ord s i = 0
  | 0, _ => rfl
  | i + 1, hi => by
    obtain ⟨k, p, h1, h2⟩ := ho i (by omega)
    have h3 : p.sy = false := by
      cases hsy : p.sy with
      | false => rfl
      | true => exact absurd ⟨i, k, p, by omega, h1, h2, hsy⟩ hn
    rw [flr_no (by rw [hitAt_of h1 h2, h3]; rfl)]
    exact flr_none ho hn s i (by omega)
theorem okay_first {l : List Opv} {dss : List (List Nat)} {ord : List Int} {first : List Nat} (ho : Ordd l ord) (hn : ¬ SyTo l ord ord.length) (s : Nat) : Okay l dss ord first first s ord.length := ⟨0, by rw [flr_none ho hn s _ (Nat.le_refl _)]; exact Nat.le_refl _, Nat.zero_le _, first, .nil, rfl⟩
theorem okay_mix {l : List Opv} {dss : List (List Nat)} {ord : List Int} {first a b : List Nat} {mix : List Bool} {s i : Nat} (hl : a.length = b.length) (ha : Okay l dss ord first a s i) (hb : Okay l dss ord first b s i) : Okay l dss ord first (mixL a b mix a.length) s i := by
  have h := mixL_prt (mix := mix) hl s
  by_cases hm : mix.getD s false = true
  · rw [if_pos hm] at h
    obtain ⟨j, h1, h2, bs, h3, h4⟩ := hb
    exact ⟨j, h1, h2, bs, h3, by rw [h]; exact h4⟩
  · rw [if_neg hm] at h
    obtain ⟨j, h1, h2, bs, h3, h4⟩ := ha
    exact ⟨j, h1, h2, bs, h3, by rw [h]; exact h4⟩
theorem wrap_t {t : Nat} (h : t ≤ 8) : wrap64 (t : Int) = (t : Int) := by unfold wrap64; omega
theorem mix_num {k n : Nat} (hk : k < n) (hn : n ≤ 4096) : ((k : Int)).tdiv 512 = ((k / 512 : Nat) : Int) ∧ k / 512 ≤ 8 := by
  constructor
  · rw [Int.tdiv_eq_ediv_of_nonneg (by omega)]; omega
  · omega
set_option maxHeartbeats 64000000 in
/-- the law JudgeMixes -/
theorem mixes_any (w : World) (fa oa za aa ba ma : Option Addr) (n fc m oc d zc an ac bn bc mn mc : Nat) (first a b : List Nat) (l : List Opv) (dss : List (List Nat)) (ord : List Int) (mix : List Bool) (hb : BRow w fa fc first) (hn : first.length = n) (hfc : n ≤ fc) (h : OpsD w oa l dss) (hm : l.length = m) (hs : m ≤ 1048576) (hz : ZRow w za ord) (hd : ord.length = d) (hds : d ≤ 1048576) (ha : BRow w aa ac a) (han : a.length = an) (hac : an ≤ ac) (hbb : BRow w ba bc b) (hbn : b.length = bn) (hbc : bn ≤ bc) (hmx : MRow w ma mix) (hmn : mix.length = mn) (hms : mn ≤ 1048576) (hab : an ≤ 1048576) :
    Calls Try.prog 8 #[.slice fa n fc, .slice oa m oc, .slice za d zc, .slice aa an ac, .slice ba bn bc, .slice ma mn mc] w fun e w' => e = .returned (.bool true) ∧ Below w.heap.size w w' := by
  have HSv : Hid (∀ (W : World) (aa : Option Addr) (an ac : Nat) (after : List Nat), Below w.heap.size w W → BRow W aa ac after → after.length = an → an ≤ ac → Calls Try.prog 19 #[.slice fa n fc, .slice oa m oc, .slice za d zc, .slice aa an ac] W (SvEnd l dss ord first after n W)) := fun W aa an ac after hW h1 h2 h3 => survives_any fa oa za aa n fc m oc d zc an ac first after l dss ord W (hb.later hW) hn hfc (h.later hW) hm (by omega) (hz.later hW) hd (by omega) h1 h2 h3
  have HFo : Hid _ := follow_any fa oa za n fc m oc d zc first l dss ord w hb hn h hm (by omega) hz hd (by omega)
  have HD : Hid (BRow w fa fc first ∧ first.length = n ∧ n ≤ fc ∧ OpsD w oa l dss ∧ l.length = m ∧ ZRow w za ord ∧ ord.length = d) := ⟨hb, hn, hfc, h, hm, hz, hd⟩
  have HA : Hid (BRow w aa ac a ∧ a.length = an ∧ an ≤ ac ∧ BRow w ba bc b ∧ b.length = bn ∧ bn ≤ bc) := ⟨ha, han, hac, hbb, hbn, hbc⟩
  have HMx : Hid (MRow w ma mix ∧ mix.length = mn) := ⟨hmx, hmn⟩
  clear hb hn hfc h hm hz hd ha han hac hbb hbn hbc hmx hmn
  go_enter Try.func8, Try.ntmps8
  go_wp2_with fail
  refine Calls.mono HFo.out ?_
  rintro e W1 ⟨v, at_, en, rfl, hfo, hnb, hb1⟩
  have HB1 : Hid (Below w.heap.size w W1) := hb1
  by_cases he : en = 0
  · have hcase : wrg n l = 0 ∧ Follows l dss ord first ∧ ∃ bs co cc, FolR l dss ord first ord.length bs ∧ v = .slice co n cc ∧ BRow W1 co cc bs ∧ bs.length = n ∧ n ≤ cc := by
      rcases hfo with ⟨h1, h2, h3, h4⟩ | ⟨h1, i, bs, h2, h3, h4, h5, h6, h7⟩ | ⟨h1, bs, h2, h3, h4, h5, h6⟩ | ⟨h1, bs, co, cc, h2, h3, h4, h5, h6, h7, h8⟩
      · omega
      · omega
      · omega
      · refine ⟨h1, ⟨bs, h2, h3⟩, bs, co, cc, h2, h4, h5, h6, ?_⟩
        rw [h4] at hnb
        exact owns_cap (newb_row hnb h5 h6).1
    obtain ⟨hwr, hfl, bs, co, cc, hbs, rfl, hrow, hbn, hcc⟩ := hcase
    subst he
    have HWr : Hid (wrg n l = 0 ∧ Follows l dss ord first ∧ FolR l dss ord first ord.length bs ∧ Ordd l ord ∧ bs.length = n) := ⟨hwr, hfl, hbs, hbs.ordd, hbn⟩
    have hns : n ≤ 4096 := (wrg_zero hwr).1
    have HS1 : Hid _ := HSv.out W1 co n cc bs hb1 hrow hbn hcc
    clear hfo hnb hb1 HFo hwr hfl hbs hrow hbn hcc
    go_wp2_with fail
    refine Calls.mono HS1.out ?_
    rintro e W2 ⟨s1, ok1, en1, rfl, hout, hb2⟩
    obtain ⟨h1, h2⟩ := hout.en0 HWr.out.1 HWr.out.2.2.2.2 HWr.out.2.1
    have h3 := h2 fun j _ => okay_end HWr.out.2.2.1 j
    subst h1; subst h3
    have HB2 : Hid (Below w.heap.size w W2) := HB1.out.trans (hb2.mono HB1.out.size)
    clear hout h2 hb2 HS1
    go_wp2_with fail
    go_loopw [19, 20] (fun sv iv wr => ∃ (i : Nat) (sy : Bool), i ≤ d ∧ sv = .bool sy ∧ iv = .int .i64 (i : Int) ∧ Hid (Below w.heap.size w wr ∧ (sy = true ↔ SyTo l ord i))) (fun _ iv _ => d - (intOf iv).toNat)
    case atStart => exact ⟨0, false, Nat.zero_le _, rfl, rfl, HB2.out, ⟨(fun h => by cases h), fun ⟨j, _, _, h, _⟩ => by omega⟩⟩
    case round =>
      obtain ⟨i, sy, hi, rfl, rfl, HQ⟩ := hrel
      by_cases hlt : i < d
      · have n9 : decide ((i : Int) < (d : Int)) = true := decide_eq_true (by omega)
        have n9b : decide (i < d) = true := decide_eq_true hlt
        have ii0 : (0 : Int) ≤ (i : Int) := by omega
        have ii9 : (i : Int) < (d : Int) := by omega
        have HIl : Hid (i < d) := hlt
        have hil : i < ord.length := by rw [HD.out.2.2.2.2.2.2]; exact hlt
        obtain ⟨k, p, hq, hp⟩ := HWr.out.2.2.2.1 i hil
        cases sy with
        | true =>
          have HN : Hid (true = true ↔ SyTo l ord (i + 1)) := ⟨fun _ => by
            obtain ⟨j, k, p, h1, h2⟩ := HQ.out.2.1 rfl
            exact ⟨j, k, p, by omega, h2⟩, fun _ => rfl⟩
          clear hq hp hil
          go_wp2_with fail
          go_roundw
          case rel => exact ⟨i + 1, true, HIl.out, rfl, by go_num, HQ.out.1, HN.out⟩
          case measure => have := HIl.out; simp [intOf]; omega
        | false =>
          obtain ⟨zb, zo, e0, hcz⟩ := HD.out.2.2.2.2.2.1.at_ (by rintro rfl; simp at hil)
          subst e0
          have hqe : ord[i] = (k : Int) := (List.getElem?_eq_some_iff.1 hq).2
          have cq : wr.cell? ⟨zb, zo + i, none⟩ = some (.int .i64 (k : Int)) := by rw [← hqe]; exact cell_later HQ.out.1 (hcz i hil)
          obtain ⟨ob, oo, e1, hc⟩ := ops_at (HD.out.2.2.2.1.ops.later HQ.out.1) hp
          subst e1
          have hkm : k < m := by rw [← HD.out.2.2.2.2.1]; exact (List.getElem?_eq_some_iff.1 hp).1
          have kk0 : (0 : Int) ≤ (k : Int) := by omega
          have kk9 : (k : Int) < (m : Int) := by omega
          have c6 : wr.cell? ⟨ob, oo + k * 7 + 6, none⟩ = some (.bool p.sy) := hc 6 _ rfl
          obtain ⟨py, hpy⟩ : ∃ py, p.sy = py := ⟨_, rfl⟩
          have HN : Hid (py = true ↔ SyTo l ord (i + 1)) := by
            constructor
            · intro h; exact ⟨i, k, p, by omega, hq, hp, by rw [hpy]; exact h⟩
            · rintro ⟨j, k2, p2, h1, h2, h3, h4⟩
              rcases Nat.lt_or_ge j i with h5 | h5
              · cases HQ.out.2.2 ⟨j, k2, p2, h5, h2, h3, h4⟩
              · obtain rfl : j = i := by omega
                rw [hq] at h2
                have e := Int.ofNat.inj (Option.some.inj h2)
                subst e
                rw [hp] at h3; cases h3
                rw [← hpy]; exact h4
          rw [hpy] at c6
          clear hc hcz hqe hq hp hil hkm hpy
          go_wp2_with fail
          go_roundw
          case rel => exact ⟨i + 1, py, HIl.out, rfl, by go_num, HQ.out.1, HN.out⟩
          case measure => have := HIl.out; simp [intOf]; omega
      · have n9 : decide ((i : Int) < (d : Int)) = false := decide_eq_false (by omega)
        have n9b : decide (i < d) = false := decide_eq_false hlt
        have HEi : Hid (sy = true ↔ SyTo l ord ord.length) := by
          have e : i = ord.length := by rw [HD.out.2.2.2.2.2.2]; omega
          rw [show Hid _ = (sy = true ↔ SyTo l ord ord.length) from rfl, ← e]; exact HQ.out.2
        have HB3 : Hid (Below w.heap.size w wr) := HQ.out.1
        have HS2 : Hid _ := HSv.out wr fa n fc first HB3.out (HD.out.1.later HB3.out) HD.out.2.1 HD.out.2.2.1
        clear HQ
        obtain ⟨W3, hW3⟩ : ∃ W3, wr = W3 := ⟨_, rfl⟩
        rw [hW3] at HS2 HB3 ⊢
        clear hW3 wr
        go_wp2_with fail
        refine Calls.mono HS2.out ?_
        rintro e W4 ⟨s2, ok2, en2, rfl, hout, hb4⟩
        obtain ⟨h1, h2⟩ := hout.en0 HWr.out.1 HD.out.2.1 HWr.out.2.1
        subst h1
        have hso : sy = false → ok2 = true := fun h => h2 fun j _ => okay_first HWr.out.2.2.2.1 (fun h3 => by rw [HEi.out.2 h3] at h; cases h) j
        have HB4 : Hid (Below w.heap.size w W4) := HB3.out.trans (hb4.mono HB3.out.size)
        have HS3 : Hid _ := HSv.out W4 aa an ac a HB4.out (HA.out.1.later HB4.out) HA.out.2.1 HA.out.2.2.1
        have hgo : (sy = true ∨ (sy = false ∧ ok2 = true)) := by
          cases sy with
          | true => exact .inl rfl
          | false => exact .inr ⟨rfl, hso rfl⟩
        clear hout h2 hb4 HS2 hso
        rcases hgo with rfl | ⟨rfl, rfl⟩
        all_goals
          go_wp2_with fail
          refine Calls.mono HS3.out ?_
          rintro e W5 ⟨s3, ok3, en3, rfl, hout3, hb5⟩
          have HB5 : Hid (Below w.heap.size w W5 ∧ SvOut l dss ord first a n s3 ok3 en3) := ⟨HB4.out.trans (hb5.mono HB4.out.size), hout3⟩
          have HS4 : Hid _ := HSv.out W5 ba bn bc b HB5.out.1 (HA.out.2.2.2.1.later HB5.out.1) HA.out.2.2.2.2.1 HA.out.2.2.2.2.2
          clear hout3 hb5 HS3
          go_wp2_with fail
          refine Calls.mono HS4.out ?_
          rintro e W6 ⟨s4, ok4, en4, rfl, hout4, hb6⟩
          have HB6 : Hid (Below w.heap.size w W6 ∧ SvOut l dss ord first b n s4 ok4 en4) := ⟨HB5.out.1.trans (hb6.mono HB5.out.1.size), hout4⟩
          clear hout4 hb6 HS4
          by_cases h3 : en3 = 0
          · have e3 : ((en3 : Int) != 0) = false := by simp [h3]
            have e3b : ((en3 : Int) == 0) = true := by simp [h3]
            by_cases h4 : en4 = 0
            · have e4 : ((en4 : Int) != 0) = false := by simp [h4]
              have e4b : ((en4 : Int) == 0) = true := by simp [h4]
              cases ok3 with
              | false =>
                go_wp2_with fail
                refine Calls.mono (heads_any W6) ?_
                rintro e W7 ⟨rfl, hb7⟩
                have HB7 : Hid (Below w.heap.size w W7) := HB6.out.1.trans (hb7.mono HB6.out.1.size)
                clear hb7
                go_wp2_with fail
                go_ret
                exact ⟨rfl, HB7.out⟩
              | true =>
                cases ok4 with
                | false =>
                  go_wp2_with fail
                  refine Calls.mono (heads_any W6) ?_
                  rintro e W7 ⟨rfl, hb7⟩
                  have HB7 : Hid (Below w.heap.size w W7) := HB6.out.1.trans (hb7.mono HB6.out.1.size)
                  clear hb7
                  go_wp2_with fail
                  go_ret
                  exact ⟨rfl, HB7.out⟩
                | true =>
                  subst h3
                  subst h4
                  by_cases hab2 : an = bn
                  · have e5 : ((an : Int) != (bn : Int)) = false := by simp [hab2]
                    have HAn : Hid (an = n ∧ bn = n ∧ a.length = b.length ∧ ∀ j, j < secs n → Okay l dss ord first (mixL a b mix a.length) j ord.length) := by
                      have p3 := HB5.out.2.yes
                      have p4 := HB6.out.2.yes
                      refine ⟨by rw [← HA.out.2.1]; exact p3.1, by rw [← HA.out.2.2.2.2.1]; exact p4.1, by rw [p3.1, p4.1], fun j hj => okay_mix (by rw [p3.1, p4.1]) (p3.2 j hj) (p4.2 j hj)⟩
                    have HCp : Hid _ := copy_any aa ac an a W6 (HA.out.1.later HB6.out.1) HA.out.2.1
                    have HAb : Hid (an = bn) := hab2
                    have han4 : an ≤ 4096 := by have := HAn.out.1; omega
                    clear hab2
                    go_wp2_with fail
                    refine Calls.mono HCp.out ?_
                    rintro e W7 ⟨ca, kc, rfl, -, ho7, hb7⟩
                    have HB7 : Hid (Below w.heap.size w W7 ∧ W7.ownsRow W6.heap.size 5 1 (.slice ca an kc) an (a.map bv)) := ⟨HB6.out.1.trans (hb7.mono HB6.out.1.size), ho7⟩
                    clear ho7 hb7 HCp
                    go_wp2_with fail
                    go_loopw [31] (fun kv wr => ∃ k : Nat, k ≤ an ∧ kv = .int .i64 (k : Int) ∧ Hid (Below w.heap.size w wr ∧ wr.ownsRow W6.heap.size 5 1 (.slice ca an kc) an ((mixL a b mix k).map bv))) (fun kv _ => an - (intOf kv).toNat)
                    case atStart => exact ⟨0, Nat.zero_le _, rfl, HB7.out.1, by rw [mixL_zero]; exact HB7.out.2⟩
                    case round =>
                      clear hs hds hms hab hns hi e3 e3b e4 e4b e5
                      obtain ⟨k, hk, rfl, HQ⟩ := hrel
                      by_cases hlk : k < an
                      · have n9 : decide ((k : Int) < (an : Int)) = true := decide_eq_true (by omega)
                        have n9b : decide (k < an) = true := decide_eq_true hlk
                        have hlk2 : k < bn := by have := HAb.out; omega
                        have n8b : decide (k < bn) = true := decide_eq_true hlk2
                        have n8 : decide ((k : Int) < (bn : Int)) = true := decide_eq_true (by have := HAb.out; omega)
                        have kk0 : (0 : Int) ≤ (k : Int) := by omega
                        have kk9 : (k : Int) < (an : Int) := by omega
                        have kk8 : (k : Int) < (bn : Int) := by have := HAb.out; omega
                        have HQ12 : Hid _ := mix_num hlk han4
                        obtain ⟨g, eg, hgB, hcell, hfr⟩ := own_some HQ.out.2 (by omega)
                        subst eg
                        have HLk : Hid (k < an ∧ W6.heap.size ≤ g) := ⟨hlk, hgB⟩
                        have hkb : k < b.length := by rw [HA.out.2.2.2.2.1]; have := HAb.out; omega
                        obtain ⟨bb, bo, eb, hcb⟩ := HA.out.2.2.2.1.at_ (by rintro rfl; simp at hkb)
                        subst eb
                        have cb : wr.cell? ⟨bb, bo + k, none⟩ = some (.int .u8 ((b.getD k 0 : Nat) : Int)) := by
                          have h5 := cell_later HQ.out.1 (hcb k hkb)
                          rw [h5, List.getD_eq_getElem?_getD, List.getElem?_eq_getElem hkb]; rfl
                        obtain ⟨y, hy⟩ : ∃ y, b.getD k 0 = y := ⟨_, rfl⟩
                        have HYy : Hid (b.getD k 0 = y) := hy
                        rw [hy] at cb
                        have hml : (mixL a b mix k).length = an := by rw [mixL_len]; exact HA.out.2.1
                        obtain ⟨z, hz⟩ : ∃ z, (mixL a b mix k)[k]? = some z := ⟨_, List.getElem?_eq_getElem (by omega)⟩
                        have cg : wr.cell? ⟨g, k, none⟩ = some (.int .u8 (z : Int)) := by rw [hcell k hlk, List.getElem?_map, hz]; rfl
                        have fg : wr.frozen? ⟨g, k, none⟩ = false := hfr k
                        obtain ⟨t, ht⟩ : ∃ t, k / 512 = t := ⟨_, rfl⟩
                        rw [ht] at HQ12
                        have q2 : t ≤ 8 := HQ12.out.2
                        have HQ3 : Hid (wrap64 (t : Int) = (t : Int)) := wrap_t q2
                        have q4 : (0 : Int) ≤ (t : Int) := by omega
                        have HSt : Hid (wr.ownsRow W6.heap.size 5 1 (.slice (some ⟨g, 0, none⟩) an kc) an ((mixL a b mix k).map bv)) := HQ.out.2
                        clear hcell hfr hcb hkb hz hml hy hgB
                        by_cases htm : t < mn
                        · have n7 : decide ((t : Int) < (mn : Int)) = true := decide_eq_true (by omega)
                          have n7b : decide (t < mn) = true := decide_eq_true htm
                          have n6 : (t : Int) < (mn : Int) := by omega
                          have htl : t < mix.length := by rw [HMx.out.2]; exact htm
                          obtain ⟨mb, mo, em, hcm⟩ := HMx.out.1.at_ (by rintro rfl; simp at htl)
                          subst em
                          obtain ⟨x, hx⟩ : ∃ x, mix[t] = x := ⟨_, rfl⟩
                          have cm : wr.cell? ⟨mb, mo + t, none⟩ = some (.bool x) := by rw [← hx]; exact cell_later HQ.out.1 (hcm t htl)
                          have HXx : Hid (mix.getD (k / 512) false = x) := by
                            show _ = _
                            rw [ht, List.getD_eq_getElem?_getD, List.getElem?_eq_getElem htl]; exact hx
                          clear hcm htl hx ht
                          cases x with
                          | true =>
                            have HNx : Hid (Below w.heap.size w (wr.setCell ⟨g, k, none⟩ (.int .u8 (y : Int))) ∧ (wr.setCell ⟨g, k, none⟩ (.int .u8 (y : Int))).ownsRow W6.heap.size 5 1 (.slice (some ⟨g, 0, none⟩) an kc) an ((mixL a b mix (k + 1)).map bv)) := by
                              refine ⟨HQ.out.1.setCell (p := ⟨g, k, none⟩) (Nat.le_trans HB6.out.1.size HLk.out.2) _, ?_⟩
                              have h5 := own_set HSt.out (.int .u8 (y : Int)) HLk.out.1
                              rw [← mixL_yes (by rw [HA.out.2.1]; exact HLk.out.1) HXx.out, HYy.out, List.map_set]
                              exact h5
                            have q1 := HQ12.out.1
                            have q3 := HQ3.out
                            go_wp2_with fail
                            go_roundw
                            case rel => exact ⟨k + 1, HLk.out.1, by go_num, HNx.out⟩
                            case measure => clear q1 q3; have := HLk.out.1; simp [intOf]; omega
                          | false =>
                            have HNx : Hid (Below w.heap.size w wr ∧ wr.ownsRow W6.heap.size 5 1 (.slice (some ⟨g, 0, none⟩) an kc) an ((mixL a b mix (k + 1)).map bv)) := by
                              refine ⟨HQ.out.1, ?_⟩
                              rw [← mixL_no HXx.out]; exact HSt.out
                            have q1 := HQ12.out.1
                            have q3 := HQ3.out
                            go_wp2_with fail
                            go_roundw
                            case rel => exact ⟨k + 1, HLk.out.1, by go_num, HNx.out⟩
                            case measure => clear q1 q3; have := HLk.out.1; simp [intOf]; omega
                        · have n7 : decide ((t : Int) < (mn : Int)) = false := decide_eq_false (by omega)
                          have n7b : decide (t < mn) = false := decide_eq_false htm
                          have HNx : Hid (Below w.heap.size w wr ∧ wr.ownsRow W6.heap.size 5 1 (.slice (some ⟨g, 0, none⟩) an kc) an ((mixL a b mix (k + 1)).map bv)) := by
                            refine ⟨HQ.out.1, ?_⟩
                            have h5 : mix.getD (k / 512) false = false := by
                              rw [ht, List.getD_eq_getElem?_getD, List.getElem?_eq_none (by rw [HMx.out.2]; omega)]; rfl
                            rw [← mixL_no h5]; exact HSt.out
                          clear ht
                          have q1 := HQ12.out.1
                          have q3 := HQ3.out
                          go_wp2_with fail
                          go_roundw
                          case rel => exact ⟨k + 1, HLk.out.1, by go_num, HNx.out⟩
                          case measure => clear q1 q3; have := HLk.out.1; simp [intOf]; omega
                      · have n9 : decide ((k : Int) < (an : Int)) = false := decide_eq_false (by omega)
                        have n9b : decide (k < an) = false := decide_eq_false hlk
                        have HKe : Hid (k = a.length) := by show _ = _; rw [HA.out.2.1]; omega
                        have HBr : Hid (BRow wr ca kc (mixL a b mix a.length) ∧ (mixL a b mix a.length).length = an ∧ an ≤ kc) := by
                          have h5 := HQ.out.2
                          rw [HKe.out] at h5
                          have h6 : (mixL a b mix a.length).length = an := by rw [mixL_len]; exact HA.out.2.1
                          exact ⟨brow_own h5 h6 (mixL_lt HA.out.1.lt HA.out.2.2.2.1.lt) (by omega), h6, owns_cap h5⟩
                        have HS5 : Hid _ := HSv.out wr ca an kc (mixL a b mix a.length) HQ.out.1 HBr.out.1 HBr.out.2.1 HBr.out.2.2
                        go_wp2_with fail
                        refine Calls.mono HS5.out ?_
                        rintro e W8 ⟨s5, ok5, en5, rfl, hout5, hb8⟩
                        obtain ⟨h1, h2⟩ := hout5.en0 HWr.out.1 (by rw [HBr.out.2.1]; exact HAn.out.1) HWr.out.2.1
                        have h3 := h2 HAn.out.2.2.2
                        subst h1; subst h3
                        have HB8 : Hid (Below w.heap.size w W8) := HQ.out.1.trans (hb8.mono HQ.out.1.size)
                        clear hout5 h2 hb8 HS5
                        go_wp2_with fail
                        refine Calls.mono (heads_any W8) ?_
                        rintro e W9 ⟨rfl, hb9⟩
                        have HB9 : Hid (Below w.heap.size w W9) := HB8.out.trans (hb9.mono HB8.out.size)
                        clear hb9
                        go_wp2_with fail
                        go_ret
                        exact ⟨rfl, HB9.out⟩
                  · have e5 : ((an : Int) != (bn : Int)) = true := by rw [bne_iff_ne]; omega
                    have e6 : ((an : Int) == (bn : Int)) = false := by rw [beq_eq_false_iff_ne]; omega
                    clear hab2
                    go_wp2_with fail
                    refine Calls.mono (heads_any W6) ?_
                    rintro e W7 ⟨rfl, hb7⟩
                    have HB7 : Hid (Below w.heap.size w W7) := HB6.out.1.trans (hb7.mono HB6.out.1.size)
                    clear hb7
                    go_wp2_with fail
                    go_ret
                    exact ⟨rfl, HB7.out⟩
            · have e4 : ((en4 : Int) != 0) = true := by rw [bne_iff_ne]; omega
              have e4b : ((en4 : Int) == 0) = false := by rw [beq_eq_false_iff_ne]; omega
              clear h3 h4
              go_wp2_with fail
              refine Calls.mono (heads_any W6) ?_
              rintro e W7 ⟨rfl, hb7⟩
              have HB7 : Hid (Below w.heap.size w W7) := HB6.out.1.trans (hb7.mono HB6.out.1.size)
              clear hb7
              go_wp2_with fail
              go_ret
              exact ⟨rfl, HB7.out⟩
          · have e3 : ((en3 : Int) != 0) = true := by rw [bne_iff_ne]; omega
            have e3b : ((en3 : Int) == 0) = false := by rw [beq_eq_false_iff_ne]; omega
            clear h3
            go_wp2_with fail
            refine Calls.mono (heads_any W6) ?_
            rintro e W7 ⟨rfl, hb7⟩
            have HB7 : Hid (Below w.heap.size w W7) := HB6.out.1.trans (hb7.mono HB6.out.1.size)
            clear hb7
            go_wp2_with fail
            go_ret
            exact ⟨rfl, HB7.out⟩
  · have n5 : (en == 0) = false := by simp [he]
    have n6 : (en != 0) = true := by simp [he]
    clear he hfo hnb
    go_wp2_with fail
    refine Calls.mono (heads_any W1) ?_
    rintro e W3 ⟨rfl, hz3⟩
    have HZ3 : Hid (Below w.heap.size w W3) := HB1.out.trans (hz3.mono HB1.out.size)
    clear hz3
    go_wp2_with fail
    go_ret
    exact ⟨rfl, HZ3.out⟩
end Go.Proofs.Ytjkoambfecmglaa

namespace Go.Proofs.Ytjkoambfecmglaa
open Go.ChangeShapes Go.WideShapes Go.ChangeAt Go.RowKit Go.Lib
open Go.Deep
set_option linter.unusedVariables false
set_option linter.unusedSimpArgs false
set_option maxRecDepth 100000
/-- Booleans that were handed in -/
theorem open_m17 {H : Type} {enc : TypeId × Value → H} {W : World} {base fuel : Nat} {cs : List Value} {d : DataW H} {p : List MemPlace} (hf : DataW.trod enc Try.prog W base (fun _ => true) true fuel 53 cs = some (d, p)) (hb : Rows.uptoBulk d ≤ 1048576) :
    ∃ (ao : Option Addr) (cap : Nat) (l : List Bool), cs = [.slice ao l.length cap] ∧ MRow W ao l ∧ l.length ≤ 1048576 := by
  rcases open_bools (show Try.prog.underlying 53 = some (.slice 4) by kernel_rfl) (show Try.prog.underlying 4 = some .bool by kernel_rfl) (by kernel_rfl) hf with ⟨hcs, hx⟩ | ⟨a, len, cap, B, hcs, _, hl, hm, hx, hcell⟩
  · exact ⟨none, 0, [], hcs, ⟨fun h => absurd rfl h⟩, by simp⟩
  · have hd : d = .slice ((List.range len).map fun i => .lit (.bool (B i))) ((List.range (cap - len)).map fun j => .lit (.bool (B (len + j)))) := (Prod.mk.inj hx).1
    have hsl := bulk_slice (H := H) ((List.range len).map fun i => .lit (.bool (B i))) ((List.range (cap - len)).map fun j => .lit (.bool (B (len + j))))
    have hs1 := length_le_bulk (H := H) ((List.range len).map fun i => .lit (.bool (B i)))
    rw [← hd] at hsl
    rw [List.length_map, List.length_range] at hs1
    refine ⟨some a, cap, (List.range len).map B, by rw [List.length_map, List.length_range]; exact hcs, ⟨fun hne => ?_⟩, by rw [List.length_map, List.length_range]; omega⟩
    have hpos : 0 < len := by
      rcases Nat.eq_zero_or_pos len with h | h
      · subst h; simp at hne
      · exact h
    obtain ⟨b, off, spot⟩ := a
    have hspot : spot = none := by simpa [Addr.add] using World.cell?_spot (hcell 0 (by omega))
    subst hspot
    refine ⟨b, off, rfl, fun k hk => ?_⟩
    rw [List.length_map, List.length_range] at hk
    have h1 := hcell k (by omega)
    rw [add_plain] at h1
    rw [h1]
    simp
end Go.Proofs.Ytjkoambfecmglaa
namespace Go.Proofs.Ytjkoambfecmglaa.judgeMixes
open Go.ChangeShapes Go.WideShapes Go.ChangeAt Go.RowKit Go.Lib
open Go.Deep
set_option linter.unusedVariables false
set_option linter.unusedSimpArgs false
set_option maxRecDepth 100000
theorem contract (H : Type) (enc : TypeId × Value → H) (W : World) (base : Nat) (args : Array Value) (ds gs : List (DataW H)) (before : List MemPlace)
    (hval : ∀ (j : Nat) t v, Try.f8.params[j]? = some t → args[j]? = some v → Value.okWide Try.prog W .any base t v)
    (hW : DataW.Whole enc Try.prog Try.f8.params.toList Rows.judgeMixesSpec.vars false W args.toList ds gs before) (hk : Rows.uptoSmall H (ds ++ gs) = true) :
    Calls Try.prog 8 args W fun e W' => ∃ v, e = .returned v ∧ Rows.judgeMixesSpec.post enc Try.prog Try.f8 false true false false W args v W' := by
  have hW' := hW
  obtain ⟨p, q, hA0, hV, rfl, hfz, hnd⟩ := hW
  have hA : DataW.TrodAll enc Try.prog W 0 (fun _ => true) true Try.f8.params.toList args.toList ds p := hA0
  rw [Try.params8] at hA hval
  obtain ⟨v0, vs0, d0, ds0, p0, q0, hargs, rfl, rfl, h0, r0⟩ := trodAll_cons hA
  obtain ⟨v1, vs1, d1, ds1, p1, q1, rfl, rfl, rfl, h1, r1⟩ := trodAll_cons r0
  obtain ⟨v2, vs2, d2, ds2, p2, q2, rfl, rfl, rfl, h2, r2⟩ := trodAll_cons r1
  obtain ⟨v3, vs3, d3, ds3, p3, q3, rfl, rfl, rfl, h3, r3⟩ := trodAll_cons r2
  obtain ⟨v4, vs4, d4, ds4, p4, q4, rfl, rfl, rfl, h4, r4⟩ := trodAll_cons r3
  obtain ⟨v5, vs5, d5, ds5, p5, q5, rfl, rfl, rfl, h5, r5⟩ := trodAll_cons r4
  obtain ⟨rfl, rfl, rfl⟩ := trodAll_nil r5
  obtain rfl : args = #[v0, v1, v2, v3, v4, v5] := by cases args; simp_all
  obtain ⟨rfl, rfl⟩ := trodVars_none hV
  have k0 := h0
  have k1 := h1
  have k2 := h2
  have k3 := h3
  have k4 := h4
  have k5 := h5
  have lt0 : ∀ x ∈ p0, x.block < W.heap.size := by obtain ⟨m, hm⟩ := k0; exact DataW.trod_lt m _ _ _ hm
  have lt1 : ∀ x ∈ p1, x.block < W.heap.size := by obtain ⟨m, hm⟩ := k1; exact DataW.trod_lt m _ _ _ hm
  have lt2 : ∀ x ∈ p2, x.block < W.heap.size := by obtain ⟨m, hm⟩ := k2; exact DataW.trod_lt m _ _ _ hm
  have lt3 : ∀ x ∈ p3, x.block < W.heap.size := by obtain ⟨m, hm⟩ := k3; exact DataW.trod_lt m _ _ _ hm
  have lt4 : ∀ x ∈ p4, x.block < W.heap.size := by obtain ⟨m, hm⟩ := k4; exact DataW.trod_lt m _ _ _ hm
  have lt5 : ∀ x ∈ p5, x.block < W.heap.size := by obtain ⟨m, hm⟩ := k5; exact DataW.trod_lt m _ _ _ hm
  obtain ⟨ao, len0, cap0, rfl⟩ := okWide_slice (show Try.prog.underlying 22 = some (.slice 5) by kernel_rfl) (hval 0 22 v0 rfl rfl)
  obtain ⟨so, len1, cap1, rfl⟩ := okWide_slice Try.under23 (hval 1 23 v1 rfl rfl)
  obtain ⟨po, len2, cap2, rfl⟩ := okWide_slice (show Try.prog.underlying 24 = some (.slice 3) by kernel_rfl) (hval 2 24 v2 rfl rfl)
  obtain ⟨qo, len3, cap3, rfl⟩ := okWide_slice (show Try.prog.underlying 22 = some (.slice 5) by kernel_rfl) (hval 3 22 v3 rfl rfl)
  obtain ⟨ro, len4, cap4, rfl⟩ := okWide_slice (show Try.prog.underlying 22 = some (.slice 5) by kernel_rfl) (hval 4 22 v4 rfl rfl)
  obtain ⟨uo, len5, cap5, rfl⟩ := okWide_slice (show Try.prog.underlying 53 = some (.slice 4) by kernel_rfl) (hval 5 53 v5 rfl rfl)
  have hbd := bulk_bound hk
  simp only [Rows.uptoBulkAll, List.append_nil] at hbd
  have hwalk : Calls Try.prog 8 #[.slice ao len0 cap0, .slice so len1 cap1, .slice po len2 cap2, .slice qo len3 cap3, .slice ro len4 cap4, .slice uo len5 cap5] W fun e w' => e = .returned (.bool true) ∧ Below W.heap.size W w' := by
    obtain ⟨f0, hf0⟩ := h0
    obtain ⟨f1, hf1⟩ := h1
    obtain ⟨f2, hf2⟩ := h2
    obtain ⟨f3, hf3⟩ := h3
    obtain ⟨f4, hf4⟩ := h4
    obtain ⟨f5, hf5⟩ := h5
    obtain ⟨ao', cap', first, e0, hbr, hbc⟩ := open_b17c hf0 (by omega)
    obtain ⟨so', c1, l, dss, e1, hO, hml⟩ := open_ops17 hf1 (by omega)
    obtain ⟨po', c2, ord, e2, hz, hzc, hdl, hzn⟩ := open_z17 hf2 (by omega)
    obtain ⟨qo', c3, xa, e3, har, hac⟩ := open_b17c hf3 (by omega)
    obtain ⟨ro', c4, xb, e4, hbr4, hbc4⟩ := open_b17c hf4 (by omega)
    obtain ⟨uo', c5, mix, e5, hmx, hml5⟩ := open_m17 hf5 (by omega)
    have hal : xa.length ≤ 1048576 := by
      rcases open_ints (show Try.prog.underlying 22 = some (.slice 5) by kernel_rfl) Try.underlying5 (by kernel_rfl) hf3 with ⟨hcs, hx⟩ | ⟨x, ll, c, zs, hcs, _, hl, hm, hz9, hx, hcell, hwz⟩
      · rw [hcs] at e3; simp at e3; omega
      · have hd : d3 = .slice (lits .u8 (zs.take ll)) (lits .u8 (zs.drop ll)) := (Prod.mk.inj hx).1
        have hz' : zs.length = c := by simpa using hz9
        have hsl := bulk_slice (H := H) (lits (H := H) .u8 (zs.take ll)) (lits .u8 (zs.drop ll))
        have hs1 := length_le_bulk (H := H) (lits (H := H) .u8 (zs.take ll))
        rw [← hd] at hsl
        simp only [lits, List.length_map, List.length_take, List.length_drop] at hsl hs1
        rw [hcs] at e3
        simp at e3
        omega
    simp [Value.cells] at e0 e1 e2 e3 e4 e5
    obtain ⟨rfl, rfl, rfl⟩ := e0
    obtain ⟨rfl, rfl, rfl⟩ := e1
    obtain ⟨rfl, rfl, rfl⟩ := e2
    obtain ⟨rfl, rfl, rfl⟩ := e3
    obtain ⟨rfl, rfl, rfl⟩ := e4
    obtain ⟨rfl, rfl, rfl⟩ := e5
    exact mixes_any W ao so po qo ro uo _ cap0 _ cap1 _ cap2 _ cap3 _ cap4 _ cap5 first xa xb l dss ord mix hbr rfl hbc hO rfl hml hz rfl hdl har rfl hac hbr4 rfl hbc4 hmx rfl hml5 hal
  clear hA0
  refine hwalk.mono fun e W' ⟨he, bel⟩ => ?_
  subst he
  exact ⟨_, rfl, _, _, _, [], _, [], hW', trodAll_mk1 (shut_bool (show Try.prog.underlying 4 = some .bool by kernel_rfl) _), trodAll_cons_mk (Below.trod laidOut (by kernel_rfl) (of_decide_eq_true (by kernel_rfl)) k0 bel lt0) (trodAll_cons_mk (Below.trod laidOut (by kernel_rfl) (of_decide_eq_true (by kernel_rfl)) k1 bel lt1) (trodAll_cons_mk (Below.trod laidOut (by kernel_rfl) (of_decide_eq_true (by kernel_rfl)) k2 bel lt2) (trodAll_cons_mk (Below.trod laidOut (by kernel_rfl) (of_decide_eq_true (by kernel_rfl)) k3 bel lt3) (trodAll_cons_mk (Below.trod laidOut (by kernel_rfl) (of_decide_eq_true (by kernel_rfl)) k4 bel lt4) (trodAll_cons_mk (Below.trod laidOut (by kernel_rfl) (of_decide_eq_true (by kernel_rfl)) k5 bel lt5) trodAll_mk0))))), rfl, bel.frame _, fun h => by cases h⟩

set_option maxRecDepth 100000 in
theorem lifted (os : Os) (started : os.Started) (H : Type) (enc : TypeId × Value → H) (F : Stop.Interp) :
    ReturnsInHanded {} Try.checked os 8 .any ((Rows.OpenSpec.upto Rows.judgeMixesSpec).pre6 enc Try.prog Try.f8 Rows.judgeMixesUptoRow.domain false) (((Rows.OpenSpec.upto Rows.judgeMixesSpec).at F).post enc Try.prog Try.f8 false true false false) := by
  refine returnsInHanded_of_cond (C := Try.checked) (s := Rows.OpenSpec.upto Rows.judgeMixesSpec) (k := Rows.uptoSmall) rfl own started (by kernel_rfl) Try.func8
    (OpenSpec.witness (enc := enc) (C := Try.checked) (s := Rows.OpenSpec.upto Rows.judgeMixesSpec) (k := Rows.uptoSmall) rfl false ⟨#[], #[.slice none 0 0, .slice none 0 0, .slice none 0 0, .slice none 0 0, .slice none 0 0, .slice none 0 0], []⟩ 8 (by kernel_rfl) (by kernel_rfl) (by kernel_rfl)
      (x := ([.nil, .nil, .nil, .nil, .nil, .nil], [], [])) (by kernel_rfl) rfl (by kernel_rfl)) ?_
  intro W base args ds gs before hval hW _ hk _
  exact contract H enc W base args ds gs before hval hW hk
end Go.Proofs.Ytjkoambfecmglaa.judgeMixes
namespace Go.Proofs.Ytjkoambfecmglaa
theorem judgeMixes_proved : Rows.JudgeMixesUptoSaid :=
  OpenClaim.holds_of_cond 8 Try.f8 rfl rfl rfl rfl rfl rfl rfl ⟨rfl, rfl, rfl, rfl, rfl⟩ rfl rfl rfl rfl rfl (by kernel_rfl) Try.func8 (by kernel_rfl)
    (of_decide_eq_true (by kernel_rfl)) (by unfold Func.isWrapper; first | (rw [if_pos (by decide +kernel)]; kernel_rfl) | (rw [if_neg (by decide +kernel)]; exact ⟨rfl, rfl⟩))
    (fun os started H enc _ F => judgeMixes.lifted os started H enc F)
#print axioms judgeMixes_proved
end Go.Proofs.Ytjkoambfecmglaa
