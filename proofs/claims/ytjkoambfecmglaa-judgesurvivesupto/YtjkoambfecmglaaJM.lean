import Derived.Test.YtjkoambfecmglaaJL
import Derived.Test.YtjkoambfecmglaaVSvz
namespace Go.Proofs.Ytjkoambfecmglaa
open Go.RowKit
set_option linter.unusedVariables false
set_option linter.unusedSimpArgs false
set_option maxRecDepth 100000
theorem Sib.meets {p q : Opv} (h : Sib p q) (s : Nat) : q.meets s = p.meets s := by unfold Sib at h; rw [h]; rfl
theorem Sib.sync {p q : Opv} (h : Sib p q) : q.sy = p.sy := by unfold Sib at h; rw [h]
theorem hitAt_sibs {l l2 : List Opv} (h : Sibs l l2) (ord : List Int) (s i : Nat) : hitAt l2 ord s i = hitAt l ord s i := by
  unfold hitAt
  cases ord[i]? with
  | none => rfl
  | some z =>
    show (match l2[z.toNat]? with | some p => p.sy && p.meets s | none => false) = (match l[z.toNat]? with | some p => p.sy && p.meets s | none => false)
    cases hp : l[z.toNat]? with
    | none =>
      have : l.length ≤ z.toNat := List.getElem?_eq_none_iff.1 hp
      rw [List.getElem?_eq_none (by rw [h.len]; exact this)]
    | some p =>
      obtain ⟨q, hq, hs⟩ := h.get hp
      rw [hq]
      show (q.sy && q.meets s) = (p.sy && p.meets s)
      rw [hs.sync, hs.meets]
theorem flr_sibs {l l2 : List Opv} (h : Sibs l l2) (ord : List Int) (s : Nat) : ∀ i, flr l2 ord s i = flr l ord s i
  | 0 => rfl
  | i + 1 => by
    show (if hitAt l2 ord s i then i + 1 else flr l2 ord s i) = (if hitAt l ord s i then i + 1 else flr l ord s i)
    rw [hitAt_sibs h, flr_sibs h ord s i]
theorem Okay.sibs {l l2 : List Opv} (h : Sibs l l2) {dss : List (List Nat)} {ord : List Int} {first after : List Nat} {s i : Nat} (ho : Okay l dss ord first after s i) : Okay l2 dss ord first after s i := by
  obtain ⟨j, h1, h2, bs, h3, h4⟩ := ho
  exact ⟨j, by rw [flr_sibs h]; exact h1, h2, bs, h.folR h3, h4⟩
theorem Follows.sibs {l l2 : List Opv} (h : Sibs l l2) {dss : List (List Nat)} {ord : List Int} {first : List Nat} (ho : Follows l dss ord first) : Follows l2 dss ord first := by
  obtain ⟨bs, h1, h2⟩ := ho
  exact ⟨bs, h.folR h1, by rw [h.len]; exact h.whl h2⟩
theorem SvOut.sibs {l l2 : List Opv} (h : Sibs l l2) {dss : List (List Nat)} {ord : List Int} {first after : List Nat} {n s : Nat} {ok : Bool} {en : Nat} (ho : SvOut l dss ord first after n s ok en) : SvOut l2 dss ord first after n s ok en := by
  have hw := h.wrg n
  rcases ho with ⟨a1, a2, a3, a4⟩ | ⟨a1, a2, a3, a4, a5⟩ | ⟨a1, a2, a3, a4, a5, a6, a7, a8⟩ | ⟨a1, a2, a3, a4, a5, a6, a7⟩
  · exact .inl ⟨by rw [hw]; exact a1, a2, a3, by rw [hw]; exact a4⟩
  · exact .inr (.inl ⟨by rw [hw]; exact a1, a2.imp id (fun h2 h3 => h2 (h3.sibs h.symm)), a3, a4, a5⟩)
  · exact .inr (.inr (.inl ⟨by rw [hw]; exact a1, a2, a3.sibs h, a4, a5, a6, fun h2 => a7 (h2.sibs h.symm), fun j hj => (a8 j hj).sibs h⟩))
  · exact .inr (.inr (.inr ⟨by rw [hw]; exact a1, a2, a3.sibs h, a4, a5, a6, fun j hj => (a7 j hj).sibs h⟩))
set_option maxHeartbeats 16000000 in
/-- the law JudgeSurvives -/
theorem lawSurvives_any (w : World) (fa oa za aa : Option Addr) (n fc m oc d zc an ac : Nat) (first after : List Nat) (l : List Opv) (dss : List (List Nat)) (ord : List Int) (hb : BRow w fa fc first) (hn : first.length = n) (hfc : n ≤ fc) (h : OpsD w oa l dss) (hm : l.length = m) (hs : m ≤ 1048576) (hz : ZRow w za ord) (hd : ord.length = d) (hds : d ≤ 1048576) (hzc : d ≤ zc) (ha : BRow w aa ac after) (han : after.length = an) (hac : an ≤ ac) :
    Calls Try.prog 5 #[.slice fa n fc, .slice oa m oc, .slice za d zc, .slice aa an ac] w fun e w' => e = .returned (.bool true) ∧ Below w.heap.size w w' := by
  have HD : Hid (BRow w fa fc first ∧ first.length = n ∧ OpsD w oa l dss ∧ l.length = m ∧ m ≤ 1048576 ∧ ZRow w za ord ∧ ord.length = d ∧ d ≤ 1048576) := ⟨hb, hn, h, hm, hs, hz, hd, hds⟩
  have HA : Hid (n ≤ fc ∧ d ≤ zc ∧ BRow w aa ac after ∧ after.length = an ∧ an ≤ ac) := ⟨hfc, hzc, ha, han, hac⟩
  have HO1 : Hid _ := ops_any oa m oc l dss w h hm hs
  clear hb hn h hm hs hz hd hds hfc hzc ha han hac
  go_enter Try.func5, Try.ntmps5
  go_wp2_with fail
  refine Calls.mono HO1.out ?_
  rintro e W1 ⟨oa1, oc1, l1, rfl, hb1, hO1, hl1, hs1⟩
  have H1 : Hid (Below w.heap.size w W1 ∧ OpsD W1 oa1 l1 dss ∧ Sibs l l1 ∧ l1.length = m) := ⟨hb1, hO1, ⟨by rw [hl1, HD.out.2.2.2.1], hs1⟩, hl1⟩
  have HSv : Hid _ := survives_any fa oa1 za aa n fc m oc1 d zc an ac first after l1 dss ord W1 (HD.out.1.later hb1) HD.out.2.1 HA.out.1 hO1 hl1 (by have := HD.out.2.2.2.2.1; omega) (HD.out.2.2.2.2.2.1.later hb1) HD.out.2.2.2.2.2.2.1 (by have := HD.out.2.2.2.2.2.2.2; omega) (HA.out.2.2.1.later hb1) HA.out.2.2.2.1 HA.out.2.2.2.2
  clear hb1 hO1 hl1 hs1 HO1
  go_wp2_with fail
  refine Calls.mono HSv.out ?_
  rintro e W2 ⟨s, ok, en, rfl, hout, hb2⟩
  have HB2 : Hid (Below w.heap.size w W2 ∧ Below W1.heap.size W1 W2) := ⟨H1.out.1.trans (hb2.mono H1.out.1.size), hb2⟩
  have HRs : Hid _ := rSurvives_any fa oa za aa n fc m oc d zc an ac first after l dss ord W2 (HD.out.1.later HB2.out.1) HD.out.2.1 (HD.out.2.2.1.later HB2.out.1) HD.out.2.2.2.1 (by have := HD.out.2.2.2.2.1; omega) (HD.out.2.2.2.2.2.1.later HB2.out.1) HD.out.2.2.2.2.2.2.1 (by have := HD.out.2.2.2.2.2.2.2; omega) HA.out.2.1 (HA.out.2.2.1.later HB2.out.1) HA.out.2.2.2.1 HA.out.2.2.2.2
  have HOut : Hid (SvOut l dss ord first after n s ok en) := hout.sibs H1.out.2.2.1.symm
  clear hb2 hout HSv
  go_wp2_with fail
  refine Calls.mono HRs.out ?_
  rintro e W3 ⟨s', ok', en', rfl, hout, hb3⟩
  obtain ⟨rfl, rfl, rfl⟩ := HOut.out.det hout
  have HB3 : Hid (Below w.heap.size w W3 ∧ OpsD W3 oa1 l1 dss) := ⟨HB2.out.1.trans (hb3.mono HB2.out.1.size), (H1.out.2.1.later HB2.out.2).later hb3⟩
  have HSo : Hid _ := sameOps_any oa1 oa m oc1 oc l1 l dss W3 H1.out.2.2.2 HD.out.2.2.2.1 (by have := HD.out.2.2.2.2.1; omega) HB3.out.2 (HD.out.2.2.1.later HB3.out.1) H1.out.2.2.1.symm.sib
  clear hout hb3 HRs
  have n9 : ((en : Int) == (en : Int)) = true := by simp
  have n8 : ((s : Int) == (s : Int)) = true := by simp
  cases ok
  all_goals
    go_wp2_with fail
    refine Calls.mono HSo.out ?_
    rintro e W5 ⟨rfl, hb5⟩
    have HB5 : Hid (Below w.heap.size w W5) := HB3.out.1.trans (hb5.mono HB3.out.1.size)
    clear hb5
    go_wp2_with fail
    refine Calls.mono (heads_any W5) ?_
    rintro e W6 ⟨rfl, hb6⟩
    have HB6 : Hid (Below w.heap.size w W6) := HB5.out.trans (hb6.mono HB5.out.size)
    clear hb6
    go_wp2_with fail
    go_ret
    exact ⟨rfl, HB6.out⟩
end Go.Proofs.Ytjkoambfecmglaa

namespace Go.Proofs.Ytjkoambfecmglaa
open Go.ChangeShapes Go.WideShapes Go.ChangeAt Go.RowKit Go.Lib
open Go.Deep
set_option linter.unusedVariables false
set_option linter.unusedSimpArgs false
set_option maxRecDepth 100000
/-- bytes that were handed in, with their room -/
theorem open_b17c {H : Type} {enc : TypeId × Value → H} {W : World} {base fuel : Nat} {cs : List Value} {d : DataW H} {p : List MemPlace} (hf : DataW.trod enc Try.prog W base (fun _ => true) true fuel 22 cs = some (d, p)) (hb : Rows.uptoBulk d ≤ 1048576) :
    ∃ (ao : Option Addr) (cap : Nat) (l : List Nat), cs = [.slice ao l.length cap] ∧ BRow W ao cap l ∧ l.length ≤ cap := by
  rcases open_ints (show Try.prog.underlying 22 = some (.slice 5) by kernel_rfl) Try.underlying5 (by kernel_rfl) hf with ⟨hcs, hx⟩ | ⟨x, l, c, zs, hcs, _, hl, hm, hz, hx, hcell, hwz⟩
  · exact ⟨none, 0, [], hcs, ⟨by simp, by simp, fun _ => ⟨rfl, rfl⟩, fun h => absurd rfl h⟩, by simp⟩
  · have hd : d = .slice (lits .u8 (zs.take l)) (lits .u8 (zs.drop l)) := (Prod.mk.inj hx).1
    have hz' : zs.length = c := by simpa using hz
    have hsl := bulk_slice (lits (H := H) .u8 (zs.take l)) (lits .u8 (zs.drop l))
    have hs1 := length_le_bulk (lits (H := H) .u8 (zs.take l))
    have hs2 := length_le_bulk (lits (H := H) .u8 (zs.drop l))
    rw [← hd] at hsl
    simp only [lits, List.length_map, List.length_take, List.length_drop] at hsl hs1 hs2
    obtain ⟨m, hm1, hm2⟩ := brow_ints W x l c zs (by omega) (by omega) hcell hwz
    subst hm1
    exact ⟨some x, c, m, hcs, hm2, hl⟩
end Go.Proofs.Ytjkoambfecmglaa
namespace Go.Proofs.Ytjkoambfecmglaa.judgeSurvives
open Go.ChangeShapes Go.WideShapes Go.ChangeAt Go.RowKit Go.Lib
open Go.Deep
set_option linter.unusedVariables false
set_option linter.unusedSimpArgs false
set_option maxRecDepth 100000
theorem contract (H : Type) (enc : TypeId × Value → H) (W : World) (base : Nat) (args : Array Value) (ds gs : List (DataW H)) (before : List MemPlace)
    (hval : ∀ (j : Nat) t v, Try.f5.params[j]? = some t → args[j]? = some v → Value.okWide Try.prog W .any base t v)
    (hW : DataW.Whole enc Try.prog Try.f5.params.toList Rows.judgeSurvivesSpec.vars false W args.toList ds gs before) (hk : Rows.uptoSmall H (ds ++ gs) = true) :
    Calls Try.prog 5 args W fun e W' => ∃ v, e = .returned v ∧ Rows.judgeSurvivesSpec.post enc Try.prog Try.f5 false true false false W args v W' := by
  have hW' := hW
  obtain ⟨p, q, hA0, hV, rfl, hfz, hnd⟩ := hW
  have hA : DataW.TrodAll enc Try.prog W 0 (fun _ => true) true Try.f5.params.toList args.toList ds p := hA0
  rw [Try.params5] at hA hval
  obtain ⟨v0, vs0, d0, ds0, p0, q0, hargs, rfl, rfl, h0, r0⟩ := trodAll_cons hA
  obtain ⟨v1, vs1, d1, ds1, p1, q1, rfl, rfl, rfl, h1, r1⟩ := trodAll_cons r0
  obtain ⟨v2, vs2, d2, ds2, p2, q2, rfl, rfl, rfl, h2, r2⟩ := trodAll_cons r1
  obtain ⟨v3, vs3, d3, ds3, p3, q3, rfl, rfl, rfl, h3, r3⟩ := trodAll_cons r2
  obtain ⟨rfl, rfl, rfl⟩ := trodAll_nil r3
  obtain rfl : args = #[v0, v1, v2, v3] := by cases args; simp_all
  obtain ⟨rfl, rfl⟩ := trodVars_none hV
  have k0 := h0
  have k1 := h1
  have k2 := h2
  have k3 := h3
  have lt0 : ∀ x ∈ p0, x.block < W.heap.size := by obtain ⟨m, hm⟩ := k0; exact DataW.trod_lt m _ _ _ hm
  have lt1 : ∀ x ∈ p1, x.block < W.heap.size := by obtain ⟨m, hm⟩ := k1; exact DataW.trod_lt m _ _ _ hm
  have lt2 : ∀ x ∈ p2, x.block < W.heap.size := by obtain ⟨m, hm⟩ := k2; exact DataW.trod_lt m _ _ _ hm
  have lt3 : ∀ x ∈ p3, x.block < W.heap.size := by obtain ⟨m, hm⟩ := k3; exact DataW.trod_lt m _ _ _ hm
  obtain ⟨ao, len0, cap0, rfl⟩ := okWide_slice (show Try.prog.underlying 22 = some (.slice 5) by kernel_rfl) (hval 0 22 v0 rfl rfl)
  obtain ⟨so, len1, cap1, rfl⟩ := okWide_slice Try.under23 (hval 1 23 v1 rfl rfl)
  obtain ⟨po, len2, cap2, rfl⟩ := okWide_slice (show Try.prog.underlying 24 = some (.slice 3) by kernel_rfl) (hval 2 24 v2 rfl rfl)
  obtain ⟨qo, len3, cap3, rfl⟩ := okWide_slice (show Try.prog.underlying 22 = some (.slice 5) by kernel_rfl) (hval 3 22 v3 rfl rfl)
  have hbd := bulk_bound hk
  simp only [Rows.uptoBulkAll, List.append_nil] at hbd
  have hwalk : Calls Try.prog 5 #[.slice ao len0 cap0, .slice so len1 cap1, .slice po len2 cap2, .slice qo len3 cap3] W fun e w' => e = .returned (.bool true) ∧ Below W.heap.size W w' := by
    obtain ⟨f0, hf0⟩ := h0
    obtain ⟨f1, hf1⟩ := h1
    obtain ⟨f2, hf2⟩ := h2
    obtain ⟨f3, hf3⟩ := h3
    obtain ⟨ao', cap', first, e0, hbr, hbc⟩ := open_b17c hf0 (by omega)
    obtain ⟨so', c1, l, dss, e1, hO, hml⟩ := open_ops17 hf1 (by omega)
    obtain ⟨po', c2, ord, e2, hz, hzc, hdl, hzn⟩ := open_z17 hf2 (by omega)
    obtain ⟨qo', c3, after, e3, har, hac⟩ := open_b17c hf3 (by omega)
    simp [Value.cells] at e0 e1 e2 e3
    obtain ⟨rfl, rfl, rfl⟩ := e0
    obtain ⟨rfl, rfl, rfl⟩ := e1
    obtain ⟨rfl, rfl, rfl⟩ := e2
    obtain ⟨rfl, rfl, rfl⟩ := e3
    exact lawSurvives_any W ao so po qo _ cap0 _ cap1 _ cap2 _ cap3 first after l dss ord hbr rfl hbc hO rfl hml hz rfl hdl hzc har rfl hac
  clear hA0
  refine hwalk.mono fun e W' ⟨he, bel⟩ => ?_
  subst he
  exact ⟨_, rfl, _, _, _, [], _, [], hW', trodAll_mk1 (shut_bool (show Try.prog.underlying 4 = some .bool by kernel_rfl) _), trodAll_cons_mk (Below.trod laidOut (by kernel_rfl) (of_decide_eq_true (by kernel_rfl)) k0 bel lt0) (trodAll_cons_mk (Below.trod laidOut (by kernel_rfl) (of_decide_eq_true (by kernel_rfl)) k1 bel lt1) (trodAll_cons_mk (Below.trod laidOut (by kernel_rfl) (of_decide_eq_true (by kernel_rfl)) k2 bel lt2) (trodAll_cons_mk (Below.trod laidOut (by kernel_rfl) (of_decide_eq_true (by kernel_rfl)) k3 bel lt3) trodAll_mk0))), rfl, bel.frame _, fun h => by cases h⟩

set_option maxRecDepth 100000 in
theorem lifted (os : Os) (started : os.Started) (H : Type) (enc : TypeId × Value → H) (F : Stop.Interp) :
    ReturnsInHanded {} Try.checked os 5 .any ((Rows.OpenSpec.upto Rows.judgeSurvivesSpec).pre6 enc Try.prog Try.f5 Rows.judgeSurvivesUptoRow.domain false) (((Rows.OpenSpec.upto Rows.judgeSurvivesSpec).at F).post enc Try.prog Try.f5 false true false false) := by
  refine returnsInHanded_of_cond (C := Try.checked) (s := Rows.OpenSpec.upto Rows.judgeSurvivesSpec) (k := Rows.uptoSmall) rfl own started (by kernel_rfl) Try.func5
    (OpenSpec.witness (enc := enc) (C := Try.checked) (s := Rows.OpenSpec.upto Rows.judgeSurvivesSpec) (k := Rows.uptoSmall) rfl false ⟨#[], #[.slice none 0 0, .slice none 0 0, .slice none 0 0, .slice none 0 0], []⟩ 8 (by kernel_rfl) (by kernel_rfl) (by kernel_rfl)
      (x := ([.nil, .nil, .nil, .nil], [], [])) (by kernel_rfl) rfl (by kernel_rfl)) ?_
  intro W base args ds gs before hval hW _ hk _
  exact contract H enc W base args ds gs before hval hW hk
end Go.Proofs.Ytjkoambfecmglaa.judgeSurvives
namespace Go.Proofs.Ytjkoambfecmglaa
theorem judgeSurvives_proved : Rows.JudgeSurvivesUptoSaid :=
  OpenClaim.holds_of_cond 5 Try.f5 rfl rfl rfl rfl rfl rfl rfl ⟨rfl, rfl, rfl, rfl, rfl⟩ rfl rfl rfl rfl rfl (by kernel_rfl) Try.func5 (by kernel_rfl)
    (of_decide_eq_true (by kernel_rfl)) (by unfold Func.isWrapper; first | (rw [if_pos (by decide +kernel)]; kernel_rfl) | (rw [if_neg (by decide +kernel)]; exact ⟨rfl, rfl⟩))
    (fun os started H enc _ F => judgeSurvives.lifted os started H enc F)
#print axioms judgeSurvives_proved
end Go.Proofs.Ytjkoambfecmglaa
