import Derived.Test.YtjkoambfecmglaaVSrz
import Derived.Test.YtjkoambfecmglaaBulkD
import Derived.WalkKit
import Derived.ProofKit
import Derived.OpenShut
import Derived.ChangeOld
import Derived.SizedLaws
import Derived.JoinedCond
import Derived.Deep.Slices
namespace Go.Proofs.Ytjkoambfecmglaa
open Go.RowKit
set_option linter.unusedVariables false
set_option linter.unusedSimpArgs false
set_option maxRecDepth 100000
set_option maxHeartbeats 16000000 in
theorem rFollow_new (fa oa za : Option Addr) (n fc m oc d zc : Nat) (first : List Nat) (l : List Opv) (dss : List (List Nat)) (ord : List Int) (w : World) (hb : BRow w fa fc first) (hn : first.length = n) (h : OpsD w oa l dss) (hm : l.length = m) (hs : m ≤ 1099511627776) (hz : ZRow w za ord) (hd : ord.length = d) (hds : d ≤ 1099511627776) (hzc : d ≤ zc) :
    Calls Try.prog 12 #[.slice fa n fc, .slice oa m oc, .slice za d zc] w fun e w' => ∃ v at_ en, e = .returned (.tuple #[v, .int .i64 at_, .int .i64 en]) ∧ FolOut l dss ord first n w' v at_ en ∧ NewB w.heap.size w' v ∧ Below w.heap.size w w' := by
  have HW0 : Hid _ := rWrong_any fa oa n fc m oc l w h.ops hm hs
  have HD : Hid (BRow w fa fc first ∧ first.length = n ∧ OpsD w oa l dss ∧ l.length = m ∧ ZRow w za ord ∧ ord.length = d) := ⟨hb, hn, h, hm, hz, hd⟩
  have HNx : Hid (∀ W (i : Nat) (q : Int), Below w.heap.size w W → i ≤ d → Calls Try.prog 29 #[.slice oa m oc, .slice za i zc, .int .i64 q] W fun e w' => ∃ r : Bool, e = .returned (.bool r) ∧ (r = true ↔ MayN l (ord.take i) q) ∧ Below W.heap.size W w') := fun W i q hb9 hi => rNext_all oa za m oc i zc l (ord.take i) q W (h.ops.later hb9) hm hs ((hz.take i).later hb9) (by rw [List.length_take]; omega) (by omega)
  have HWh : Hid (∀ W, Below w.heap.size w W → Calls Try.prog 31 #[.slice oa m oc, .slice za d zc] W fun e w' => ∃ r : Bool, e = .returned (.bool r) ∧ (r = true ↔ Whl l ord m) ∧ Below W.heap.size W w') := fun W hb9 => rWhole_any oa za m oc d zc l ord W (h.ops.later hb9) hm hs (hz.later hb9) hd hds
  have HCp : Hid (∀ W, Below w.heap.size w W → Calls Try.prog 9 #[.slice fa n fc] W fun e w' => ∃ co cc, e = .returned (.slice co n cc) ∧ (BRow w' co cc first ∧ w'.ownsRow W.heap.size 5 1 (.slice co n cc) n (first.map bv)) ∧ W.heap.size ≤ w'.heap.size ∧ Below W.heap.size W w') := fun W hb9 => (copy_any fa fc n first W (hb.later hb9) hn).mono (by rintro e w' ⟨co, cc, e1, h1, h2, h3⟩; exact ⟨co, cc, e1, ⟨h1, h2⟩, h3.size, h3⟩)
  clear hb hn h hm hz hd
  go_enter Try.func12, Try.ntmps12
  go_wp2_with fail
  refine Calls.mono HW0.out ?_
  rintro e W0 ⟨rfl, hb0⟩
  have HB0 : Hid (Below w.heap.size w W0) := hb0
  clear hb0 HW0
  by_cases hw : wrg n l = 0
  · have HWr : Hid (wrg n l = 0) := hw
    have hw' : ((wrg n l : Nat) : Int) = 0 := by rw [hw]; rfl
    rw [hw']
    have HC0 : Hid _ := HCp.out W0 HB0.out
    clear hw hw' HCp
    go_wp2_with fail
    refine Calls.mono HC0.out ?_
    rintro e W1 ⟨co, cc, rfl, hr1, -, hb1⟩
    have HS1 : Hid (Below w.heap.size w W1 ∧ BRow W1 co cc first ∧ W1.ownsRow W0.heap.size 5 1 (.slice co n cc) n (first.map bv)) := ⟨HB0.out.trans (hb1.mono HB0.out.size), hr1⟩
    clear hb1 hr1 HC0
    go_wp2
    go_loopw [10, 11] (fun bv9 iv wr => ∃ (i : Nat) (bs : List Nat) (co : Option Addr) (cc : Nat), i ≤ d ∧ bv9 = .slice co n cc ∧ iv = .int .i64 (i : Int) ∧ Hid (Below w.heap.size w wr ∧ (BRow wr co cc bs ∧ wr.ownsRow w.heap.size 5 1 (.slice co n cc) n (bs.map bv)) ∧ bs.length = n ∧ FolR l dss ord first i bs)) (fun _ iv _ => d - (intOf iv).toNat)
    case atStart => exact ⟨0, first, co, cc, Nat.zero_le _, rfl, rfl, HS1.out.1, ⟨HS1.out.2.1, owns_mono HS1.out.2.2 HB0.out.size⟩, HD.out.2.1, .nil⟩
    case round =>
      obtain ⟨i, bs, co, cc, hi, rfl, rfl, HB⟩ := hrel
      by_cases hlt : i < d
      · have n9 : decide ((i : Int) < (d : Int)) = true := by simp; omega
        have ii0 : (0 : Int) ≤ (i : Int) := by omega
        have ii9 : (i : Int) < (d : Int) := by omega
        have ii8 : (i : Int) ≤ (zc : Int) := by omega
        have ii7 : i ≤ zc := by omega
        have hil : i < ord.length := by rw [HD.out.2.2.2.2.2]; exact hlt
        obtain ⟨zb, zo, e0, hc⟩ := HD.out.2.2.2.2.1.at_ (by rintro rfl; simp at hil)
        subst e0
        obtain ⟨q, hq⟩ : ∃ q, ord[i] = q := ⟨_, rfl⟩
        have HQ : Hid (ord[i]? = some q) := by show _ = _; rw [List.getElem?_eq_getElem hil, hq]
        have HC : Hid (∀ V, Below w.heap.size w V → V.cell? ⟨zb, zo + i, none⟩ = some (.int .i64 q)) := fun V hV => by rw [← hq]; exact cell_later hV (hc i hil)
        have cq := HC.out wr HB.out.1
        have HBd : Hid (Below w.heap.size w wr.drew) := HB.out.1.trans (⟨rfl, rfl, rfl, Nat.le_refl _, fun _ _ => rfl⟩)
        have HN : Hid _ := HNx.out wr.drew i q HBd.out hi
        clear hc hq
        go_wp2
        go_region_held3 (fun w' => w'.cell? ⟨zb, zo + i, none⟩ = some (.int .i64 q)) (first | exact HC.out _ HB2.out | go_keep) (first | (go_at_call 29; refine Calls.mono HN.out ?_; rintro e W2 ⟨r, rfl, hr, hb2⟩; have HR : Hid (r = true ↔ MayN l (ord.take i) q) := hr; have HB2 : Hid (Below w.heap.size w W2) := HBd.out.trans (hb2.mono HBd.out.size); have HB2b : Hid (Below wr.heap.size wr W2) := (⟨rfl, rfl, rfl, Nat.le_refl _, fun _ _ => rfl⟩ : Below wr.heap.size wr wr.drew).trans hb2; clear hb2 hr))
        clear HN cq HNx
        cases r with
        | false =>
          have HF : Hid (∀ k p ds, ¬ Goes l dss ord bs i k p ds) := fun k p ds hg => by
            have := HR.out.2 (hg.mayN HQ.out).1
            cases this
          go_wp2
          go_ret3
          exact ⟨_, _, _, rfl, .inr (.inl ⟨HWr.out, i, bs, HB.out.2.2.2, hil, HF.out, rfl, rfl, rfl⟩), NewB.none _ _, HB2.out⟩
        | true =>
          obtain ⟨hnm, k, p, hqk, hk, hnx⟩ := HR.out.1 rfl
          subst hqk
          have hkl := (List.getElem?_eq_some_iff.1 hk).1
          have hkm : k < m := by rw [← HD.out.2.2.2.1]; exact hkl
          obtain ⟨ob, oo, e1, hc⟩ := HD.out.2.2.1.ops.at_ (by rintro rfl; simp at hkl)
          subst e1
          have hpk := (List.getElem?_eq_some_iff.1 hk).2
          have hc2 := hc k hkl
          rw [hpk] at hc2
          have c0 : W2.cell? ⟨ob, oo + k * 7, none⟩ = some (.int .i64 p.k) := cell_later HB2.out (hc2 0 _ rfl)
          have c1 : W2.cell? ⟨ob, oo + k * 7 + 1, none⟩ = some (.int .i64 p.fr) := cell_later HB2.out (hc2 1 _ rfl)
          have c2 : W2.cell? ⟨ob, oo + k * 7 + 2, none⟩ = some (.int .i64 p.to_) := cell_later HB2.out (hc2 2 _ rfl)
          have c3 : W2.cell? ⟨ob, oo + k * 7 + 3, none⟩ = some (.int .i64 p.off) := cell_later HB2.out (hc2 3 _ rfl)
          have c4 : W2.cell? ⟨ob, oo + k * 7 + 4, none⟩ = some (.int .i64 p.len) := cell_later HB2.out (hc2 4 _ rfl)
          have c5 : W2.cell? ⟨ob, oo + k * 7 + 5, none⟩ = some (.slice p.da p.n p.dc) := cell_later HB2.out (hc2 5 _ rfl)
          have c6 : W2.cell? ⟨ob, oo + k * 7 + 6, none⟩ = some (.bool p.sy) := cell_later HB2.out (hc2 6 _ rfl)
          have cq := HC.out W2 HB2.out
          have kk0 : (0 : Int) ≤ (k : Int) := by omega
          have kk9 : (k : Int) < (m : Int) := by omega
          obtain ⟨ds, hds9⟩ : ∃ ds, dss[k]? = some ds := ⟨_, List.getElem?_eq_getElem (by rw [HD.out.2.2.1.len]; exact hkl)⟩
          have HK : Hid (¬ (k : Int) ∈ ord.take i ∧ l[k]? = some p ∧ dss[k]? = some ds ∧ Nxt l (ord.take i) p l.length) := ⟨hnm, hk, hds9, hnx⟩
          have hrow := HD.out.2.2.1.row k p ds hk hds9
          have HPl : Hid _ := rPlay_any co cc n p bs ds W2 (HB.out.2.1.1.later ((HB2b).out)) HB.out.2.2.1 (hrow.1.later HB2.out) hrow.2 ((wrg_zero HWr.out).2 k p hk) (wrg_zero HWr.out).1
          clear hc hc2 hpk hnm hk hnx hrow hds9
          go_wp2_with fail
          refine Calls.mono HPl.out ?_
          rintro e W3 ⟨co3, cc3, b3, bs3, rfl, hb3, hbs3, hl3, hr3, ho3, hbl3⟩
          have HB3 : Hid (Below w.heap.size w W3 ∧ (BRow W3 co3 cc3 bs3 ∧ W3.ownsRow w.heap.size 5 1 (.slice co3 n cc3) n (bs3.map bv)) ∧ bs3.length = n ∧ b3 = p.fit bs ds ∧ (b3 = true → bs3 = p.eff bs ds)) := ⟨HB2.out.trans (hbl3.mono HB2.out.size), ⟨hr3, owns_mono ho3 HB2.out.size⟩, hl3, hb3, hbs3⟩
          clear hb3 hbs3 hl3 hr3 ho3 hbl3 HPl c0 c1 c2 c3 c4 c5 c6 cq
          cases b3 with
          | false =>
            have HF : Hid (∀ k p ds, ¬ Goes l dss ord bs i k p ds) := fun k' p' ds' hg => by
              have e1 := (hg.mayN HQ.out).2
              have e2 := Int.ofNat.inj e1
              subst e2
              obtain ⟨_, _, h3, h4, _, h6⟩ := hg
              rw [HK.out.2.1] at h3; rw [HK.out.2.2.1] at h4
              cases h3; cases h4
              rw [← HB3.out.2.2.2.1] at h6
              cases h6
            go_wp2
            go_ret3
            exact ⟨_, _, _, rfl, .inr (.inl ⟨HWr.out, i, bs, HB.out.2.2.2, hil, HF.out, rfl, rfl, rfl⟩), NewB.none _ _, HB3.out.1⟩
          | true =>
            have HG : Hid (FolR l dss ord first (i + 1) bs3) := by
              rw [show Hid (FolR l dss ord first (i + 1) bs3) = FolR l dss ord first (i + 1) bs3 from rfl, HB3.out.2.2.2.2 rfl]
              exact .step HB.out.2.2.2 ⟨HQ.out, HK.out.1, HK.out.2.1, HK.out.2.2.1, HK.out.2.2.2, HB3.out.2.2.2.1.symm⟩
            go_wp2
            go_roundw
            case rel => exact ⟨i + 1, bs3, co3, cc3, by omega, rfl, by go_num, HB3.out.1, HB3.out.2.1, HB3.out.2.2.1, HG.out⟩
            case measure => simp [intOf]; omega
      · have n9 : decide ((i : Int) < (d : Int)) = false := by simp; omega
        obtain rfl : i = d := by omega
        have HWl : Hid _ := HWh.out wr HB.out.1
        go_wp2_with fail
        refine Calls.mono HWl.out ?_
        rintro e W2 ⟨r, rfl, hr, hb2⟩
        have HB2 : Hid (Below w.heap.size w W2 ∧ (r = true ↔ Whl l ord m) ∧ BRow W2 co cc bs ∧ W2.ownsRow w.heap.size 5 1 (.slice co n cc) n (bs.map bv)) := ⟨HB.out.1.trans (hb2.mono HB.out.1.size), hr, HB.out.2.1.1.later hb2, owns_same HB.out.2.1.2 fun g e => hb2.block _ (owns_in HB.out.2.1.2 e).2⟩
        clear hb2 hr HWl
        have HFl : Hid (FolR l dss ord first ord.length bs) := by
          have := HB.out.2.2.2
          rwa [← HD.out.2.2.2.2.2] at this
        have HLn : Hid ((i : Int) = (ord.length : Int)) := by
          have := HD.out.2.2.2.2.2
          show _ = _
          omega
        cases r with
        | false =>
          have HNW : Hid (¬ Whl l ord l.length) := fun hw => by
            rw [HD.out.2.2.2.1] at hw
            cases HB2.out.2.1.2 hw
          go_wp2
          go_ret3
          exact ⟨_, _, _, rfl, .inr (.inr (.inl ⟨HWr.out, bs, HFl.out, HNW.out, rfl, HLn.out, rfl⟩)), NewB.none _ _, HB2.out.1⟩
        | true =>
          have HYW : Hid (Whl l ord l.length) := by
            show Whl _ _ _
            rw [HD.out.2.2.2.1]; exact HB2.out.2.1.1 rfl
          go_wp2
          go_ret3
          exact ⟨_, _, _, rfl, .inr (.inr (.inr ⟨HWr.out, bs, co, cc, HFl.out, HYW.out, rfl, HB2.out.2.2.1, HB.out.2.2.1, rfl, rfl⟩)), ⟨bs, by rw [HB.out.2.2.1]; exact HB2.out.2.2.2, HB.out.2.1.1.lt, by rw [HB.out.2.2.1]; exact (wrg_zero HWr.out).1⟩, HB2.out.1⟩
  · have hw0 : (((wrg n l : Nat) : Int) != 0) = true := by rw [bne_iff_ne]; omega
    have HWr : Hid (¬ wrg n l = 0) := hw
    obtain ⟨z, hz9⟩ : ∃ z : Int, ((wrg n l : Nat) : Int) = z := ⟨_, rfl⟩
    have HZ : Hid (((wrg n l : Nat) : Int) = z) := hz9
    rw [hz9] at hw0 ⊢
    clear hz9 hw
    go_wp2
    go_ret3
    exact ⟨_, _, _, rfl, .inl ⟨HWr.out, rfl, rfl, HZ.out.symm⟩, NewB.none _ _, HB0.out⟩
end Go.Proofs.Ytjkoambfecmglaa

namespace Go.Proofs.Ytjkoambfecmglaa
open Go.RowKit
set_option linter.unusedVariables false
set_option linter.unusedSimpArgs false
set_option maxRecDepth 100000
/-- the same operations, their data elsewhere -/
structure Sibs (l l2 : List Opv) : Prop where
  len : l2.length = l.length
  sib : ∀ (k : Nat) (p q : Opv), l[k]? = some p → l2[k]? = some q → Sib p q
theorem Sib.symm {p q : Opv} (h : Sib p q) : Sib q p := by
  obtain ⟨k, fr, t, off, len, da, n, dc, sy⟩ := p
  obtain ⟨k2, fr2, t2, off2, len2, da2, n2, dc2, sy2⟩ := q
  unfold Sib at h
  injection h with g1 g2 g3 g4 g5 g6 g7 g8 g9
  simp only at g1 g2 g3 g4 g5 g7 g9
  subst g1 g2 g3 g4 g5 g7 g9
  rfl
theorem Sib.ans {p q : Opv} (h : Sib p q) : q.ans = p.ans := by unfold Sib at h; rw [h]; rfl
theorem Sib.bef {p q a b : Opv} (h : Sib p q) (h2 : Sib a b) : q.bef b = p.bef a := by unfold Sib at h h2; rw [h, h2]; rfl
theorem Sib.may {p q : Opv} (h : Sib p q) (n : Nat) : q.may n = p.may n := by unfold Sib at h; rw [h]; rfl
theorem Sib.fit {p q : Opv} (h : Sib p q) (bs ds : List Nat) : q.fit bs ds = p.fit bs ds := by unfold Sib at h; rw [h]; rfl
theorem Sib.eff {p q : Opv} (h : Sib p q) (bs ds : List Nat) : q.eff bs ds = p.eff bs ds := by unfold Sib at h; rw [h]; rfl
theorem Sibs.symm {l l2 : List Opv} (h : Sibs l l2) : Sibs l2 l := ⟨h.len.symm, fun k p q hp hq => (h.sib k q p hq hp).symm⟩
theorem Sibs.get {l l2 : List Opv} (h : Sibs l l2) {k : Nat} {p : Opv} (hp : l[k]? = some p) : ∃ q, l2[k]? = some q ∧ Sib p q := by
  have hk := (List.getElem?_eq_some_iff.1 hp).1
  have hq : l2[k]? = some (l2[k]'(by rw [h.len]; exact hk)) := List.getElem?_eq_getElem (by rw [h.len]; exact hk)
  exact ⟨_, hq, h.sib k p _ hp hq⟩
theorem Sibs.back {l l2 : List Opv} (h : Sibs l l2) {k : Nat} {q : Opv} (hq : l2[k]? = some q) : ∃ p, l[k]? = some p ∧ Sib p q := by
  obtain ⟨p, h1, h2⟩ := h.symm.get hq
  exact ⟨p, h1, h2.symm⟩
theorem Sibs.wrg {l l2 : List Opv} (h : Sibs l l2) (n : Nat) : wrg n l2 = wrg n l := by
  have e : l2.all (fun o => o.may n) = l.all (fun o => o.may n) := by
    have e2 : l2.map (fun o => o.may n) = l.map (fun o => o.may n) := by
      apply List.ext_getElem?
      intro k
      rw [List.getElem?_map, List.getElem?_map]
      cases hp : l[k]? with
      | none =>
        have : l.length ≤ k := List.getElem?_eq_none_iff.1 hp
        rw [List.getElem?_eq_none (by rw [h.len]; exact this)]
      | some p =>
        obtain ⟨q, hq, hs⟩ := h.get hp
        rw [hq]
        simp [hs.may n]
    have e3 : ∀ l : List Opv, l.all (fun o => o.may n) = (l.map (fun o => o.may n)).all id := fun l => by rw [List.all_map]; rfl
    rw [e3, e3, e2]
  unfold Go.Proofs.Ytjkoambfecmglaa.wrg
  rw [e]
theorem Sibs.whl {l l2 : List Opv} (h : Sibs l l2) {dn : List Int} {m : Nat} (hw : Whl l dn m) : Whl l2 dn m := fun j q hj hq ha => by
  obtain ⟨p, hp, hs⟩ := h.back hq
  exact hw j p hj hp (by rw [← hs.ans]; exact ha)
theorem Sibs.goes {l l2 : List Opv} (h : Sibs l l2) {dss : List (List Nat)} {ord : List Int} {bs ds : List Nat} {i k : Nat} {p : Opv} (hg : Goes l dss ord bs i k p ds) : ∃ q, Sib p q ∧ Goes l2 dss ord bs i k q ds := by
  obtain ⟨h1, h2, h3, h4, h5, h6⟩ := hg
  obtain ⟨q, hq, hs⟩ := h.get h3
  refine ⟨q, hs, h1, h2, hq, h4, fun j o hj ho hb => ?_, by rw [hs.fit]; exact h6⟩
  obtain ⟨p2, hp2, hs2⟩ := h.back ho
  exact h5 j p2 (by rw [← h.len]; exact hj) hp2 (by rw [← hs2.bef hs]; exact hb)
theorem Sibs.folR {l l2 : List Opv} (h : Sibs l l2) {dss : List (List Nat)} {ord : List Int} {first : List Nat} {i : Nat} {bs : List Nat} (hf : FolR l dss ord first i bs) : FolR l2 dss ord first i bs := by
  induction hf with
  | nil => exact .nil
  | step _ hg ih =>
    obtain ⟨q, hs, hg2⟩ := h.goes hg
    have := FolR.step ih hg2
    rw [hs.eff] at this
    exact this
theorem Sibs.folOut {l l2 : List Opv} (h : Sibs l l2) {dss : List (List Nat)} {ord : List Int} {first : List Nat} {n : Nat} {W : World} {v : Value} {at_ en : Int} (hf : FolOut l dss ord first n W v at_ en) : FolOut l2 dss ord first n W v at_ en := by
  have hw := h.wrg n
  rcases hf with ⟨h1, h2, h3, h4⟩ | ⟨h1, i, bs, h2, h3, h4, h5⟩ | ⟨h1, bs, h2, h3, h4⟩ | ⟨h1, bs, co, cc, h2, h3, h4⟩
  · exact .inl ⟨by rw [hw]; exact h1, h2, h3, by rw [hw]; exact h4⟩
  · exact .inr (.inl ⟨by rw [hw]; exact h1, i, bs, h.folR h2, h3, fun k q ds hg => by
      obtain ⟨p, _, hg2⟩ := h.symm.goes hg
      exact h4 k p ds hg2, h5⟩)
  · exact .inr (.inr (.inl ⟨by rw [hw]; exact h1, bs, h.folR h2, fun hy => h3 (by rw [h.len] at hy; exact h.symm.whl hy), h4⟩))
  · exact .inr (.inr (.inr ⟨by rw [hw]; exact h1, bs, co, cc, h.folR h2, by rw [h.len]; exact h.whl h3, h4⟩))
theorem FolR.goes {l : List Opv} {dss : List (List Nat)} {ord : List Int} {first : List Nat} {i : Nat} : ∀ {j : Nat} {bs : List Nat}, FolR l dss ord first j bs → i < j → ∃ bs0 k p ds, FolR l dss ord first i bs0 ∧ Goes l dss ord bs0 i k p ds
  | 0, _, .nil, h => absurd h (Nat.not_lt_zero _)
  | j + 1, _, .step (k := k) (bs := bs) (ds := ds) (p := p) hf hg, h => by
    rcases Nat.lt_or_ge i j with h1 | h1
    · exact FolR.goes hf h1
    · obtain rfl : i = j := by omega
      exact ⟨bs, k, p, ds, hf, hg⟩
/-- two answers say the same -/
theorem FolOut.det {l : List Opv} {dss : List (List Nat)} {ord : List Int} {first : List Nat} {n : Nat} {W W' : World} {v v' : Value} {at_ en at2 en2 : Int} (h : FolOut l dss ord first n W v at_ en) (h' : FolOut l dss ord first n W' v' at2 en2) : at_ = at2 ∧ en = en2 ∧ ((v = .slice none 0 0 ∧ v' = .slice none 0 0) ∨ ∃ bs co cc co2 cc2, v = .slice co n cc ∧ BRow W co cc bs ∧ v' = .slice co2 n cc2 ∧ BRow W' co2 cc2 bs ∧ bs.length = n) := by
  rcases h with ⟨h1, h2, h3, h4⟩ | ⟨h1, i, bs, h2, h3, h4, h5, h6, h7⟩ | ⟨h1, bs, h2, h3, h4, h5, h6⟩ | ⟨h1, bs, co, cc, h2, h3, h4, h5, h6, h7, h8⟩ <;> rcases h' with ⟨g1, g2, g3, g4⟩ | ⟨g1, j, bs', g2, g3, g4, g5, g6, g7⟩ | ⟨g1, bs', g2, g3, g4, g5, g6⟩ | ⟨g1, bs', co', cc', g2, g3, g4, g5, g6, g7, g8⟩
  · exact ⟨by rw [h3, g3], by rw [h4, g4], .inl ⟨h2, g2⟩⟩
  · exact absurd g1 h1
  · exact absurd g1 h1
  · exact absurd g1 h1
  · exact absurd h1 g1
  · rcases Nat.lt_trichotomy i j with e | e | e
    · obtain ⟨bs0, k, p, ds, q1, q2⟩ := g2.goes e
      cases FolR.det h2 q1
      exact absurd q2 (h4 k p ds)
    · subst e; exact ⟨by rw [h6, g6], by rw [h7, g7], .inl ⟨h5, g5⟩⟩
    · obtain ⟨bs0, k, p, ds, q1, q2⟩ := h2.goes e
      cases FolR.det g2 q1
      exact absurd q2 (g4 k p ds)
  · obtain ⟨bs0, k, p, ds, q1, q2⟩ := g2.goes h3
    cases FolR.det h2 q1
    exact absurd q2 (h4 k p ds)
  · obtain ⟨bs0, k, p, ds, q1, q2⟩ := g2.goes h3
    cases FolR.det h2 q1
    exact absurd q2 (h4 k p ds)
  · exact absurd h1 g1
  · obtain ⟨bs0, k, p, ds, q1, q2⟩ := h2.goes g3
    cases FolR.det g2 q1
    exact absurd q2 (g4 k p ds)
  · exact ⟨by rw [h5, g5], by rw [h6, g6], .inl ⟨h4, g4⟩⟩
  · exact absurd g3 h3
  · exact absurd h1 g1
  · obtain ⟨bs0, k, p, ds, q1, q2⟩ := h2.goes g3
    cases FolR.det g2 q1
    exact absurd q2 (g4 k p ds)
  · exact absurd h3 g3
  · cases FolR.det h2 g2
    exact ⟨by rw [h7, g7], by rw [h8, g8], .inr ⟨bs, co, cc, co', cc', h4, h5, g4, g5, h6⟩⟩
end Go.Proofs.Ytjkoambfecmglaa

namespace Go.Proofs.Ytjkoambfecmglaa
open Go.RowKit
set_option linter.unusedVariables false
set_option linter.unusedSimpArgs false
set_option maxRecDepth 100000
theorem brow_det {W : World} {ao : Option Addr} {c c' : Nat} {l l' : List Nat} (h : BRow W ao c l) (h' : BRow W ao c' l') (hl : l.length = l'.length) : l = l' := by
  apply List.ext_getElem hl
  intro k h1 h2
  obtain ⟨b, off, e, hc⟩ := h.at_ (by rintro rfl; simp at h1)
  obtain ⟨b', off', e', hc'⟩ := h'.at_ (by rintro rfl; simp at h2)
  rw [e] at e'; cases e'
  have h3 := hc k h1
  rw [hc' k h2] at h3
  simp [bv] at h3
  omega
theorem brow_own {W : World} {B k cc : Nat} {co : Option Addr} {bs : List Nat} (h : W.ownsRow B 5 1 (.slice co k cc) k (bs.map bv)) (hl : bs.length = k) (hlt : ∀ x ∈ bs, x < 256) (hk : k ≤ 140737488351232) : BRow W co cc bs := by
  subst hl
  obtain ⟨a, c, e, hr⟩ := BRow.own h hlt hk
  cases e
  exact hr
theorem newb_row {W : World} {B n cc : Nat} {co : Option Addr} {bs : List Nat} (h : NewB B W (.slice co n cc)) (hb : BRow W co cc bs) (hn : bs.length = n) : W.ownsRow B 5 1 (.slice co n cc) n (bs.map bv) ∧ n ≤ 4096 := by
  obtain ⟨bs1, h1, hlt, hl⟩ := h
  have hn1 : bs1.length = n := by
    rcases h1.2 with ⟨h0, h2⟩ | ⟨g, cap, cur, hv, _⟩
    · cases h0; exact h2
    · cases hv; rfl
  rw [hn1] at h1
  have h3 := brow_det hb (brow_own h1 hn1 hlt (by omega)) (by omega)
  subst h3
  exact ⟨h1, by omega⟩
theorem follow_pair {l : List Opv} {dss : List (List Nat)} {ord : List Int} {first : List Nat} {n B B' : Nat} {W W' : World} {v v' : Value} {at_ en at2 en2 : Int} (h : FolOut l dss ord first n W v at_ en) (hn : NewB B W v) (h' : FolOut l dss ord first n W' v' at2 en2) (hn' : NewB B' W' v') : at_ = at2 ∧ en = en2 ∧ ∃ (k : Nat) (bs : List Nat) (co : Option Addr) (cc : Nat) (co2 : Option Addr) (cc2 : Nat), v = .slice co k cc ∧ v' = .slice co2 k cc2 ∧ bs.length = k ∧ W.ownsRow B 5 1 (.slice co k cc) k (bs.map bv) ∧ W'.ownsRow B' 5 1 (.slice co2 k cc2) k (bs.map bv) ∧ (∀ x ∈ bs, x < 256) ∧ k ≤ 4096 := by
  obtain ⟨h1, h2, h3⟩ := h.det h'
  refine ⟨h1, h2, ?_⟩
  rcases h3 with ⟨rfl, rfl⟩ | ⟨bs, co, cc, co2, cc2, rfl, h4, rfl, h5, h6⟩
  · exact ⟨0, [], none, 0, none, 0, rfl, rfl, rfl, ⟨rfl, .inl ⟨rfl, rfl⟩⟩, ⟨rfl, .inl ⟨rfl, rfl⟩⟩, by simp, by simp⟩
  · exact ⟨n, bs, co, cc, co2, cc2, rfl, rfl, h6, (newb_row hn h4 h6).1, (newb_row hn' h5 h6).1, h4.lt, (newb_row hn h4 h6).2⟩
theorem same_row {ao bo : Option Addr} {c c' k : Nat} {l : List Nat} {W : World} (hl : l.length = k) (h : BRow W ao c l) (h' : BRow W bo c' l) : Calls Try.prog 13 #[.slice ao k c, .slice bo k c'] W fun e w' => e = .returned (.bool true) ∧ Below W.heap.size W w' := by
  subst hl
  refine (same_any ao bo c c' l l W h h').mono ?_
  rintro e w' ⟨rfl, q, rfl⟩
  exact ⟨by simp, ⟨rfl, rfl, rfl, Nat.le_refl _, fun _ _ => rfl⟩⟩
set_option maxHeartbeats 64000000 in
/-- the law -/
theorem law_any (w : World) (fa oa za : Option Addr) (n fc m oc d zc : Nat) (first : List Nat) (l : List Opv) (dss : List (List Nat)) (ord : List Int) (hb : BRow w fa fc first) (hn : first.length = n) (h : OpsD w oa l dss) (hm : l.length = m) (hs : m ≤ 1048576) (hz : ZRow w za ord) (hd : ord.length = d) (hds : d ≤ 1048576) (hzc : d ≤ zc) (hzn : za = none → d = 0 ∧ zc = 0) :
    Calls Try.prog 3 #[.slice fa n fc, .slice oa m oc, .slice za d zc] w fun e w' => e = .returned (.bool true) ∧ Below w.heap.size w w' := by
  have HD : Hid (BRow w fa fc first ∧ first.length = n ∧ OpsD w oa l dss ∧ l.length = m ∧ ZRow w za ord ∧ ord.length = d) := ⟨hb, hn, h, hm, hz, hd⟩
  have HM : Hid (m ≤ 1048576 ∧ d ≤ 1048576 ∧ d ≤ zc ∧ (za = none → d = 0 ∧ zc = 0)) := ⟨hs, hds, hzc, hzn⟩
  have HC1 : Hid _ := copy_row hb hn
  clear hb hn h hm hs hz hd hds hzc hzn
  go_enter Try.func3, Try.ntmps3
  go_wp2_with fail
  refine Calls.mono HC1.out ?_
  rintro e W1 ⟨f1, c1, rfl, ho1, hb1⟩
  have H1 : Hid (Below w.heap.size w W1 ∧ BRow W1 f1 c1 first) := ⟨hb1, brow_own ho1 HD.out.2.1 HD.out.1.lt (by have := HD.out.1.len; rw [HD.out.2.1] at this; exact this)⟩
  have HO1 : Hid _ := ops_any oa m oc l dss W1 (HD.out.2.2.1.later hb1) HD.out.2.2.2.1 HM.out.1
  clear ho1 hb1 HC1
  go_wp2_with fail
  refine Calls.mono HO1.out ?_
  rintro e W2 ⟨oa2, oc2, l2, rfl, hb2, hO2, hl2, hsb⟩
  have H2 : Hid (Below w.heap.size w W2 ∧ BRow W2 f1 c1 first ∧ OpsD W2 oa2 l2 dss ∧ l2.length = m ∧ Sibs l l2) := ⟨H1.out.1.trans (hb2.mono H1.out.1.size), H1.out.2.later hb2, hO2, hl2, ⟨by rw [hl2, HD.out.2.2.2.1], hsb⟩⟩
  clear hb2 hO2 hl2 hsb HO1 H1
  obtain ⟨i0, hi0, hz0, hz1, hz2⟩ := info_parts Try.info3
  have HNw : Hid (∀ ad, za = some ad → ∀ j u, (ord.map (Value.int .i64))[j]? = some u → W2.cell? (ad.add j) = some u) := fun ad e j u hu => by
    rw [List.getElem?_map] at hu
    by_cases hj : j < ord.length
    · rw [List.getElem?_eq_getElem hj] at hu
      obtain ⟨b, off, e2, hc⟩ := (HD.out.2.2.2.2.1.later H2.out.1).at_ (by rintro rfl; simp at hj)
      rw [e] at e2; cases e2
      cases hu
      rw [add_plain]; exact hc j hj
    · rw [List.getElem?_eq_none (by omega)] at hu; cases hu
  have HOne : Hid (∀ u ∈ ord.map (Value.int .i64), u.oneCell' = true) := fun u hu => by
    obtain ⟨x, _, rfl⟩ := List.mem_map.1 hu
    rfl
  go_wp2_with (at_builtin; refine wpList_append_two _ rfl _ _ 24 rfl W2.heap.size 3 i0 (.int .i64 0) 8 Try.underlying24 hi0 hz0 hz1 hz2 rfl (.slice none 0 0) 0 [] rfl (World.ownsRow_nil _ _ _ _) za d zc (ord.map (Value.int .i64)) rfl HM.out.2.2.2 (by rw [List.length_map]; exact HD.out.2.2.2.2.2) HNw.out HOne.out (by have := HM.out.2.1; unfold maxLen; omega) (by have := HM.out.2.1; omega) (Nat.le_refl _) ?_)
  intro v3 W3 ho3 hg3 _
  try rw [Nat.zero_add] at ho3
  try rw [List.nil_append] at ho3
  obtain ⟨o1, oc1, rfl, hz3⟩ := zrow_own ho3 HD.out.2.2.2.2.2
  have hb3 : Below W2.heap.size W2 W3 := (Below.refl _ _).grown hg3 (Nat.le_refl _) (by simp [Value.ownBlock])
  have H3 : Hid (Below w.heap.size w W3 ∧ BRow W3 f1 c1 first ∧ OpsD W3 oa2 l2 dss ∧ ZRow W3 o1 ord) := ⟨H2.out.1.trans (hb3.mono H2.out.1.size), H2.out.2.1.later hb3, H2.out.2.2.1.later hb3, hz3⟩
  have HF4 : Hid _ := follow_any f1 oa2 o1 n c1 m oc2 d oc1 first l2 dss ord W3 H3.out.2.1 HD.out.2.1 H3.out.2.2.1 H2.out.2.2.2.1 (by have := HM.out.1; omega) H3.out.2.2.2 HD.out.2.2.2.2.2 (by have := HM.out.2.1; omega)
  clear ho3 hg3 hz3 hb3 HNw HOne
  go_wp2_with fail
  refine Calls.mono HF4.out ?_
  rintro e W4 ⟨v, at_, en, rfl, hF4, hN4, hb4⟩
  have H4 : Hid (Below W3.heap.size W3 W4 ∧ FolOut l dss ord first n W4 v at_ en ∧ NewB W3.heap.size W4 v) := ⟨hb4, H2.out.2.2.2.2.symm.folOut hF4, hN4⟩
  have HBw4 : Hid (Below w.heap.size w W4) := H3.out.1.trans (hb4.mono H3.out.1.size)
  have HF5 : Hid _ := rFollow_new fa oa za n fc m oc d zc first l dss ord W4 (HD.out.1.later HBw4.out) HD.out.2.1 (HD.out.2.2.1.later HBw4.out) HD.out.2.2.2.1 (by have := HM.out.1; omega) (HD.out.2.2.2.2.1.later HBw4.out) HD.out.2.2.2.2.2 (by have := HM.out.2.1; omega) HM.out.2.2.1
  clear hF4 hN4 hb4 HF4
  go_wp2_with fail
  refine Calls.mono HF5.out ?_
  rintro e W5 ⟨v', at2, en2, rfl, hF5, hN5, hb5⟩
  have H5 : Hid (Below W4.heap.size W4 W5 ∧ FolOut l dss ord first n W5 v' at2 en2 ∧ NewB W4.heap.size W5 v') := ⟨hb5, hF5, hN5⟩
  obtain ⟨rfl, rfl, k, bs, vb, vc, cb, cc, rfl, rfl, hbk, hr4, hr5, hlt, hk⟩ := follow_pair H4.out.2.1 H4.out.2.2 hF5 hN5
  have HR : Hid (bs.length = k ∧ W4.ownsRow W3.heap.size 5 1 (.slice vb k vc) k (bs.map bv) ∧ W5.ownsRow W4.heap.size 5 1 (.slice cb k cc) k (bs.map bv) ∧ (∀ x ∈ bs, x < 256) ∧ k ≤ 4096) := ⟨hbk, hr4, hr5, hlt, hk⟩
  have HB35 : Hid (Below W3.heap.size W3 W5) := H4.out.1.trans (hb5.mono H4.out.1.size)
  have HB5 : Hid (∀ X, Below W5.heap.size W5 X → Below w.heap.size w X ∧ Below W3.heap.size W3 X) := fun X hX => ⟨HBw4.out.trans ((hb5.trans (hX.mono hb5.size)).mono HBw4.out.size), HB35.out.trans (hX.mono HB35.out.size)⟩
  have HK5 : Hid (∀ X, Below W5.heap.size W5 X → Calls Try.prog 13 #[.slice vb k vc, .slice cb k cc] X fun e w' => e = .returned (.bool true) ∧ Below X.heap.size X w') := fun X hX => by
    refine same_row HR.out.1 (brow_own (B := W3.heap.size) ?_ HR.out.1 HR.out.2.2.2.1 (by have := HR.out.2.2.2.2; omega)) (brow_own (B := W4.heap.size) ?_ HR.out.1 HR.out.2.2.2.1 (by have := HR.out.2.2.2.2; omega))
    · exact owns_same HR.out.2.1 fun g e => (hX.block g (Nat.lt_of_lt_of_le (owns_in HR.out.2.1 e).2 hb5.size)).trans (hb5.block g (owns_in HR.out.2.1 e).2)
    · exact owns_same HR.out.2.2.1 fun g e => hX.block g (owns_in HR.out.2.2.1 e).2
  have HSf : Hid (∀ X, Below w.heap.size w X → Below W3.heap.size W3 X → Calls Try.prog 13 #[.slice f1 n c1, .slice fa n fc] X fun e w' => e = .returned (.bool true) ∧ Below X.heap.size X w') := fun X hX hX3 => same_row HD.out.2.1 (H3.out.2.1.later hX3) (HD.out.1.later hX)
  have HSo : Hid (∀ X, Below w.heap.size w X → Below W3.heap.size W3 X → Calls Try.prog 14 #[.slice oa2 m oc2, .slice oa m oc] X fun e w' => e = .returned (.bool true) ∧ Below X.heap.size X w') := fun X hX hX3 => sameOps_any oa2 oa m oc2 oc l2 l dss X H2.out.2.2.2.1 HD.out.2.2.2.1 (by have := HM.out.1; omega) (H3.out.2.2.1.later hX3) (HD.out.2.2.1.later hX) (fun k p q hp hq => (H2.out.2.2.2.2.sib k q p hq hp).symm)
  have HSi : Hid (∀ X, Below w.heap.size w X → Below W3.heap.size W3 X → Calls Try.prog 15 #[.slice o1 d oc1, .slice za d zc] X fun e w' => e = .returned (.bool true) ∧ Below X.heap.size X w') := fun X hX hX3 => (sameInts_any o1 za oc1 zc d ord X HD.out.2.2.2.2.2 (by have := HM.out.2.1; omega) (H3.out.2.2.2.later hX3) (HD.out.2.2.2.2.1.later hX)).mono (by rintro e w' ⟨rfl, q, rfl⟩; exact ⟨rfl, ⟨rfl, rfl, rfl, Nat.le_refl _, fun _ _ => rfl⟩⟩)
  clear hF5 hN5 hb5 hbk hr4 hr5 hlt hk HF5
  go_wp2_with fail
  refine Calls.mono (HK5.out _ (Below.refl _ _)) ?_
  rintro e X1 ⟨rfl, hx1⟩
  have HX1 : Hid (Below W5.heap.size W5 X1) := hx1
  clear hx1
  go_wp2_with fail
  refine Calls.mono (HSf.out _ (HB5.out _ HX1.out).1 (HB5.out _ HX1.out).2) ?_
  rintro e X2 ⟨rfl, hx2⟩
  have HX2 : Hid (Below W5.heap.size W5 X2) := HX1.out.trans (hx2.mono HX1.out.size)
  clear hx2
  go_wp2_with fail
  refine Calls.mono (HSo.out _ (HB5.out _ HX2.out).1 (HB5.out _ HX2.out).2) ?_
  rintro e X3 ⟨rfl, hx3⟩
  have HX3 : Hid (Below W5.heap.size W5 X3) := HX2.out.trans (hx3.mono HX2.out.size)
  clear hx3
  go_wp2_with fail
  refine Calls.mono (HSi.out _ (HB5.out _ HX3.out).1 (HB5.out _ HX3.out).2) ?_
  rintro e W6 ⟨rfl, hx4⟩
  have HX4 : Hid (Below W5.heap.size W5 W6) := HX3.out.trans (hx4.mono HX3.out.size)
  have HRw : Hid (W6.ownsRow W3.heap.size 5 1 (.slice vb k vc) k (bs.map bv)) := owns_same HR.out.2.1 fun g e => (HX4.out.block g (Nat.lt_of_lt_of_le (owns_in HR.out.2.1 e).2 H5.out.1.size)).trans (H5.out.1.block g (owns_in HR.out.2.1 e).2)
  clear hx4 HX1 HX2 HX3 HK5
  go_wp2_with fail
  go_loopw [16] (fun xv wr => ∃ (i : Nat) (xs : List Nat), i ≤ k ∧ xv = .int .i64 (i : Int) ∧ Hid (wr.ownsRow W3.heap.size 5 1 (.slice vb k vc) k (xs.map bv) ∧ xs.length = k ∧ (∀ x ∈ xs, x < 256) ∧ W6.grownBy wr (Value.slice vb k vc).ownBlock)) (fun xv _ => k - (intOf xv).toNat)
  case atStart => exact ⟨0, bs, Nat.zero_le _, rfl, HRw.out, HR.out.1, HR.out.2.2.2.1, World.grownBy.refl _ _⟩
  case round =>
    obtain ⟨i, xs, hi, rfl, HL⟩ := hrel
    by_cases hlk : i < k
    · have n9 : decide ((i : Int) < (k : Int)) = true := decide_eq_true (by omega)
      have ii0 : (0 : Int) ≤ (i : Int) := by omega
      have ii9 : (i : Int) < (k : Int) := by omega
      have hkx : k ≤ 4096 := HR.out.2.2.2.2
      obtain ⟨g, hgv, hg3, hcell, hfr⟩ := own_some HL.out.1 (by omega)
      subst hgv
      obtain ⟨x, hx⟩ : ∃ x, xs[i]? = some x := ⟨_, List.getElem?_eq_getElem (by rw [HL.out.2.1]; exact hlk)⟩
      have c0 : wr.cell? ⟨g, i, none⟩ = some (.int .u8 (x : Int)) := by rw [hcell i hlk, List.getElem?_map, hx]; rfl
      have f0 : wr.frozen? ⟨g, i, none⟩ = false := hfr i
      have hx8 : x < 256 := HL.out.2.2.1 x (List.mem_of_getElem? hx)
      obtain ⟨y, hy, hyl⟩ : ∃ y : Nat, IntKind.u8.wrap ((x : Int) + 1) = (y : Int) ∧ y < 256 := by
        refine ⟨(x + 1) % 256, ?_, Nat.mod_lt _ (by decide)⟩
        rw [IntKind.wrap_u8]; omega
      have HN : Hid ((wr.setCell ⟨g, i, none⟩ (.int .u8 (y : Int))).ownsRow W3.heap.size 5 1 (.slice (some ⟨g, 0, none⟩) k vc) k ((xs.set i y).map bv) ∧ (xs.set i y).length = k ∧ (∀ x ∈ xs.set i y, x < 256) ∧ W6.grownBy (wr.setCell ⟨g, i, none⟩ (.int .u8 (y : Int))) (Value.slice (some ⟨g, 0, none⟩) k vc).ownBlock) := by
        refine ⟨?_, by rw [List.length_set]; exact HL.out.2.1, fun z hz => ?_, ?_⟩
        · have := own_set HL.out.1 (.int .u8 (y : Int)) hlk
          rw [List.map_set]
          exact this
        · rcases List.mem_or_eq_of_mem_set hz with h1 | h1
          · exact HL.out.2.2.1 z h1
          · rw [h1]; exact hyl
        · exact HL.out.2.2.2.trans (own_setCells [.int .u8 (y : Int)] i HL.out.1 (by simp; omega)).2
      clear hcell hfr hx hx8 hyl
      go_wp2_with fail
      go_roundw
      case rel => exact ⟨i + 1, _, by omega, by go_num, HN.out⟩
      case measure => simp [intOf]; omega
    · have n9 : decide ((i : Int) < (k : Int)) = false := decide_eq_false (by omega)
      have HB7 : Hid (Below w.heap.size w wr ∧ Below W3.heap.size W3 wr) := by
        have h6 := HB5.out _ HX4.out
        exact ⟨h6.1.grown HL.out.2.2.2 h6.1.size (fun g e => Nat.le_trans H3.out.1.size (owns_in HL.out.1 e).1), h6.2.grown HL.out.2.2.2 h6.2.size (fun g e => (owns_in HL.out.1 e).1)⟩
      have HC7 : Hid (∀ (k2 : Nat) (bs2 : List Nat) (X : World), W5.ownsRow W4.heap.size 5 1 (.slice cb k2 cc) k2 (bs2.map bv) → Below wr.heap.size wr X → X.ownsRow W4.heap.size 5 1 (.slice cb k2 cc) k2 (bs2.map bv)) := fun k2 bs2 X h1 hX => owns_same h1 fun g e => by
        have h2 := owns_in h1 e
        have h3 : g < W6.heap.size := Nat.lt_of_lt_of_le h2.2 HX4.out.size
        refine (hX.block g (Nat.lt_of_lt_of_le h3 HL.out.2.2.2.size)).trans ((HL.out.2.2.2.block g h3 (fun e2 => ?_)).trans (HX4.out.block g h2.2))
        have h4 := (owns_in HR.out.2.1 e2.symm).2
        omega
      have HF8 : Hid _ := follow_any f1 oa2 o1 n c1 m oc2 d oc1 first l2 dss ord wr (H3.out.2.1.later HB7.out.2) HD.out.2.1 (H3.out.2.2.1.later HB7.out.2) H2.out.2.2.2.1 (by have := HM.out.1; omega) (H3.out.2.2.2.later HB7.out.2) HD.out.2.2.2.2.2 (by have := HM.out.2.1; omega)
      clear HRw
      go_wp2_with fail
      refine Calls.mono HF8.out ?_
      rintro e W8 ⟨v8, at8, en8, rfl, hF8, hN8, hb8⟩
      obtain ⟨rfl, rfl, k8, bs8, va8, vc8, cb8, cc8, rfl, hcc, hl8, hr8, hr9, hlt8, hk8⟩ := follow_pair (H2.out.2.2.2.2.symm.folOut hF8) hN8 H5.out.2.1 H5.out.2.2
      cases hcc
      have HB8 : Hid (∀ X, Below W8.heap.size W8 X → Below w.heap.size w X ∧ Below W3.heap.size W3 X) := fun X hX => ⟨HB7.out.1.trans ((hb8.trans (hX.mono hb8.size)).mono HB7.out.1.size), HB7.out.2.trans ((hb8.trans (hX.mono hb8.size)).mono HB7.out.2.size)⟩
      have HK8 : Hid _ := same_row (W := W8) hl8 (brow_own hr8 hl8 hlt8 (by omega)) (brow_own (HC7.out _ _ W8 hr9 hb8) hl8 hlt8 (by omega))
      clear hF8 hN8 hb8 hl8 hr8 hr9 hlt8 hk8 HF8 HC7
      go_wp2_with fail
      refine Calls.mono HK8.out ?_
      rintro e Y1 ⟨rfl, hy1⟩
      have HY1 : Hid (Below W8.heap.size W8 Y1) := hy1
      clear hy1 HK8
      go_wp2_with fail
      refine Calls.mono (HSf.out _ (HB8.out _ HY1.out).1 (HB8.out _ HY1.out).2) ?_
      rintro e Y2 ⟨rfl, hy2⟩
      have HY2 : Hid (Below W8.heap.size W8 Y2) := HY1.out.trans (hy2.mono HY1.out.size)
      clear hy2
      go_wp2_with fail
      refine Calls.mono (HSo.out _ (HB8.out _ HY2.out).1 (HB8.out _ HY2.out).2) ?_
      rintro e Y3 ⟨rfl, hy3⟩
      have HY3 : Hid (Below W8.heap.size W8 Y3) := HY2.out.trans (hy3.mono HY2.out.size)
      clear hy3
      go_wp2_with fail
      refine Calls.mono (heads_any Y3) ?_
      rintro e Y4 ⟨rfl, hy4⟩
      have HY4 : Hid (Below W8.heap.size W8 Y4) := HY3.out.trans (hy4.mono HY3.out.size)
      clear hy4
      go_wp2_with fail
      go_ret
      exact ⟨rfl, (HB8.out _ HY4.out).1⟩
end Go.Proofs.Ytjkoambfecmglaa

namespace Go.Proofs.Ytjkoambfecmglaa
open Go.ChangeShapes Go.WideShapes Go.ChangeAt Go.RowKit Go.Lib
open Go.Deep
set_option linter.unusedVariables false
set_option linter.unusedSimpArgs false
set_option maxRecDepth 100000
theorem own : ownKnob Try.prog.godebug = none := by kernel_rfl
theorem laidOut : laidOutB Try.prog = true := by kernel_rfl
theorem take1 {cs : List Value} {j : Nat} {v : Value} (h : (cs.drop j).take 1 = [v]) : cs[j]? = some v := by
  have := congrArg (·[0]?) h
  simpa [List.getElem?_take, List.getElem?_drop] using this
theorem brow_ints (W : World) (x : Addr) (len cap : Nat) (zs : List Int) (hl : len ≤ zs.length) (hlen : len ≤ 140737488351232)
    (hcell : ∀ i, i < zs.length → W.cell? (x.add i) = some (.int .u8 (zs.getD i 0))) (hw : ∀ n ∈ zs, (Lit.int .u8 n).wf = true) :
    ∃ l : List Nat, l.length = len ∧ BRow W (some x) cap l := by
  have hb : ∀ i (hi : i < zs.length), 0 ≤ zs[i] ∧ zs[i] ≤ 255 := fun i hi => by
    have := bounds_u8 (hw _ (List.getElem_mem hi)); omega
  refine ⟨(zs.take len).map Int.toNat, by simp; omega, ⟨?_, by simp; omega, fun h => by simp at h, ?_⟩⟩
  · intro y hy
    obtain ⟨z, hz, rfl⟩ := List.mem_map.1 hy
    have hz' := List.mem_of_mem_take hz
    have := bounds_u8 (hw z hz'); omega
  · intro hne
    have hpos : 0 < len := by
      rcases Nat.eq_zero_or_pos len with h | h
      · subst h; simp at hne
      · exact h
    obtain ⟨b, off, rfl, hc⟩ := ints_at hcell (by omega)
    refine ⟨b, off, rfl, fun k hk => ?_⟩
    have hk' : k < len := by simp at hk; omega
    have h1 := hcell k (by omega)
    rw [add_plain] at h1
    rw [h1]
    have h2 := hb k (by omega)
    simp [bv, show k < zs.length by omega]
    omega
/-- bytes that were handed in -/
theorem open_b17 {H : Type} {enc : TypeId × Value → H} {W : World} {base fuel : Nat} {cs : List Value} {d : DataW H} {p : List MemPlace} (hf : DataW.trod enc Try.prog W base (fun _ => true) true fuel 22 cs = some (d, p)) (hb : Rows.uptoBulk d ≤ 1048576) :
    ∃ (ao : Option Addr) (cap : Nat) (l : List Nat), cs = [.slice ao l.length cap] ∧ BRow W ao cap l := by
  rcases open_ints (show Try.prog.underlying 22 = some (.slice 5) by kernel_rfl) Try.underlying5 (by kernel_rfl) hf with ⟨hcs, hx⟩ | ⟨x, l, c, zs, hcs, _, hl, hm, hz, hx, hcell, hwz⟩
  · exact ⟨none, 0, [], hcs, ⟨by simp, by simp, fun _ => ⟨rfl, rfl⟩, fun h => absurd rfl h⟩⟩
  · have hd : d = .slice (lits .u8 (zs.take l)) (lits .u8 (zs.drop l)) := (Prod.mk.inj hx).1
    have hz' : zs.length = c := by simpa using hz
    have hsl := bulk_slice (lits (H := H) .u8 (zs.take l)) (lits .u8 (zs.drop l))
    have hs1 := length_le_bulk (lits (H := H) .u8 (zs.take l))
    have hs2 := length_le_bulk (lits (H := H) .u8 (zs.drop l))
    rw [← hd] at hsl
    simp only [lits, List.length_map, List.length_take, List.length_drop] at hsl hs1 hs2
    obtain ⟨m, hm1, hm2⟩ := brow_ints W x l c zs (by omega) (by omega) hcell hwz
    subst hm1
    exact ⟨some x, c, m, hcs, hm2⟩
/-- numbers that were handed in -/
theorem open_z17 {H : Type} {enc : TypeId × Value → H} {W : World} {base fuel : Nat} {cs : List Value} {d : DataW H} {p : List MemPlace} (hf : DataW.trod enc Try.prog W base (fun _ => true) true fuel 24 cs = some (d, p)) (hb : Rows.uptoBulk d ≤ 1048576) :
    ∃ (ao : Option Addr) (cap : Nat) (l : List Int), cs = [.slice ao l.length cap] ∧ ZRow W ao l ∧ l.length ≤ cap ∧ l.length ≤ 1048576 ∧ (ao = none → l.length = 0 ∧ cap = 0) := by
  rcases open_ints (show Try.prog.underlying 24 = some (.slice 3) by kernel_rfl) (show Try.prog.underlying 3 = some (.int .i64) by kernel_rfl) (by kernel_rfl) hf with ⟨hcs, hx⟩ | ⟨x, l, c, zs, hcs, _, hl, hm, hz, hx, hcell, hwz⟩
  · exact ⟨none, 0, [], hcs, ⟨fun h => absurd rfl h⟩, by simp, by simp, fun _ => ⟨rfl, rfl⟩⟩
  · have hd : d = .slice (lits .i64 (zs.take l)) (lits .i64 (zs.drop l)) := (Prod.mk.inj hx).1
    have hz' : zs.length = c := by simpa using hz
    have hsl := bulk_slice (lits (H := H) .i64 (zs.take l)) (lits .i64 (zs.drop l))
    have hs1 := length_le_bulk (lits (H := H) .i64 (zs.take l))
    rw [← hd] at hsl
    simp only [lits, List.length_map, List.length_take, List.length_drop] at hsl hs1
    have hll : (zs.take l).length = l := by rw [List.length_take]; omega
    refine ⟨some x, c, zs.take l, by rw [hll]; exact hcs, ⟨fun hne => ?_⟩, by rw [hll]; omega, by rw [hll]; omega, fun h => by cases h⟩
    have hpos : 0 < l := by
      rcases Nat.eq_zero_or_pos l with h | h
      · subst h; simp at hne
      · exact h
    obtain ⟨b, off, rfl, hc⟩ := ints_at hcell (by omega)
    refine ⟨b, off, rfl, fun k hk => ?_⟩
    have hk' : k < l := by rw [hll] at hk; exact hk
    have h1 := hcell k (by omega)
    rw [add_plain] at h1
    rw [h1, List.getElem_take]
    simp [show k < zs.length by omega]
/-- an operation that was handed in -/
theorem open_o17 {H : Type} {enc : TypeId × Value → H} {w : World} {base : Nat} {fuel : Nat} {cs : List Value} {d : DataW H} {p : List MemPlace} (h : DataW.trod enc Try.prog w base (fun _ => true) true fuel 50 cs = some (d, p)) (hb : Rows.uptoBulk d ≤ 1048576) : ∃ (o : Opv) (ds : List Nat), cs = o.cells.toList ∧ BRow w o.da o.dc ds ∧ ds.length = o.n := by
  obtain ⟨xs, n, rfl, hx, hl, hxl, hall⟩ := DataW.trod_struct Try.underlying50 h
  have hl' : cs.length = 7 := hl.trans (by kernel_rfl)
  have h0 := hall 0 _ rfl
  obtain ⟨⟨y0, yp0⟩, hy0⟩ : ∃ y, xs[0]? = some y := ⟨_, List.getElem?_eq_getElem (by rw [hxl]; decide)⟩
  have k0 : Try.prog.cellsOf 48 = 1 := by kernel_rfl
  simp only [k0, hy0] at h0
  obtain ⟨z0, e0, _, w0⟩ := DataW.trod_int (show Try.prog.underlying 48 = some (.int .i64) by kernel_rfl) h0
  have t0 := take1 e0
  have h1 := hall 1 _ rfl
  obtain ⟨⟨y1, yp1⟩, hy1⟩ : ∃ y, xs[1]? = some y := ⟨_, List.getElem?_eq_getElem (by rw [hxl]; decide)⟩
  have k1 : Try.prog.cellsOf 3 = 1 := by kernel_rfl
  simp only [k1, hy1] at h1
  obtain ⟨z1, e1, _, w1⟩ := DataW.trod_int (show Try.prog.underlying 3 = some (.int .i64) by kernel_rfl) h1
  have t1 := take1 e1
  have h2 := hall 2 _ rfl
  obtain ⟨⟨y2, yp2⟩, hy2⟩ : ∃ y, xs[2]? = some y := ⟨_, List.getElem?_eq_getElem (by rw [hxl]; decide)⟩
  have k2 : Try.prog.cellsOf 3 = 1 := by kernel_rfl
  simp only [k2, hy2] at h2
  obtain ⟨z2, e2, _, w2⟩ := DataW.trod_int (show Try.prog.underlying 3 = some (.int .i64) by kernel_rfl) h2
  have t2 := take1 e2
  have h3 := hall 3 _ rfl
  obtain ⟨⟨y3, yp3⟩, hy3⟩ : ∃ y, xs[3]? = some y := ⟨_, List.getElem?_eq_getElem (by rw [hxl]; decide)⟩
  have k3 : Try.prog.cellsOf 3 = 1 := by kernel_rfl
  simp only [k3, hy3] at h3
  obtain ⟨z3, e3, _, w3⟩ := DataW.trod_int (show Try.prog.underlying 3 = some (.int .i64) by kernel_rfl) h3
  have t3 := take1 e3
  have h4 := hall 4 _ rfl
  obtain ⟨⟨y4, yp4⟩, hy4⟩ : ∃ y, xs[4]? = some y := ⟨_, List.getElem?_eq_getElem (by rw [hxl]; decide)⟩
  have k4 : Try.prog.cellsOf 3 = 1 := by kernel_rfl
  simp only [k4, hy4] at h4
  obtain ⟨z4, e4, _, w4⟩ := DataW.trod_int (show Try.prog.underlying 3 = some (.int .i64) by kernel_rfl) h4
  have t4 := take1 e4
  have h5 := hall 5 _ rfl
  obtain ⟨⟨y5, yp5⟩, hy5⟩ : ∃ y, xs[5]? = some y := ⟨_, List.getElem?_eq_getElem (by rw [hxl]; decide)⟩
  have k5 : Try.prog.cellsOf 22 = 1 := by kernel_rfl
  simp only [k5, hy5] at h5
  have hbk : Rows.uptoBulk y5 ≤ 1048576 := by
    have hd : d = .agg (xs.map (·.1)) := (Prod.mk.inj hx).1
    have hm : y5 ∈ xs.map (·.1) := List.mem_map.2 ⟨_, List.mem_of_getElem? hy5, rfl⟩
    have h1 := bulk_le_all hm
    rw [hd] at hb
    simp only [Rows.uptoBulk] at hb
    omega
  obtain ⟨ao, cap, ds, e5, hbr⟩ := open_b17 h5 hbk
  have t5 := take1 e5
  have h6 := hall 6 _ rfl
  obtain ⟨⟨y6, yp6⟩, hy6⟩ : ∃ y, xs[6]? = some y := ⟨_, List.getElem?_eq_getElem (by rw [hxl]; decide)⟩
  have k6 : Try.prog.cellsOf 4 = 1 := by kernel_rfl
  simp only [k6, hy6] at h6
  obtain ⟨z6, e6, _⟩ := DataW.trod_bool (show Try.prog.underlying 4 = some .bool by kernel_rfl) h6
  have t6 := take1 e6
  refine ⟨⟨z0, z1, z2, z3, z4, ao, ds.length, cap, z6⟩, ds, ?_, hbr, rfl⟩
  apply List.ext_getElem?
  intro i
  match i with
  | 0 => exact t0
  | 1 => exact t1
  | 2 => exact t2
  | 3 => exact t3
  | 4 => exact t4
  | 5 => exact t5
  | 6 => exact t6
  | i + 7 => rw [List.getElem?_eq_none (by omega)]; rfl
/-- operations that were handed in -/
theorem open_ops17 {H : Type} {enc : TypeId × Value → H} {W : World} {base fuel : Nat} {cs : List Value} {d : DataW H} {p : List MemPlace} (hf : DataW.trod enc Try.prog W base (fun _ => true) true fuel 23 cs = some (d, p)) (hb : Rows.uptoBulk d ≤ 1048576) :
    ∃ (ao : Option Addr) (cap : Nat) (l : List Opv) (dss : List (List Nat)), cs = [.slice ao l.length cap] ∧ OpsD W ao l dss ∧ l.length ≤ 1048576 := by
  rcases open_slice Try.under23 hf with ⟨hcs, _⟩ | ⟨x, len, cap, m, n, D, Pl, hcs, _, hl, hm, hmm, hx, hel⟩
  · exact ⟨none, 0, [], [], hcs, ⟨⟨fun h => absurd rfl h⟩, rfl, fun k p ds h => by simp at h⟩, by simp⟩
  · have hmc : m = cap := by simpa using hmm
    have hd : d = .slice ((List.range len).map D) ((List.range (m - len)).map fun j => D (len + j)) := (Prod.mk.inj hx).1
    have hb1 := bulk_slice ((List.range len).map D) ((List.range (m - len)).map fun j => D (len + j))
    have hlen : len ≤ 1048576 := by
      have b2 := length_le_bulk ((List.range len).map D)
      rw [← hd] at hb1
      simp at b2
      omega
    have cOp : Try.prog.cellsOf 50 = 7 := by kernel_rfl
    have hel' : ∀ i, ∃ od : Opv × List Nat, i < len → (BRow W od.1.da od.1.dc od.2 ∧ od.2.length = od.1.n) ∧ ∀ j, j < 7 → W.cell? ((x.add (i * 7)).add j) = od.1.cells[j]? := by
      intro i
      by_cases hi : i < len
      · obtain ⟨cs', hc1, hc2⟩ := hel i (by omega)
        rw [cOp] at hc1
        have hbi : Rows.uptoBulk (D i) ≤ 1048576 := by
          have h1 : D i ∈ (List.range len).map D := List.mem_map.2 ⟨i, List.mem_range.2 hi, rfl⟩
          have h2 := bulk_le_all h1
          rw [← hd] at hb1
          omega
        obtain ⟨o, ds, rfl, h2, h3⟩ := open_o17 hc2 hbi
        refine ⟨(o, ds), fun _ => ⟨⟨h2, h3⟩, fun j hj => ?_⟩⟩
        have h1 := (World.cells?_some hc1).2.2 j hj
        rw [h1, Array.getElem?_toList]
      · exact ⟨(⟨0, 0, 0, 0, 0, none, 0, 0, false⟩, []), fun h => absurd h hi⟩
    obtain ⟨T, hT⟩ := Classical.axiomOfChoice hel'
    have atk : ∀ (k : Nat) (p : Opv), ((List.range len).map fun i => (T i).1)[k]? = some p → k < len ∧ (T k).1 = p := fun k p hk => by
      rw [List.getElem?_map] at hk
      rcases Nat.lt_or_ge k len with h1 | h1
      · rw [List.getElem?_range h1] at hk
        cases hk
        exact ⟨h1, rfl⟩
      · rw [List.getElem?_eq_none (by simpa using h1)] at hk; cases hk
    refine ⟨some x, cap, (List.range len).map fun i => (T i).1, (List.range len).map fun i => (T i).2, by rw [hcs]; simp, ⟨⟨fun hne => ?_⟩, by simp, fun k p ds hp hds => ?_⟩, by simpa using hlen⟩
    · have h0 : 0 < len := by
        rcases Nat.eq_zero_or_pos len with h | h
        · subst h; simp at hne
        · exact h
      obtain ⟨pb, po, rfl⟩ : ∃ pb po, x = ⟨pb, po, none⟩ := by
        have h1 := (hT 0 h0).2 0 (by decide)
        have h2 := World.cell?_spot (show W.cell? ((x.add (0 * 7)).add 0) = some (.int .i64 (T 0).1.k) from h1)
        obtain ⟨b, off, spot⟩ := x
        have : spot = none := by simpa [Addr.add] using h2
        exact ⟨b, off, by rw [this]⟩
      refine ⟨pb, po, rfl, fun k hk j v hv => ?_⟩
      have hk2 : k < len := by simpa using hk
      have hj : j < 7 := by
        have := (Array.getElem?_eq_some_iff.1 hv).1
        simpa using this
      have h1 := (hT k hk2).2 j hj
      rw [add_plain, add_plain] at h1
      rw [h1, ← hv]
      simp
    · obtain ⟨h1, rfl⟩ := atk k p hp
      rw [List.getElem?_map, List.getElem?_range h1] at hds
      cases hds
      exact (hT k h1).1
end Go.Proofs.Ytjkoambfecmglaa
namespace Go.Proofs.Ytjkoambfecmglaa.judgeFollows
open Go.ChangeShapes Go.WideShapes Go.ChangeAt Go.RowKit Go.Lib
open Go.Deep
set_option linter.unusedVariables false
set_option linter.unusedSimpArgs false
set_option maxRecDepth 100000
theorem contract (H : Type) (enc : TypeId × Value → H) (W : World) (base : Nat) (args : Array Value) (ds gs : List (DataW H)) (before : List MemPlace)
    (hval : ∀ (j : Nat) t v, Try.f3.params[j]? = some t → args[j]? = some v → Value.okWide Try.prog W .any base t v)
    (hW : DataW.Whole enc Try.prog Try.f3.params.toList Rows.judgeFollowsSpec.vars false W args.toList ds gs before) (hk : Rows.uptoSmall H (ds ++ gs) = true) :
    Calls Try.prog 3 args W fun e W' => ∃ v, e = .returned v ∧ Rows.judgeFollowsSpec.post enc Try.prog Try.f3 false true false false W args v W' := by
  have hW' := hW
  obtain ⟨p, q, hA0, hV, rfl, hfz, hnd⟩ := hW
  have hA : DataW.TrodAll enc Try.prog W 0 (fun _ => true) true Try.f3.params.toList args.toList ds p := hA0
  rw [Try.params3] at hA hval
  obtain ⟨v0, vs0, d0, ds0, p0, q0, hargs, rfl, rfl, h0, r0⟩ := trodAll_cons hA
  obtain ⟨v1, vs1, d1, ds1, p1, q1, rfl, rfl, rfl, h1, r1⟩ := trodAll_cons r0
  obtain ⟨v2, vs2, d2, ds2, p2, q2, rfl, rfl, rfl, h2, r2⟩ := trodAll_cons r1
  obtain ⟨rfl, rfl, rfl⟩ := trodAll_nil r2
  obtain rfl : args = #[v0, v1, v2] := by cases args; simp_all
  obtain ⟨rfl, rfl⟩ := trodVars_none hV
  have k0 := h0
  have k1 := h1
  have k2 := h2
  have lt0 : ∀ x ∈ p0, x.block < W.heap.size := by obtain ⟨m, hm⟩ := k0; exact DataW.trod_lt m _ _ _ hm
  have lt1 : ∀ x ∈ p1, x.block < W.heap.size := by obtain ⟨m, hm⟩ := k1; exact DataW.trod_lt m _ _ _ hm
  have lt2 : ∀ x ∈ p2, x.block < W.heap.size := by obtain ⟨m, hm⟩ := k2; exact DataW.trod_lt m _ _ _ hm
  obtain ⟨ao, len0, cap0, rfl⟩ := okWide_slice (show Try.prog.underlying 22 = some (.slice 5) by kernel_rfl) (hval 0 22 v0 rfl rfl)
  obtain ⟨so, len1, cap1, rfl⟩ := okWide_slice Try.under23 (hval 1 23 v1 rfl rfl)
  obtain ⟨po, len2, cap2, rfl⟩ := okWide_slice (show Try.prog.underlying 24 = some (.slice 3) by kernel_rfl) (hval 2 24 v2 rfl rfl)
  have hbd := bulk_bound hk
  simp only [Rows.uptoBulkAll, List.append_nil] at hbd
  have hwalk : Calls Try.prog 3 #[.slice ao len0 cap0, .slice so len1 cap1, .slice po len2 cap2] W fun e w' => e = .returned (.bool true) ∧ Below W.heap.size W w' := by
    obtain ⟨f0, hf0⟩ := h0
    obtain ⟨f1, hf1⟩ := h1
    obtain ⟨f2, hf2⟩ := h2
    obtain ⟨ao', cap', first, e0, hbr⟩ := open_b17 hf0 (by omega)
    obtain ⟨so', c1, l, dss, e1, hO, hml⟩ := open_ops17 hf1 (by omega)
    obtain ⟨po', c2, ord, e2, hz, hzc, hdl, hzn⟩ := open_z17 hf2 (by omega)
    simp [Value.cells] at e0 e1 e2
    obtain ⟨rfl, rfl, rfl⟩ := e0
    obtain ⟨rfl, rfl, rfl⟩ := e1
    obtain ⟨rfl, rfl, rfl⟩ := e2
    exact law_any W ao so po _ cap0 _ cap1 _ cap2 first l dss ord hbr rfl hO rfl hml hz rfl hdl hzc hzn
  clear hA0
  refine hwalk.mono fun e W' ⟨he, bel⟩ => ?_
  subst he
  exact ⟨_, rfl, _, _, _, [], _, [], hW', trodAll_mk1 (shut_bool (show Try.prog.underlying 4 = some .bool by kernel_rfl) _), trodAll_cons_mk (Below.trod laidOut (by kernel_rfl) (of_decide_eq_true (by kernel_rfl)) k0 bel lt0) (trodAll_cons_mk (Below.trod laidOut (by kernel_rfl) (of_decide_eq_true (by kernel_rfl)) k1 bel lt1) (trodAll_cons_mk (Below.trod laidOut (by kernel_rfl) (of_decide_eq_true (by kernel_rfl)) k2 bel lt2) trodAll_mk0)), rfl, bel.frame _, fun h => by cases h⟩

set_option maxRecDepth 100000 in
theorem lifted (os : Os) (started : os.Started) (H : Type) (enc : TypeId × Value → H) (F : Stop.Interp) :
    ReturnsInHanded {} Try.checked os 3 .any ((Rows.OpenSpec.upto Rows.judgeFollowsSpec).pre6 enc Try.prog Try.f3 Rows.judgeFollowsUptoRow.domain false) (((Rows.OpenSpec.upto Rows.judgeFollowsSpec).at F).post enc Try.prog Try.f3 false true false false) := by
  refine returnsInHanded_of_cond (C := Try.checked) (s := Rows.OpenSpec.upto Rows.judgeFollowsSpec) (k := Rows.uptoSmall) rfl own started (by kernel_rfl) Try.func3
    (OpenSpec.witness (enc := enc) (C := Try.checked) (s := Rows.OpenSpec.upto Rows.judgeFollowsSpec) (k := Rows.uptoSmall) rfl false ⟨#[], #[.slice none 0 0, .slice none 0 0, .slice none 0 0], []⟩ 8 (by kernel_rfl) (by kernel_rfl) (by kernel_rfl)
      (x := ([.nil, .nil, .nil], [], [])) (by kernel_rfl) rfl (by kernel_rfl)) ?_
  intro W base args ds gs before hval hW _ hk _
  exact contract H enc W base args ds gs before hval hW hk
end Go.Proofs.Ytjkoambfecmglaa.judgeFollows
namespace Go.Proofs.Ytjkoambfecmglaa
theorem judgeFollows_proved : Rows.JudgeFollowsUptoSaid :=
  OpenClaim.holds_of_cond 3 Try.f3 rfl rfl rfl rfl rfl rfl rfl ⟨rfl, rfl, rfl, rfl, rfl⟩ rfl rfl rfl rfl rfl (by kernel_rfl) Try.func3 (by kernel_rfl)
    (of_decide_eq_true (by kernel_rfl)) (by unfold Func.isWrapper; first | (rw [if_pos (by decide +kernel)]; kernel_rfl) | (rw [if_neg (by decide +kernel)]; exact ⟨rfl, rfl⟩))
    (fun os started H enc _ F => judgeFollows.lifted os started H enc F)
#print axioms judgeFollows_proved
end Go.Proofs.Ytjkoambfecmglaa

namespace Go.Proofs.Ytjkoambfecmglaa
open Go.RowKit
set_option linter.unusedVariables false
set_option linter.unusedSimpArgs false
set_option maxRecDepth 100000
/-- a list that is the same as another, or ahead of it -/
def NotBehind : List Nat → List Nat → Prop
  | [], _ => True
  | _ :: _, [] => False
  | a :: s, b :: t => a < b ∨ (a = b ∧ NotBehind s t)
theorem SP.Finds.least {s : SP} {D : Nat} {bs t : List Nat} (h : s.Finds D bs t) : ∀ {t' : List Nat}, s.Comp D bs t' → NotBehind t t' := by
  induction h with
  | done h => intro t' _; trivial
  | @step D bs k t h1 h2 h3 h4 h5 ih =>
    intro t' h'
    cases h' with
    | done h => rw [h] at h1; cases h1
    | @step _ _ k' t' g1 g2 g3 =>
      rcases Nat.lt_trichotomy k k' with e | e | e
      · exact .inl e
      · subst e; exact .inr ⟨rfl, ih g3⟩
      · exact absurd g3 (h4 k' e g2 _)
/-- the search of an ask -/
abbrev spA (l : List Opv) (dss : List (List Nat)) : SP := spOf l dss (mask (owOf l l.length)) (ahOf l l.length)
theorem sub_mask {ks js : List Nat} {m : Nat} (hm : m ≤ 16) (h1 : ∀ x ∈ ks, x < m) (h2 : ∀ x ∈ js, x < m) : Sub (mask ks) (mask js) = true ↔ ∀ x ∈ ks, x ∈ js := by
  rw [Sub_iff (mask16 hm h2) (mask16 hm h1)]
  constructor
  · intro h x hx
    have := h x (by rw [mask_bit]; exact decide_eq_true hx)
    rw [mask_bit] at this
    exact of_decide_eq_true this
  · intro h i hi
    rw [mask_bit] at hi ⊢
    exact decide_eq_true (h i (of_decide_eq_true hi))
theorem one_mask (k : Nat) : 2 ^ k = mask [k] := by simp [mask]
/-- what may come next in the search is what may come next by the document -/
theorem ok_iff {l : List Opv} {dss : List (List Nat)} (hl : l.length ≤ 10) (hd : dss.length = l.length) {ks : List Nat} (hks : ∀ x ∈ ks, x < l.length) {bs : List Nat} {k : Nat} (hk : k < l.length) :
    (spA l dss).ok (mask ks) bs k = true ↔ ¬ k ∈ ks ∧ Nxt l (ks.map (fun x : Nat => (x : Int))) l[k] l.length ∧ l[k].fit bs (dss[k]'(by omega)) = true := by
  unfold SP.ok
  have h1 : Sub (2 ^ k) (mask ks) = true ↔ k ∈ ks := by
    rw [one_mask, sub_mask (m := l.length) (by omega) (by simpa using hk) hks]; simp
  have e2 : (spA l dss).ah k = mask (befOf l l[k] l.length) := by
    show (ahOf l l.length).getD k 0 = _
    unfold ahOf
    rw [List.getD_eq_getElem?_getD, List.getElem?_map, List.getElem?_range hk]
    simp [hk]
  have h2 : Sub ((spA l dss).ah k) (mask ks) = true ↔ Nxt l (ks.map (fun x : Nat => (x : Int))) l[k] l.length := by
    rw [e2, sub_mask (m := l.length) (by omega) (fun x hx => (befOf_mem.1 hx).1) hks]
    constructor
    · intro h j o hj ho hb
      exact List.mem_map.2 ⟨j, h j (befOf_mem.2 ⟨hj, o, ho, hb⟩), rfl⟩
    · intro h x hx
      obtain ⟨a, o, ho, hb⟩ := befOf_mem.1 hx
      obtain ⟨y, hy, e⟩ := List.mem_map.1 (h x o a ho hb)
      have e' : y = x := Int.ofNat.inj e
      rw [← e']; exact hy
  have e3 : (spA l dss).fit k bs = l[k].fit bs (dss[k]'(by omega)) := by
    show (match l[k]?, dss[k]? with | some p, some ds => p.fit bs ds | _, _ => false) = _
    rw [List.getElem?_eq_getElem hk, List.getElem?_eq_getElem (show k < dss.length by omega)]
  rw [e3, Bool.and_eq_true, Bool.and_eq_true, h2]
  constructor
  · rintro ⟨⟨a, b⟩, c⟩
    refine ⟨fun hin => ?_, b, c⟩
    rw [h1.2 hin] at a; cases a
  · rintro ⟨a, b, c⟩
    refine ⟨⟨?_, b⟩, c⟩
    cases hs : Sub (2 ^ k) (mask ks) with
    | false => rfl
    | true => exact absurd (h1.1 hs) a
theorem eff_at {l : List Opv} {dss : List (List Nat)} (hd : dss.length = l.length) {bs : List Nat} {k : Nat} (hk : k < l.length) : (spA l dss).eff k bs = l[k].eff bs (dss[k]'(by omega)) := by
  show (match l[k]?, dss[k]? with | some p, some ds => p.eff bs ds | _, _ => bs) = _
  rw [List.getElem?_eq_getElem hk, List.getElem?_eq_getElem (show k < dss.length by omega)]
theorem done_iff {l : List Opv} {dss : List (List Nat)} (hl : l.length ≤ 10) {ks : List Nat} (hks : ∀ x ∈ ks, x < l.length) : Sub (spA l dss).A (mask ks) = true ↔ Whl l (ks.map (fun x : Nat => (x : Int))) l.length := by
  show Sub (mask (owOf l l.length)) (mask ks) = true ↔ _
  rw [sub_mask (m := l.length) (by omega) (fun x hx => (owOf_mem.1 hx).1) hks]
  constructor
  · intro h j o hj ho ha
    exact List.mem_map.2 ⟨j, h j (owOf_mem.2 ⟨hj, o, ho, ha⟩), rfl⟩
  · intro h x hx
    obtain ⟨a, o, ho, hb⟩ := owOf_mem.1 hx
    obtain ⟨y, hy, e⟩ := List.mem_map.1 (h x o a ho hb)
    have e' : y = x := Int.ofNat.inj e
    rw [← e']; exact hy
/-- an order of the search is one that the document follows -/
theorem comp_fol {l : List Opv} {dss : List (List Nat)} (hl : l.length ≤ 10) (hd : dss.length = l.length) {first : List Nat} : ∀ (t pre : List Nat) (bs : List Nat), (∀ x ∈ pre, x < l.length) → (spA l dss).Comp (mask pre) bs t → FolR l dss ((pre ++ t).map (fun x : Nat => (x : Int))) first pre.length bs → ∃ bs', FolR l dss ((pre ++ t).map (fun x : Nat => (x : Int))) first (pre ++ t).length bs' ∧ Whl l ((pre ++ t).map (fun x : Nat => (x : Int))) l.length
  | [], pre, bs, hp, hc, hf => by
    cases hc with
    | done h =>
      rw [List.append_nil] at hf ⊢
      exact ⟨bs, hf, (done_iff hl hp).1 h⟩
  | k :: t, pre, bs, hp, hc, hf => by
    cases hc with
    | step h1 h2 h3 =>
      have hk : k < l.length := h1
      obtain ⟨a, b, c⟩ := (ok_iff hl hd hp hk).1 h2
      rw [eff_at hd hk] at h3
      have e1 : mask pre ||| 2 ^ k = mask (pre ++ [k]) := (mask_snoc pre k).symm
      rw [e1] at h3
      have e2 : pre ++ k :: t = (pre ++ [k]) ++ t := by simp
      have htk : ((pre ++ k :: t).map (fun x : Nat => (x : Int))).take pre.length = pre.map (fun x : Nat => (x : Int)) := by
        rw [List.map_append, List.take_append_of_le_length (by simp), List.take_of_length_le (by simp)]
      have hg : Goes l dss ((pre ++ k :: t).map (fun x : Nat => (x : Int))) bs pre.length k l[k] (dss[k]'(by omega)) := by
        refine ⟨by simp, ?_, List.getElem?_eq_getElem hk, List.getElem?_eq_getElem (by omega), ?_, c⟩
        · rw [htk]
          intro hin
          obtain ⟨y, hy, e⟩ := List.mem_map.1 hin
          have e' : y = k := Int.ofNat.inj e
          exact a (by rw [← e']; exact hy)
        · rw [htk]; exact b
      have hf2 := FolR.step hf hg
      have ih := comp_fol hl hd (first := first) t (pre ++ [k]) _ (by
        intro x hx
        rcases List.mem_append.1 hx with h | h
        · exact hp x h
        · rw [List.mem_singleton.1 h]; exact hk) h3
      rw [← e2] at ih
      rw [show (pre ++ [k]).length = pre.length + 1 by simp] at ih
      exact ih hf2
/-- an order that the document follows is one of the search -/
theorem fol_nat {l : List Opv} {dss : List (List Nat)} {ord : List Int} {first : List Nat} : ∀ {i : Nat} {bs : List Nat}, FolR l dss ord first i bs → i ≤ ord.length → ∃ ks : List Nat, ord.take i = ks.map (fun x : Nat => (x : Int)) ∧ ks.length = i ∧ ∀ x ∈ ks, x < l.length
  | 0, _, .nil, _ => ⟨[], by simp, rfl, by simp⟩
  | i + 1, _, .step (k := k) hf hg, hi => by
    obtain ⟨ks, h1, h2, h3⟩ := fol_nat hf (by omega)
    obtain ⟨g1, _, g3, _⟩ := hg
    have hk := (List.getElem?_eq_some_iff.1 g3).1
    refine ⟨ks ++ [k], ?_, by simp [h2], fun x hx => ?_⟩
    · rw [List.take_add_one, g1, h1]; simp
    · rcases List.mem_append.1 hx with h | h
      · exact h3 x h
      · rw [List.mem_singleton.1 h]; exact hk
theorem fol_comp {l : List Opv} {dss : List (List Nat)} (hl : l.length ≤ 10) (hd : dss.length = l.length) {first : List Nat} {ord : List Int} {ks : List Nat} (ho : ord = ks.map (fun x : Nat => (x : Int))) (hks : ∀ x ∈ ks, x < l.length) : ∀ {i : Nat} {bs : List Nat}, FolR l dss ord first i bs → i ≤ ks.length → ∀ t, (spA l dss).Comp (mask (ks.take i)) bs t → (spA l dss).Comp 0 first (ks.take i ++ t)
  | 0, _, .nil, _, t, hc => by simpa [mask] using hc
  | i + 1, _, .step (k := k) (bs := bs) (ds := ds) (p := p) hf hg, hi, t, hc => by
    obtain ⟨g1, g2, g3, g4, g5, g6⟩ := hg
    have hki : ks[i]? = some k := by
      rw [ho, List.getElem?_map] at g1
      cases hx : ks[i]? with
      | none => rw [hx] at g1; cases g1
      | some x => rw [hx] at g1; have := Option.some.inj g1; rw [Int.ofNat.inj this]
    have hk := (List.getElem?_eq_some_iff.1 g3).1
    have hkp : l[k] = p := (List.getElem?_eq_some_iff.1 g3).2
    have hkd : dss[k]'(by omega) = ds := (List.getElem?_eq_some_iff.1 g4).2
    have e1 : ks.take (i + 1) = ks.take i ++ [k] := by rw [List.take_add_one, hki]; rfl
    have hpre : ∀ x ∈ ks.take i, x < l.length := fun x hx => hks x (List.mem_of_mem_take hx)
    have etk : ord.take i = (ks.take i).map (fun x : Nat => (x : Int)) := by rw [ho, List.map_take]
    rw [etk] at g2 g5
    rw [e1, mask_snoc] at hc
    have hc2 : (spA l dss).Comp (mask (ks.take i)) bs (k :: t) := by
      refine .step hk ((ok_iff hl hd hpre hk).2 ⟨fun hin => g2 (List.mem_map.2 ⟨k, hin, rfl⟩), by rw [hkp]; exact g5, by rw [hkp, hkd]; exact g6⟩) ?_
      rw [eff_at hd hk, hkp, hkd]; exact hc
    have := fol_comp hl hd ho hks hf (by omega) (k :: t) hc2
    rw [e1, List.append_assoc]
    exact this
end Go.Proofs.Ytjkoambfecmglaa

namespace Go.Proofs.Ytjkoambfecmglaa
open Go.RowKit
set_option linter.unusedVariables false
set_option linter.unusedSimpArgs false
set_option maxRecDepth 100000
theorem NotBehind.at_ : ∀ {s t : List Nat} (i : Nat), NotBehind s t → s.take i = t.take i → i < s.length → ∃ a b, s[i]? = some a ∧ t[i]? = some b ∧ a ≤ b
  | [], t, i, _, _, h => by simp at h
  | a :: s, [], i, h, _, _ => h.elim
  | a :: s, b :: t, 0, h, _, _ => by
    rcases h with h | ⟨h, _⟩
    · exact ⟨a, b, rfl, rfl, by omega⟩
    · exact ⟨a, b, rfl, rfl, by omega⟩
  | a :: s, b :: t, i + 1, h, e, hl => by
    simp at e
    rcases h with h | ⟨_, h⟩
    · omega
    · obtain ⟨x, y, h1, h2, h3⟩ := NotBehind.at_ i h e.2 (by simpa using hl)
      exact ⟨x, y, by simpa using h1, by simpa using h2, h3⟩
set_option maxHeartbeats 1000000 in
theorem notBehind_any (ao bo : Option Addr) (c c' n m : Nat) (s t : List Nat) (w : World) (hl : s.length = n) (hm : t.length = m) (hn : n ≤ 17592186044416) (hm2 : m ≤ 17592186044416) (h : ZRow w ao (s.map (fun x : Nat => (x : Int)))) (h' : ZRow w bo (t.map (fun x : Nat => (x : Int)))) (hb : NotBehind s t) :
    Calls Try.prog 21 #[.slice ao n c, .slice bo m c'] w fun e w' => e = .returned (.bool true) ∧ ∃ q, w' = w.drewN q := by
  have HL : Hid (s.length = n ∧ t.length = m ∧ NotBehind s t) := ⟨hl, hm, hb⟩
  have HZ : Hid (ZRow w ao (s.map (fun x : Nat => (x : Int))) ∧ ZRow w bo (t.map (fun x : Nat => (x : Int)))) := ⟨h, h'⟩
  clear h h' hl hm hb
  go_enter Try.func21, Try.ntmps21
  go_wp2
  go_loopw [5] (fun i wr => ∃ k q : Nat, k ≤ n ∧ i = .int .i64 k ∧ wr = w.drewN q ∧ Hid (s.take k = t.take k)) (fun i _ => n - (intOf i).toNat)
  case atStart => exact ⟨0, 0, Nat.zero_le _, rfl, rfl, by show _ = _; simp⟩
  case round =>
    obtain ⟨k, q, hk, rfl, rfl, HT⟩ := hrel
    by_cases hlt : k < n
    · obtain ⟨x, y, hx, hy, hxy⟩ := HL.out.2.2.at_ k HT.out (by rw [HL.out.1]; exact hlt)
      have hkt : k < m := by rw [← HL.out.2.1]; exact (List.getElem?_eq_some_iff.1 hy).1
      have n9 : decide ((k : Int) < (n : Int)) = true := decide_eq_true (by omega)
      have n8 : decide ((k : Int) < (m : Int)) = true := decide_eq_true (by omega)
      have n7 : decide ((m : Int) ≤ (k : Int)) = false := decide_eq_false (by omega)
      have n6 : decide ((y : Int) < (x : Int)) = false := decide_eq_false (by omega)
      obtain ⟨b, off, e1, hc⟩ := HZ.out.1.at_ (by intro e; rw [List.map_eq_nil_iff.1 e] at hx; simp at hx)
      obtain ⟨b', off', e2, hd⟩ := HZ.out.2.at_ (by intro e; rw [List.map_eq_nil_iff.1 e] at hy; simp at hy)
      subst e1 e2
      have h1 := hc k (by rw [List.length_map, HL.out.1]; exact hlt)
      have h2 := hd k (by rw [List.length_map, HL.out.2.1]; exact hkt)
      have ex : s[k]'(by rw [HL.out.1]; exact hlt) = x := (List.getElem?_eq_some_iff.1 hx).2
      have ey : t[k]'(by rw [HL.out.2.1]; exact hkt) = y := (List.getElem?_eq_some_iff.1 hy).2
      rw [List.getElem_map, ex] at h1
      rw [List.getElem_map, ey] at h2
      have HS : Hid (x = y → s.take (k + 1) = t.take (k + 1)) := fun e => by rw [List.take_add_one, List.take_add_one, hx, hy, HT.out, e]
      clear hc hd ex ey hx hy
      by_cases hz : x < y
      · have n5 : decide ((x : Int) < (y : Int)) = true := decide_eq_true (by omega)
        go_wp2
        go_quiet (fail)
        go_wp2
        go_quiet (fail)
        go_wp2
        go_ret
        exact ⟨rfl, _, by rw [World.drewN_drewN, World.drewN_drewN]⟩
      · have n5 : decide ((x : Int) < (y : Int)) = false := decide_eq_false (by omega)
        have HS2 : Hid (s.take (k + 1) = t.take (k + 1)) := HS.out (by omega)
        go_wp2
        go_quiet (fail)
        go_wp2
        go_quiet (fail)
        go_wp2
        go_roundw
        case rel => exact ⟨k + 1, _, by omega, by go_num, rfl, HS2⟩
        case measure => simp [intOf]; omega
    · go_wp2
      go_ret
      exact ⟨rfl, _, rfl⟩
end Go.Proofs.Ytjkoambfecmglaa

namespace Go.Proofs.Ytjkoambfecmglaa
open Go.RowKit
set_option linter.unusedVariables false
set_option linter.unusedSimpArgs false
set_option maxRecDepth 100000
theorem Sib.trans {p q r : Opv} (h : Sib p q) (h2 : Sib q r) : Sib p r := by
  unfold Sib at *
  rw [h2]
  congr 1 <;> rw [h]
theorem Sibs.trans {a b c : List Opv} (h : Sibs a b) (h2 : Sibs b c) : Sibs a c :=
  ⟨h2.len.trans h.len, fun k p q hp hq => by
    obtain ⟨x, hx, hs⟩ := h.get hp
    exact hs.trans (h2.sib k x q hx hq)⟩
theorem fol_ok {l : List Opv} {dss : List (List Nat)} {ord : List Int} {first bs : List Nat} {n : Nat} {W : World} {v : Value} {at_ en : Int} (h : FolOut l dss ord first n W v at_ en) (hw : wrg n l = 0) (hf : FolR l dss ord first ord.length bs) (hy : Whl l ord l.length) : en = 0 := by
  rcases h with ⟨h1, _⟩ | ⟨h1, i, bs2, h2, h3, h4, _⟩ | ⟨h1, bs2, h2, h3, h4⟩ | ⟨h1, bs2, co, cc, h2, h3, h4, h5, h6, h7, h8⟩
  · exact absurd hw h1
  · obtain ⟨bs0, k, p, ds, q1, q2⟩ := hf.goes h3
    cases FolR.det h2 q1
    exact absurd q2 (h4 k p ds)
  · exact absurd hy h3
  · exact h8
theorem fol_alive {l l3 : List Opv} {dss : List (List Nat)} {ord : List Int} {first : List Nat} {n : Nat} {W : World} {v : Value} {at_ en : Int} (h : FolOut l3 dss ord first n W v at_ en) (he : en = 0) (hs : Sibs l l3) (hd : dss.length = l.length) : wrg n l = 0 ∧ (l.length ≤ 10 → ∃ ks' : List Nat, ord = ks'.map (fun x : Nat => (x : Int)) ∧ (spA l dss).Comp 0 first ks') := by
  rcases hs.symm.folOut h with ⟨h1, _, _, h4⟩ | ⟨h1, i, bs2, _, _, _, _, _, h7⟩ | ⟨h1, bs2, _, _, _, _, h6⟩ | ⟨h1, bs2, co, cc, h2, h3, _⟩
  · omega
  · omega
  · omega
  · refine ⟨h1, fun hl => ?_⟩
    obtain ⟨ks, k1, k2, k3⟩ := fol_nat h2 (Nat.le_refl _)
    rw [List.take_length] at k1
    refine ⟨ks, k1, ?_⟩
    have h9 := fol_comp hl hd k1 k3 h2 (by omega) [] (by
      rw [← k2, List.take_length]
      refine .done ((done_iff hl k3).2 ?_)
      rw [← k1]; exact h3)
    rw [← k2, List.take_length, List.append_nil] at h9
    exact h9
theorem fol_nodup {l : List Opv} {dss : List (List Nat)} {ord : List Int} {first : List Nat} : ∀ {i : Nat} {bs : List Nat}, FolR l dss ord first i bs → i ≤ ord.length → (ord.take i).Nodup
  | 0, _, .nil, _ => by simp
  | i + 1, _, .step (k := k) hf hg, hi => by
    obtain ⟨g1, g2, _⟩ := hg
    rw [List.take_add_one, g1]
    refine List.nodup_append.2 ⟨fol_nodup hf (by omega), by simp, fun a ha b hb e => ?_⟩
    simp at hb
    rw [e, hb] at ha
    exact g2 ha
set_option maxHeartbeats 64000000 in
/-- the law JudgeFinds -/
theorem finds_any (w : World) (fa oa za : Option Addr) (n fc m oc d zc : Nat) (first : List Nat) (l : List Opv) (dss : List (List Nat)) (ord : List Int) (hb : BRow w fa fc first) (hn : first.length = n) (h : OpsD w oa l dss) (hm : l.length = m) (hs : m ≤ 1048576) (hz : ZRow w za ord) (hd : ord.length = d) (hds : d ≤ 1048576) :
    Calls Try.prog 6 #[.slice fa n fc, .slice oa m oc, .slice za d zc] w fun e w' => e = .returned (.bool true) ∧ Below w.heap.size w w' := by
  have HD : Hid (BRow w fa fc first ∧ first.length = n ∧ OpsD w oa l dss ∧ l.length = m ∧ ZRow w za ord ∧ ord.length = d) := ⟨hb, hn, h, hm, hz, hd⟩
  have HM : Hid (m ≤ 1048576 ∧ d ≤ 1048576) := ⟨hs, hds⟩
  have HO1 : Hid _ := ops_any oa m oc l dss w h hm hs
  clear hb hn h hm hs hz hd hds
  go_enter Try.func6, Try.ntmps6
  go_wp2_with fail
  refine Calls.mono HO1.out ?_
  rintro e W1 ⟨oa1, oc1, l1, rfl, hb1, hO1, hl1, hs1⟩
  have H1 : Hid (Below w.heap.size w W1 ∧ OpsD W1 oa1 l1 dss ∧ Sibs l l1) := ⟨hb1, hO1, ⟨by rw [hl1, HD.out.2.2.2.1], hs1⟩⟩
  have HOr : Hid _ := order_any fa oa1 n fc m oc1 first l1 dss W1 (HD.out.1.later hb1) HD.out.2.1 hO1 hl1 (by have := HM.out.1; omega)
  clear hb1 hO1 hl1 hs1 HO1
  go_wp2_with fail
  refine Calls.mono HOr.out ?_
  rintro e W2 ⟨v, ok, en, rfl, hout, hb2⟩
  have hOut : Hid _ := hout
  have HB2 : Hid (Below w.heap.size w W2) := H1.out.1.trans (hb2.mono H1.out.1.size)
  clear hout hb2 HOr
  cases ok with
  | false =>
    have HBv : Hid (Below w.heap.size w W2) := HB2.out
    have HO3 : Hid _ := ops_any oa m oc l dss W2 (HD.out.2.2.1.later HBv.out) HD.out.2.2.2.1 HM.out.1
    go_wp2_with fail
    refine Calls.mono HO3.out ?_
    rintro e Z1 ⟨oa3, oc3, l3, rfl, hz1, hO3, hl3, hs3⟩
    have HZ1 : Hid (Below w.heap.size w Z1 ∧ Sibs l l3) := ⟨HBv.out.trans (hz1.mono HBv.out.size), ⟨by rw [hl3, HD.out.2.2.2.1], hs3⟩⟩
    have HF3 : Hid _ := follow_any fa oa3 za n fc m oc3 d zc first l3 dss ord Z1 (HD.out.1.later HZ1.out.1) HD.out.2.1 hO3 hl3 (by have := HM.out.1; omega) (HD.out.2.2.2.2.1.later HZ1.out.1) HD.out.2.2.2.2.2 (by have := HM.out.2; omega)
    have HV1 : Hid (Below W2.heap.size W2 Z1) := hz1
    clear hz1 hO3 hl3 hs3 HO3
    go_wp2_with fail
    refine Calls.mono HF3.out ?_
    rintro e Z2 ⟨v3, at3, en3, rfl, hf3, hn3, hb3⟩
    have HZ2 : Hid (Below w.heap.size w Z2 ∧ FolOut l3 dss ord first n Z2 v3 at3 en3 ∧ Below W2.heap.size W2 Z2) := ⟨HZ1.out.1.trans (hb3.mono HZ1.out.1.size), hf3, HV1.out.trans (hb3.mono HV1.out.size)⟩
    clear hf3 hn3 hb3 HF3
    by_cases hg : en3 = 0
    · have n5 : (en3 == 0) = true := by simp [hg]
      have n6 : (en3 != 0) = false := by simp [hg]
      obtain ⟨hw0, halive⟩ := fol_alive HZ2.out.2.1 hg (H1.out.2.2.symm.trans HZ1.out.2) (by rw [HD.out.2.2.1.len, H1.out.2.2.len])
      have HAl : Hid _ := halive
      subst hg
      have hen : 10 < m ∧ en = 170 := by
        rcases hOut.out with ⟨h1, _, _, h4⟩ | ⟨_, h2, _⟩ | ⟨_, _, _, h4, _⟩ | ⟨h1, h2, h3, h4, h5, h6⟩
        · exact ⟨by rw [H1.out.2.2.len, HD.out.2.2.2.1] at h1; exact h1, h4⟩
        · exact absurd hw0 h2
        · cases h4
        · obtain ⟨ks', _, h8⟩ := HAl.out h1
          exact absurd h8 (h6 ks')
      obtain ⟨hen1, rfl⟩ := hen
      have n10 : decide ((10 : Int) < (m : Int)) = true := decide_eq_true (by omega)
      clear hw0 halive
      go_wp2_with fail
      refine Calls.mono (heads_any Z2) ?_
      rintro e Z3 ⟨rfl, hz3⟩
      have HZ3 : Hid (Below w.heap.size w Z3) := HZ2.out.1.trans (hz3.mono HZ2.out.1.size)
      clear hz3
      go_wp2_with fail
      go_ret
      exact ⟨rfl, HZ3.out⟩

    · have n5 : (en3 == 0) = false := by simp [hg]
      have n6 : (en3 != 0) = true := by simp [hg]
      go_wp2_with fail
      refine Calls.mono (heads_any Z2) ?_
      rintro e Z3 ⟨rfl, hz3⟩
      have HZ3 : Hid (Below w.heap.size w Z3) := HZ2.out.1.trans (hz3.mono HZ2.out.1.size)
      clear hz3
      go_wp2_with fail
      go_ret
      exact ⟨rfl, HZ3.out⟩

  | true =>
    obtain ⟨h10, hwz, rfl, hks⟩ : l1.length ≤ 10 ∧ wrg n l1 = 0 ∧ en = 0 ∧ ∃ ks za zc, v = .slice za ks.length zc ∧ (spA l1 dss).Finds 0 first ks ∧ W2.ownsRow W1.heap.size 3 1 (.slice za ks.length zc) ks.length (ks.map iv) := by
      rcases hOut.out with ⟨_, _, h3, _⟩ | ⟨_, _, _, h3, _⟩ | ⟨h1, h2, h3, _, h5⟩ | ⟨_, _, _, h3, _⟩
      · cases h3
      · cases h3
      · exact ⟨h1, h2, h3, h5⟩
      · cases h3
    obtain ⟨ks, za1, zc1, rfl, hF, hrow⟩ := hks
    have hmap : ks.map iv = (ks.map (fun x : Nat => (x : Int))).map (Value.int .i64) := by rw [List.map_map]; rfl
    rw [hmap] at hrow
    obtain ⟨kk, hkk⟩ : ∃ kk, ks.length = kk := ⟨_, rfl⟩
    rw [hkk] at hrow ⊢
    obtain ⟨za9, zc9, hv1, hzk⟩ := zrow_own hrow (by rw [List.length_map]; exact hkk)
    cases hv1
    obtain ⟨bsF, hfolR, hwhl⟩ := comp_fol h10 (by rw [HD.out.2.2.1.len, H1.out.2.2.len]) (first := first) ks [] first (by simp) (by simpa [mask] using hF.comp) .nil
    rw [List.nil_append] at hfolR hwhl
    have hkl : kk ≤ 10 := by
      rw [← hkk]
      obtain ⟨ks2, e1, e2, e3⟩ := fol_nat hfolR (by simp)
      have hnd := fol_nodup hfolR (by simp)
      rw [e1] at hnd
      have hnd2 : ks2.Nodup := (List.pairwise_map.1 hnd).imp fun h e => h (by rw [e])
      have := nodup_lt hnd2 e3
      try simp at e2
      omega
    have HKs : Hid (l1.length ≤ 10 ∧ wrg n l1 = 0 ∧ (spA l1 dss).Finds 0 first ks ∧ kk ≤ 10 ∧ ks.length = kk) := ⟨h10, hwz, hF, hkl, hkk⟩
    have HFo : Hid (FolR l1 dss (ks.map (fun x : Nat => (x : Int))) first ks.length bsF ∧ Whl l1 (ks.map (fun x : Nat => (x : Int))) l1.length) := ⟨hfolR, hwhl⟩
    have HZ2k : Hid (ZRow W2 za1 (ks.map (fun x : Nat => (x : Int)))) := hzk
    have HO2 : Hid _ := ops_any oa m oc l dss W2 (HD.out.2.2.1.later HB2.out) HD.out.2.2.2.1 HM.out.1
    clear h10 hwz hF hrow hmap hkk hzk hfolR hwhl hkl
    go_wp2_with fail
    refine Calls.mono HO2.out ?_
    rintro e W3 ⟨oa2, oc2, l2, rfl, hb3, hO2, hl2, hs2⟩
    have H3 : Hid (Below w.heap.size w W3 ∧ Sibs l l2 ∧ Below W2.heap.size W2 W3) := ⟨HB2.out.trans (hb3.mono HB2.out.size), ⟨by rw [hl2, HD.out.2.2.2.1], hs2⟩, hb3⟩
    have HF2 : Hid _ := follow_any fa oa2 za1 n fc m oc2 kk zc1 first l2 dss (ks.map (fun x : Nat => (x : Int))) W3 (HD.out.1.later H3.out.1) HD.out.2.1 hO2 hl2 (by have := HM.out.1; omega) (HZ2k.out.later hb3) (by rw [List.length_map]; exact HKs.out.2.2.2.2) (by have := HKs.out.2.2.2.1; omega)
    clear hb3 hO2 hl2 hs2 HO2
    go_wp2_with fail
    refine Calls.mono HF2.out ?_
    rintro e W4 ⟨v2, at2, en2, rfl, hf2, hn2, hb4⟩
    have h0 : en2 = 0 := fol_ok ((H3.out.2.1.symm.trans H1.out.2.2).folOut hf2) HKs.out.2.1 (by have := HFo.out.1; rw [List.length_map]; exact this) HFo.out.2
    subst h0
    have HBv : Hid (Below w.heap.size w W4) := H3.out.1.trans (hb4.mono H3.out.1.size)
    have HZk : Hid (ZRow W4 za1 (ks.map (fun x : Nat => (x : Int)))) := HZ2k.out.later (H3.out.2.2.trans (hb4.mono H3.out.2.2.size))
    clear hf2 hn2 hb4 HF2
    have HO3 : Hid _ := ops_any oa m oc l dss W4 (HD.out.2.2.1.later HBv.out) HD.out.2.2.2.1 HM.out.1
    go_wp2_with fail
    refine Calls.mono HO3.out ?_
    rintro e Z1 ⟨oa3, oc3, l3, rfl, hz1, hO3, hl3, hs3⟩
    have HZ1 : Hid (Below w.heap.size w Z1 ∧ Sibs l l3) := ⟨HBv.out.trans (hz1.mono HBv.out.size), ⟨by rw [hl3, HD.out.2.2.2.1], hs3⟩⟩
    have HF3 : Hid _ := follow_any fa oa3 za n fc m oc3 d zc first l3 dss ord Z1 (HD.out.1.later HZ1.out.1) HD.out.2.1 hO3 hl3 (by have := HM.out.1; omega) (HD.out.2.2.2.2.1.later HZ1.out.1) HD.out.2.2.2.2.2 (by have := HM.out.2; omega)
    have HV1 : Hid (Below W4.heap.size W4 Z1) := hz1
    clear hz1 hO3 hl3 hs3 HO3
    go_wp2_with fail
    refine Calls.mono HF3.out ?_
    rintro e Z2 ⟨v3, at3, en3, rfl, hf3, hn3, hb3⟩
    have HZ2 : Hid (Below w.heap.size w Z2 ∧ FolOut l3 dss ord first n Z2 v3 at3 en3 ∧ Below W4.heap.size W4 Z2) := ⟨HZ1.out.1.trans (hb3.mono HZ1.out.1.size), hf3, HV1.out.trans (hb3.mono HV1.out.size)⟩
    clear hf3 hn3 hb3 HF3
    by_cases hg : en3 = 0
    · have n5 : (en3 == 0) = true := by simp [hg]
      have n6 : (en3 != 0) = false := by simp [hg]
      obtain ⟨hw0, halive⟩ := fol_alive HZ2.out.2.1 hg (H1.out.2.2.symm.trans HZ1.out.2) (by rw [HD.out.2.2.1.len, H1.out.2.2.len])
      have HAl : Hid _ := halive
      subst hg
      have HCt : Hid (∃ ks' : List Nat, ord = ks'.map (fun x : Nat => (x : Int)) ∧ NotBehind ks ks') := by
        obtain ⟨ks', h1, h2⟩ := HAl.out HKs.out.1
        exact ⟨ks', h1, HKs.out.2.2.1.least h2⟩
      have n10 : decide ((10 : Int) < (m : Int)) = false := decide_eq_false (by have := HKs.out.1; have := H1.out.2.2.len; have := HD.out.2.2.2.1; omega)
      have HNb : Hid (Calls Try.prog 21 #[.slice za1 kk zc1, .slice za d zc] Z2 fun e w' => e = .returned (.bool true) ∧ ∃ q, w' = Z2.drewN q) := by
        obtain ⟨ks', h1, h2⟩ := HCt.out
        have h3 := HD.out.2.2.2.2.1.later HZ2.out.1
        have h4 : ks'.length = d := by have := HD.out.2.2.2.2.2; rw [h1, List.length_map] at this; exact this
        rw [h1] at h3
        exact notBehind_any za1 za zc1 zc kk d ks ks' Z2 HKs.out.2.2.2.2 h4 (by have := HKs.out.2.2.2.1; omega) (by have := HM.out.2; omega) ((HZk.out.later HZ2.out.2.2)) h3 h2
      clear hw0 halive
      go_wp2_with fail
      refine Calls.mono HNb.out ?_
      rintro e Z3 ⟨rfl, q3, hq3⟩
      have HZ3 : Hid (Below w.heap.size w Z3) := by
        subst hq3
        exact HZ2.out.1.trans ⟨rfl, rfl, rfl, Nat.le_refl _, fun _ _ => rfl⟩
      clear hq3
      go_wp2_with fail
      refine Calls.mono (heads_any Z3) ?_
      rintro e Z4 ⟨rfl, hz4⟩
      have HZ4 : Hid (Below w.heap.size w Z4) := HZ3.out.trans (hz4.mono HZ3.out.size)
      clear hz4
      go_wp2_with fail
      go_ret
      exact ⟨rfl, HZ4.out⟩

    · have n5 : (en3 == 0) = false := by simp [hg]
      have n6 : (en3 != 0) = true := by simp [hg]
      go_wp2_with fail
      refine Calls.mono (heads_any Z2) ?_
      rintro e Z3 ⟨rfl, hz3⟩
      have HZ3 : Hid (Below w.heap.size w Z3) := HZ2.out.1.trans (hz3.mono HZ2.out.1.size)
      clear hz3
      go_wp2_with fail
      go_ret
      exact ⟨rfl, HZ3.out⟩

end Go.Proofs.Ytjkoambfecmglaa

namespace Go.Proofs.Ytjkoambfecmglaa
open Go.RowKit
set_option linter.unusedVariables false
set_option linter.unusedSimpArgs false
set_option maxRecDepth 100000
abbrev zs (ks : List Nat) : List Int := ks.map (fun x : Nat => (x : Int))
/-- what the document's search answers from here on -/
def FindOut (l : List Opv) (dss : List (List Nat)) (pre bs : List Nat) (w' : World) (v : Value) (ok : Bool) : Prop :=
  (ok = true ∧ ∃ (t : List Nat) (za : Option Addr) (zc : Nat), v = .slice za (pre ++ t).length zc ∧ (spA l dss).Finds (mask pre) bs t ∧ ZRow w' za (zs (pre ++ t))) ∨
  (ok = false ∧ v = .slice none 0 0 ∧ (spA l dss).Dead (mask pre) bs)
def FindEnd (l : List Opv) (dss : List (List Nat)) (pre bs : List Nat) (w : World) (e : Ending) (w' : World) : Prop :=
  ∃ v ok, e = .returned (.tuple #[v, .bool ok]) ∧ FindOut l dss pre bs w' v ok ∧ Below w.heap.size w w'
theorem FindEnd.mk {l : List Opv} {dss : List (List Nat)} {pre bs : List Nat} {w w' : World} {e : Ending} (v : Value) (ok : Bool) (h1 : e = .returned (.tuple #[v, .bool ok])) (h2 : FindOut l dss pre bs w' v ok) (h3 : Below w.heap.size w w') : FindEnd l dss pre bs w e w' := ⟨v, ok, h1, h2, h3⟩
theorem zs_mem {ks : List Nat} {k : Nat} : (k : Int) ∈ zs ks ↔ k ∈ ks := by
  constructor
  · intro h
    obtain ⟨y, hy, e⟩ := List.mem_map.1 h
    have e' : y = k := Int.ofNat.inj e
    rw [← e']; exact hy
  · intro h; exact List.mem_map.2 ⟨k, h, rfl⟩
theorem ok_may {l : List Opv} {dss : List (List Nat)} (hl : l.length ≤ 10) (hd : dss.length = l.length) {pre : List Nat} (hp : ∀ x ∈ pre, x < l.length) {bs ds : List Nat} {k : Nat} {p : Opv} (hk : l[k]? = some p) (hds : dss[k]? = some ds) :
    (spA l dss).ok (mask pre) bs k = true ↔ MayN l (zs pre) (k : Int) ∧ p.fit bs ds = true := by
  have hkl := (List.getElem?_eq_some_iff.1 hk).1
  have e1 : l[k] = p := (List.getElem?_eq_some_iff.1 hk).2
  have e2 : dss[k]'(by omega) = ds := (List.getElem?_eq_some_iff.1 hds).2
  rw [ok_iff hl hd hp hkl, e1, e2]
  constructor
  · rintro ⟨a, b, c⟩
    exact ⟨⟨fun h => a (zs_mem.1 h), k, p, rfl, hk, b⟩, c⟩
  · rintro ⟨⟨a, k', p', e, h, b⟩, c⟩
    have e' : k = k' := Int.ofNat.inj e
    subst e'
    rw [hk] at h; cases h
    exact ⟨fun h => a (zs_mem.2 h), b, c⟩
theorem eff_of {l : List Opv} {dss : List (List Nat)} (hd : dss.length = l.length) {bs ds : List Nat} {k : Nat} {p : Opv} (hk : l[k]? = some p) (hds : dss[k]? = some ds) : (spA l dss).eff k bs = p.eff bs ds := by
  have hkl := (List.getElem?_eq_some_iff.1 hk).1
  rw [eff_at hd hkl, (List.getElem?_eq_some_iff.1 hk).2, (List.getElem?_eq_some_iff.1 hds).2]
/-- so far nothing leads on -/
def DeadTo (l : List Opv) (dss : List (List Nat)) (pre bs : List Nat) (i : Nat) : Prop := ∀ j, j < i → (spA l dss).ok (mask pre) bs j = true → (spA l dss).Dead (mask pre ||| 2 ^ j) ((spA l dss).eff j bs)
theorem DeadTo.succ {l : List Opv} {dss : List (List Nat)} {pre bs : List Nat} {i : Nat} (h : DeadTo l dss pre bs i) (h2 : (spA l dss).ok (mask pre) bs i = true → (spA l dss).Dead (mask pre ||| 2 ^ i) ((spA l dss).eff i bs)) : DeadTo l dss pre bs (i + 1) := fun j hj ho => by
  rcases Nat.lt_or_ge j i with h1 | h1
  · exact h j h1 ho
  · have e : j = i := by omega
    subst e; exact h2 ho
theorem belowDrawn {W V : World} {g : Option Nat} {B : Nat} (hg : W.grownBy V g) (hB : B ≤ W.heap.size) (hx : ∀ k, g = some k → B ≤ k) : Below B W V := (Below.refl B W).grown hg hB hx
set_option maxHeartbeats 16000000 in
theorem rFind_step (ba oa da : Option Addr) (n bc m oc d dc : Nat) (bs pre : List Nat) (l : List Opv) (dss : List (List Nat)) (w : World) (hb : BRow w ba bc bs) (hn : bs.length = n) (h : OpsD w oa l dss) (hm : l.length = m) (hm10 : m ≤ 10) (hw : wrg n l = 0) (hz : ZRow w da (zs pre)) (hd : pre.length = d) (hd10 : d ≤ 10) (hzn : da = none → d = 0 ∧ dc = 0) (hp : ∀ x ∈ pre, x < m)
    (IH : ∀ (W : World) (k : Nat) (ba' : Option Addr) (a' : Addr) (bc' dc' : Nat) (bs' : List Nat), Below w.heap.size w W → k < m → ¬ k ∈ pre → bs'.length = n → BRow W ba' bc' bs' → ZRow W (some a') (zs (pre ++ [k])) → Calls Try.prog 34 #[.slice ba' n bc', .slice oa m oc, .slice (some a') (d + 1) dc'] W (FindEnd l dss (pre ++ [k]) bs' W)) :
    Calls Try.prog 34 #[.slice ba n bc, .slice oa m oc, .slice da d dc] w (FindEnd l dss pre bs w) := by
  have HWh : Hid _ := rWhole_any oa da m oc d dc l (zs pre) w h.ops hm (by omega) hz (by rw [List.length_map]; exact hd) (by omega)
  have HD : Hid (BRow w ba bc bs ∧ bs.length = n ∧ OpsD w oa l dss ∧ l.length = m ∧ ZRow w da (zs pre) ∧ pre.length = d) := ⟨hb, hn, h, hm, hz, hd⟩
  have HP : Hid (wrg n l = 0 ∧ (da = none → d = 0 ∧ dc = 0) ∧ (∀ x ∈ pre, x < l.length) ∧ l.length ≤ 10 ∧ dss.length = l.length) := ⟨hw, hzn, by rw [hm]; exact hp, by omega, h.len⟩
  have HI : Hid (∀ (W : World) (k : Nat) (ba' : Option Addr) (a' : Addr) (bc' dc' : Nat) (bs' : List Nat), Below w.heap.size w W → k < m → ¬ k ∈ pre → bs'.length = n → BRow W ba' bc' bs' → ZRow W (some a') (zs (pre ++ [k])) → Calls Try.prog 34 #[.slice ba' n bc', .slice oa m oc, .slice (some a') (d + 1) dc'] W (FindEnd l dss (pre ++ [k]) bs' W)) := IH
  have HNx : Hid (∀ W (k : Nat), Below w.heap.size w W → Calls Try.prog 29 #[.slice oa m oc, .slice da d dc, .int .i64 (k : Int)] W fun e w' => ∃ r : Bool, e = .returned (.bool r) ∧ (r = true ↔ MayN l (zs pre) (k : Int)) ∧ Below W.heap.size W w') := fun W k hb9 => rNext_all oa da m oc d dc l (zs pre) k W (h.ops.later hb9) hm (by omega) (hz.later hb9) (by rw [List.length_map]; exact hd) (by omega)
  clear hb hn h hm hz hd hw hzn hp IH
  go_enter Try.func34, Try.ntmps34
  go_wp2_with fail
  refine Calls.mono HWh.out ?_
  rintro e W0 ⟨r, rfl, hr, hb0⟩
  have HB0 : Hid (Below w.heap.size w W0 ∧ (r = true ↔ Whl l (zs pre) m)) := ⟨hb0, hr⟩
  clear hb0 hr HWh
  cases r with
  | true =>
    have HDn : Hid ((spA l dss).Finds (mask pre) bs []) := .done ((done_iff HP.out.2.2.2.1 HP.out.2.2.1).2 (by have := HB0.out.2.1 rfl; rw [← HD.out.2.2.2.1] at this; exact this))
    have HRz : Hid (ZRow W0 da (zs (pre ++ []))) := by
      have := HD.out.2.2.2.2.1.later HB0.out.1
      rw [← List.append_nil pre] at this; exact this
    have HLn : Hid ((pre ++ []).length = d) := by show _ = _; rw [List.append_nil]; exact HD.out.2.2.2.2.2
    go_wp2
    go_ret2
    exact FindEnd.mk (.slice da d dc) true rfl (.inl ⟨rfl, [], da, dc, by rw [HLn.out], HDn.out, HRz.out⟩) HB0.out.1
  | false =>
    have HNd : Hid (Sub (spA l dss).A (mask pre) = false) := by
      show _ = _
      cases hs : Sub (spA l dss).A (mask pre) with
      | false => rfl
      | true =>
        have h1 := (done_iff HP.out.2.2.2.1 HP.out.2.2.1).1 hs
        rw [HD.out.2.2.2.1] at h1
        cases HB0.out.2.2 h1
    go_wp2
    go_loopw [9] (fun iv wr => ∃ i : Nat, i ≤ m ∧ iv = .int .i64 (i : Int) ∧ Hid (Below w.heap.size w wr ∧ DeadTo l dss pre bs i)) (fun iv _ => m - (intOf iv).toNat)
    case atStart => exact ⟨0, Nat.zero_le _, rfl, HB0.out.1, fun j hj => by omega⟩
    case round =>
      obtain ⟨i, hi, rfl, HB⟩ := hrel
      by_cases hlt : i < m
      · have n9 : decide ((i : Int) < (m : Int)) = true := decide_eq_true (by omega)
        have ii0 : (0 : Int) ≤ (i : Int) := by omega
        have ii9 : (i : Int) < (m : Int) := by omega
        have HIl : Hid (i < m) := hlt
        obtain ⟨p, hk⟩ : ∃ p, l[i]? = some p := ⟨_, List.getElem?_eq_getElem (by rw [HD.out.2.2.2.1]; exact hlt)⟩
        obtain ⟨ds, hds⟩ : ∃ ds, dss[i]? = some ds := ⟨_, List.getElem?_eq_getElem (by rw [HP.out.2.2.2.2, HD.out.2.2.2.1]; exact hlt)⟩
        have HK : Hid (l[i]? = some p ∧ dss[i]? = some ds) := ⟨hk, hds⟩
        have HN : Hid _ := HNx.out wr i HB.out.1
        clear hk hds
        go_wp2_with fail
        refine Calls.mono HN.out ?_
        rintro e W2 ⟨r, rfl, hr, hb2⟩
        have HB2 : Hid (Below w.heap.size w W2 ∧ (r = true ↔ MayN l (zs pre) (i : Int))) := ⟨HB.out.1.trans (hb2.mono HB.out.1.size), hr⟩
        clear hr hb2 HN
        cases r with
        | false =>
          have HE : Hid (DeadTo l dss pre bs (i + 1)) := HB.out.2.succ fun ho => by
            have h1 := (ok_may HP.out.2.2.2.1 HP.out.2.2.2.2 HP.out.2.2.1 HK.out.1 HK.out.2).1 ho
            cases HB2.out.2.2 h1.1
          go_wp2
          go_roundw
          case rel => exact ⟨i + 1, HIl.out, by go_num, HB2.out.1, HE.out⟩
          case measure => simp [intOf]; omega
        | true =>
          have HMy : Hid (MayN l (zs pre) (i : Int)) := HB2.out.2.1 rfl
          obtain ⟨ob, oo, e1, hc⟩ := ops_at (HD.out.2.2.1.ops.later HB2.out.1) HK.out.1
          subst e1
          have c0 : W2.cell? ⟨ob, oo + i * 7, none⟩ = some (.int .i64 p.k) := hc 0 _ rfl
          have c1 : W2.cell? ⟨ob, oo + i * 7 + 1, none⟩ = some (.int .i64 p.fr) := hc 1 _ rfl
          have c2 : W2.cell? ⟨ob, oo + i * 7 + 2, none⟩ = some (.int .i64 p.to_) := hc 2 _ rfl
          have c3 : W2.cell? ⟨ob, oo + i * 7 + 3, none⟩ = some (.int .i64 p.off) := hc 3 _ rfl
          have c4 : W2.cell? ⟨ob, oo + i * 7 + 4, none⟩ = some (.int .i64 p.len) := hc 4 _ rfl
          have c5 : W2.cell? ⟨ob, oo + i * 7 + 5, none⟩ = some (.slice p.da p.n p.dc) := hc 5 _ rfl
          have c6 : W2.cell? ⟨ob, oo + i * 7 + 6, none⟩ = some (.bool p.sy) := hc 6 _ rfl
          have hrow := HD.out.2.2.1.row i p ds HK.out.1 HK.out.2
          have HPl : Hid _ := rPlay_any ba bc n p bs ds W2 (HD.out.1.later HB2.out.1) HD.out.2.1 (hrow.1.later HB2.out.1) hrow.2 ((wrg_zero HP.out.1).2 i p HK.out.1) (wrg_zero HP.out.1).1
          clear hc hrow
          go_wp2_with fail
          refine Calls.mono HPl.out ?_
          rintro e W3 ⟨co3, cc3, b3, bs3, rfl, hb3, hbs3, hl3, hr3, -, hbl3⟩
          have HB3 : Hid (Below w.heap.size w W3 ∧ BRow W3 co3 cc3 bs3 ∧ bs3.length = n ∧ b3 = p.fit bs ds ∧ (b3 = true → bs3 = p.eff bs ds)) := ⟨HB2.out.1.trans (hbl3.mono HB2.out.1.size), hr3, hl3, hb3, hbs3⟩
          clear hb3 hbs3 hl3 hr3 hbl3 HPl c0 c1 c2 c3 c4 c5 c6
          cases b3 with
          | false =>
            have HE : Hid (DeadTo l dss pre bs (i + 1)) := HB.out.2.succ fun ho => by
              have h1 := (ok_may HP.out.2.2.2.1 HP.out.2.2.2.2 HP.out.2.2.1 HK.out.1 HK.out.2).1 ho
              rw [← HB3.out.2.2.2.1] at h1
              cases h1.2
            go_wp2
            go_roundw
            case rel => exact ⟨i + 1, HIl.out, by go_num, HB3.out.1, HE.out⟩
            case measure => simp [intOf]; omega
          | true =>
            have HOk : Hid ((spA l dss).ok (mask pre) bs i = true ∧ (spA l dss).eff i bs = bs3 ∧ ¬ i ∈ pre) := ⟨(ok_may HP.out.2.2.2.1 HP.out.2.2.2.2 HP.out.2.2.1 HK.out.1 HK.out.2).2 ⟨HMy.out, HB3.out.2.2.2.1.symm⟩, by rw [eff_of HP.out.2.2.2.2 HK.out.1 HK.out.2, HB3.out.2.2.2.2 rfl], fun h => HMy.out.1 (zs_mem.2 h)⟩
            have HNw : Hid (∀ ad, da = some ad → ∀ j u, ((zs pre).map (Value.int .i64))[j]? = some u → W3.cell? (ad.add j) = some u) := fun ad e j u hu => by
              rw [List.getElem?_map] at hu
              by_cases hj : j < (zs pre).length
              · rw [List.getElem?_eq_getElem hj] at hu
                obtain ⟨b, off, e2, hc⟩ := (HD.out.2.2.2.2.1.later HB3.out.1).at_ (by intro e0; rw [e0] at hj; simp at hj)
                rw [e] at e2; cases e2
                cases hu
                rw [add_plain]; exact hc j hj
              · rw [List.getElem?_eq_none (by omega)] at hu; cases hu
            have HOne : Hid (∀ u ∈ (zs pre).map (Value.int .i64), u.oneCell' = true) := fun u hu => by
              obtain ⟨x, _, rfl⟩ := List.mem_map.1 hu
              rfl
            have HLz : Hid (((zs pre).map (Value.int .i64)).length = d) := by show _ = _; rw [List.length_map, List.length_map]; exact HD.out.2.2.2.2.2
            obtain ⟨i0, hi0, hz0, hz1, hz2⟩ := info_parts Try.info3
            obtain ⟨nv, hnv⟩ : ∃ nv, (zs pre).map (Value.int .i64) = nv := ⟨_, rfl⟩
            have HNv : Hid ((zs pre).map (Value.int .i64) = nv) := hnv
            rw [hnv] at HNw HOne HLz
            clear hnv
            go_wp2_with (at_builtin; refine wpList_append_two _ rfl _ _ 24 rfl W3.heap.size 3 i0 (.int .i64 0) 8 Try.underlying24 hi0 hz0 hz1 hz2 rfl (.slice none 0 0) 0 [] rfl (World.ownsRow_nil _ _ _ _) da d dc nv rfl HP.out.2.1 HLz.out HNw.out HOne.out (by unfold maxLen; omega) (by omega) (Nat.le_refl _) ?_)
            intro v4 W4 ho4 hg4 _
            try rw [Nat.zero_add] at ho4
            try rw [List.nil_append] at ho4
            obtain ⟨a4, k4, e4⟩ := owns_form ho4
            subst e4
            have H4 : Hid (W4.ownsRow W3.heap.size 3 1 (.slice a4 d k4) d nv ∧ Below W3.heap.size W3 W4) := ⟨ho4, belowDrawn hg4 (Nat.le_refl _) (fun k e => by cases e)⟩
            have HO5 : Hid ((W4.alloc (.cells #[.int .i64 (i : Int)] 3)).ownsRow W3.heap.size 3 1 (.slice a4 d k4) d nv) := owns_far ho4 (World.grownBy_alloc W4 (.cells #[.int .i64 (i : Int)] 3) none) (by simp)
            have HNw5 : Hid (∀ ad, some (⟨W4.heap.size, 0, none⟩ : Addr) = some ad → ∀ j u, [Value.int .i64 (i : Int)][j]? = some u → (W4.alloc (.cells #[.int .i64 (i : Int)] 3)).cell? (ad.add j) = some u) := by
              rintro ad e j u hu
              cases e
              rcases j with _ | j
              · cases hu
                exact blk_at (heap_new _ _) 0
              · simp at hu
            have HBg : Hid (W3.heap.size ≤ W4.heap.size + 1) := Nat.le_succ_of_le H4.out.2.size
            clear ho4 hg4
            go_wp2_with (at_builtin; refine wpList_append_two _ rfl _ _ 24 rfl W3.heap.size 3 i0 (.int .i64 0) 8 Try.underlying24 hi0 hz0 hz1 hz2 rfl (.slice a4 d k4) d nv rfl HO5.out (some ⟨W4.heap.size, 0, none⟩) 1 1 [.int .i64 (i : Int)] rfl (fun e => by cases e) rfl HNw5.out (by simp [Value.oneCell']) (by unfold maxLen; omega) (by omega) (by rw [World.size_alloc]; exact HBg.out) ?_)
            intro v5 W5 ho5 hg5 _
            obtain ⟨g5, k5, e5⟩ : ∃ g5 k5, v5 = .slice (some g5) (d + 1) k5 := by
              rcases ho5.2 with ⟨_, h1⟩ | ⟨g, c, cur, h1, _⟩
              · omega
              · exact ⟨_, _, h1⟩
            subst e5
            have e9 : nv ++ [Value.int .i64 (i : Int)] = (zs (pre ++ [i])).map (Value.int .i64) := by rw [← HNv.out]; simp
            rw [e9] at ho5
            obtain ⟨a9, c9, e8, hz5⟩ := zrow_own ho5 (by rw [List.length_map, List.length_append, HD.out.2.2.2.2.2]; rfl)
            cases e8
            have hb5 : Below W3.heap.size W3 W5 := (H4.out.2.alloc H4.out.2.size (.cells #[.int .i64 (i : Int)] 3)).grown hg5 (by rw [World.size_alloc]; exact HBg.out) (fun k e => (owns_in HO5.out e).1)
            have HB5 : Hid (Below w.heap.size w W5) := HB3.out.1.trans (hb5.mono HB3.out.1.size)
            have HIc : Hid _ := HI.out W5 i co3 g5 cc3 k5 bs3 HB5.out HIl.out HOk.out.2.2 HB3.out.2.2.1 (HB3.out.2.1.later hb5) hz5
            clear ho5 hg5 e9 hz5 hb5
            go_wp2_with fail
            refine Calls.mono HIc.out ?_
            rintro e W6 ⟨v6, ok6, rfl, hf6, hb6⟩
            have HF6 : Hid (FindOut l dss (pre ++ [i]) bs3 W6 v6 ok6) := hf6
            have HB6 : Hid (Below w.heap.size w W6) := HB5.out.trans (hb6.mono HB5.out.size)
            clear hf6 hb6 HIc
            cases ok6 with
            | true =>
              have HG : Hid (FindOut l dss pre bs W6 v6 true) := by
                rcases HF6.out with ⟨_, t, za, zc, h1, h2, h3⟩ | ⟨h1, _⟩
                · refine .inl ⟨rfl, i :: t, za, zc, ?_, ?_, ?_⟩
                  · rw [h1]; simp
                  · rw [mask_snoc, ← HOk.out.2.1] at h2
                    exact .step HNd.out (by show i < l.length; rw [HD.out.2.2.2.1]; exact HIl.out) HOk.out.1 HB.out.2 h2
                  · rw [List.append_assoc] at h3; exact h3
                · cases h1
              go_wp2
              go_ret2
              exact FindEnd.mk v6 true rfl HG.out HB6.out
            | false =>
              have HE : Hid (DeadTo l dss pre bs (i + 1)) := HB.out.2.succ fun _ => by
                rcases HF6.out with ⟨h1, _⟩ | ⟨_, _, h2⟩
                · cases h1
                · rw [mask_snoc] at h2; rw [HOk.out.2.1]; exact h2
              go_wp2
              go_roundw
              case rel => exact ⟨i + 1, HIl.out, by go_num, HB6.out, HE.out⟩
              case measure => simp [intOf]; omega
      · have n9 : decide ((i : Int) < (m : Int)) = false := decide_eq_false (by omega)
        have HEn : Hid ((spA l dss).Dead (mask pre) bs) := by
          have e : i = m := Nat.le_antisymm hi (Nat.le_of_not_lt hlt)
          refine SP.dead_of HNd.out fun k hk ho => HB.out.2 k ?_ ho
          have hk' : k < l.length := hk
          rw [HD.out.2.2.2.1] at hk'
          omega
        go_wp2
        go_ret2
        exact FindEnd.mk (.slice none 0 0) false rfl (.inr ⟨rfl, rfl, HEn.out⟩) HB.out.1
/-- the document's search -/
theorem rFind_any (oa : Option Addr) (n m oc : Nat) (l : List Opv) (dss : List (List Nat)) (hm : l.length = m) (hm10 : m ≤ 10) (hw : wrg n l = 0) : ∀ (f : Nat) (ba da : Option Addr) (bc d dc : Nat) (bs pre : List Nat) (w : World), m - d ≤ f → BRow w ba bc bs → bs.length = n → OpsD w oa l dss → ZRow w da (zs pre) → pre.length = d → (da = none → d = 0 ∧ dc = 0) → (∀ x ∈ pre, x < m) → pre.Nodup →
    Calls Try.prog 34 #[.slice ba n bc, .slice oa m oc, .slice da d dc] w (FindEnd l dss pre bs w)
  | f, ba, da, bc, d, dc, bs, pre, w, hf, hb, hn, h, hz, hd, hzn, hp, hnd => by
    have hdm : d ≤ m := by rw [← hd]; exact nodup_lt hnd hp
    refine rFind_step ba oa da n bc m oc d dc bs pre l dss w hb hn h hm hm10 hw hz hd (by omega) hzn hp ?_
    intro W k ba' a' bc' dc' bs' hW hk hkp hn' hb' hz'
    have hnd' : (pre ++ [k]).Nodup := List.nodup_append.2 ⟨hnd, by simp, fun a ha b hb9 e => by
      simp at hb9
      rw [e, hb9] at ha
      exact hkp ha⟩
    have hp' : ∀ x ∈ pre ++ [k], x < m := fun x hx => by
      rcases List.mem_append.1 hx with h1 | h1
      · exact hp x h1
      · rw [List.mem_singleton.1 h1]; exact hk
    have hd' : (pre ++ [k]).length = d + 1 := by rw [List.length_append, hd]; rfl
    have hdm' : d + 1 ≤ m := by rw [← hd']; exact nodup_lt hnd' hp'
    cases f with
    | zero => omega
    | succ f => exact rFind_any oa n m oc l dss hm hm10 hw f ba' (some a') bc' (d + 1) dc' bs' (pre ++ [k]) W (by omega) hb' hn' (h.later hW) hz' hd' (fun e => by cases e) hp' hnd'
end Go.Proofs.Ytjkoambfecmglaa

namespace Go.Proofs.Ytjkoambfecmglaa
open Go.RowKit
set_option linter.unusedVariables false
set_option linter.unusedSimpArgs false
set_option maxRecDepth 100000
/-- what the document's Order answers -/
def ROut (l : List Opv) (dss : List (List Nat)) (first : List Nat) (n : Nat) (w' : World) (v : Value) (ok : Bool) (en : Nat) : Prop :=
  (10 < l.length ∧ v = .slice none 0 0 ∧ ok = false ∧ en = 170) ∨
  (l.length ≤ 10 ∧ wrg n l ≠ 0 ∧ v = .slice none 0 0 ∧ ok = false ∧ en = wrg n l) ∨
  (l.length ≤ 10 ∧ wrg n l = 0 ∧ en = 0 ∧ FindOut l dss [] first w' v ok)
def REnd (l : List Opv) (dss : List (List Nat)) (first : List Nat) (n : Nat) (w : World) (e : Ending) (w' : World) : Prop :=
  ∃ v ok en, e = .returned (.tuple #[v, .bool ok, .int .i64 (en : Nat)]) ∧ ROut l dss first n w' v ok en ∧ Below w.heap.size w w'
theorem REnd.mk {w w' : World} {l : List Opv} {dss : List (List Nat)} {first : List Nat} {n : Nat} {e : Ending} (v : Value) (ok : Bool) (en : Nat) (h1 : e = .returned (.tuple #[v, .bool ok, .int .i64 (en : Nat)])) (h2 : ROut l dss first n w' v ok en) (h3 : Below w.heap.size w w') : REnd l dss first n w e w' := ⟨v, ok, en, h1, h2, h3⟩
set_option maxHeartbeats 8000000 in
theorem rOrder_any (fa oa : Option Addr) (n fc m oc : Nat) (first : List Nat) (l : List Opv) (dss : List (List Nat)) (w : World) (hb : BRow w fa fc first) (hn : first.length = n) (h : OpsD w oa l dss) (hm : l.length = m) (hs : m ≤ 1099511627776) :
    Calls Try.prog 18 #[.slice fa n fc, .slice oa m oc] w (REnd l dss first n w) := by
  have HW0 : Hid _ := rWrong_any fa oa n fc m oc l w h.ops hm hs
  have HD : Hid (BRow w fa fc first ∧ first.length = n ∧ OpsD w oa l dss ∧ l.length = m) := ⟨hb, hn, h, hm⟩
  have HCp : Hid (∀ W, Below w.heap.size w W → Calls Try.prog 9 #[.slice fa n fc] W fun e w' => ∃ co cc, e = .returned (.slice co n cc) ∧ BRow w' co cc first ∧ Below W.heap.size W w') := fun W hb9 => (copy_any fa fc n first W (hb.later hb9) hn).mono (by rintro e w' ⟨co, cc, e1, h1, _, h3⟩; exact ⟨co, cc, e1, h1, h3⟩)
  clear hb hn h hm
  go_enter Try.func18, Try.ntmps18
  by_cases h9 : 4096 < n
  · have g1 : decide ((4096 : Int) < (n : Int)) = true := decide_eq_true (by omega)
    have HO : Hid (ROut l dss first n w (.slice none 0 0) false 170) := by
      have e1 : wrg n l = 170 := by unfold wrg; rw [if_pos h9]
      rcases Nat.lt_or_ge 10 l.length with h | h
      · exact .inl ⟨h, rfl, rfl, rfl⟩
      · exact .inr (.inl ⟨h, by rw [e1]; decide, rfl, rfl, e1.symm⟩)
    clear h9
    go_wp2_with fail
    go_ret3
    exact REnd.mk _ false 170 rfl HO.out (Below.refl _ _)
  · have g1 : decide ((4096 : Int) < (n : Int)) = false := decide_eq_false (by omega)
    by_cases h10 : 10 < m
    · have g2 : decide ((10 : Int) < (m : Int)) = true := decide_eq_true (by omega)
      have HM10 : Hid (10 < l.length) := by show 10 < l.length; rw [HD.out.2.2.2]; exact h10
      go_wp2_with fail
      go_ret3
      exact REnd.mk _ false 170 rfl (.inl ⟨HM10.out, rfl, rfl, rfl⟩) (Below.refl _ _)
    · have g2 : decide ((10 : Int) < (m : Int)) = false := decide_eq_false (by omega)
      have HM10 : Hid (l.length ≤ 10 ∧ m ≤ 10) := by constructor; rw [HD.out.2.2.2]; omega; omega
      clear h9 h10
      go_wp2_with fail
      refine Calls.mono HW0.out ?_
      rintro e W0 ⟨rfl, hb0⟩
      have HB0 : Hid (Below w.heap.size w W0) := hb0
      clear hb0 HW0
      by_cases hw : wrg n l = 0
      · have HWr : Hid (wrg n l = 0) := hw
        have hw' : ((wrg n l : Nat) : Int) = 0 := by rw [hw]; rfl
        rw [hw']
        have HC0 : Hid _ := HCp.out W0 HB0.out
        clear hw hw' HCp
        go_wp2_with fail
        refine Calls.mono HC0.out ?_
        rintro e W1 ⟨co, cc, rfl, hr1, hb1⟩
        have HB1 : Hid (Below w.heap.size w W1) := HB0.out.trans (hb1.mono HB0.out.size)
        have HFi : Hid _ := rFind_any oa n m oc l dss HD.out.2.2.2 HM10.out.2 HWr.out m co none cc 0 0 first [] W1 (by omega) hr1 HD.out.2.1 (HD.out.2.2.1.later HB1.out) ⟨fun h => absurd rfl h⟩ rfl (fun _ => ⟨rfl, rfl⟩) (by simp) (by simp)
        clear hb1 hr1 HC0
        go_wp2_with fail
        refine Calls.mono HFi.out ?_
        rintro e W2 ⟨v, ok, rfl, hf, hb2⟩
        have HF : Hid (FindOut l dss [] first W2 v ok ∧ Below w.heap.size w W2) := ⟨hf, HB1.out.trans (hb2.mono HB1.out.size)⟩
        clear hf hb2 HFi
        go_wp2_with fail
        go_ret3
        exact REnd.mk v ok 0 rfl (.inr (.inr ⟨HM10.out.1, HWr.out, rfl, HF.out.1⟩)) HF.out.2
      · have HWr : Hid (wrg n l ≠ 0) := hw
        obtain ⟨x, hx⟩ : ∃ x, wrg n l = x := ⟨_, rfl⟩
        rw [hx]
        have n8 : ((x : Int) == 0) = false := by rw [beq_eq_false_iff_ne]; omega
        have n7 : ((x : Int) != 0) = true := by rw [bne_iff_ne]; omega
        have HXx : Hid (wrg n l = x) := hx
        clear hx hw
        go_wp2_with fail
        go_ret3
        exact REnd.mk _ false x rfl (.inr (.inl ⟨HM10.out.1, HWr.out, rfl, rfl, HXx.out.symm⟩)) HB0.out
theorem owOf_sibs {l l2 : List Opv} (h : Sibs l l2) (i : Nat) : owOf l2 i = owOf l i := by
  unfold owOf
  apply List.filter_congr
  intro k _
  cases hp : l[k]? with
  | none =>
    have : l.length ≤ k := List.getElem?_eq_none_iff.1 hp
    rw [List.getElem?_eq_none (by rw [h.len]; exact this)]
  | some p =>
    obtain ⟨q, hq, hs⟩ := h.get hp
    rw [hq]; exact hs.ans
theorem befOf_sibs {l l2 : List Opv} (h : Sibs l l2) {p q : Opv} (hpq : Sib p q) (i : Nat) : befOf l2 q i = befOf l p i := by
  unfold befOf
  apply List.filter_congr
  intro k _
  cases hp : l[k]? with
  | none =>
    have : l.length ≤ k := List.getElem?_eq_none_iff.1 hp
    rw [List.getElem?_eq_none (by rw [h.len]; exact this)]
  | some a =>
    obtain ⟨b, hq, hs⟩ := h.get hp
    rw [hq]; exact hs.bef hpq
theorem ahOf_sibs {l l2 : List Opv} (h : Sibs l l2) (i : Nat) : ahOf l2 i = ahOf l i := by
  unfold ahOf
  rw [h.len]
  apply List.map_congr_left
  intro k _
  split
  · cases hp : l[k]? with
    | none =>
      have : l.length ≤ k := List.getElem?_eq_none_iff.1 hp
      rw [List.getElem?_eq_none (by rw [h.len]; exact this)]
    | some a =>
      obtain ⟨b, hq, hs⟩ := h.get hp
      rw [hq]
      show mask (befOf l2 b l.length) = mask (befOf l a l.length)
      rw [befOf_sibs h hs]
  · rfl
theorem spA_sibs {l l2 : List Opv} (h : Sibs l l2) (dss : List (List Nat)) : spA l2 dss = spA l dss := by
  show spOf l2 dss (mask (owOf l2 l2.length)) (ahOf l2 l2.length) = spOf l dss (mask (owOf l l.length)) (ahOf l l.length)
  rw [owOf_sibs h, ahOf_sibs h, h.len]
  unfold spOf
  congr 1
  · exact h.len
  · funext k bs
    cases hp : l[k]? with
    | none =>
      have : l.length ≤ k := List.getElem?_eq_none_iff.1 hp
      rw [List.getElem?_eq_none (by rw [h.len]; exact this)]
    | some a =>
      obtain ⟨b, hq, hs⟩ := h.get hp
      rw [hq]
      cases dss[k]? with
      | none => rfl
      | some ds => exact hs.fit bs ds
  · funext k bs
    cases hp : l[k]? with
    | none =>
      have : l.length ≤ k := List.getElem?_eq_none_iff.1 hp
      rw [List.getElem?_eq_none (by rw [h.len]; exact this)]
    | some a =>
      obtain ⟨b, hq, hs⟩ := h.get hp
      rw [hq]
      cases dss[k]? with
      | none => rfl
      | some ds => exact hs.eff bs ds
theorem comp_len {l : List Opv} {dss : List (List Nat)} (hl : l.length ≤ 10) (hd : dss.length = l.length) {first ks : List Nat} (h : (spA l dss).Comp 0 first ks) : ks.length ≤ 10 := by
  obtain ⟨bsF, hf, _⟩ := comp_fol hl hd (first := first) ks [] first (by simp) (by simpa [mask] using h) .nil
  rw [List.nil_append] at hf
  obtain ⟨ks2, e1, e2, e3⟩ := fol_nat hf (by simp)
  have hnd := fol_nodup hf (by simp)
  rw [e1] at hnd
  have hnd2 : ks2.Nodup := (List.pairwise_map.1 hnd).imp fun h e => h (by rw [e])
  have := nodup_lt hnd2 e3
  omega
/-- both Orders answer the same -/
theorem order_pair {l l1 : List Opv} {dss : List (List Nat)} {first : List Nat} {n B : Nat} {W W' : World} {v v' : Value} {ok ok' : Bool} {en en' : Nat} (hs : Sibs l l1) (hd : dss.length = l.length) (h : OrdOut B l1 dss first n W v ok en) (h' : ROut l dss first n W' v' ok' en') :
    ok = ok' ∧ en = en' ∧ ∃ (k : Nat) (ks : List Nat) (za : Option Addr) (zc : Nat) (za' : Option Addr) (zc' : Nat), v = .slice za k zc ∧ v' = .slice za' k zc' ∧ ks.length = k ∧ k ≤ 10 ∧ ZRow W za (zs ks) ∧ ZRow W' za' (zs ks) := by
  have hz0 : ∀ W, ZRow W none (zs []) := fun W => ⟨fun h => absurd rfl h⟩
  have hnil : ∀ {v v' : Value}, v = .slice none 0 0 → v' = .slice none 0 0 → ∃ (k : Nat) (ks : List Nat) (za : Option Addr) (zc : Nat) (za' : Option Addr) (zc' : Nat), v = .slice za k zc ∧ v' = .slice za' k zc' ∧ ks.length = k ∧ k ≤ 10 ∧ ZRow W za (zs ks) ∧ ZRow W' za' (zs ks) := fun h1 h2 => ⟨0, [], none, 0, none, 0, h1, h2, rfl, by omega, hz0 _, hz0 _⟩
  have hw := hs.wrg n
  have hlen := hs.len
  rcases h with ⟨a1, a2, a3, a4⟩ | ⟨a1, a2, a3, a4, a5⟩ | ⟨a1, a2, a3, a4, ks, za, zc, a5, a6, a7⟩ | ⟨a1, a2, a3, a4, a5, a6⟩
  · rcases h' with ⟨b1, b2, b3, b4⟩ | ⟨b1, _⟩ | ⟨b1, _⟩
    · exact ⟨by rw [a3, b3], by rw [a4, b4], hnil a2 b2⟩
    · omega
    · omega
  · rcases h' with ⟨b1, _⟩ | ⟨b1, b2, b3, b4, b5⟩ | ⟨b1, b2, _⟩
    · omega
    · exact ⟨by rw [a4, b4], by rw [a5, b5, hw], hnil a3 b3⟩
    · rw [hw] at a2; exact absurd b2 a2
  · change (spA l1 dss).Finds 0 first ks at a6
    rw [spA_sibs hs] at a6
    have hz : ZRow W za (zs ks) := by
      have e : ks.map iv = (zs ks).map (Value.int .i64) := by rw [List.map_map]; rfl
      rw [e] at a7
      obtain ⟨za9, zc9, e9, hz9⟩ := zrow_own a7 (by rw [List.length_map])
      cases e9; exact hz9
    have hk := comp_len (by omega) hd a6.comp
    rcases h' with ⟨b1, _⟩ | ⟨b1, b2, _⟩ | ⟨b1, b2, b3, b4⟩
    · omega
    · rw [hw] at a2; exact absurd a2 b2
    · rcases b4 with ⟨c1, t, za', zc', c2, c3, c4⟩ | ⟨c1, c2, c3⟩
      · rw [List.nil_append] at c2 c4
        have e : ks = t := a6.det (by simpa [mask] using c3)
        subst e
        exact ⟨by rw [a4, c1], by rw [a3, b3], ks.length, ks, za, zc, za', zc', a5, c2, rfl, hk, hz, c4⟩
      · exact absurd (by simpa [mask] using c3) a6.alive
  · change (spA l1 dss).Dead 0 first at a6
    rw [spA_sibs hs] at a6
    rcases h' with ⟨b1, _⟩ | ⟨b1, b2, _⟩ | ⟨b1, b2, b3, b4⟩
    · omega
    · rw [hw] at a2; exact absurd a2 b2
    · rcases b4 with ⟨c1, t, za', zc', c2, c3, c4⟩ | ⟨c1, c2, c3⟩
      · exact absurd a6 (by have := c3.alive; simpa [mask] using this)
      · exact ⟨by rw [a4, c1], by rw [a3, b3], hnil a5 c2⟩
set_option maxHeartbeats 16000000 in
/-- the law JudgeOrders -/
theorem orders_any (w : World) (fa oa : Option Addr) (n fc m oc : Nat) (first : List Nat) (l : List Opv) (dss : List (List Nat)) (hb : BRow w fa fc first) (hn : first.length = n) (h : OpsD w oa l dss) (hm : l.length = m) (hs : m ≤ 1048576) :
    Calls Try.prog 4 #[.slice fa n fc, .slice oa m oc] w fun e w' => e = .returned (.bool true) ∧ Below w.heap.size w w' := by
  have HD : Hid (BRow w fa fc first ∧ first.length = n ∧ OpsD w oa l dss ∧ l.length = m ∧ m ≤ 1048576) := ⟨hb, hn, h, hm, hs⟩
  have HO1 : Hid _ := ops_any oa m oc l dss w h hm hs
  clear hb hn h hm hs
  go_enter Try.func4, Try.ntmps4
  go_wp2_with fail
  refine Calls.mono HO1.out ?_
  rintro e W1 ⟨oa1, oc1, l1, rfl, hb1, hO1, hl1, hs1⟩
  have H1 : Hid (Below w.heap.size w W1 ∧ OpsD W1 oa1 l1 dss ∧ Sibs l l1 ∧ l1.length = m) := ⟨hb1, hO1, ⟨by rw [hl1, HD.out.2.2.2.1], hs1⟩, hl1⟩
  have HOr : Hid _ := order_any fa oa1 n fc m oc1 first l1 dss W1 (HD.out.1.later hb1) HD.out.2.1 hO1 hl1 (by have := HD.out.2.2.2.2; omega)
  clear hb1 hO1 hl1 hs1 HO1
  go_wp2_with fail
  refine Calls.mono HOr.out ?_
  rintro e W2 ⟨v, ok, en, rfl, hout, hb2⟩
  have HB2 : Hid (Below w.heap.size w W2 ∧ Below W1.heap.size W1 W2 ∧ OrdOut W1.heap.size l1 dss first n W2 v ok en) := ⟨H1.out.1.trans (hb2.mono H1.out.1.size), hb2, hout⟩
  have HRo : Hid _ := rOrder_any fa oa n fc m oc first l dss W2 (HD.out.1.later HB2.out.1) HD.out.2.1 (HD.out.2.2.1.later HB2.out.1) HD.out.2.2.2.1 (by have := HD.out.2.2.2.2; omega)
  clear hout hb2 HOr
  go_wp2_with fail
  refine Calls.mono HRo.out ?_
  rintro e W3 ⟨v', ok', en', rfl, hout, hb3⟩
  obtain ⟨rfl, rfl, k, ks, za, zc, za', zc', rfl, rfl, hkk, hk10, hz, hz'⟩ := order_pair H1.out.2.2.1 (by rw [HD.out.2.2.1.len]) HB2.out.2.2 hout
  have HB3 : Hid (Below w.heap.size w W3 ∧ OpsD W3 oa1 l1 dss) := ⟨HB2.out.1.trans (hb3.mono HB2.out.1.size), (H1.out.2.1.later HB2.out.2.1).later hb3⟩
  have HSi : Hid _ := sameInts_any za za' zc zc' k (zs ks) W3 (by rw [List.length_map]; exact hkk) (by omega) (hz.later hb3) hz'
  clear hout hb3 hz hz' hkk HRo
  have n9 : ((en : Int) == (en : Int)) = true := by simp
  cases ok
  all_goals
    go_wp2_with fail
    refine Calls.mono HSi.out ?_
    rintro e W4 ⟨rfl, q, rfl⟩
    have HB4 : Hid (Below w.heap.size w (W3.drewN q) ∧ OpsD (W3.drewN q) oa1 l1 dss) := ⟨HB3.out.1.trans ⟨rfl, rfl, rfl, Nat.le_refl _, fun _ _ => rfl⟩, HB3.out.2.later ⟨rfl, rfl, rfl, Nat.le_refl _, fun _ _ => rfl⟩⟩
    have HSo : Hid _ := sameOps_any oa1 oa m oc1 oc l1 l dss (W3.drewN q) H1.out.2.2.2 HD.out.2.2.2.1 (by have := HD.out.2.2.2.2; omega) HB4.out.2 (HD.out.2.2.1.later HB4.out.1) H1.out.2.2.1.symm.sib
    obtain ⟨W4, hW4⟩ : ∃ W4, W4 = W3.drewN q := ⟨_, rfl⟩
    rw [← hW4] at HSo HB4 ⊢
    clear hW4
    go_wp2_with fail
    refine Calls.mono HSo.out ?_
    rintro e W5 ⟨rfl, hb5⟩
    have HB5 : Hid (Below w.heap.size w W5) := HB4.out.1.trans (hb5.mono HB4.out.1.size)
    clear hb5
    go_wp2_with fail
    refine Calls.mono (heads_any W5) ?_
    rintro e W6 ⟨rfl, hb6⟩
    have HB6 : Hid (Below w.heap.size w W6) := HB5.out.trans (hb6.mono HB5.out.size)
    clear hb6
    go_wp2_with fail
    go_ret
    exact ⟨rfl, HB6.out⟩
end Go.Proofs.Ytjkoambfecmglaa

namespace Go.Proofs.Ytjkoambfecmglaa.judgeOrders
open Go.ChangeShapes Go.WideShapes Go.ChangeAt Go.RowKit Go.Lib
open Go.Deep
set_option linter.unusedVariables false
set_option linter.unusedSimpArgs false
set_option maxRecDepth 100000
theorem contract (H : Type) (enc : TypeId × Value → H) (W : World) (base : Nat) (args : Array Value) (ds gs : List (DataW H)) (before : List MemPlace)
    (hval : ∀ (j : Nat) t v, Try.f4.params[j]? = some t → args[j]? = some v → Value.okWide Try.prog W .any base t v)
    (hW : DataW.Whole enc Try.prog Try.f4.params.toList Rows.judgeOrdersSpec.vars false W args.toList ds gs before) (hk : Rows.uptoSmall H (ds ++ gs) = true) :
    Calls Try.prog 4 args W fun e W' => ∃ v, e = .returned v ∧ Rows.judgeOrdersSpec.post enc Try.prog Try.f4 false true false false W args v W' := by
  have hW' := hW
  obtain ⟨p, q, hA0, hV, rfl, hfz, hnd⟩ := hW
  have hA : DataW.TrodAll enc Try.prog W 0 (fun _ => true) true Try.f4.params.toList args.toList ds p := hA0
  rw [Try.params4] at hA hval
  obtain ⟨v0, vs0, d0, ds0, p0, q0, hargs, rfl, rfl, h0, r0⟩ := trodAll_cons hA
  obtain ⟨v1, vs1, d1, ds1, p1, q1, rfl, rfl, rfl, h1, r1⟩ := trodAll_cons r0
  obtain ⟨rfl, rfl, rfl⟩ := trodAll_nil r1
  obtain rfl : args = #[v0, v1] := by cases args; simp_all
  obtain ⟨rfl, rfl⟩ := trodVars_none hV
  have k0 := h0
  have k1 := h1
  have lt0 : ∀ x ∈ p0, x.block < W.heap.size := by obtain ⟨m, hm⟩ := k0; exact DataW.trod_lt m _ _ _ hm
  have lt1 : ∀ x ∈ p1, x.block < W.heap.size := by obtain ⟨m, hm⟩ := k1; exact DataW.trod_lt m _ _ _ hm
  obtain ⟨ao, len0, cap0, rfl⟩ := okWide_slice (show Try.prog.underlying 22 = some (.slice 5) by kernel_rfl) (hval 0 22 v0 rfl rfl)
  obtain ⟨so, len1, cap1, rfl⟩ := okWide_slice Try.under23 (hval 1 23 v1 rfl rfl)
  have hbd := bulk_bound hk
  simp only [Rows.uptoBulkAll, List.append_nil] at hbd
  have hwalk : Calls Try.prog 4 #[.slice ao len0 cap0, .slice so len1 cap1] W fun e w' => e = .returned (.bool true) ∧ Below W.heap.size W w' := by
    obtain ⟨f0, hf0⟩ := h0
    obtain ⟨f1, hf1⟩ := h1
    obtain ⟨ao', cap', first, e0, hbr⟩ := open_b17 hf0 (by omega)
    obtain ⟨so', c1, l, dss, e1, hO, hml⟩ := open_ops17 hf1 (by omega)
    simp [Value.cells] at e0 e1
    obtain ⟨rfl, rfl, rfl⟩ := e0
    obtain ⟨rfl, rfl, rfl⟩ := e1
    exact orders_any W ao so _ cap0 _ cap1 first l dss hbr rfl hO rfl hml
  clear hA0
  refine hwalk.mono fun e W' ⟨he, bel⟩ => ?_
  subst he
  exact ⟨_, rfl, _, _, _, [], _, [], hW', trodAll_mk1 (shut_bool (show Try.prog.underlying 4 = some .bool by kernel_rfl) _), trodAll_cons_mk (Below.trod laidOut (by kernel_rfl) (of_decide_eq_true (by kernel_rfl)) k0 bel lt0) (trodAll_cons_mk (Below.trod laidOut (by kernel_rfl) (of_decide_eq_true (by kernel_rfl)) k1 bel lt1) trodAll_mk0), rfl, bel.frame _, fun h => by cases h⟩

set_option maxRecDepth 100000 in
theorem lifted (os : Os) (started : os.Started) (H : Type) (enc : TypeId × Value → H) (F : Stop.Interp) :
    ReturnsInHanded {} Try.checked os 4 .any ((Rows.OpenSpec.upto Rows.judgeOrdersSpec).pre6 enc Try.prog Try.f4 Rows.judgeOrdersUptoRow.domain false) (((Rows.OpenSpec.upto Rows.judgeOrdersSpec).at F).post enc Try.prog Try.f4 false true false false) := by
  refine returnsInHanded_of_cond (C := Try.checked) (s := Rows.OpenSpec.upto Rows.judgeOrdersSpec) (k := Rows.uptoSmall) rfl own started (by kernel_rfl) Try.func4
    (OpenSpec.witness (enc := enc) (C := Try.checked) (s := Rows.OpenSpec.upto Rows.judgeOrdersSpec) (k := Rows.uptoSmall) rfl false ⟨#[], #[.slice none 0 0, .slice none 0 0], []⟩ 8 (by kernel_rfl) (by kernel_rfl) (by kernel_rfl)
      (x := ([.nil, .nil], [], [])) (by kernel_rfl) rfl (by kernel_rfl)) ?_
  intro W base args ds gs before hval hW _ hk _
  exact contract H enc W base args ds gs before hval hW hk
end Go.Proofs.Ytjkoambfecmglaa.judgeOrders
namespace Go.Proofs.Ytjkoambfecmglaa
theorem judgeOrders_proved : Rows.JudgeOrdersUptoSaid :=
  OpenClaim.holds_of_cond 4 Try.f4 rfl rfl rfl rfl rfl rfl rfl ⟨rfl, rfl, rfl, rfl, rfl⟩ rfl rfl rfl rfl rfl (by kernel_rfl) Try.func4 (by kernel_rfl)
    (of_decide_eq_true (by kernel_rfl)) (by unfold Func.isWrapper; first | (rw [if_pos (by decide +kernel)]; kernel_rfl) | (rw [if_neg (by decide +kernel)]; exact ⟨rfl, rfl⟩))
    (fun os started H enc _ F => judgeOrders.lifted os started H enc F)
#print axioms judgeOrders_proved
end Go.Proofs.Ytjkoambfecmglaa
