import Derived.Test.YtjkoambfecmglaaVPz
import Derived.Deep.RegionHeld3
namespace Go.Proofs.Ytjkoambfecmglaa
open Go.RowKit
set_option linter.unusedVariables false
set_option linter.unusedSimpArgs false
set_option maxRecDepth 100000
/-- what following answers: nothing, a place and a number; or the bytes -/
def FolOut (l : List Opv) (dss : List (List Nat)) (ord : List Int) (first : List Nat) (n : Nat) (w' : World) (v : Value) (at_ en : Int) : Prop :=
  (wrg n l ≠ 0 ∧ v = .slice none 0 0 ∧ at_ = 0 ∧ en = wrg n l) ∨
  (wrg n l = 0 ∧ ∃ (i : Nat) (bs : List Nat), FolR l dss ord first i bs ∧ i < ord.length ∧ (∀ k p ds, ¬ Goes l dss ord bs i k p ds) ∧ v = .slice none 0 0 ∧ at_ = i ∧ en = 172) ∨
  (wrg n l = 0 ∧ ∃ bs, FolR l dss ord first ord.length bs ∧ ¬ Whl l ord l.length ∧ v = .slice none 0 0 ∧ at_ = ord.length ∧ en = 172) ∨
  (wrg n l = 0 ∧ ∃ (bs : List Nat) (co : Option Addr) (cc : Nat), FolR l dss ord first ord.length bs ∧ Whl l ord l.length ∧ v = .slice co n cc ∧ BRow w' co cc bs ∧ bs.length = n ∧ at_ = 0 ∧ en = 0)
theorem ZRow.take {W : World} {ao : Option Addr} {l : List Int} (h : ZRow W ao l) (i : Nat) : ZRow W ao (l.take i) := ⟨fun hl => by
  obtain ⟨b, off, e, hc⟩ := h.at_ (fun e => hl (by rw [e]; simp))
  refine ⟨b, off, e, fun k hk => ?_⟩
  rw [List.length_take] at hk
  rw [hc k (by omega), List.getElem_take]⟩
theorem wrg_zero {n : Nat} {l : List Opv} (h : wrg n l = 0) : n ≤ 4096 ∧ ∀ (k : Nat) (p : Opv), l[k]? = some p → p.may n = true := by
  unfold wrg at h
  split at h
  · cases h
  · split at h
    · rename_i h1 h2
      exact ⟨by omega, fun k p hp => List.all_eq_true.1 h2 p (List.mem_of_getElem? hp)⟩
    · cases h
theorem Goes.mayN {l : List Opv} {dss : List (List Nat)} {ord : List Int} {bs ds : List Nat} {i k : Nat} {p : Opv} {q : Int} (h : Goes l dss ord bs i k p ds) (hq : ord[i]? = some q) : MayN l (ord.take i) q ∧ q = (k : Int) := by
  obtain ⟨h1, h2, h3, _, h5, _⟩ := h
  rw [hq] at h1
  cases h1
  exact ⟨⟨h2, k, p, rfl, h3, h5⟩, rfl⟩
set_option maxHeartbeats 16000000 in
theorem rFollow_any (fa oa za : Option Addr) (n fc m oc d zc : Nat) (first : List Nat) (l : List Opv) (dss : List (List Nat)) (ord : List Int) (w : World) (hb : BRow w fa fc first) (hn : first.length = n) (h : OpsD w oa l dss) (hm : l.length = m) (hs : m ≤ 1099511627776) (hz : ZRow w za ord) (hd : ord.length = d) (hds : d ≤ 1099511627776) (hzc : d ≤ zc) :
    Calls Try.prog 12 #[.slice fa n fc, .slice oa m oc, .slice za d zc] w fun e w' => ∃ v at_ en, e = .returned (.tuple #[v, .int .i64 at_, .int .i64 en]) ∧ FolOut l dss ord first n w' v at_ en ∧ Below w.heap.size w w' := by
  have HW0 : Hid _ := rWrong_any fa oa n fc m oc l w h.ops hm hs
  have HD : Hid (BRow w fa fc first ∧ first.length = n ∧ OpsD w oa l dss ∧ l.length = m ∧ ZRow w za ord ∧ ord.length = d) := ⟨hb, hn, h, hm, hz, hd⟩
  have HNx : Hid (∀ W (i : Nat) (q : Int), Below w.heap.size w W → i ≤ d → Calls Try.prog 29 #[.slice oa m oc, .slice za i zc, .int .i64 q] W fun e w' => ∃ r : Bool, e = .returned (.bool r) ∧ (r = true ↔ MayN l (ord.take i) q) ∧ Below W.heap.size W w') := fun W i q hb9 hi => rNext_all oa za m oc i zc l (ord.take i) q W (h.ops.later hb9) hm hs ((hz.take i).later hb9) (by rw [List.length_take]; omega) (by omega)
  have HWh : Hid (∀ W, Below w.heap.size w W → Calls Try.prog 31 #[.slice oa m oc, .slice za d zc] W fun e w' => ∃ r : Bool, e = .returned (.bool r) ∧ (r = true ↔ Whl l ord m) ∧ Below W.heap.size W w') := fun W hb9 => rWhole_any oa za m oc d zc l ord W (h.ops.later hb9) hm hs (hz.later hb9) hd hds
  have HCp : Hid (∀ W, Below w.heap.size w W → Calls Try.prog 9 #[.slice fa n fc] W fun e w' => ∃ co cc, e = .returned (.slice co n cc) ∧ BRow w' co cc first ∧ W.heap.size ≤ w'.heap.size ∧ Below W.heap.size W w') := fun W hb9 => (copy_any fa fc n first W (hb.later hb9) hn).mono (by rintro e w' ⟨co, cc, e1, h1, _, h3⟩; exact ⟨co, cc, e1, h1, h3.size, h3⟩)
  clear hb hn h hm hz hd
  go_enter Try.func12, Try.ntmps12
  go_wp2_with fail
  refine Calls.mono HW0.out ?_
  rintro e W0 ⟨rfl, hb0⟩
  have HB0 : Hid (Below w.heap.size w W0) := hb0
  clear hb0 HW0
  by_cases hw : wrg n l = 0
  · have HWr : Hid (wrg n l = 0) := hw
    have hw' : ((wrg n l : Nat) : Int) = 0 := by rw [hw]; rfl
    rw [hw']
    have HC0 : Hid _ := HCp.out W0 HB0.out
    clear hw hw' HCp
    go_wp2_with fail
    refine Calls.mono HC0.out ?_
    rintro e W1 ⟨co, cc, rfl, hr1, -, hb1⟩
    have HS1 : Hid (Below w.heap.size w W1 ∧ BRow W1 co cc first) := ⟨HB0.out.trans (hb1.mono HB0.out.size), hr1⟩
    clear hb1 hr1 HC0
    go_wp2
    go_loopw [10, 11] (fun bv9 iv wr => ∃ (i : Nat) (bs : List Nat) (co : Option Addr) (cc : Nat), i ≤ d ∧ bv9 = .slice co n cc ∧ iv = .int .i64 (i : Int) ∧ Hid (Below w.heap.size w wr ∧ BRow wr co cc bs ∧ bs.length = n ∧ FolR l dss ord first i bs)) (fun _ iv _ => d - (intOf iv).toNat)
    case atStart => exact ⟨0, first, co, cc, Nat.zero_le _, rfl, rfl, HS1.out.1, HS1.out.2, HD.out.2.1, .nil⟩
    case round =>
      obtain ⟨i, bs, co, cc, hi, rfl, rfl, HB⟩ := hrel
      by_cases hlt : i < d
      · have n9 : decide ((i : Int) < (d : Int)) = true := by simp; omega
        have ii0 : (0 : Int) ≤ (i : Int) := by omega
        have ii9 : (i : Int) < (d : Int) := by omega
        have ii8 : (i : Int) ≤ (zc : Int) := by omega
        have ii7 : i ≤ zc := by omega
        have hil : i < ord.length := by rw [HD.out.2.2.2.2.2]; exact hlt
        obtain ⟨zb, zo, e0, hc⟩ := HD.out.2.2.2.2.1.at_ (by rintro rfl; simp at hil)
        subst e0
        obtain ⟨q, hq⟩ : ∃ q, ord[i] = q := ⟨_, rfl⟩
        have HQ : Hid (ord[i]? = some q) := by show _ = _; rw [List.getElem?_eq_getElem hil, hq]
        have HC : Hid (∀ V, Below w.heap.size w V → V.cell? ⟨zb, zo + i, none⟩ = some (.int .i64 q)) := fun V hV => by rw [← hq]; exact cell_later hV (hc i hil)
        have cq := HC.out wr HB.out.1
        have HBd : Hid (Below w.heap.size w wr.drew) := HB.out.1.trans (⟨rfl, rfl, rfl, Nat.le_refl _, fun _ _ => rfl⟩)
        have HN : Hid _ := HNx.out wr.drew i q HBd.out hi
        clear hc hq
        go_wp2
        go_region_held3 (fun w' => w'.cell? ⟨zb, zo + i, none⟩ = some (.int .i64 q)) (first | exact HC.out _ HB2.out | go_keep) (first | (go_at_call 29; refine Calls.mono HN.out ?_; rintro e W2 ⟨r, rfl, hr, hb2⟩; have HR : Hid (r = true ↔ MayN l (ord.take i) q) := hr; have HB2 : Hid (Below w.heap.size w W2) := HBd.out.trans (hb2.mono HBd.out.size); have HB2b : Hid (Below wr.heap.size wr W2) := (⟨rfl, rfl, rfl, Nat.le_refl _, fun _ _ => rfl⟩ : Below wr.heap.size wr wr.drew).trans hb2; clear hb2 hr))
        clear HN cq HNx
        cases r with
        | false =>
          have HF : Hid (∀ k p ds, ¬ Goes l dss ord bs i k p ds) := fun k p ds hg => by
            have := HR.out.2 (hg.mayN HQ.out).1
            cases this
          go_wp2
          go_ret3
          exact ⟨_, _, _, rfl, .inr (.inl ⟨HWr.out, i, bs, HB.out.2.2.2, hil, HF.out, rfl, rfl, rfl⟩), HB2.out⟩
        | true =>
          obtain ⟨hnm, k, p, hqk, hk, hnx⟩ := HR.out.1 rfl
          subst hqk
          have hkl := (List.getElem?_eq_some_iff.1 hk).1
          have hkm : k < m := by rw [← HD.out.2.2.2.1]; exact hkl
          obtain ⟨ob, oo, e1, hc⟩ := HD.out.2.2.1.ops.at_ (by rintro rfl; simp at hkl)
          subst e1
          have hpk := (List.getElem?_eq_some_iff.1 hk).2
          have hc2 := hc k hkl
          rw [hpk] at hc2
          have c0 : W2.cell? ⟨ob, oo + k * 7, none⟩ = some (.int .i64 p.k) := cell_later HB2.out (hc2 0 _ rfl)
          have c1 : W2.cell? ⟨ob, oo + k * 7 + 1, none⟩ = some (.int .i64 p.fr) := cell_later HB2.out (hc2 1 _ rfl)
          have c2 : W2.cell? ⟨ob, oo + k * 7 + 2, none⟩ = some (.int .i64 p.to_) := cell_later HB2.out (hc2 2 _ rfl)
          have c3 : W2.cell? ⟨ob, oo + k * 7 + 3, none⟩ = some (.int .i64 p.off) := cell_later HB2.out (hc2 3 _ rfl)
          have c4 : W2.cell? ⟨ob, oo + k * 7 + 4, none⟩ = some (.int .i64 p.len) := cell_later HB2.out (hc2 4 _ rfl)
          have c5 : W2.cell? ⟨ob, oo + k * 7 + 5, none⟩ = some (.slice p.da p.n p.dc) := cell_later HB2.out (hc2 5 _ rfl)
          have c6 : W2.cell? ⟨ob, oo + k * 7 + 6, none⟩ = some (.bool p.sy) := cell_later HB2.out (hc2 6 _ rfl)
          have cq := HC.out W2 HB2.out
          have kk0 : (0 : Int) ≤ (k : Int) := by omega
          have kk9 : (k : Int) < (m : Int) := by omega
          obtain ⟨ds, hds9⟩ : ∃ ds, dss[k]? = some ds := ⟨_, List.getElem?_eq_getElem (by rw [HD.out.2.2.1.len]; exact hkl)⟩
          have HK : Hid (¬ (k : Int) ∈ ord.take i ∧ l[k]? = some p ∧ dss[k]? = some ds ∧ Nxt l (ord.take i) p l.length) := ⟨hnm, hk, hds9, hnx⟩
          have hrow := HD.out.2.2.1.row k p ds hk hds9
          have HPl : Hid _ := rPlay_any co cc n p bs ds W2 (HB.out.2.1.later ((HB2b).out)) HB.out.2.2.1 (hrow.1.later HB2.out) hrow.2 ((wrg_zero HWr.out).2 k p hk) (wrg_zero HWr.out).1
          clear hc hc2 hpk hnm hk hnx hrow hds9
          go_wp2_with fail
          refine Calls.mono HPl.out ?_
          rintro e W3 ⟨co3, cc3, b3, bs3, rfl, hb3, hbs3, hl3, hr3, -, hbl3⟩
          have HB3 : Hid (Below w.heap.size w W3 ∧ BRow W3 co3 cc3 bs3 ∧ bs3.length = n ∧ b3 = p.fit bs ds ∧ (b3 = true → bs3 = p.eff bs ds)) := ⟨HB2.out.trans (hbl3.mono HB2.out.size), hr3, hl3, hb3, hbs3⟩
          clear hb3 hbs3 hl3 hr3 hbl3 HPl c0 c1 c2 c3 c4 c5 c6 cq
          cases b3 with
          | false =>
            have HF : Hid (∀ k p ds, ¬ Goes l dss ord bs i k p ds) := fun k' p' ds' hg => by
              have e1 := (hg.mayN HQ.out).2
              have e2 := Int.ofNat.inj e1
              subst e2
              obtain ⟨_, _, h3, h4, _, h6⟩ := hg
              rw [HK.out.2.1] at h3; rw [HK.out.2.2.1] at h4
              cases h3; cases h4
              rw [← HB3.out.2.2.2.1] at h6
              cases h6
            go_wp2
            go_ret3
            exact ⟨_, _, _, rfl, .inr (.inl ⟨HWr.out, i, bs, HB.out.2.2.2, hil, HF.out, rfl, rfl, rfl⟩), HB3.out.1⟩
          | true =>
            have HG : Hid (FolR l dss ord first (i + 1) bs3) := by
              rw [show Hid (FolR l dss ord first (i + 1) bs3) = FolR l dss ord first (i + 1) bs3 from rfl, HB3.out.2.2.2.2 rfl]
              exact .step HB.out.2.2.2 ⟨HQ.out, HK.out.1, HK.out.2.1, HK.out.2.2.1, HK.out.2.2.2, HB3.out.2.2.2.1.symm⟩
            go_wp2
            go_roundw
            case rel => exact ⟨i + 1, bs3, co3, cc3, by omega, rfl, by go_num, HB3.out.1, HB3.out.2.1, HB3.out.2.2.1, HG.out⟩
            case measure => simp [intOf]; omega
      · have n9 : decide ((i : Int) < (d : Int)) = false := by simp; omega
        obtain rfl : i = d := by omega
        have HWl : Hid _ := HWh.out wr HB.out.1
        go_wp2_with fail
        refine Calls.mono HWl.out ?_
        rintro e W2 ⟨r, rfl, hr, hb2⟩
        have HB2 : Hid (Below w.heap.size w W2 ∧ (r = true ↔ Whl l ord m) ∧ BRow W2 co cc bs) := ⟨HB.out.1.trans (hb2.mono HB.out.1.size), hr, HB.out.2.1.later hb2⟩
        clear hb2 hr HWl
        have HFl : Hid (FolR l dss ord first ord.length bs) := by
          have := HB.out.2.2.2
          rwa [← HD.out.2.2.2.2.2] at this
        have HLn : Hid ((i : Int) = (ord.length : Int)) := by
          have := HD.out.2.2.2.2.2
          show _ = _
          omega
        cases r with
        | false =>
          have HNW : Hid (¬ Whl l ord l.length) := fun hw => by
            rw [HD.out.2.2.2.1] at hw
            cases HB2.out.2.1.2 hw
          go_wp2
          go_ret3
          exact ⟨_, _, _, rfl, .inr (.inr (.inl ⟨HWr.out, bs, HFl.out, HNW.out, rfl, HLn.out, rfl⟩)), HB2.out.1⟩
        | true =>
          have HYW : Hid (Whl l ord l.length) := by
            show Whl _ _ _
            rw [HD.out.2.2.2.1]; exact HB2.out.2.1.1 rfl
          go_wp2
          go_ret3
          exact ⟨_, _, _, rfl, .inr (.inr (.inr ⟨HWr.out, bs, co, cc, HFl.out, HYW.out, rfl, HB2.out.2.2, HB.out.2.2.1, rfl, rfl⟩)), HB2.out.1⟩
  · have hw0 : (((wrg n l : Nat) : Int) != 0) = true := by rw [bne_iff_ne]; omega
    have HWr : Hid (¬ wrg n l = 0) := hw
    obtain ⟨z, hz9⟩ : ∃ z : Int, ((wrg n l : Nat) : Int) = z := ⟨_, rfl⟩
    have HZ : Hid (((wrg n l : Nat) : Int) = z) := hz9
    rw [hz9] at hw0 ⊢
    clear hz9 hw
    go_wp2
    go_ret3
    exact ⟨_, _, _, rfl, .inl ⟨HWr.out, rfl, rfl, HZ.out.symm⟩, HB0.out⟩
end Go.Proofs.Ytjkoambfecmglaa
