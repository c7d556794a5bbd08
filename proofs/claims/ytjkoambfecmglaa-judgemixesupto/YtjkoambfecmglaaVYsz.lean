import Derived.Test.YtjkoambfecmglaaVYrz
import Derived.Test.YtjkoambfecmglaaJO
import Derived.Test.YtjkoambfecmglaaVQz
namespace Go.Proofs.Ytjkoambfecmglaa
open Go.RowKit
set_option linter.unusedVariables false
set_option linter.unusedSimpArgs false
set_option maxRecDepth 100000
theorem Nx.goes {l : List Opv} {dss : List (List Nat)} {ord : List Int} {bs : List Nat} {i k : Nat} {p : Opv} {ds : List Nat} {q : Int} (hq : ord[i]? = some q) (h : Nx l dss (ord.take i) bs q k p ds) : Goes l dss ord bs i k p ds := by
  obtain ⟨h1, h2⟩ := h
  subst h1
  exact ⟨hq, h2⟩
theorem Goes.nx {l : List Opv} {dss : List (List Nat)} {ord : List Int} {bs : List Nat} {i k : Nat} {p : Opv} {ds : List Nat} {q : Int} (hq : ord[i]? = some q) (h : Goes l dss ord bs i k p ds) : Nx l dss (ord.take i) bs q k p ds := by
  obtain ⟨h1, h2⟩ := h
  rw [hq] at h1
  cases h1
  exact ⟨rfl, h2⟩
/-- what is answered is new memory -/
def NewB (B : Nat) (w' : World) (v : Value) : Prop := ∃ bs : List Nat, w'.ownsRow B 5 1 v bs.length (bs.map bv) ∧ (∀ x ∈ bs, x < 256) ∧ bs.length ≤ 4096
theorem NewB.none (B : Nat) (w' : World) : NewB B w' (.slice none 0 0) := ⟨[], ⟨rfl, .inl ⟨rfl, rfl⟩⟩, by simp, by simp⟩
set_option maxHeartbeats 16000000 in
/-- the program's Follow -/
theorem follow_any (fa oa za : Option Addr) (n fc m oc d zc : Nat) (first : List Nat) (l : List Opv) (dss : List (List Nat)) (ord : List Int) (w : World) (hb : BRow w fa fc first) (hn : first.length = n) (h : OpsD w oa l dss) (hm : l.length = m) (hs : m ≤ 1099511627776) (hz : ZRow w za ord) (hd : ord.length = d) (hds : d ≤ 1099511627776) :
    Calls Try.prog 11 #[.slice fa n fc, .slice oa m oc, .slice za d zc] w fun e w' => ∃ v at_ en, e = .returned (.tuple #[v, .int .i64 at_, .int .i64 en]) ∧ FolOut l dss ord first n w' v at_ en ∧ NewB w.heap.size w' v ∧ Below w.heap.size w w' := by
  have HRf : Hid _ := refused_any fa oa n fc m oc l w h.ops hm hs
  have HD : Hid (BRow w fa fc first ∧ first.length = n ∧ OpsD w oa l dss ∧ l.length = m ∧ ZRow w za ord ∧ ord.length = d) := ⟨hb, hn, h, hm, hz, hd⟩
  have HM : Hid (m ≤ 1099511627776) := hs
  clear hb hn h hm hz hd
  go_enter Try.func11, Try.ntmps11
  go_wp2_with fail
  refine Calls.mono HRf.out ?_
  rintro e W0 ⟨rfl, hb0⟩
  have HB0 : Hid (Below w.heap.size w W0) := hb0
  clear hb0 HRf
  by_cases hw : wrg n l = 0
  · have HWr : Hid (wrg n l = 0) := hw
    have hns : n ≤ 4096 := (wrg_zero hw).1
    have hw' : ((wrg n l : Nat) : Int) = 0 := by rw [hw]; rfl
    rw [hw']
    have HBe : Hid _ := begin_any fa oa n fc m oc first l W0 (HD.out.1.later HB0.out) HD.out.2.1 (HD.out.2.2.1.ops.later HB0.out) HD.out.2.2.2.1 HM.out hns
    clear hw hw'
    go_wp2_with fail
    refine Calls.mono HBe.out ?_
    rintro e W1 ⟨P, na, nc, pa, pc, wa, dc, ow, rfl, hb1, hwm, hws⟩
    have HS1 : Hid (Below w.heap.size w W1 ∧ Wm W1 (W0.heap.size + 1) P oa m oc na n nc first pa pc (List.replicate m false) wa dc ow ∧ WkS l [] (List.replicate m false) ow) := ⟨HB0.out.trans (hb1.mono HB0.out.size), hwm, hws⟩
    clear hb1 hwm hws HBe
    go_wp2_with fail
    go_loopw [24] (fun xv wr => ∃ (i : Nat) (bs : List Nat) (pl : List Bool) (wa : Option Addr) (dc : Nat) (ow : List Nat), i ≤ d ∧ xv = .int .i64 (i : Int) ∧ Hid (Below w.heap.size w wr ∧ Wm wr (W0.heap.size + 1) P oa m oc na n nc bs pa pc pl wa dc ow ∧ WkS l (ord.take i) pl ow ∧ HdN (ord.take i) ow ∧ FolR l dss ord first i bs)) (fun xv _ => d - (intOf xv).toNat)
    case atStart => exact ⟨0, first, List.replicate m false, wa, dc, ow, Nat.zero_le _, rfl, HS1.out.1, HS1.out.2.1, HS1.out.2.2, fun _ _ _ => by simp, .nil⟩
    case round =>
      obtain ⟨i, bs, pl, wa, dc, ow, hi, rfl, HB⟩ := hrel
      have hBw : W0.heap.size + 1 ≤ wr.heap.size := Nat.le_trans HB.out.2.1.hP (Nat.le_of_lt (block_lt HB.out.2.1.blk))
      by_cases hlt : i < d
      · have n9 : decide ((i : Int) < (d : Int)) = true := decide_eq_true (by omega)
        have ii0 : (0 : Int) ≤ (i : Int) := by omega
        have ii9 : (i : Int) < (d : Int) := by omega
        have hil : i < ord.length := by rw [HD.out.2.2.2.2.2]; exact hlt
        obtain ⟨zb, zo, e0, hc⟩ := HD.out.2.2.2.2.1.at_ (by rintro rfl; simp at hil)
        subst e0
        obtain ⟨q, hq⟩ : ∃ q, ord[i] = q := ⟨_, rfl⟩
        have HQ : Hid (ord[i]? = some q) := by show _ = _; rw [List.getElem?_eq_getElem hil, hq]
        have cq : wr.cell? ⟨zb, zo + i, none⟩ = some (.int .i64 q) := by rw [← hq]; exact cell_later HB.out.1 (hc i hil)
        have HT : Hid (ord.take (i + 1) = ord.take i ++ [q]) := by show _ = _; rw [List.take_succ_eq_append_getElem hil, hq]
        have HSt : Hid _ := step_any HB.out.2.1 HB.out.2.2.1 HB.out.2.2.2.1 (HD.out.2.2.1.later HB.out.1) HD.out.2.2.2.1 hns (wrg_zero HWr.out).2 hBw q
        clear hc hq
        go_wp2_with fail
        refine Calls.mono HSt.out ?_
        rintro e W2 ⟨r, rfl, hb2, hno, hyes⟩
        have HB2 : Hid (Below w.heap.size w W2) := HB.out.1.trans (hb2.mono (Nat.le_succ_of_le HB0.out.size))
        clear hb2 HSt
        cases r with
        | false =>
          have HF : Hid (∀ k p ds, ¬ Goes l dss ord bs i k p ds) := fun k p ds hg => hno rfl k p ds (hg.nx HQ.out)
          clear hno hyes
          go_wp2
          go_ret3
          exact ⟨_, _, _, rfl, .inr (.inl ⟨HWr.out, i, bs, HB.out.2.2.2.2, hil, HF.out, rfl, rfl, rfl⟩), NewB.none _ _, HB2.out⟩
        | true =>
          obtain ⟨k, p, ds, wa', dc', ow', hnx, hwm, hws, hhd⟩ := hyes rfl
          have HY : Hid (Below w.heap.size w W2 ∧ Wm W2 (W0.heap.size + 1) P oa m oc na n nc (p.eff bs ds) pa pc (pl.set k true) wa' dc' ow' ∧ WkS l (ord.take (i + 1)) (pl.set k true) ow' ∧ HdN (ord.take (i + 1)) ow' ∧ FolR l dss ord first (i + 1) (p.eff bs ds)) := by
            refine ⟨HB2.out, hwm, ?_, ?_, .step HB.out.2.2.2.2 (hnx.goes HQ.out)⟩
            · rw [HT.out]; exact hws
            · rw [HT.out]; exact hhd
          clear hno hyes hnx hwm hws hhd
          go_wp2
          go_roundw
          case rel => exact ⟨i + 1, p.eff bs ds, pl.set k true, wa', dc', ow', by omega, by go_num, HY.out⟩
          case measure => simp [intOf]; omega
      · have n9 : decide ((i : Int) < (d : Int)) = false := decide_eq_false (by omega)
        obtain rfl : i = d := by omega
        have HWh : Hid _ := whole_any (W := wr) (P := P) (m := m) (oc := oc) (n := n) (nc := nc) (pc := pc) (d := ow.length) (dc := dc) (oa := oa) (na := na) (pa := pa) (wa := wa) ⟨HB.out.2.1.c0, HB.out.2.1.c1, HB.out.2.1.c2, HB.out.2.1.c3⟩
        have HTk : Hid (ord.take i = ord) := List.take_of_length_le (by rw [HD.out.2.2.2.2.2]; exact Nat.le_refl _)
        have HLn : Hid ((i : Int) = (ord.length : Int)) := by
          have := HD.out.2.2.2.2.2
          show _ = _
          omega
        have HFl : Hid (FolR l dss ord first ord.length bs) := by
          have := HB.out.2.2.2.2
          rwa [← HD.out.2.2.2.2.2] at this
        have HW9 : Hid (Whl l ord l.length ↔ ow = []) := by
          have := HB.out.2.2.1.whole HB.out.2.2.2.1
          rwa [HTk.out] at this
        go_wp2_with fail
        refine Calls.mono HWh.out ?_
        rintro e W2 ⟨rfl, rfl⟩
        clear HWh
        by_cases hw0 : ow.length = 0
        · have e1 : decide (ow.length = 0) = true := decide_eq_true hw0
          have HYW : Hid (Whl l ord l.length) := HW9.out.2 (List.eq_nil_of_length_eq_zero hw0)
          have c1 := HB.out.2.1.c1
          rw [e1]
          clear e1 hw0
          go_wp2
          go_ret3
          have hnow := HB.out.2.1
          have hbn := hnow.bsn
          refine ⟨_, _, _, rfl, .inr (.inr (.inr ⟨HWr.out, bs, na, nc, HFl.out, HYW.out, rfl, hnow.brow hns, hbn, rfl, rfl⟩)), ⟨bs, ?_, hnow.blt, by omega⟩, HB.out.1⟩
          rw [hbn]
          exact owns_mono hnow.now (Nat.le_succ_of_le HB0.out.size)
        · have e1 : decide (ow.length = 0) = false := decide_eq_false hw0
          have HNW : Hid (¬ Whl l ord l.length) := fun h => hw0 (by rw [HW9.out.1 h]; rfl)
          rw [e1]
          clear e1 hw0
          go_wp2
          go_ret3
          exact ⟨_, _, _, rfl, .inr (.inr (.inl ⟨HWr.out, bs, HFl.out, HNW.out, rfl, HLn.out, rfl⟩)), NewB.none _ _, HB.out.1⟩
  · have hw0 : (((wrg n l : Nat) : Int) != 0) = true := by rw [bne_iff_ne]; omega
    have HWr : Hid (¬ wrg n l = 0) := hw
    obtain ⟨z, hz9⟩ : ∃ z : Int, ((wrg n l : Nat) : Int) = z := ⟨_, rfl⟩
    have HZ : Hid (((wrg n l : Nat) : Int) = z) := hz9
    rw [hz9] at hw0 ⊢
    clear hz9 hw
    go_wp2
    go_ret3
    exact ⟨_, _, _, rfl, .inl ⟨HWr.out, rfl, rfl, HZ.out.symm⟩, NewB.none _ _, HB0.out⟩
end Go.Proofs.Ytjkoambfecmglaa
