import Derived.Test.YtjkoambfecmglaaJL
import Derived.Test.YtjkoambfecmglaaJP
namespace Go.Proofs.Ytjkoambfecmglaa
open Go.RowKit
set_option linter.unusedVariables false
set_option linter.unusedSimpArgs false
set_option maxRecDepth 100000
theorem Cm.rebase {W : World} {B B' P n ac S mc : Nat} {aa ma : Option Addr} {after : List Nat} {may : List Bool} (h : Cm W B P aa n ac after ma S mc may) (hB : B' ≤ B) (haf : ∀ U, Below B' W U → BRow U aa ac after) : Cm W B' P aa n ac after ma S mc may where
  blk := h.blk
  hP := Nat.le_trans hB h.hP
  row := owns_mono h.row hB
  af := haf
  han := h.han
  hac := h.hac
  hs := h.hs
  hS := h.hS
theorem Cm.kept {W V : World} {B B1 P P2 n ac S mc : Nat} {nb pb : Option Nat} {aa ma : Option Addr} {after : List Nat} {may : List Bool} (h : Cm W B P2 aa n ac after ma S mc may) (hk : Kp3 B1 nb pb P W V) (hBB : B ≤ B1) (hno : ∀ g, g = P2 ∨ (Value.slice ma S mc).ownBlock = some g → some g ≠ nb ∧ some g ≠ pb ∧ g ≠ P) : Cm V B P2 aa n ac after ma S mc may where
  blk := (hk.far P2 (block_lt h.blk) (hno P2 (.inl rfl)).1 (hno P2 (.inl rfl)).2.1 (hno P2 (.inl rfl)).2.2).trans h.blk
  hP := h.hP
  row := owns_same h.row fun g e => hk.far g (owns_in h.row e).2 (hno g (.inr e)).1 (hno g (.inr e)).2.1 (hno g (.inr e)).2.2
  af U hU := h.af U ((hk.below.mono hBB).trans hU)
  han := h.han
  hac := h.hac
  hs := h.hs
  hS := h.hS
/-- what lies in the row is Booleans alone -/
theorem Cm.bools {W : World} {B P n ac S g : Nat} {aa : Option Addr} {after : List Nat} {may : List Bool} (h : Cm W B P aa n ac after (some ⟨g, 0, none⟩) S S may) {j : Nat} {v : Value} (hv : W.cell? ⟨g, j, none⟩ = some v) : ∃ b, v = .bool b := by
  rcases h.row.2 with ⟨h0, _⟩ | ⟨g', cap, cur, h0, _, hg, _, _, hsz, ht⟩
  · cases h0
  · cases h0
    unfold World.cell? at hv
    simp only [hg] at hv
    have h1 : cur.toList[j]? = some v := by simpa using hv
    have h2 := (List.getElem?_eq_some_iff.1 h1).1
    have h3 : j < S := by simp at h2 hsz; omega
    have h4 : (may.map Value.bool)[j]? = some v := by
      rw [← ht, List.getElem?_take, if_pos (by omega)]; exact h1
    rw [List.getElem?_map] at h4
    cases hm : may[j]? with
    | none => rw [hm] at h4; cases h4
    | some b => rw [hm] at h4; cases h4; exact ⟨b, rfl⟩
theorem Wm.apart {W V : World} {B P m oc n nc pc dc g : Nat} {oa na pa wa : Option Addr} {bs : List Nat} {pl : List Bool} {ow : List Nat} (h : Wm W B P oa m oc na n nc bs pa pc pl wa dc ow) (hg : W.grownBy V (some g)) (h1 : P ≠ g) (h2 : (Value.slice na n nc).ownBlock ≠ some g) (h3 : (Value.slice pa m pc).ownBlock ≠ some g) (h4 : ∀ j v, W.cell? ⟨g, j, none⟩ = some v → ∃ b, v = .bool b) : Wm V B P oa m oc na n nc bs pa pc pl wa dc ow where
  blk := (hg.block P (block_lt h.blk) (fun e => h1 (Option.some.inj e))).trans h.blk
  hP := h.hP
  now := owns_same h.now fun x e => hg.block x (owns_in h.now e).2 (fun e2 => h2 (by rw [e, e2]))
  bsn := h.bsn
  blt := h.blt
  pld := owns_same h.pld fun x e => hg.block x (owns_in h.pld e).2 (fun e2 => h3 (by rw [e, e2]))
  owd := ⟨fun hne => by
    obtain ⟨b, off, e, hc⟩ := h.owd.at_ hne
    refine ⟨b, off, e, fun k hk => ?_⟩
    have h5 := hc k hk
    refine hg.cell h5 (fun e2 => ?_)
    have e3 : b = g := Option.some.inj e2
    subst e3
    obtain ⟨x, hx⟩ := h4 _ _ h5
    cases hx⟩
  odc := h.odc
  apN := h.apN
  apP := h.apP
  apNP := h.apNP
  apW a e := by
    obtain ⟨q1, q2, q3, q4⟩ := h.apW a e
    exact ⟨q1, q2, q3, Nat.lt_of_lt_of_le q4 hg.size⟩
  apO := h.apO
/-- the bytes of a walk, where a block that is none of its own changes -/
theorem Wm.nowFar {W : World} {B P m oc n nc pc dc g : Nat} {oa na pa wa : Option Addr} {bs : List Nat} {pl : List Bool} {ow : List Nat} (h : Wm W B P oa m oc na n nc bs pa pc pl wa dc ow) (hns : n ≤ 4096) (h2 : (Value.slice na n nc).ownBlock ≠ some g) : ∀ U, W.grownBy U (some g) → BRow U na nc bs := fun U hU =>
  brow_own (owns_far h.now hU (fun x e e2 => h2 (by rw [e, e2]))) h.bsn h.blt (by omega)
set_option maxHeartbeats 16000000 in
/-- the program's Survives -/
theorem survives_any (fa oa za aa : Option Addr) (n fc m oc d zc an ac : Nat) (first after : List Nat) (l : List Opv) (dss : List (List Nat)) (ord : List Int) (w : World) (hb : BRow w fa fc first) (hn : first.length = n) (hfc : n ≤ fc) (h : OpsD w oa l dss) (hm : l.length = m) (hs : m ≤ 1099511627776) (hz : ZRow w za ord) (hd : ord.length = d) (hds : d ≤ 1099511627776) (ha : BRow w aa ac after) (han : after.length = an) (hac : an ≤ ac) :
    Calls Try.prog 19 #[.slice fa n fc, .slice oa m oc, .slice za d zc, .slice aa an ac] w (SvEnd l dss ord first after n w) := by
  have HRf : Hid _ := refused_any fa oa n fc m oc l w h.ops hm hs
  have HD : Hid (BRow w fa fc first ∧ first.length = n ∧ OpsD w oa l dss ∧ l.length = m ∧ ZRow w za ord ∧ ord.length = d) := ⟨hb, hn, h, hm, hz, hd⟩
  have HM : Hid (m ≤ 1099511627776 ∧ BRow w aa ac after ∧ after.length = an ∧ an ≤ ac ∧ n ≤ fc) := ⟨hs, ha, han, hac, hfc⟩
  clear hb hn h hm hz hd ha han hac hfc
  go_enter Try.func19, Try.ntmps19
  go_wp2_with fail
  refine Calls.mono HRf.out ?_
  rintro e W0 ⟨rfl, hb0⟩
  have HB0 : Hid (Below w.heap.size w W0) := hb0
  clear hb0 HRf
  by_cases hw : wrg n l = 0
  · have HWr : Hid (wrg n l = 0) := hw
    have hns : n ≤ 4096 := (wrg_zero hw).1
    have hw' : ((wrg n l : Nat) : Int) = 0 := by rw [hw]; rfl
    rw [hw']
    by_cases hal : an = n
    · subst hal
      have HBe : Hid _ := begin_any fa oa an fc m oc first l W0 (HD.out.1.later HB0.out) HD.out.2.1 (HD.out.2.2.1.ops.later HB0.out) HD.out.2.2.2.1 HM.out.1 hns
      clear hw hw'
      have n7 : ((an : Int) != (an : Int)) = false := by simp
      go_wp2_with fail
      refine Calls.mono HBe.out ?_
      rintro e W1 ⟨P, na, nc, pa, pc, wa, dc, ow, rfl, hb1, hwm, hws⟩
      have HS1 : Hid (Below w.heap.size w W1 ∧ Wm W1 (W0.heap.size + 1) P oa m oc na an nc first pa pc (List.replicate m false) wa dc ow ∧ WkS l [] (List.replicate m false) ow) := ⟨HB0.out.trans (hb1.mono HB0.out.size), hwm, hws⟩
      have HAp : Hid (P < W1.heap.size ∧ (∀ x, (Value.slice na an nc).ownBlock = some x → x < W1.heap.size) ∧ ∀ x, (Value.slice pa m pc).ownBlock = some x → x < W1.heap.size) := ⟨block_lt hwm.blk, fun x e => (owns_in hwm.now e).2, fun x e => (owns_in hwm.pld e).2⟩
      have HCw : Hid _ := compareWith_any aa fa an ac fc after first W1 (HM.out.2.1.later HS1.out.1) HM.out.2.2.1 HM.out.2.2.2.1 (HD.out.1.later HS1.out.1) HD.out.2.1 HM.out.2.2.2.2 hns
      clear hb1 hwm hws HBe
      go_wp2_with fail
      refine Calls.mono HCw.out ?_
      rintro e W2 ⟨S, rfl, hcm, hb2⟩
      have HS2 : Hid (Below w.heap.size w W2 ∧ Wm W2 (W0.heap.size + 1) P oa m oc na an nc first pa pc (List.replicate m false) wa dc ow ∧ Cm W2 w.heap.size (W1.heap.size + 1) aa an ac after (some ⟨W1.heap.size, 0, none⟩) S S (may0 S first after)) := by
        have h1 : Below w.heap.size w W2 := HS1.out.1.trans (hb2.mono HS1.out.1.size)
        exact ⟨h1, HS1.out.2.1.later hb2, hcm.rebase HS1.out.1.size fun U hU => HM.out.2.1.later (h1.trans hU)⟩
      have hSn : secs an = S := hcm.hS
      clear hcm hb2 HCw
      go_wp2_with fail
      go_loopw [37] (fun xv wr => ∃ (i : Nat) (bs : List Nat) (pl : List Bool) (wa : Option Addr) (dc : Nat) (ow : List Nat) (may : List Bool), i ≤ d ∧ xv = .int .i64 (i : Int) ∧ Hid (Below w.heap.size w wr ∧ Wm wr (W0.heap.size + 1) P oa m oc na an nc bs pa pc pl wa dc ow ∧ WkS l (ord.take i) pl ow ∧ HdN (ord.take i) ow ∧ FolR l dss ord first i bs ∧ Cm wr w.heap.size (W1.heap.size + 1) aa an ac after (some ⟨W1.heap.size, 0, none⟩) S S may ∧ Mays l dss ord first after (secs an) i may)) (fun xv _ => d - (intOf xv).toNat)
      case atStart =>
        refine ⟨0, first, List.replicate m false, wa, dc, ow, may0 S first after, Nat.zero_le _, rfl, HS2.out.1, HS2.out.2.1, HS1.out.2.2, fun _ _ _ => by simp, .nil, HS2.out.2.2, ?_⟩
        rw [hSn]; exact Mays.start _ _ _ _ _ _
      case round =>
        obtain ⟨i, bs, pl, wa, dc, ow, may, hi, rfl, HB⟩ := hrel
        have hBw : W0.heap.size + 1 ≤ wr.heap.size := Nat.le_trans HB.out.2.1.hP (Nat.le_of_lt (block_lt HB.out.2.1.blk))
        by_cases hlt : i < d
        · have n9 : decide ((i : Int) < (d : Int)) = true := decide_eq_true (by omega)
          have ii0 : (0 : Int) ≤ (i : Int) := by omega
          have ii9 : (i : Int) < (d : Int) := by omega
          have hil : i < ord.length := by rw [HD.out.2.2.2.2.2]; exact hlt
          obtain ⟨zb, zo, e0, hc⟩ := HD.out.2.2.2.2.1.at_ (by rintro rfl; simp at hil)
          subst e0
          obtain ⟨q, hq⟩ : ∃ q, ord[i] = q := ⟨_, rfl⟩
          have HQ : Hid (ord[i]? = some q) := by show _ = _; rw [List.getElem?_eq_getElem hil, hq]
          have cq : wr.cell? ⟨zb, zo + i, none⟩ = some (.int .i64 q) := by rw [← hq]; exact cell_later HB.out.1 (hc i hil)
          have HT : Hid (ord.take (i + 1) = ord.take i ++ [q]) := by show _ = _; rw [List.take_succ_eq_append_getElem hil, hq]
          have HSt : Hid _ := step_any3 HB.out.2.1 HB.out.2.2.1 HB.out.2.2.2.1 (HD.out.2.2.1.later HB.out.1) HD.out.2.2.2.1 hns (wrg_zero HWr.out).2 hBw q
          clear hc hq
          go_wp2_with fail
          refine Calls.mono HSt.out ?_
          rintro e W3 ⟨r, rfl, hk3, hno, hyes⟩
          have HB3 : Hid (Below w.heap.size w W3) := HB.out.1.trans (hk3.below.mono (Nat.le_succ_of_le HB0.out.size))
          have HC3 : Hid (Cm W3 w.heap.size (W1.heap.size + 1) aa an ac after (some ⟨W1.heap.size, 0, none⟩) S S may) := HB.out.2.2.2.2.2.1.kept hk3 (Nat.le_succ_of_le HB0.out.size) (fun g hg => by
            have hgl : W1.heap.size ≤ g := by
              rcases hg with rfl | hg
              · omega
              · have : W1.heap.size = g := Option.some.inj hg
                omega
            have h1 := HAp.out.1
            refine ⟨fun e => ?_, fun e => ?_, by omega⟩
            · have := HAp.out.2.1 g e.symm; omega
            · have := HAp.out.2.2 g e.symm; omega)
          clear hk3 HSt
          cases r with
          | false =>
            have HF : Hid (¬ Follows l dss ord first) := by
              rintro ⟨bsF, hf, _⟩
              obtain ⟨bs0, k, p, ds, q1, q2⟩ := hf.goes hil
              have e := FolR.det q1 HB.out.2.2.2.2.1
              subst e
              exact hno rfl k p ds (q2.nx HQ.out)
            clear hno hyes
            go_wp2
            go_ret3
            exact SvEnd.mk 0 false 172 rfl (.inr (.inl ⟨HWr.out, .inr HF.out, rfl, rfl, rfl⟩)) HB3.out
          | true =>
            obtain ⟨k, p, ds, wa', dc', ow', hnx, hwm, hws, hhd⟩ := hyes rfl
            have HY : Hid (Wm W3 (W0.heap.size + 1) P oa m oc na an nc (p.eff bs ds) pa pc (pl.set k true) wa' dc' ow' ∧ WkS l (ord.take (i + 1)) (pl.set k true) ow' ∧ HdN (ord.take (i + 1)) ow' ∧ Goes l dss ord bs i k p ds) := by
              refine ⟨hwm, ?_, ?_, hnx.goes HQ.out⟩
              · rw [HT.out]; exact hws
              · rw [HT.out]; exact hhd
            have hqk : q = (k : Int) := hnx.1
            have hlk : l[k]? = some p := hnx.2.2.1
            have hdk : dss[k]? = some ds := hnx.2.2.2.1
            subst hqk
            have hkm : k < m := by rw [← HD.out.2.2.2.1]; exact (List.getElem?_eq_some_iff.1 hlk).1
            have HMay : Hid (p.May an) := Opv.may_of ((wrg_zero HWr.out).2 k p hlk)
            have HDs : Hid (ds.length = p.n) := (HD.out.2.2.1.row k p ds hlk hdk).2
            have HMs : Hid (Mays l dss ord first after (secs an) (i + 1) (updM may (rlo p.k p.off.toNat p.len.toNat) (rhi an p.k p.off.toNat p.len.toNat) (seeF may p.sy (p.eff bs ds) after))) := HB.out.2.2.2.2.2.2.step HB.out.2.2.2.2.1 HY.out.2.2.2 HMay.out HB.out.2.1.bsn HDs.out
            have HDr : Hid (Below W3.heap.size W3 W3.drew) := ⟨rfl, rfl, rfl, Nat.le_refl _, fun _ _ => rfl⟩
            have HgN : Hid (P ≠ W1.heap.size ∧ (Value.slice na an nc).ownBlock ≠ some W1.heap.size ∧ (Value.slice pa m pc).ownBlock ≠ some W1.heap.size) := by
              refine ⟨by have := HAp.out.1; omega, fun e => ?_, fun e => ?_⟩
              · have := HAp.out.2.1 _ e; omega
              · have := HAp.out.2.2 _ e; omega
            have HSee : Hid (Calls Try.prog 36 #[.pointer (some ⟨W1.heap.size + 1, 0, none⟩), .slice na an nc, .agg #[.int .i64 p.k, .int .i64 p.fr, .int .i64 p.to_, .int .i64 p.off, .int .i64 p.len, .slice p.da p.n p.dc, .bool p.sy]] W3.drew fun e w' => e = .returned (.tuple #[]) ∧ Cm w' w.heap.size (W1.heap.size + 1) aa an ac after (some ⟨W1.heap.size, 0, none⟩) S S (updM may (rlo p.k p.off.toNat p.len.toNat) (rhi an p.k p.off.toNat p.len.toNat) (seeF may p.sy (p.eff bs ds) after)) ∧ W3.drew.grownBy w' (some W1.heap.size)) := by
              have hM := HMay.out
              obtain ⟨off, ho⟩ := Int.eq_ofNat_of_zero_le hM.off0
              obtain ⟨mm, hmm⟩ := Int.eq_ofNat_of_zero_le hM.len0
              have h3 := hM.lenn
              rw [ho, hmm]
              simp only [Int.toNat_natCast]
              exact see_any na p.da an nc p.n p.dc off mm p.k p.fr p.to_ p.sy (p.eff bs ds) after aa w.heap.size (W1.heap.size + 1) ac W1.heap.size S S may W3.drew (by omega) (HC3.out.later HDr.out) ((HY.out.1.later HDr.out).nowFar hns HgN.out.2.1) HY.out.1.bsn HY.out.1.nnc
            obtain ⟨ob, oo, e1, hc⟩ := ops_at (HD.out.2.2.1.ops.later HB3.out) hlk
            subst e1
            have HCc : Hid (∀ U, Below W3.heap.size W3 U → U.cell? ⟨P, 1, none⟩ = some (.slice na an nc) ∧ U.cell? ⟨ob, oo + k * 7, none⟩ = some (.int .i64 p.k) ∧ U.cell? ⟨ob, oo + k * 7 + 1, none⟩ = some (.int .i64 p.fr) ∧ U.cell? ⟨ob, oo + k * 7 + 2, none⟩ = some (.int .i64 p.to_) ∧ U.cell? ⟨ob, oo + k * 7 + 3, none⟩ = some (.int .i64 p.off) ∧ U.cell? ⟨ob, oo + k * 7 + 4, none⟩ = some (.int .i64 p.len) ∧ U.cell? ⟨ob, oo + k * 7 + 5, none⟩ = some (.slice p.da p.n p.dc) ∧ U.cell? ⟨ob, oo + k * 7 + 6, none⟩ = some (.bool p.sy)) := fun U hU =>
              ⟨cell_later hU HY.out.1.c1, cell_later hU (hc 0 _ rfl), cell_later hU (hc 1 _ rfl), cell_later hU (hc 2 _ rfl), cell_later hU (hc 3 _ rfl), cell_later hU (hc 4 _ rfl), cell_later hU (hc 5 _ rfl), cell_later hU (hc 6 _ rfl)⟩
            obtain ⟨c0, c1, c2, c3, c4, c5, c6, c7⟩ := HCc.out W3 (Below.refl _ _)
            have kk0 : (0 : Int) ≤ (k : Int) := by omega
            have kk9 : (k : Int) < (m : Int) := by omega
            clear hno hyes hnx hwm hws hhd hlk hdk hc cq
            go_wp2
            go_region_held3 (fun w' => w'.cell? ⟨P, 1, none⟩ = some (.slice na an nc) ∧ w'.cell? ⟨ob, oo + k * 7, none⟩ = some (.int .i64 p.k) ∧ w'.cell? ⟨ob, oo + k * 7 + 1, none⟩ = some (.int .i64 p.fr) ∧ w'.cell? ⟨ob, oo + k * 7 + 2, none⟩ = some (.int .i64 p.to_) ∧ w'.cell? ⟨ob, oo + k * 7 + 3, none⟩ = some (.int .i64 p.off) ∧ w'.cell? ⟨ob, oo + k * 7 + 4, none⟩ = some (.int .i64 p.len) ∧ w'.cell? ⟨ob, oo + k * 7 + 5, none⟩ = some (.slice p.da p.n p.dc) ∧ w'.cell? ⟨ob, oo + k * 7 + 6, none⟩ = some (.bool p.sy)) (first | exact HX4.out | exact HCc.out _ HDr.out | go_keep) (first | (go_at_call 36; refine Calls.mono HSee.out ?_; rintro e W4 ⟨rfl, hcm4, hg4⟩; have HG4 : Hid (Cm W4 w.heap.size (W1.heap.size + 1) aa an ac after (some ⟨W1.heap.size, 0, none⟩) S S (updM may (rlo p.k p.off.toNat p.len.toNat) (rhi an p.k p.off.toNat p.len.toNat) (seeF may p.sy (p.eff bs ds) after)) ∧ W3.drew.grownBy W4 (some W1.heap.size)) := ⟨hcm4, hg4⟩; clear hcm4 hg4; have HX4 : Hid (W4.cell? ⟨P, 1, none⟩ = some (.slice na an nc) ∧ W4.cell? ⟨ob, oo + k * 7, none⟩ = some (.int .i64 p.k) ∧ W4.cell? ⟨ob, oo + k * 7 + 1, none⟩ = some (.int .i64 p.fr) ∧ W4.cell? ⟨ob, oo + k * 7 + 2, none⟩ = some (.int .i64 p.to_) ∧ W4.cell? ⟨ob, oo + k * 7 + 3, none⟩ = some (.int .i64 p.off) ∧ W4.cell? ⟨ob, oo + k * 7 + 4, none⟩ = some (.int .i64 p.len) ∧ W4.cell? ⟨ob, oo + k * 7 + 5, none⟩ = some (.slice p.da p.n p.dc) ∧ W4.cell? ⟨ob, oo + k * 7 + 6, none⟩ = some (.bool p.sy)) := (by
              obtain ⟨x0, x1, x2, x3, x4, x5, x6, x7⟩ := HCc.out _ HDr.out
              have hP1 : some P ≠ some W1.heap.size := fun e => HgN.out.1 (Option.some.inj e)
              have hob : ob < W1.heap.size := Nat.lt_of_lt_of_le (HY.out.1.apO (by omega) _ rfl) (Nat.le_of_lt (Nat.lt_of_le_of_lt HS1.out.2.1.hP (block_lt HS1.out.2.1.blk)))
              have hP2 : some ob ≠ some W1.heap.size := fun e => by have := Option.some.inj e; omega
              exact ⟨HG4.out.2.cell x0 hP1, HG4.out.2.cell x1 hP2, HG4.out.2.cell x2 hP2, HG4.out.2.cell x3 hP2, HG4.out.2.cell x4 hP2, HG4.out.2.cell x5 hP2, HG4.out.2.cell x6 hP2, HG4.out.2.cell x7 hP2⟩)))
            have HEnd : Hid (Below w.heap.size w W4 ∧ Wm W4 (W0.heap.size + 1) P (some ⟨ob, oo, none⟩) m oc na an nc (p.eff bs ds) pa pc (pl.set k true) wa' dc' ow' ∧ WkS l (ord.take (i + 1)) (pl.set k true) ow' ∧ HdN (ord.take (i + 1)) ow' ∧ FolR l dss ord first (i + 1) (p.eff bs ds) ∧ Cm W4 w.heap.size (W1.heap.size + 1) aa an ac after (some ⟨W1.heap.size, 0, none⟩) S S (updM may (rlo p.k p.off.toNat p.len.toNat) (rhi an p.k p.off.toNat p.len.toNat) (seeF may p.sy (p.eff bs ds) after)) ∧ Mays l dss ord first after (secs an) (i + 1) (updM may (rlo p.k p.off.toNat p.len.toNat) (rhi an p.k p.off.toNat p.len.toNat) (seeF may p.sy (p.eff bs ds) after))) := by
              refine ⟨?_, (HY.out.1.later HDr.out).apart HG4.out.2 HgN.out.1 HgN.out.2.1 HgN.out.2.2 (fun j v hv => (HC3.out.later HDr.out).bools hv), HY.out.2.1, HY.out.2.2.1, .step HB.out.2.2.2.2.1 HY.out.2.2.2, HG4.out.1, HMs.out⟩
              have h1 : Below w.heap.size w W3.drew := HB3.out.trans (HDr.out.mono HB3.out.size)
              exact h1.grown HG4.out.2 h1.size (fun k e => by have := Option.some.inj e; have := HS1.out.1.size; omega)
            clear c0 c1 c2 c3 c4 c5 c6 c7
            go_wp2
            go_roundw
            case rel => exact ⟨i + 1, p.eff bs ds, pl.set k true, wa', dc', ow', _, by omega, by go_num, HEnd.out⟩
            case measure => simp [intOf]; omega
        · have n9 : decide ((i : Int) < (d : Int)) = false := decide_eq_false (by omega)
          obtain rfl : i = d := by omega
          have HWh : Hid _ := whole_any (W := wr) (P := P) (m := m) (oc := oc) (n := an) (nc := nc) (pc := pc) (d := ow.length) (dc := dc) (oa := oa) (na := na) (pa := pa) (wa := wa) ⟨HB.out.2.1.c0, HB.out.2.1.c1, HB.out.2.1.c2, HB.out.2.1.c3⟩
          have HTk : Hid (ord.take i = ord) := List.take_of_length_le (by rw [HD.out.2.2.2.2.2]; exact Nat.le_refl _)
          have HFl : Hid (FolR l dss ord first ord.length bs) := by
            have := HB.out.2.2.2.2.1
            rwa [← HD.out.2.2.2.2.2] at this
          have HW9 : Hid (Whl l ord l.length ↔ ow = []) := by
            have := HB.out.2.2.1.whole HB.out.2.2.2.1
            rwa [HTk.out] at this
          have HMd : Hid (Mays l dss ord first after (secs an) ord.length may) := by
            have := HB.out.2.2.2.2.2.2
            rwa [← HD.out.2.2.2.2.2] at this
          go_wp2_with fail
          refine Calls.mono HWh.out ?_
          rintro e W3 ⟨rfl, rfl⟩
          clear HWh
          by_cases hw0 : ow.length = 0
          · have e1 : decide (ow.length = 0) = true := decide_eq_true hw0
            have HYW : Hid (Follows l dss ord first) := ⟨bs, HFl.out, HW9.out.2 (List.eq_nil_of_length_eq_zero hw0)⟩
            have HVd : Hid _ := verdict_any HB.out.2.2.2.2.2.1
            rw [e1]
            clear e1 hw0
            go_wp2_with fail
            refine Calls.mono HVd.out ?_
            rintro e W4 ⟨hv, hb4⟩
            have HB4 : Hid (Below w.heap.size w W4) := HB.out.1.trans (hb4.mono HB.out.1.size)
            clear hb4 HVd
            rcases hv with ⟨s, h1, h2, rfl⟩ | ⟨h1, rfl⟩
            · have HO : Hid (SvOut l dss ord first after an s false 0) := by
                refine .inr (.inr (.inl ⟨HWr.out, HM.out.2.2.1, HYW.out, rfl, rfl, ?_, fun h => ?_, fun j hj => ?_⟩))
                · have := (List.getElem?_eq_some_iff.1 h1).1; rw [HMd.out.len] at this; exact this
                · cases (HMd.out.iff s false h1).2 h
                · exact (HMd.out.iff j true (h2 j hj)).1 rfl
              clear h1 h2
              go_wp2
              go_ret3
              exact SvEnd.mk s false 0 rfl HO.out HB4.out
            · have HO : Hid (SvOut l dss ord first after an 0 true 0) := by
                refine .inr (.inr (.inr ⟨HWr.out, HM.out.2.2.1, HYW.out, rfl, rfl, rfl, fun j hj => ?_⟩))
                exact (HMd.out.iff j true (h1 j (by rw [HMd.out.len]; exact hj))).1 rfl
              clear h1
              go_wp2
              go_ret3
              exact SvEnd.mk 0 true 0 rfl HO.out HB4.out
          · have e1 : decide (ow.length = 0) = false := decide_eq_false hw0
            have HNW : Hid (¬ Follows l dss ord first) := by
              rintro ⟨bsF, _, h⟩
              exact hw0 (by rw [HW9.out.1 h]; rfl)
            rw [e1]
            clear e1 hw0
            go_wp2
            go_ret3
            exact SvEnd.mk 0 false 172 rfl (.inr (.inl ⟨HWr.out, .inr HNW.out, rfl, rfl, rfl⟩)) HB.out.1
    · have HA : Hid (after.length ≠ n) := by
        show _ ≠ _
        rw [HM.out.2.2.1]; exact hal
      have n7 : ((an : Int) != (n : Int)) = true := by rw [bne_iff_ne]; omega
      have n6 : ((an : Int) == (n : Int)) = false := by rw [beq_eq_false_iff_ne]; omega
      clear hw hw' hal
      go_wp2_with fail
      go_ret3
      exact SvEnd.mk 0 false 172 rfl (.inr (.inl ⟨HWr.out, .inl HA.out, rfl, rfl, rfl⟩)) HB0.out
  · have HWr : Hid (wrg n l ≠ 0) := hw
    obtain ⟨x, hx⟩ : ∃ x, wrg n l = x := ⟨_, rfl⟩
    rw [hx]
    have n8 : ((x : Int) == 0) = false := by rw [beq_eq_false_iff_ne]; omega
    have n7 : ((x : Int) != 0) = true := by rw [bne_iff_ne]; omega
    have HXx : Hid (wrg n l = x) := hx
    clear hx hw
    go_wp2_with fail
    go_ret3
    exact SvEnd.mk 0 false x rfl (.inl ⟨HWr.out, rfl, rfl, HXx.out.symm⟩) HB0.out
end Go.Proofs.Ytjkoambfecmglaa

namespace Go.Proofs.Ytjkoambfecmglaa
open Go.RowKit
set_option linter.unusedVariables false
set_option linter.unusedSimpArgs false
set_option maxRecDepth 100000
theorem same_rows {ao bo : Option Addr} {c c' n m : Nat} {l k : List Nat} {w : World} (h : BRow w ao c l) (hl : l.length = n) (h' : BRow w bo c' k) (hk : k.length = m) : Calls Try.prog 13 #[.slice ao n c, .slice bo m c'] w fun e w' => e = .returned (.bool (decide (l = k))) ∧ Below w.heap.size w w' := by
  subst hl hk
  refine (same_any ao bo c c' l k w h h').mono ?_
  rintro e w' ⟨rfl, q, rfl⟩
  exact ⟨rfl, ⟨rfl, rfl, rfl, Nat.le_refl _, fun _ _ => rfl⟩⟩
theorem owns_cap {w : World} {B e n c : Nat} {ao : Option Addr} {xs : List Value} (h : w.ownsRow B e 1 (.slice ao n c) n xs) : n ≤ c := by
  rcases h.2 with ⟨h0, h1⟩ | ⟨_, _, _, hv, _, _, h1, _⟩
  · omega
  · cases hv; exact h1
/-- was a sector so, at some moment ahead of i, not ahead of its floor? -/
def OkTo (l : List Opv) (dss : List (List Nat)) (ord : List Int) (first after : List Nat) (s f i : Nat) : Prop := ∃ j, f ≤ j ∧ j < i ∧ ∃ bs, FolR l dss ord first j bs ∧ prt bs s = prt after s
theorem OkTo.succ {l : List Opv} {dss : List (List Nat)} {ord : List Int} {first after : List Nat} {s f i : Nat} (h : OkTo l dss ord first after s f i) : OkTo l dss ord first after s f (i + 1) := by
  obtain ⟨j, h1, h2, h3⟩ := h
  exact ⟨j, h1, by omega, h3⟩
def OkIs (l : List Opv) (dss : List (List Nat)) (ord : List Int) (first after : List Nat) (s f i : Nat) (ok : Bool) : Prop := ok = true ↔ OkTo l dss ord first after s f i
theorem OkIs.of {l : List Opv} {dss : List (List Nat)} {ord : List Int} {first after : List Nat} {s f i : Nat} {ok : Bool} (h : ok = true ↔ OkTo l dss ord first after s f i) : OkIs l dss ord first after s f i ok := h
theorem OkIs.out {l : List Opv} {dss : List (List Nat)} {ord : List Int} {first after : List Nat} {s f i : Nat} {ok : Bool} (h : OkIs l dss ord first after s f i ok) : ok = true ↔ OkTo l dss ord first after s f i := h
theorem OkTo.next {l : List Opv} {dss : List (List Nat)} {ord : List Int} {first after bs : List Nat} {s f i : Nat} {ok : Bool} (h : ok = true ↔ OkTo l dss ord first after s f i) (hf : FolR l dss ord first i bs) (hi : f ≤ i) : (ok || decide (prt bs s = prt after s)) = true ↔ OkTo l dss ord first after s f (i + 1) := by
  rw [Bool.or_eq_true, decide_eq_true_iff]
  constructor
  · rintro (h1 | h1)
    · exact (h.1 h1).succ
    · exact ⟨i, hi, Nat.lt_succ_self _, bs, hf, h1⟩
  · rintro ⟨j, h1, h2, bs2, h3, h4⟩
    rcases Nat.lt_or_ge j i with h5 | h5
    · exact .inl (h.2 ⟨j, h1, h5, bs2, h3, h4⟩)
    · obtain rfl : j = i := by omega
      rw [FolR.det h3 hf] at h4
      exact .inr h4
theorem OkTo.skip {l : List Opv} {dss : List (List Nat)} {ord : List Int} {first after : List Nat} {s f i : Nat} {ok : Bool} (h : ok = true ↔ OkTo l dss ord first after s f i) (hi : i < f) : ok = true ↔ OkTo l dss ord first after s f (i + 1) := by
  rw [h]
  constructor
  · exact OkTo.succ
  · rintro ⟨j, h1, h2, h3⟩
    omega
end Go.Proofs.Ytjkoambfecmglaa

namespace Go.Proofs.Ytjkoambfecmglaa
open Go.RowKit
set_option linter.unusedVariables false
set_option linter.unusedSimpArgs false
set_option maxRecDepth 100000
theorem Sib.meets {p q : Opv} (h : Sib p q) (s : Nat) : q.meets s = p.meets s := by unfold Sib at h; rw [h]; rfl
end Go.Proofs.Ytjkoambfecmglaa

namespace Go.Proofs.Ytjkoambfecmglaa
open Go.ChangeShapes Go.WideShapes Go.ChangeAt Go.RowKit Go.Lib
open Go.Deep
set_option linter.unusedVariables false
set_option linter.unusedSimpArgs false
set_option maxRecDepth 100000
/-- bytes that were handed in, with their room -/
theorem open_b17c {H : Type} {enc : TypeId × Value → H} {W : World} {base fuel : Nat} {cs : List Value} {d : DataW H} {p : List MemPlace} (hf : DataW.trod enc Try.prog W base (fun _ => true) true fuel 22 cs = some (d, p)) (hb : Rows.uptoBulk d ≤ 1048576) :
    ∃ (ao : Option Addr) (cap : Nat) (l : List Nat), cs = [.slice ao l.length cap] ∧ BRow W ao cap l ∧ l.length ≤ cap := by
  rcases open_ints (show Try.prog.underlying 22 = some (.slice 5) by kernel_rfl) Try.underlying5 (by kernel_rfl) hf with ⟨hcs, hx⟩ | ⟨x, l, c, zs, hcs, _, hl, hm, hz, hx, hcell, hwz⟩
  · exact ⟨none, 0, [], hcs, ⟨by simp, by simp, fun _ => ⟨rfl, rfl⟩, fun h => absurd rfl h⟩, by simp⟩
  · have hd : d = .slice (lits .u8 (zs.take l)) (lits .u8 (zs.drop l)) := (Prod.mk.inj hx).1
    have hz' : zs.length = c := by simpa using hz
    have hsl := bulk_slice (lits (H := H) .u8 (zs.take l)) (lits .u8 (zs.drop l))
    have hs1 := length_le_bulk (lits (H := H) .u8 (zs.take l))
    have hs2 := length_le_bulk (lits (H := H) .u8 (zs.drop l))
    rw [← hd] at hsl
    simp only [lits, List.length_map, List.length_take, List.length_drop] at hsl hs1 hs2
    obtain ⟨m, hm1, hm2⟩ := brow_ints W x l c zs (by omega) (by omega) hcell hwz
    subst hm1
    exact ⟨some x, c, m, hcs, hm2, hl⟩
end Go.Proofs.Ytjkoambfecmglaa
namespace Go.Proofs.Ytjkoambfecmglaa.judgeSurvives
open Go.ChangeShapes Go.WideShapes Go.ChangeAt Go.RowKit Go.Lib
open Go.Deep
set_option linter.unusedVariables false
set_option linter.unusedSimpArgs false
set_option maxRecDepth 100000
end Go.Proofs.Ytjkoambfecmglaa.judgeSurvives
namespace Go.Proofs.Ytjkoambfecmglaa
end Go.Proofs.Ytjkoambfecmglaa

namespace Go.Proofs.Ytjkoambfecmglaa
open Go.RowKit
set_option linter.unusedVariables false
set_option linter.unusedSimpArgs false
set_option maxRecDepth 100000
abbrev zs (ks : List Nat) : List Int := ks.map (fun x : Nat => (x : Int))
/-- what the document's search answers from here on -/
def FindOut (l : List Opv) (dss : List (List Nat)) (pre bs : List Nat) (w' : World) (v : Value) (ok : Bool) : Prop :=
  (ok = true ∧ ∃ (t : List Nat) (za : Option Addr) (zc : Nat), v = .slice za (pre ++ t).length zc ∧ (spA l dss).Finds (mask pre) bs t ∧ ZRow w' za (zs (pre ++ t))) ∨
  (ok = false ∧ v = .slice none 0 0 ∧ (spA l dss).Dead (mask pre) bs)
def FindEnd (l : List Opv) (dss : List (List Nat)) (pre bs : List Nat) (w : World) (e : Ending) (w' : World) : Prop :=
  ∃ v ok, e = .returned (.tuple #[v, .bool ok]) ∧ FindOut l dss pre bs w' v ok ∧ Below w.heap.size w w'
theorem FindEnd.mk {l : List Opv} {dss : List (List Nat)} {pre bs : List Nat} {w w' : World} {e : Ending} (v : Value) (ok : Bool) (h1 : e = .returned (.tuple #[v, .bool ok])) (h2 : FindOut l dss pre bs w' v ok) (h3 : Below w.heap.size w w') : FindEnd l dss pre bs w e w' := ⟨v, ok, h1, h2, h3⟩
theorem zs_mem {ks : List Nat} {k : Nat} : (k : Int) ∈ zs ks ↔ k ∈ ks := by
  constructor
  · intro h
    obtain ⟨y, hy, e⟩ := List.mem_map.1 h
    have e' : y = k := Int.ofNat.inj e
    rw [← e']; exact hy
  · intro h; exact List.mem_map.2 ⟨k, h, rfl⟩
/-- so far nothing leads on -/
def DeadTo (l : List Opv) (dss : List (List Nat)) (pre bs : List Nat) (i : Nat) : Prop := ∀ j, j < i → (spA l dss).ok (mask pre) bs j = true → (spA l dss).Dead (mask pre ||| 2 ^ j) ((spA l dss).eff j bs)
theorem DeadTo.succ {l : List Opv} {dss : List (List Nat)} {pre bs : List Nat} {i : Nat} (h : DeadTo l dss pre bs i) (h2 : (spA l dss).ok (mask pre) bs i = true → (spA l dss).Dead (mask pre ||| 2 ^ i) ((spA l dss).eff i bs)) : DeadTo l dss pre bs (i + 1) := fun j hj ho => by
  rcases Nat.lt_or_ge j i with h1 | h1
  · exact h j h1 ho
  · have e : j = i := by omega
    subst e; exact h2 ho
end Go.Proofs.Ytjkoambfecmglaa
