import Derived.Test.YtbamjfnjenmdaaaGreatG53
import Derived.Deep.RegionHeld3
import Derived.Deep.LoopGhost
import Derived.Deep.CutBlock
import Derived.Deep.CutRange
import Derived.Deep.AppendLies
namespace Go.Proofs.YtbamjfnjenmdaaaGreat.C
open Go.RowKit Go.Maps Go.Shelf Go.Proofs.YtbamjfnjenmdaaaGreat Go.Deep
attribute [local go_sem] Oper.semAt_some
set_option linter.unusedVariables false
set_option linter.unusedSimpArgs false
set_option maxRecDepth 100000

theorem sinceSn {W : World} {B n : Nat} {bw : Value} (hB : B ≤ W.heap.size) (hn : n ≤ 65536) : Sn B (W.alloc (.cells (List.replicate n (Value.slice none 0 0)).toArray TBs)) bw (.slice (some ⟨W.heap.size, 0, none⟩) n n) (List.replicate n ((Value.slice none 0 0, []) : Se)) := by
  have h1 := World.ownsRow_lit (base := B) (e := TBs) (size := 1) W (List.replicate n (Value.slice none 0 0)).toArray n hB (by unfold maxLen; omega) (by simp)
  have hm : ∀ e ∈ List.replicate n ((Value.slice none 0 0, []) : Se), e = (Value.slice none 0 0, []) := fun e he => (List.mem_replicate.1 he).2
  refine ⟨by simpa using h1, fun e he => ?_, fun e he d hd => ?_, List.pairwise_replicate.2 (.inr fun g hg => by cases hg), fun e he g hg => ?_⟩
  · rw [hm e he]; exact World.ownsRow_nil _ _ _ _
  · rw [hm e he] at hd; cases hd
  · rw [hm e he] at hg; cases hg
theorem safe_ok {w : World} {P : Loc} {S : K.Dk} {C : Ch} (h : RC w P S C) {t : Nat} (ht : t < S.n) : K.OkB (S.safe t) := by
  obtain ⟨D, _, hs⟩ := h.rk.sm
  exact hs.ok t ht
set_option maxHeartbeats 16000000 in
theorem lawOrder_yes (w : World) (n : Nat) (k : Int) {v : Value} {l : List (Int × Int)} (hv : ArgS w v l) (hl : l.length ≤ 1048576) (hw : ∀ p ∈ l, I64 p.1 ∧ I64 p.2) (hfit : fitB n k l = true) (so : Option Addr) (m cap : Nat) (os : List Opc) (hm : m = os.length) (hm8 : 8 * m ≤ 1048576) (hr : OcRow w so os) (hok : ∀ o ∈ os, OpcOk w o) :
    Calls Tryz.prog 3 #[.agg #[.int .i64 n, .int .i64 k, v], .slice so m cap] w fun r w' => r = .returned (.bool true) ∧ Below w.heap.size w w' := by
  obtain ⟨ao, c0, hve, _⟩ := hv.form
  subst hve
  obtain ⟨W0, hW0⟩ : ∃ W0, W0 = w.alloc (.cells #[.int .i64 n, .int .i64 k, .slice ao l.length c0] TSe) := ⟨_, rfl⟩
  have hB0 : Below w.heap.size w W0 := by rw [hW0]; exact (Below.refl _ w).alloc (Nat.le_refl _) _
  have hbx : W0.heap[w.heap.size]? = some (.cells #[.int .i64 n, .int .i64 k, .slice ao l.length c0] TSe) := by rw [hW0]; exact heap_alloc_new w _
  have hlt : w.heap.size < W0.heap.size := (Array.getElem?_eq_some_iff.1 hbx).1
  have HC : Hid (∀ W, Below W0.heap.size W0 W → W.cell? ⟨w.heap.size, 0, none⟩ = some (.int .i64 n) ∧ W.cell? ⟨w.heap.size, 1, none⟩ = some (.int .i64 k) ∧ W.cell? ⟨w.heap.size, 2, none⟩ = some (.slice ao l.length c0)) := fun W hb => by
    have h1 := (hb.block _ hlt).trans hbx
    exact ⟨(K.cell_of h1).trans rfl, (K.cell_of h1).trans rfl, (K.cell_of h1).trans rfl⟩
  have HF : Hid (∀ W, Below W0.heap.size W0 W → Below w.heap.size w W) := fun W hb => hB0.trans (hb.mono hB0.size)
  have HFit : Hid (∀ W, Below W0.heap.size W0 W → Calls Tryz.prog 5 #[.agg #[.int .i64 n, .int .i64 k, .slice ao l.length c0]] W fun r w' => r = .returned (.bool true) ∧ Below W0.heap.size W0 w') := fun W hb => by
    refine (fits_c W n k (hv.later (HF.out W hb)) hw).mono ?_
    rintro r w' ⟨rfl, hb'⟩
    exact ⟨by rw [hfit], hb.trans (hb'.mono hb.size)⟩
  have hn1 : n ≤ 65536 := by unfold fitB at hfit; have := of_decide_eq_true hfit; omega
  have hn0 : 1 ≤ n := by unfold fitB at hfit; have := of_decide_eq_true hfit; omega
  have HOp : Hid (∀ W, Below W0.heap.size W0 W → Calls Tryz.prog 6 #[.agg #[.int .i64 n, .int .i64 k, .slice ao l.length c0]] W fun r w' => ∃ bd bc, r = .returned (.tuple #[.pointer (some ⟨bd, 0, none⟩), .pointer (some ⟨bc, 0, none⟩)]) ∧ (w'.alloc (.cells #[.slice none 0 0, .slice none 0 0] TBk)).cell? ⟨w.heap.size, 0, none⟩ = some (.int .i64 n) ∧ Hid (Nxo W0 ((w'.alloc (.cells #[.slice none 0 0, .slice none 0 0] TBk)).alloc (.cells (List.replicate n (Value.slice none 0 0)).toArray TBs)) bc bd w'.heap.size n 0 l (.slice (some ⟨w'.heap.size + 1, 0, none⟩) n n))) := fun W hb => by
    refine (opened_c W n k (hv.later (HF.out W hb)) hl hw).mono ?_
    rintro r w' ⟨hb', ⟨h1, _⟩ | ⟨_, P, rfl, hrc, hnew⟩⟩
    · rw [hfit] at h1; cases h1
    · have hb2 : Below W0.heap.size W0 w' := hb.trans (hb'.mono hb.size)
      have hba : Below w'.heap.size w' (w'.alloc (.cells #[.slice none 0 0, .slice none 0 0] TBk)) := (Below.refl _ w').alloc (Nat.le_refl _) _
      have hbb : Below (w'.alloc (.cells #[.slice none 0 0, .slice none 0 0] TBk)).heap.size (w'.alloc (.cells #[.slice none 0 0, .slice none 0 0] TBk)) ((w'.alloc (.cells #[.slice none 0 0, .slice none 0 0] TBk)).alloc (.cells (List.replicate n (Value.slice none 0 0)).toArray TBs)) := (Below.refl _ _).alloc (Nat.le_refl _) _
      have hsz : (w'.alloc (.cells #[.slice none 0 0, .slice none 0 0] TBk)).heap.size = w'.heap.size + 1 := World.size_alloc _ _
      rw [Int.toNat_natCast] at hrc
      have hkp : Kpr W0 (w'.alloc (.cells #[.slice none 0 0, .slice none 0 0] TBk)) P.bc P.bd w'.heap.size n 0 P (K.newDk n) (newCh k.toNat l) (.slice none 0 0) (.slice none 0 0) [] (fun t => getB [] t) := by
        refine ⟨⟨hrc.later hba, hb2.trans (hba.mono hb2.size), fun i hi => Nat.le_trans hb.size (hnew i hi)⟩, ⟨heap_alloc_new w' _, World.ownsRow_nil _ _ _ _, World.ownsRow_nil _ _ _ _, fun a ha => by cases ha⟩, fun x hx => ?_, ⟨by simp [K.newDk], by simp [K.newDk]⟩, by simp [K.newDk, newCh, dirtyN], Nat.le_refl _, ⟨List.nodup_nil, fun l hl => by cases hl⟩, fun s hs => rfl, rfl, rfl, rfl⟩
        have hx' : x = w'.heap.size := by simpa [bfp, Value.ownBlock] using hx
        subst hx'
        refine ⟨hb2.size, fun hm => ?_⟩
        have := hrc.lt _ hm
        omega
      have hbs : Below W0.heap.size W0 (w'.alloc (.cells #[.slice none 0 0, .slice none 0 0] TBk)) := hb2.trans (hba.mono hb2.size)
      refine ⟨P.bd, P.bc, rfl, (HC.out _ hbs).1, P, _, _, .slice none 0 0, .slice none 0 0, [], List.replicate n (Value.slice none 0 0, []), hkp.later hbb, fun l hl => (by cases hl), rfl, by rw [← hsz]; exact sinceSn hbs.size hn1, List.length_replicate, fun e he => ?_, fun h => (by cases h)⟩
      rw [(List.mem_replicate.1 he).2]
      exact ⟨Nat.zero_le _, fun d hd => by cases hd⟩
  have HN : Hid (os.length = m) := hm.symm
  have HR : Hid (OcRow w so os) := hr
  have HO : Hid (∀ o ∈ os, OpcOk w o ∧ IRd W0 o.lo o.list) := fun o ho => ⟨hok o ho, fun k x hx => by
    obtain ⟨g, off, e, h1, h2⟩ := (hok o ho).row k x hx
    exact ⟨g, off, e, Nat.lt_of_lt_of_le h1 hB0.size, cell_later hB0 h2⟩⟩
  have e1 := eq_ds
  have e2 := eq_cp
  have hbk := run_book
  have hsc := fun W : World => run_since W hn1
  have HV : Hid (ArgS w (.slice ao l.length c0) l) := hv
  have HNo : Hid (∀ W P S C i G av bw A kb bc bd, Kpr W0 W bc bd kb n i P S C av bw A G → C.notes = l → 8 * i ≤ 2097152 → Calls Tryz.prog 7 #[.agg #[.int .i64 n, .int .i64 k, .slice ao l.length c0], .pointer (some ⟨bd, 0, none⟩)] W fun r w' => r = .returned (.bool (notedB l S.q)) ∧ CAct W w' P P C S C) := fun W P S C i G av bw A kb bc bd hk hn hi => by
    have hq := hk.ql
    have h1 := noted_l hk.hc.rc (by omega) n k (v := .slice ao l.length c0) (by rw [hn]; exact HV.out.later (HF.out W hk.hc.bel)) (fun hne b off m c e hm => by
      have h2 := HV.out.lt (by rw [← hn]; exact hne) e
      have h3 := hk.hc.new b hm
      have h4 := hB0.size
      omega)
    rw [hk.ed, hn] at h1
    exact h1
  clear hv hw hB0 hbx hlt hl hfit hm hr hok
  obtain ⟨ml, hml⟩ : ∃ ml, ml = l.length := ⟨_, rfl⟩
  rw [← hml] at HC HFit HOp HNo HV hW0 ⊢
  clear hml
  go_enter Tryz.func3, Tryz.ntmps3
  go_wp2_with fail
  rw [← hW0]
  refine Calls.mono (heads_c W0) ?_
  clear hW0
  rintro e W1 ⟨rfl, hb1⟩
  obtain ⟨q0, q1, q2⟩ := HC.out W1 hb1
  have hf1 := HFit.out W1 hb1
  clear HFit hb1
  go_wp2_with fail
  refine Calls.mono hf1 ?_
  clear hf1 q0 q1 q2
  rintro e W2 ⟨rfl, hb2⟩
  obtain ⟨q0, q1, q2⟩ := HC.out W2 hb2
  have hf2 := HOp.out W2 hb2
  clear HOp hb2
  go_wp2_with fail
  refine Calls.mono hf2 ?_
  clear hf2 q0 q1 q2
  rintro e W3 ⟨bd, bc, rfl, q0, HNX⟩
  obtain ⟨kb, hkb⟩ : ∃ kb, kb = W3.heap.size := ⟨_, rfl⟩
  go_wp2
  rw [← hkb] at HNX ⊢
  obtain ⟨gs, hgs⟩ : ∃ gs, gs = kb + 1 := ⟨_, rfl⟩
  rw [← hgs] at HNX ⊢
  clear hkb hgs q0 hsc hbk e1 e2
  go_loopg [9] m (fun g c wr => ∃ i : Nat, i ≤ m ∧ g = m - i ∧ c = .int .i64 i ∧ Hid (Nxo W0 wr bc bd kb n i l (.slice (some ⟨gs, 0, none⟩) n n)))
  case atStart => exact ⟨0, Nat.zero_le _, rfl, rfl, HNX⟩
  case round =>
    obtain ⟨i, hi, rfl, rfl, HX⟩ := hrel
    by_cases hlt : i < m
    · obtain ⟨o, ho⟩ : ∃ o, os[i]? = some o := ⟨_, List.getElem?_eq_getElem (by have := HN.out; omega)⟩
      obtain ⟨P, S, C, av, bw, A, SS, hoi⟩ := HX.out
      obtain ⟨bs, off, hao, hcs⟩ := HR.out.at_ i o ho
      subst hao
      have hokk := HO.out o (List.mem_of_getElem? ho)
      have hbl : Below w.heap.size w wr := HF.out wr hoi.kp.hc.bel
      have hc : ∀ j, j < 11 → wr.cell? ⟨bs, off + i * 11 + j, none⟩ = o.cells[j]? := fun j hj => by
        have h1 := hcs j hj
        obtain ⟨v, hv⟩ : ∃ v, o.cells[j]? = some v := ⟨_, List.getElem?_eq_getElem hj⟩
        rw [hv] at h1 ⊢
        exact cell_later hbl h1
      obtain ⟨W1, hW1⟩ : ∃ W1, W1 = wr.alloc (.cells o.cells.toArray TOp) := ⟨_, rfl⟩
      have hB1 : Below wr.heap.size wr W1 := by rw [hW1]; exact (Below.refl _ wr).alloc (Nat.le_refl _) _
      have hx1 : W1.heap[wr.heap.size]? = some (.cells o.cells.toArray TOp) := by rw [hW1]; exact heap_alloc_new wr _
      have hi8 : 8 * i ≤ 1048576 := by omega
      obtain ⟨was, hwas⟩ : ∃ was, was = notedB l S.q := ⟨_, rfl⟩
      have HWas : Hid (was = notedB l S.q) := hwas
      have HNd : Hid (Calls Tryz.prog 7 #[.agg #[.int .i64 n, .int .i64 k, .slice ao ml c0], .pointer (some ⟨bd, 0, none⟩)] W1 fun r W2 => r = .returned (.bool was) ∧ Hid (Oi W0 W2 bc bd kb n i l (.slice (some ⟨gs, 0, none⟩) n n) P S C av bw A SS ∧ Xo W2 wr.heap.size o.cells.toArray TOp P C kb av bw A)) := by
        have hk1 := hoi.later hB1
        refine (HNo.out W1 P S C i _ av bw A kb bc bd hk1.kp hoi.no (by omega)).mono ?_
        rintro r W2 ⟨rfl, ha⟩
        have hx : Xo W1 wr.heap.size o.cells.toArray TOp P C kb av bw A := ⟨hx1, fun hm => by have := hoi.kp.hc.rc.lt _ hm; omega, fun hm => by have := hoi.kp.bk.lt _ hm; omega⟩
        exact ⟨by rw [hwas], ⟨hk1.kp.stay ha, hk1.nt, hk1.no, hk1.sn.act hk1.kp.hc.rc ha, hk1.ln, hk1.sz, hk1.ord⟩, hx.act ha⟩
      obtain ⟨z0, z1, z2⟩ := HC.out W1 (hoi.kp.hc.bel.trans (hB1.mono hoi.kp.hc.bel.size))
      have HOk : Hid (OpcOk w o ∧ IRd W0 o.lo o.list) := hokk
      obtain ⟨okind, osec, ofill, omore, olo, olc, olist, ⟨fk, fsec, fa, ft, fl⟩, oko, okn, okc⟩ := o
      have q0 : wr.cell? ⟨bs, off + i * 11, none⟩ = some (.int .i64 okind) := hc 0 (by decide)
      have q1 : wr.cell? ⟨bs, off + i * 11 + 1, none⟩ = some (.int .i64 osec) := hc 1 (by decide)
      have q2 : wr.cell? ⟨bs, off + i * 11 + 2, none⟩ = some (.int .u8 ofill) := hc 2 (by decide)
      have q3 : wr.cell? ⟨bs, off + i * 11 + 3, none⟩ = some (.int .i64 omore) := hc 3 (by decide)
      have q4 : wr.cell? ⟨bs, off + i * 11 + 4, none⟩ = some (.slice olo olist.length olc) := hc 4 (by decide)
      have q5 : wr.cell? ⟨bs, off + i * 11 + 5, none⟩ = some (.int .i64 fk) := hc 5 (by decide)
      have q6 : wr.cell? ⟨bs, off + i * 11 + 6, none⟩ = some (.int .i64 fsec) := hc 6 (by decide)
      have q7 : wr.cell? ⟨bs, off + i * 11 + 7, none⟩ = some (.int .i64 fa) := hc 7 (by decide)
      have q8 : wr.cell? ⟨bs, off + i * 11 + 8, none⟩ = some (.int .i64 ft) := hc 8 (by decide)
      have q9 : wr.cell? ⟨bs, off + i * 11 + 9, none⟩ = some (.bool fl) := hc 9 (by decide)
      have q10 : wr.cell? ⟨bs, off + i * 11 + 10, none⟩ = some (.slice oko okn okc) := hc 10 (by decide)
      have hnl : (i : Int) < (m : Int) := by omega
      have HWe : Hid (W1 = wr.alloc (.cells #[.int .i64 okind, .int .i64 osec, .int .u8 ofill, .int .i64 omore, .slice olo olist.length olc, .int .i64 fk, .int .i64 fsec, .int .i64 fa, .int .i64 ft, .bool fl, .slice oko okn okc] TOp)) := hW1
      rw [show W1 = wr.alloc (.cells #[.int .i64 okind, .int .i64 osec, .int .u8 ofill, .int .i64 omore, .slice olo olist.length olc, .int .i64 fk, .int .i64 fsec, .int .i64 fa, .int .i64 ft, .bool fl, .slice oko okn okc] TOp) from hW1] at z0 z1 z2
      obtain ⟨xb, hxb⟩ : ∃ xb, xb = wr.heap.size := ⟨_, rfl⟩
      rw [← hxb] at HNd
      clear hoi hcs hokk hc hB1 hx1 hW1 ho HX hbl hwas
      go_wp2_with fail
      rw [← HWe.out]
      refine Calls.mono HNd.out ?_
      clear HNd q0 q1 q2 q3 q4 q5 q6 q7 q8 q9 q10 z0 z1 z2 HWe
      rintro r W2 ⟨rfl, HO2⟩
      go_wp2
      rw [← hxb]
      clear hxb
      have HBst0 : Hid (Below W2.heap.size W2 W2 ∧ ∃ X : List (Value × K.Bl), X.length = 0 ∧ (∀ (j : Nat) d, X[j]? = some d → d.2 = getB A j) ∧ Bf W2.heap.size W2 bw (.slice none 0 0) X) := ⟨Below.refl _ _, [], rfl, (fun j d hd => by cases hd), World.ownsRow_nil _ _ _ _, (fun d hd => by cases hd), (fun g hg => by cases hg)⟩
      go_loopg [12, 13] n (fun g bvv c wr => ∃ x : Nat, x ≤ n ∧ g = n - x ∧ c = .int .i64 x ∧ (∃ bo bcp, bvv = .slice bo x bcp) ∧ Hid (Below W2.heap.size W2 wr ∧ ∃ X : List (Value × K.Bl), X.length = x ∧ (∀ (j : Nat) d, X[j]? = some d → d.2 = getB A j) ∧ Bf W2.heap.size wr bw bvv X))
      case atStart => exact ⟨0, Nat.zero_le _, rfl, rfl, ⟨_, _, rfl⟩, HBst0⟩
      case round =>
        obtain ⟨x, hx, rfl, rfl, ⟨bo, bcp, rfl⟩, HB⟩ := hrel
        have y0 : wr.cell? ⟨w.heap.size, 0, none⟩ = some (.int .i64 n) := by
          have h1 := HO2.out.1.kp.hc.bel
          exact (HC.out wr (h1.trans (HB.out.1.mono h1.size))).1
        by_cases hxn : x < n
        · have hxz : (x : Int) < (n : Int) := by omega
          obtain ⟨X, hXl, hXv, hbf⟩ := HB.out.2
          have HG : Hid (Calls Tryz.prog 8 #[.pointer (some ⟨kb, 0, none⟩), .int .i64 x] wr fun r W' => ∃ vo vc, r = .returned (.slice vo 512 vc) ∧ Hid (W'.ownsRow 0 TB8 1 (.slice vo 512 vc) 512 ((getB A x).map bv) ∧ Below wr.heap.size wr W')) := by
            have hk := HO2.out.1.kp.later HB.out.1
            refine (get_c hk.bk x (by have := hk.al; omega)).mono ?_
            rintro r W' ⟨v, rfl, ho, hb⟩
            obtain ⟨vo, vc, rfl, _⟩ := row_brow ho (hk.okG hxn)
            exact ⟨vo, vc, rfl, ho, hb⟩
          obtain ⟨XV, hXV⟩ : ∃ XV, XV = X.map (·.1) := ⟨_, rfl⟩
          have HAp : Hid (∀ W' vo vc, W'.ownsRow 0 TB8 1 (.slice vo 512 vc) 512 ((getB A x).map bv) ∧ Below wr.heap.size wr W' → (W'.alloc (.cells #[.slice vo 512 vc] TBy)).ownsRow W2.heap.size TBy 1 (.slice bo x bcp) x XV ∧ W2.heap.size ≤ (W'.alloc (.cells #[.slice vo 512 vc] TBy)).heap.size ∧ ∀ v1 w1, w1.ownsRow W2.heap.size TBy 1 v1 (x + 1) (XV ++ [.slice vo 512 vc]) → (W'.alloc (.cells #[.slice vo 512 vc] TBy)).grownBy w1 (Value.slice bo x bcp).ownBlock → (v1.ownBlock = (Value.slice bo x bcp).ownBlock ∨ v1.ownBlock = some (W'.alloc (.cells #[.slice vo 512 vc] TBy)).heap.size) → (∃ bo' bcp', v1 = .slice bo' (x + 1) bcp') ∧ Hid (Below W2.heap.size W2 w1 ∧ ∃ X : List (Value × K.Bl), X.length = x + 1 ∧ (∀ (j : Nat) d, X[j]? = some d → d.2 = getB A j) ∧ Bf W2.heap.size w1 bw v1 X)) := fun W' vo vc ⟨ho, hb⟩ => by
            subst hXV
            have hba : Below wr.heap.size wr (W'.alloc (.cells #[.slice vo 512 vc] TBy)) := hb.trans (((Below.refl _ W').alloc (Nat.le_refl _) (.cells #[.slice vo 512 vc] TBy)).mono hb.size)
            have hs1 : W2.heap.size ≤ wr.heap.size := HB.out.1.size
            have hrw := (hbf.later hba).row
            rw [hXl] at hrw
            refine ⟨hrw, Nat.le_trans hs1 hba.size, fun v1 w1 hown hg hat => ⟨by_form hown, ?_⟩⟩
            have hkk := HO2.out.1.kp.later HB.out.1
            refine ⟨HB.out.1.trans ((hba.mono hs1).grown hg (Nat.le_trans hs1 hba.size) (fun q e => (hrw.lt q e).1)), X ++ [(.slice vo 512 vc, getB A x)], by simp [hXl], fun j d hd => ?_, hbf.app hba (ho.alloc _) hg (by rw [hXl]; exact hown) (hat.imp id (fun e g hg => by rw [e] at hg; cases hg; exact hba.size)) (fun g hg => (K.row_lt hkk.bk.rb g hg).1)⟩
            rcases Nat.lt_or_ge j X.length with hj | hj
            · rw [List.getElem?_append_left hj] at hd
              exact hXv j d hd
            · rw [List.getElem?_append_right hj] at hd
              have h0 : j - X.length = 0 := by
                rcases Nat.eq_zero_or_pos (j - X.length) with h | h
                · exact h
                · rw [List.getElem?_eq_none (by simp; omega)] at hd; cases hd
              rw [h0] at hd
              have hjx : j = x := by omega
              simp at hd
              rw [← hd, hjx]
          have hX8 : x ≤ 1048576 := by omega
          obtain ⟨ib, hib, jz0, jz1, jz2⟩ := info_parts infoBy
          clear hXl hXv hbf hXV
          go_wp2_with (first
            | (go_at_call 8; refine Calls.mono HG.out ?_; clear HG; rintro r W4 ⟨vo, vc, rfl, H4⟩; have HA4 := HAp.out W4 vo vc H4.out; have HA5 : Hid _ := HA4.2.2; have HA3 : Hid ((W4.alloc (.cells #[.slice vo 512 vc] TBy)).ownsRow W2.heap.size TBy 1 (.slice bo x bcp) x XV) := HA4.1; have hA6 := HA4.2.1; clear HA4 HAp H4; dsimp only)
            | (at_builtin; (refine wpList_append_own_at _ rfl _ _ TBs rfl W2.heap.size TBy ib _ 1 24 Tryz.underlying34 hib jz0 jz1 jz2 rfl (by decide) (.slice bo x bcp) x XV rfl HA3.out ⟨W4.heap.size, 0, none⟩ 1 1 [.slice vo 512 vc] rfl rfl (World.news_of_block (heap_alloc_new W4 _)) (by simp [Value.oneCell']) (by unfold maxLen; omega) (by omega) hA6 ?_; intro v1 w1 hown1 hg1 _ hat1; obtain ⟨⟨a1, m1, hv1⟩, HB1⟩ := HA5.out v1 w1 hown1 hg1 hat1; subst hv1; clear hown1 hg1 hat1 HA5 HA3)))
          go_roundg (n - (x + 1))
          case measure => omega
          case rel => exact ⟨x + 1, by omega, rfl, by go_num, ⟨_, _, rfl⟩, HB1⟩
        · have hxz : ¬ (x : Int) < (n : Int) := by omega
          obtain ⟨X, hXl, hXv, hbf⟩ := HB.out.2
          have hxe : n = x := by omega
          subst hxe
          have HPre : Hid (Pre W0 wr bc bd kb n i l (.slice (some ⟨gs, 0, none⟩) n n) (.slice bo n bcp) X SS P S C av bw A xb #[.int .i64 okind, .int .i64 osec, .int .u8 ofill, .int .i64 omore, .slice olo olist.length olc, .int .i64 fk, .int .i64 fsec, .int .i64 fa, .int .i64 ft, .bool fl, .slice oko okn okc]) := by
            obtain ⟨h1, h2⟩ := HO2.out
            have h3 := h1.later HB.out.1
            exact ⟨h3.kp, h3.nt, h3.no, h3.sn, ⟨owns_mono hbf.row h1.kp.hc.bel.size, hbf.dat, hbf.far⟩, h2.later HB.out.1⟩
          have HXs : Hid (X.length = n ∧ (∀ (j : Nat) d, X[j]? = some d → d.2 = getB A j) ∧ (notedB l S.q = true → ∀ (x : Nat) e, SS[x]? = some e → (isN l x = false → S.safe x ∈ bsOf e) ∧ getB A x ∈ bsOf e) ∧ (∀ e ∈ SS, e.2.length ≤ i + 1 ∧ ∀ d ∈ e.2, K.OkB d.2) ∧ SS.length = n ∧ (∀ x, x < n → getB A x = seen S C x ∧ K.OkB (getB A x)) ∧ (∀ e ∈ SS, ∀ g, e.1.ownBlock = some g → (Value.slice bo n bcp).ownBlock ≠ some g)) := by
            obtain ⟨h1, h2⟩ := HO2.out
            refine ⟨hXl, hXv, h1.ord, h1.sz, h1.ln, fun x hx => ⟨h1.kp.eq x hx, h1.kp.okG hx⟩, fun e he g hg hb => ?_⟩
            have h3 := (K.row_lt (h1.sn.inn e he) g hg).1
            have h4 := row_base hbf.row hb
            omega
          have HOc : Hid (wr.heap[xb]? = some (.cells #[.int .i64 okind, .int .i64 osec, .int .u8 ofill, .int .i64 omore, .slice olo olist.length olc, .int .i64 fk, .int .i64 fsec, .int .i64 fa, .int .i64 ft, .bool fl, .slice oko okn okc] TOp (0, 0))) := HPre.out.xo.xo
          have q0 : wr.cell? ⟨xb, 0, none⟩ = some (.int .i64 okind) := (K.cell_of HOc.out).trans rfl
          clear hXl hXv hbf HO2 HB HBst0
          go_upto_block 4 with fail
          clear y0
          go_cut [14, 15] from 40 to 162 (fun dn ev wc => ∃ z : Int, dn = .int .i64 z ∧ Hid (Sw W0 wc bc bd kb n i l (.slice (some ⟨gs, 0, none⟩) n n) (.slice bo n bcp) X SS S C z))
          case first =>
            by_cases k3 : okind = 3
            · subst k3
              go_wp2_with fail
              refine Calls.mono (sw_flush HPre.out hi8) ?_
              rintro r W3 ⟨e, rfl, HS3⟩
              go_wp2
              go_meet
              exact ⟨e, rfl, HS3⟩
            · by_cases k4 : okind = 4
              · subst k4
                have ll := HOk.out.1.ll
                have q4 : wr.cell? ⟨xb, 4, none⟩ = some (.slice olo olist.length olc) := (K.cell_of HOc.out).trans rfl
                go_wp2_with fail
                refine Calls.mono (sw_through HPre.out hi8 ll HOk.out.2) ?_
                rintro r W3 ⟨e, rfl, HS3⟩
                go_wp2
                go_meet
                exact ⟨2, rfl, HS3⟩
              · by_cases k5 : okind = 5
                · subst k5
                  go_wp2_with fail
                  refine Calls.mono (sw_back HPre.out hi8) ?_
                  rintro r W3 ⟨z, e, rfl, HS3⟩
                  go_wp2
                  go_meet
                  exact ⟨2, rfl, HS3⟩
                · by_cases k12 : okind = 12
                  · subst k12
                    have hfa := HOk.out.1.fa
                    have hft := HOk.out.1.ft
                    have q5 : wr.cell? ⟨xb, 5, none⟩ = some (.int .i64 fk) := (K.cell_of HOc.out).trans rfl
                    have q6 : wr.cell? ⟨xb, 6, none⟩ = some (.int .i64 fsec) := (K.cell_of HOc.out).trans rfl
                    have q7 : wr.cell? ⟨xb, 7, none⟩ = some (.int .i64 fa) := (K.cell_of HOc.out).trans rfl
                    have q8 : wr.cell? ⟨xb, 8, none⟩ = some (.int .i64 ft) := (K.cell_of HOc.out).trans rfl
                    have q9 : wr.cell? ⟨xb, 9, none⟩ = some (.bool fl) := (K.cell_of HOc.out).trans rfl
                    go_wp2_with fail
                    refine Calls.mono (sw_fault HPre.out ⟨fk, fsec, fa, ft, fl⟩ hfa hft) ?_
                    rintro r W3 ⟨e, rfl, HS3⟩
                    go_wp2
                    go_meet
                    exact ⟨2, rfl, HS3⟩
                  · by_cases k1 : okind = 1
                    · subst k1
                      have q1 : wr.cell? ⟨xb, 1, none⟩ = some (.int .i64 osec) := (K.cell_of HOc.out).trans rfl
                      go_wp2_with fail
                      refine Calls.mono (sw_read HPre.out hi8 osec) ?_
                      rintro r W3 ⟨v', e, rfl, HS3⟩
                      go_wp2
                      go_meet
                      exact ⟨2, rfl, HS3⟩
                    · by_cases k2 : okind = 2
                      · subst k2
                        have hfill := HOk.out.1.fill
                        obtain ⟨bl, hbl⟩ : ∃ bl, bl = K.bytesL ofill 512 := ⟨_, rfl⟩
                        have HL : Hid (bl.length = 512 ∧ ∀ x ∈ bl, x < 256) := by rw [hbl]; exact ⟨K.bytesL_len _ _, K.bytesL_lt _ _⟩
                        have HBys : Hid (∀ X : World, Calls Tryz.prog 10 #[.int .u8 ofill, .int .i64 0] X fun r w' => ∃ v, r = .returned v ∧ w'.ownsRow X.heap.size 5 1 v 512 (bl.map bv) ∧ Below X.heap.size X w') := fun X => by
                          have := K.bytes_any X ofill 0 hfill
                          rw [show K.blen 0 = 512 from rfl, ← hbl] at this
                          exact this
                        have HCl : Hid (∀ W' : World, W'.heap[xb]? = some (.cells #[.int .i64 2, .int .i64 osec, .int .u8 ofill, .int .i64 omore, .slice olo olist.length olc, .int .i64 fk, .int .i64 fsec, .int .i64 fa, .int .i64 ft, .bool fl, .slice oko okn okc] TOp (0, 0)) → W'.cell? ⟨xb, 1, none⟩ = some (.int .i64 osec) ∧ W'.cell? ⟨xb, 2, none⟩ = some (.int .u8 ofill)) := fun W' h => ⟨(K.cell_of h).trans rfl, (K.cell_of h).trans rfl⟩
                        have HXl : Hid (xb < wr.heap.size) := HPre.out.xo.lt
                        have HWA : Hid (∀ W2 v, W2.ownsRow wr.drew.heap.size 5 1 v 512 (bl.map bv) → Below wr.drew.heap.size wr.drew W2 → ∃ g2 c2, v = .slice (some ⟨g2, 0, none⟩) 512 c2 ∧ (W2.cell? ⟨xb, 1, none⟩ = some (.int .i64 osec) ∧ W2.cell? ⟨xb, 2, none⟩ = some (.int .u8 ofill)) ∧ Hid (Calls Tryz.prog 9 #[.pointer (some ⟨bc, 0, none⟩), .int .i64 osec, .slice (some ⟨g2, 0, none⟩) 512 c2] W2 fun r W3 => ∃ e : Int, r = .returned (.int .i64 e) ∧ (W3.cell? ⟨xb, 1, none⟩ = some (.int .i64 osec) ∧ W3.cell? ⟨xb, 2, none⟩ = some (.int .u8 ofill)) ∧ Hid ((e ≠ 0 → Sw W0 W3 bc bd kb n i l (.slice (some ⟨gs, 0, none⟩) n n) (.slice bo n bcp) X SS S C 2) ∧ (e = 0 → Mid W0 W3 bc bd kb n i l (.slice (some ⟨gs, 0, none⟩) n n) (.slice bo n bcp) X SS S C av bw A xb #[.int .i64 2, .int .i64 osec, .int .u8 ofill, .int .i64 omore, .slice olo olist.length olc, .int .i64 fk, .int .i64 fsec, .int .i64 fa, .int .i64 ft, .bool fl, .slice oko okn okc] osec bl)))) := fun W2 v ho2 hb2 => by
                          obtain ⟨g2, c2, cur2, rfl, _⟩ := K.own_form ho2 (by decide)
                          have hbd := w_drew wr
                          have hB2 : Below wr.heap.size wr W2 := hbd.trans (hb2.mono hbd.size)
                          have hp2 := HPre.out.later hB2
                          refine ⟨g2, c2, rfl, HCl.out _ hp2.xo.xo, ?_⟩
                          refine (sw_write hp2 hi8 osec HL.out.1 HL.out.2 ho2).mono ?_
                          rintro r W3 ⟨e, rfl, hx3, h1, h2⟩
                          exact ⟨e, rfl, HCl.out _ hx3, h1, h2⟩
                        have HP2 : Hid (∀ W3, Mid W0 W3 bc bd kb n i l (.slice (some ⟨gs, 0, none⟩) n n) (.slice bo n bcp) X SS S C av bw A xb #[.int .i64 2, .int .i64 osec, .int .u8 ofill, .int .i64 omore, .slice olo olist.length olc, .int .i64 fk, .int .i64 fsec, .int .i64 fa, .int .i64 ft, .bool fl, .slice oko okn okc] osec bl → (W3.cell? ⟨xb, 1, none⟩ = some (.int .i64 osec) ∧ W3.cell? ⟨xb, 2, none⟩ = some (.int .u8 ofill)) ∧ (W3.drew.cell? ⟨xb, 1, none⟩ = some (.int .i64 osec) ∧ W3.drew.cell? ⟨xb, 2, none⟩ = some (.int .u8 ofill)) ∧ Calls Tryz.prog 10 #[.int .u8 ofill, .int .i64 0] W3.drew fun r W4 => ∃ vo vc, r = .returned (.slice vo 512 vc) ∧ (W4.cell? ⟨xb, 1, none⟩ = some (.int .i64 osec) ∧ W4.cell? ⟨xb, 2, none⟩ = some (.int .u8 ofill)) ∧ Hid (Calls Tryz.prog 11 #[.pointer (some ⟨kb, 0, none⟩), .int .i64 osec, .slice vo 512 vc] W4 fun r W5 => r = .returned (.tuple #[]) ∧ (W5.cell? ⟨xb, 1, none⟩ = some (.int .i64 osec) ∧ W5.cell? ⟨xb, 2, none⟩ = some (.int .u8 ofill)) ∧ Hid (Sw W0 W5 bc bd kb n i l (.slice (some ⟨gs, 0, none⟩) n n) (.slice bo n bcp) X SS S C 2))) := fun W3 hmid => by
                          have hbd := w_drew W3
                          have hal := HPre.out.kp.al
                          have cel : ∀ {W3}, Mid W0 W3 bc bd kb n i l (.slice (some ⟨gs, 0, none⟩) n n) (.slice bo n bcp) X SS S C av bw A xb #[.int .i64 2, .int .i64 osec, .int .u8 ofill, .int .i64 omore, .slice olo olist.length olc, .int .i64 fk, .int .i64 fsec, .int .i64 fa, .int .i64 ft, .bool fl, .slice oko okn okc] osec bl → (W3.cell? ⟨xb, 1, none⟩ = some (.int .i64 osec) ∧ W3.cell? ⟨xb, 2, none⟩ = some (.int .u8 ofill)) := fun {W3} h => by
                            obtain ⟨_, _, _, _, _, _, _, _, _, _, h8⟩ := h
                            exact HCl.out _ h8.xo
                          refine ⟨cel hmid, cel (hmid.later hbd), ?_⟩
                          refine (HBys.out W3.drew).mono ?_
                          rintro r W4 ⟨v, rfl, ho4, hb4⟩
                          have hB4 : Below W3.heap.size W3 W4 := hbd.trans (hb4.mono hbd.size)
                          obtain ⟨vo, vc, cur, rfl, _⟩ := K.own_form ho4 (by omega)
                          refine ⟨_, _, rfl, cel (hmid.later hB4), ?_⟩
                          have hsz : W0.heap.size ≤ W3.drew.heap.size := by
                            obtain ⟨_, _, _, h1, _⟩ := hmid
                            exact h1.hc.bel.size
                          refine (sw_put (hmid.later hB4) hi8 hal hsz ho4).mono ?_
                          rintro r W5 ⟨rfl, hx5, hs5⟩
                          exact ⟨rfl, HCl.out _ hx5, hs5⟩
                        have HS1 : Hid ((wr.cell? ⟨xb, 1, none⟩ = some (.int .i64 osec) ∧ wr.cell? ⟨xb, 2, none⟩ = some (.int .u8 ofill)) ∧ (wr.drew.cell? ⟨xb, 1, none⟩ = some (.int .i64 osec) ∧ wr.drew.cell? ⟨xb, 2, none⟩ = some (.int .u8 ofill))) := ⟨HCl.out _ HOc.out, HCl.out _ HOc.out⟩
                        go_wp2_with fail
                        clear hbl
                        go_region_held3 (fun w' => (w'.cell? ⟨xb, 1, none⟩ = some (.int .i64 osec) ∧ w'.cell? ⟨xb, 2, none⟩ = some (.int .u8 ofill))) (first | exact HS1.out.1 | exact HS1.out.2 | exact hS2 | exact hS3 | go_keep) (first | (go_at_call 10; refine Calls.mono (HBys.out _) ?_; rintro r W2 ⟨v, rfl, ho2, hb2⟩; obtain ⟨g2, c2, rfl, hS2, HWr⟩ := HWA.out W2 v ho2 hb2; clear ho2 hb2) | (go_at_call 9; refine Calls.mono HWr.out ?_; rintro r W3 ⟨e, rfl, hS3, HE⟩))
                        by_cases he : e = 0
                        · subst he
                          have hmid := HE.out.2 rfl
                          obtain ⟨hS4, hS4d, hBy⟩ := HP2.out W3 hmid
                          have HBy : Hid _ := hBy
                          have HS4 : Hid ((W3.cell? ⟨xb, 1, none⟩ = some (.int .i64 osec) ∧ W3.cell? ⟨xb, 2, none⟩ = some (.int .u8 ofill)) ∧ (W3.drew.cell? ⟨xb, 1, none⟩ = some (.int .i64 osec) ∧ W3.drew.cell? ⟨xb, 2, none⟩ = some (.int .u8 ofill))) := ⟨hS4, hS4d⟩
                          clear hmid hBy hS4 hS4d hS3 hS2
                          go_wp2_with fail
                          go_region_held3 (fun w' => (w'.cell? ⟨xb, 1, none⟩ = some (.int .i64 osec) ∧ w'.cell? ⟨xb, 2, none⟩ = some (.int .u8 ofill))) (first | exact HS4.out.1 | exact HS4.out.2 | exact hS5 | exact hS6 | go_keep) (first | (go_at_call 10; refine Calls.mono HBy.out ?_; rintro r W4 ⟨vo, vc, rfl, hS5, HPt⟩) | (go_at_call 11; refine Calls.mono HPt.out ?_; rintro r W5 ⟨rfl, hS6, HS7⟩))
                          go_wp2
                          go_meet
                          exact ⟨2, rfl, HS7⟩
                        · have HS7 : Hid (Sw W0 W3 bc bd kb n i l (.slice (some ⟨gs, 0, none⟩) n n) (.slice bo n bcp) X SS S C 2) := HE.out.1 he
                          go_wp2
                          go_meet
                          exact ⟨2, rfl, HS7⟩
                      · have HS3 : Hid (Sw W0 wr bc bd kb n i l (.slice (some ⟨gs, 0, none⟩) n n) (.slice bo n bcp) X SS S C 2) := sw_none HPre.out
                        go_wp2
                        go_meet
                        exact ⟨2, rfl, HS3⟩
          case rest =>
            obtain ⟨z, rfl, HSw⟩ := hcut
            obtain ⟨P2, S2, C2, av2, bw2, A2, hk2, nt2, no2, ho2, sn2, bf2, hz2⟩ := HSw.out
            obtain ⟨z0, z1, z2⟩ := HC.out wc hk2.hc.bel
            obtain ⟨old, hold⟩ : ∃ old : Nat → List K.Bl, ∀ (j : Nat) e, SS[j]? = some e → bsOf e = old j := ⟨fun j => (SS[j]?.map bsOf).getD [], fun j e he => by simp [he]⟩
            obtain ⟨FF, hFF⟩ : ∃ FF : Nat → Nat → List K.Bl, FF = fun x j => if j < x then (if was = true then old j else [getB A j]) ++ [getB A2 j] else old j := ⟨_, rfl⟩
            have HFF : Hid (FF = fun x j => if j < x then (if was = true then old j else [getB A j]) ++ [getB A2 j] else old j) := hFF
            obtain ⟨now, hnow⟩ : ∃ now, now = notedB l S2.q := ⟨_, rfl⟩
            have HNd : Hid (Calls Tryz.prog 7 #[.agg #[.int .i64 n, .int .i64 k, .slice ao ml c0], .pointer (some ⟨bd, 0, none⟩)] wc fun r W6 => r = .returned (.bool now) ∧ Hid (∃ SS2, Sl W0 W6 bc bd kb n (i + 1) (.slice (some ⟨gs, 0, none⟩) n n) (.slice bo n bcp) X (FF 0) P2 S2 C2 av2 bw2 A2 SS2)) := by
              refine (HNo.out wc P2 S2 C2 (i + 1) _ av2 bw2 A2 kb bc bd hk2 no2 (by omega)).mono ?_
              rintro r W6 ⟨rfl, ha⟩
              obtain ⟨_, _, _, _, s5, _, s7⟩ := HXs.out
              exact ⟨by rw [hnow], SS, hk2.stay ha, sn2.act hk2.hc.rc ha, bf2.act hk2.hc.rc ha, s7, s5, fun j e he => by rw [hFF]; simp only [Nat.not_lt_zero, if_false]; exact hold j e he⟩
            have HNow : Hid (now = notedB l S2.q) := hnow
            have HEnd : Hid (Nt C2 ∧ C2.notes = l ∧ (z = 0 → ∀ x, x < n → S2.safe x = getB A2 x) ∧ ∀ x, x < n → (FF n x).length ≤ i + 2 ∧ (∀ b ∈ FF n x, K.OkB b) ∧ getB A2 x ∈ FF n x ∧ (now = true → isN l x = false → S2.safe x ∈ FF n x)) := by
              refine ⟨nt2, no2, hz2, fun x hx => ?_⟩
              obtain ⟨s1, s2, s3, s4, s5, s6, s7⟩ := HXs.out
              obtain ⟨e, he⟩ : ∃ e, SS[x]? = some e := ⟨_, List.getElem?_eq_getElem (by omega)⟩
              have h1 := s4 e (List.mem_of_getElem? he)
              have h2 := hold x e he
              have h3 : (old x).length ≤ i + 1 := by rw [← h2]; unfold bsOf; rw [List.length_map]; exact h1.1
              have h4 : ∀ b ∈ old x, K.OkB b := fun b hb => by
                rw [← h2] at hb
                obtain ⟨d, hd, rfl⟩ := List.mem_map.1 hb
                exact h1.2 d hd
              have hA2 : K.OkB (getB A2 x) := hk2.okG hx
              have hF : FF n x = (if was = true then old x else [getB A x]) ++ [getB A2 x] := by rw [hFF]; simp only [hx, if_true]
              rw [hF]
              refine ⟨?_, fun b hb => ?_, by simp, fun hn' hd => ?_⟩
              · rw [List.length_append]; split <;> simp <;> omega
              · rcases List.mem_append.1 hb with hb | hb
                · split at hb
                  · exact h4 b hb
                  · have : b = getB A x := by simpa using hb
                    rw [this]; exact (s6 x hx).2
                · have : b = getB A2 x := by simpa using hb
                  rw [this]; exact hA2
              · have h5 := ord_next (F := old) (x := x) (fun hw hd => by rw [← h2]; exact (s3 hw x e he).1 hd) (fun hw => by rw [← h2, ← (s6 x hx).1]; exact (s3 hw x e he).2) ho2 (by rw [← hnow]; exact hn') (getB A2 x) hd
                rw [← HWas.out, ← (s6 x hx).1] at h5
                exact h5
            have HOkA : Hid (∀ x, x < n → K.OkB (getB A x)) := fun x hx => (HXs.out.2.2.2.2.2.1 x hx).2
            have HXX : Hid (X.length = n ∧ ∀ (j : Nat) d, X[j]? = some d → d.2 = getB A j) := ⟨HXs.out.1, HXs.out.2.1⟩
            clear hk2 nt2 no2 ho2 sn2 bf2 hz2 hold hFF hnow HSw HPre HXs HOc
            go_wp2_with fail
            refine Calls.mono HNd.out ?_
            clear HNd z0 z1 z2
            rintro r W6 ⟨rfl, HSl⟩
            go_wp2
            go_loopg [17] n (fun g c wr => ∃ x : Nat, x ≤ n ∧ g = n - x ∧ c = .int .i64 x ∧ Hid (∃ SS2, Sl W0 wr bc bd kb n (i + 1) (.slice (some ⟨gs, 0, none⟩) n n) (.slice bo n bcp) X (FF x) P2 S2 C2 av2 bw2 A2 SS2))
            case atStart => exact ⟨0, Nat.zero_le _, rfl, rfl, HSl⟩
            case round =>
              obtain ⟨x, hx, rfl, rfl, HL⟩ := hrel
              have y0 : wr.cell? ⟨w.heap.size, 0, none⟩ = some (.int .i64 n) := by
                obtain ⟨SS2, h⟩ := HL.out
                exact (HC.out wr h.kp.hc.bel).1
              by_cases hxn : x < n
              · have hxz : (x : Int) < (n : Int) := by omega
                have hx0 : (0 : Int) ≤ (x : Int) := by omega
                obtain ⟨ib, hib, jz0, jz1, jz2⟩ := info_parts infoBy
                have HBl : Hid (∀ y, y < n → (FF n y).length ≤ i + 2) := fun y hy => (HEnd.out.2.2.2 y hy).1
                cases was
                · have hdl : ∃ d, X[x]? = some d := ⟨_, List.getElem?_eq_getElem (by rw [HXX.out.1]; exact hxn)⟩
                  obtain ⟨d, hd⟩ := hdl
                  obtain ⟨SS2, hsl⟩ := HL.out
                  have hdm := List.mem_of_getElem? hd
                  have hdx : d.2 = getB A x := HXX.out.2 x d hd
                  have hbr := hsl.bf.row
                  rw [HXX.out.1] at hbr
                  obtain ⟨gb, cb, hbe, cb1, _⟩ := row_at hbr (k := x) (x := d.1) (by rw [List.getElem?_map, hd]; rfl)
                  cases hbe
                  obtain ⟨W41, hW41⟩ : ∃ W41, W41 = (wr.alloc (.cells #[d.1] TBy)).setCell ⟨gs, x, none⟩ (.slice (some ⟨wr.heap.size, 0, none⟩) 1 1) := ⟨_, rfl⟩
                  have HSb : Hid (∃ SS3, Sl W0 W41 bc bd kb n (i + 1) (.slice (some ⟨gs, 0, none⟩) n n) (.slice (some ⟨gb, 0, none⟩) n bcp) X (fun j => if j = x then [d.2] else FF x j) P2 S2 C2 av2 bw2 A2 SS3) := by rw [hW41]; exact hsl.new hxn hd
                  have HFx : Hid (∀ j, (if j = x then (if x = x then [d.2] else FF x x) ++ [getB A2 x] else (if j = x then [d.2] else FF x j)) = FF (x + 1) j) := fun j => by
                    rw [HFF.out]
                    by_cases hj : j = x
                    · subst hj; simp [hdx]
                    · simp only [hj, if_false]
                      by_cases h1 : j < x
                      · rw [if_pos h1, if_pos (show j < x + 1 by omega)]
                      · rw [if_neg h1, if_neg (show ¬ j < x + 1 by omega)]
                  have hBl : Hid ((if x = x then [d.2] else FF x x).length ≤ 1048576) := by rw [if_pos rfl]; exact (by decide : 1 ≤ 1048576)
                  obtain ⟨dvo, dvc, hdv, _⟩ := row_brow (hsl.bf.dat d hdm) (by rw [hdx]; exact HOkA.out x hxn)
                  obtain ⟨eold, heo⟩ : ∃ e, SS2[x]? = some e := ⟨_, List.getElem?_eq_getElem (by rw [hsl.ln]; exact hxn)⟩
                  have hsr := (hsl.later ((Below.refl _ wr).alloc (Nat.le_refl _) (.cells #[d.1] TBy))).sn.row
                  rw [hsl.ln] at hsr
                  have s1 : (wr.alloc (.cells #[d.1] TBy)).cell? ⟨gs, x, none⟩ = some eold.1 := by rw [hsr.cellAt x (by omega), List.getElem?_map, heo]; rfl
                  have s2 : (wr.alloc (.cells #[d.1] TBy)).frozen? ⟨gs, x, none⟩ = false := hsr.frozenAt x
                  obtain ⟨eoo, eoc, hoe⟩ := by_form (hsl.sn.inn eold (List.mem_of_getElem? heo))
                  rw [hoe] at s1
                  rw [hdv] at cb1 s1 s2 hW41
                  clear hsl hd hdm hdx hbr hsr heo hoe HL HBl
                  have HBl : Hid ((if x = x then [d.2] else FF x x).length ≤ 1048576) := hBl
                  clear hBl
                  go_upto_region 42 with fail
                  rw [← hW41]
                  clear hW41 s1 s2 cb1 y0
                  obtain ⟨SS3, hsl⟩ := HSb.out
                  obtain ⟨e, he⟩ : ∃ e, SS3[x]? = some e := ⟨_, List.getElem?_eq_getElem (by rw [hsl.ln]; exact hxn)⟩
                  have hem := List.mem_of_getElem? he
                  obtain ⟨eo, ec, hee⟩ := by_form (hsl.sn.inn e hem)
                  obtain ⟨em, hemm⟩ : ∃ em, em = e.2.length := ⟨_, rfl⟩
                  rw [← hemm] at hee
                  obtain ⟨EV, hEV⟩ : ∃ EV, EV = e.2.map (·.1) := ⟨_, rfl⟩
                  have hel : em ≤ 1048576 := by
                    have h1 := hsl.vl x e he
                    have h2 : em = (bsOf e).length := by rw [hemm]; unfold bsOf; rw [List.length_map]
                    rw [h2, h1]
                    exact HBl.out
                  have c1 : W41.cell? ⟨gs, x, none⟩ = some (.slice eo em ec) := by
                    have h1 := hsl.sn.row
                    rw [hsl.ln] at h1
                    rw [h1.cellAt x (by omega), List.getElem?_map, he, ← hee]; rfl
                  have HS0 : Hid (W41.cell? ⟨gs, x, none⟩ = some (.slice eo em ec) ∧ W41.drew.cell? ⟨gs, x, none⟩ = some (.slice eo em ec)) := ⟨c1, c1⟩
                  have HG : Hid (Calls Tryz.prog 8 #[.pointer (some ⟨kb, 0, none⟩), .int .i64 x] W41.drew fun r W' => ∃ vo vc, r = .returned (.slice vo 512 vc) ∧ W'.cell? ⟨gs, x, none⟩ = some (.slice eo em ec) ∧ (W'.alloc (.cells #[.slice vo 512 vc] TBy)).cell? ⟨gs, x, none⟩ = some (.slice eo em ec) ∧ Hid ((W'.alloc (.cells #[.slice vo 512 vc] TBy)).ownsRow W0.heap.size TBy 1 (.slice eo em ec) em EV ∧ W0.heap.size ≤ (W'.alloc (.cells #[.slice vo 512 vc] TBy)).heap.size ∧ ∀ g' cap' w6, w6.ownsRow W0.heap.size TBy 1 (.slice (some ⟨g', 0, none⟩) (em + 1) cap') (em + 1) (EV ++ [.slice vo 512 vc]) → (W'.alloc (.cells #[.slice vo 512 vc] TBy)).grownBy w6 (Value.slice eo em ec).ownBlock → ((Value.slice eo em ec).ownBlock = some g' ∨ g' = W'.heap.size + 1) → (∃ SS2, Sl W0 (w6.setCell ⟨gs, x, none⟩ (.slice (some ⟨g', 0, none⟩) (em + 1) cap')) bc bd kb n (i + 1) (.slice (some ⟨gs, 0, none⟩) n n) (.slice (some ⟨gb, 0, none⟩) n bcp) X (FF (x + 1)) P2 S2 C2 av2 bw2 A2 SS2) ∧ w6.cell? ⟨gs, x, none⟩ = some (.slice eo em ec) ∧ w6.frozen? ⟨gs, x, none⟩ = false)) := by
                    have hbd := w_drew W41
                    have hkd := hsl.kp.later hbd
                    refine (get_c hkd.bk x (by have := hkd.al; omega)).mono ?_
                    rintro r W' ⟨v, rfl, ho, hb⟩
                    obtain ⟨vo, vc, rfl, _⟩ := row_brow ho (hkd.okG hxn)
                    have hb1 : Below W41.heap.size W41 W' := hbd.trans (hb.mono hbd.size)
                    have hba : Below W41.heap.size W41 (W'.alloc (.cells #[.slice vo 512 vc] TBy)) := hb1.trans (((Below.refl _ W').alloc (Nat.le_refl _) (.cells #[.slice vo 512 vc] TBy)).mono hb1.size)
                    have hin := (hsl.later hba).sn.inn e hem
                    rw [hee, ← hemm, ← hEV] at hin
                    refine ⟨vo, vc, rfl, cell_later hb1 c1, cell_later hba c1, hin, Nat.le_trans hsl.kp.hc.bel.size hba.size, fun g' cap' w6 hown hg hat => ?_⟩
                    have hap := hsl.app (v' := .slice (some ⟨g', 0, none⟩) (em + 1) cap') he hba (bl := getB A2 x) (ho.alloc _) (by rw [hee]; exact hg) (by rw [← hemm, ← hEV]; exact hown) (fun g2 hg2 => by
                      cases hg2
                      rw [hee]
                      refine hat.imp id (fun e1 => ?_)
                      have := hb1.size
                      show W41.heap.size ≤ g'
                      omega)
                    obtain ⟨⟨SS', h1⟩, h2, h3⟩ := hap
                    refine ⟨⟨SS', ⟨h1.kp, h1.sn, h1.bf, h1.ap, h1.ln, fun j e2 he2 => ?_⟩⟩, by rw [← hee]; exact h2, h3⟩
                    rw [h1.vl j e2 he2]
                    exact HFx.out j
                  clear hsl he hem hee hemm hEV HSb
                  go_region_law (first | (go_simp; go_at_call 8; refine HG.out.mono ?_; rintro r W4 ⟨vo, vc, rfl, hS2, hS2a, HA4⟩; dsimp only) | (refine step_append_lies _ (by rfl) _ _ TBs (by rfl) W0.heap.size TBy ib _ 1 24 Tryz.underlying34 hib jz0 jz1 jz2 (by rfl) (by decide) (.slice eo em ec) em EV (by rfl) HA4.out.1 ⟨W4.heap.size, 0, none⟩ 1 1 [.slice vo 512 vc] (by rfl) (by rfl) (World.news_of_block (heap_alloc_new W4 _)) (fun u hu => by simp at hu; subst hu; rfl) (by decide) (by unfold maxLen; omega) (by omega) HA4.out.2.1 (W4.heap.size + 1) (by rw [World.size_alloc]) ?_; intro g' cap' w6 hown' hgrow hat hlt'; obtain ⟨hNx, hS6, hF6⟩ := HA4.out.2.2 g' cap' w6 hown' hgrow hat; have HNx : Hid (∃ SS2, Sl W0 (w6.setCell ⟨gs, x, none⟩ (.slice (some ⟨g', 0, none⟩) (em + 1) cap')) bc bd kb n (i + 1) (.slice (some ⟨gs, 0, none⟩) n n) (.slice (some ⟨gb, 0, none⟩) n bcp) X (FF (x + 1)) P2 S2 C2 av2 bw2 A2 SS2) := hNx; clear hown' hgrow hat hlt' hNx))
                  all_goals go_wp2
                  all_goals go_roundg (n - (x + 1))
                  all_goals first | exact ⟨x + 1, by omega, rfl, by go_num, HNx⟩ | omega
                · have HSb : Hid (∃ SS3, Sl W0 wr bc bd kb n (i + 1) (.slice (some ⟨gs, 0, none⟩) n n) (.slice bo n bcp) X (FF x) P2 S2 C2 av2 bw2 A2 SS3) := HL.out
                  have HFx : Hid (∀ j, (if j = x then FF x x ++ [getB A2 x] else FF x j) = FF (x + 1) j) := fun j => by
                    rw [HFF.out]
                    by_cases hj : j = x
                    · subst hj; simp
                    · simp only [hj, if_false]
                      by_cases h1 : j < x
                      · rw [if_pos h1, if_pos (show j < x + 1 by omega)]
                      · rw [if_neg h1, if_neg (show ¬ j < x + 1 by omega)]
                  have hBl : Hid ((FF x x).length ≤ 1048576) := by
                    show (FF x x).length ≤ 1048576
                    have h1 := HBl.out x hxn
                    rw [HFF.out] at h1 ⊢
                    simp [hxn] at h1 ⊢
                    omega
                  clear HL HBl
                  have HBl : Hid ((FF x x).length ≤ 1048576) := hBl
                  clear hBl
                  go_upto_region 42 with fail
                  clear y0
                  obtain ⟨SS3, hsl⟩ := HSb.out
                  obtain ⟨e, he⟩ : ∃ e, SS3[x]? = some e := ⟨_, List.getElem?_eq_getElem (by rw [hsl.ln]; exact hxn)⟩
                  have hem := List.mem_of_getElem? he
                  obtain ⟨eo, ec, hee⟩ := by_form (hsl.sn.inn e hem)
                  obtain ⟨em, hemm⟩ : ∃ em, em = e.2.length := ⟨_, rfl⟩
                  rw [← hemm] at hee
                  obtain ⟨EV, hEV⟩ : ∃ EV, EV = e.2.map (·.1) := ⟨_, rfl⟩
                  have hel : em ≤ 1048576 := by
                    have h1 := hsl.vl x e he
                    have h2 : em = (bsOf e).length := by rw [hemm]; unfold bsOf; rw [List.length_map]
                    rw [h2, h1]
                    exact HBl.out
                  have c1 : wr.cell? ⟨gs, x, none⟩ = some (.slice eo em ec) := by
                    have h1 := hsl.sn.row
                    rw [hsl.ln] at h1
                    rw [h1.cellAt x (by omega), List.getElem?_map, he, ← hee]; rfl
                  have HS0 : Hid (wr.cell? ⟨gs, x, none⟩ = some (.slice eo em ec) ∧ wr.drew.cell? ⟨gs, x, none⟩ = some (.slice eo em ec)) := ⟨c1, c1⟩
                  have HG : Hid (Calls Tryz.prog 8 #[.pointer (some ⟨kb, 0, none⟩), .int .i64 x] wr.drew fun r W' => ∃ vo vc, r = .returned (.slice vo 512 vc) ∧ W'.cell? ⟨gs, x, none⟩ = some (.slice eo em ec) ∧ (W'.alloc (.cells #[.slice vo 512 vc] TBy)).cell? ⟨gs, x, none⟩ = some (.slice eo em ec) ∧ Hid ((W'.alloc (.cells #[.slice vo 512 vc] TBy)).ownsRow W0.heap.size TBy 1 (.slice eo em ec) em EV ∧ W0.heap.size ≤ (W'.alloc (.cells #[.slice vo 512 vc] TBy)).heap.size ∧ ∀ g' cap' w6, w6.ownsRow W0.heap.size TBy 1 (.slice (some ⟨g', 0, none⟩) (em + 1) cap') (em + 1) (EV ++ [.slice vo 512 vc]) → (W'.alloc (.cells #[.slice vo 512 vc] TBy)).grownBy w6 (Value.slice eo em ec).ownBlock → ((Value.slice eo em ec).ownBlock = some g' ∨ g' = W'.heap.size + 1) → (∃ SS2, Sl W0 (w6.setCell ⟨gs, x, none⟩ (.slice (some ⟨g', 0, none⟩) (em + 1) cap')) bc bd kb n (i + 1) (.slice (some ⟨gs, 0, none⟩) n n) (.slice bo n bcp) X (FF (x + 1)) P2 S2 C2 av2 bw2 A2 SS2) ∧ w6.cell? ⟨gs, x, none⟩ = some (.slice eo em ec) ∧ w6.frozen? ⟨gs, x, none⟩ = false)) := by
                    have hbd := w_drew wr
                    have hkd := hsl.kp.later hbd
                    refine (get_c hkd.bk x (by have := hkd.al; omega)).mono ?_
                    rintro r W' ⟨v, rfl, ho, hb⟩
                    obtain ⟨vo, vc, rfl, _⟩ := row_brow ho (hkd.okG hxn)
                    have hb1 : Below wr.heap.size wr W' := hbd.trans (hb.mono hbd.size)
                    have hba : Below wr.heap.size wr (W'.alloc (.cells #[.slice vo 512 vc] TBy)) := hb1.trans (((Below.refl _ W').alloc (Nat.le_refl _) (.cells #[.slice vo 512 vc] TBy)).mono hb1.size)
                    have hin := (hsl.later hba).sn.inn e hem
                    rw [hee, ← hemm, ← hEV] at hin
                    refine ⟨vo, vc, rfl, cell_later hb1 c1, cell_later hba c1, hin, Nat.le_trans hsl.kp.hc.bel.size hba.size, fun g' cap' w6 hown hg hat => ?_⟩
                    have hap := hsl.app (v' := .slice (some ⟨g', 0, none⟩) (em + 1) cap') he hba (bl := getB A2 x) (ho.alloc _) (by rw [hee]; exact hg) (by rw [← hemm, ← hEV]; exact hown) (fun g2 hg2 => by
                      cases hg2
                      rw [hee]
                      refine hat.imp id (fun e1 => ?_)
                      have := hb1.size
                      show wr.heap.size ≤ g'
                      omega)
                    obtain ⟨⟨SS', h1⟩, h2, h3⟩ := hap
                    refine ⟨⟨SS', ⟨h1.kp, h1.sn, h1.bf, h1.ap, h1.ln, fun j e2 he2 => ?_⟩⟩, by rw [← hee]; exact h2, h3⟩
                    rw [h1.vl j e2 he2]
                    exact HFx.out j
                  clear hsl he hem hee hemm hEV HSb
                  go_region_law (first | (go_simp; go_at_call 8; refine HG.out.mono ?_; rintro r W4 ⟨vo, vc, rfl, hS2, hS2a, HA4⟩; dsimp only) | (refine step_append_lies _ (by rfl) _ _ TBs (by rfl) W0.heap.size TBy ib _ 1 24 Tryz.underlying34 hib jz0 jz1 jz2 (by rfl) (by decide) (.slice eo em ec) em EV (by rfl) HA4.out.1 ⟨W4.heap.size, 0, none⟩ 1 1 [.slice vo 512 vc] (by rfl) (by rfl) (World.news_of_block (heap_alloc_new W4 _)) (fun u hu => by simp at hu; subst hu; rfl) (by decide) (by unfold maxLen; omega) (by omega) HA4.out.2.1 (W4.heap.size + 1) (by rw [World.size_alloc]) ?_; intro g' cap' w6 hown' hgrow hat hlt'; obtain ⟨hNx, hS6, hF6⟩ := HA4.out.2.2 g' cap' w6 hown' hgrow hat; have HNx : Hid (∃ SS2, Sl W0 (w6.setCell ⟨gs, x, none⟩ (.slice (some ⟨g', 0, none⟩) (em + 1) cap')) bc bd kb n (i + 1) (.slice (some ⟨gs, 0, none⟩) n n) (.slice bo n bcp) X (FF (x + 1)) P2 S2 C2 av2 bw2 A2 SS2) := hNx; clear hown' hgrow hat hlt' hNx))
                  all_goals go_wp2
                  all_goals go_roundg (n - (x + 1))
                  all_goals first | exact ⟨x + 1, by omega, rfl, by go_num, HNx⟩ | omega
              · have hxz : ¬ (x : Int) < (n : Int) := by omega
                obtain ⟨SSn, hsl⟩ := HL.out
                have hxe : n = x := by omega
                subst hxe
                have HIm : Hid (Calls Tryz.prog 17 #[.pointer (some ⟨bd, 0, none⟩)] wr fun r W7 => ∃ g cap, r = .returned (.slice (some ⟨g, 0, none⟩) (n * 512) cap) ∧ Hid (Img W7 g cap n S2.safe ∧ Sl W0 W7 bc bd kb n (i + 1) (.slice (some ⟨gs, 0, none⟩) n n) (.slice bo n bcp) X (FF n) P2 S2 C2 av2 bw2 A2 SSn)) := by
                  have h1 := image_c hsl.kp.hc.rc
                  rw [hsl.kp.ed, hsl.kp.nn] at h1
                  refine h1.mono ?_
                  rintro r W7 ⟨g, cap, rfl, hcap, _, ho, ha⟩
                  exact ⟨g, cap, rfl, ⟨owns_mono ho (Nat.zero_le _), hcap, fun x hx => safe_ok hsl.kp.hc.rc (by rw [hsl.kp.nn]; exact hx)⟩, hsl.kp.stay ha, hsl.sn.act hsl.kp.hc.rc ha, hsl.bf.act hsl.kp.hc.rc ha, hsl.ap, hsl.ln, hsl.vl⟩
                clear hsl HL
                go_wp2_with fail
                refine Calls.mono HIm.out ?_
                clear HIm y0
                rintro r W7 ⟨g, icap, rfl, H7⟩
                have HFin : Hid (∀ W, Below W7.heap.size W7 W → (W.cell? ⟨w.heap.size, 0, none⟩ = some (.int .i64 n) ∧ W.cell? ⟨w.heap.size, 1, none⟩ = some (.int .i64 k) ∧ W.cell? ⟨w.heap.size, 2, none⟩ = some (.slice ao ml c0)) ∧ Nxo W0 W bc bd kb n (i + 1) l (.slice (some ⟨gs, 0, none⟩) n n) ∧ (z = 0 → Calls Tryz.prog 19 #[.agg #[.int .i64 n, .int .i64 k, .slice ao ml c0], .slice (some ⟨g, 0, none⟩) (n * 512) icap, .pointer (some ⟨kb, 0, none⟩)] W fun r w' => r = .returned (.bool true) ∧ Below W7.heap.size W7 w') ∧ (now = true → Calls Tryz.prog 18 #[.agg #[.int .i64 n, .int .i64 k, .slice ao ml c0], .slice (some ⟨g, 0, none⟩) (n * 512) icap, .slice (some ⟨gs, 0, none⟩) n n] W fun r w' => r = .returned (.bool true) ∧ Below W7.heap.size W7 w')) := fun W hb => by
                  obtain ⟨him, hs0⟩ := H7.out
                  have hs := hs0.later hb
                  obtain ⟨nt2, no2, hz2, hend⟩ := HEnd.out
                  have hel : ∀ e ∈ SSn, e.2.length ≤ i + 2 ∧ ∀ d ∈ e.2, K.OkB d.2 := fun e he => by
                    obtain ⟨j, hj, e1⟩ := List.getElem_of_mem he
                    have hj' : j < n := by rw [← hs.ln]; exact hj
                    have h1 := hs.vl j e (by rw [List.getElem?_eq_getElem hj, e1])
                    obtain ⟨h2, h3, _, _⟩ := hend j hj'
                    rw [← h1] at h2 h3
                    refine ⟨by unfold bsOf at h2; rw [List.length_map] at h2; exact h2, fun d hd => h3 d.2 (List.mem_map_of_mem hd)⟩
                  have hin : ∀ (x : Nat) e, SSn[x]? = some e → x < n := fun x e he => by rw [← hs.ln]; exact (List.getElem?_eq_some_iff.1 he).1
                  refine ⟨HC.out W hs.kp.hc.bel, ⟨P2, S2, C2, av2, bw2, A2, SSn, hs.kp, nt2, no2, hs.sn, hs.ln, hel, fun hq x e he => ?_⟩, fun hz0 => ?_, fun hn' => ?_⟩
                  · obtain ⟨_, _, h3, h4⟩ := hend x (hin x e he)
                    rw [hs.vl x e he]
                    exact ⟨h4 (by rw [HNow.out]; exact hq), h3⟩
                  · refine (all_l hs.kp.bk (by have := hs.kp.al; omega) n hn1 k ao ml c0 (him.later hb) (fun x hx => hz2 hz0 x hx)).mono ?_
                    rintro r w' ⟨rfl, hb'⟩
                    exact ⟨rfl, hb.trans (hb'.mono hb.size)⟩
                  · have hl64 : l.length ≤ 64 := by rw [← no2]; exact hs.kp.hc.rc.nl
                    have hlok : ∀ p ∈ l, 0 ≤ p.1 ∧ 1 ≤ p.2 ∧ p.1 + p.2 ≤ 65536 := fun p hp => by
                      have h1 := hs.kp.hc.rc.nok p (by rw [no2]; exact hp)
                      have h2 := hs.kp.hc.rc.rk.n1
                      omega
                    have hhl := holds_l hs.sn n hn0 hn1 hs.ln (fun e he => by have := (hel e he).1; omega) (fun e he => (hel e he).2) k (HV.out.later (HF.out W hs.kp.hc.bel)) hl64 hlok (him.later hb) (fun x e he => by
                      cases hi : isN l x with
                      | true => exact .inl rfl
                      | false =>
                        obtain ⟨_, _, _, h4⟩ := hend x (hin x e he)
                        refine .inr (hasD_of ?_)
                        rw [hs.vl x e he]
                        exact h4 hn' hi)
                    refine hhl.mono ?_
                    rintro r w' ⟨rfl, hb'⟩
                    exact ⟨rfl, hb.trans (hb'.mono hb.size)⟩
                clear H7 HEnd HXX HFF
                obtain ⟨⟨y0, y1, y2⟩, hnx, hal, hho⟩ := HFin.out W7 (Below.refl _ _)
                have HNx7 : Hid _ := hnx
                clear hnx
                generalize hL : n * 512 = L at *
                cases now
                · by_cases hz0 : z = 0
                  · subst hz0
                    have HAl : Hid _ := hal rfl
                    clear hal hho
                    go_wp2_with fail
                    refine Calls.mono HAl.out ?_
                    clear HAl
                    rintro r W8 ⟨rfl, hb8⟩
                    have HNx8 : Hid (Nxo W0 W8 bc bd kb n (i + 1) l (.slice (some ⟨gs, 0, none⟩) n n)) := (HFin.out W8 hb8).2.1
                    clear hb8 HFin
                    go_wp2
                    go_roundg (m - (i + 1))
                    case measure => omega
                    case rel => exact ⟨i + 1, by omega, rfl, by go_num, HNx8⟩
                  · clear hal hho HFin
                    go_wp2
                    go_roundg (m - (i + 1))
                    case measure => omega
                    case rel => exact ⟨i + 1, by omega, rfl, by go_num, HNx7⟩
                · have HHo : Hid _ := hho rfl
                  clear hal hho
                  go_wp2_with fail
                  refine Calls.mono HHo.out ?_
                  clear HHo
                  rintro r W8 ⟨rfl, hb8⟩
                  obtain ⟨⟨y0, y1, y2⟩, hnx, hal, _⟩ := HFin.out W8 hb8
                  have HNx8 : Hid (Nxo W0 W8 bc bd kb n (i + 1) l (.slice (some ⟨gs, 0, none⟩) n n)) := hnx
                  clear hnx hb8
                  by_cases hz0 : z = 0
                  · subst hz0
                    have HAl : Hid _ := hal rfl
                    clear hal
                    go_wp2_with fail
                    refine Calls.mono HAl.out ?_
                    clear HAl
                    rintro r W9 ⟨rfl, hb9⟩
                    have HNx9 : Hid (Nxo W0 W9 bc bd kb n (i + 1) l (.slice (some ⟨gs, 0, none⟩) n n)) := (HFin.out W9 hb9).2.1
                    clear hb9 HFin
                    go_wp2
                    go_roundg (m - (i + 1))
                    case measure => omega
                    case rel => exact ⟨i + 1, by omega, rfl, by go_num, HNx9⟩
                  · clear hal HFin
                    go_wp2
                    go_roundg (m - (i + 1))
                    case measure => omega
                    case rel => exact ⟨i + 1, by omega, rfl, by go_num, HNx8⟩
    · have hnl : ¬ (i : Int) < (m : Int) := by omega
      obtain ⟨P, S, C, av, bw, A, SS, hkp⟩ := HX.out
      have HFin : Hid (Below w.heap.size w wr) := HF.out wr hkp.kp.hc.bel
      clear hkp
      go_wp2
      go_ret
      exact ⟨rfl, HFin.out⟩
end Go.Proofs.YtbamjfnjenmdaaaGreat.C
