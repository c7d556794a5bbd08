import Derived.Test.YtjkoambfecmglaaJT
import Derived.Deep.CutRange
namespace Go.Proofs.Ytjkoambfecmglaa
open Go.RowKit
set_option linter.unusedVariables false
set_option linter.unusedSimpArgs false
set_option maxRecDepth 100000
set_option maxHeartbeats 64000000 in
theorem real_any (w : World) (fa oa za : Option Addr) (n0 fc m0 oc d zc : Nat) (first0 : List Nat) (l0 : List Opv) (dss0 : List (List Nat)) (mo : List Int) (hb : BRow w fa fc first0) (hn : first0.length = n0) (hfc : n0 ≤ fc) (h : OpsD w oa l0 dss0) (hm : l0.length = m0) (hoc : m0 ≤ oc) (hz : ZRow w za mo) (hd : mo.length = d) (hds : d ≤ 1048576) :
    Calls Try.prog 7 #[.slice fa n0 fc, .slice oa m0 oc, .slice za d zc] w fun e w' => e = .returned (.bool true) ∧ Below w.heap.size w w' := by
  have HF9 : Hid (BRow w fa fc first0 ∧ first0.length = n0 ∧ n0 ≤ fc) := ⟨hb, hn, hfc⟩
  have HO9 : Hid (OpsD w oa l0 dss0 ∧ l0.length = m0 ∧ m0 ≤ oc) := ⟨h, hm, hoc⟩
  have HZ9 : Hid (ZRow w za mo ∧ mo.length = d ∧ d ≤ 1048576) := ⟨hz, hd, hds⟩
  clear hb hn hfc h hm hoc hz hd hds
  go_enter Try.func7, Try.ntmps7
  go_wp2_with fail
  refine Calls.mono (heads_any w) ?_
  rintro e W0 ⟨rfl, hb0⟩
  have HB0 : Hid (Below w.heap.size w W0) := hb0
  clear hb0
  go_upto_if 31 with fail
  go_cut [0] from 32 to 33 (fun v wc => ∃ (n : Nat) (first : List Nat), v = .slice fa n fc ∧ W0 = wc ∧ Hid (BRow w fa fc first ∧ first.length = n ∧ n ≤ fc ∧ n ≤ 4096))
  case first =>
    have hfc := HF9.out.2.2
    have hn := HF9.out.2.1
    rcases Nat.lt_or_ge 4096 n0 with hn0 | hn0
    · have n1 : decide ((4096 : Int) < (n0 : Int)) = true := decide_eq_true (by omega)
      have n1b : decide (4096 < n0) = true := decide_eq_true (by omega)
      have r1 : (4096 : Int) ≤ (fc : Int) := by omega
      have r3 : 4096 ≤ fc := by omega
      go_wp2
      go_meet
      exact ⟨4096, first0.take 4096, rfl, rfl, brow_cut17 HF9.out.1 4096 r3, by rw [List.length_take, hn]; omega, r3, Nat.le_refl _⟩
    · have n1 : decide ((4096 : Int) < (n0 : Int)) = false := decide_eq_false (by omega)
      have n1b : decide (4096 < n0) = false := decide_eq_false (by omega)
      have r1 : ¬ 4096 < n0 := by omega
      go_wp2
      go_meet
      exact ⟨n0, first0, rfl, rfl, HF9.out.1, hn, hfc, hn0⟩
  case rest =>
  obtain ⟨n, first, rfl, rfl, HFb⟩ := hcut
  clear HF9
  go_upto_if 36 with fail
  go_cut [1] from 37 to 38 (fun v w9 => ∃ (m : Nat) (l : List Opv) (dss : List (List Nat)), v = .slice oa m oc ∧ W0 = w9 ∧ Hid (OpsD w oa l dss ∧ l.length = m ∧ m ≤ oc ∧ m ≤ 10))
  case first =>
    have hoc := HO9.out.2.2
    have hm := HO9.out.2.1
    rcases Nat.lt_or_ge 10 m0 with hm0 | hm0
    · have n2 : decide ((10 : Int) < (m0 : Int)) = true := decide_eq_true (by omega)
      have n2b : decide (10 < m0) = true := decide_eq_true (by omega)
      have r2 : (10 : Int) ≤ (oc : Int) := by omega
      have r4 : 10 ≤ oc := by omega
      go_wp2
      go_meet
      exact ⟨10, l0.take 10, dss0.take 10, rfl, rfl, opsd_cut17 HO9.out.1 10, by rw [List.length_take, hm]; omega, r4, Nat.le_refl _⟩
    · have n2 : decide ((10 : Int) < (m0 : Int)) = false := decide_eq_false (by omega)
      have n2b : decide (10 < m0) = false := decide_eq_false (by omega)
      have r2 : ¬ 10 < m0 := by omega
      go_wp2
      go_meet
      exact ⟨m0, l0, dss0, rfl, rfl, HO9.out.1, hm, hoc, hm0⟩
  case rest =>
  obtain ⟨m, l, dss, rfl, rfl, HOb⟩ := hcut
  have HD : Hid (BRow w fa fc first ∧ first.length = n ∧ n ≤ fc ∧ OpsD w oa l dss ∧ l.length = m ∧ m ≤ oc ∧ ZRow w za mo ∧ mo.length = d ∧ d ≤ 1048576) := ⟨HFb.out.1, HFb.out.2.1, HFb.out.2.2.1, HOb.out.1, HOb.out.2.1, HOb.out.2.2.1, HZ9.out.1, HZ9.out.2.1, HZ9.out.2.2⟩
  have hns : n ≤ 4096 := HFb.out.2.2.2
  have hs : m ≤ 10 := HOb.out.2.2.2
  have hds : d ≤ 1048576 := HZ9.out.2.2
  clear HFb HOb HZ9 HO9
  have HCp : Hid _ := copy_own fa fc n first W0 (HD.out.1.later HB0.out) HD.out.2.1
  go_wp2_with fail
  refine Calls.mono HCp.out ?_
  rintro e W1 ⟨co, cc, rfl, ho1, hr1, hcc, hb1⟩
  have HOp : Hid _ := ops_own oa m oc l dss W1 ((HD.out.2.2.2.1.later HB0.out).later hb1) HD.out.2.2.2.2.1 (by omega)
  have H1 : Hid (Below W0.heap.size W0 W1 ∧ BRow W1 co cc first ∧ n ≤ cc ∧ ∀ a, co = some a → W0.heap.size ≤ a.block ∧ a.block < W1.heap.size) := ⟨hb1, hr1, hcc, fun a e => by subst e; exact owns_in ho1 (g := a.block) rfl⟩
  clear ho1 hr1 hcc hb1 HCp
  go_wp2_with fail
  refine Calls.mono HOp.out ?_
  rintro e W2 ⟨la, lc, L0, rfl, hb2, ho2, hl2, hd2, hs2⟩
  have HR0 : Hid (RW W0 W0.heap.size n m la lc W2.heap.size 0 first (W2.alloc (.cells (Array.replicate m (Value.int .i64 0)) 3)) co cc (.slice none 0 0) L0 dss (List.replicate m 0) [] first) := RW.new H1.out.1 H1.out.2.1 HD.out.2.1 H1.out.2.2.1 H1.out.2.2.2 hb2 ho2 hl2 (by rw [HD.out.2.2.2.1.len]; exact HD.out.2.2.2.2.1) hd2 (by omega)
  have hmk : ∀ W : World, (Instr.makeSlice 24 (.int .i64 (m : Int)) (.int .i64 (m : Int))).run Try.prog W = .ok (.slice (some ⟨W.heap.size, 0, none⟩) m m) (W.alloc (.cells (Array.replicate m (Value.int .i64 0)) 3)) := fun W => run_ints W (by omega)
  obtain ⟨sb, hsb⟩ : ∃ sb, W2.heap.size = sb := ⟨_, rfl⟩
  rw [hsb] at HR0
  clear hb2 ho2 hl2 hd2 hs2 HOp
  go_wp2_with fail
  try rw [hsb]
  clear hmk hsb
  go_loopw [7, 10, 11] (fun bw ov tv wr => ∃ (t : Nat) (ba : Option Addr) (bc : Nat) (L : List Opv) (dss' : List (List Nat)) (st ord b : List Nat), t ≤ d ∧ tv = .int .i64 (t : Int) ∧ bw = .slice ba n bc ∧ Hid (RW W0 W0.heap.size n m la lc sb t first wr ba bc ov L dss' st ord b)) (fun _ _ tv _ => d - (intOf tv).toNat)
  case atStart => exact ⟨0, co, cc, L0, dss, _, _, _, Nat.zero_le _, rfl, rfl, HR0.out⟩
  case round =>
    clear HR0 H1
    obtain ⟨t, ba, bc, L, dss', st, ord, b, hi, rfl, rfl, HR⟩ := hrel
    by_cases hlt : t < d
    · have n9 : decide ((t : Int) < (d : Int)) = true := decide_eq_true (by omega)
      have n9b : decide (t < d) = true := decide_eq_true hlt
      have HTd : Hid (t < d) := hlt
      by_cases hm0 : 0 < m
      · have n8 : decide ((0 : Int) < (m : Int)) = true := decide_eq_true (by omega)
        have n8b : decide (0 < m) = true := decide_eq_true hm0
        obtain ⟨lb, -, -, hlb⟩ : ∃ lb, True ∧ True ∧ la = some ⟨lb, 0, none⟩ := by
          obtain ⟨g, e1, _⟩ := own7_some HR.out.rm.lrow hm0
          exact ⟨g, trivial, trivial, e1⟩
        subst hlb
        obtain ⟨a, ha⟩ : ∃ a, mo[t]? = some a := ⟨_, List.getElem?_eq_getElem (by rw [HD.out.2.2.2.2.2.2.2.1]; exact hlt)⟩
        have htm : t < mo.length := by rw [HD.out.2.2.2.2.2.2.2.1]; exact hlt
        obtain ⟨zb, zo, ez, hcz⟩ := HD.out.2.2.2.2.2.2.1.at_ (by rintro rfl; simp at htm)
        subst ez
        have HZm : Hid (∀ U, Below W0.heap.size W0 U → U.cell? ⟨zb, zo + t, none⟩ = some (.int .i64 a)) := fun U hU => by
          have h1 := hcz t htm
          rw [(List.getElem?_eq_some_iff.1 ha).2] at h1
          exact cell_later (hU) (cell_later HB0.out h1)
        have cz : wr.cell? ⟨zb, zo + t, none⟩ = some (.int .i64 a) := HZm.out wr HR.out.bel
        obtain ⟨k, hk1, q1⟩ := u64_rem a (m - 1)
        have q1' : (IntKind.u64.wrap a).tmod (m : Int) = (k : Int) := by
          rw [show (m : Int) = ((m - 1 : Nat) : Int) + 1 by omega]; exact q1
        have q2 : IntKind.u64.wrap (m : Int) = (m : Int) := u64_small (by omega)
        have hkm : k < m := by omega
        have q3 : ((m : Int) == 0) = false := by rw [beq_eq_false_iff_ne]; omega
        have kk0 : (0 : Int) ≤ (k : Int) := by omega
        have kk9 : (k : Int) < (m : Int) := by omega
        have tt0 : (0 : Int) ≤ (t : Int) := by omega
        have tt9 : (t : Int) < (d : Int) := by omega
        have HKm : Hid (k < m ∧ 0 < m) := ⟨hkm, hm0⟩
        obtain ⟨s, p, ds, hs3, h1, h2, h3, hc, hf, hcs, hfs, hlw, hsw, hr, hdl⟩ := HR.out.at_ hkm
        have HAt : Hid (st[k]? = some s ∧ L[k]? = some p ∧ dss'[k]? = some ds ∧ BRow wr p.da p.dc ds ∧ ds.length = p.n ∧ lb < wr.heap.size ∧ sb < wr.heap.size) := ⟨h1, h2, h3, hr, hdl, hlw, hsw⟩
        have c0 : wr.cell? ⟨lb, k * 7, none⟩ = some (.int .i64 p.k) := hc 0 _ rfl
        have c1 : wr.cell? ⟨lb, k * 7 + 1, none⟩ = some (.int .i64 p.fr) := hc 1 _ rfl
        have c2 : wr.cell? ⟨lb, k * 7 + 2, none⟩ = some (.int .i64 p.to_) := hc 2 _ rfl
        have c3 : wr.cell? ⟨lb, k * 7 + 3, none⟩ = some (.int .i64 p.off) := hc 3 _ rfl
        have c4 : wr.cell? ⟨lb, k * 7 + 4, none⟩ = some (.int .i64 p.len) := hc 4 _ rfl
        have c5 : wr.cell? ⟨lb, k * 7 + 5, none⟩ = some (.slice p.da p.n p.dc) := hc 5 _ rfl
        have c6 : wr.cell? ⟨lb, k * 7 + 6, none⟩ = some (.bool p.sy) := hc 6 _ rfl
        have HCc : Hid (∀ j v, p.cells[j]? = some v → wr.cell? ⟨lb, k * 7 + j, none⟩ = some v) := hc
        have HFz : Hid ((∀ j, wr.frozen? ⟨lb, j, none⟩ = false) ∧ ∀ j, wr.frozen? ⟨sb, j, none⟩ = false) := ⟨hf, hfs⟩
        clear hc hf hfs h1 h2 h3 hr hdl hlw hsw ha hcz htm hk1 q1 hi hlt hkm hm0
        have hne : lb ≠ sb := fun e => HR.out.rm.ls (by rw [e]; rfl)
        have hsc : s = 0 ∨ s = 1 ∨ s = 2 ∨ s = 3 := by omega
        clear hs3
        rcases hsc with rfl | rfl | rfl | rfl
        · have HFt : Hid (∀ U, Below wr.heap.size wr U → Calls Try.prog 22 #[.agg p.cells, .int .i64 (n : Int)] U (FitEnd n U)) := fun U hU => fitted_any p.k p.fr p.to_ p.off p.len p.da p.n p.dc p.sy n ds U hns (HAt.out.2.2.2.1.later hU) HAt.out.2.2.2.2.1
          go_wp2_with fail
          refine Calls.mono (HFt.out _ (Below.refl _ _)) ?_
          rintro e W4 ⟨q, ds', rfl, hq, hqr, hqc, hqa, hb4⟩
          have HN : Hid _ := HR.out.asks HKm.out.2 HKm.out.1 HAt.out.1 HAt.out.2.1 HAt.out.2.2.1 hb4 hq hqr hqa
          have HFw : Hid (∀ j, W4.frozen? ⟨lb, j, none⟩ = false) := fun j => by rw [World.frozen?_of_block (a := ⟨lb, j, none⟩) (hb4.block _ HAt.out.2.2.2.2.2.1)]; exact HFz.out.1 j
          have HFs : Hid (∀ j, W4.frozen? ⟨sb, j, none⟩ = false) := fun j => by rw [World.frozen?_of_block (a := ⟨sb, j, none⟩) (hb4.block _ HAt.out.2.2.2.2.2.2)]; exact HFz.out.2 j
          have f0 := HFw.out (k * 7)
          have f1 := HFw.out (k * 7 + 1)
          have f2 := HFw.out (k * 7 + 2)
          have f3 := HFw.out (k * 7 + 3)
          have f4 := HFw.out (k * 7 + 4)
          have f5 := HFw.out (k * 7 + 5)
          have f6 := HFw.out (k * 7 + 6)
          have g0 := HFs.out k
          have d0 : W4.cell? ⟨lb, k * 7, none⟩ = some (.int .i64 p.k) := cell_later hb4 c0
          have d1 : W4.cell? ⟨lb, k * 7 + 1, none⟩ = some (.int .i64 p.fr) := cell_later hb4 c1
          have d2 : W4.cell? ⟨lb, k * 7 + 2, none⟩ = some (.int .i64 p.to_) := cell_later hb4 c2
          have d3 : W4.cell? ⟨lb, k * 7 + 3, none⟩ = some (.int .i64 p.off) := cell_later hb4 c3
          have d4 : W4.cell? ⟨lb, k * 7 + 4, none⟩ = some (.int .i64 p.len) := cell_later hb4 c4
          have d5 : W4.cell? ⟨lb, k * 7 + 5, none⟩ = some (.slice p.da p.n p.dc) := cell_later hb4 c5
          have d6 : W4.cell? ⟨lb, k * 7 + 6, none⟩ = some (.bool p.sy) := cell_later hb4 c6
          have ds4 : W4.cell? ⟨sb, k, none⟩ = some (.int .i64 0) := cell_later hb4 hcs
          have m1 : min (3 : Int) 1 = 1 := by decide
          clear hq hqr hqc hqa hb4 c0 c1 c2 c3 c4 c5 c6 cz HFt
          go_wp2_with fail
          go_roundw
          case rel => exact ⟨t + 1, _, _, _, _, _, _, _, HTd.out, by go_num, rfl, HN.out⟩
          case measure => have := HTd.out; simp [intOf]; omega
        · have hak := HR.out.rs.ask k 1 p ds HAt.out.1 (by decide) HAt.out.2.1 HAt.out.2.2.1
          have hol : ord.length ≤ m := by
            refine nodup_lt HR.out.rs.nd fun x hx => ?_
            obtain ⟨s, h1, _⟩ := (HR.out.rs.ordm x).1 hx
            have h2 := (List.getElem?_eq_some_iff.1 h1).1
            rw [HR.out.rs.sl, HR.out.lm] at h2; exact h2
          have HOl : Hid (ord.length ≤ m) := hol
          obtain ⟨pa, pc, hpo⟩ : ∃ pa pc, u10 = .slice pa ord.length pc := by
            rcases HR.out.rm.orow.2 with ⟨h1, h2⟩ | ⟨g, c, cur, h1, _⟩
            · exact ⟨none, 0, by rw [h1, h2]⟩
            · exact ⟨_, _, h1⟩
          subst hpo
          obtain ⟨pk, pfr, pto, poff, plen, pda, pn, pdc, psy⟩ := p
          obtain ⟨o, ho⟩ : ∃ o : Nat, poff = (o : Int) := ⟨poff.toNat, by have := hak.off0; simp at this; omega⟩
          subst ho
          obtain ⟨mm, hmm⟩ : ∃ mm : Nat, plen = (mm : Int) := ⟨plen.toNat, by have := hak.len0; simp at this; omega⟩
          subst hmm
          have hin : o + mm ≤ n := by have := hak.inn; simp at this; omega
          have hwl : pk = 2 → pn = mm := fun e => by have := hak.w e; simp at this; omega
          have HAk : Hid _ := hak
          have hbr := HR.out.rm.brow
          have hbl := HR.out.rm.blen
          have hbc := HR.out.rm.bcap
          by_cases k2 : pk = 2
          · subst k2
            have emm : mm = pn := (hwl rfl).symm
            subst emm
            have HDn : Hid _ := done_w ba pda n bc lb k mm m lc o pdc pfr pto psy b ds wr hbr hbl hns hin HKm.out.1 hs HCc.out HAt.out.2.2.2.1 HAt.out.2.2.2.2.1
            clear hak hbr hbl hbc hin hwl hol c0 c1 c2 c3 c4 c5 c6 HCc
            go_wp2_with fail
            refine Calls.mono HDn.out ?_
            rintro e W4 ⟨c4, k4, rfl, hr4, hl4, hc4, ha4, hb4⟩
            have H4 : Hid _ := And.intro hr4 (And.intro hl4 (And.intro hc4 (And.intro ha4 hb4)))
            have HX : Hid (Below W4.heap.size W4 (W4.alloc (.cells #[.int .i64 (k : Int)] 3))) := (Below.refl _ W4).alloc (Nat.le_refl _) _
            have HO : Hid ((W4.alloc (.cells #[.int .i64 (k : Int)] 3)).ownsRow W0.heap.size 3 1 (.slice pa ord.length pc) ord.length (ord.map iv)) := (((HR.out.rm.later hb4).later HX.out)).orow
            have HNw : Hid (∀ ad, some (⟨W4.heap.size, 0, none⟩ : Addr) = some ad → ∀ j u, [Value.int .i64 (k : Int)][j]? = some u → (W4.alloc (.cells #[.int .i64 (k : Int)] 3)).cell? (ad.add j) = some u) := by
              rintro ad e j u hu
              cases e
              rcases j with _ | j
              · cases hu
                exact blk_at (heap_new _ _) 0
              · simp at hu
            obtain ⟨i0, hi0, hz0, hz1, hz2⟩ := info_parts Try.info3
            have HBg : Hid (W0.heap.size ≤ W4.heap.size + 1) := Nat.le_succ_of_le (Nat.le_trans HR.out.bel.size hb4.size)
            have HFs : Hid (∀ U, Below wr.heap.size wr U → U.frozen? ⟨sb, k, none⟩ = false) := fun U hU => by rw [World.frozen?_of_block (a := ⟨sb, k, none⟩) (hU.block _ HAt.out.2.2.2.2.2.2)]; exact HFz.out.2 k
            clear hr4 hl4 hc4 ha4 hb4 HDn
            go_wp2_with (at_builtin; refine wpList_append_two _ rfl _ _ 24 rfl W0.heap.size 3 i0 (.int .i64 0) 8 Try.underlying24 hi0 hz0 hz1 hz2 rfl (.slice pa ord.length pc) ord.length (ord.map iv) rfl HO.out (some ⟨W4.heap.size, 0, none⟩) 1 1 [.int .i64 (k : Int)] rfl (fun e => by cases e) rfl HNw.out (by simp [Value.oneCell']) (by have := HOl.out; unfold maxLen; omega) (by have := HOl.out; omega) (by rw [World.size_alloc]; exact HBg.out) ?_)
            intro v5 W5 ho5 hg5 hf5
            have HN : Hid _ := HR.out.does HKm.out.2 HKm.out.1 HAt.out.1 HAt.out.2.1 HAt.out.2.2.1 (by show ¬ (2 : Int) = 1; decide) (cs := laidTo b ds o mm) (by show (if (2 : Int) = 2 then _ else _) = _; rw [if_pos rfl]; rfl) H4.out.2.2.2.2 H4.out.1 H4.out.2.1 H4.out.2.2.1 H4.out.2.2.2.1 HX.out hg5 ho5 hf5
            have hgs : W5.cell? ⟨sb, k, none⟩ = some (.int .i64 1) := hg5.cell (cell_later HX.out (cell_later H4.out.2.2.2.2 hcs)) (fun e => HR.out.rm.os e.symm)
            have hs4 : sb < W4.heap.size := Nat.lt_of_lt_of_le HAt.out.2.2.2.2.2.2 H4.out.2.2.2.2.size
            have hgf : W5.frozen? ⟨sb, k, none⟩ = false := by
              rw [World.frozen?_of_block (a := ⟨sb, k, none⟩) ((hg5.block sb (Nat.lt_of_lt_of_le hs4 HX.out.size) (fun e => HR.out.rm.os e.symm)).trans ((HX.out.block sb hs4).trans (H4.out.2.2.2.2.block sb HAt.out.2.2.2.2.2.2)))]
              exact HFz.out.2 k
            clear hs4
            clear ho5 hg5 hf5 hcs
            have m1 : min (3 : Int) 2 = 2 := by decide
            go_wp2_with fail
            go_roundw
            case rel => exact ⟨t + 1, _, _, _, _, _, _, _, HTd.out, by go_num, rfl, HN.out⟩
            case measure => have := HTd.out; simp [intOf]; omega
          · by_cases k3 : pk = 3
            · subst k3
              have HDn : Hid _ := done_z ba pda n bc lb k mm m lc o pn pdc pfr pto psy b ds wr hbr hbl hns hin HKm.out.1 hs HCc.out
              clear hak hbr hbl hbc hin hwl hol c0 c1 c2 c3 c4 c5 c6 HCc
              go_wp2_with fail
              refine Calls.mono HDn.out ?_
              rintro e W4 ⟨c4, k4, rfl, hr4, hl4, hc4, ha4, hb4⟩
              have H4 : Hid _ := And.intro hr4 (And.intro hl4 (And.intro hc4 (And.intro ha4 hb4)))
              have HX : Hid (Below W4.heap.size W4 (W4.alloc (.cells #[.int .i64 (k : Int)] 3))) := (Below.refl _ W4).alloc (Nat.le_refl _) _
              have HO : Hid ((W4.alloc (.cells #[.int .i64 (k : Int)] 3)).ownsRow W0.heap.size 3 1 (.slice pa ord.length pc) ord.length (ord.map iv)) := (((HR.out.rm.later hb4).later HX.out)).orow
              have HNw : Hid (∀ ad, some (⟨W4.heap.size, 0, none⟩ : Addr) = some ad → ∀ j u, [Value.int .i64 (k : Int)][j]? = some u → (W4.alloc (.cells #[.int .i64 (k : Int)] 3)).cell? (ad.add j) = some u) := by
                rintro ad e j u hu
                cases e
                rcases j with _ | j
                · cases hu
                  exact blk_at (heap_new _ _) 0
                · simp at hu
              obtain ⟨i0, hi0, hz0, hz1, hz2⟩ := info_parts Try.info3
              have HBg : Hid (W0.heap.size ≤ W4.heap.size + 1) := Nat.le_succ_of_le (Nat.le_trans HR.out.bel.size hb4.size)
              have HFs : Hid (∀ U, Below wr.heap.size wr U → U.frozen? ⟨sb, k, none⟩ = false) := fun U hU => by rw [World.frozen?_of_block (a := ⟨sb, k, none⟩) (hU.block _ HAt.out.2.2.2.2.2.2)]; exact HFz.out.2 k
              clear hr4 hl4 hc4 ha4 hb4 HDn
              go_wp2_with (at_builtin; refine wpList_append_two _ rfl _ _ 24 rfl W0.heap.size 3 i0 (.int .i64 0) 8 Try.underlying24 hi0 hz0 hz1 hz2 rfl (.slice pa ord.length pc) ord.length (ord.map iv) rfl HO.out (some ⟨W4.heap.size, 0, none⟩) 1 1 [.int .i64 (k : Int)] rfl (fun e => by cases e) rfl HNw.out (by simp [Value.oneCell']) (by have := HOl.out; unfold maxLen; omega) (by have := HOl.out; omega) (by rw [World.size_alloc]; exact HBg.out) ?_)
              intro v5 W5 ho5 hg5 hf5
              have HN : Hid _ := HR.out.does HKm.out.2 HKm.out.1 HAt.out.1 HAt.out.2.1 HAt.out.2.2.1 (by show ¬ (3 : Int) = 1; decide) (cs := laidTo b (List.replicate mm 0) o mm) (by show (if (3 : Int) = 2 then _ else if (3 : Int) = 3 then _ else _) = _; rw [if_neg (by decide), if_pos rfl]; rfl) H4.out.2.2.2.2 H4.out.1 H4.out.2.1 H4.out.2.2.1 H4.out.2.2.2.1 HX.out hg5 ho5 hf5
              have hgs : W5.cell? ⟨sb, k, none⟩ = some (.int .i64 1) := hg5.cell (cell_later HX.out (cell_later H4.out.2.2.2.2 hcs)) (fun e => HR.out.rm.os e.symm)
              have hs4 : sb < W4.heap.size := Nat.lt_of_lt_of_le HAt.out.2.2.2.2.2.2 H4.out.2.2.2.2.size
              have hgf : W5.frozen? ⟨sb, k, none⟩ = false := by
                rw [World.frozen?_of_block (a := ⟨sb, k, none⟩) ((hg5.block sb (Nat.lt_of_lt_of_le hs4 HX.out.size) (fun e => HR.out.rm.os e.symm)).trans ((HX.out.block sb hs4).trans (H4.out.2.2.2.2.block sb HAt.out.2.2.2.2.2.2)))]
                exact HFz.out.2 k
              clear hs4
              clear ho5 hg5 hf5 hcs
              have m1 : min (3 : Int) 2 = 2 := by decide
              go_wp2_with fail
              go_roundw
              case rel => exact ⟨t + 1, _, _, _, _, _, _, _, HTd.out, by go_num, rfl, HN.out⟩
              case measure => have := HTd.out; simp [intOf]; omega
            · by_cases k1 : pk = 1
              · subst k1
                have HDn : Hid _ := done_r ba pda n bc lb k mm m lc o pn pdc pfr pto psy b ds wr hbr hbl hns hin HKm.out.1 hs HCc.out hbc (HFz.out.1 _) HAt.out.2.2.2.2.2.1
                have HLn : Hid (((b.drop o).take mm).length = mm) := by
                  show _ = _
                  rw [List.length_take, List.length_drop, hbl]; omega
                clear hak hbr hbl hbc hin hwl hol c0 c1 c2 c3 c4 c5 c6 HCc
                go_wp2_with fail
                refine Calls.mono HDn.out ?_
                rintro e W4 ⟨c4, k4, da4, dc4, U4, rfl, hw4, hb4, hr4, hc4, ha4, hrd, hcd, had⟩
                have H4 : Hid (Below wr.heap.size wr U4 ∧ BRow U4 c4 k4 b ∧ n ≤ k4 ∧ (∀ a, c4 = some a → wr.heap.size ≤ a.block ∧ a.block < U4.heap.size) ∧ BRow U4 da4 dc4 ((b.drop o).take mm) ∧ ∀ a, da4 = some a → wr.heap.size ≤ a.block ∧ a.block < U4.heap.size) := ⟨hb4, hr4, hc4, ha4, hrd, had⟩
                have HW4 : Hid (W4 = U4.setCell ⟨lb, k * 7 + 5, none⟩ (.slice da4 mm dc4)) := hw4
                have HB4 : Hid (Below W0.heap.size W0 W4) := by
                  show Below _ _ _
                  rw [hw4]; exact (HR.out.bel.trans (hb4.mono HR.out.bel.size)).setCell (p := ⟨lb, k * 7 + 5, none⟩) (HR.out.lbB HKm.out.2).1 _
                have HG4 : Hid (U4.grownBy W4 (some lb)) := by
                  show World.grownBy _ _ _
                  rw [hw4]; exact grown_setCell _
                have HS4 : Hid (U4.heap.size = W4.heap.size) := by
                  show _ = _
                  rw [hw4, World.size_setCell]
                have HX : Hid (Below W4.heap.size W4 (W4.alloc (.cells #[.int .i64 (k : Int)] 3))) := (Below.refl _ W4).alloc (Nat.le_refl _) _
                have HO : Hid ((W4.alloc (.cells #[.int .i64 (k : Int)] 3)).ownsRow W0.heap.size 3 1 (.slice pa ord.length pc) ord.length (ord.map iv)) := owns_same (owns_far ((HR.out.rm.later hb4).orow) HG4.out (fun g e e2 => HR.out.rm.ol rfl (by rw [e, e2]))) (fun g e => HX.out.block g (by rw [← HS4.out]; exact (owns_in (HR.out.rm.later hb4).orow e).2))
                have HNw : Hid (∀ ad, some (⟨W4.heap.size, 0, none⟩ : Addr) = some ad → ∀ j u, [Value.int .i64 (k : Int)][j]? = some u → (W4.alloc (.cells #[.int .i64 (k : Int)] 3)).cell? (ad.add j) = some u) := by
                  rintro ad e j u hu
                  cases e
                  rcases j with _ | j
                  · cases hu
                    exact blk_at (heap_new _ _) 0
                  · simp at hu
                obtain ⟨i0, hi0, hz0, hz1, hz2⟩ := info_parts Try.info3
                have HBg : Hid (W0.heap.size ≤ W4.heap.size + 1) := Nat.le_succ_of_le HB4.out.size
                have HFs : Hid (∀ U, Below wr.heap.size wr U → U.frozen? ⟨sb, k, none⟩ = false) := fun U hU => by rw [World.frozen?_of_block (a := ⟨sb, k, none⟩) (hU.block _ HAt.out.2.2.2.2.2.2)]; exact HFz.out.2 k
                clear hr4 hc4 ha4 hb4 hrd hcd had HDn hw4
                go_wp2_with (at_builtin; refine wpList_append_two _ rfl _ _ 24 rfl W0.heap.size 3 i0 (.int .i64 0) 8 Try.underlying24 hi0 hz0 hz1 hz2 rfl (.slice pa ord.length pc) ord.length (ord.map iv) rfl HO.out (some ⟨W4.heap.size, 0, none⟩) 1 1 [.int .i64 (k : Int)] rfl (fun e => by cases e) rfl HNw.out (by simp [Value.oneCell']) (by have := HOl.out; unfold maxLen; omega) (by have := HOl.out; omega) (by rw [World.size_alloc]; exact HBg.out) ?_)
                intro v5 W5 ho5 hg5 hf5
                have HN : Hid _ := reads_of HR.out HKm.out.2 HKm.out.1 HAt.out.1 HAt.out.2.1 HAt.out.2.2.1 HW4.out H4.out.1 H4.out.2.1 H4.out.2.2.1 H4.out.2.2.2.1 H4.out.2.2.2.2.1 HLn.out H4.out.2.2.2.2.2 HX.out hg5 ho5 hf5
                have hgs : W5.cell? ⟨sb, k, none⟩ = some (.int .i64 1) := hg5.cell (cell_later HX.out (HG4.out.cell (cell_later H4.out.1 hcs) (fun e => hne (Option.some.inj e).symm))) (fun e => HR.out.rm.os e.symm)
                have hs4' : sb < U4.heap.size := Nat.lt_of_lt_of_le HAt.out.2.2.2.2.2.2 H4.out.1.size
                have hs4 : sb < W4.heap.size := by rw [← HS4.out]; exact hs4'
                have hgf : W5.frozen? ⟨sb, k, none⟩ = false := by
                  rw [World.frozen?_of_block (a := ⟨sb, k, none⟩) ((hg5.block sb (Nat.lt_of_lt_of_le hs4 HX.out.size) (fun e => HR.out.rm.os e.symm)).trans ((HX.out.block sb hs4).trans ((HG4.out.block sb hs4' (fun e => hne (Option.some.inj e).symm)).trans (H4.out.1.block sb HAt.out.2.2.2.2.2.2))))]
                  exact HFz.out.2 k
                clear hs4 hs4'
                clear ho5 hg5 hf5 hcs
                have m1 : min (3 : Int) 2 = 2 := by decide
                go_wp2_with fail
                go_roundw
                case rel => exact ⟨t + 1, _, _, _, _, _, _, _, HTd.out, by go_num, rfl, HN.out⟩
                case measure => have := HTd.out; simp [intOf]; omega
              · have HK3 : Hid (pk ≠ 2 ∧ pk ≠ 3 ∧ pk ≠ 1) := ⟨k2, k3, k1⟩
                have HDn : Hid _ := done_o ba pda n bc lb k mm m lc o pn pdc pk pfr pto psy b ds wr hbr hbl hns hin HKm.out.1 hs HCc.out k2 k3 k1
                clear hak hbr hbl hbc hin hwl hol c0 c1 c2 c3 c4 c5 c6 HCc
                go_wp2_with fail
                refine Calls.mono HDn.out ?_
                rintro e W4 ⟨c4, k4, rfl, hr4, hl4, hc4, ha4, hb4⟩
                have H4 : Hid _ := And.intro hr4 (And.intro hl4 (And.intro hc4 (And.intro ha4 hb4)))
                have HX : Hid (Below W4.heap.size W4 (W4.alloc (.cells #[.int .i64 (k : Int)] 3))) := (Below.refl _ W4).alloc (Nat.le_refl _) _
                have HO : Hid ((W4.alloc (.cells #[.int .i64 (k : Int)] 3)).ownsRow W0.heap.size 3 1 (.slice pa ord.length pc) ord.length (ord.map iv)) := (((HR.out.rm.later hb4).later HX.out)).orow
                have HNw : Hid (∀ ad, some (⟨W4.heap.size, 0, none⟩ : Addr) = some ad → ∀ j u, [Value.int .i64 (k : Int)][j]? = some u → (W4.alloc (.cells #[.int .i64 (k : Int)] 3)).cell? (ad.add j) = some u) := by
                  rintro ad e j u hu
                  cases e
                  rcases j with _ | j
                  · cases hu
                    exact blk_at (heap_new _ _) 0
                  · simp at hu
                obtain ⟨i0, hi0, hz0, hz1, hz2⟩ := info_parts Try.info3
                have HBg : Hid (W0.heap.size ≤ W4.heap.size + 1) := Nat.le_succ_of_le (Nat.le_trans HR.out.bel.size hb4.size)
                have HFs : Hid (∀ U, Below wr.heap.size wr U → U.frozen? ⟨sb, k, none⟩ = false) := fun U hU => by rw [World.frozen?_of_block (a := ⟨sb, k, none⟩) (hU.block _ HAt.out.2.2.2.2.2.2)]; exact HFz.out.2 k
                clear hr4 hl4 hc4 ha4 hb4 HDn
                go_wp2_with (at_builtin; refine wpList_append_two _ rfl _ _ 24 rfl W0.heap.size 3 i0 (.int .i64 0) 8 Try.underlying24 hi0 hz0 hz1 hz2 rfl (.slice pa ord.length pc) ord.length (ord.map iv) rfl HO.out (some ⟨W4.heap.size, 0, none⟩) 1 1 [.int .i64 (k : Int)] rfl (fun e => by cases e) rfl HNw.out (by simp [Value.oneCell']) (by have := HOl.out; unfold maxLen; omega) (by have := HOl.out; omega) (by rw [World.size_alloc]; exact HBg.out) ?_)
                intro v5 W5 ho5 hg5 hf5
                have HN : Hid _ := HR.out.does HKm.out.2 HKm.out.1 HAt.out.1 HAt.out.2.1 HAt.out.2.2.1 HK3.out.2.2 (cs := b) (by show (if pk = 2 then _ else if pk = 3 then _ else _) = _; rw [if_neg HK3.out.1, if_neg HK3.out.2.1]) H4.out.2.2.2.2 H4.out.1 H4.out.2.1 H4.out.2.2.1 H4.out.2.2.2.1 HX.out hg5 ho5 hf5
                have hgs : W5.cell? ⟨sb, k, none⟩ = some (.int .i64 1) := hg5.cell (cell_later HX.out (cell_later H4.out.2.2.2.2 hcs)) (fun e => HR.out.rm.os e.symm)
                have hs4 : sb < W4.heap.size := Nat.lt_of_lt_of_le HAt.out.2.2.2.2.2.2 H4.out.2.2.2.2.size
                have hgf : W5.frozen? ⟨sb, k, none⟩ = false := by
                  rw [World.frozen?_of_block (a := ⟨sb, k, none⟩) ((hg5.block sb (Nat.lt_of_lt_of_le hs4 HX.out.size) (fun e => HR.out.rm.os e.symm)).trans ((HX.out.block sb hs4).trans (H4.out.2.2.2.2.block sb HAt.out.2.2.2.2.2.2)))]
                  exact HFz.out.2 k
                clear hs4
                clear ho5 hg5 hf5 hcs
                have m1 : min (3 : Int) 2 = 2 := by decide
                go_wp2_with fail
                go_roundw
                case rel => exact ⟨t + 1, _, _, _, _, _, _, _, HTd.out, by go_num, rfl, HN.out⟩
                case measure => have := HTd.out; simp [intOf]; omega
        · obtain ⟨pk, pfr, pto, poff, plen, pda, pn, pdc, psy⟩ := p
          have hkl : k < l.length := by rw [HD.out.2.2.2.2.1]; exact HKm.out.1
          obtain ⟨p0, hp0⟩ : ∃ p0, l[k]? = some p0 := ⟨_, List.getElem?_eq_getElem hkl⟩
          obtain ⟨ob, oo, eo, hco⟩ := ops_at HD.out.2.2.2.1.ops hp0
          subst eo
          obtain ⟨y, hy⟩ : ∃ y, p0.sy = y := ⟨_, rfl⟩
          have cy0 : w.cell? ⟨ob, oo + k * 7 + 6, none⟩ = some (.bool y) := by rw [← hy]; exact hco 6 _ rfl
          have hoB : ob < w.heap.size := cell_lt2 cy0
          have HLb : Hid (W0.heap.size ≤ lb ∧ lb < wr.heap.size) := ⟨(HR.out.lbB HKm.out.2).1, (HR.out.lbB HKm.out.2).2.1⟩
          have hne2 : ob ≠ lb := by have h1 := HB0.out.size; have h2 := HLb.out.1; omega
          have hne3 : lb ≠ ob := fun e => hne2 e.symm
          have cyw : wr.cell? ⟨ob, oo + k * 7 + 6, none⟩ = some (.bool y) := cell_later HR.out.bel (cell_later HB0.out cy0)
          have f2 : wr.frozen? ⟨lb, k * 7 + 2, none⟩ = false := HFz.out.1 _
          have f5 : wr.frozen? ⟨lb, k * 7 + 5, none⟩ = false := HFz.out.1 _
          have f6 : wr.frozen? ⟨lb, k * 7 + 6, none⟩ = false := HFz.out.1 _
          have g1 : wr.frozen? ⟨sb, k, none⟩ = false := HFz.out.2 k
          have m1 : min (3 : Int) 3 = 3 := by decide
          have hne4 : sb ≠ lb := fun e => hne e.symm
          clear hkl hp0 hco hy cy0 hoB
          by_cases k1 : pk = 1
          · cases y with
            | true =>
              subst k1
              have u1 : ((1 : Int) != 1) = false := by decide
              have u2 : ((1 : Int) == 1) = true := by decide
              have HBw : Hid (BRow ((wr.setCell ⟨lb, k * 7 + 2, none⟩ (.int .i64 (t : Int))).setCell ⟨lb, k * 7 + 6, none⟩ (.bool false)) pda pdc ds) := brow_far (brow_far HAt.out.2.2.2.1 (grown_setCell _) (fun a e e2 => (HR.out.rm.dfr HAt.out.2.1 a e).2.1 (Option.some.inj e2).symm)) (grown_setCell _) (fun a e e2 => (HR.out.rm.dfr HAt.out.2.1 a e).2.1 (Option.some.inj e2).symm)
              have HCq : Hid _ := copy_own pda pdc pn ds ((wr.setCell ⟨lb, k * 7 + 2, none⟩ (.int .i64 (t : Int))).setCell ⟨lb, k * 7 + 6, none⟩ (.bool false)) HBw.out HAt.out.2.2.2.2.1
              have HSw : Hid (((wr.setCell ⟨lb, k * 7 + 2, none⟩ (.int .i64 (t : Int))).setCell ⟨lb, k * 7 + 6, none⟩ (.bool false)).cell? ⟨sb, k, none⟩ = some (.int .i64 2)) := (grown_setCell _).cell ((grown_setCell _).cell hcs (fun e => hne (Option.some.inj e).symm)) (fun e => hne (Option.some.inj e).symm)
              have HFw : Hid (((wr.setCell ⟨lb, k * 7 + 2, none⟩ (.int .i64 (t : Int))).setCell ⟨lb, k * 7 + 6, none⟩ (.bool false)).cell? ⟨lb, k * 7 + 5, none⟩ = some (.slice pda pn pdc) ∧ ((wr.setCell ⟨lb, k * 7 + 2, none⟩ (.int .i64 (t : Int))).setCell ⟨lb, k * 7 + 6, none⟩ (.bool false)).frozen? ⟨lb, k * 7 + 5, none⟩ = false ∧ ((wr.setCell ⟨lb, k * 7 + 2, none⟩ (.int .i64 (t : Int))).setCell ⟨lb, k * 7 + 6, none⟩ (.bool false)).frozen? ⟨sb, k, none⟩ = false) := by
                refine ⟨?_, ?_, ?_⟩ <;> go_simp <;> assumption
              go_wp2_with fail
              refine Calls.mono HCq.out ?_
              rintro e W8 ⟨c8, k8, rfl, ho8, hr8, hk8, hb8⟩
              have HN : Hid _ := HR.out.telld HKm.out.2 HKm.out.1 HAt.out.1 HAt.out.2.1 HAt.out.2.2.1 false (fun e => by cases e) hb8 hr8 (fun a e => by
                subst e
                have h1 := owns_in ho8 (g := a.block) rfl
                exact ⟨by have h2 := h1.1; simp only [World.size_setCell] at h2; exact h2, h1.2⟩)
              have d5 : W8.cell? ⟨lb, k * 7 + 5, none⟩ = some (.slice pda pn pdc) := cell_later hb8 HFw.out.1
              have e5 : W8.frozen? ⟨lb, k * 7 + 5, none⟩ = false := by
                rw [World.frozen?_of_block (a := ⟨lb, k * 7 + 5, none⟩) (hb8.block _ (by simp only [World.size_setCell]; exact HLb.out.2))]; exact HFw.out.2.1
              have ds8 : W8.cell? ⟨sb, k, none⟩ = some (.int .i64 2) := cell_later hb8 HSw.out
              have es8 : W8.frozen? ⟨sb, k, none⟩ = false := by
                rw [World.frozen?_of_block (a := ⟨sb, k, none⟩) (hb8.block _ (by simp only [World.size_setCell]; exact HAt.out.2.2.2.2.2.2))]; exact HFw.out.2.2
              clear ho8 hr8 hk8 hb8 HCq
              go_wp2_with fail
              go_roundw
              case rel => exact ⟨t + 1, _, _, _, _, _, _, _, HTd.out, by go_num, rfl, HN.out⟩
              case measure => have := HTd.out; simp [intOf]; omega
            | false =>
              subst k1
              have u1 : ((1 : Int) != 1) = false := by decide
              have u2 : ((1 : Int) == 1) = true := by decide
              have HBw : Hid (BRow ((wr.setCell ⟨lb, k * 7 + 2, none⟩ (.int .i64 (t : Int))).setCell ⟨lb, k * 7 + 6, none⟩ (.bool false)) pda pdc ds) := brow_far (brow_far HAt.out.2.2.2.1 (grown_setCell _) (fun a e e2 => (HR.out.rm.dfr HAt.out.2.1 a e).2.1 (Option.some.inj e2).symm)) (grown_setCell _) (fun a e e2 => (HR.out.rm.dfr HAt.out.2.1 a e).2.1 (Option.some.inj e2).symm)
              have HCq : Hid _ := copy_own pda pdc pn ds ((wr.setCell ⟨lb, k * 7 + 2, none⟩ (.int .i64 (t : Int))).setCell ⟨lb, k * 7 + 6, none⟩ (.bool false)) HBw.out HAt.out.2.2.2.2.1
              have HSw : Hid (((wr.setCell ⟨lb, k * 7 + 2, none⟩ (.int .i64 (t : Int))).setCell ⟨lb, k * 7 + 6, none⟩ (.bool false)).cell? ⟨sb, k, none⟩ = some (.int .i64 2)) := (grown_setCell _).cell ((grown_setCell _).cell hcs (fun e => hne (Option.some.inj e).symm)) (fun e => hne (Option.some.inj e).symm)
              have HFw : Hid (((wr.setCell ⟨lb, k * 7 + 2, none⟩ (.int .i64 (t : Int))).setCell ⟨lb, k * 7 + 6, none⟩ (.bool false)).cell? ⟨lb, k * 7 + 5, none⟩ = some (.slice pda pn pdc) ∧ ((wr.setCell ⟨lb, k * 7 + 2, none⟩ (.int .i64 (t : Int))).setCell ⟨lb, k * 7 + 6, none⟩ (.bool false)).frozen? ⟨lb, k * 7 + 5, none⟩ = false ∧ ((wr.setCell ⟨lb, k * 7 + 2, none⟩ (.int .i64 (t : Int))).setCell ⟨lb, k * 7 + 6, none⟩ (.bool false)).frozen? ⟨sb, k, none⟩ = false) := by
                refine ⟨?_, ?_, ?_⟩ <;> go_simp <;> assumption
              go_wp2_with fail
              refine Calls.mono HCq.out ?_
              rintro e W8 ⟨c8, k8, rfl, ho8, hr8, hk8, hb8⟩
              have HN : Hid _ := HR.out.telld HKm.out.2 HKm.out.1 HAt.out.1 HAt.out.2.1 HAt.out.2.2.1 false (fun e => by cases e) hb8 hr8 (fun a e => by
                subst e
                have h1 := owns_in ho8 (g := a.block) rfl
                exact ⟨by have h2 := h1.1; simp only [World.size_setCell] at h2; exact h2, h1.2⟩)
              have d5 : W8.cell? ⟨lb, k * 7 + 5, none⟩ = some (.slice pda pn pdc) := cell_later hb8 HFw.out.1
              have e5 : W8.frozen? ⟨lb, k * 7 + 5, none⟩ = false := by
                rw [World.frozen?_of_block (a := ⟨lb, k * 7 + 5, none⟩) (hb8.block _ (by simp only [World.size_setCell]; exact HLb.out.2))]; exact HFw.out.2.1
              have ds8 : W8.cell? ⟨sb, k, none⟩ = some (.int .i64 2) := cell_later hb8 HSw.out
              have es8 : W8.frozen? ⟨sb, k, none⟩ = false := by
                rw [World.frozen?_of_block (a := ⟨sb, k, none⟩) (hb8.block _ (by simp only [World.size_setCell]; exact HAt.out.2.2.2.2.2.2))]; exact HFw.out.2.2
              clear ho8 hr8 hk8 hb8 HCq
              go_wp2_with fail
              go_roundw
              case rel => exact ⟨t + 1, _, _, _, _, _, _, _, HTd.out, by go_num, rfl, HN.out⟩
              case measure => have := HTd.out; simp [intOf]; omega
          · cases y with
            | true =>
              have u1 : (pk != 1) = true := by rw [bne_iff_ne]; exact k1
              have u2 : (pk == 1) = false := by rw [beq_eq_false_iff_ne]; exact k1
              have HK1 : Hid (pk ≠ 1) := k1
              clear k1
              have HN : Hid _ := HR.out.tells HKm.out.2 HKm.out.1 HAt.out.1 HAt.out.2.1 HAt.out.2.2.1 true (fun _ => HK1.out)
              go_wp2_with fail
              go_roundw
              case rel => exact ⟨t + 1, _, _, _, _, _, _, _, HTd.out, by go_num, rfl, HN.out⟩
              case measure => have := HTd.out; simp [intOf]; omega
            | false =>
              have u1 : (pk != 1) = true := by rw [bne_iff_ne]; exact k1
              have u2 : (pk == 1) = false := by rw [beq_eq_false_iff_ne]; exact k1
              have HK1 : Hid (pk ≠ 1) := k1
              clear k1
              have HN : Hid _ := HR.out.tells HKm.out.2 HKm.out.1 HAt.out.1 HAt.out.2.1 HAt.out.2.2.1 false (fun e => by cases e)
              go_wp2_with fail
              go_roundw
              case rel => exact ⟨t + 1, _, _, _, _, _, _, _, HTd.out, by go_num, rfl, HN.out⟩
              case measure => have := HTd.out; simp [intOf]; omega
        · have HN : Hid _ := HR.out.over HKm.out.2 HKm.out.1 HAt.out.1
          have f1 : wr.frozen? ⟨sb, k, none⟩ = false := HFz.out.2 k
          go_wp2_with fail
          go_roundw
          case rel => exact ⟨t + 1, _, _, _, _, _, _, _, HTd.out, by go_num, rfl, HN.out⟩
          case measure => have := HTd.out; simp [intOf]; omega
      · have n8 : decide ((0 : Int) < (m : Int)) = false := decide_eq_false (by omega)
        have n8b : decide (0 < m) = false := decide_eq_false hm0
        have hmk : ∀ W : World, (Instr.makeSlice 24 (.int .i64 (m : Int)) (.int .i64 (m : Int))).run Try.prog W = .ok (.slice (some ⟨W.heap.size, 0, none⟩) m m) (W.alloc (.cells (Array.replicate m (Value.int .i64 0)) 3)) := fun W => run_ints W (by omega)
        have HMs : Hid (m ≤ 10 ∧ d ≤ 1048576 ∧ n ≤ 4096) := ⟨hs, hds, hns⟩
        obtain ⟨X, hX⟩ : ∃ X, wr = X := ⟨_, rfl⟩
        rw [hX] at HR ⊢
        clear hX wr
        have HS0 : Hid (SW X m X.heap.size 0 L st (X.alloc (.cells (Array.replicate m (Value.int .i64 0)) 3)) (.slice none 0 0)) := SW.new X m L st (by omega)
        obtain ⟨nb, hnb⟩ : ∃ nb, X.heap.size = nb := ⟨_, rfl⟩
        rw [hnb] at HS0
        have HNb : Hid (X.heap.size = nb) := hnb
        go_wp2_with fail
        clear hmk hnb
        go_loopw [13, 15] (fun sv kv V => ∃ k : Nat, k ≤ m ∧ kv = .int .i64 (k : Int) ∧ Hid (SW X m nb k L st V sv)) (fun _ kv _ => m - (intOf kv).toNat)
        case atStart => exact ⟨0, Nat.zero_le _, rfl, HS0.out⟩
        case round =>
          clear HS0
          obtain ⟨k, hi, rfl, HS⟩ := hrel
          obtain ⟨sva, svc, hsv⟩ := own_form7 HS.out.row
          subst hsv
          by_cases hlt : k < m
          · exact absurd (Nat.lt_of_le_of_lt (Nat.zero_le _) hlt) hm0
          · have n9 : decide ((k : Int) < (m : Int)) = false := decide_eq_false (by omega)
            have n9b : decide (k < m) = false := decide_eq_false hlt
            have hke : k = m := Nat.le_antisymm hi (Nat.le_of_not_lt hlt)
            have HKe : Hid (k = m) := hke
            obtain ⟨Y, hY⟩ : ∃ Y, wr = Y := ⟨_, rfl⟩
            rw [hY] at HS ⊢
            clear hY wr
            have HSm : Hid (SW X m nb m L st Y (.slice sva (numK st k) svc)) := by
              have h5 := HS.out
              rw [← HKe.out]
              rw [HKe.out] at h5 ⊢
              exact h5
            obtain ⟨pa, pc, hpo⟩ : ∃ pa pc, u10 = .slice pa ord.length pc := by
              rcases HR.out.rm.orow.2 with ⟨h1, h2⟩ | ⟨g, c, cur, h1, _⟩
              · exact ⟨none, 0, by rw [h1, h2]⟩
              · exact ⟨_, _, h1⟩
            subst hpo
            have HT0 : Hid (TW Y W0.heap.size (.slice pa ord.length pc) st ord 0 Y) := TW.new (HR.out.rm.later HSm.out.bel).orow
            have HOl : Hid (ord.length ≤ m) := nodup_lt HR.out.rs.nd fun x hx => by
              obtain ⟨s, h1, _⟩ := (HR.out.rs.ordm x).1 hx
              have h2 := (List.getElem?_eq_some_iff.1 h1).1
              rw [HR.out.rs.sl, HR.out.lm] at h2; exact h2
            have hc10 : ord.length ≤ 10 := Nat.le_trans HOl.out hs
            clear HS hke hi hlt
            go_wp2_with fail
            go_loopw [17] (fun iw V => ∃ i : Nat, i ≤ ord.length ∧ iw = .int .i64 (i : Int) ∧ Hid (TW Y W0.heap.size (.slice pa ord.length pc) st ord i V)) (fun iw _ => ord.length - (intOf iw).toNat)
            case atStart => exact ⟨0, Nat.zero_le _, rfl, HT0.out⟩
            case round =>
              clear HT0
              obtain ⟨i, hi, rfl, HT⟩ := hrel
              by_cases hlt : i < ord.length
              · exact absurd (Nat.lt_of_lt_of_le (Nat.lt_of_le_of_lt (Nat.zero_le _) hlt) HOl.out) hm0
              · have n9 : decide ((i : Int) < (ord.length : Int)) = false := decide_eq_false (by omega)
                have n9b : decide (i < ord.length) = false := decide_eq_false hlt
                have hie : i = ord.length := Nat.le_antisymm hi (Nat.le_of_not_lt hlt)
                obtain ⟨V, hV⟩ : ∃ V, wr = V := ⟨_, rfl⟩
                rw [hV] at HT ⊢
                clear hV wr
                obtain ⟨hB, hbr, sa, sc, e1, hO, pa', pc', e2, hz⟩ := HR.out.ends HSm.out (by have h5 := HT.out; rw [hie] at h5; exact h5)
                cases e2
                obtain ⟨Q, hQ⟩ : ∃ Q, seenL L st L.length = Q := ⟨_, rfl⟩
                obtain ⟨E, hE⟩ : ∃ E, seenE L dss' st L.length = E := ⟨_, rfl⟩
                obtain ⟨R, hR⟩ : ∃ R, ord.map (numK st) = R := ⟨_, rfl⟩
                obtain ⟨c, hc⟩ : ∃ c, ord.length = c := ⟨_, rfl⟩
                obtain ⟨z, hz0⟩ : ∃ z, numK st k = z := ⟨_, rfl⟩
                have hf := HR.out.rs.fol ord.length (Nat.le_refl _)
                have hwh := HR.out.rs.whl
                have hwr := HR.out.rs.wrg hns
                have hbp := HR.out.rs.play
                have hqz : Q.length = z := by rw [← hQ, ← hz0, HKe.out, ← HR.out.lm]; simp [seenL, numK]
                rw [List.take_length, ← hbp] at hf
                rw [hQ, hE, hR] at hf
                rw [hQ, hR] at hwh
                rw [hQ] at hwr
                rw [hQ, hE] at hO
                rw [hR] at hz
                rw [hQ, hz0, hqz] at e1
                cases e1
                have hRc : (zs R).length = c := by rw [← hR, ← hc]; simp [zs]
                have hQ10 : Q.length ≤ 10 := by
                  rw [hqz, ← hz0]
                  have h5 := qF_len st k
                  have h6 := HKe.out
                  have h7 : numK st k ≤ k := h5
                  omega
                have hEl : E.length = Q.length := hO.len
                rw [hc] at hf
                rw [← hRc] at hf
                have hst : b.length = n := HR.out.rm.blen
                have hal := (fol_alive (l := Q) (l3 := Q) (dss := E) (ord := zs R) (first := first) (n := n) (W := V) (v := .slice ba n bc) (at_ := 0) (en := 0) (.inr (.inr (.inr ⟨hwr, b, ba, bc, hf, hwh, rfl, hbr, hst, rfl, rfl⟩))) rfl ⟨rfl, fun k p q h1 h2 => by rw [h1] at h2; cases h2; rfl⟩ hEl).2 hQ10
                have HX : Hid (Below W0.heap.size W0 V ∧ BRow V ba bc b ∧ OpsD V sva Q E ∧ ZRow V pa (zs R) ∧ b.length = n ∧ n ≤ bc ∧ Q.length = z ∧ (zs R).length = c) := ⟨hB, hbr, hO, hz, hst, HR.out.rm.bcap, hqz, hRc⟩
                have HF : Hid (wrg n Q = 0 ∧ FolR Q E (zs R) first (zs R).length b ∧ Whl Q (zs R) Q.length ∧ Q.length ≤ 10 ∧ E.length = Q.length ∧ c ≤ 10) := ⟨hwr, hf, hwh, hQ10, hEl, by rw [← hc]; exact Nat.le_trans HOl.out hs⟩
                have HAl : Hid (∃ ks' : List Nat, zs R = ks'.map (fun x : Nat => (x : Int)) ∧ (spA Q E).Comp 0 first ks') := hal
                have HFd : Hid (BRow w fa fc first ∧ first.length = n ∧ n ≤ fc) := ⟨HD.out.1, HD.out.2.1, HD.out.2.2.1⟩
                clear hB hbr hO hz hst hqz hRc hwr hf hwh hQ10 hEl hal hbp hie hi hlt hQ hE hR
                rw [hc] at n9 n9b ⊢
                rw [hz0]
                clear HR HSm HT HOl HKe HD HMs HNb hc10
                have HOr : Hid _ := order_any fa sva n fc z svc first Q E V ((HFd.out.1.later HB0.out).later HX.out.1) HFd.out.2.1 HX.out.2.2.1 HX.out.2.2.2.2.2.2.1 (by have := HF.out.2.2.2.1; have := HX.out.2.2.2.2.2.2.1; omega)
                go_wp2_with fail
                refine Calls.mono HOr.out ?_
                rintro e V2 ⟨v, ok, en, rfl, hout, hb2⟩
                obtain ⟨rfl, rfl, hks⟩ : ok = true ∧ en = 0 ∧ ∃ ks za zc, v = .slice za ks.length zc ∧ (spA Q E).Finds 0 first ks ∧ V2.ownsRow V.heap.size 3 1 (.slice za ks.length zc) ks.length (ks.map iv) := by
                  rcases hout with ⟨h1, _, _, _⟩ | ⟨_, h2, _⟩ | ⟨h1, h2, h3, h4, h5⟩ | ⟨h1, h2, h3, h4, h5, h6⟩
                  · have := HF.out.2.2.2.1; omega
                  · exact absurd HF.out.1 h2
                  · exact ⟨h4, h3, h5⟩
                  · obtain ⟨ks', _, h8⟩ := HAl.out
                    exact absurd h8 (h6 ks')
                obtain ⟨ks, ya, yc, rfl, hFi, hrow⟩ := hks
                have hmap : ks.map iv = (ks.map (fun x : Nat => (x : Int))).map (Value.int .i64) := by rw [List.map_map]; rfl
                rw [hmap] at hrow
                obtain ⟨kk, hkk⟩ : ∃ kk, ks.length = kk := ⟨_, rfl⟩
                rw [hkk] at hrow ⊢
                obtain ⟨za9, zc9, hv1, hzk⟩ := zrow_own hrow (by rw [List.length_map]; exact hkk)
                cases hv1
                have hkl : kk ≤ 10 := by
                  obtain ⟨bsF, hfolR, hwhl⟩ := comp_fol HF.out.2.2.2.1 HF.out.2.2.2.2.1 (first := first) ks [] first (by simp) (by simpa [mask] using hFi.comp) .nil
                  rw [List.nil_append] at hfolR hwhl
                  rw [← hkk]
                  obtain ⟨ks2, f1, f2, f3⟩ := fol_nat hfolR (by simp)
                  have hnd := fol_nodup hfolR (by simp)
                  rw [f1] at hnd
                  have hnd2 : ks2.Nodup := (List.pairwise_map.1 hnd).imp fun h e => h (by rw [e])
                  have h9 := nodup_lt hnd2 f3
                  have h10 := HF.out.2.2.2.1
                  try simp at f2
                  omega
                have H2 : Hid (Below V.heap.size V V2 ∧ ZRow V2 ya (ks.map (fun x : Nat => (x : Int))) ∧ ks.length = kk ∧ kk ≤ 10 ∧ (spA Q E).Finds 0 first ks) := ⟨hb2, hzk, hkk, hkl, hFi⟩
                clear hout hb2 hFi hrow hmap hkk hzk hkl HOr
                have HB2 : Hid (Below w.heap.size w V2) := HB0.out.trans ((HX.out.1.trans (H2.out.1.mono HX.out.1.size)).mono HB0.out.size)
                have HFo : Hid _ := follow_any fa sva pa n fc z svc c pc first Q E (zs R) V2 (HFd.out.1.later HB2.out) HFd.out.2.1 (HX.out.2.2.1.later H2.out.1) HX.out.2.2.2.2.2.2.1 (by have := HF.out.2.2.2.1; have := HX.out.2.2.2.2.2.2.1; omega) (HX.out.2.2.2.1.later H2.out.1) HX.out.2.2.2.2.2.2.2 (by have := HF.out.2.2.2.2.2; omega)
                go_wp2_with fail
                refine Calls.mono HFo.out ?_
                rintro e V3 ⟨v2, at2, en2, rfl, hf2, hn2, hb3⟩
                have h0 : en2 = 0 := fol_ok hf2 HF.out.1 HF.out.2.1 HF.out.2.2.1
                subst h0
                obtain ⟨c2, k2, rfl, hr2⟩ : ∃ c2 k2, v2 = .slice c2 n k2 ∧ BRow V3 c2 k2 b := by
                  rcases hf2 with ⟨h1, _⟩ | ⟨_, i, bs, _, _, _, _, _, h7⟩ | ⟨_, bs, _, _, _, _, h7⟩ | ⟨_, bs, c2, k2, h2, _, h4, h5, _⟩
                  · exact absurd HF.out.1 h1
                  · cases h7
                  · cases h7
                  · rw [h2.det HF.out.2.1] at h5
                    exact ⟨c2, k2, h4, h5⟩
                have H3 : Hid (Below V2.heap.size V2 V3 ∧ BRow V3 c2 k2 b) := ⟨hb3, hr2⟩
                have HV3 : Hid (Below V.heap.size V V3) := H2.out.1.trans (hb3.mono H2.out.1.size)
                have HB3 : Hid (Below w.heap.size w V3) := HB2.out.trans (hb3.mono HB2.out.size)
                clear hf2 hn2 hb3 hr2 HFo
                have HSv : Hid _ := survives_any fa sva pa ba n fc z svc c pc n bc first b Q E (zs R) V3 (HFd.out.1.later HB3.out) HFd.out.2.1 HFd.out.2.2 (HX.out.2.2.1.later HV3.out) HX.out.2.2.2.2.2.2.1 (by have := HF.out.2.2.2.1; have := HX.out.2.2.2.2.2.2.1; omega) (HX.out.2.2.2.1.later HV3.out) HX.out.2.2.2.2.2.2.2 (by have := HF.out.2.2.2.2.2; omega) (HX.out.2.1.later HV3.out) HX.out.2.2.2.2.1 HX.out.2.2.2.2.2.1
                go_wp2_with fail
                refine Calls.mono HSv.out ?_
                rintro e V4 ⟨s4, ok4, en4, rfl, hout, hb4⟩
                obtain ⟨h1, h2⟩ := hout.en0 HF.out.1 HX.out.2.2.2.2.1 ⟨b, HF.out.2.1, HF.out.2.2.1⟩
                have h3 := h2 fun j _ => okay_end HF.out.2.1 j
                subst h1
                subst h3
                have HV4 : Hid (Below V3.heap.size V3 V4) := hb4
                have HB4 : Hid (Below w.heap.size w V4) := HB3.out.trans (hb4.mono HB3.out.size)
                clear hout h2 hb4 HSv
                have HSa : Hid _ := same_rows (H3.out.2.later HV4.out) HX.out.2.2.2.2.1 (HX.out.2.1.later (HV3.out.trans (HV4.out.mono HV3.out.size))) HX.out.2.2.2.2.1
                have dbb : decide (b = b) = true := decide_eq_true rfl
                go_wp2_with fail
                refine Calls.mono HSa.out ?_
                rintro e V5 ⟨rfl, hb5⟩
                have HV5 : Hid (Below V2.heap.size V2 V5) := H3.out.1.trans ((HV4.out.trans (hb5.mono HV4.out.size)).mono H3.out.1.size)
                have HB5 : Hid (Below w.heap.size w V5) := HB4.out.trans (hb5.mono HB4.out.size)
                clear hb5 HSa
                have HNb : Hid (Calls Try.prog 21 #[.slice ya kk yc, .slice pa c pc] V5 fun e w' => e = .returned (.bool true) ∧ ∃ q, w' = V5.drewN q) := by
                  obtain ⟨ks', h1, h2⟩ := HAl.out
                  have h3 := HX.out.2.2.2.1.later (H2.out.1.trans (HV5.out.mono H2.out.1.size))
                  have h4 : ks'.length = c := by have h9 := HX.out.2.2.2.2.2.2.2; rw [h1, List.length_map] at h9; exact h9
                  rw [h1] at h3
                  exact notBehind_any ya pa yc pc kk c ks ks' V5 H2.out.2.2.1 h4 (by have := H2.out.2.2.2.1; omega) (by have := HF.out.2.2.2.2.2; omega) (H2.out.2.1.later HV5.out) h3 (H2.out.2.2.2.2.least h2)
                go_wp2_with fail
                refine Calls.mono HNb.out ?_
                rintro e V6 ⟨rfl, q6, hq6⟩
                have HB6 : Hid (Below w.heap.size w V6) := by
                  subst hq6
                  exact HB5.out.trans ⟨rfl, rfl, rfl, Nat.le_refl _, fun _ _ => rfl⟩
                clear hq6
                go_wp2_with fail
                go_ret
                exact ⟨rfl, HB6.out⟩
    · have n9 : decide ((t : Int) < (d : Int)) = false := decide_eq_false (by omega)
      have n9b : decide (t < d) = false := decide_eq_false hlt
      have hmk : ∀ W : World, (Instr.makeSlice 24 (.int .i64 (m : Int)) (.int .i64 (m : Int))).run Try.prog W = .ok (.slice (some ⟨W.heap.size, 0, none⟩) m m) (W.alloc (.cells (Array.replicate m (Value.int .i64 0)) 3)) := fun W => run_ints W (by omega)
      have HMs : Hid (m ≤ 10 ∧ d ≤ 1048576 ∧ n ≤ 4096) := ⟨hs, hds, hns⟩
      obtain ⟨X, hX⟩ : ∃ X, wr = X := ⟨_, rfl⟩
      rw [hX] at HR ⊢
      clear hX wr
      have HS0 : Hid (SW X m X.heap.size 0 L st (X.alloc (.cells (Array.replicate m (Value.int .i64 0)) 3)) (.slice none 0 0)) := SW.new X m L st (by omega)
      obtain ⟨nb, hnb⟩ : ∃ nb, X.heap.size = nb := ⟨_, rfl⟩
      rw [hnb] at HS0
      have HNb : Hid (X.heap.size = nb) := hnb
      go_wp2_with fail
      clear hmk hnb
      go_loopw [13, 15] (fun sv kv V => ∃ k : Nat, k ≤ m ∧ kv = .int .i64 (k : Int) ∧ Hid (SW X m nb k L st V sv)) (fun _ kv _ => m - (intOf kv).toNat)
      case atStart => exact ⟨0, Nat.zero_le _, rfl, HS0.out⟩
      case round =>
        clear HS0
        obtain ⟨k, hi, rfl, HS⟩ := hrel
        obtain ⟨sva, svc, hsv⟩ := own_form7 HS.out.row
        subst hsv
        by_cases hlt : k < m
        · have n9 : decide ((k : Int) < (m : Int)) = true := decide_eq_true (by omega)
          have n9b : decide (k < m) = true := decide_eq_true hlt
          have kk0 : (0 : Int) ≤ (k : Int) := by omega
          have kk9 : (k : Int) < (m : Int) := by omega
          have HKm : Hid (k < m) := hlt
          have hm0 : 0 < m := by omega
          obtain ⟨lb, hlb⟩ : ∃ lb, la = some ⟨lb, 0, none⟩ := by
            obtain ⟨g, e1, _⟩ := own7_some HR.out.rm.lrow hm0
            exact ⟨g, e1⟩
          subst hlb
          obtain ⟨s, p, ds, hs3, h1, h2, h3, hc, hf, hcs, hfs, hlw, hsw, hr, hdl⟩ := HR.out.at_ hlt
          have hne1 : lb ≠ nb := by have := HNb.out; omega
          have hne2 : sb ≠ nb := by have := HNb.out; omega
          have hne3 : nb ≠ lb := fun e => hne1 e.symm
          have hne4 : nb ≠ sb := fun e => hne2 e.symm
          have HAt : Hid (st[k]? = some s ∧ L[k]? = some p ∧ s ≤ 3 ∧ lb < X.heap.size ∧ sb < X.heap.size) := ⟨h1, h2, hs3, hlw, hsw⟩
          have cs : wr.cell? ⟨sb, k, none⟩ = some (.int .i64 (s : Int)) := cell_later HS.out.bel hcs
          have c0 : wr.cell? ⟨lb, k * 7, none⟩ = some (.int .i64 p.k) := cell_later HS.out.bel (hc 0 _ rfl)
          have c1 : wr.cell? ⟨lb, k * 7 + 1, none⟩ = some (.int .i64 p.fr) := cell_later HS.out.bel (hc 1 _ rfl)
          have c2 : wr.cell? ⟨lb, k * 7 + 2, none⟩ = some (.int .i64 p.to_) := cell_later HS.out.bel (hc 2 _ rfl)
          have c3 : wr.cell? ⟨lb, k * 7 + 3, none⟩ = some (.int .i64 p.off) := cell_later HS.out.bel (hc 3 _ rfl)
          have c4 : wr.cell? ⟨lb, k * 7 + 4, none⟩ = some (.int .i64 p.len) := cell_later HS.out.bel (hc 4 _ rfl)
          have c5 : wr.cell? ⟨lb, k * 7 + 5, none⟩ = some (.slice p.da p.n p.dc) := cell_later HS.out.bel (hc 5 _ rfl)
          have c6 : wr.cell? ⟨lb, k * 7 + 6, none⟩ = some (.bool p.sy) := cell_later HS.out.bel (hc 6 _ rfl)
          obtain ⟨nb', enb, hnB, hnc, hnf⟩ := own_some HS.out.num hm0
          have enb' : nb = nb' := by simpa using enb
          subst enb'
          have cn : wr.cell? ⟨nb, k, none⟩ = some (.int .i64 0) := by
            rw [hnc k hlt, List.getElem?_map, List.getElem?_map, List.getElem?_range hlt]
            simp [iv]
          have fn : wr.frozen? ⟨nb, k, none⟩ = false := hnf k
          obtain ⟨q, hq⟩ : ∃ q, numK st k = q := ⟨_, rfl⟩
          have HQ : Hid (numK st k = q) := hq
          rw [hq]
          clear hnc hnf enb hnB hc hf hcs hfs hlw hsw hr hdl h1 h2 h3 hi hlt hm0 hs3
          by_cases hs0 : s = 0
          · subst hs0
            have HN : Hid (SW X m nb (k + 1) L st (wr.setCell ⟨nb, k, none⟩ (.int .i64 (q : Int))) (.slice sva q svc)) := by
              have h5 := HS.out.skip HKm.out (by rw [askB_of HAt.out.1]; rfl)
              rw [HQ.out] at h5; exact h5
            clear hq
            go_wp2_with fail
            go_roundw
            case rel => exact ⟨k + 1, HKm.out, by go_num, HN.out⟩
            case measure => have := HKm.out; simp [intOf]; omega
          · have HS1 : Hid (0 < s) := Nat.pos_of_ne_zero hs0
            have n0 : decide ((0 : Int) < (s : Int)) = true := decide_eq_true (by have := HS1.out; omega)
            have n0b : decide (0 < s) = true := decide_eq_true HS1.out
            have s1 : (wr.setCell ⟨nb, k, none⟩ (.int .i64 (q : Int))).heap.size = wr.heap.size := World.size_setCell _ _ _
            have HAl : Hid (Below (wr.setCell ⟨nb, k, none⟩ (.int .i64 (q : Int))).heap.size (wr.setCell ⟨nb, k, none⟩ (.int .i64 (q : Int))) ((wr.setCell ⟨nb, k, none⟩ (.int .i64 (q : Int))).alloc (.cells p.cells 50))) := (Below.refl _ _).alloc (Nat.le_refl _) _
            have hbk : ((wr.setCell ⟨nb, k, none⟩ (.int .i64 (q : Int))).alloc (.cells p.cells 50)).heap[wr.heap.size]? = some (.cells p.cells 50 (0, 0)) := by rw [← s1]; exact heap_new _ _
            have e0 : ((wr.setCell ⟨nb, k, none⟩ (.int .i64 (q : Int))).alloc (.cells p.cells 50)).cell? ⟨wr.heap.size, 0, none⟩ = some (.int .i64 p.k) := blk_at hbk 0
            have e1 : ((wr.setCell ⟨nb, k, none⟩ (.int .i64 (q : Int))).alloc (.cells p.cells 50)).cell? ⟨wr.heap.size, 1, none⟩ = some (.int .i64 p.fr) := blk_at hbk 1
            have e2 : ((wr.setCell ⟨nb, k, none⟩ (.int .i64 (q : Int))).alloc (.cells p.cells 50)).cell? ⟨wr.heap.size, 2, none⟩ = some (.int .i64 p.to_) := blk_at hbk 2
            have e3 : ((wr.setCell ⟨nb, k, none⟩ (.int .i64 (q : Int))).alloc (.cells p.cells 50)).cell? ⟨wr.heap.size, 3, none⟩ = some (.int .i64 p.off) := blk_at hbk 3
            have e4 : ((wr.setCell ⟨nb, k, none⟩ (.int .i64 (q : Int))).alloc (.cells p.cells 50)).cell? ⟨wr.heap.size, 4, none⟩ = some (.int .i64 p.len) := blk_at hbk 4
            have e5 : ((wr.setCell ⟨nb, k, none⟩ (.int .i64 (q : Int))).alloc (.cells p.cells 50)).cell? ⟨wr.heap.size, 5, none⟩ = some (.slice p.da p.n p.dc) := blk_at hbk 5
            have e6 : ((wr.setCell ⟨nb, k, none⟩ (.int .i64 (q : Int))).alloc (.cells p.cells 50)).cell? ⟨wr.heap.size, 6, none⟩ = some (.bool p.sy) := blk_at hbk 6
            have ef : ((wr.setCell ⟨nb, k, none⟩ (.int .i64 (q : Int))).alloc (.cells p.cells 50)).frozen? ⟨wr.heap.size, 5, none⟩ = false := blk_free hbk 5
            have HBk : Hid _ := hbk
            have css : ((wr.setCell ⟨nb, k, none⟩ (.int .i64 (q : Int))).alloc (.cells p.cells 50)).cell? ⟨sb, k, none⟩ = some (.int .i64 (s : Int)) := cell_later HAl.out ((grown_setCell _).cell cs (fun e => hne2 (Option.some.inj e)))
            clear hbk hs0
            by_cases hs3 : s < 3
            · have n7 : decide ((s : Int) < (3 : Int)) = true := decide_eq_true (by omega)
              have n7b : decide (s < 3) = true := decide_eq_true hs3
              have HS3 : Hid (s < 3) := hs3
              by_cases hk1 : p.k = 1
              · have n6 : (p.k == 1) = true := by rw [beq_iff_eq]; exact hk1
                have HSp : Hid (seenP s p = ⟨p.k, p.fr, p.to_, p.off, p.len, none, 0, 0, p.sy⟩) := by
                  show _ = _
                  unfold seenP; rw [if_pos ⟨hs3, hk1⟩]
                clear hk1
                have HP1 : Hid (Below (wr.setCell ⟨nb, k, none⟩ (.int .i64 (q : Int))).heap.size (wr.setCell ⟨nb, k, none⟩ (.int .i64 (q : Int))) ((wr.setCell ⟨nb, k, none⟩ (.int .i64 (q : Int))).alloc (.cells #[.int .i64 p.k, .int .i64 p.fr, .int .i64 p.to_, .int .i64 p.off, .int .i64 p.len, .slice none 0 0, .bool p.sy] 50))) := (Below.refl _ _).alloc (Nat.le_refl _) _
                have HPs : Hid (((wr.setCell ⟨nb, k, none⟩ (.int .i64 (q : Int))).alloc (.cells #[.int .i64 p.k, .int .i64 p.fr, .int .i64 p.to_, .int .i64 p.off, .int .i64 p.len, .slice none 0 0, .bool p.sy] 50)).heap.size = wr.heap.size + 1) := by
                  show _ = _
                  simp only [World.size_setCell, World.size_alloc]
                have HY : Hid (Below (wr.setCell ⟨nb, k, none⟩ (.int .i64 (q : Int))).heap.size (wr.setCell ⟨nb, k, none⟩ (.int .i64 (q : Int))) (((wr.setCell ⟨nb, k, none⟩ (.int .i64 (q : Int))).alloc (.cells #[.int .i64 p.k, .int .i64 p.fr, .int .i64 p.to_, .int .i64 p.off, .int .i64 p.len, .slice none 0 0, .bool p.sy] 50)).alloc (.cells #[.int .i64 p.k, .int .i64 p.fr, .int .i64 p.to_, .int .i64 p.off, .int .i64 p.len, .slice none 0 0, .bool p.sy] 50))) := HP1.out.alloc HP1.out.size _
                have HO4 : Hid ((((wr.setCell ⟨nb, k, none⟩ (.int .i64 (q : Int))).alloc (.cells #[.int .i64 p.k, .int .i64 p.fr, .int .i64 p.to_, .int .i64 p.off, .int .i64 p.len, .slice none 0 0, .bool p.sy] 50)).alloc (.cells #[.int .i64 p.k, .int .i64 p.fr, .int .i64 p.to_, .int .i64 p.off, .int .i64 p.len, .slice none 0 0, .bool p.sy] 50)).ownsRow X.heap.size 50 7 (.slice sva q svc) q (ocells (seenL L st k))) := by
                  have h5 := (HS.out.number HKm.out).2.1
                  rw [HQ.out] at h5
                  exact rows_same h5 fun g e => HY.out.block g (owns_in h5 e).2
                have HNw : Hid (∀ j u, [.int .i64 p.k, .int .i64 p.fr, .int .i64 p.to_, .int .i64 p.off, .int .i64 p.len, .slice none 0 0, .bool p.sy][j]? = some u → (((wr.setCell ⟨nb, k, none⟩ (.int .i64 (q : Int))).alloc (.cells #[.int .i64 p.k, .int .i64 p.fr, .int .i64 p.to_, .int .i64 p.off, .int .i64 p.len, .slice none 0 0, .bool p.sy] 50)).alloc (.cells #[.int .i64 p.k, .int .i64 p.fr, .int .i64 p.to_, .int .i64 p.off, .int .i64 p.len, .slice none 0 0, .bool p.sy] 50)).cell? ((⟨wr.heap.size + 1, 0, none⟩ : Addr).add j) = some u) := fun j u hu => by
                  have h1 := new_at ((wr.setCell ⟨nb, k, none⟩ (.int .i64 (q : Int))).alloc (.cells #[.int .i64 p.k, .int .i64 p.fr, .int .i64 p.to_, .int .i64 p.off, .int .i64 p.len, .slice none 0 0, .bool p.sy] 50)) (.cells #[.int .i64 p.k, .int .i64 p.fr, .int .i64 p.to_, .int .i64 p.off, .int .i64 p.len, .slice none 0 0, .bool p.sy] 50) (wr.heap.size + 1) HPs.out
                  rw [add_plain, Nat.zero_add, blk_at h1 j, ← Array.getElem?_toList]
                  exact hu
                have HBg : Hid (X.heap.size ≤ (((wr.setCell ⟨nb, k, none⟩ (.int .i64 (q : Int))).alloc (.cells #[.int .i64 p.k, .int .i64 p.fr, .int .i64 p.to_, .int .i64 p.off, .int .i64 p.len, .slice none 0 0, .bool p.sy] 50)).alloc (.cells #[.int .i64 p.k, .int .i64 p.fr, .int .i64 p.to_, .int .i64 p.off, .int .i64 p.len, .slice none 0 0, .bool p.sy] 50)).heap.size) := by
                  show _ ≤ _
                  rw [World.size_alloc, HPs.out]
                  have := HS.out.bel.size
                  omega
                have HQm : Hid (q ≤ 10) := by
                  have h5 := qF_len st k
                  have h6 := HQ.out
                  have h7 := HKm.out
                  have h8 := HMs.out.1
                  show _ ≤ _
                  rw [← h6]
                  exact Nat.le_trans h5 (Nat.le_trans (Nat.le_of_lt h7) h8)
                obtain ⟨i0, hi0, hz0, hz1, hz2⟩ := info_parts Try.info50
                clear HP1
                go_wp2_with (at_builtin; refine wpList_append_own _ rfl _ _ 23 rfl X.heap.size 50 i0 _ 7 72 Try.under23 hi0 hz0 hz1 hz2 rfl (by decide) (.slice sva q svc) q (ocells (seenL L st k)) rfl HO4.out ⟨wr.heap.size + 1, 0, none⟩ 1 1 [.int .i64 p.k, .int .i64 p.fr, .int .i64 p.to_, .int .i64 p.off, .int .i64 p.len, .slice none 0 0, .bool p.sy] rfl rfl HNw.out (by simp [Value.oneCell']) (by have := HQm.out; unfold maxLen; omega) (by have := HQm.out; omega) HBg.out ?_)
                intro v3 W3 ho3 hg3 _
                have HN : Hid (SW X m nb (k + 1) L st W3 v3) := by
                  have h5 := HY.out
                  rw [← HQ.out] at h5
                  refine HS.out.add HKm.out HAt.out.1 HS1.out HAt.out.2.1 h5 (by rw [HQ.out]; exact hg3) ?_
                  rw [HQ.out, HSp.out]; exact ho3
                clear ho3 hg3 e0 e1 e2 e3 e4 e5 e6 ef css
                go_wp2_with fail
                go_roundw
                case rel => exact ⟨k + 1, HKm.out, by go_num, HN.out⟩
                case measure => have := HKm.out; simp [intOf]; omega
              · have n6 : (p.k == 1) = false := by rw [beq_eq_false_iff_ne]; exact hk1
                have HSp : Hid (seenP s p = p) := by
                  show _ = _
                  unfold seenP; rw [if_neg (fun h => hk1 h.2)]
                clear hk1
                have HP1 : Hid (Below (wr.setCell ⟨nb, k, none⟩ (.int .i64 (q : Int))).heap.size (wr.setCell ⟨nb, k, none⟩ (.int .i64 (q : Int))) ((wr.setCell ⟨nb, k, none⟩ (.int .i64 (q : Int))).alloc (.cells p.cells 50))) := HAl.out
                have HPs : Hid (((wr.setCell ⟨nb, k, none⟩ (.int .i64 (q : Int))).alloc (.cells p.cells 50)).heap.size = wr.heap.size + 1) := by
                  show _ = _
                  simp only [World.size_setCell, World.size_alloc]
                have HY : Hid (Below (wr.setCell ⟨nb, k, none⟩ (.int .i64 (q : Int))).heap.size (wr.setCell ⟨nb, k, none⟩ (.int .i64 (q : Int))) (((wr.setCell ⟨nb, k, none⟩ (.int .i64 (q : Int))).alloc (.cells p.cells 50)).alloc (.cells #[.int .i64 p.k, .int .i64 p.fr, .int .i64 p.to_, .int .i64 p.off, .int .i64 p.len, .slice p.da p.n p.dc, .bool p.sy] 50))) := HP1.out.alloc HP1.out.size _
                have HO4 : Hid ((((wr.setCell ⟨nb, k, none⟩ (.int .i64 (q : Int))).alloc (.cells p.cells 50)).alloc (.cells #[.int .i64 p.k, .int .i64 p.fr, .int .i64 p.to_, .int .i64 p.off, .int .i64 p.len, .slice p.da p.n p.dc, .bool p.sy] 50)).ownsRow X.heap.size 50 7 (.slice sva q svc) q (ocells (seenL L st k))) := by
                  have h5 := (HS.out.number HKm.out).2.1
                  rw [HQ.out] at h5
                  exact rows_same h5 fun g e => HY.out.block g (owns_in h5 e).2
                have HNw : Hid (∀ j u, [.int .i64 p.k, .int .i64 p.fr, .int .i64 p.to_, .int .i64 p.off, .int .i64 p.len, .slice p.da p.n p.dc, .bool p.sy][j]? = some u → (((wr.setCell ⟨nb, k, none⟩ (.int .i64 (q : Int))).alloc (.cells p.cells 50)).alloc (.cells #[.int .i64 p.k, .int .i64 p.fr, .int .i64 p.to_, .int .i64 p.off, .int .i64 p.len, .slice p.da p.n p.dc, .bool p.sy] 50)).cell? ((⟨wr.heap.size + 1, 0, none⟩ : Addr).add j) = some u) := fun j u hu => by
                  have h1 := new_at ((wr.setCell ⟨nb, k, none⟩ (.int .i64 (q : Int))).alloc (.cells p.cells 50)) (.cells #[.int .i64 p.k, .int .i64 p.fr, .int .i64 p.to_, .int .i64 p.off, .int .i64 p.len, .slice p.da p.n p.dc, .bool p.sy] 50) (wr.heap.size + 1) HPs.out
                  rw [add_plain, Nat.zero_add, blk_at h1 j, ← Array.getElem?_toList]
                  exact hu
                have HBg : Hid (X.heap.size ≤ (((wr.setCell ⟨nb, k, none⟩ (.int .i64 (q : Int))).alloc (.cells p.cells 50)).alloc (.cells #[.int .i64 p.k, .int .i64 p.fr, .int .i64 p.to_, .int .i64 p.off, .int .i64 p.len, .slice p.da p.n p.dc, .bool p.sy] 50)).heap.size) := by
                  show _ ≤ _
                  rw [World.size_alloc, HPs.out]
                  have := HS.out.bel.size
                  omega
                have HQm : Hid (q ≤ 10) := by
                  have h5 := qF_len st k
                  have h6 := HQ.out
                  have h7 := HKm.out
                  have h8 := HMs.out.1
                  show _ ≤ _
                  rw [← h6]
                  exact Nat.le_trans h5 (Nat.le_trans (Nat.le_of_lt h7) h8)
                obtain ⟨i0, hi0, hz0, hz1, hz2⟩ := info_parts Try.info50
                clear HP1
                go_wp2_with (at_builtin; refine wpList_append_own _ rfl _ _ 23 rfl X.heap.size 50 i0 _ 7 72 Try.under23 hi0 hz0 hz1 hz2 rfl (by decide) (.slice sva q svc) q (ocells (seenL L st k)) rfl HO4.out ⟨wr.heap.size + 1, 0, none⟩ 1 1 [.int .i64 p.k, .int .i64 p.fr, .int .i64 p.to_, .int .i64 p.off, .int .i64 p.len, .slice p.da p.n p.dc, .bool p.sy] rfl rfl HNw.out (by simp [Value.oneCell']) (by have := HQm.out; unfold maxLen; omega) (by have := HQm.out; omega) HBg.out ?_)
                intro v3 W3 ho3 hg3 _
                have HN : Hid (SW X m nb (k + 1) L st W3 v3) := by
                  have h5 := HY.out
                  rw [← HQ.out] at h5
                  refine HS.out.add HKm.out HAt.out.1 HS1.out HAt.out.2.1 h5 (by rw [HQ.out]; exact hg3) ?_
                  rw [HQ.out, HSp.out]; exact ho3
                clear ho3 hg3 e0 e1 e2 e3 e4 e5 e6 ef css
                go_wp2_with fail
                go_roundw
                case rel => exact ⟨k + 1, HKm.out, by go_num, HN.out⟩
                case measure => have := HKm.out; simp [intOf]; omega
            · have n7 : decide ((s : Int) < (3 : Int)) = false := decide_eq_false (by omega)
              have n7b : decide (s < 3) = false := decide_eq_false hs3
              have HSp : Hid (seenP s p = p) := by
                show _ = _
                unfold seenP; rw [if_neg (fun h => hs3 h.1)]
              have HP1 : Hid (Below (wr.setCell ⟨nb, k, none⟩ (.int .i64 (q : Int))).heap.size (wr.setCell ⟨nb, k, none⟩ (.int .i64 (q : Int))) ((wr.setCell ⟨nb, k, none⟩ (.int .i64 (q : Int))).alloc (.cells p.cells 50))) := HAl.out
              have HPs : Hid (((wr.setCell ⟨nb, k, none⟩ (.int .i64 (q : Int))).alloc (.cells p.cells 50)).heap.size = wr.heap.size + 1) := by
                show _ = _
                simp only [World.size_setCell, World.size_alloc]
              have HY : Hid (Below (wr.setCell ⟨nb, k, none⟩ (.int .i64 (q : Int))).heap.size (wr.setCell ⟨nb, k, none⟩ (.int .i64 (q : Int))) (((wr.setCell ⟨nb, k, none⟩ (.int .i64 (q : Int))).alloc (.cells p.cells 50)).alloc (.cells #[.int .i64 p.k, .int .i64 p.fr, .int .i64 p.to_, .int .i64 p.off, .int .i64 p.len, .slice p.da p.n p.dc, .bool p.sy] 50))) := HP1.out.alloc HP1.out.size _
              have HO4 : Hid ((((wr.setCell ⟨nb, k, none⟩ (.int .i64 (q : Int))).alloc (.cells p.cells 50)).alloc (.cells #[.int .i64 p.k, .int .i64 p.fr, .int .i64 p.to_, .int .i64 p.off, .int .i64 p.len, .slice p.da p.n p.dc, .bool p.sy] 50)).ownsRow X.heap.size 50 7 (.slice sva q svc) q (ocells (seenL L st k))) := by
                have h5 := (HS.out.number HKm.out).2.1
                rw [HQ.out] at h5
                exact rows_same h5 fun g e => HY.out.block g (owns_in h5 e).2
              have HNw : Hid (∀ j u, [.int .i64 p.k, .int .i64 p.fr, .int .i64 p.to_, .int .i64 p.off, .int .i64 p.len, .slice p.da p.n p.dc, .bool p.sy][j]? = some u → (((wr.setCell ⟨nb, k, none⟩ (.int .i64 (q : Int))).alloc (.cells p.cells 50)).alloc (.cells #[.int .i64 p.k, .int .i64 p.fr, .int .i64 p.to_, .int .i64 p.off, .int .i64 p.len, .slice p.da p.n p.dc, .bool p.sy] 50)).cell? ((⟨wr.heap.size + 1, 0, none⟩ : Addr).add j) = some u) := fun j u hu => by
                have h1 := new_at ((wr.setCell ⟨nb, k, none⟩ (.int .i64 (q : Int))).alloc (.cells p.cells 50)) (.cells #[.int .i64 p.k, .int .i64 p.fr, .int .i64 p.to_, .int .i64 p.off, .int .i64 p.len, .slice p.da p.n p.dc, .bool p.sy] 50) (wr.heap.size + 1) HPs.out
                rw [add_plain, Nat.zero_add, blk_at h1 j, ← Array.getElem?_toList]
                exact hu
              have HBg : Hid (X.heap.size ≤ (((wr.setCell ⟨nb, k, none⟩ (.int .i64 (q : Int))).alloc (.cells p.cells 50)).alloc (.cells #[.int .i64 p.k, .int .i64 p.fr, .int .i64 p.to_, .int .i64 p.off, .int .i64 p.len, .slice p.da p.n p.dc, .bool p.sy] 50)).heap.size) := by
                show _ ≤ _
                rw [World.size_alloc, HPs.out]
                have := HS.out.bel.size
                omega
              have HQm : Hid (q ≤ 10) := by
                have h5 := qF_len st k
                have h6 := HQ.out
                have h7 := HKm.out
                have h8 := HMs.out.1
                show _ ≤ _
                rw [← h6]
                exact Nat.le_trans h5 (Nat.le_trans (Nat.le_of_lt h7) h8)
              obtain ⟨i0, hi0, hz0, hz1, hz2⟩ := info_parts Try.info50
              clear HP1
              go_wp2_with (at_builtin; refine wpList_append_own _ rfl _ _ 23 rfl X.heap.size 50 i0 _ 7 72 Try.under23 hi0 hz0 hz1 hz2 rfl (by decide) (.slice sva q svc) q (ocells (seenL L st k)) rfl HO4.out ⟨wr.heap.size + 1, 0, none⟩ 1 1 [.int .i64 p.k, .int .i64 p.fr, .int .i64 p.to_, .int .i64 p.off, .int .i64 p.len, .slice p.da p.n p.dc, .bool p.sy] rfl rfl HNw.out (by simp [Value.oneCell']) (by have := HQm.out; unfold maxLen; omega) (by have := HQm.out; omega) HBg.out ?_)
              intro v3 W3 ho3 hg3 _
              have HN : Hid (SW X m nb (k + 1) L st W3 v3) := by
                have h5 := HY.out
                rw [← HQ.out] at h5
                refine HS.out.add HKm.out HAt.out.1 HS1.out HAt.out.2.1 h5 (by rw [HQ.out]; exact hg3) ?_
                rw [HQ.out, HSp.out]; exact ho3
              clear ho3 hg3 e0 e1 e2 e3 e4 e5 e6 ef css
              go_wp2_with fail
              go_roundw
              case rel => exact ⟨k + 1, HKm.out, by go_num, HN.out⟩
              case measure => have := HKm.out; simp [intOf]; omega
        · have n9 : decide ((k : Int) < (m : Int)) = false := decide_eq_false (by omega)
          have n9b : decide (k < m) = false := decide_eq_false hlt
          have hke : k = m := Nat.le_antisymm hi (Nat.le_of_not_lt hlt)
          have HKe : Hid (k = m) := hke
          obtain ⟨Y, hY⟩ : ∃ Y, wr = Y := ⟨_, rfl⟩
          rw [hY] at HS ⊢
          clear hY wr
          have HSm : Hid (SW X m nb m L st Y (.slice sva (numK st k) svc)) := by
            have h5 := HS.out
            rw [← HKe.out]
            rw [HKe.out] at h5 ⊢
            exact h5
          obtain ⟨pa, pc, hpo⟩ : ∃ pa pc, u10 = .slice pa ord.length pc := by
            rcases HR.out.rm.orow.2 with ⟨h1, h2⟩ | ⟨g, c, cur, h1, _⟩
            · exact ⟨none, 0, by rw [h1, h2]⟩
            · exact ⟨_, _, h1⟩
          subst hpo
          have HT0 : Hid (TW Y W0.heap.size (.slice pa ord.length pc) st ord 0 Y) := TW.new (HR.out.rm.later HSm.out.bel).orow
          have HOl : Hid (ord.length ≤ m) := nodup_lt HR.out.rs.nd fun x hx => by
            obtain ⟨s, h1, _⟩ := (HR.out.rs.ordm x).1 hx
            have h2 := (List.getElem?_eq_some_iff.1 h1).1
            rw [HR.out.rs.sl, HR.out.lm] at h2; exact h2
          have hc10 : ord.length ≤ 10 := Nat.le_trans HOl.out hs
          clear HS hke hi hlt
          go_wp2_with fail
          go_loopw [17] (fun iw V => ∃ i : Nat, i ≤ ord.length ∧ iw = .int .i64 (i : Int) ∧ Hid (TW Y W0.heap.size (.slice pa ord.length pc) st ord i V)) (fun iw _ => ord.length - (intOf iw).toNat)
          case atStart => exact ⟨0, Nat.zero_le _, rfl, HT0.out⟩
          case round =>
            clear HT0
            obtain ⟨i, hi, rfl, HT⟩ := hrel
            by_cases hlt : i < ord.length
            · have n9 : decide ((i : Int) < (ord.length : Int)) = true := decide_eq_true (by omega)
              have n9b : decide (i < ord.length) = true := decide_eq_true hlt
              have ii0 : (0 : Int) ≤ (i : Int) := by omega
              have ii9 : (i : Int) < (ord.length : Int) := by omega
              have HIl : Hid (i < ord.length) := hlt
              obtain ⟨g, eg, hgB, -, -⟩ := own_some HT.out.row (by omega)
              subst eg
              obtain ⟨x, hx⟩ : ∃ x, ord[i]? = some x := ⟨_, List.getElem?_eq_getElem hlt⟩
              obtain ⟨co1, fo1⟩ := HT.out.got hx
              have hxm : x < m := by
                obtain ⟨s, h1, _⟩ := (HR.out.rs.ordm x).1 (List.mem_of_getElem? hx)
                have h2 := (List.getElem?_eq_some_iff.1 h1).1
                rw [HR.out.rs.sl, HR.out.lm] at h2; exact h2
              have xx0 : (0 : Int) ≤ (x : Int) := by omega
              have xx9 : (x : Int) < (m : Int) := by omega
              obtain ⟨q, hq⟩ : ∃ q, numK st x = q := ⟨_, rfl⟩
              have hgX : g < X.heap.size := (owns_in HR.out.rm.orow (g := g) rfl).2
              have cnx : wr.cell? ⟨nb, x, none⟩ = some (.int .i64 (q : Int)) := by
                obtain ⟨nb', enb, hnB, hnc, hnf⟩ := own_some HSm.out.num (by omega)
                have enb' : nb = nb' := by simpa using enb
                subst enb'
                refine HT.out.gr.cell (v := .int .i64 (q : Int)) ?_ (fun e => ?_)
                · rw [hnc x hxm, List.getElem?_map, numR_get (numK st) m x hxm, hq]; rfl
                · have e2 : nb = g := Option.some.inj e
                  omega
              have co2 : wr.cell? ⟨g, i, none⟩ = some (.int .i64 (x : Int)) := co1
              have HN : Hid (TW Y W0.heap.size (.slice (some ⟨g, 0, none⟩) ord.length pc) st ord (i + 1) (wr.setCell ⟨g, i, none⟩ (.int .i64 (q : Int)))) := by
                have h5 := HT.out.put hx
                rw [hq] at h5; exact h5
              clear co1 hx hxm hq hgX hgB hi hlt
              go_wp2_with fail
              go_roundw
              case rel => exact ⟨i + 1, HIl.out, by go_num, HN.out⟩
              case measure => have := HIl.out; simp [intOf]; omega
            · have n9 : decide ((i : Int) < (ord.length : Int)) = false := decide_eq_false (by omega)
              have n9b : decide (i < ord.length) = false := decide_eq_false hlt
              have hie : i = ord.length := Nat.le_antisymm hi (Nat.le_of_not_lt hlt)
              obtain ⟨V, hV⟩ : ∃ V, wr = V := ⟨_, rfl⟩
              rw [hV] at HT ⊢
              clear hV wr
              obtain ⟨hB, hbr, sa, sc, e1, hO, pa', pc', e2, hz⟩ := HR.out.ends HSm.out (by have h5 := HT.out; rw [hie] at h5; exact h5)
              cases e2
              obtain ⟨Q, hQ⟩ : ∃ Q, seenL L st L.length = Q := ⟨_, rfl⟩
              obtain ⟨E, hE⟩ : ∃ E, seenE L dss' st L.length = E := ⟨_, rfl⟩
              obtain ⟨R, hR⟩ : ∃ R, ord.map (numK st) = R := ⟨_, rfl⟩
              obtain ⟨c, hc⟩ : ∃ c, ord.length = c := ⟨_, rfl⟩
              obtain ⟨z, hz0⟩ : ∃ z, numK st k = z := ⟨_, rfl⟩
              have hf := HR.out.rs.fol ord.length (Nat.le_refl _)
              have hwh := HR.out.rs.whl
              have hwr := HR.out.rs.wrg hns
              have hbp := HR.out.rs.play
              have hqz : Q.length = z := by rw [← hQ, ← hz0, HKe.out, ← HR.out.lm]; simp [seenL, numK]
              rw [List.take_length, ← hbp] at hf
              rw [hQ, hE, hR] at hf
              rw [hQ, hR] at hwh
              rw [hQ] at hwr
              rw [hQ, hE] at hO
              rw [hR] at hz
              rw [hQ, hz0, hqz] at e1
              cases e1
              have hRc : (zs R).length = c := by rw [← hR, ← hc]; simp [zs]
              have hQ10 : Q.length ≤ 10 := by
                rw [hqz, ← hz0]
                have h5 := qF_len st k
                have h6 := HKe.out
                have h7 : numK st k ≤ k := h5
                omega
              have hEl : E.length = Q.length := hO.len
              rw [hc] at hf
              rw [← hRc] at hf
              have hst : b.length = n := HR.out.rm.blen
              have hal := (fol_alive (l := Q) (l3 := Q) (dss := E) (ord := zs R) (first := first) (n := n) (W := V) (v := .slice ba n bc) (at_ := 0) (en := 0) (.inr (.inr (.inr ⟨hwr, b, ba, bc, hf, hwh, rfl, hbr, hst, rfl, rfl⟩))) rfl ⟨rfl, fun k p q h1 h2 => by rw [h1] at h2; cases h2; rfl⟩ hEl).2 hQ10
              have HX : Hid (Below W0.heap.size W0 V ∧ BRow V ba bc b ∧ OpsD V sva Q E ∧ ZRow V pa (zs R) ∧ b.length = n ∧ n ≤ bc ∧ Q.length = z ∧ (zs R).length = c) := ⟨hB, hbr, hO, hz, hst, HR.out.rm.bcap, hqz, hRc⟩
              have HF : Hid (wrg n Q = 0 ∧ FolR Q E (zs R) first (zs R).length b ∧ Whl Q (zs R) Q.length ∧ Q.length ≤ 10 ∧ E.length = Q.length ∧ c ≤ 10) := ⟨hwr, hf, hwh, hQ10, hEl, by rw [← hc]; exact Nat.le_trans HOl.out hs⟩
              have HAl : Hid (∃ ks' : List Nat, zs R = ks'.map (fun x : Nat => (x : Int)) ∧ (spA Q E).Comp 0 first ks') := hal
              have HFd : Hid (BRow w fa fc first ∧ first.length = n ∧ n ≤ fc) := ⟨HD.out.1, HD.out.2.1, HD.out.2.2.1⟩
              clear hB hbr hO hz hst hqz hRc hwr hf hwh hQ10 hEl hal hbp hie hi hlt hQ hE hR
              rw [hc] at n9 n9b ⊢
              rw [hz0]
              clear HR HSm HT HOl HKe HD HMs HNb hc10
              have HOr : Hid _ := order_any fa sva n fc z svc first Q E V ((HFd.out.1.later HB0.out).later HX.out.1) HFd.out.2.1 HX.out.2.2.1 HX.out.2.2.2.2.2.2.1 (by have := HF.out.2.2.2.1; have := HX.out.2.2.2.2.2.2.1; omega)
              go_wp2_with fail
              refine Calls.mono HOr.out ?_
              rintro e V2 ⟨v, ok, en, rfl, hout, hb2⟩
              obtain ⟨rfl, rfl, hks⟩ : ok = true ∧ en = 0 ∧ ∃ ks za zc, v = .slice za ks.length zc ∧ (spA Q E).Finds 0 first ks ∧ V2.ownsRow V.heap.size 3 1 (.slice za ks.length zc) ks.length (ks.map iv) := by
                rcases hout with ⟨h1, _, _, _⟩ | ⟨_, h2, _⟩ | ⟨h1, h2, h3, h4, h5⟩ | ⟨h1, h2, h3, h4, h5, h6⟩
                · have := HF.out.2.2.2.1; omega
                · exact absurd HF.out.1 h2
                · exact ⟨h4, h3, h5⟩
                · obtain ⟨ks', _, h8⟩ := HAl.out
                  exact absurd h8 (h6 ks')
              obtain ⟨ks, ya, yc, rfl, hFi, hrow⟩ := hks
              have hmap : ks.map iv = (ks.map (fun x : Nat => (x : Int))).map (Value.int .i64) := by rw [List.map_map]; rfl
              rw [hmap] at hrow
              obtain ⟨kk, hkk⟩ : ∃ kk, ks.length = kk := ⟨_, rfl⟩
              rw [hkk] at hrow ⊢
              obtain ⟨za9, zc9, hv1, hzk⟩ := zrow_own hrow (by rw [List.length_map]; exact hkk)
              cases hv1
              have hkl : kk ≤ 10 := by
                obtain ⟨bsF, hfolR, hwhl⟩ := comp_fol HF.out.2.2.2.1 HF.out.2.2.2.2.1 (first := first) ks [] first (by simp) (by simpa [mask] using hFi.comp) .nil
                rw [List.nil_append] at hfolR hwhl
                rw [← hkk]
                obtain ⟨ks2, f1, f2, f3⟩ := fol_nat hfolR (by simp)
                have hnd := fol_nodup hfolR (by simp)
                rw [f1] at hnd
                have hnd2 : ks2.Nodup := (List.pairwise_map.1 hnd).imp fun h e => h (by rw [e])
                have h9 := nodup_lt hnd2 f3
                have h10 := HF.out.2.2.2.1
                try simp at f2
                omega
              have H2 : Hid (Below V.heap.size V V2 ∧ ZRow V2 ya (ks.map (fun x : Nat => (x : Int))) ∧ ks.length = kk ∧ kk ≤ 10 ∧ (spA Q E).Finds 0 first ks) := ⟨hb2, hzk, hkk, hkl, hFi⟩
              clear hout hb2 hFi hrow hmap hkk hzk hkl HOr
              have HB2 : Hid (Below w.heap.size w V2) := HB0.out.trans ((HX.out.1.trans (H2.out.1.mono HX.out.1.size)).mono HB0.out.size)
              have HFo : Hid _ := follow_any fa sva pa n fc z svc c pc first Q E (zs R) V2 (HFd.out.1.later HB2.out) HFd.out.2.1 (HX.out.2.2.1.later H2.out.1) HX.out.2.2.2.2.2.2.1 (by have := HF.out.2.2.2.1; have := HX.out.2.2.2.2.2.2.1; omega) (HX.out.2.2.2.1.later H2.out.1) HX.out.2.2.2.2.2.2.2 (by have := HF.out.2.2.2.2.2; omega)
              go_wp2_with fail
              refine Calls.mono HFo.out ?_
              rintro e V3 ⟨v2, at2, en2, rfl, hf2, hn2, hb3⟩
              have h0 : en2 = 0 := fol_ok hf2 HF.out.1 HF.out.2.1 HF.out.2.2.1
              subst h0
              obtain ⟨c2, k2, rfl, hr2⟩ : ∃ c2 k2, v2 = .slice c2 n k2 ∧ BRow V3 c2 k2 b := by
                rcases hf2 with ⟨h1, _⟩ | ⟨_, i, bs, _, _, _, _, _, h7⟩ | ⟨_, bs, _, _, _, _, h7⟩ | ⟨_, bs, c2, k2, h2, _, h4, h5, _⟩
                · exact absurd HF.out.1 h1
                · cases h7
                · cases h7
                · rw [h2.det HF.out.2.1] at h5
                  exact ⟨c2, k2, h4, h5⟩
              have H3 : Hid (Below V2.heap.size V2 V3 ∧ BRow V3 c2 k2 b) := ⟨hb3, hr2⟩
              have HV3 : Hid (Below V.heap.size V V3) := H2.out.1.trans (hb3.mono H2.out.1.size)
              have HB3 : Hid (Below w.heap.size w V3) := HB2.out.trans (hb3.mono HB2.out.size)
              clear hf2 hn2 hb3 hr2 HFo
              have HSv : Hid _ := survives_any fa sva pa ba n fc z svc c pc n bc first b Q E (zs R) V3 (HFd.out.1.later HB3.out) HFd.out.2.1 HFd.out.2.2 (HX.out.2.2.1.later HV3.out) HX.out.2.2.2.2.2.2.1 (by have := HF.out.2.2.2.1; have := HX.out.2.2.2.2.2.2.1; omega) (HX.out.2.2.2.1.later HV3.out) HX.out.2.2.2.2.2.2.2 (by have := HF.out.2.2.2.2.2; omega) (HX.out.2.1.later HV3.out) HX.out.2.2.2.2.1 HX.out.2.2.2.2.2.1
              go_wp2_with fail
              refine Calls.mono HSv.out ?_
              rintro e V4 ⟨s4, ok4, en4, rfl, hout, hb4⟩
              obtain ⟨h1, h2⟩ := hout.en0 HF.out.1 HX.out.2.2.2.2.1 ⟨b, HF.out.2.1, HF.out.2.2.1⟩
              have h3 := h2 fun j _ => okay_end HF.out.2.1 j
              subst h1
              subst h3
              have HV4 : Hid (Below V3.heap.size V3 V4) := hb4
              have HB4 : Hid (Below w.heap.size w V4) := HB3.out.trans (hb4.mono HB3.out.size)
              clear hout h2 hb4 HSv
              have HSa : Hid _ := same_rows (H3.out.2.later HV4.out) HX.out.2.2.2.2.1 (HX.out.2.1.later (HV3.out.trans (HV4.out.mono HV3.out.size))) HX.out.2.2.2.2.1
              have dbb : decide (b = b) = true := decide_eq_true rfl
              go_wp2_with fail
              refine Calls.mono HSa.out ?_
              rintro e V5 ⟨rfl, hb5⟩
              have HV5 : Hid (Below V2.heap.size V2 V5) := H3.out.1.trans ((HV4.out.trans (hb5.mono HV4.out.size)).mono H3.out.1.size)
              have HB5 : Hid (Below w.heap.size w V5) := HB4.out.trans (hb5.mono HB4.out.size)
              clear hb5 HSa
              have HNb : Hid (Calls Try.prog 21 #[.slice ya kk yc, .slice pa c pc] V5 fun e w' => e = .returned (.bool true) ∧ ∃ q, w' = V5.drewN q) := by
                obtain ⟨ks', h1, h2⟩ := HAl.out
                have h3 := HX.out.2.2.2.1.later (H2.out.1.trans (HV5.out.mono H2.out.1.size))
                have h4 : ks'.length = c := by have h9 := HX.out.2.2.2.2.2.2.2; rw [h1, List.length_map] at h9; exact h9
                rw [h1] at h3
                exact notBehind_any ya pa yc pc kk c ks ks' V5 H2.out.2.2.1 h4 (by have := H2.out.2.2.2.1; omega) (by have := HF.out.2.2.2.2.2; omega) (H2.out.2.1.later HV5.out) h3 (H2.out.2.2.2.2.least h2)
              go_wp2_with fail
              refine Calls.mono HNb.out ?_
              rintro e V6 ⟨rfl, q6, hq6⟩
              have HB6 : Hid (Below w.heap.size w V6) := by
                subst hq6
                exact HB5.out.trans ⟨rfl, rfl, rfl, Nat.le_refl _, fun _ _ => rfl⟩
              clear hq6
              go_wp2_with fail
              go_ret
              exact ⟨rfl, HB6.out⟩
end Go.Proofs.Ytjkoambfecmglaa
