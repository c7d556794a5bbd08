import Derived.Test.YtjikibhhhchgeaaDoorTLh
namespace Go.Proofs.YtjikibhhhchgeaaDoor
open Go.RowKit
set_option linter.unusedVariables false
set_option linter.unusedSimpArgs false
set_option maxRecDepth 100000
set_option maxHeartbeats 8000000 in
theorem wireThere_A (x : Bod) (w : World) (hx : x.ok w) (hT : Tabs w) (hTb : Tb w) (hsm : ∀ r ∈ x.res, r.1.length ≤ 140737488351232) (hcase : x.n6 = 0) :
    Calls Tryd.prog 4 #[.agg x.cells] w fun e w' => e = .returned (.bool true) ∧ Below w.heap.size w w' := by
  have HO : Hid (x.ok w) := hx
  have HCs : Hid (x.n6 = 0) := hcase
  clear hcase
  have HT : Hid (Tabs w) := hT
  have HTb : Hid (Tb w) := hTb
  have HSm : Hid (∀ r ∈ x.res, r.1.length ≤ 140737488351232) := hsm
  have HP : Hid (∀ W, Below w.heap.size w W → Calls Tryd.prog 7 #[.agg x.cells] W fun e w' => ∃ v l, e = .returned v ∧ Pks W w' v l ∧ l.map (fun r => (r.L, r.E)) = x.res) := fun W hb => packed_any x W (HO.out.later hb) (HT.out.later hb)
  have HNum : Hid (∀ (e : Int) (w : World), Calls Tryd.prog 12 #[.int .i64 e] w fun r w' => r = .returned (.int .i64 e) ∧ w' = w) := num_any
  clear hx hT hTb hsm
  have hxb := mkb1 w x.cells 48
  go_enter Tryd.func4, Tryd.ntmps4
  go_upto_region 1 with fail
  generalize w.alloc (Obj.cells x.cells 48) = W0 at *
  have HB0 : Hid (Bx1 w W0 x.cells 48) := hxb
  have HRg : Hid _ := rangeC hxb.a
  clear hxb
  go_wp2_with (refine wpList_load48 rfl _ rfl w.heap.size 0 rfl x.cells HRg.out rfl ?_)
  clear HRg
  refine Calls.mono (HP.out W0 HB0.out.bel) ?_
  rintro e W1 ⟨va, la, rfl, pa, ea⟩
  obtain ⟨gl, gc, rfl, HIt0⟩ := pa.items ea 9 rfl (by decide) HSm.out
  have HIt : Hid _ := HIt0
  have H1 : Hid (Below w.heap.size w W1 ∧ W1.heap[w.heap.size]? = some (.cells x.cells 48 (0, 0))) := ⟨HB0.out.bel.trans (pa.bel.mono HB0.out.bel.size), box_later HB0.out.a pa.bel⟩
  clear pa ea HIt0 HP HB0
  have HA2 : Hid ((rAskC x.s2 x.ks).2 = 0 → x.n2 ≤ 1048576) := fun h => by have := ask_len h; rw [HO.out.l2] at this; omega
  have HB6 : Hid (x.rs.length ≤ 1048576) := by show _ ≤ _; rw [HO.out.l6]; exact HO.out.b6
  have HC : Hid (Below W1.heap.size W1 W1) := Below.refl _ _
  obtain ⟨a0, n0, c0, it0⟩ := HIt.out 0 (rInfoC x.k x.sz x.fl x.s1 x.mn x.pf x.mx x.d1) rfl
  have HI0 : Hid (Itm W1 gl 0 (rInfoC x.k x.sz x.fl x.s1 x.mn x.pf x.mx x.d1) a0 n0 c0) := it0.later HC.out
  have y0 : W1.cell? ⟨gl, 0, none⟩ = some (.slice a0 n0 c0) := HI0.out.c0
  obtain ⟨E0, hE0⟩ : ∃ E, (rInfoC x.k x.sz x.fl x.s1 x.mn x.pf x.mx x.d1).2 = E := ⟨_, rfl⟩
  have HTt : Tabs W1 := HT.out.later (H1.out.1.trans (HC.out.mono H1.out.1.size))
  have hz := fun W' (hb : Below W1.heap.size W1 W') => th_info x.k x.sz x.fl x.s1 x.mn x.pf x.mx x.d1 HO.out.hk HO.out.hsz HO.out.hfl HO.out.hmn HO.out.hpf HO.out.hmx a0 c0 n0 W' (HI0.out.row.later hb) HI0.out.len (HTt.later hb)
  rw [hE0] at hz
  have HZ : Hid _ := hz
  have y1 := HI0.out.c1
  rw [hE0] at y1
  have HY1 : Hid (W1.cell? ⟨gl, 1, none⟩ = some (.int .i64 (E0 : Int))) := y1
  clear it0 HI0 hz HTt y1 hE0
  go_wp2_with fail
  refine Calls.mono (HZ.out W1 (Below.refl _ _)) ?_
  rintro e W2 ⟨k', sz', fl', s', mn', pf', mx', da, dn, dc, d', er, rfl, hd, hrow, hb2, hth⟩
  have HC2 : Hid (Below W1.heap.size W1 W2) := HC.out.trans (hb2.mono HC.out.size)
  have HY2 : Hid (W2.cell? ⟨gl, 1, none⟩ = some (.int .i64 (E0 : Int))) := cell_later hb2 HY1.out
  clear y0 HZ HY1 HC hb2
  go_upto_region 3 with fail
  have HR : Hid (BRow (W2.alloc (Obj.cells #[.int .u16 (k' : Int), .int .u64 (sz' : Int), .int .u16 (fl' : Int), .string s', .int .u32 (mn' : Int), .int .u32 (pf' : Int), .int .u32 (mx' : Int), .slice da dn dc] 27)) da dc d' ∧ d'.length = dn) := ⟨hrow.later (below1 _ _), hd⟩
  have HTh : Hid _ := hth
  have hbx := heap_new W2 (Obj.cells #[.int .u16 (k' : Int), .int .u64 (sz' : Int), .int .u16 (fl' : Int), .string s', .int .u32 (mn' : Int), .int .u32 (pf' : Int), .int .u32 (mx' : Int), .slice da dn dc] 27)
  have HC3 : Hid (Below W1.heap.size W1 (W2.alloc (Obj.cells #[.int .u16 (k' : Int), .int .u64 (sz' : Int), .int .u16 (fl' : Int), .string s', .int .u32 (mn' : Int), .int .u32 (pf' : Int), .int .u32 (mx' : Int), .slice da dn dc] 27))) := HC2.out.trans ((below1 W2 _).mono HC2.out.size)
  have y1 := cell_later (below1 W2 (Obj.cells #[.int .u16 (k' : Int), .int .u64 (sz' : Int), .int .u16 (fl' : Int), .string s', .int .u32 (mn' : Int), .int .u32 (pf' : Int), .int .u32 (mx' : Int), .slice da dn dc] 27)) HY2.out
  clear HC2 HY2
  generalize W2.alloc (Obj.cells #[.int .u16 (k' : Int), .int .u64 (sz' : Int), .int .u16 (fl' : Int), .string s', .int .u32 (mn' : Int), .int .u32 (pf' : Int), .int .u32 (mx' : Int), .slice da dn dc] 27) = W3 at *
  generalize W2.heap.size = ge at *
  clear hth hrow hd
  have HB3 : Hid (W3.heap[ge]? = some (.cells #[.int .u16 (k' : Int), .int .u64 (sz' : Int), .int .u16 (fl' : Int), .string s', .int .u32 (mn' : Int), .int .u32 (pf' : Int), .int .u32 (mx' : Int), .slice da dn dc] 27 (0, 0))) := hbx
  clear hbx
  have HB : Hid (Below w.heap.size w W3) := H1.out.1.trans (HC3.out.mono H1.out.1.size)
  have HBX : Hid (W3.heap[w.heap.size]? = some (.cells x.cells 48 (0, 0))) := box_later H1.out.2 HC3.out
  go_cut [40] from 24 to 40 (fun v wc => v = .bool false ∧ Hid (Below W1.heap.size W1 wc))
  case first =>
    as_aux_lemma =>
    by_cases hE : E0 = 0
    · obtain ⟨rfl, rfl, rfl, rfl, rfl, rfl, rfl, rfl, rfl⟩ := HTh.out hE
      subst hE
      have x0 : W3.cell? ⟨w.heap.size, 0, none⟩ = some (.int .u16 (x.k : Int)) := (blk_at HBX.out 0).trans rfl
      have x1 : W3.cell? ⟨w.heap.size, 1, none⟩ = some (.int .u64 (x.sz : Int)) := (blk_at HBX.out 1).trans rfl
      have x2 : W3.cell? ⟨w.heap.size, 2, none⟩ = some (.int .u16 (x.fl : Int)) := (blk_at HBX.out 2).trans rfl
      have x3 : W3.cell? ⟨w.heap.size, 3, none⟩ = some (.string x.s1) := (blk_at HBX.out 3).trans rfl
      have x4 : W3.cell? ⟨w.heap.size, 4, none⟩ = some (.int .u32 (x.mn : Int)) := (blk_at HBX.out 4).trans rfl
      have x5 : W3.cell? ⟨w.heap.size, 5, none⟩ = some (.int .u32 (x.pf : Int)) := (blk_at HBX.out 5).trans rfl
      have x6 : W3.cell? ⟨w.heap.size, 6, none⟩ = some (.int .u32 (x.mx : Int)) := (blk_at HBX.out 6).trans rfl
      have x7 : W3.cell? ⟨w.heap.size, 7, none⟩ = some (.slice x.a1 x.n1 x.c1) := (blk_at HBX.out 7).trans rfl
      have z0 := blk_at HB3.out 0
      have z1 := blk_at HB3.out 1
      have z2 := blk_at HB3.out 2
      have z3 := blk_at HB3.out 3
      have z4 := blk_at HB3.out 4
      have z5 := blk_at HB3.out 5
      have z6 := blk_at HB3.out 6
      have z7 := blk_at HB3.out 7
      simp at z0 z1 z2 z3 z4 z5 z6 z7
      go_wp2_with fail
      refine Calls.mono (HNum.out _ _) ?_
      rintro e W4 ⟨rfl, hw⟩
      rw [hw]; clear hw
      go_wp2_with fail
      refine Calls.mono (sameInfo_any x.k x.sz x.fl x.s1 x.mn x.pf x.mx da dn dc x.d1 x.sz x.fl x.s1 x.mn x.pf x.mx x.a1 x.n1 x.c1 x.d1 true true true true true true W3 HR.out.1 HR.out.2 (HO.out.r1.later HB.out) HO.out.l1 (by simp) (by simp) (by simp) (by simp) (by simp) (by simp)) ?_
      rintro e W4 ⟨rfl, hb4⟩
      have HC4 : Hid (Below W1.heap.size W1 W4) := HC3.out.trans (hb4.mono HC3.out.size)
      clear hb4
      go_wp2
      go_meet
      exact ⟨by simp, HC4.out⟩
    · have f0 := eraw E0 hE
      go_wp2
      go_meet
      exact ⟨rfl, HC3.out⟩
  case rest =>
  obtain ⟨rfl, HC9⟩ := hcut
  have HC : Hid (Below W1.heap.size W1 wc) := HC9.out
  clear HB HBX HB3 HC3 HR HTh y1 HC9
  obtain ⟨a1, n1, c1, it1⟩ := HIt.out 1 (rAskC x.s2 x.ks) rfl
  have HI1 : Hid (Itm wc gl 1 (rAskC x.s2 x.ks) a1 n1 c1) := it1.later HC.out
  have y0 : wc.cell? ⟨gl, 2, none⟩ = some (.slice a1 n1 c1) := HI1.out.c0
  obtain ⟨E1, hE1⟩ : ∃ E, (rAskC x.s2 x.ks).2 = E := ⟨_, rfl⟩
  have HTt : Tabs wc := HT.out.later (H1.out.1.trans (HC.out.mono H1.out.1.size))
  have hz := fun W' (hb : Below wc.heap.size wc W') => th_ask x.s2 x.ks HO.out.r2.lt a1 c1 n1 W' (HI1.out.row.later hb) HI1.out.len (HTt.later hb)
  rw [hE1] at hz
  have HZ : Hid _ := hz
  have y1 := HI1.out.c1
  rw [hE1] at y1
  have HY1 : Hid (wc.cell? ⟨gl, 3, none⟩ = some (.int .i64 (E1 : Int))) := y1
  have HE1 : Hid ((rAskC x.s2 x.ks).2 = E1) := hE1
  clear it1 HI1 hz HTt y1 hE1
  go_wp2_with fail
  refine Calls.mono (HZ.out wc (Below.refl _ _)) ?_
  rintro e W2 ⟨s', ia, m, ic, ks', er, rfl, hd, hrow, hb2, hth⟩
  have HC2 : Hid (Below W1.heap.size W1 W2) := HC.out.trans (hb2.mono HC.out.size)
  have HY2 : Hid (W2.cell? ⟨gl, 3, none⟩ = some (.int .i64 (E1 : Int))) := cell_later hb2 HY1.out
  clear y0 HZ HY1 HC hb2
  go_upto_region 6 with fail
  have HR : Hid (U16s (W2.alloc (Obj.cells #[.string s', .slice ia m ic] 30)) ia ks' ∧ ks'.length = m) := ⟨hrow.later (below1 _ _), hd⟩
  have HTh : Hid _ := hth
  have hbx := heap_new W2 (Obj.cells #[.string s', .slice ia m ic] 30)
  have HC3 : Hid (Below W1.heap.size W1 (W2.alloc (Obj.cells #[.string s', .slice ia m ic] 30))) := HC2.out.trans ((below1 W2 _).mono HC2.out.size)
  have y1 := cell_later (below1 W2 (Obj.cells #[.string s', .slice ia m ic] 30)) HY2.out
  clear HC2 HY2
  generalize W2.alloc (Obj.cells #[.string s', .slice ia m ic] 30) = W3 at *
  generalize W2.heap.size = ge at *
  clear hth hrow hd
  have HB3 : Hid (W3.heap[ge]? = some (.cells #[.string s', .slice ia m ic] 30 (0, 0))) := hbx
  clear hbx
  have HB : Hid (Below w.heap.size w W3) := H1.out.1.trans (HC3.out.mono H1.out.1.size)
  have HBX : Hid (W3.heap[w.heap.size]? = some (.cells x.cells 48 (0, 0))) := box_later H1.out.2 HC3.out
  go_cut [75] from 49 to 75 (fun v wc => v = .bool false ∧ Hid (Below W1.heap.size W1 wc))
  case first =>
    as_aux_lemma =>
    by_cases hE : E1 = 0
    · obtain ⟨rfl, rfl, rfl⟩ := HTh.out hE
      subst hE
      have hmm : m = x.n2 := HR.out.2.symm.trans HO.out.l2
      subst hmm
      have x8 : W3.cell? ⟨w.heap.size, 8, none⟩ = some (.string x.s2) := (blk_at HBX.out 8).trans rfl
      have x9 : W3.cell? ⟨w.heap.size, 9, none⟩ = some (.slice x.a2 x.n2 x.c2) := (blk_at HBX.out 9).trans rfl
      have z0 := blk_at HB3.out 0
      have z1 := blk_at HB3.out 1
      simp at z0 z1
      go_wp2_with fail
      refine Calls.mono (HNum.out _ _) ?_
      rintro e W4 ⟨rfl, hw⟩
      rw [hw]; clear hw
      go_wp2_with fail
      refine Calls.mono (kinds16_eq ia x.a2 x.n2 ic x.c2 x.ks W3 HR.out.1 (HO.out.r2.later HB.out) HO.out.l2 (HA2.out HE1.out)) ?_
      rintro e W4 ⟨rfl, hb4⟩
      have HC4 : Hid (Below W1.heap.size W1 W4) := HC3.out.trans (hb4.mono HC3.out.size)
      clear hb4
      go_wp2
      go_meet
      exact ⟨rfl, HC4.out⟩
    · have f0 := eraw E1 hE
      go_wp2
      go_meet
      exact ⟨rfl, HC3.out⟩
  case rest =>
  obtain ⟨rfl, HC9⟩ := hcut
  have HC : Hid (Below W1.heap.size W1 wc) := HC9.out
  clear HB HBX HB3 HC3 HR HTh y1 HC9
  obtain ⟨a2, n2, c2, it2⟩ := HIt.out 2 (rMetasC x.s3 x.qs) rfl
  have HI2 : Hid (Itm wc gl 2 (rMetasC x.s3 x.qs) a2 n2 c2) := it2.later HC.out
  have y0 : wc.cell? ⟨gl, 4, none⟩ = some (.slice a2 n2 c2) := HI2.out.c0
  obtain ⟨E2, hE2⟩ : ∃ E, (rMetasC x.s3 x.qs).2 = E := ⟨_, rfl⟩
  have HTt : Tabs wc := HT.out.later (H1.out.1.trans (HC.out.mono H1.out.1.size))
  have hz := fun W' (hb : Below wc.heap.size wc W') => th_metas x.s3 x.qs a2 c2 n2 W' (HI2.out.row.later hb) HI2.out.len (HTt.later hb)
  rw [hE2] at hz
  have HZ : Hid _ := hz
  have y1 := HI2.out.c1
  rw [hE2] at y1
  have HY1 : Hid (wc.cell? ⟨gl, 5, none⟩ = some (.int .i64 (E2 : Int))) := y1
  clear it2 HI2 hz HTt y1 hE2
  go_wp2_with fail
  refine Calls.mono (HZ.out wc (Below.refl _ _)) ?_
  rintro e W2 ⟨s', ia, m, ic, qs', er, rfl, hd, hrow, hb2, hth⟩
  have HC2 : Hid (Below W1.heap.size W1 W2) := HC.out.trans (hb2.mono HC.out.size)
  have HY2 : Hid (W2.cell? ⟨gl, 5, none⟩ = some (.int .i64 (E2 : Int))) := cell_later hb2 HY1.out
  clear y0 HZ HY1 HC hb2
  go_upto_region 9 with fail
  have HR : Hid (Strs (W2.alloc (Obj.cells #[.string s', .slice ia m ic] 33)) ia qs' ∧ qs'.length = m) := ⟨hrow.later (below1 _ _), hd⟩
  have HTh : Hid _ := hth
  have hbx := heap_new W2 (Obj.cells #[.string s', .slice ia m ic] 33)
  have HC3 : Hid (Below W1.heap.size W1 (W2.alloc (Obj.cells #[.string s', .slice ia m ic] 33))) := HC2.out.trans ((below1 W2 _).mono HC2.out.size)
  have y1 := cell_later (below1 W2 (Obj.cells #[.string s', .slice ia m ic] 33)) HY2.out
  clear HC2 HY2
  generalize W2.alloc (Obj.cells #[.string s', .slice ia m ic] 33) = W3 at *
  generalize W2.heap.size = ge at *
  clear hth hrow hd
  have HB3 : Hid (W3.heap[ge]? = some (.cells #[.string s', .slice ia m ic] 33 (0, 0))) := hbx
  clear hbx
  have HB : Hid (Below w.heap.size w W3) := H1.out.1.trans (HC3.out.mono H1.out.1.size)
  have HBX : Hid (W3.heap[w.heap.size]? = some (.cells x.cells 48 (0, 0))) := box_later H1.out.2 HC3.out
  go_cut [110] from 84 to 110 (fun v wc => v = .bool false ∧ Hid (Below W1.heap.size W1 wc))
  case first =>
    as_aux_lemma =>
    by_cases hE : E2 = 0
    · obtain ⟨rfl, rfl, rfl⟩ := HTh.out hE
      subst hE
      have hmm : m = x.n3 := HR.out.2.symm.trans HO.out.l3
      subst hmm
      have x10 : W3.cell? ⟨w.heap.size, 10, none⟩ = some (.string x.s3) := (blk_at HBX.out 10).trans rfl
      have x11 : W3.cell? ⟨w.heap.size, 11, none⟩ = some (.slice x.a3 x.n3 x.c3) := (blk_at HBX.out 11).trans rfl
      have z0 := blk_at HB3.out 0
      have z1 := blk_at HB3.out 1
      simp at z0 z1
      go_wp2_with fail
      refine Calls.mono (HNum.out _ _) ?_
      rintro e W4 ⟨rfl, hw⟩
      rw [hw]; clear hw
      go_wp2_with fail
      refine Calls.mono (texts_eq ia x.a3 x.n3 ic x.c3 x.qs W3 HR.out.1 (HO.out.r3.later HB.out) HO.out.l3 HO.out.b3) ?_
      rintro e W4 ⟨rfl, hb4⟩
      have HC4 : Hid (Below W1.heap.size W1 W4) := HC3.out.trans (hb4.mono HC3.out.size)
      clear hb4
      go_wp2
      go_meet
      exact ⟨rfl, HC4.out⟩
    · have f0 := eraw E2 hE
      go_wp2
      go_meet
      exact ⟨rfl, HC3.out⟩
  case rest =>
  obtain ⟨rfl, HC9⟩ := hcut
  have HC : Hid (Below W1.heap.size W1 wc) := HC9.out
  clear HB HBX HB3 HC3 HR HTh y1 HC9
  obtain ⟨a3, n3, c3, it3⟩ := HIt.out 3 (rMetaC x.mc x.s4) rfl
  have HI3 : Hid (Itm wc gl 3 (rMetaC x.mc x.s4) a3 n3 c3) := it3.later HC.out
  have y0 : wc.cell? ⟨gl, 6, none⟩ = some (.slice a3 n3 c3) := HI3.out.c0
  obtain ⟨E3, hE3⟩ : ∃ E, (rMetaC x.mc x.s4).2 = E := ⟨_, rfl⟩
  have HTt : Tabs wc := HT.out.later (H1.out.1.trans (HC.out.mono H1.out.1.size))
  have hz := fun W' (hb : Below wc.heap.size wc W') => th_meta x.mc x.s4 HO.out.hmc a3 c3 n3 W' (HI3.out.row.later hb) HI3.out.len (HTt.later hb)
  rw [hE3] at hz
  have HZ : Hid _ := hz
  have y1 := HI3.out.c1
  rw [hE3] at y1
  have HY1 : Hid (wc.cell? ⟨gl, 7, none⟩ = some (.int .i64 (E3 : Int))) := y1
  clear it3 HI3 hz HTt y1 hE3
  go_wp2_with fail
  refine Calls.mono (HZ.out wc (Below.refl _ _)) ?_
  rintro e W2 ⟨c', s', er, rfl, hb2, hth⟩
  have HC2 : Hid (Below W1.heap.size W1 W2) := HC.out.trans (hb2.mono HC.out.size)
  have HY2 : Hid (W2.cell? ⟨gl, 7, none⟩ = some (.int .i64 (E3 : Int))) := cell_later hb2 HY1.out
  clear y0 HZ HY1 HC hb2
  go_upto_region 12 with fail
  have HR : Hid (True ∧ True) := ⟨trivial, trivial⟩
  have HTh : Hid _ := hth
  have hbx := heap_new W2 (Obj.cells #[.int .u32 (c' : Int), .string s'] 35)
  have HC3 : Hid (Below W1.heap.size W1 (W2.alloc (Obj.cells #[.int .u32 (c' : Int), .string s'] 35))) := HC2.out.trans ((below1 W2 _).mono HC2.out.size)
  have y1 := cell_later (below1 W2 (Obj.cells #[.int .u32 (c' : Int), .string s'] 35)) HY2.out
  clear HC2 HY2
  generalize W2.alloc (Obj.cells #[.int .u32 (c' : Int), .string s'] 35) = W3 at *
  generalize W2.heap.size = ge at *
  clear hth 
  have HB3 : Hid (W3.heap[ge]? = some (.cells #[.int .u32 (c' : Int), .string s'] 35 (0, 0))) := hbx
  clear hbx
  have HB : Hid (Below w.heap.size w W3) := H1.out.1.trans (HC3.out.mono H1.out.1.size)
  have HBX : Hid (W3.heap[w.heap.size]? = some (.cells x.cells 48 (0, 0))) := box_later H1.out.2 HC3.out
  go_cut [134] from 119 to 134 (fun v wc => v = .bool false ∧ Hid (Below W1.heap.size W1 wc))
  case first =>
    as_aux_lemma =>
    by_cases hE : E3 = 0
    · obtain ⟨rfl, rfl, rfl⟩ := HTh.out hE
      subst hE
      have x12 : W3.cell? ⟨w.heap.size, 12, none⟩ = some (.int .u32 (x.mc : Int)) := (blk_at HBX.out 12).trans rfl
      have x13 : W3.cell? ⟨w.heap.size, 13, none⟩ = some (.string x.s4) := (blk_at HBX.out 13).trans rfl
      have z0 := blk_at HB3.out 0
      have z1 := blk_at HB3.out 1
      simp at z0 z1
      go_wp2_with fail
      refine Calls.mono (HNum.out _ _) ?_
      rintro e W4 ⟨rfl, hw⟩
      rw [hw]; clear hw
      go_wp2
      go_meet
      exact ⟨by simp, HC3.out⟩
    · have f0 := eraw E3 hE
      go_wp2
      go_meet
      exact ⟨rfl, HC3.out⟩
  case rest =>
  obtain ⟨rfl, HC9⟩ := hcut
  have HC : Hid (Below W1.heap.size W1 wc) := HC9.out
  clear HB HBX HB3 HC3 HR HTh y1 HC9
  obtain ⟨a4, n4, c4, it4⟩ := HIt.out 4 (rServerC x.s5 x.m5) rfl
  have HI4 : Hid (Itm wc gl 4 (rServerC x.s5 x.m5) a4 n4 c4) := it4.later HC.out
  have y0 : wc.cell? ⟨gl, 8, none⟩ = some (.slice a4 n4 c4) := HI4.out.c0
  obtain ⟨E4, hE4⟩ : ∃ E, (rServerC x.s5 x.m5).2 = E := ⟨_, rfl⟩
  have HTt : Tabs wc := HT.out.later (H1.out.1.trans (HC.out.mono H1.out.1.size))
  have hz := fun W' (hb : Below wc.heap.size wc W') => th_server x.s5 x.m5 a4 c4 n4 W' (HI4.out.row.later hb) HI4.out.len (HTt.later hb)
  rw [hE4] at hz
  have HZ : Hid _ := hz
  have y1 := HI4.out.c1
  rw [hE4] at y1
  have HY1 : Hid (wc.cell? ⟨gl, 9, none⟩ = some (.int .i64 (E4 : Int))) := y1
  clear it4 HI4 hz HTt y1 hE4
  go_wp2_with fail
  refine Calls.mono (HZ.out wc (Below.refl _ _)) ?_
  rintro e W2 ⟨s', da, dn, dc, m', er, rfl, hd, hrow, hb2, hth⟩
  have HC2 : Hid (Below W1.heap.size W1 W2) := HC.out.trans (hb2.mono HC.out.size)
  have HY2 : Hid (W2.cell? ⟨gl, 9, none⟩ = some (.int .i64 (E4 : Int))) := cell_later hb2 HY1.out
  clear y0 HZ HY1 HC hb2
  go_upto_region 15 with fail
  have HR : Hid (BRow (W2.alloc (Obj.cells #[.string s', .slice da dn dc] 37)) da dc m' ∧ m'.length = dn) := ⟨hrow.later (below1 _ _), hd⟩
  have HTh : Hid _ := hth
  have hbx := heap_new W2 (Obj.cells #[.string s', .slice da dn dc] 37)
  have HC3 : Hid (Below W1.heap.size W1 (W2.alloc (Obj.cells #[.string s', .slice da dn dc] 37))) := HC2.out.trans ((below1 W2 _).mono HC2.out.size)
  have y1 := cell_later (below1 W2 (Obj.cells #[.string s', .slice da dn dc] 37)) HY2.out
  clear HC2 HY2
  generalize W2.alloc (Obj.cells #[.string s', .slice da dn dc] 37) = W3 at *
  generalize W2.heap.size = ge at *
  clear hth hrow hd
  have HB3 : Hid (W3.heap[ge]? = some (.cells #[.string s', .slice da dn dc] 37 (0, 0))) := hbx
  clear hbx
  have HB : Hid (Below w.heap.size w W3) := H1.out.1.trans (HC3.out.mono H1.out.1.size)
  have HBX : Hid (W3.heap[w.heap.size]? = some (.cells x.cells 48 (0, 0))) := box_later H1.out.2 HC3.out
  go_cut [169] from 143 to 169 (fun v wc => v = .bool false ∧ Hid (Below W1.heap.size W1 wc))
  case first =>
    as_aux_lemma =>
    by_cases hE : E4 = 0
    · obtain ⟨rfl, rfl, rfl⟩ := HTh.out hE
      subst hE
      have hmm : dn = x.n5 := HR.out.2.symm.trans HO.out.l5
      subst hmm
      have x14 : W3.cell? ⟨w.heap.size, 14, none⟩ = some (.string x.s5) := (blk_at HBX.out 14).trans rfl
      have x15 : W3.cell? ⟨w.heap.size, 15, none⟩ = some (.slice x.a5 x.n5 x.c5) := (blk_at HBX.out 15).trans rfl
      have z0 := blk_at HB3.out 0
      have z1 := blk_at HB3.out 1
      simp at z0 z1
      go_wp2_with fail
      refine Calls.mono (HNum.out _ _) ?_
      rintro e W4 ⟨rfl, hw⟩
      rw [hw]; clear hw
      go_wp2_with fail
      refine Calls.mono (same9 da x.a5 dc x.c5 x.n5 x.m5 W3 HR.out.1 (HO.out.r5.later HB.out) HO.out.l5) ?_
      rintro e W4 ⟨rfl, hb4⟩
      have HC4 : Hid (Below W1.heap.size W1 W4) := HC3.out.trans (hb4.mono HC3.out.size)
      clear hb4
      go_wp2
      go_meet
      exact ⟨rfl, HC4.out⟩
    · have f0 := eraw E4 hE
      go_wp2
      go_meet
      exact ⟨rfl, HC3.out⟩
  case rest =>
  obtain ⟨rfl, HC9⟩ := hcut
  have HC : Hid (Below W1.heap.size W1 wc) := HC9.out
  clear HB HBX HB3 HC3 HR HTh y1 HC9
  obtain ⟨a5, n5, c5, it5⟩ := HIt.out 5 (rStatusC x.wide x.cx x.rs) rfl
  have HI5 : Hid (Itm wc gl 5 (rStatusC x.wide x.cx x.rs) a5 n5 c5) := it5.later HC.out
  have y0 : wc.cell? ⟨gl, 10, none⟩ = some (.slice a5 n5 c5) := HI5.out.c0
  obtain ⟨E5, hE5⟩ : ∃ E, (rStatusC x.wide x.cx x.rs).2 = E := ⟨_, rfl⟩
  have HTt : Tabs wc := HT.out.later (H1.out.1.trans (HC.out.mono H1.out.1.size))
  have hz := fun W' (hb : Below wc.heap.size wc W') => th_status x.wide x.cx x.rs HO.out.hcx HO.out.r6.lt HB6.out a5 c5 n5 W' (HI5.out.row.later hb) HI5.out.len
  rw [hE5] at hz
  have HZ : Hid _ := hz
  have y1 := HI5.out.c1
  rw [hE5] at y1
  have HY1 : Hid (wc.cell? ⟨gl, 11, none⟩ = some (.int .i64 (E5 : Int))) := y1
  clear it5 HI5 hz HTt y1 hE5
  have HBq : Hid (wc.heap[w.heap.size]? = some (.cells x.cells 48 (0, 0))) := box_later H1.out.2 HC.out
  have y9 : wc.cell? ⟨w.heap.size, 18, none⟩ = some (.bool x.wide) := (blk_at HBq.out 18).trans rfl
  clear HBq
  go_upto_region 17 with fail
  go_cut [10, 5] from 170 to 179 (fun vb ve W3 => ∃ (cx' : Nat) (ra : Option Addr) (rn rc : Nat) (rs' : List (Nat × Nat)) (er : Nat) (ge : Nat), vb = .pointer (some ⟨ge, 0, none⟩) ∧ ve = .int .i64 ((er : Nat) : Int) ∧ Hid (Below W1.heap.size W1 W3 ∧ W3.heap[ge]? = some (.cells #[.int .u32 (cx' : Int), .slice ra rn rc] 40 (0, 0)) ∧ (Runs W3 ra rs' ∧ rs'.length = rn) ∧ (E5 = 0 → er = 0 ∧ cx' = x.cx ∧ rs' = x.rs) ∧ W3.cell? ⟨gl, 11, none⟩ = some (.int .i64 (E5 : Int))))
  case first =>
    have HBA : Hid (Below wc.heap.size wc (wc.alloc (Obj.cells #[.int .u32 0, .slice none 0 0] 40)).drew) := (below1 wc _).trans ((below_drewN _ 1).mono (below1 wc _).size)
    have HAX : Hid ((wc.alloc (Obj.cells #[.int .u32 0, .slice none 0 0] 40)).drew.heap[wc.heap.size]? = some (.cells #[.int .u32 0, .slice none 0 0] 40 (0, 0))) := heap_new wc _
    have HSz : Hid (W1.heap.size ≤ wc.heap.size) := HC.out.size
    have y9a : ∀ o, (wc.alloc o).cell? ⟨w.heap.size, 18, none⟩ = some (.bool x.wide) := fun o => cell_later (below1 wc o) y9
    have y0a : ∀ o, (wc.alloc o).cell? ⟨gl, 10, none⟩ = some (.slice a5 n5 c5) := fun o => cell_later (below1 wc o) y0
    go_region_law (first | (go_simp; go_at_call 20; refine Calls.mono (HZ.out _ (below_drewN _ 1)) ?_; rintro e W2 ⟨cx', ra, rn, rc, rs', er, rfl, hd, hrow, hb2, hth⟩; have HF2 : Hid _ := hb2; dsimp only) | (go_simp; go_at_call 20; refine Calls.mono (HZ.out _ HBA.out) ?_; rintro e W2 ⟨cx', ra, rn, rc, rs', er, rfl, hd, hrow, hb2, hth⟩; have HQ : Hid _ := box_later HAX.out hb2; have zc0 := blk_at HQ.out 0; have zf0 := blk_free HQ.out 0; have zc1 := blk_at HQ.out 1; have zf1 := blk_free HQ.out 1; dsimp only))
    all_goals go_wp2
    all_goals go_meet
    all_goals first
      | exact ⟨cx', ra, rn, rc, rs', er, _, rfl, rfl, (HC.out.trans ((below_drewN _ 1).mono HC.out.size)).trans ((hb2.trans ((below1 W2 _).mono hb2.size)).mono (Nat.le_trans HC.out.size (below_drewN _ 1).size)), heap_new W2 _, ⟨hrow.later (below1 _ _), hd⟩, hth, cell_later ((below_drewN _ 1).trans ((hb2.trans ((below1 W2 _).mono hb2.size)).mono (below_drewN _ 1).size)) HY1.out⟩
      | (obtain ⟨hp, hq⟩ := putc2 HQ.out (.int .u32 (cx' : Int)) (.slice ra rn rc)
         have hB2 : Below wc.heap.size wc W2 := HBA.out.trans (hb2.mono HBA.out.size)
         have hB3 := hB2.trans (hq.below hB2.size (fun g hg e => by omega))
         exact ⟨cx', ra, rn, rc, rs', er, _, rfl, rfl, HC.out.trans (hB3.mono HC.out.size), hp, ⟨hrow.kept HQ.out (by simp) (by simp) hq, hd⟩, hth, cell_later hB3 HY1.out⟩)
  case rest =>
  obtain ⟨cx', ra, rn, rc, rs', er, ge, rfl, rfl, HK⟩ := hcut
  have HR : Hid (Runs wc ra rs' ∧ rs'.length = rn) := HK.out.2.2.1
  have HTh : Hid _ := HK.out.2.2.2.1
  have HB3 : Hid (wc.heap[ge]? = some (.cells #[.int .u32 (cx' : Int), .slice ra rn rc] 40 (0, 0))) := HK.out.2.1
  have y1 := HK.out.2.2.2.2
  have HC3 : Hid (Below W1.heap.size W1 wc) := HK.out.1
  clear HK y0 HZ HY1 HC
  go_upto_region 18 with fail
  have HB : Hid (Below w.heap.size w wc) := H1.out.1.trans (HC3.out.mono H1.out.1.size)
  have HBX : Hid (wc.heap[w.heap.size]? = some (.cells x.cells 48 (0, 0))) := box_later H1.out.2 HC3.out
  go_cut [206] from 180 to 206 (fun v wc => v = .bool false ∧ Hid (Below W1.heap.size W1 wc))
  case first =>
    as_aux_lemma =>
    by_cases hE : E5 = 0
    · obtain ⟨rfl, rfl, rfl⟩ := HTh.out hE
      subst hE
      have hmm : rn = x.n6 := HR.out.2.symm.trans HO.out.l6
      subst hmm
      have x16 : wc.cell? ⟨w.heap.size, 16, none⟩ = some (.int .u32 (x.cx : Int)) := (blk_at HBX.out 16).trans rfl
      have x17 : wc.cell? ⟨w.heap.size, 17, none⟩ = some (.slice x.a6 x.n6 x.c6) := (blk_at HBX.out 17).trans rfl
      have z0 := blk_at HB3.out 0
      have z1 := blk_at HB3.out 1
      simp at z0 z1
      go_wp2_with fail
      refine Calls.mono (HNum.out _ _) ?_
      rintro e W4 ⟨rfl, hw⟩
      rw [hw]; clear hw
      go_wp2_with fail
      refine Calls.mono (runs_eq ra x.a6 x.n6 rc x.c6 x.rs wc HR.out.1 (HO.out.r6.later HB.out) HO.out.l6 HO.out.b6) ?_
      rintro e W4 ⟨rfl, hb4⟩
      have HC4 : Hid (Below W1.heap.size W1 W4) := HC3.out.trans (hb4.mono HC3.out.size)
      clear hb4
      go_wp2
      go_meet
      exact ⟨rfl, HC4.out⟩
    · have f0 := eraw E5 hE
      go_wp2
      go_meet
      exact ⟨rfl, HC3.out⟩
  case rest =>
  obtain ⟨rfl, HC9⟩ := hcut
  have HC : Hid (Below W1.heap.size W1 wc) := HC9.out
  clear HB HBX HB3 HC3 HR HTh y1 HC9
  obtain ⟨a6, n6, c6, it6⟩ := HIt.out 6 (rErrorC x.ec x.s7 x.pl x.ea) rfl
  have HI6 : Hid (Itm wc gl 6 (rErrorC x.ec x.s7 x.pl x.ea) a6 n6 c6) := it6.later HC.out
  have y0 : wc.cell? ⟨gl, 12, none⟩ = some (.slice a6 n6 c6) := HI6.out.c0
  obtain ⟨E6, hE6⟩ : ∃ E, (rErrorC x.ec x.s7 x.pl x.ea).2 = E := ⟨_, rfl⟩
  have HTt : Tabs wc := HT.out.later (H1.out.1.trans (HC.out.mono H1.out.1.size))
  have hz := fun W' (hb : Below wc.heap.size wc W') => th_error x.ec x.s7 x.pl x.ea HO.out.hec HO.out.hea a6 c6 n6 W' (HI6.out.row.later hb) HI6.out.len (HTt.later hb)
  rw [hE6] at hz
  have HZ : Hid _ := hz
  have y1 := HI6.out.c1
  rw [hE6] at y1
  have HY1 : Hid (wc.cell? ⟨gl, 13, none⟩ = some (.int .i64 (E6 : Int))) := y1
  clear it6 HI6 hz HTt y1 hE6
  have HBq : Hid (wc.heap[w.heap.size]? = some (.cells x.cells 48 (0, 0))) := box_later H1.out.2 HC.out
  have y9 : wc.cell? ⟨w.heap.size, 21, none⟩ = some (.bool x.pl) := (blk_at HBq.out 21).trans rfl
  clear HBq
  go_upto_region 20 with fail
  go_cut [11, 5] from 207 to 217 (fun vb ve W3 => ∃ (c' : Nat) (s' : ByteArray) (pl' : Bool) (a' er : Nat) (ge : Nat), vb = .pointer (some ⟨ge, 0, none⟩) ∧ ve = .int .i64 ((er : Nat) : Int) ∧ Hid (Below W1.heap.size W1 W3 ∧ W3.heap[ge]? = some (.cells #[.int .u32 (c' : Int), .string s', .bool pl', .int .u64 (a' : Int)] 42 (0, 0)) ∧ (True ∧ True) ∧ (E6 = 0 → er = 0 ∧ c' = x.ec ∧ s' = x.s7 ∧ pl' = x.pl ∧ a' = x.ea) ∧ W3.cell? ⟨gl, 13, none⟩ = some (.int .i64 (E6 : Int))))
  case first =>
    have HBA : Hid (Below wc.heap.size wc (wc.alloc (Obj.cells #[.int .u32 0, .string ⟨#[]⟩, .bool false, .int .u64 0] 42)).drew) := (below1 wc _).trans ((below_drewN _ 1).mono (below1 wc _).size)
    have HAX : Hid ((wc.alloc (Obj.cells #[.int .u32 0, .string ⟨#[]⟩, .bool false, .int .u64 0] 42)).drew.heap[wc.heap.size]? = some (.cells #[.int .u32 0, .string ⟨#[]⟩, .bool false, .int .u64 0] 42 (0, 0))) := heap_new wc _
    have HSz : Hid (W1.heap.size ≤ wc.heap.size) := HC.out.size
    have y9a : ∀ o, (wc.alloc o).cell? ⟨w.heap.size, 21, none⟩ = some (.bool x.pl) := fun o => cell_later (below1 wc o) y9
    have y0a : ∀ o, (wc.alloc o).cell? ⟨gl, 12, none⟩ = some (.slice a6 n6 c6) := fun o => cell_later (below1 wc o) y0
    go_region_law (first | (go_simp; go_at_call 22; refine Calls.mono (HZ.out _ (below_drewN _ 1)) ?_; rintro e W2 ⟨c', s', pl', a', er, rfl, hb2, hth⟩; have HF2 : Hid _ := hb2; dsimp only) | (go_simp; go_at_call 22; refine Calls.mono (HZ.out _ HBA.out) ?_; rintro e W2 ⟨c', s', pl', a', er, rfl, hb2, hth⟩; have HQ : Hid _ := box_later HAX.out hb2; have zc0 := blk_at HQ.out 0; have zf0 := blk_free HQ.out 0; have zc1 := blk_at HQ.out 1; have zf1 := blk_free HQ.out 1; have zc2 := blk_at HQ.out 2; have zf2 := blk_free HQ.out 2; have zc3 := blk_at HQ.out 3; have zf3 := blk_free HQ.out 3; dsimp only))
    all_goals go_wp2
    all_goals go_meet
    all_goals first
      | exact ⟨c', s', pl', a', er, _, rfl, rfl, (HC.out.trans ((below_drewN _ 1).mono HC.out.size)).trans ((hb2.trans ((below1 W2 _).mono hb2.size)).mono (Nat.le_trans HC.out.size (below_drewN _ 1).size)), heap_new W2 _, ⟨trivial, trivial⟩, hth, cell_later ((below_drewN _ 1).trans ((hb2.trans ((below1 W2 _).mono hb2.size)).mono (below_drewN _ 1).size)) HY1.out⟩
      | (obtain ⟨hp, hq⟩ := putc4 HQ.out (.int .u32 (c' : Int)) (.string s') (.bool pl') (.int .u64 (a' : Int))
         have hB2 : Below wc.heap.size wc W2 := HBA.out.trans (hb2.mono HBA.out.size)
         have hB3 := hB2.trans (hq.below hB2.size (fun g hg e => by omega))
         exact ⟨c', s', pl', a', er, _, rfl, rfl, HC.out.trans (hB3.mono HC.out.size), hp, ⟨trivial, trivial⟩, hth, cell_later hB3 HY1.out⟩)
  case rest =>
  obtain ⟨c', s', pl', a', er, ge, rfl, rfl, HK⟩ := hcut
  have HR : Hid (True ∧ True) := HK.out.2.2.1
  have HTh : Hid _ := HK.out.2.2.2.1
  have HB3 : Hid (wc.heap[ge]? = some (.cells #[.int .u32 (c' : Int), .string s', .bool pl', .int .u64 (a' : Int)] 42 (0, 0))) := HK.out.2.1
  have y1 := HK.out.2.2.2.2
  have HC3 : Hid (Below W1.heap.size W1 wc) := HK.out.1
  clear HK y0 HZ HY1 HC
  go_upto_region 21 with fail
  have HB : Hid (Below w.heap.size w wc) := H1.out.1.trans (HC3.out.mono H1.out.1.size)
  have HBX : Hid (wc.heap[w.heap.size]? = some (.cells x.cells 48 (0, 0))) := box_later H1.out.2 HC3.out
  go_cut [233] from 218 to 233 (fun v wc => v = .bool false ∧ Hid (Below W1.heap.size W1 wc))
  case first =>
    as_aux_lemma =>
    by_cases hE : E6 = 0
    · obtain ⟨rfl, rfl, rfl, rfl, rfl⟩ := HTh.out hE
      subst hE
      have x19 : wc.cell? ⟨w.heap.size, 19, none⟩ = some (.int .u32 (x.ec : Int)) := (blk_at HBX.out 19).trans rfl
      have x20 : wc.cell? ⟨w.heap.size, 20, none⟩ = some (.string x.s7) := (blk_at HBX.out 20).trans rfl
      have x21 : wc.cell? ⟨w.heap.size, 21, none⟩ = some (.bool x.pl) := (blk_at HBX.out 21).trans rfl
      have x22 : wc.cell? ⟨w.heap.size, 22, none⟩ = some (.int .u64 (x.ea : Int)) := (blk_at HBX.out 22).trans rfl
      have z0 := blk_at HB3.out 0
      have z1 := blk_at HB3.out 1
      have z2 := blk_at HB3.out 2
      have z3 := blk_at HB3.out 3
      simp at z0 z1 z2 z3
      go_wp2_with fail
      refine Calls.mono (HNum.out _ _) ?_
      rintro e W4 ⟨rfl, hw⟩
      rw [hw]; clear hw
      go_wp2
      go_meet
      exact ⟨by simp, HC3.out⟩
    · have f0 := eraw E6 hE
      go_wp2
      go_meet
      exact ⟨rfl, HC3.out⟩
  case rest =>
  obtain ⟨rfl, HC9⟩ := hcut
  have HC : Hid (Below W1.heap.size W1 wc) := HC9.out
  clear HB HBX HB3 HC3 HR HTh y1 HC9
  obtain ⟨a7, n7, c7, it7⟩ := HIt.out 7 (rDataC x.off x.m8) rfl
  have HI7 : Hid (Itm wc gl 7 (rDataC x.off x.m8) a7 n7 c7) := it7.later HC.out
  have y0 : wc.cell? ⟨gl, 14, none⟩ = some (.slice a7 n7 c7) := HI7.out.c0
  obtain ⟨E7, hE7⟩ : ∃ E, (rDataC x.off x.m8).2 = E := ⟨_, rfl⟩
  have HTt : Tabs wc := HT.out.later (H1.out.1.trans (HC.out.mono H1.out.1.size))
  have hz := fun W' (hb : Below wc.heap.size wc W') => th_data x.off x.m8 HO.out.hoff a7 c7 n7 W' (HI7.out.row.later hb) HI7.out.len
  rw [hE7] at hz
  have HZ : Hid _ := hz
  have y1 := HI7.out.c1
  rw [hE7] at y1
  have HY1 : Hid (wc.cell? ⟨gl, 15, none⟩ = some (.int .i64 (E7 : Int))) := y1
  clear it7 HI7 hz HTt y1 hE7
  go_wp2_with fail
  refine Calls.mono (HZ.out wc (Below.refl _ _)) ?_
  rintro e W2 ⟨o', da, dn, dc, m', er, rfl, hd, hrow, hb2, hth⟩
  have HC2 : Hid (Below W1.heap.size W1 W2) := HC.out.trans (hb2.mono HC.out.size)
  have HY2 : Hid (W2.cell? ⟨gl, 15, none⟩ = some (.int .i64 (E7 : Int))) := cell_later hb2 HY1.out
  clear y0 HZ HY1 HC hb2
  go_upto_region 24 with fail
  have HR : Hid (BRow (W2.alloc (Obj.cells #[.int .u64 (o' : Int), .slice da dn dc] 44)) da dc m' ∧ m'.length = dn) := ⟨hrow.later (below1 _ _), hd⟩
  have HTh : Hid _ := hth
  have hbx := heap_new W2 (Obj.cells #[.int .u64 (o' : Int), .slice da dn dc] 44)
  have HC3 : Hid (Below W1.heap.size W1 (W2.alloc (Obj.cells #[.int .u64 (o' : Int), .slice da dn dc] 44))) := HC2.out.trans ((below1 W2 _).mono HC2.out.size)
  have y1 := cell_later (below1 W2 (Obj.cells #[.int .u64 (o' : Int), .slice da dn dc] 44)) HY2.out
  clear HC2 HY2
  generalize W2.alloc (Obj.cells #[.int .u64 (o' : Int), .slice da dn dc] 44) = W3 at *
  generalize W2.heap.size = ge at *
  clear hth hrow hd
  have HB3 : Hid (W3.heap[ge]? = some (.cells #[.int .u64 (o' : Int), .slice da dn dc] 44 (0, 0))) := hbx
  clear hbx
  have HB : Hid (Below w.heap.size w W3) := H1.out.1.trans (HC3.out.mono H1.out.1.size)
  have HBX : Hid (W3.heap[w.heap.size]? = some (.cells x.cells 48 (0, 0))) := box_later H1.out.2 HC3.out
  go_cut [268] from 242 to 268 (fun v wc => v = .bool false ∧ Hid (Below W1.heap.size W1 wc))
  case first =>
    as_aux_lemma =>
    by_cases hE : E7 = 0
    · obtain ⟨rfl, rfl, rfl⟩ := HTh.out hE
      subst hE
      have hmm : dn = x.n8 := HR.out.2.symm.trans HO.out.l8
      subst hmm
      have x23 : W3.cell? ⟨w.heap.size, 23, none⟩ = some (.int .u64 (x.off : Int)) := (blk_at HBX.out 23).trans rfl
      have x24 : W3.cell? ⟨w.heap.size, 24, none⟩ = some (.slice x.a8 x.n8 x.c8) := (blk_at HBX.out 24).trans rfl
      have z0 := blk_at HB3.out 0
      have z1 := blk_at HB3.out 1
      simp at z0 z1
      go_wp2_with fail
      refine Calls.mono (HNum.out _ _) ?_
      rintro e W4 ⟨rfl, hw⟩
      rw [hw]; clear hw
      go_wp2_with fail
      refine Calls.mono (same9 da x.a8 dc x.c8 x.n8 x.m8 W3 HR.out.1 (HO.out.r8.later HB.out) HO.out.l8) ?_
      rintro e W4 ⟨rfl, hb4⟩
      have HC4 : Hid (Below W1.heap.size W1 W4) := HC3.out.trans (hb4.mono HC3.out.size)
      clear hb4
      go_wp2
      go_meet
      exact ⟨rfl, HC4.out⟩
    · have f0 := eraw E7 hE
      go_wp2
      go_meet
      exact ⟨rfl, HC3.out⟩
  case rest =>
  obtain ⟨rfl, HC9⟩ := hcut
  have HC : Hid (Below W1.heap.size W1 wc) := HC9.out
  clear HB HBX HB3 HC3 HR HTh y1 HC9
  obtain ⟨a8, n8, c8, it8⟩ := HIt.out 8 (hoL x.ho x.ln, 0) rfl
  have HI8 : Hid (Itm wc gl 8 (hoL x.ho x.ln, 0) a8 n8 c8) := it8.later HC.out
  have y0 : wc.cell? ⟨gl, 16, none⟩ = some (.slice a8 n8 c8) := HI8.out.c0
  have HZ : Hid _ := th_hole x.ho x.ln HO.out.hho HO.out.hln a8 c8 n8 wc HI8.out.row HI8.out.len
  clear it8 HI8
  go_upto_region 26 with fail
  go_cut [13, 5] from 14 to 276 (fun v13 v5 W3 => ∃ ge : Nat, v13 = .pointer (some ⟨ge, 0, none⟩) ∧ v5 = .int .i64 0 ∧ Hid (Below W1.heap.size W1 W3 ∧ W3.heap[ge]? = some (.cells #[.int .u64 (x.ho : Int), .int .u32 (x.ln : Int)] 46 (0, 0))))
  case first =>
    as_aux_lemma =>
    go_wp2_with fail
    refine Calls.mono HZ.out ?_
    rintro e W2 ⟨rfl, hb2⟩
    have HC2 : Hid (Below W1.heap.size W1 W2) := HC.out.trans (hb2.mono HC.out.size)
    clear y0 HZ HC hb2
    go_wp2
    go_meet
    exact ⟨_, rfl, rfl, HC2.out.trans ((below1 W2 _).mono HC2.out.size), heap_new W2 _⟩
  case rest =>
  obtain ⟨ge, rfl, rfl, HK⟩ := hcut
  have HC3 : Hid (Below W1.heap.size W1 wc) := HK.out.1
  have HB3 : Hid (wc.heap[ge]? = some (.cells #[.int .u64 (x.ho : Int), .int .u32 (x.ln : Int)] 46 (0, 0))) := HK.out.2
  clear HK HC HZ y0
  go_upto_region 27 with fail
  have HB : Hid (Below w.heap.size w wc) := H1.out.1.trans (HC3.out.mono H1.out.1.size)
  have HBX : Hid (wc.heap[w.heap.size]? = some (.cells x.cells 48 (0, 0))) := box_later H1.out.2 HC3.out
  obtain ⟨a5', n5', c5', it5⟩ := HIt.out 5 (rStatusC x.wide x.cx x.rs) rfl
  obtain ⟨a7', n7', c7', it7⟩ := HIt.out 7 (rDataC x.off x.m8) rfl
  have y11 := (it5.later HC3.out).c1
  have y15 := (it7.later HC3.out).c1
  clear it5 it7
  have e7 : ((((rDataC x.off x.m8).2 : Nat) : Int) == 0) = decide (0 < x.n8) := by
    rw [← HO.out.l8]; unfold rDataC
    by_cases hm : x.m8 = []
    · rw [if_pos hm, hm]; rfl
    · rw [if_neg hm]; have := List.length_pos_iff.2 hm; simp [this]
  obtain ⟨E7', hE7'⟩ : ∃ E, (rDataC x.off x.m8).2 = E := ⟨_, rfl⟩
  rw [hE7'] at y15 e7
  simp only [Nat.reduceMul, Nat.reduceAdd] at y11 y15
  have x17 : wc.cell? ⟨w.heap.size, 17, none⟩ = some (.slice x.a6 x.n6 x.c6) := (blk_at HBX.out 17).trans rfl
  have x18 : wc.cell? ⟨w.heap.size, 18, none⟩ = some (.bool x.wide) := (blk_at HBX.out 18).trans rfl
  have x24 : wc.cell? ⟨w.heap.size, 24, none⟩ = some (.slice x.a8 x.n8 x.c8) := (blk_at HBX.out 24).trans rfl
  have x25 : wc.cell? ⟨w.heap.size, 25, none⟩ = some (.int .u64 (x.ho : Int)) := (blk_at HBX.out 25).trans rfl
  have x26 : wc.cell? ⟨w.heap.size, 26, none⟩ = some (.int .u32 (x.ln : Int)) := (blk_at HBX.out 26).trans rfl
  have z0 := blk_at HB3.out 0
  have z1 := blk_at HB3.out 1
  simp at z0 z1
  have HAl : Hid (∀ W, Below w.heap.size w W → Calls Tryd.prog 10 #[] W fun e w' => e = .returned (.bool true) ∧ Below W.heap.size W w') := fun W hb => alive_any W (HTb.out.later hb)
  have HNr : Hid (∀ W, Below w.heap.size w W → Calls Tryd.prog 25 #[.slice x.a6 x.n6 x.c6] W fun e w' => e = .returned (.bool (fitA false x.rs)) ∧ w' = W) := fun W hb => narrow_any x.a6 x.n6 x.c6 x.rs W (HO.out.r6.later hb) HO.out.l6 HO.out.b6
  have hBd : Below w.heap.size w wc.drew := HB.out.trans ((below_drewN _ 1).mono HB.out.size)
  have HBd : Hid (Below w.heap.size w wc.drew) := hBd
  clear hBd hE7'
  by_cases h6 : x.n6 = 0
  · as_aux_lemma =>
    have e5 : (rStatusC x.wide x.cx x.rs).2 = 81 := by
      unfold rStatusC; rw [if_neg]; rw [HO.out.l6, h6]; simp
    rw [e5] at y11
    rw [h6] at x17
    have y11 : wc.cell? ⟨gl, 11, none⟩ = some (.int .i64 81) := y11
    clear e5 h6
    have hs0 : (fun w' => w'.cell? ⟨w.heap.size, 17, none⟩ = some (.slice x.a6 0 x.c6) ∧ w'.cell? ⟨w.heap.size, 18, none⟩ = some (.bool x.wide) ∧ w'.cell? ⟨w.heap.size, 24, none⟩ = some (.slice x.a8 x.n8 x.c8) ∧ w'.cell? ⟨w.heap.size, 25, none⟩ = some (.int .u64 (x.ho : Int)) ∧ w'.cell? ⟨w.heap.size, 26, none⟩ = some (.int .u32 (x.ln : Int)) ∧ w'.cell? ⟨ge, 0, none⟩ = some (.int .u64 (x.ho : Int)) ∧ w'.cell? ⟨ge, 1, none⟩ = some (.int .u32 (x.ln : Int)) ∧ w'.cell? ⟨gl, 11, none⟩ = some (.int .i64 81) ∧ w'.cell? ⟨gl, 15, none⟩ = some (.int .i64 (E7' : Int))) wc.drew := ⟨x17, x18, x24, x25, x26, z0, z1, y11, y15⟩
    have hSl : ∀ W9, Below wc.drew.heap.size wc.drew W9 → (fun w' => w'.cell? ⟨w.heap.size, 17, none⟩ = some (.slice x.a6 0 x.c6) ∧ w'.cell? ⟨w.heap.size, 18, none⟩ = some (.bool x.wide) ∧ w'.cell? ⟨w.heap.size, 24, none⟩ = some (.slice x.a8 x.n8 x.c8) ∧ w'.cell? ⟨w.heap.size, 25, none⟩ = some (.int .u64 (x.ho : Int)) ∧ w'.cell? ⟨w.heap.size, 26, none⟩ = some (.int .u32 (x.ln : Int)) ∧ w'.cell? ⟨ge, 0, none⟩ = some (.int .u64 (x.ho : Int)) ∧ w'.cell? ⟨ge, 1, none⟩ = some (.int .u32 (x.ln : Int)) ∧ w'.cell? ⟨gl, 11, none⟩ = some (.int .i64 81) ∧ w'.cell? ⟨gl, 15, none⟩ = some (.int .i64 (E7' : Int))) W9 := fun W9 hb => ⟨cell_later hb x17, cell_later hb x18, cell_later hb x24, cell_later hb x25, cell_later hb x26, cell_later hb z0, cell_later hb z1, cell_later hb y11, cell_later hb y15⟩
    simp only [] at hs0
    clear x17 x18 x24 x25 x26 z0 z1 y11 y15
    refine wp_region_held_drew (S := fun w' => w'.cell? ⟨w.heap.size, 17, none⟩ = some (.slice x.a6 0 x.c6) ∧ w'.cell? ⟨w.heap.size, 18, none⟩ = some (.bool x.wide) ∧ w'.cell? ⟨w.heap.size, 24, none⟩ = some (.slice x.a8 x.n8 x.c8) ∧ w'.cell? ⟨w.heap.size, 25, none⟩ = some (.int .u64 (x.ho : Int)) ∧ w'.cell? ⟨w.heap.size, 26, none⟩ = some (.int .u32 (x.ln : Int)) ∧ w'.cell? ⟨ge, 0, none⟩ = some (.int .u64 (x.ho : Int)) ∧ w'.cell? ⟨ge, 1, none⟩ = some (.int .u32 (x.ln : Int)) ∧ w'.cell? ⟨gl, 11, none⟩ = some (.int .i64 81) ∧ w'.cell? ⟨gl, 15, none⟩ = some (.int .i64 (E7' : Int))) (by kernel_rfl) hs0 ?_
    intro hHeld
    refine' wpAnyH_take (i := 0) (oi := { dst := some 277, op := Op.move (Operand.tmp 5), type := 56, pos := _, after := #[], guard := none }) (v := _) rfl (by kernel_rfl) (by kernel_rfl) (by kernel_rfl) (fun _ _ _ h => h) (Or.inl ⟨by rfl, ?hy0⟩) hHeld ?rest0
    case' hy0 =>
      intro w' hSw
      (try dsimp only at hSw)
      first | (go_simp; done) | (go_simp; with_reducible rfl)
    simp only [Act.put, List.setIfInBounds_toArray, List.set_cons_zero, List.set_cons_succ]
    refine wpAnyH_ready (rs := [1]) (by kernel_rfl) (by simp) ?_
    refine AllReadyH.cons (o := { dst := some 278, op := Op.call { callee := Callee.value (Operand.func 12), args := #[Operand.tmp 277], argTypes := #[56] }, type := 3, pos := _, after := #[{ on := 0, ground := Ground.data }], guard := none }) rfl (fun K hK => ?_) AllReadyH.nil
    go_simp
    refine Calls.mono (HNum.out _ _) ?_
    rintro e W9 ⟨rfl, hw⟩
    subst hw
    go_wp2_with fail
    refine hK.out _ _ ?hS1 (fun hHeld => ?rest1)
    case hS1 => exact hs0
    clear hK K
    refine' wpAnyH_take (i := 2) (oi := { dst := some 279, op := Op.binOp BinOp.eql 3 (Operand.tmp 278) (Operand.const (Value.int IntKind.i64 0)) 3, type := 4, pos := _, after := #[{ on := 1, ground := Ground.data }], guard := none }) (v := _) rfl (by kernel_rfl) (by kernel_rfl) (by kernel_rfl) (fun _ _ _ h => h) (Or.inl ⟨by rfl, ?hy2⟩) hHeld ?rest2
    case' hy2 =>
      intro w' hSw
      (try dsimp only at hSw)
      first | (go_simp; done) | (go_simp; with_reducible rfl)
    simp only [Act.put, List.setIfInBounds_toArray, List.set_cons_zero, List.set_cons_succ]
    refine' wpAnyH_take (i := 3) (oi := { dst := some 280, op := Op.move (Operand.tmp 279), type := 4, pos := _, after := #[{ on := 2, ground := Ground.data }, { on := 1, ground := Ground.chain }], guard := none }) (v := _) rfl (by kernel_rfl) (by kernel_rfl) (by kernel_rfl) (fun _ _ _ h => h) (Or.inl ⟨by rfl, ?hy3⟩) hHeld ?rest3
    case' hy3 =>
      intro w' hSw
      (try dsimp only at hSw)
      first | (go_simp; done) | (go_simp; with_reducible rfl)
    simp only [Act.put, List.setIfInBounds_toArray, List.set_cons_zero, List.set_cons_succ]
    refine' wpAnyH_take (i := 4) (oi := { dst := some 281, op := Op.load 46 (Operand.tmp 13), type := 46, pos := _, after := #[{ on := 3, ground := Ground.guard }], guard := some (3, true) }) (v := _) rfl (by kernel_rfl) (by kernel_rfl) (by kernel_rfl) (fun _ _ _ h => h) (Or.inl ⟨by rfl, ?hy4⟩) hHeld ?rest4
    case' hy4 =>
      intro w' hSw
      (try dsimp only at hSw)
      first | (go_simp; done) | (go_simp; with_reducible rfl)
    simp only [Act.put, List.setIfInBounds_toArray, List.set_cons_zero, List.set_cons_succ]
    refine' wpAnyH_take (i := 5) (oi := { dst := some 282, op := Op.fieldAddr 48 (Operand.tmp 1) 9, type := 0, pos := _, after := #[{ on := 3, ground := Ground.guard }], guard := some (3, true) }) (v := _) rfl (by kernel_rfl) (by kernel_rfl) (by kernel_rfl) (fun _ _ _ h => h) (Or.inl ⟨by rfl, ?hy5⟩) hHeld ?rest5
    case' hy5 =>
      intro w' hSw
      (try dsimp only at hSw)
      first | (go_simp; done) | (go_simp; with_reducible rfl)
    simp only [Act.put, List.setIfInBounds_toArray, List.set_cons_zero, List.set_cons_succ]
    refine' wpAnyH_take (i := 6) (oi := { dst := some 283, op := Op.load 46 (Operand.tmp 282), type := 46, pos := _, after := #[{ on := 5, ground := Ground.data }, { on := 3, ground := Ground.guard }], guard := some (3, true) }) (v := _) rfl (by kernel_rfl) (by kernel_rfl) (by kernel_rfl) (fun _ _ _ h => h) (Or.inl ⟨by rfl, ?hy6⟩) hHeld ?rest6
    case' hy6 =>
      intro w' hSw
      (try dsimp only at hSw)
      first | (go_simp; done) | (go_simp; with_reducible rfl)
    simp only [Act.put, List.setIfInBounds_toArray, List.set_cons_zero, List.set_cons_succ]
    refine' wpAnyH_take (i := 7) (oi := { dst := some 284, op := Op.binOp BinOp.eql 46 (Operand.tmp 281) (Operand.tmp 283) 46, type := 4, pos := _, after := #[{ on := 4, ground := Ground.data }, { on := 6, ground := Ground.data }, { on := 3, ground := Ground.guard }], guard := some (3, true) }) (v := _) rfl (by kernel_rfl) (by kernel_rfl) (by kernel_rfl) (fun _ _ _ h => h) (Or.inl ⟨by rfl, ?hy7⟩) hHeld ?rest7
    case' hy7 =>
      intro w' hSw
      (try dsimp only at hSw)
      first | (go_simp; done) | (go_simp; with_reducible rfl)
    simp only [Act.put, List.setIfInBounds_toArray, List.set_cons_zero, List.set_cons_succ]
    refine' wpAnyH_take (i := 8) (oi := { dst := some 285, op := Op.pick (Operand.tmp 280) (Operand.tmp 284) (Operand.const (Value.bool false)), type := 4, pos := _, after := #[{ on := 3, ground := Ground.data }, { on := 7, ground := Ground.data }], guard := none }) (v := _) rfl (by kernel_rfl) (by kernel_rfl) (by kernel_rfl) (fun _ _ _ h => h) (Or.inl ⟨by rfl, ?hy8⟩) hHeld ?rest8
    case' hy8 =>
      intro w' hSw
      (try dsimp only at hSw)
      first | (go_simp; done) | (go_simp; with_reducible rfl)
    simp only [Act.put, List.setIfInBounds_toArray, List.set_cons_zero, List.set_cons_succ]
    refine' wpAnyH_take (i := 9) (oi := { dst := some 286, op := Op.move (Operand.tmp 285), type := 4, pos := _, after := #[{ on := 8, ground := Ground.data }, { on := 3, ground := Ground.chain }], guard := none }) (v := _) rfl (by kernel_rfl) (by kernel_rfl) (by kernel_rfl) (fun _ _ _ h => h) (Or.inl ⟨by rfl, ?hy9⟩) hHeld ?rest9
    case' hy9 =>
      intro w' hSw
      (try dsimp only at hSw)
      first | (go_simp; done) | (go_simp; with_reducible rfl)
    simp only [Act.put, List.setIfInBounds_toArray, List.set_cons_zero, List.set_cons_succ]
    refine' wpAnyH_take (i := 10) (oi := { dst := some 287, op := Op.move (Operand.tmp 3), type := 49, pos := _, after := #[{ on := 9, ground := Ground.guard }], guard := some (9, true) }) (v := _) rfl (by kernel_rfl) (by kernel_rfl) (by kernel_rfl) (fun _ _ _ h => h) (Or.inl ⟨by rfl, ?hy10⟩) hHeld ?rest10
    case' hy10 =>
      intro w' hSw
      (try dsimp only at hSw)
      first | (go_simp; done) | (go_simp; with_reducible rfl)
    simp only [Act.put, List.setIfInBounds_toArray, List.set_cons_zero, List.set_cons_succ]
    refine' wpAnyH_take (i := 11) (oi := { dst := some 288, op := Op.indexAddr 49 (Operand.tmp 287) (Operand.const (Value.int IntKind.i64 7)), type := 0, pos := _, after := #[{ on := 10, ground := Ground.data }, { on := 9, ground := Ground.guard }], guard := some (9, true) }) (v := _) rfl (by kernel_rfl) (by kernel_rfl) (by kernel_rfl) (fun _ _ _ h => h) (Or.inl ⟨by rfl, ?hy11⟩) hHeld ?rest11
    case' hy11 =>
      intro w' hSw
      (try dsimp only at hSw)
      first | (go_simp; done) | (go_simp; with_reducible rfl)
    simp only [Act.put, List.setIfInBounds_toArray, List.set_cons_zero, List.set_cons_succ]
    refine' wpAnyH_take (i := 12) (oi := { dst := some 289, op := Op.fieldAddr 52 (Operand.tmp 288) 1, type := 0, pos := _, after := #[{ on := 11, ground := Ground.data }, { on := 9, ground := Ground.guard }], guard := some (9, true) }) (v := _) rfl (by kernel_rfl) (by kernel_rfl) (by kernel_rfl) (fun _ _ _ h => h) (Or.inl ⟨by rfl, ?hy12⟩) hHeld ?rest12
    case' hy12 =>
      intro w' hSw
      (try dsimp only at hSw)
      first | (go_simp; done) | (go_simp; with_reducible rfl)
    simp only [Act.put, List.setIfInBounds_toArray, List.set_cons_zero, List.set_cons_succ]
    refine' wpAnyH_take (i := 13) (oi := { dst := some 290, op := Op.load 3 (Operand.tmp 289), type := 3, pos := _, after := #[{ on := 12, ground := Ground.data }, { on := 9, ground := Ground.guard }], guard := some (9, true) }) (v := _) rfl (by kernel_rfl) (by kernel_rfl) (by kernel_rfl) (fun _ _ _ h => h) (Or.inl ⟨by rfl, ?hy13⟩) hHeld ?rest13
    case' hy13 =>
      intro w' hSw
      (try dsimp only at hSw)
      first | (go_simp; done) | (go_simp; with_reducible rfl)
    simp only [Act.put, List.setIfInBounds_toArray, List.set_cons_zero, List.set_cons_succ]
    refine' wpAnyH_take (i := 14) (oi := { dst := some 291, op := Op.binOp BinOp.eql 3 (Operand.tmp 290) (Operand.const (Value.int IntKind.i64 0)) 3, type := 4, pos := _, after := #[{ on := 13, ground := Ground.data }, { on := 9, ground := Ground.guard }], guard := some (9, true) }) (v := _) rfl (by kernel_rfl) (by kernel_rfl) (by kernel_rfl) (fun _ _ _ h => h) (Or.inl ⟨by rfl, ?hy14⟩) hHeld ?rest14
    case' hy14 =>
      intro w' hSw
      (try dsimp only at hSw)
      first | (go_simp; done) | (go_simp; with_reducible rfl)
    simp only [Act.put, List.setIfInBounds_toArray, List.set_cons_zero, List.set_cons_succ]
    refine' wpAnyH_take (i := 15) (oi := { dst := some 292, op := Op.fieldAddr 48 (Operand.tmp 1) 8, type := 0, pos := _, after := #[{ on := 9, ground := Ground.guard }], guard := some (9, true) }) (v := _) rfl (by kernel_rfl) (by kernel_rfl) (by kernel_rfl) (fun _ _ _ h => h) (Or.inl ⟨by rfl, ?hy15⟩) hHeld ?rest15
    case' hy15 =>
      intro w' hSw
      (try dsimp only at hSw)
      first | (go_simp; done) | (go_simp; with_reducible rfl)
    simp only [Act.put, List.setIfInBounds_toArray, List.set_cons_zero, List.set_cons_succ]
    refine' wpAnyH_take (i := 16) (oi := { dst := some 293, op := Op.fieldAddr 44 (Operand.tmp 292) 1, type := 0, pos := _, after := #[{ on := 15, ground := Ground.data }, { on := 9, ground := Ground.guard }], guard := some (9, true) }) (v := _) rfl (by kernel_rfl) (by kernel_rfl) (by kernel_rfl) (fun _ _ _ h => h) (Or.inl ⟨by rfl, ?hy16⟩) hHeld ?rest16
    case' hy16 =>
      intro w' hSw
      (try dsimp only at hSw)
      first | (go_simp; done) | (go_simp; with_reducible rfl)
    simp only [Act.put, List.setIfInBounds_toArray, List.set_cons_zero, List.set_cons_succ]
    refine' wpAnyH_take (i := 17) (oi := { dst := some 294, op := Op.load 25 (Operand.tmp 293), type := 25, pos := _, after := #[{ on := 16, ground := Ground.data }, { on := 9, ground := Ground.guard }], guard := some (9, true) }) (v := _) rfl (by kernel_rfl) (by kernel_rfl) (by kernel_rfl) (fun _ _ _ h => h) (Or.inl ⟨by rfl, ?hy17⟩) hHeld ?rest17
    case' hy17 =>
      intro w' hSw
      (try dsimp only at hSw)
      first | (go_simp; done) | (go_simp; with_reducible rfl)
    simp only [Act.put, List.setIfInBounds_toArray, List.set_cons_zero, List.set_cons_succ]
    refine' wpAnyH_take (i := 18) (oi := { dst := some 295, op := Op.call { callee := Callee.builtin Builtin.len, args := #[Operand.tmp 294], argTypes := #[25] }, type := 3, pos := _, after := #[{ on := 17, ground := Ground.data }, { on := 9, ground := Ground.guard }], guard := some (9, true) }) (v := _) rfl (by kernel_rfl) (by kernel_rfl) (by kernel_rfl) (fun _ _ _ h => h) (Or.inl ⟨by rfl, ?hy18⟩) hHeld ?rest18
    case' hy18 =>
      intro w' hSw
      (try dsimp only at hSw)
      first | (go_simp; done) | (go_simp; with_reducible rfl)
    simp only [Act.put, List.setIfInBounds_toArray, List.set_cons_zero, List.set_cons_succ]
    refine' wpAnyH_take (i := 19) (oi := { dst := some 296, op := Op.binOp BinOp.gtr 3 (Operand.tmp 295) (Operand.const (Value.int IntKind.i64 0)) 3, type := 4, pos := _, after := #[{ on := 18, ground := Ground.data }, { on := 9, ground := Ground.guard }], guard := some (9, true) }) (v := _) rfl (by kernel_rfl) (by kernel_rfl) (by kernel_rfl) (fun _ _ _ h => h) (Or.inl ⟨by rfl, ?hy19⟩) hHeld ?rest19
    case' hy19 =>
      intro w' hSw
      (try dsimp only at hSw)
      first | (go_simp; done) | (go_simp; with_reducible rfl)
    simp only [Act.put, List.setIfInBounds_toArray, List.set_cons_zero, List.set_cons_succ]
    refine' wpAnyH_take (i := 20) (oi := { dst := some 297, op := Op.binOp BinOp.eql 4 (Operand.tmp 291) (Operand.tmp 296) 4, type := 4, pos := _, after := #[{ on := 14, ground := Ground.data }, { on := 19, ground := Ground.data }, { on := 9, ground := Ground.guard }], guard := some (9, true) }) (v := _) rfl (by kernel_rfl) (by kernel_rfl) (by kernel_rfl) (fun _ _ _ h => h) (Or.inl ⟨by rfl, ?hy20⟩) hHeld ?rest20
    case' hy20 =>
      intro w' hSw
      (try dsimp only at hSw)
      first | (go_simp; done) | (go_simp; with_reducible rfl)
    simp only [Act.put, List.setIfInBounds_toArray, List.set_cons_zero, List.set_cons_succ]
    refine' wpAnyH_take (i := 21) (oi := { dst := some 298, op := Op.pick (Operand.tmp 286) (Operand.tmp 297) (Operand.const (Value.bool false)), type := 4, pos := _, after := #[{ on := 9, ground := Ground.data }, { on := 20, ground := Ground.data }], guard := none }) (v := _) rfl (by kernel_rfl) (by kernel_rfl) (by kernel_rfl) (fun _ _ _ h => h) (Or.inl ⟨by rfl, ?hy21⟩) hHeld ?rest21
    case' hy21 =>
      intro w' hSw
      (try dsimp only at hSw)
      first | (go_simp; done) | (go_simp; with_reducible rfl)
    simp only [Act.put, List.setIfInBounds_toArray, List.set_cons_zero, List.set_cons_succ]
    refine' wpAnyH_take (i := 22) (oi := { dst := some 299, op := Op.move (Operand.tmp 298), type := 4, pos := _, after := #[{ on := 21, ground := Ground.data }, { on := 9, ground := Ground.chain }], guard := none }) (v := _) rfl (by kernel_rfl) (by kernel_rfl) (by kernel_rfl) (fun _ _ _ h => h) (Or.inl ⟨by rfl, ?hy22⟩) hHeld ?rest22
    case' hy22 =>
      intro w' hSw
      (try dsimp only at hSw)
      first | (go_simp; done) | (go_simp; with_reducible rfl)
    simp only [Act.put, List.setIfInBounds_toArray, List.set_cons_zero, List.set_cons_succ]
    refine' wpAnyH_take (i := 23) (oi := { dst := some 300, op := Op.fieldAddr 48 (Operand.tmp 1) 5, type := 0, pos := _, after := #[{ on := 22, ground := Ground.guard }], guard := some (22, true) }) (v := _) rfl (by kernel_rfl) (by kernel_rfl) (by kernel_rfl) (fun _ _ _ h => h) (Or.inl ⟨by rfl, ?hy23⟩) hHeld ?rest23
    case' hy23 =>
      intro w' hSw
      (try dsimp only at hSw)
      first | (go_simp; done) | (go_simp; with_reducible rfl)
    simp only [Act.put, List.setIfInBounds_toArray, List.set_cons_zero, List.set_cons_succ]
    refine' wpAnyH_take (i := 24) (oi := { dst := some 301, op := Op.fieldAddr 40 (Operand.tmp 300) 1, type := 0, pos := _, after := #[{ on := 23, ground := Ground.data }, { on := 22, ground := Ground.guard }], guard := some (22, true) }) (v := _) rfl (by kernel_rfl) (by kernel_rfl) (by kernel_rfl) (fun _ _ _ h => h) (Or.inl ⟨by rfl, ?hy24⟩) hHeld ?rest24
    case' hy24 =>
      intro w' hSw
      (try dsimp only at hSw)
      first | (go_simp; done) | (go_simp; with_reducible rfl)
    simp only [Act.put, List.setIfInBounds_toArray, List.set_cons_zero, List.set_cons_succ]
    refine' wpAnyH_take (i := 25) (oi := { dst := some 302, op := Op.load 38 (Operand.tmp 301), type := 38, pos := _, after := #[{ on := 24, ground := Ground.data }, { on := 22, ground := Ground.guard }], guard := some (22, true) }) (v := _) rfl (by kernel_rfl) (by kernel_rfl) (by kernel_rfl) (fun _ _ _ h => h) (Or.inl ⟨by rfl, ?hy25⟩) hHeld ?rest25
    case' hy25 =>
      intro w' hSw
      (try dsimp only at hSw)
      first | (go_simp; done) | (go_simp; with_reducible rfl)
    simp only [Act.put, List.setIfInBounds_toArray, List.set_cons_zero, List.set_cons_succ]
    refine' wpAnyH_take (i := 26) (oi := { dst := some 303, op := Op.call { callee := Callee.builtin Builtin.len, args := #[Operand.tmp 302], argTypes := #[38] }, type := 3, pos := _, after := #[{ on := 25, ground := Ground.data }, { on := 22, ground := Ground.guard }], guard := some (22, true) }) (v := _) rfl (by kernel_rfl) (by kernel_rfl) (by kernel_rfl) (fun _ _ _ h => h) (Or.inl ⟨by rfl, ?hy26⟩) hHeld ?rest26
    case' hy26 =>
      intro w' hSw
      (try dsimp only at hSw)
      first | (go_simp; done) | (go_simp; with_reducible rfl)
    simp only [Act.put, List.setIfInBounds_toArray, List.set_cons_zero, List.set_cons_succ]
    refine' wpAnyH_take (i := 27) (oi := { dst := some 304, op := Op.binOp BinOp.eql 3 (Operand.tmp 303) (Operand.const (Value.int IntKind.i64 0)) 3, type := 4, pos := _, after := #[{ on := 26, ground := Ground.data }, { on := 22, ground := Ground.guard }], guard := some (22, true) }) (v := _) rfl (by kernel_rfl) (by kernel_rfl) (by kernel_rfl) (fun _ _ _ h => h) (Or.inl ⟨by rfl, ?hy27⟩) hHeld ?rest27
    case' hy27 =>
      intro w' hSw
      (try dsimp only at hSw)
      first | (go_simp; done) | (go_simp; with_reducible rfl)
    simp only [Act.put, List.setIfInBounds_toArray, List.set_cons_zero, List.set_cons_succ]
    refine' wpAnyH_take (i := 28) (oi := { dst := some 305, op := Op.move (Operand.tmp 304), type := 4, pos := _, after := #[{ on := 27, ground := Ground.data }, { on := 22, ground := Ground.chain }, { on := 22, ground := Ground.guard }], guard := some (22, true) }) (v := _) rfl (by kernel_rfl) (by kernel_rfl) (by kernel_rfl) (fun _ _ _ h => h) (Or.inl ⟨by rfl, ?hy28⟩) hHeld ?rest28
    case' hy28 =>
      intro w' hSw
      (try dsimp only at hSw)
      first | (go_simp; done) | (go_simp; with_reducible rfl)
    simp only [Act.put, List.setIfInBounds_toArray, List.set_cons_zero, List.set_cons_succ]
    refine' wpAnyH_take (i := 29) (oi := { dst := some 306, op := Op.move (Operand.tmp 3), type := 49, pos := _, after := #[{ on := 28, ground := Ground.guard }], guard := some (28, true) }) (v := _) rfl (by kernel_rfl) (by kernel_rfl) (by kernel_rfl) (fun _ _ _ h => h) (Or.inl ⟨by rfl, ?hy29⟩) hHeld ?rest29
    case' hy29 =>
      intro w' hSw
      (try dsimp only at hSw)
      first | (go_simp; done) | (go_simp; with_reducible rfl)
    simp only [Act.put, List.setIfInBounds_toArray, List.set_cons_zero, List.set_cons_succ]
    refine' wpAnyH_take (i := 30) (oi := { dst := some 307, op := Op.indexAddr 49 (Operand.tmp 306) (Operand.const (Value.int IntKind.i64 5)), type := 0, pos := _, after := #[{ on := 29, ground := Ground.data }, { on := 28, ground := Ground.guard }], guard := some (28, true) }) (v := _) rfl (by kernel_rfl) (by kernel_rfl) (by kernel_rfl) (fun _ _ _ h => h) (Or.inl ⟨by rfl, ?hy30⟩) hHeld ?rest30
    case' hy30 =>
      intro w' hSw
      (try dsimp only at hSw)
      first | (go_simp; done) | (go_simp; with_reducible rfl)
    simp only [Act.put, List.setIfInBounds_toArray, List.set_cons_zero, List.set_cons_succ]
    refine' wpAnyH_take (i := 31) (oi := { dst := some 308, op := Op.fieldAddr 52 (Operand.tmp 307) 1, type := 0, pos := _, after := #[{ on := 30, ground := Ground.data }, { on := 28, ground := Ground.guard }], guard := some (28, true) }) (v := _) rfl (by kernel_rfl) (by kernel_rfl) (by kernel_rfl) (fun _ _ _ h => h) (Or.inl ⟨by rfl, ?hy31⟩) hHeld ?rest31
    case' hy31 =>
      intro w' hSw
      (try dsimp only at hSw)
      first | (go_simp; done) | (go_simp; with_reducible rfl)
    simp only [Act.put, List.setIfInBounds_toArray, List.set_cons_zero, List.set_cons_succ]
    refine' wpAnyH_take (i := 32) (oi := { dst := some 309, op := Op.load 3 (Operand.tmp 308), type := 3, pos := _, after := #[{ on := 31, ground := Ground.data }, { on := 28, ground := Ground.guard }], guard := some (28, true) }) (v := _) rfl (by kernel_rfl) (by kernel_rfl) (by kernel_rfl) (fun _ _ _ h => h) (Or.inl ⟨by rfl, ?hy32⟩) hHeld ?rest32
    case' hy32 =>
      intro w' hSw
      (try dsimp only at hSw)
      first | (go_simp; done) | (go_simp; with_reducible rfl)
    simp only [Act.put, List.setIfInBounds_toArray, List.set_cons_zero, List.set_cons_succ]
    refine' wpAnyH_take (i := 33) (oi := { dst := some 310, op := Op.binOp BinOp.eql 3 (Operand.tmp 309) (Operand.const (Value.int IntKind.i64 81)) 3, type := 4, pos := _, after := #[{ on := 32, ground := Ground.data }, { on := 28, ground := Ground.guard }], guard := some (28, true) }) (v := _) rfl (by kernel_rfl) (by kernel_rfl) (by kernel_rfl) (fun _ _ _ h => h) (Or.inl ⟨by rfl, ?hy33⟩) hHeld ?rest33
    case' hy33 =>
      intro w' hSw
      (try dsimp only at hSw)
      first | (go_simp; done) | (go_simp; with_reducible rfl)
    simp only [Act.put, List.setIfInBounds_toArray, List.set_cons_zero, List.set_cons_succ]
    refine' wpAnyH_take (i := 34) (oi := { dst := some 311, op := Op.pick (Operand.tmp 305) (Operand.tmp 310) (Operand.const (Value.bool false)), type := 4, pos := _, after := #[{ on := 28, ground := Ground.data }, { on := 33, ground := Ground.data }, { on := 22, ground := Ground.guard }], guard := some (22, true) }) (v := _) rfl (by kernel_rfl) (by kernel_rfl) (by kernel_rfl) (fun _ _ _ h => h) (Or.inl ⟨by rfl, ?hy34⟩) hHeld ?rest34
    case' hy34 =>
      intro w' hSw
      (try dsimp only at hSw)
      first | (go_simp; done) | (go_simp; with_reducible rfl)
    simp only [Act.put, List.setIfInBounds_toArray, List.set_cons_zero, List.set_cons_succ]
    refine' wpAnyH_take (i := 35) (oi := { dst := some 312, op := Op.move (Operand.tmp 311), type := 4, pos := _, after := #[{ on := 34, ground := Ground.data }, { on := 28, ground := Ground.chain }, { on := 22, ground := Ground.guard }], guard := some (22, true) }) (v := _) rfl (by kernel_rfl) (by kernel_rfl) (by kernel_rfl) (fun _ _ _ h => h) (Or.inl ⟨by rfl, ?hy35⟩) hHeld ?rest35
    case' hy35 =>
      intro w' hSw
      (try dsimp only at hSw)
      first | (go_simp; done) | (go_simp; with_reducible rfl)
    simp only [Act.put, List.setIfInBounds_toArray, List.set_cons_zero, List.set_cons_succ]
    refine wpAnyH_take (i := 36) (oi := { dst := some 313, op := Op.fieldAddr 48 (Operand.tmp 1) 5, type := 0, pos := _, after := #[{ on := 35, ground := Ground.guard }], guard := some (35, false) }) (v := undef) rfl (by kernel_rfl) (by kernel_rfl) (by kernel_rfl) (fun _ _ _ h => h) (Or.inr ⟨by rfl, rfl⟩) hHeld ?_
    simp only [Act.put, List.setIfInBounds_toArray, List.set_cons_zero, List.set_cons_succ]
    refine wpAnyH_take (i := 37) (oi := { dst := some 314, op := Op.fieldAddr 40 (Operand.tmp 313) 1, type := 0, pos := _, after := #[{ on := 36, ground := Ground.data }, { on := 35, ground := Ground.guard }], guard := some (35, false) }) (v := undef) rfl (by kernel_rfl) (by kernel_rfl) (by kernel_rfl) (fun _ _ _ h => h) (Or.inr ⟨by rfl, rfl⟩) hHeld ?_
    simp only [Act.put, List.setIfInBounds_toArray, List.set_cons_zero, List.set_cons_succ]
    refine wpAnyH_take (i := 38) (oi := { dst := some 315, op := Op.load 38 (Operand.tmp 314), type := 38, pos := _, after := #[{ on := 37, ground := Ground.data }, { on := 35, ground := Ground.guard }], guard := some (35, false) }) (v := undef) rfl (by kernel_rfl) (by kernel_rfl) (by kernel_rfl) (fun _ _ _ h => h) (Or.inr ⟨by rfl, rfl⟩) hHeld ?_
    simp only [Act.put, List.setIfInBounds_toArray, List.set_cons_zero, List.set_cons_succ]
    refine wpAnyH_take (i := 39) (oi := { dst := some 316, op := Op.call { callee := Callee.builtin Builtin.len, args := #[Operand.tmp 315], argTypes := #[38] }, type := 3, pos := _, after := #[{ on := 38, ground := Ground.data }, { on := 35, ground := Ground.guard }], guard := some (35, false) }) (v := undef) rfl (by kernel_rfl) (by kernel_rfl) (by kernel_rfl) (fun _ _ _ h => h) (Or.inr ⟨by rfl, rfl⟩) hHeld ?_
    simp only [Act.put, List.setIfInBounds_toArray, List.set_cons_zero, List.set_cons_succ]
    refine wpAnyH_take (i := 40) (oi := { dst := some 317, op := Op.binOp BinOp.gtr 3 (Operand.tmp 316) (Operand.const (Value.int IntKind.i64 0)) 3, type := 4, pos := _, after := #[{ on := 39, ground := Ground.data }, { on := 35, ground := Ground.guard }], guard := some (35, false) }) (v := undef) rfl (by kernel_rfl) (by kernel_rfl) (by kernel_rfl) (fun _ _ _ h => h) (Or.inr ⟨by rfl, rfl⟩) hHeld ?_
    simp only [Act.put, List.setIfInBounds_toArray, List.set_cons_zero, List.set_cons_succ]
    refine wpAnyH_take (i := 41) (oi := { dst := some 318, op := Op.move (Operand.tmp 317), type := 4, pos := _, after := #[{ on := 40, ground := Ground.data }, { on := 35, ground := Ground.chain }, { on := 35, ground := Ground.guard }], guard := some (35, false) }) (v := undef) rfl (by kernel_rfl) (by kernel_rfl) (by kernel_rfl) (fun _ _ _ h => h) (Or.inr ⟨by rfl, rfl⟩) hHeld ?_
    simp only [Act.put, List.setIfInBounds_toArray, List.set_cons_zero, List.set_cons_succ]
    refine wpAnyH_take (i := 42) (oi := { dst := some 319, op := Op.move (Operand.tmp 3), type := 49, pos := _, after := #[{ on := 41, ground := Ground.guard }], guard := some (41, true) }) (v := undef) rfl (by kernel_rfl) (by kernel_rfl) (by kernel_rfl) (fun _ _ _ h => h) (Or.inr ⟨by rfl, rfl⟩) hHeld ?_
    simp only [Act.put, List.setIfInBounds_toArray, List.set_cons_zero, List.set_cons_succ]
    refine wpAnyH_take (i := 43) (oi := { dst := some 320, op := Op.indexAddr 49 (Operand.tmp 319) (Operand.const (Value.int IntKind.i64 5)), type := 0, pos := _, after := #[{ on := 42, ground := Ground.data }, { on := 41, ground := Ground.guard }], guard := some (41, true) }) (v := undef) rfl (by kernel_rfl) (by kernel_rfl) (by kernel_rfl) (fun _ _ _ h => h) (Or.inr ⟨by rfl, rfl⟩) hHeld ?_
    simp only [Act.put, List.setIfInBounds_toArray, List.set_cons_zero, List.set_cons_succ]
    refine wpAnyH_take (i := 44) (oi := { dst := some 321, op := Op.fieldAddr 52 (Operand.tmp 320) 1, type := 0, pos := _, after := #[{ on := 43, ground := Ground.data }, { on := 41, ground := Ground.guard }], guard := some (41, true) }) (v := undef) rfl (by kernel_rfl) (by kernel_rfl) (by kernel_rfl) (fun _ _ _ h => h) (Or.inr ⟨by rfl, rfl⟩) hHeld ?_
    simp only [Act.put, List.setIfInBounds_toArray, List.set_cons_zero, List.set_cons_succ]
    refine wpAnyH_take (i := 45) (oi := { dst := some 322, op := Op.load 3 (Operand.tmp 321), type := 3, pos := _, after := #[{ on := 44, ground := Ground.data }, { on := 41, ground := Ground.guard }], guard := some (41, true) }) (v := undef) rfl (by kernel_rfl) (by kernel_rfl) (by kernel_rfl) (fun _ _ _ h => h) (Or.inr ⟨by rfl, rfl⟩) hHeld ?_
    simp only [Act.put, List.setIfInBounds_toArray, List.set_cons_zero, List.set_cons_succ]
    refine wpAnyH_take (i := 46) (oi := { dst := some 323, op := Op.binOp BinOp.eql 3 (Operand.tmp 322) (Operand.const (Value.int IntKind.i64 0)) 3, type := 4, pos := _, after := #[{ on := 45, ground := Ground.data }, { on := 41, ground := Ground.guard }], guard := some (41, true) }) (v := undef) rfl (by kernel_rfl) (by kernel_rfl) (by kernel_rfl) (fun _ _ _ h => h) (Or.inr ⟨by rfl, rfl⟩) hHeld ?_
    simp only [Act.put, List.setIfInBounds_toArray, List.set_cons_zero, List.set_cons_succ]
    refine wpAnyH_take (i := 47) (oi := { dst := some 324, op := Op.fieldAddr 48 (Operand.tmp 1) 6, type := 0, pos := _, after := #[{ on := 41, ground := Ground.guard }], guard := some (41, true) }) (v := undef) rfl (by kernel_rfl) (by kernel_rfl) (by kernel_rfl) (fun _ _ _ h => h) (Or.inr ⟨by rfl, rfl⟩) hHeld ?_
    simp only [Act.put, List.setIfInBounds_toArray, List.set_cons_zero, List.set_cons_succ]
    refine wpAnyH_take (i := 48) (oi := { dst := some 325, op := Op.load 4 (Operand.tmp 324), type := 4, pos := _, after := #[{ on := 47, ground := Ground.data }, { on := 41, ground := Ground.guard }], guard := some (41, true) }) (v := undef) rfl (by kernel_rfl) (by kernel_rfl) (by kernel_rfl) (fun _ _ _ h => h) (Or.inr ⟨by rfl, rfl⟩) hHeld ?_
    simp only [Act.put, List.setIfInBounds_toArray, List.set_cons_zero, List.set_cons_succ]
    refine wpAnyH_take (i := 49) (oi := { dst := some 326, op := Op.move (Operand.tmp 325), type := 4, pos := _, after := #[{ on := 48, ground := Ground.data }, { on := 41, ground := Ground.chain }, { on := 41, ground := Ground.guard }], guard := some (41, true) }) (v := undef) rfl (by kernel_rfl) (by kernel_rfl) (by kernel_rfl) (fun _ _ _ h => h) (Or.inr ⟨by rfl, rfl⟩) hHeld ?_
    simp only [Act.put, List.setIfInBounds_toArray, List.set_cons_zero, List.set_cons_succ]
    refine wpAnyH_take (i := 50) (oi := { dst := some 327, op := Op.fieldAddr 48 (Operand.tmp 1) 5, type := 0, pos := _, after := #[{ on := 49, ground := Ground.guard }], guard := some (49, false) }) (v := undef) rfl (by kernel_rfl) (by kernel_rfl) (by kernel_rfl) (fun _ _ _ h => h) (Or.inr ⟨by rfl, rfl⟩) hHeld ?_
    simp only [Act.put, List.setIfInBounds_toArray, List.set_cons_zero, List.set_cons_succ]
    refine wpAnyH_take (i := 51) (oi := { dst := some 328, op := Op.fieldAddr 40 (Operand.tmp 327) 1, type := 0, pos := _, after := #[{ on := 50, ground := Ground.data }, { on := 49, ground := Ground.guard }], guard := some (49, false) }) (v := undef) rfl (by kernel_rfl) (by kernel_rfl) (by kernel_rfl) (fun _ _ _ h => h) (Or.inr ⟨by rfl, rfl⟩) hHeld ?_
    simp only [Act.put, List.setIfInBounds_toArray, List.set_cons_zero, List.set_cons_succ]
    refine wpAnyH_take (i := 52) (oi := { dst := some 329, op := Op.load 38 (Operand.tmp 328), type := 38, pos := _, after := #[{ on := 51, ground := Ground.data }, { on := 49, ground := Ground.guard }], guard := some (49, false) }) (v := undef) rfl (by kernel_rfl) (by kernel_rfl) (by kernel_rfl) (fun _ _ _ h => h) (Or.inr ⟨by rfl, rfl⟩) hHeld ?_
    simp only [Act.put, List.setIfInBounds_toArray, List.set_cons_zero, List.set_cons_succ]
    refine wpAnyH_take (i := 53) (oi := { dst := some 330, op := Op.call { callee := Callee.value (Operand.func 25), args := #[Operand.tmp 329], argTypes := #[38] }, type := 4, pos := _, after := #[{ on := 52, ground := Ground.data }, { on := 49, ground := Ground.chain }, { on := 49, ground := Ground.guard }], guard := some (49, false) }) (v := undef) rfl (by kernel_rfl) (by kernel_rfl) (by kernel_rfl) (fun _ _ _ h => h) (Or.inr ⟨by rfl, rfl⟩) hHeld ?_
    simp only [Act.put, List.setIfInBounds_toArray, List.set_cons_zero, List.set_cons_succ]
    refine wpAnyH_take (i := 54) (oi := { dst := some 331, op := Op.pick (Operand.tmp 326) (Operand.const (Value.bool true)) (Operand.tmp 330), type := 4, pos := _, after := #[{ on := 49, ground := Ground.data }, { on := 53, ground := Ground.data }, { on := 41, ground := Ground.guard }], guard := some (41, true) }) (v := undef) rfl (by kernel_rfl) (by kernel_rfl) (by kernel_rfl) (fun _ _ _ h => h) (Or.inr ⟨by rfl, rfl⟩) hHeld ?_
    simp only [Act.put, List.setIfInBounds_toArray, List.set_cons_zero, List.set_cons_succ]
    refine wpAnyH_take (i := 55) (oi := { dst := some 332, op := Op.binOp BinOp.eql 4 (Operand.tmp 323) (Operand.tmp 331) 4, type := 4, pos := _, after := #[{ on := 46, ground := Ground.data }, { on := 54, ground := Ground.data }, { on := 41, ground := Ground.guard }], guard := some (41, true) }) (v := undef) rfl (by kernel_rfl) (by kernel_rfl) (by kernel_rfl) (fun _ _ _ h => h) (Or.inr ⟨by rfl, rfl⟩) hHeld ?_
    simp only [Act.put, List.setIfInBounds_toArray, List.set_cons_zero, List.set_cons_succ]
    refine wpAnyH_take (i := 56) (oi := { dst := some 333, op := Op.pick (Operand.tmp 318) (Operand.tmp 332) (Operand.const (Value.bool false)), type := 4, pos := _, after := #[{ on := 41, ground := Ground.data }, { on := 55, ground := Ground.data }, { on := 35, ground := Ground.guard }], guard := some (35, false) }) (v := undef) rfl (by kernel_rfl) (by kernel_rfl) (by kernel_rfl) (fun _ _ _ h => h) (Or.inr ⟨by rfl, rfl⟩) hHeld ?_
    simp only [Act.put, List.setIfInBounds_toArray, List.set_cons_zero, List.set_cons_succ]
    refine' wpAnyH_take (i := 57) (oi := { dst := some 334, op := Op.pick (Operand.tmp 312) (Operand.const (Value.bool true)) (Operand.tmp 333), type := 4, pos := _, after := #[{ on := 35, ground := Ground.data }, { on := 56, ground := Ground.data }, { on := 22, ground := Ground.guard }], guard := some (22, true) }) (v := _) rfl (by kernel_rfl) (by kernel_rfl) (by kernel_rfl) (fun _ _ _ h => h) (Or.inl ⟨by rfl, ?hy57⟩) hHeld ?rest57
    case' hy57 =>
      intro w' hSw
      (try dsimp only at hSw)
      first | (go_simp; done) | (go_simp; with_reducible rfl)
    simp only [Act.put, List.setIfInBounds_toArray, List.set_cons_zero, List.set_cons_succ]
    refine' wpAnyH_take (i := 58) (oi := { dst := some 335, op := Op.pick (Operand.tmp 299) (Operand.tmp 334) (Operand.const (Value.bool false)), type := 4, pos := _, after := #[{ on := 22, ground := Ground.data }, { on := 57, ground := Ground.data }], guard := none }) (v := _) rfl (by kernel_rfl) (by kernel_rfl) (by kernel_rfl) (fun _ _ _ h => h) (Or.inl ⟨by rfl, ?hy58⟩) hHeld ?rest58
    case' hy58 =>
      intro w' hSw
      (try dsimp only at hSw)
      first | (go_simp; done) | (go_simp; with_reducible rfl)
    simp only [Act.put, List.setIfInBounds_toArray, List.set_cons_zero, List.set_cons_succ]
    refine' wpAnyH_take (i := 59) (oi := { dst := some 336, op := Op.move (Operand.tmp 335), type := 4, pos := _, after := #[{ on := 58, ground := Ground.data }, { on := 53, ground := Ground.chain }], guard := none }) (v := _) rfl (by kernel_rfl) (by kernel_rfl) (by kernel_rfl) (fun _ _ _ h => h) (Or.inl ⟨by rfl, ?hy59⟩) hHeld ?rest59
    case' hy59 =>
      intro w' hSw
      (try dsimp only at hSw)
      first | (go_simp; done) | (go_simp; with_reducible rfl)
    simp only [Act.put, List.setIfInBounds_toArray, List.set_cons_zero, List.set_cons_succ]
    refine wpAnyH_ready (rs := [60]) (by kernel_rfl) (by simp) ?_
    refine AllReadyH.cons (o := { dst := some 337, op := Op.call { callee := Callee.value (Operand.func 10), args := #[], argTypes := #[] }, type := 4, pos := _, after := #[{ on := 59, ground := Ground.chain }, { on := 59, ground := Ground.guard }], guard := some (59, true) }) rfl (fun K hK => ?_) AllReadyH.nil
    go_simp
    refine Calls.mono (HAl.out _ HBd.out) ?_
    rintro e W9 ⟨rfl, hb5⟩
    have hs1 := hSl W9 hb5
    have HB9 : Hid _ := hb5
    clear hb5
    go_wp2_with fail
    refine hK.out _ _ ?hS60 (fun hHeld => ?rest60)
    case hS60 => exact hs1
    clear hK K
    refine' wpAnyH_take (i := 61) (oi := { dst := some 338, op := Op.pick (Operand.tmp 336) (Operand.tmp 337) (Operand.const (Value.bool false)), type := 4, pos := _, after := #[{ on := 59, ground := Ground.data }, { on := 60, ground := Ground.data }], guard := none }) (v := _) rfl (by kernel_rfl) (by kernel_rfl) (by kernel_rfl) (fun _ _ _ h => h) (Or.inl ⟨by rfl, ?hy61⟩) hHeld ?rest61
    case' hy61 =>
      intro w' hSw
      (try dsimp only at hSw)
      first | (go_simp; done) | (go_simp; with_reducible rfl)
    simp only [Act.put, List.setIfInBounds_toArray, List.set_cons_zero, List.set_cons_succ]
    refine' wpAnyH_take (i := 62) (oi := { dst := some 2, op := Op.assign (Operand.tmp 338), type := 4, pos := _, after := #[{ on := 61, ground := Ground.data }, { on := 60, ground := Ground.chain }, { on := 0, ground := Ground.phase }, { on := 1, ground := Ground.phase }, { on := 2, ground := Ground.phase }, { on := 3, ground := Ground.phase }, { on := 4, ground := Ground.phase }, { on := 5, ground := Ground.phase }, { on := 6, ground := Ground.phase }, { on := 7, ground := Ground.phase }, { on := 8, ground := Ground.phase }, { on := 9, ground := Ground.phase }, { on := 10, ground := Ground.phase }, { on := 11, ground := Ground.phase }, { on := 12, ground := Ground.phase }, { on := 13, ground := Ground.phase }, { on := 14, ground := Ground.phase }, { on := 15, ground := Ground.phase }, { on := 16, ground := Ground.phase }, { on := 17, ground := Ground.phase }, { on := 18, ground := Ground.phase }, { on := 19, ground := Ground.phase }, { on := 20, ground := Ground.phase }, { on := 21, ground := Ground.phase }, { on := 22, ground := Ground.phase }, { on := 23, ground := Ground.phase }, { on := 24, ground := Ground.phase }, { on := 25, ground := Ground.phase }, { on := 26, ground := Ground.phase }, { on := 27, ground := Ground.phase }, { on := 28, ground := Ground.phase }, { on := 29, ground := Ground.phase }, { on := 30, ground := Ground.phase }, { on := 31, ground := Ground.phase }, { on := 32, ground := Ground.phase }, { on := 33, ground := Ground.phase }, { on := 34, ground := Ground.phase }, { on := 35, ground := Ground.phase }, { on := 36, ground := Ground.phase }, { on := 37, ground := Ground.phase }, { on := 38, ground := Ground.phase }, { on := 39, ground := Ground.phase }, { on := 40, ground := Ground.phase }, { on := 41, ground := Ground.phase }, { on := 42, ground := Ground.phase }, { on := 43, ground := Ground.phase }, { on := 44, ground := Ground.phase }, { on := 45, ground := Ground.phase }, { on := 46, ground := Ground.phase }, { on := 47, ground := Ground.phase }, { on := 48, ground := Ground.phase }, { on := 49, ground := Ground.phase }, { on := 50, ground := Ground.phase }, { on := 51, ground := Ground.phase }, { on := 52, ground := Ground.phase }, { on := 53, ground := Ground.phase }, { on := 54, ground := Ground.phase }, { on := 55, ground := Ground.phase }, { on := 56, ground := Ground.phase }, { on := 57, ground := Ground.phase }, { on := 58, ground := Ground.phase }, { on := 59, ground := Ground.phase }, { on := 60, ground := Ground.phase }, { on := 61, ground := Ground.phase }], guard := none }) (v := _) rfl (by kernel_rfl) (by kernel_rfl) (by kernel_rfl) (fun _ _ _ h => h) (Or.inl ⟨by rfl, ?hy62⟩) hHeld ?rest62
    case' hy62 =>
      intro w' hSw
      (try dsimp only at hSw)
      first | (go_simp; done) | (go_simp; with_reducible rfl)
    simp only [Act.put, List.setIfInBounds_toArray, List.set_cons_zero, List.set_cons_succ]
    refine wpAnyH_done (by kernel_rfl) ?_ _
    all_goals go_wp2
    all_goals go_ret
    all_goals exact ⟨rfl, HBd.out.trans (HB9.out.mono HBd.out.size)⟩
  · exact absurd HCs.out h6
end Go.Proofs.YtjikibhhhchgeaaDoor
