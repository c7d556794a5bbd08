import Derived.Test.YthmonfmpgjbhmaazMO
namespace Go.Proofs.Ythmonfmpgjbhmaa.K
open Go.RowKit Go.Maps Go.Proofs.Ythmonfmpgjbhmaa
attribute [local go_sem] Oper.semAt_some
set_option linter.unusedVariables false
set_option linter.unusedSimpArgs false
set_option maxRecDepth 100000

theorem news_two (W : World) (v u : Value) : ∀ j x, [v, u][j]? = some x → (W.alloc (.cells #[v, u] 5)).cell? ((⟨W.heap.size, 0, none⟩ : Addr).add j) = some x := by
  intro j x hx
  rw [add_plain, Nat.zero_add, cell_of (heap_alloc_new W _)]
  simpa using hx
/-- the bytes with two marks behind them -/
structure Full (W w' : World) (g c m : Nat) (l : List Nat) : Prop where
  new : W.heap.size ≤ g
  blk : ∃ cur, w'.heap[g]? = some (.cells cur 5) ∧ ∀ (j x : Nat), (l ++ [90, 91])[j]? = some x → cur[j]? = some (bv x)
  cp : m + 2 ≤ c
theorem Full.brow {W w' : World} {g c m : Nat} {l : List Nat} (h : Full W w' g c m l) (hlt : ∀ x ∈ l, x < 256) (hlen : l.length ≤ 140737488351232) : BRow w' (some ⟨g, 0, none⟩) c l := by
  obtain ⟨cur, hb, hc⟩ := h.blk
  refine ⟨hlt, hlen, (fun e => by cases e), fun _ => ⟨g, 0, rfl, fun k hk => ?_⟩⟩
  rw [Nat.zero_add, cell_of hb]
  exact hc k _ (by rw [List.getElem?_append_left hk, List.getElem?_eq_getElem hk])
theorem Full.marks {W w' : World} {g c m : Nat} {l : List Nat} (h : Full W w' g c m l) (hm : l.length = m) : w'.cell? ⟨g, m, none⟩ = some (.int .u8 90) ∧ w'.cell? ⟨g, m + 1, none⟩ = some (.int .u8 91) := by
  obtain ⟨cur, hb, hc⟩ := h.blk
  subst hm
  exact ⟨(cell_of hb).trans (hc _ 90 (by simp)), (cell_of hb).trans (hc _ 91 (by simp))⟩
theorem full_of {W w' : World} {v : Value} {m : Nat} {l : List Nat} (hm : l.length = m) (ho : w'.ownsRow W.heap.size 5 1 v (m + 2) (l.map bv ++ [.int .u8 90, .int .u8 91])) : ∃ g c, v = .slice (some ⟨g, 0, none⟩) (m + 2) c ∧ Full W w' g c m l := by
  have e : l.map bv ++ [.int .u8 90, .int .u8 91] = (l ++ [90, 91]).map bv := by simp [bv]
  rw [e] at ho
  obtain ⟨g, c, cur, hv, hg, hk, hc⟩ := own_form ho (by omega)
  refine ⟨g, c, hv, hg, ⟨cur, hk, hc⟩, ?_⟩
  rcases ho.2 with ⟨_, h0'⟩ | ⟨g', cap', cur', hv', _, _, h3⟩
  · omega
  · rw [hv] at hv'; cases hv'; exact h3.1

set_option maxHeartbeats 4000000 in
theorem acts_write {W : World} {b p : Nat} {S : Dk} {N : Nat} {H : List Nat} (h : PP W b p S S N H) (hN : N < 1048576) (osec : Int) (ofill : Nat) (omore fk fsec fa ft : Int) (fl : Bool) (oao : Option Addr) (ocap : Nat) (okeep : List Bool) (hfill : ofill < 256) :
    Calls Try.prog 43 #[.pointer (some ⟨b, 0, none⟩), .pointer (some ⟨p, 0, none⟩), .agg #[.int .i64 2, .int .i64 osec, .int .u8 ofill, .int .i64 omore, .int .i64 fk, .int .i64 fsec, .int .i64 fa, .int .i64 ft, .bool fl, .slice oao okeep.length ocap]] W fun r W' => r = .returned (.bool true) ∧ ∃ S' H', PP W' b p S' S' (N + 1) H' ∧ Mv W W' H H' := by
  have hB0 : Below W.heap.size W (W.alloc (.cells #[.int .i64 2, .int .i64 osec, .int .u8 ofill, .int .i64 omore, .int .i64 fk, .int .i64 fsec, .int .i64 fa, .int .i64 ft, .bool fl, .slice oao okeep.length ocap] TOp)) := (Below.refl _ W).alloc (Nat.le_refl _) _
  obtain ⟨W0, hW0⟩ : ∃ W0, W0 = W.alloc (.cells #[.int .i64 2, .int .i64 osec, .int .u8 ofill, .int .i64 omore, .int .i64 fk, .int .i64 fsec, .int .i64 fa, .int .i64 ft, .bool fl, .slice oao okeep.length ocap] TOp) := ⟨_, rfl⟩
  rw [← hW0] at hB0
  have HP0 : Hid (PP W0 b p S S N H) := h.later hB0
  have hx0 : W0.heap[W.heap.size]? = some (.cells #[.int .i64 2, .int .i64 osec, .int .u8 ofill, .int .i64 omore, .int .i64 fk, .int .i64 fsec, .int .i64 fa, .int .i64 ft, .bool fl, .slice oao okeep.length ocap] TOp) := by rw [hW0]; exact heap_alloc_new W _
  have HXk : Hid (∀ W' F, Kp W0 W' F → (∀ i ∈ F, i ∈ H ∨ W0.heap.size ≤ i) → W'.heap[W.heap.size]? = some (.cells #[.int .i64 2, .int .i64 osec, .int .u8 ofill, .int .i64 omore, .int .i64 fk, .int .i64 fsec, .int .i64 fa, .int .i64 ft, .bool fl, .slice oao okeep.length ocap] TOp)) := fun W' F hk hs => by
    have hl := (Array.getElem?_eq_some_iff.1 hx0).1
    refine (hk.block _ hl (fun hm => ?_)).trans hx0
    rcases hs _ hm with h1 | h1
    · have := h.lt _ h1; omega
    · omega
  have HMv : Hid (∀ W' H', Mv W0 W' H H' → Mv W W' H H') := fun W' H' hm => ⟨(Kp.of_below hB0 _).trans hm.kp (fun i hi => .inl hi), fun i hi => (hm.sub i hi).imp id (fun h1 => Nat.le_trans hB0.size h1)⟩
  have HW0 : Hid (W0 = W.alloc (.cells #[.int .i64 2, .int .i64 osec, .int .u8 ofill, .int .i64 omore, .int .i64 fk, .int .i64 fsec, .int .i64 fa, .int .i64 ft, .bool fl, .slice oao okeep.length ocap] TOp)) := hW0
  have hq : S.q.length < 1048576 := by have := h.qlen; omega
  have HQ : Hid (S.q.length < 1048576 ∧ ofill < 256) := ⟨hq, hfill⟩
  have HXl : Hid (∀ i ∈ H, i < W.heap.size) := h.lt
  have HXl0 : Hid (W.heap.size ≤ W0.heap.size) := hB0.size
  have hbl0 : 0 < blen omore ∧ blen omore ≤ 1023 := by unfold blen; split <;> omega
  obtain ⟨m, hm⟩ : ∃ m, m = blen omore := ⟨_, rfl⟩
  have HMm : Hid (m = blen omore) := hm
  obtain ⟨bl, hbl⟩ : ∃ bl, bl = bytesL ofill m := ⟨_, rfl⟩
  have HBL : Hid (bl.length = m ∧ ∀ x ∈ bl, x < 256) := by rw [hbl]; exact ⟨bytesL_len _ _, bytesL_lt _ _⟩
  have hm0 : 0 < m := by rw [hm]; exact hbl0.1
  have hm1 : m ≤ 1023 := by rw [hm]; exact hbl0.2
  have hby := fun X : World => bytes_any X ofill omore hfill
  rw [← hm, ← hbl] at hby
  have HBy : Hid (∀ X : World, Calls Try.prog 24 #[.int .u8 ofill, .int .i64 omore] X fun r w' => ∃ v, r = .returned v ∧ w'.ownsRow X.heap.size 5 1 v m (bl.map bv) ∧ Below X.heap.size X w') := hby
  have y2 : W0.cell? ⟨W.heap.size, 2, none⟩ = some (.int .u8 ofill) := (cell_of hx0).trans rfl
  have y3 : W0.cell? ⟨W.heap.size, 3, none⟩ = some (.int .i64 omore) := (cell_of hx0).trans rfl
  clear h hx0 hB0 hW0 hq hm hbl hbl0 hby hfill
  go_enter Try.func43, Try.ntmps43
  go_wp2_with fail
  rw [← HW0.out]
  refine (HBy.out W0).mono ?_
  rintro r W1 ⟨v1, rfl, ho1, hb1⟩
  have HB1 : Hid (Below W0.heap.size W0 W1) := hb1
  obtain ⟨g1, c1, cur1, e1, hg1, hk1, hc1⟩ := own_form ho1 hm0
  subst e1
  have HO1 : Hid (W1.ownsRow W0.heap.size 5 1 (.slice (some ⟨g1, 0, none⟩) m c1) m (bl.map bv) ∧ W0.heap.size ≤ g1) := ⟨ho1, hg1⟩
  have h1x := HXk.out W1 [] (Kp.of_below hb1 _) (by simp)
  have y21 : W1.cell? ⟨W.heap.size, 2, none⟩ = some (.int .u8 ofill) := (cell_of h1x).trans rfl
  have y31 : W1.cell? ⟨W.heap.size, 3, none⟩ = some (.int .i64 omore) := (cell_of h1x).trans rfl
  clear ho1 hb1 hg1 hk1 hc1 h1x
  obtain ⟨i0, hi0, hz0, hz1, hz2⟩ := info_parts info5x
  go_wp2_with fail
  refine (HBy.out W1).mono ?_
  rintro r W2 ⟨v2, rfl, ho2, hb2⟩
  have HB2 : Hid (Below W1.heap.size W1 W2) := hb2
  have HO2 : Hid (W2.ownsRow W1.heap.size 5 1 v2 m (bl.map bv)) := ho2
  obtain ⟨g2, c2, cur2, e2, hg2, _, _⟩ := own_form ho2 hm0
  subst e2
  have HG2 : Hid (W1.heap.size ≤ g2) := hg2
  clear ho2 hb2 hg2
  go_wp2_with (first | (at_builtin; refine wpList_append_own _ rfl _ _ TBs rfl W1.heap.size 5 i0 (.int .u8 0) 1 1 Try.underlying22 hi0 hz0 hz1 hz2 rfl (by decide) (.slice (some ⟨g2, 0, none⟩) m c2) m (bl.map bv) rfl (HO2.out.alloc _) ⟨W2.heap.size, 0, none⟩ 2 2 [.int .u8 90, .int .u8 91] rfl rfl (news_two W2 _ _) (fun u hu => by simp at hu; rcases hu with rfl | rfl <;> rfl) (by unfold maxLen; omega) (by omega) (by rw [World.size_alloc]; have := HB2.out.size; omega) ?_))
  intro v3 W3 ho3 hgr3 _
  obtain ⟨g3, c3, e3, hfull⟩ := full_of (W := W1) HBL.out.1 ho3
  subst e3
  have hB3 : Below W1.heap.size W1 W3 := (HB2.out.alloc (by have := HB2.out.size; omega) _).grown hgr3 (by rw [World.size_alloc]; have := HB2.out.size; omega) (fun k e => by simp [Value.ownBlock] at e; have := HG2.out; omega)
  have HB3 : Hid (Below W1.heap.size W1 W3) := hB3
  have hB03 : Below W0.heap.size W0 W3 := HB1.out.trans (hB3.mono HB1.out.size)
  have HB03 : Hid (Below W0.heap.size W0 W3) := hB03
  have HFu : Hid (Full W1 W3 g3 c3 m bl) := hfull
  have HP3 : Hid (PP W3 b p S S N H) := HP0.out.later hB03
  have hcp := hfull.cp
  have HG3 : Hid (W1.heap.size ≤ g3 ∧ g3 < W3.heap.size ∧ W0.heap.size ≤ g3) := by
    obtain ⟨cur, hcu, _⟩ := hfull.blk
    have h1 := hfull.new
    have h2 := HB1.out.size
    exact ⟨h1, (Array.getElem?_eq_some_iff.1 hcu).1, by omega⟩
  have HOut3 : Hid (g3 ∉ H) := fun hm => by have h1 := HXl.out _ hm; have h2 := HXl0.out; have h3 := HG3.out.2.2; omega
  have HOut1 : Hid (g1 ∉ H ∧ g1 < W1.heap.size) := ⟨fun hm => by have h1 := HXl.out _ hm; have h2 := HXl0.out; have h3 := HO1.out.2; omega, (row_lt HO1.out.1 g1 rfl).1⟩
  have y13 : W3.cell? ⟨W.heap.size, 1, none⟩ = some (.int .i64 osec) := (cell_of (HXk.out W3 [] (Kp.of_below hB03 _) (by simp))).trans rfl
  have hwD := (HP3.out.later (below_drew W3)).writeD HQ.out.1 osec (l := bl) HBL.out.2 HBL.out.1 (by omega) (sb := g3) (so := 0) (cap := c3) (fun j v hv => by
    obtain ⟨cur, hcu, hcc⟩ := HFu.out.blk
    rw [List.getElem?_map] at hv
    obtain ⟨x, hx, rfl⟩ := Option.map_eq_some_iff.1 hv
    rw [Nat.zero_add]
    show W3.cell? _ = _
    rw [cell_of hcu]
    exact hcc j x (by rw [List.getElem?_append_left (List.getElem?_eq_some_iff.1 hx).1]; exact hx)) HOut3.out
  have k1 : (m : Int) ≤ (c3 : Int) := by omega
  have k2 : ¬ (c3 = 0) := by omega
  have HWD : Hid (Calls Try.prog 23 #[.pointer (some ⟨b, 0, none⟩), .int .i64 osec, .slice (some ⟨g3, 0, none⟩) m c3] W3.drew fun r W' => r = .returned (.int .i64 (wrE S osec bl)) ∧ ∃ H', PP W' b p (wrS S osec bl) S N H' ∧ Mv W3.drew W' H H') := hwD
  clear ho3 hgr3 hfull hB3 hB03 y2 y3 y21 y31 hwD
  go_wp2
  go_region_held3 (fun w' => w'.cell? ⟨W.heap.size, 1, none⟩ = some (.int .i64 osec)) (first | exact y13 | exact y14 | go_keep) (first | (go_at_call 23; refine HWD.out.mono ?_; rintro r W4 ⟨rfl, H4, hp4, hmd4⟩; have HP4 : Hid (PP W4 b p (wrS S osec bl) S N H4) := hp4; have hm4 : Mv W3 W4 H H4 := ⟨(Kp.of_below (below_drew W3) _).trans hmd4.kp (fun i hi => .inl hi), hmd4.sub⟩; have HM4 : Hid (Mv W3 W4 H H4) := hm4; have HK04 : Hid (Kp W0 W4 H) := (Kp.of_below HB03.out _).trans hm4.kp (fun i hi => .inl hi); have y14 : W4.cell? ⟨W.heap.size, 1, none⟩ = some (.int .i64 osec) := (cell_of (HXk.out W4 H HK04.out (fun i hi => .inl hi))).trans rfl; clear hp4 hmd4 hm4))
  have hm4 := HM4.out
  have ho14 : W4.ownsRow W0.heap.size 5 1 (.slice (some ⟨g1, 0, none⟩) m c1) m (bl.map bv) := ownsRow_block HO1.out.1 (fun g e => by
    simp [Value.ownBlock] at e
    subst e
    exact (hm4.kp.block g1 (Nat.lt_of_lt_of_le HOut1.out.2 HB3.out.size) HOut1.out.1).trans (HB3.out.block g1 HOut1.out.2))
  have HO14 : Hid (W4.ownsRow W0.heap.size 5 1 (.slice (some ⟨g1, 0, none⟩) m c1) m (bl.map bv)) := ho14
  have hbr4 : BRow W4 (some ⟨g1, 0, none⟩) c1 bl := by
    obtain ⟨ao, cc, e, hb⟩ := own_brow ho14 HBL.out.1 HBL.out.2 (by omega)
    simp at e
    obtain ⟨rfl, rfl⟩ := e
    exact hb
  have hwR := HP4.out.writeR hN osec HBL.out.1 hbr4 (fun hm => by
    rcases hm4.sub _ hm with h1 | h1
    · exact HOut1.out.1 h1
    · have h2 := HOut1.out.2
      have h3 := HB3.out.size
      have h4 : W3.heap.size ≤ g1 := h1
      omega)
  clear hm4 ho14 hbr4 y13
  go_wp2_with fail
  refine hwR.mono ?_
  clear hwR
  rintro r W5 ⟨rfl, H5, hp5, hm5⟩
  have HP5 : Hid (PP W5 b p (wrS S osec bl) (wrS S osec bl) (N + 1) H5) := hp5
  have HM35 : Hid (Mv W3 W5 H H5) := HM4.out.trans hm5
  have HM5 : Hid (Mv W W5 H H5) := HMv.out W5 H5 ⟨(Kp.of_below HB03.out _).trans HM35.out.kp (fun i hi => .inl hi), fun i hi => (HM35.out.sub i hi).imp id (fun h1 => Nat.le_trans HB03.out.size h1)⟩
  have HO5 : Hid (g3 ∉ H5) := fun hm => by
    rcases HM35.out.sub _ hm with h1 | h1
    · exact HOut3.out h1
    · have := HG3.out.2.1; omega
  have hF5 : Full W1 W5 g3 c3 m bl := by
    obtain ⟨cur, hcu, hcc⟩ := HFu.out.blk
    exact ⟨HFu.out.new, ⟨cur, (HM35.out.kp.block g3 HG3.out.2.1 HOut3.out).trans hcu, hcc⟩, HFu.out.cp⟩
  have HF5 : Hid (Full W1 W5 g3 c3 m bl) := hF5
  have hbr1 : BRow W5 (some ⟨g1, 0, none⟩) c1 bl := by
    have h1 := ownsRow_block HO14.out (w' := W5) (fun g e => by
      simp [Value.ownBlock] at e
      subst e
      refine hm5.kp.block g1 (row_lt HO14.out g1 rfl).1 (fun hm => ?_)
      rcases HM4.out.sub _ hm with h1 | h1
      · exact HOut1.out.1 h1
      · have h2 := HOut1.out.2
        have h3 := HB3.out.size
        omega)
    obtain ⟨ao, cc, e, hb⟩ := own_brow h1 HBL.out.1 HBL.out.2 (by omega)
    simp at e
    obtain ⟨rfl, rfl⟩ := e
    exact hb
  have hsm := same_any _ _ _ _ bl bl W5 (hF5.brow HBL.out.2 (by rw [HBL.out.1]; omega)) hbr1
  rw [HBL.out.1, decide_eq_true rfl] at hsm
  clear hp5 hm5 hF5 hbr1 y14
  go_wp2_with fail
  refine hsm.mono ?_
  clear hsm
  rintro r W6 ⟨rfl, q6, rfl⟩
  obtain ⟨f90, f91⟩ := HF5.out.marks HBL.out.1
  have k3 : (m : Int) < ((m + 2 : Nat) : Int) := by omega
  have k4 : (m : Int) + 1 < ((m + 2 : Nat) : Int) := by omega
  have k5 : IntKind.i64.wrap ((m : Int) + 1) = (m : Int) + 1 := wrap_id (by omega) (by omega)
  have k6 : ((m : Int) + 1).toNat = m + 1 := by omega
  have k7 : (0 : Int) ≤ (m : Int) + 1 := by omega
  have k8 : (m : Int) + 1 < (m : Int) + 2 := by omega
  go_wp2
  have HS0 : Hid (PP (W5.drewN q6) b p (wrS S osec bl) (wrS S osec bl) (N + 1) H5 ∧ Mv W (W5.drewN q6) H H5 ∧ ∃ cur, (W5.drewN q6).heap[g3]? = some (.cells cur 5 (0, 0)) ∧ m + 2 ≤ cur.size) := by
    obtain ⟨cur, hcu, hcc⟩ := HF5.out.blk
    refine ⟨HP5.out.later (below_drewN W5 q6), HM5.out.later (below_drewN W5 q6), cur, hcu, ?_⟩
    have h1 := hcc (m + 1) 91 (by rw [List.getElem?_append_right (by rw [HBL.out.1]; omega), HBL.out.1]; simp)
    have := (Array.getElem?_eq_some_iff.1 h1).1
    omega
  go_loopw [17] (fun c17 wr => ∃ i : Nat, i ≤ m + 2 ∧ c17 = .int .i64 i ∧ Hid (PP wr b p (wrS S osec bl) (wrS S osec bl) (N + 1) H5 ∧ Mv W wr H H5 ∧ ∃ cur, wr.heap[g3]? = some (.cells cur 5 (0, 0)) ∧ m + 2 ≤ cur.size)) (fun c17 _ => m + 2 - (intOf c17).toNat)
  case atStart => exact ⟨0, Nat.zero_le _, rfl, HS0⟩
  case round =>
    obtain ⟨i, hi, rfl, HS⟩ := hrel
    by_cases hlt : i < m + 2
    · obtain ⟨s1, s2, cur, hcu, hsz⟩ := HS.out
      have hil : (i : Int) < ((m + 2 : Nat) : Int) := by omega
      have hil2 : (i : Int) < (m : Int) + 2 := by omega
      obtain ⟨old, hold⟩ : ∃ old, wr.cell? ⟨g3, i, none⟩ = some old := ⟨_, (cell_of hcu).trans (Array.getElem?_eq_getElem (by omega))⟩
      have hfz : wr.frozen? ⟨g3, i, none⟩ = false := frozen_of hcu
      have HNx : Hid (PP (wr.setCell ⟨g3, i, none⟩ (.int .u8 99)) b p (wrS S osec bl) (wrS S osec bl) (N + 1) H5 ∧ Mv W (wr.setCell ⟨g3, i, none⟩ (.int .u8 99)) H H5 ∧ ∃ cur, (wr.setCell ⟨g3, i, none⟩ (.int .u8 99)).heap[g3]? = some (.cells cur 5 (0, 0)) ∧ m + 2 ≤ cur.size) := by
        refine ⟨s1.kept ((Kp.refl wr [g3]).set (.inl (by simp)) i _) (fun x hx hm => ?_), ⟨s2.kp.set (.inr ?_) i _, s2.sub⟩, _, blk_set hcu i _, by simpa using hsz⟩
        · simp at hm; subst hm; exact HO5.out hx
        · have h1 := HG3.out.2.2
          have h2 := HXl0.out
          omega
      clear s1 s2 hcu
      go_wp2
      go_roundw
      case rel => exact ⟨i + 1, by omega, by go_num, HNx⟩
      case measure => simp [intOf]; omega
    · have hil : ¬ (i : Int) < ((m + 2 : Nat) : Int) := by omega
      have hil2 : ¬ (i : Int) < (m : Int) + 2 := by omega
      go_wp2
      go_ret
      exact ⟨by simp, _, H5, HS.out.1, HS.out.2.1⟩
end Go.Proofs.Ythmonfmpgjbhmaa.K
