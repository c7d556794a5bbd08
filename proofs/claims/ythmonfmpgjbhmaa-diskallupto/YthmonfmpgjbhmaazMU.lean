import Derived.Test.YthmonfmpgjbhmaazMT
namespace Go.Proofs.Ythmonfmpgjbhmaa.K
open Go.RowKit Go.Maps Go.Proofs.Ythmonfmpgjbhmaa
attribute [local go_sem] Oper.semAt_some
set_option linter.unusedVariables false
set_option linter.unusedSimpArgs false
set_option maxRecDepth 100000

theorem Tq.step {W0 wr wx w' : World} {H : List Nat} {B i g1 : Nat} {tv tv' v1 v2 : Value} {A C : List Pv} (h : Tq W0 wr H B tv v1 v2 A C i) (hb : Below wr.heap.size wr wx) (hg : wx.grownBy w' tv.ownBlock) (ho : w'.ownsRow B TBs 1 tv' (i * 2 + 2) ((dvs A C i).map (·.1) ++ [pat A i, pat C i])) (hB : W0.heap.size ≤ B) (hv1 : v1.ownBlock = some g1) (hg1 : W0.heap.size ≤ g1) (hne : v2.ownBlock ≠ some g1) :
    Tq W0 (w'.setCell ⟨g1, i * 2, none⟩ (.int .i64 (-7))) H B tv' v1 v2 A C (i + 1) := by
  obtain ⟨cur, hcu, hsz, hda⟩ := h.r1 g1 hv1
  have hlt := (Array.getElem?_eq_some_iff.1 hcu).1
  have hT : ∀ (x : Nat) (cs : Array Value) (T : TypeId), T ≠ TBs → wr.heap[x]? = some (.cells cs T (0, 0)) → w'.heap[x]? = wr.heap[x]? := fun x cs T hTT hx => by
    have hl := (Array.getElem?_eq_some_iff.1 hx).1
    refine (hg.block x (Nat.lt_of_lt_of_le hl hb.size) (fun e => ?_)).trans (hb.block x hl)
    obtain ⟨_, cs', hc'⟩ := row_lt h.tr x e.symm
    rw [hx] at hc'
    simp at hc'
    exact hTT hc'.2
  have hK : ∀ {T size n : Nat} {v : Value} {xs : List Value}, T ≠ TBs → wr.ownsRow 0 T size v n xs → v.ownBlock ≠ some g1 → (w'.setCell ⟨g1, i * 2, none⟩ (.int .i64 (-7))).ownsRow 0 T size v n xs := fun {T size n v xs} hTT hr hn => ownsRow_block hr (fun x hx => by
    obtain ⟨_, cs, hc⟩ := row_lt hr x hx
    exact (Below.heap_setCell _ _ _ _ (by show x ≠ g1; rintro rfl; exact hn hx)).trans (hT x cs T hTT hc))
  have hD : ∀ x : Pv, wr.ownsRow 0 5 1 x.2.1 512 (x.2.2.map bv) → x.2.1.ownBlock ≠ some g1 := fun x hx e => by
    obtain ⟨_, cs, hc⟩ := row_lt hx g1 e
    rw [hcu] at hc
    simp at hc
    exact absurd hc.2 (by decide)
  refine ⟨?_, ?_, fun g e => ?_, hK (by decide) h.r2 hne, fun x hx => hK (by decide) (h.d1 x hx) (hD x (h.d1 x hx)), fun x hx => hK (by decide) (h.d2 x hx) (hD x (h.d2 x hx))⟩
  · exact ((h.kp.trans (Kp.of_below hb []) (by simp)).grown hg (fun k e => .inr (Nat.le_trans hB (h.tr.lt k e).1))).set (.inr hg1) _ _
  · rw [dvs_succ, show (i + 1) * 2 = i * 2 + 2 by omega]
    refine ownsRow_block ho (fun x hx => Below.heap_setCell _ _ _ _ ?_)
    show x ≠ g1
    rintro rfl
    obtain ⟨_, cs, hc⟩ := row_lt ho x hx
    rw [hT x cur TPt (by decide) hcu, hcu] at hc
    simp at hc
    exact absurd hc.2 (by decide)
  · rw [hv1] at e
    cases e
    refine ⟨_, blk_set ((hT g1 cur TPt (by decide) hcu).trans hcu) _ _, by simpa using hsz, fun j x hx => ?_⟩
    rw [Array.getElem?_setIfInBounds]
    rw [if_neg (by omega)]
    exact hda j x hx
theorem owns_up {w : World} {T size n B : Nat} {v : Value} {xs : List Value} (h : w.ownsRow 0 T size v n xs) (hB : ∀ g, v.ownBlock = some g → B ≤ g) : w.ownsRow B T size v n xs := by
  refine ⟨h.1, ?_⟩
  rcases h.2 with h1 | ⟨g, cap, cur, e, _, h2⟩
  · exact .inl h1
  · exact .inr ⟨g, cap, cur, e, hB g (by rw [e]; rfl), h2⟩
set_option maxHeartbeats 8000000 in
theorem asks_queue {W : World} {b p : Nat} {S : Dk} {N : Nat} {H : List Nat} (h : PP W b p S S N H) (hN : N < 1048576) (osec : Int) (ofill : Nat) (omore fk fsec fa ft : Int) (fl : Bool) (oao : Option Addr) (ocap : Nat) (okeep : List Bool) :
    Calls Try.prog 63 #[.pointer (some ⟨b, 0, none⟩), .pointer (some ⟨p, 0, none⟩), .agg #[.int .i64 7, .int .i64 osec, .int .u8 ofill, .int .i64 omore, .int .i64 fk, .int .i64 fsec, .int .i64 fa, .int .i64 ft, .bool fl, .slice oao okeep.length ocap]] W fun r W' => r = .returned (.bool true) ∧ ∃ S' H', PP W' b p S' S' (N + 1) H' ∧ Mv W W' H H' := by
  have hB0 : Below W.heap.size W (W.alloc (.cells #[.int .i64 7, .int .i64 osec, .int .u8 ofill, .int .i64 omore, .int .i64 fk, .int .i64 fsec, .int .i64 fa, .int .i64 ft, .bool fl, .slice oao okeep.length ocap] TOp)) := (Below.refl _ W).alloc (Nat.le_refl _) _
  obtain ⟨W0, hW0⟩ : ∃ W0, W0 = W.alloc (.cells #[.int .i64 7, .int .i64 osec, .int .u8 ofill, .int .i64 omore, .int .i64 fk, .int .i64 fsec, .int .i64 fa, .int .i64 ft, .bool fl, .slice oao okeep.length ocap] TOp) := ⟨_, rfl⟩
  rw [← hW0] at hB0
  have HP0 : Hid (PP W0 b p S S N H) := h.later hB0
  have HMv : Hid (∀ W' H', Mv W0 W' H H' → Mv W W' H H') := fun W' H' hm => ⟨(Kp.of_below hB0 _).trans hm.kp (fun i hi => .inl hi), fun i hi => (hm.sub i hi).imp id (fun h1 => Nat.le_trans hB0.size h1)⟩
  have HW0 : Hid (W0 = W.alloc (.cells #[.int .i64 7, .int .i64 osec, .int .u8 ofill, .int .i64 omore, .int .i64 fk, .int .i64 fsec, .int .i64 fa, .int .i64 ft, .bool fl, .slice oao okeep.length ocap] TOp)) := hW0
  have HXl : Hid (∀ i ∈ H, i < W0.heap.size) := fun i hi => Nat.lt_of_lt_of_le (h.lt i hi) hB0.size
  have hql : S.q.length ≤ 1048576 := Nat.le_trans h.qlen (by omega)
  have HOk : Hid (∀ x ∈ S.q, OkB x.2) := by
    obtain ⟨rq, Q, _, _, _, e, hok⟩ := h.queueR
    intro x hx
    rw [← e] at hx
    obtain ⟨y, hy, rfl⟩ := List.mem_map.1 hx
    exact hok y hy
  obtain ⟨n, hn⟩ : ∃ n, n = S.q.length := ⟨_, rfl⟩
  have HNn : Hid (S.q.length = n) := hn.symm
  rw [← hn] at hql
  clear h hB0 hW0 hn
  go_enter Try.func63, Try.ntmps63
  go_wp2_with fail
  rw [← HW0.out]
  refine (HP0.out.queueD (by rw [HNn.out]; exact hql)).mono ?_
  rintro r W1 ⟨v1, A, rfl, ht1, he1, hp1, hk1⟩
  have hAl : A.length = n := by have := congrArg List.length he1; rw [List.length_map, HNn.out] at this; exact this
  obtain ⟨a1, c1, e1⟩ := own_slice (by have h1 := ht1.row; rw [hAl] at h1; exact h1)
  subst e1
  have HT1 : Hid (Told W1 W0.heap.size (.slice a1 n c1) A ∧ A.map bare = S.q ∧ A.length = n) := ⟨ht1, he1, hAl⟩
  have HP1 : Hid (PP W1 b p S S N H ∧ Kp W0 W1 H) := ⟨hp1, hk1⟩
  clear ht1 he1 hp1 hk1 hAl
  go_wp2_with fail
  refine (HP1.out.1.queueD (by rw [HNn.out]; exact hql)).mono ?_
  rintro r W2 ⟨v2, C, rfl, ht2, he2, hp2, hk2⟩
  have hCl : C.length = n := by have := congrArg List.length he2; rw [List.length_map, HNn.out] at this; exact this
  obtain ⟨a2, c2, e2⟩ := own_slice (by have h1 := ht2.row; rw [hCl] at h1; exact h1)
  subst e2
  have HL12 : Hid (∀ {T size m : Nat} {v : Value} {xs : List Value}, W1.ownsRow W0.heap.size T size v m xs → W2.ownsRow W0.heap.size T size v m xs) := fun {T size m v xs} hr => ownsRow_block hr (fun g e => hk2.block g (row_lt hr g e).1 (fun hm => by have h1 := HXl.out g hm; have h2 := (hr.lt g e).1; omega))
  have HT2 : Hid (Told W2 W1.heap.size (.slice a2 n c2) C ∧ C.map bare = S.q ∧ C.length = n ∧ Told W2 W0.heap.size (.slice a1 n c1) A) := ⟨ht2, he2, hCl, HL12.out HT1.out.1.row, fun x hx => HL12.out (HT1.out.1.dat x hx), HT1.out.1.two⟩
  have HP2 : Hid (PP W2 b p S S N H ∧ Kp W0 W2 H) := ⟨hp2, HP1.out.2.trans hk2 (fun i hi => .inl hi)⟩
  obtain ⟨rq, Q, hq1, hq2, hq3, hq4, hq5⟩ := hp2.queueR
  have HQ : Hid (W2.ownsRow 0 TPt 2 rq Q.length (qcells Q) ∧ (∀ x ∈ Q, W2.ownsRow 0 5 1 x.2.1 512 (x.2.2.map bv)) ∧ Q.map bare = S.q) := ⟨hq2, hq3, hq4⟩
  have hOkA : ∀ {X : List Pv}, X.map bare = S.q → ∀ x ∈ X, OkB x.2.2 := fun {X} hX x hx => HOk.out (bare x) (by rw [← hX]; exact List.mem_map_of_mem hx)
  have HS1 : Hid (Calls Try.prog 76 #[.slice a1 n c1, rq] W2 fun r W' => r = .returned (.bool true) ∧ Below W2.heap.size W2 W') :=
    SamePuts_yes (A := A) (Q := Q) HT2.out.2.2.2.row hq2 (fun x hx => owns_mono (HT2.out.2.2.2.dat x hx) (Nat.zero_le _)) hq3 (HT1.out.2.1.trans hq4.symm) (hOkA HT1.out.2.1) (by rw [HT1.out.2.2]; exact hql)
  have HS2 : Hid (∀ W3, Below W2.heap.size W2 W3 → Calls Try.prog 76 #[.slice a2 n c2, rq] W3 fun r W' => r = .returned (.bool true) ∧ Below W3.heap.size W3 W') := fun W3 hb =>
    SamePuts_yes (A := C) (Q := Q) (HT2.out.1.later hb).row (ownsRow_block hq2 (fun g e => hb.block g (row_lt hq2 g e).1)) (fun x hx => owns_mono ((HT2.out.1.later hb).dat x hx) (Nat.zero_le _)) (fun x hx => ownsRow_block (hq3 x hx) (fun g e => hb.block g (row_lt (hq3 x hx) g e).1)) (HT2.out.2.1.trans hq4.symm) (hOkA HT2.out.2.1) (by rw [HT2.out.2.2.1]; exact hql)
  have HOA : Hid (∀ x ∈ A ++ C, x.2.2.length = 512) := fun x hx => by
    rcases List.mem_append.1 hx with hx | hx
    · exact (hOkA HT1.out.2.1 x hx).len
    · exact (hOkA HT2.out.2.1 x hx).len
  clear ht2 he2 hp2 hk2 hCl hq2 hq3 hq4 hq5 hOkA
  go_wp2_with fail
  refine HS1.out.mono ?_
  clear HS1
  rintro r W3 ⟨rfl, hb3⟩
  have hs2 := HS2.out W3 hb3
  have q3 : W3.cell? ⟨p, 3, none⟩ = some rq := cell_later hb3 hq1
  have HB3 : Hid (Below W2.heap.size W2 W3) := hb3
  clear hb3 hq1
  go_wp2_with fail
  refine hs2.mono ?_
  clear hs2 HS2
  rintro r W4 ⟨rfl, hb4⟩
  have HB4 : Hid (Below W2.heap.size W2 W4) := HB3.out.trans (hb4.mono HB3.out.size)
  have HT4 : Hid (PP W4 b p S S N H ∧ Tq W0 W4 H W0.heap.size (.slice none 0 0) (.slice a1 n c1) (.slice a2 n c2) A C 0) := by
    have hb := HB4.out
    refine ⟨HP2.out.1.later hb, HP2.out.2.trans (Kp.of_below hb []) (by simp), World.ownsRow_nil _ _ _ _, fun g e => ?_, owns_mono (HT2.out.1.later hb).row (Nat.zero_le _), fun x hx => owns_mono ((HT2.out.2.2.2.later hb).dat x hx) (Nat.zero_le _), fun x hx => owns_mono ((HT2.out.1.later hb).dat x hx) (Nat.zero_le _)⟩
    have hr := (HT2.out.2.2.2.later hb).row
    obtain ⟨_, cs, hc⟩ := row_lt hr g e
    refine ⟨cs, hc, ?_, fun j x hx => ?_⟩
    · rcases hr.2 with ⟨e2, h0⟩ | ⟨g', cap', cur, e2, _, hg, hcc, _, hsz, _⟩
      · rw [h0]; omega
      · rw [e2] at e; simp [Value.ownBlock] at e; subst e; rw [hc] at hg; simp at hg; subst hg; omega
    · have hjl := (List.getElem?_eq_some_iff.1 hx).1
      have h1 := (qcells_at hx).2
      obtain ⟨ad, rfl⟩ : ∃ c, a1 = some ⟨g, 0, none⟩ := by
        rcases hr.2 with ⟨e2, h0⟩ | ⟨g', cap', cur, e2, _⟩
        · omega
        · rw [e2] at e; simp [Value.ownBlock] at e; subst e; simp at e2; exact ⟨0, e2.1⟩
      have hr' := hr
      rw [HT1.out.2.2] at hr'
      have h2 := hr'.cellAt (j * 2 + 1) (by have := HT1.out.2.2; omega)
      rw [h1, cell_of hc] at h2
      exact h2
  clear hb4 q3 HB3
  go_wp2
  go_loopw [14, 15] (fun c14 c15 wr => ∃ i : Nat, i ≤ n ∧ c15 = .int .i64 i ∧ Hid (PP wr b p S S N H ∧ Tq W0 wr H W0.heap.size c14 (.slice a1 n c1) (.slice a2 n c2) A C i)) (fun _ c15 _ => n - (intOf c15).toNat)
  case atStart => exact ⟨0, Nat.zero_le _, rfl, HT4⟩
  case round =>
    obtain ⟨i, hi, rfl, HS⟩ := hrel
    by_cases hlt : i < n
    · have hil : (i : Int) < (n : Int) := by omega
      obtain ⟨xa, hxa⟩ : ∃ x, A[i]? = some x := ⟨_, List.getElem?_eq_getElem (by have := HT1.out.2.2; omega)⟩
      obtain ⟨xc, hxc⟩ : ∃ x, C[i]? = some x := ⟨_, List.getElem?_eq_getElem (by have := HT2.out.2.2.1; omega)⟩
      obtain ⟨g1, hg1⟩ : ∃ g, a1 = some ⟨g, 0, none⟩ := by
        rcases HT1.out.1.row.2 with ⟨_, h0⟩ | ⟨g', cap', cur, e2, _⟩
        · have := HT1.out.2.2; omega
        · simp at e2; exact ⟨g', e2.1⟩
      obtain ⟨g2, hg2⟩ : ∃ g, a2 = some ⟨g, 0, none⟩ := by
        rcases HT2.out.1.row.2 with ⟨_, h0⟩ | ⟨g', cap', cur, e2, _⟩
        · have := HT2.out.2.2.1; omega
        · simp at e2; exact ⟨g', e2.1⟩
      subst hg1 hg2
      obtain ⟨s1, s2⟩ := HS.out
      obtain ⟨cur, hcu, hsz, hda⟩ := s2.r1 g1 rfl
      obtain ⟨ga, ca, cura, ea, _⟩ := own_form (s2.d1 xa (List.mem_of_getElem? hxa)) (by decide)
      obtain ⟨gc, cc, curc, ec, _⟩ := own_form (s2.d2 xc (List.mem_of_getElem? hxc)) (by decide)
      have k1 : wr.cell? ⟨g1, i * 2 + 1, none⟩ = some (.slice (some ⟨ga, 0, none⟩) 512 ca) := by rw [← ea]; exact (cell_of hcu).trans (hda i xa hxa)
      have hr2 := s2.r2
      rw [HT2.out.2.2.1] at hr2
      have k2 : wr.cell? ⟨g2, i * 2 + 1, none⟩ = some (.slice (some ⟨gc, 0, none⟩) 512 cc) := by rw [← ec, hr2.cellAt (i * 2 + 1) (by omega)]; exact (qcells_at hxc).2
      have HG1 : Hid (W0.heap.size ≤ g1 ∧ g1 < W1.heap.size ∧ W1.heap.size ≤ g2) := ⟨(HT1.out.1.row.lt g1 rfl).1, (HT1.out.1.row.lt g1 rfl).2, (HT2.out.1.row.lt g2 rfl).1⟩
      obtain ⟨to, tc, et⟩ := own_slice s2.tr
      subst et
      have HR4 : Hid (wr.ownsRow W0.heap.size TBs 1 (.slice to (i * 2) tc) (i * 2) ((dvs A C i).map (·.1))) := s2.tr
      have hWs := s2.kp.size
      have HPA : Hid (pat A i = .slice (some ⟨ga, 0, none⟩) 512 ca ∧ pat C i = .slice (some ⟨gc, 0, none⟩) 512 cc) := ⟨by rw [← ea]; exact pat_at hxa, by rw [← ec]; exact pat_at hxc⟩
      have HCu : Hid (wr.heap[g1]? = some (.cells cur TPt (0, 0)) ∧ A.length * 2 ≤ cur.size) := ⟨hcu, hsz⟩
      obtain ⟨i0, hi0, hz0, hz1, hz2⟩ := info_parts infoBs
      have HStp : Hid (∀ t2 w2, w2.ownsRow W0.heap.size TBs 1 t2 (i * 2 + 2) ((dvs A C i).map (·.1) ++ [.slice (some ⟨ga, 0, none⟩) 512 ca, .slice (some ⟨gc, 0, none⟩) 512 cc]) → (wr.alloc (.cells #[.slice (some ⟨ga, 0, none⟩) 512 ca, .slice (some ⟨gc, 0, none⟩) 512 cc] TBs)).drew.grownBy w2 (Value.slice to (i * 2) tc).ownBlock → (PP (w2.setCell ⟨g1, i * 2, none⟩ (.int .i64 (-7))) b p S S N H ∧ Tq W0 (w2.setCell ⟨g1, i * 2, none⟩ (.int .i64 (-7))) H W0.heap.size t2 (.slice (some ⟨g1, 0, none⟩) n c1) (.slice (some ⟨g2, 0, none⟩) n c2) A C (i + 1)) ∧ (∃ old, w2.cell? ⟨g1, i * 2, none⟩ = some old) ∧ w2.frozen? ⟨g1, i * 2, none⟩ = false) := fun t2 w2 ho2 hg2 => by
        have hb : Below wr.heap.size wr (wr.alloc (.cells #[.slice (some ⟨ga, 0, none⟩) 512 ca, .slice (some ⟨gc, 0, none⟩) 512 cc] TBs)).drew := (Below.refl _ wr).alloc (Nat.le_refl _) (.cells #[.slice (some ⟨ga, 0, none⟩) 512 ca, .slice (some ⟨gc, 0, none⟩) 512 cc] TBs) |>.trans ((below_drew _).mono (by rw [World.size_alloc]; omega))
        have hst := HS.out.2.step hb hg2 (by rw [HPA.out.1, HPA.out.2]; exact ho2) (Nat.le_refl _) rfl HG1.out.1 (by have := HG1.out; simp [Value.ownBlock]; omega)
        have hgx : w2.heap[g1]? = some (.cells cur TPt (0, 0)) := by
          have hl := (Array.getElem?_eq_some_iff.1 HCu.out.1).1
          refine (hg2.block g1 (Nat.lt_of_lt_of_le hl hb.size) (fun e => ?_)).trans ((hb.block g1 hl).trans HCu.out.1)
          obtain ⟨_, cs', hc'⟩ := row_lt HR4.out g1 e.symm
          rw [HCu.out.1] at hc'
          simp at hc'
          exact absurd hc'.2 (by decide)
        have hpp : PP (w2.setCell ⟨g1, i * 2, none⟩ (.int .i64 (-7))) b p S S N H := by
          have hkp : Kp wr (w2.setCell ⟨g1, i * 2, none⟩ (.int .i64 (-7))) ((Value.slice to (i * 2) tc).ownBlock.toList ++ [g1]) := Kp.set ((Kp.of_below hb _).grown hg2 (fun k e => .inl (by simp [e]))) (.inl (by simp)) _ _
          refine HS.out.1.kept hkp (fun x hx hm => ?_)
          have h1 := HXl.out x hx
          simp at hm
          rcases hm with hm | hm
          · have := (HR4.out.lt x hm).1; omega
          · have := HG1.out.1; omega
        exact ⟨⟨hpp, hst⟩, ⟨_, (cell_of hgx).trans (Array.getElem?_eq_getElem (by have h1 := HCu.out.2; have h2 := HT1.out.2.2; omega))⟩, frozen_of hgx⟩
      have HRd : Hid ((wr.alloc (.cells #[.slice (some ⟨ga, 0, none⟩) 512 ca, .slice (some ⟨gc, 0, none⟩) 512 cc] TBs)).drew.ownsRow W0.heap.size TBs 1 (.slice to (i * 2) tc) (i * 2) ((dvs A C i).map (·.1))) := ownsRow_block (HR4.out.alloc _) (fun g e => rfl)
      clear s1 s2 hcu hsz hda ea ec hr2 hxa hxc
      go_wp2_with fail
      go_region_law (first | (refine step_append_lies _ (by rfl) _ _ TBss (by rfl) W0.heap.size TBs i0 _ 1 24 Try.underlying122 hi0 hz0 hz1 hz2 (by rfl) (by decide) (.slice to (i * 2) tc) (i * 2) ((dvs A C i).map (·.1)) (by rfl) HRd.out ⟨wr.heap.size, 0, none⟩ 2 2 [.slice (some ⟨ga, 0, none⟩) 512 ca, .slice (some ⟨gc, 0, none⟩) 512 cc] (by rfl) (by rfl) (World.news_of_block (w := (wr.alloc (.cells #[.slice (some ⟨ga, 0, none⟩) 512 ca, .slice (some ⟨gc, 0, none⟩) 512 cc] TBs)).drew) (heap_alloc_new wr _)) (fun u hu => by simp at hu; rcases hu with rfl | rfl <;> rfl) (by decide) (by unfold maxLen; omega) (by omega) (by show _ ≤ (wr.alloc (.cells #[.slice (some ⟨ga, 0, none⟩) 512 ca, .slice (some ⟨gc, 0, none⟩) 512 cc] TBs)).heap.size; rw [World.size_alloc]; exact Nat.le_succ_of_le hWs) (wr.heap.size + 1) (by show (wr.alloc (.cells #[.slice (some ⟨ga, 0, none⟩) 512 ca, .slice (some ⟨gc, 0, none⟩) 512 cc] TBs)).heap.size = _; rw [World.size_alloc]) ?_; intro g' cap' w2 ho2 hg2 hat hlt'; obtain ⟨hNx, ⟨old, k3⟩, f3⟩ := HStp.out _ w2 ho2 hg2; have HNx : Hid (PP (w2.setCell ⟨g1, i * 2, none⟩ (.int .i64 (-7))) b p S S N H ∧ Tq W0 (w2.setCell ⟨g1, i * 2, none⟩ (.int .i64 (-7))) H W0.heap.size (.slice (some ⟨g', 0, none⟩) (i * 2 + 2) cap') (.slice (some ⟨g1, 0, none⟩) n c1) (.slice (some ⟨g2, 0, none⟩) n c2) A C (i + 1)) := hNx; clear ho2 hg2 hat hlt' hNx HStp))
      all_goals go_wp2
      all_goals go_roundw
      all_goals first
        | exact ⟨i + 1, by omega, by go_num, HNx⟩
        | (simp [intOf]; omega)
    · have e : i = n := by omega
      subst e
      obtain ⟨s1, s2⟩ := HS.out
      have hlA : A.length = i := HT1.out.2.2
      have hlC : C.length = A.length := by rw [hlA]; exact HT2.out.2.2.1
      have hbA : ∀ x ∈ A, ∀ g, x.2.1.ownBlock = some g → W0.heap.size ≤ g ∧ g < W1.heap.size := fun x hx g e => ⟨((HT1.out.1.dat x hx).lt g e).1, (row_lt (HT1.out.1.dat x hx) g e).1⟩
      have hbC : ∀ x ∈ C, ∀ g, x.2.1.ownBlock = some g → W1.heap.size ≤ g := fun x hx g e => ((HT2.out.1.dat x hx).lt g e).1
      have hls := told_ls (W := wr) (A := A) (C := C) (B := W0.heap.size) (B1 := W1.heap.size) (tv := u14) (by rw [hlA]; exact s2.tr) hlC s2.d1 (fun x hx => owns_up (s2.d2 x hx) (hbC x hx)) (fun x hx g e => (hbA x hx g e).2) HT1.out.1.two HT2.out.1.two HOA.out
      have hF : ∀ g ∈ dbs A ++ dbs C, W0.heap.size ≤ g ∧ ∃ cs, wr.heap[g]? = some (.cells cs 5 (0, 0)) := fun g hg => by
        rcases List.mem_append.1 hg with hg | hg
        · obtain ⟨x, hx, e⟩ := mem_dbs.1 hg
          exact ⟨(hbA x hx g e).1, (row_lt (s2.d1 x hx) g e).2⟩
        · obtain ⟨x, hx, e⟩ := mem_dbs.1 hg
          exact ⟨Nat.le_trans HP1.out.2.size (hbC x hx g e), (row_lt (s2.d2 x hx) g e).2⟩
      have ho := own_any hls.1 hls.2 (by rw [dvs_len, hlA]; omega) (fun g hg => by obtain ⟨_, cs, hc⟩ := hF g hg; exact (Array.getElem?_eq_some_iff.1 hc).1) (fun g e hg => by
        obtain ⟨_, cs, hc⟩ := hF g hg
        obtain ⟨_, cs', hc'⟩ := row_lt s2.tr g e
        rw [hc] at hc'
        simp at hc'
        exact absurd hc'.2 (by decide))
      have HO : Hid (∀ W', Kp wr W' (dbs A ++ dbs C) → PP W' b p S S (N + 1) H ∧ Mv W W' H H) := fun W' hk => by
        refine ⟨(s1.kept hk (fun x hx hm => ?_)).more (by omega), HMv.out W' H ⟨s2.kp.trans hk (fun x hx => .inr (hF x hx).1), fun x hx => .inl hx⟩⟩
        have h1 := HXl.out x hx
        have h2 := (hF x hm).1
        omega
      clear s1 s2 hls hF hbA hbC HS HT4
      go_wp2_with fail
      refine ho.mono ?_
      clear ho
      rintro r W6 ⟨rfl, hk6⟩
      have HP6 : Hid (PP W6 b p S S (N + 1) H ∧ Mv W W6 H H) := HO.out W6 hk6
      clear hk6 HO
      go_wp2
      go_ret
      exact ⟨rfl, _, H, HP6.out⟩
end Go.Proofs.Ythmonfmpgjbhmaa.K
