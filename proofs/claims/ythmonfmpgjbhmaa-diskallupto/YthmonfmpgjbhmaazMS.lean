import Derived.Test.YthmonfmpgjbhmaazMQ
namespace Go.Proofs.Ythmonfmpgjbhmaa.K
open Go.RowKit Go.Maps Go.Proofs.Ythmonfmpgjbhmaa
attribute [local go_sem] Oper.semAt_some
set_option linter.unusedVariables false
set_option linter.unusedSimpArgs false
set_option maxRecDepth 100000

set_option maxHeartbeats 4000000 in
theorem asks_faults {W : World} {b p : Nat} {S : Dk} {N : Nat} {H : List Nat} (h : PP W b p S S N H) (hN : N < 1048576) (osec : Int) (ofill : Nat) (omore fk fsec fa ft : Int) (fl : Bool) (oao : Option Addr) (ocap : Nat) (okeep : List Bool) :
    Calls Try.prog 63 #[.pointer (some ⟨b, 0, none⟩), .pointer (some ⟨p, 0, none⟩), .agg #[.int .i64 6, .int .i64 osec, .int .u8 ofill, .int .i64 omore, .int .i64 fk, .int .i64 fsec, .int .i64 fa, .int .i64 ft, .bool fl, .slice oao okeep.length ocap]] W fun r W' => r = .returned (.bool true) ∧ ∃ S' H', PP W' b p S' S' (N + 1) H' ∧ Mv W W' H H' := by
  have hB0 : Below W.heap.size W (W.alloc (.cells #[.int .i64 6, .int .i64 osec, .int .u8 ofill, .int .i64 omore, .int .i64 fk, .int .i64 fsec, .int .i64 fa, .int .i64 ft, .bool fl, .slice oao okeep.length ocap] TOp)) := (Below.refl _ W).alloc (Nat.le_refl _) _
  obtain ⟨W0, hW0⟩ : ∃ W0, W0 = W.alloc (.cells #[.int .i64 6, .int .i64 osec, .int .u8 ofill, .int .i64 omore, .int .i64 fk, .int .i64 fsec, .int .i64 fa, .int .i64 ft, .bool fl, .slice oao okeep.length ocap] TOp) := ⟨_, rfl⟩
  rw [← hW0] at hB0
  have HP0 : Hid (PP W0 b p S S N H) := h.later hB0
  have hx0 : W0.heap[W.heap.size]? = some (.cells #[.int .i64 6, .int .i64 osec, .int .u8 ofill, .int .i64 omore, .int .i64 fk, .int .i64 fsec, .int .i64 fa, .int .i64 ft, .bool fl, .slice oao okeep.length ocap] TOp) := by rw [hW0]; exact heap_alloc_new W _
  have HXk : Hid (∀ W' F, Kp W0 W' F → (∀ i ∈ F, i ∈ H ∨ W0.heap.size ≤ i) → W'.heap[W.heap.size]? = some (.cells #[.int .i64 6, .int .i64 osec, .int .u8 ofill, .int .i64 omore, .int .i64 fk, .int .i64 fsec, .int .i64 fa, .int .i64 ft, .bool fl, .slice oao okeep.length ocap] TOp)) := fun W' F hk hs => by
    have hl := (Array.getElem?_eq_some_iff.1 hx0).1
    refine (hk.block _ hl (fun hm => ?_)).trans hx0
    rcases hs _ hm with h1 | h1
    · have := h.lt _ h1; omega
    · omega
  have HMv : Hid (∀ W' H', Mv W0 W' H H' → Mv W W' H H') := fun W' H' hm => ⟨(Kp.of_below hB0 _).trans hm.kp (fun i hi => .inl hi), fun i hi => (hm.sub i hi).imp id (fun h1 => Nat.le_trans hB0.size h1)⟩
  have HW0 : Hid (W0 = W.alloc (.cells #[.int .i64 6, .int .i64 osec, .int .u8 ofill, .int .i64 omore, .int .i64 fk, .int .i64 fsec, .int .i64 fa, .int .i64 ft, .bool fl, .slice oao okeep.length ocap] TOp)) := hW0
  have HXl : Hid (∀ i ∈ H, i < W.heap.size) := h.lt
  have HXl0 : Hid (W.heap.size ≤ W0.heap.size) := hB0.size
  obtain ⟨n, hn⟩ : ∃ n, n = S.fs.length := ⟨_, rfl⟩
  have HNn : Hid (S.fs.length = n) := hn.symm
  have hn64 : n ≤ 64 := by rw [hn]; exact h.fs.le
  clear h hx0 hB0 hW0 HXk hn
  go_enter Try.func63, Try.ntmps63
  go_wp2_with fail
  rw [← HW0.out]
  refine HP0.out.faultsD.mono ?_
  rintro r W1 ⟨v1, rfl, ho1, hp1, hk1⟩
  have HP1 : Hid (PP W1 b p S S N H ∧ Kp W0 W1 H) := ⟨hp1, hk1⟩
  rw [HNn.out] at ho1
  obtain ⟨a1, c1, e1⟩ := own_slice ho1
  subst e1
  have HO1 : Hid (W1.ownsRow W0.heap.size TFa 5 (.slice a1 n c1) n (fcells S.fs)) := ho1
  clear ho1 hp1 hk1
  go_wp2_with fail
  refine HP1.out.1.faultsR.mono ?_
  rintro r W2 ⟨v2, rfl, ho2, hb2⟩
  have hs12 := sameFaults_yes (W := W2) (v := .slice a1 n c1) (v' := v2) (l := S.fs) (B := W0.heap.size) (B' := W1.heap.size) (by rw [HNn.out]; exact ownsRow_block HO1.out (fun g e => hb2.block g (row_lt HO1.out g e).1)) ho2 (by rw [HNn.out]; exact hn64)
  have HB2 : Hid (Below W1.heap.size W1 W2) := hb2
  rw [HNn.out] at ho2
  clear ho2 hb2
  go_wp2_with fail
  refine hs12.mono ?_
  clear hs12
  rintro r W3 ⟨rfl, hb3⟩
  have hB13 : Below W1.heap.size W1 W3 := HB2.out.trans (hb3.mono HB2.out.size)
  have HS0 : Hid (PP W3 b p S S N H ∧ Kp W0 W3 H ∧ (∀ g, a1 = some ⟨g, 0, none⟩ → ∃ cur, W3.heap[g]? = some (.cells cur TFa (0, 0)) ∧ n * 5 ≤ cur.size)) := by
    refine ⟨HP1.out.1.later hB13, HP1.out.2.trans (Kp.of_below hB13 []) (by simp), fun g e => ?_⟩
    rcases HO1.out.2 with ⟨e2, _⟩ | ⟨g', cap', cur, e2, _, hg, hc, _, hsz, _⟩
    · simp at e2; rw [e] at e2; exact absurd e2.1 (by simp)
    · simp at e2
      rw [e] at e2
      simp at e2
      obtain ⟨e4, e5⟩ := e2
      subst e4
      exact ⟨cur, (hB13.block g (Array.getElem?_eq_some_iff.1 hg).1).trans hg, by omega⟩
  have HG1 : Hid (∀ g, a1 = some ⟨g, 0, none⟩ → W0.heap.size ≤ g) := fun g e => (HO1.out.lt g (by rw [e]; rfl)).1
  have HA1 : Hid (0 < n → ∃ g, a1 = some ⟨g, 0, none⟩) := fun h0 => by
    rcases HO1.out.2 with ⟨_, h1⟩ | ⟨g', cap', cur, e2, _⟩
    · omega
    · simp at e2; exact ⟨g', e2.1⟩
  clear hb3 hB13 HB2
  go_wp2
  go_loopw [9] (fun c9 wr => ∃ i : Nat, i ≤ n ∧ c9 = .int .i64 i ∧ Hid (PP wr b p S S N H ∧ Kp W0 wr H ∧ (∀ g, a1 = some ⟨g, 0, none⟩ → ∃ cur, wr.heap[g]? = some (.cells cur TFa (0, 0)) ∧ n * 5 ≤ cur.size))) (fun c9 _ => n - (intOf c9).toNat)
  case atStart => exact ⟨0, Nat.zero_le _, rfl, HS0⟩
  case round =>
    obtain ⟨i, hi, rfl, HS⟩ := hrel
    by_cases hlt : i < n
    · have hil : (i : Int) < (n : Int) := by omega
      obtain ⟨g, hga⟩ := HA1.out (by omega)
      subst hga
      obtain ⟨s1, s2, s3⟩ := HS.out
      obtain ⟨cur, hcu, hsz⟩ := s3 g rfl
      have hce : ∀ j, j < 5 → ∃ old, wr.cell? ⟨g, i * 5 + j, none⟩ = some old := fun j hj => ⟨_, (cell_of hcu).trans (Array.getElem?_eq_getElem (by omega))⟩
      obtain ⟨o0, q0⟩ := hce 0 (by decide)
      obtain ⟨o1, q1⟩ := hce 1 (by decide)
      obtain ⟨o2, q2⟩ := hce 2 (by decide)
      obtain ⟨o3, q3⟩ := hce 3 (by decide)
      obtain ⟨o4, q4⟩ := hce 4 (by decide)
      rw [Nat.add_zero] at q0
      have fz : ∀ j, wr.frozen? ⟨g, j, none⟩ = false := fun j => frozen_of hcu
      have HSt : Hid (∀ X : World, PP X b p S S N H ∧ Kp W0 X H ∧ (∃ cur, X.heap[g]? = some (.cells cur TFa (0, 0)) ∧ n * 5 ≤ cur.size) → ∀ j v, PP (X.setCell ⟨g, j, none⟩ v) b p S S N H ∧ Kp W0 (X.setCell ⟨g, j, none⟩ v) H ∧ (∃ cur, (X.setCell ⟨g, j, none⟩ v).heap[g]? = some (.cells cur TFa (0, 0)) ∧ n * 5 ≤ cur.size)) := fun X hX j v => by
        obtain ⟨t1, t2, cu, t3, t4⟩ := hX
        refine ⟨t1.kept ((Kp.refl X [g]).set (.inl (by simp)) j v) (fun x hx hm => ?_), t2.set (.inr (HG1.out g rfl)) j v, _, blk_set t3 j v, by simpa using t4⟩
        simp at hm
        subst hm
        have h1 := HXl.out _ hx
        have h2 := HG1.out x rfl
        have h3 := HXl0.out
        omega
      have HSi : Hid (PP wr b p S S N H ∧ Kp W0 wr H ∧ (∃ cur, wr.heap[g]? = some (.cells cur TFa (0, 0)) ∧ n * 5 ≤ cur.size)) := ⟨s1, s2, cur, hcu, hsz⟩
      clear s1 s2 s3 hce hcu
      have HN5 := HSt.out _ (HSt.out _ (HSt.out _ (HSt.out _ (HSt.out wr HSi.out (i * 5) (.int .i64 1)) (i * 5 + 1) (.int .i64 (-1))) (i * 5 + 2) (.int .i64 0)) (i * 5 + 3) (.int .i64 1)) (i * 5 + 4) (.bool false)
      have HNx : Hid (PP (((((wr.setCell ⟨g, i * 5, none⟩ (.int .i64 1)).setCell ⟨g, i * 5 + 1, none⟩ (.int .i64 (-1))).setCell ⟨g, i * 5 + 2, none⟩ (.int .i64 0)).setCell ⟨g, i * 5 + 3, none⟩ (.int .i64 1)).setCell ⟨g, i * 5 + 4, none⟩ (.bool false)) b p S S N H ∧ Kp W0 (((((wr.setCell ⟨g, i * 5, none⟩ (.int .i64 1)).setCell ⟨g, i * 5 + 1, none⟩ (.int .i64 (-1))).setCell ⟨g, i * 5 + 2, none⟩ (.int .i64 0)).setCell ⟨g, i * 5 + 3, none⟩ (.int .i64 1)).setCell ⟨g, i * 5 + 4, none⟩ (.bool false)) H ∧ ∀ g', some (⟨g, 0, none⟩ : Addr) = some ⟨g', 0, none⟩ → ∃ cur, (((((wr.setCell ⟨g, i * 5, none⟩ (.int .i64 1)).setCell ⟨g, i * 5 + 1, none⟩ (.int .i64 (-1))).setCell ⟨g, i * 5 + 2, none⟩ (.int .i64 0)).setCell ⟨g, i * 5 + 3, none⟩ (.int .i64 1)).setCell ⟨g, i * 5 + 4, none⟩ (.bool false)).heap[g']? = some (Obj.cells cur TFa (0, 0)) ∧ n * 5 ≤ cur.size) := ⟨HN5.1, HN5.2.1, fun g' e => by simp at e; subst e; exact HN5.2.2⟩
      clear HN5
      go_wp2
      go_roundw
      case rel => exact ⟨i + 1, by omega, by go_num, HNx⟩
      case measure => simp [intOf]; omega
    · have hil : ¬ (i : Int) < (n : Int) := by omega
      have HPw : Hid (PP wr b p S S N H ∧ Kp W0 wr H) := ⟨HS.out.1, HS.out.2.1⟩
      clear HS HS0
      go_wp2_with fail
      refine HPw.out.1.faultsD.mono ?_
      rintro r W5 ⟨v5, rfl, ho5, hp5, hk5⟩
      have HP5 : Hid (PP W5 b p S S N H ∧ Kp W0 W5 H) := ⟨hp5, HPw.out.2.trans hk5 (fun i hi => .inl hi)⟩
      have HO5 : Hid (W5.ownsRow wr.heap.size TFa 5 v5 S.fs.length (fcells S.fs)) := ho5
      clear ho5 hp5 hk5
      go_wp2_with fail
      refine HP5.out.1.faultsR.mono ?_
      rintro r W6 ⟨v6, rfl, ho6, hb6⟩
      have hs56 := sameFaults_yes (W := W6) (v := v5) (v' := v6) (l := S.fs) (ownsRow_block HO5.out (fun g e => hb6.block g (row_lt HO5.out g e).1)) ho6 (by rw [HNn.out]; exact hn64)
      have HP6 : Hid (PP W6 b p S S N H ∧ Kp W0 W6 H) := ⟨HP5.out.1.later hb6, HP5.out.2.trans (Kp.of_below hb6 []) (by simp)⟩
      clear ho6 hb6
      go_wp2_with fail
      refine hs56.mono ?_
      clear hs56
      rintro r W7 ⟨rfl, hb7⟩
      have HP7 : Hid (PP W7 b p S S (N + 1) H ∧ Mv W W7 H H) := ⟨(HP6.out.1.later hb7).more (by omega), HMv.out W7 H ⟨HP6.out.2.trans (Kp.of_below hb7 []) (by simp), fun i hi => .inl hi⟩⟩
      clear hb7
      go_wp2
      go_ret
      exact ⟨rfl, _, H, HP7.out⟩
/-- two lists of bytes, laid into a row of two, are each their own -/
theorem own_two {W : World} {g1 g2 m c1 c2 : Nat} {l1 l2 : List Nat} (h1 : W.ownsRow 0 5 1 (.slice (some ⟨g1, 0, none⟩) m c1) m (l1.map bv)) (h2 : W.ownsRow 0 5 1 (.slice (some ⟨g2, 0, none⟩) m c2) m (l2.map bv)) (hl1 : l1.length = m) (hl2 : l2.length = m) (hm0 : 0 < m) (hm1 : m ≤ 33554432) (hne : g1 ≠ g2) :
    Calls Try.prog 77 #[.slice (some ⟨W.heap.size, 0, none⟩) 2 2] (W.alloc (.cells #[.slice (some ⟨g1, 0, none⟩) m c1, .slice (some ⟨g2, 0, none⟩) m c2] TBs)) fun r W' => r = .returned (.bool true) ∧ Kp W W' [g1, g2] := by
  have hg1 := (row_lt h1 g1 rfl).1
  have hg2 := (row_lt h2 g2 rfl).1
  have hB : Below W.heap.size W (W.alloc (.cells #[.slice (some ⟨g1, 0, none⟩) m c1, .slice (some ⟨g2, 0, none⟩) m c2] TBs)) := (Below.refl _ W).alloc (Nat.le_refl _) _
  have r1 := ownsRow_block h1 (w' := W.alloc (.cells #[.slice (some ⟨g1, 0, none⟩) m c1, .slice (some ⟨g2, 0, none⟩) m c2] TBs)) (fun g e => hB.block g (row_lt h1 g e).1)
  have r2 := ownsRow_block h2 (w' := W.alloc (.cells #[.slice (some ⟨g1, 0, none⟩) m c1, .slice (some ⟨g2, 0, none⟩) m c2] TBs)) (fun g e => hB.block g (row_lt h2 g e).1)
  have hl : Ls (W.alloc (.cells #[.slice (some ⟨g1, 0, none⟩) m c1, .slice (some ⟨g2, 0, none⟩) m c2] TBs)) [g1, g2] (.slice (some ⟨W.heap.size, 0, none⟩) 2 2) [(.slice (some ⟨g1, 0, none⟩) m c1, m), (.slice (some ⟨g2, 0, none⟩) m c2, m)] := by
    refine ⟨⟨rfl, .inr ⟨_, _, _, rfl, Nat.zero_le _, heap_alloc_new W _, Nat.le_refl _, by decide, rfl, rfl⟩⟩, fun j v n hj => ?_, fun j j' v n v' n' hj hj' hne' => ?_⟩
    · match j with
      | 0 => simp at hj; obtain ⟨rfl, rfl⟩ := hj; exact ⟨hm0, hm1, g1, c1, rfl, by simp⟩
      | 1 => simp at hj; obtain ⟨rfl, rfl⟩ := hj; exact ⟨hm0, hm1, g2, c2, rfl, by simp⟩
      | j + 2 => simp at hj
    · match j, j' with
      | 0, 0 => exact absurd rfl hne'
      | 1, 1 => exact absurd rfl hne'
      | 0, 1 => simp at hj hj'; obtain ⟨rfl, rfl⟩ := hj; obtain ⟨rfl, rfl⟩ := hj'; simp [Value.ownBlock]; exact hne
      | 1, 0 => simp at hj hj'; obtain ⟨rfl, rfl⟩ := hj; obtain ⟨rfl, rfl⟩ := hj'; simp [Value.ownBlock]; exact fun e => hne e.symm
      | j + 2, _ => simp at hj
      | _, j' + 2 => simp at hj'
  have hk : Mk (W.alloc (.cells #[.slice (some ⟨g1, 0, none⟩) m c1, .slice (some ⟨g2, 0, none⟩) m c2] TBs)) [(.slice (some ⟨g1, 0, none⟩) m c1, m), (.slice (some ⟨g2, 0, none⟩) m c2, m)] 0 0 := by
    intro j v n hj
    match j with
    | 0 => simp at hj; obtain ⟨rfl, rfl⟩ := hj; exact ⟨l1, hl1, r1, fun t ht hc => by omega⟩
    | 1 => simp at hj; obtain ⟨rfl, rfl⟩ := hj; exact ⟨l2, hl2, r2, fun t ht hc => by omega⟩
    | j + 2 => simp at hj
  refine (own_any hl hk (by simp) (fun g hg => ?_) (fun g e hm => ?_)).mono ?_
  · rw [World.size_alloc]; simp at hg; omega
  · simp [Value.ownBlock] at e; simp at hm; omega
  · rintro r W' ⟨rfl, hkp⟩
    exact ⟨rfl, (Kp.of_below hB [g1, g2]).trans hkp (fun i hi => .inl hi)⟩
set_option maxHeartbeats 4000000 in
theorem asks_image {W : World} {b p : Nat} {S : Dk} {N : Nat} {H : List Nat} (h : PP W b p S S N H) (hN : N < 1048576) (osec : Int) (ofill : Nat) (omore fk fsec fa ft : Int) (fl : Bool) (oao : Option Addr) (ocap : Nat) (okeep : List Bool) :
    Calls Try.prog 63 #[.pointer (some ⟨b, 0, none⟩), .pointer (some ⟨p, 0, none⟩), .agg #[.int .i64 9, .int .i64 osec, .int .u8 ofill, .int .i64 omore, .int .i64 fk, .int .i64 fsec, .int .i64 fa, .int .i64 ft, .bool fl, .slice oao okeep.length ocap]] W fun r W' => r = .returned (.bool true) ∧ ∃ S' H', PP W' b p S' S' (N + 1) H' ∧ Mv W W' H H' := by
  have hB0 : Below W.heap.size W (W.alloc (.cells #[.int .i64 9, .int .i64 osec, .int .u8 ofill, .int .i64 omore, .int .i64 fk, .int .i64 fsec, .int .i64 fa, .int .i64 ft, .bool fl, .slice oao okeep.length ocap] TOp)) := (Below.refl _ W).alloc (Nat.le_refl _) _
  obtain ⟨W0, hW0⟩ : ∃ W0, W0 = W.alloc (.cells #[.int .i64 9, .int .i64 osec, .int .u8 ofill, .int .i64 omore, .int .i64 fk, .int .i64 fsec, .int .i64 fa, .int .i64 ft, .bool fl, .slice oao okeep.length ocap] TOp) := ⟨_, rfl⟩
  rw [← hW0] at hB0
  have HP0 : Hid (PP W0 b p S S N H) := h.later hB0
  have hx0 : W0.heap[W.heap.size]? = some (.cells #[.int .i64 9, .int .i64 osec, .int .u8 ofill, .int .i64 omore, .int .i64 fk, .int .i64 fsec, .int .i64 fa, .int .i64 ft, .bool fl, .slice oao okeep.length ocap] TOp) := by rw [hW0]; exact heap_alloc_new W _
  have HXk : Hid (∀ W' F, Kp W0 W' F → (∀ i ∈ F, i ∈ H ∨ W0.heap.size ≤ i) → W'.heap[W.heap.size]? = some (.cells #[.int .i64 9, .int .i64 osec, .int .u8 ofill, .int .i64 omore, .int .i64 fk, .int .i64 fsec, .int .i64 fa, .int .i64 ft, .bool fl, .slice oao okeep.length ocap] TOp)) := fun W' F hk hs => by
    have hl := (Array.getElem?_eq_some_iff.1 hx0).1
    refine (hk.block _ hl (fun hm => ?_)).trans hx0
    rcases hs _ hm with h1 | h1
    · have := h.lt _ h1; omega
    · omega
  have HMv : Hid (∀ W' H', Mv W0 W' H H' → Mv W W' H H') := fun W' H' hm => ⟨(Kp.of_below hB0 _).trans hm.kp (fun i hi => .inl hi), fun i hi => (hm.sub i hi).imp id (fun h1 => Nat.le_trans hB0.size h1)⟩
  have HW0 : Hid (W0 = W.alloc (.cells #[.int .i64 9, .int .i64 osec, .int .u8 ofill, .int .i64 omore, .int .i64 fk, .int .i64 fsec, .int .i64 fa, .int .i64 ft, .bool fl, .slice oao okeep.length ocap] TOp)) := hW0
  have HXl : Hid (∀ i ∈ H, i < W.heap.size) := h.lt
  have HXl0 : Hid (W.heap.size ≤ W0.heap.size) := hB0.size
  obtain ⟨hn0, hn1, hsafe⟩ : 1 ≤ S.n ∧ S.n ≤ 65536 ∧ ∀ t, t < S.n → OkB (S.safe t) := by
    obtain ⟨ms, ml, qv, fv, dv, rq, av, D, Q, hk, hr, hN, hd, rfl⟩ := h.ex
    obtain ⟨D', _, hso⟩ := hk.sm
    exact ⟨hk.n0, hk.n1, hso.ok⟩
  obtain ⟨il, hil⟩ : ∃ il, il = imgL S.n S.safe := ⟨_, rfl⟩
  obtain ⟨m, hm⟩ : ∃ m, m = S.n * 512 := ⟨_, rfl⟩
  have HIL : Hid (il.length = m ∧ ∀ x ∈ il, x < 256) := by
    refine ⟨by rw [hil, hm]; exact imgL_len (fun t ht => (hsafe t ht).len), fun x hx => ?_⟩
    rw [hil] at hx
    obtain ⟨t, ht, hx⟩ := List.mem_flatMap.1 hx
    exact (hsafe t (List.mem_range.1 ht)).lt x hx
  have hm0 : 0 < m := by omega
  have hm1 : m ≤ 33554432 := by omega
  have HD : Hid (∀ W, PP W b p S S N H → Calls Try.prog 17 #[.pointer (some ⟨b, 0, none⟩)] W fun r W' => ∃ v, r = .returned v ∧ W'.ownsRow W.heap.size 5 1 v m (il.map bv) ∧ PP W' b p S S N H ∧ Kp W W' H) := fun W hp => by have h1 := hp.imageD; rw [← hm, ← hil] at h1; exact h1
  have HRf : Hid (∀ W, PP W b p S S N H → Calls Try.prog 79 #[.pointer (some ⟨p, 0, none⟩)] W fun r W' => ∃ v, r = .returned v ∧ W'.ownsRow W.heap.size 5 1 v m (il.map bv) ∧ Below W.heap.size W W') := fun W hp => by have h1 := hp.imageR (by omega); rw [← hm, ← hil] at h1; exact h1
  clear h hx0 hB0 hW0 HXk hil hm hsafe hn0 hn1
  go_enter Try.func63, Try.ntmps63
  go_wp2_with fail
  rw [← HW0.out]
  refine (HD.out W0 HP0.out).mono ?_
  rintro r W1 ⟨v1, rfl, ho1, hp1, hk1⟩
  obtain ⟨g1, c1, cur1, e1, hg1, _, _⟩ := own_form ho1 hm0
  subst e1
  have HP1 : Hid (PP W1 b p S S N H ∧ Kp W0 W1 H ∧ W1.ownsRow W0.heap.size 5 1 (.slice (some ⟨g1, 0, none⟩) m c1) m (il.map bv) ∧ W0.heap.size ≤ g1 ∧ g1 < W1.heap.size) := ⟨hp1, hk1, ho1, hg1, (row_lt ho1 g1 rfl).1⟩
  clear ho1 hp1 hk1 hg1
  go_wp2_with fail
  refine (HD.out W1 HP1.out.1).mono ?_
  rintro r W2 ⟨v2, rfl, ho2, hp2, hk2⟩
  obtain ⟨g2, c2, cur2, e2, hg2, _, _⟩ := own_form ho2 hm0
  subst e2
  have HO1 : Hid (g1 ∉ H) := fun hx => by have h1 := HXl.out _ hx; have h2 := HXl0.out; have h3 := HP1.out.2.2.2.1; omega
  have HO2 : Hid (g2 ∉ H) := fun hx => by have h1 := HXl.out _ hx; have h2 := HXl0.out; have h3 := HP1.out.2.2.2.1; have h4 := HP1.out.2.2.2.2; omega
  have HP2 : Hid (PP W2 b p S S N H ∧ Kp W0 W2 H ∧ W2.ownsRow 0 5 1 (.slice (some ⟨g1, 0, none⟩) m c1) m (il.map bv) ∧ W2.ownsRow 0 5 1 (.slice (some ⟨g2, 0, none⟩) m c2) m (il.map bv) ∧ W1.heap.size ≤ g2 ∧ g2 < W2.heap.size) := ⟨hp2, HP1.out.2.1.trans hk2 (fun i hi => .inl hi), owns_mono (ownsRow_block HP1.out.2.2.1 (fun g e => by simp [Value.ownBlock] at e; subst e; exact hk2.block g1 HP1.out.2.2.2.2 HO1.out)) (Nat.zero_le _), owns_mono ho2 (Nat.zero_le _), hg2, (row_lt ho2 g2 rfl).1⟩
  clear ho2 hp2 hk2 hg2
  go_wp2_with fail
  refine (HRf.out W2 HP2.out.1).mono ?_
  rintro r W3 ⟨v3, rfl, ho3, hb3⟩
  have brow : ∀ {X : World} {g c : Nat}, X.ownsRow 0 5 1 (.slice (some ⟨g, 0, none⟩) m c) m (il.map bv) → BRow X (some ⟨g, 0, none⟩) c il := fun {X g c} hx => by
    obtain ⟨ao, cc, e, hb⟩ := own_brow hx HIL.out.1 HIL.out.2 (by omega)
    simp at e
    obtain ⟨rfl, rfl⟩ := e
    exact hb
  obtain ⟨a3, c3, e3, hbr3⟩ := own_brow ho3 HIL.out.1 HIL.out.2 (by omega)
  subst e3
  have r13 := ownsRow_block HP2.out.2.2.1 (w' := W3) (fun g e => hb3.block g (row_lt HP2.out.2.2.1 g e).1)
  have r23 := ownsRow_block HP2.out.2.2.2.1 (w' := W3) (fun g e => hb3.block g (row_lt HP2.out.2.2.2.1 g e).1)
  have hs1 := same_any _ _ _ _ il il W3 (brow r13) hbr3
  rw [HIL.out.1, decide_eq_true rfl] at hs1
  have HP3 : Hid (PP W3 b p S S N H ∧ Kp W0 W3 H ∧ W3.ownsRow 0 5 1 (.slice (some ⟨g1, 0, none⟩) m c1) m (il.map bv) ∧ W3.ownsRow 0 5 1 (.slice (some ⟨g2, 0, none⟩) m c2) m (il.map bv) ∧ W1.heap.size ≤ g2 ∧ g2 < W3.heap.size) := ⟨HP2.out.1.later hb3, HP2.out.2.1.trans (Kp.of_below hb3 []) (by simp), r13, r23, HP2.out.2.2.2.2.1, Nat.lt_of_lt_of_le HP2.out.2.2.2.2.2 hb3.size⟩
  have hs2 := fun q => same_any _ _ _ _ il il (W3.drewN q) ((brow r23).later (below_drewN W3 q)) ((brow r13).later (below_drewN W3 q))
  rw [HIL.out.1] at hs2
  have HS2 : Hid (∀ q, Calls Try.prog 16 #[.slice (some ⟨g2, 0, none⟩) m c2, .slice (some ⟨g1, 0, none⟩) m c1] (W3.drewN q) fun e w' => e = .returned (.bool true) ∧ ∃ q', w' = (W3.drewN q).drewN q') := fun q => by have h1 := hs2 q; rw [decide_eq_true rfl] at h1; exact h1
  clear ho3 hb3 hbr3 r13 r23 hs2 brow
  go_wp2_with fail
  refine hs1.mono ?_
  clear hs1
  rintro r W4 ⟨rfl, q4, rfl⟩
  go_wp2_with fail
  refine (HS2.out q4).mono ?_
  clear HS2
  rintro r W5 ⟨rfl, q5, rfl⟩
  go_wp2_with fail
  have ho := own_two (W := W3.drewN (q4 + q5)) (ownsRow_block HP3.out.2.2.1 (fun g e => (below_drewN W3 (q4 + q5)).block g (row_lt HP3.out.2.2.1 g e).1)) (ownsRow_block HP3.out.2.2.2.1 (fun g e => (below_drewN W3 (q4 + q5)).block g (row_lt HP3.out.2.2.2.1 g e).1)) HIL.out.1 HIL.out.1 hm0 hm1 (by have h1 := HP1.out.2.2.2.2; have h2 := HP3.out.2.2.2.2.1; omega)
  refine ho.mono ?_
  clear ho
  rintro r W6 ⟨rfl, hk6⟩
  have HP6 : Hid (PP W6 b p S S (N + 1) H ∧ Mv W W6 H H) := by
    have hb := below_drewN W3 (q4 + q5)
    refine ⟨((HP3.out.1.later hb).kept hk6 (fun i hi hm => ?_)).more (by omega), HMv.out W6 H ⟨HP3.out.2.1.trans ((Kp.of_below hb [g1, g2]).trans hk6 (fun i hi => .inl hi)) (fun i hi => ?_), fun i hi => .inl hi⟩⟩
    · simp at hm
      rcases hm with rfl | rfl
      · exact HO1.out hi
      · exact HO2.out hi
    · right
      simp at hi
      have h1 := HP1.out.2.2.2.1
      have h2 := HP1.out.2.2.2.2
      have h3 := HP3.out.2.2.2.2.1
      rcases hi with rfl | rfl <;> omega
  clear hk6
  go_wp2
  go_ret
  exact ⟨rfl, _, H, HP6.out⟩
end Go.Proofs.Ythmonfmpgjbhmaa.K
