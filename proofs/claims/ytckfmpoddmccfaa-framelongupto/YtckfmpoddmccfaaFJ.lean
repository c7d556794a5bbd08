import Derived.Test.YtckfmpoddmccfaaFI
import Derived.Test.YtckfmpoddmccfaaJE
import Derived.Test.YtckfmpoddmccfaaFH
namespace Go.Proofs.Ytckfmpoddmccfaa
open Go.RowKit
set_option linter.unusedVariables false
set_option linter.unusedSimpArgs false
set_option maxRecDepth 100000

theorem copyA (ao : Option Addr) (cap : Nat) (l : List Nat) (w : World) (h : BRow w ao cap l) :
    Calls Try.prog 67 #[.slice ao l.length cap] w fun e w' => ∃ v, e = .returned v ∧ w'.ownsRow w.heap.size 5 1 v l.length (l.map bv) ∧ Below w.heap.size w w' := by
  cases ao with
  | none =>
    obtain ⟨rfl, rfl⟩ := h.nil rfl
    refine (copy_none w).mono ?_
    rintro e w' ⟨rfl, rfl⟩
    exact ⟨_, rfl, World.ownsRow_nil _ _ _ _, Below.refl _ _⟩
  | some ad => exact copy_some ad cap l w h
set_option maxHeartbeats 2000000 in
theorem lendA (ao : Option Addr) (cap n : Nat) (l : List Nat) (w : World) (h : BRow w ao cap l) (HN : Hid (l.length = n)) (hn : n ≤ 1099511627776) :
    Calls Try.prog 28 #[.slice ao n cap] w fun e w' => ∃ g cp, e = .returned (.slice (some ⟨g, 0, none⟩) n cp) ∧ w'.ownsRow w.heap.size 5 1 (.slice (some ⟨g, 0, none⟩) (n + 3) cp) (n + 3) ((l ++ [90, 91, 92]).map bv) ∧ Below w.heap.size w w' := by
  obtain ⟨i0, hi, hz0, hz1, hz2⟩ := info_parts Try.info5
  have HC : Hid (Calls Try.prog 67 #[.slice ao n cap] w fun e w' => ∃ v, e = .returned v ∧ w'.ownsRow w.heap.size 5 1 v n (l.map bv) ∧ Below w.heap.size w w') := by
    have := copyA ao cap l w h
    rw [HN.out] at this
    exact this
  clear h
  go_enter Try.func28, Try.ntmps28
  go_wp2_with fail
  refine HC.out.mono ?_
  rintro e w1 ⟨v, rfl, ho, hb⟩
  have hsz := hb.size
  have ho1 := ho.alloc (.cells #[.int .u8 90, .int .u8 91, .int .u8 92] 5)
  have hb1 : Below w.heap.size w (w1.alloc (.cells #[.int .u8 90, .int .u8 91, .int .u8 92] 5)) := hb.alloc hsz _
  have HNw : Hid (∀ j u, ([bv 90, bv 91, bv 92] : List Value)[j]? = some u → (w1.alloc (.cells #[.int .u8 90, .int .u8 91, .int .u8 92] 5)).cell? ((⟨w1.heap.size, 0, none⟩ : Addr).add j) = some u) := fun j u hu => by
    rw [add_plain, Nat.zero_add, blk_at (heap_new w1 _)]
    simpa [bv] using hu
  have HO1 : Hid _ := ho1
  have HB1 : Hid _ := hb1
  obtain ⟨vo, vc, hv⟩ := owns_form ho
  subst hv
  clear ho hb ho1 hb1 HC
  go_wp2_with (at_builtin; refine wpList_append_two _ rfl (.tmp 5) (.tmp 6) 22 rfl w.heap.size 5 i0 (.int .u8 0) 1 Try.underlying22 hi hz0 hz1 hz2 rfl (.slice vo n vc) n (l.map bv) rfl HO1.out (some ⟨w1.heap.size, 0, none⟩) 3 3 [bv 90, bv 91, bv 92] rfl (fun e => by simp at e) rfl (fun ad e => by cases e; exact HNw.out) (by simp [bv, Value.oneCell']) (by unfold maxLen; omega) (by omega) (by simp; omega) ?_)
  intro v2 w2 ho2 hg2 hf2
  have HB2 : Hid (Below w.heap.size w w2) := HB1.out.grown hg2 HB1.out.size (fun g hg => (owns_lt HO1.out g hg).2)
  rcases ho2.2 with ⟨hv, hn0⟩ | ⟨g, cp, cur, hv, hbg, hgg, hnc, hcm, hs, htk⟩
  · omega
  · subst hv
    have HO2 : Hid (w2.ownsRow w.heap.size 5 1 (.slice (some ⟨g, 0, none⟩) (n + 3) cp) (n + 3) ((l ++ [90, 91, 92]).map bv)) := by
      show World.ownsRow _ _ _ _ _ _ _
      rw [List.map_append]; exact ho2
    have hcm2 : cp ≤ 9223372036854775807 := by unfold maxLen at hcm; omega
    have h1 : (n : Int) ≤ (cp : Int) := by omega
    clear ho2 hg2 hf2 HO1 HB1 HNw hgg hs htk hbg
    go_wp2
    go_ret
    exact ⟨g, cp, rfl, HO2.out, HB2.out⟩
/-- both inboxes share no block -/
def Apt (b : Nat) (v : Value) (b' : Nat) (v' : Value) : Prop := ∀ g, ifp b v g → ¬ ifp b' v' g
def FedP (w : World) (B b : Nat) (v : Value) (B' b' : Nat) (v' : Value) (rm ov : Nat) (l m : List Nat) (e : Ending) (w' : World) : Prop :=
  e = .returned (.bool true) ∧ ∃ v1 v1', Inb w' B b v1 rm (ov - min m.length ov) (l ++ (m.drop (min m.length ov)).take (min (m.length - min m.length ov) (rm - l.length))) ∧ RIn w' B' b' v1' rm (ov - min m.length ov) (l ++ (m.drop (min m.length ov)).take (min (m.length - min m.length ov) (rm - l.length))) ∧ Apt b v1 b' v1' ∧ KeptIn (fun g => ifp b v g ∨ ifp b' v' g) w w' ∧ Fresh w v v1 ∧ Fresh w v' v1'
theorem Fresh.not {w : World} {v v1 : Value} {g : Nat} (h : Fresh w v v1) (hg : g < w.heap.size) (hn : v.ownBlock ≠ some g) : v1.ownBlock ≠ some g := fun e => by
  rcases h with f | ⟨g', f, hlt⟩
  · exact hn (f ▸ e)
  · rw [e] at f; simp at f; omega
set_option maxHeartbeats 8000000 in
theorem fedA {w : World} {B b B' b' : Nat} {v v' : Value} {rm ov : Nat} {l : List Nat} (h : Inb w B b v rm ov l) (h' : RIn w B' b' v' rm ov l) (hap : Apt b v b' v') (ao : Option Addr) (cap : Nat) (m : List Nat) (hmk : ∀ W, KeptIn (fun g => ifp b v g ∨ ifp b' v' g) w W → CRow W ao cap m) (hn : m.length ≤ 1099511627776) :
    Calls Try.prog 13 #[.pointer (some ⟨b, 0, none⟩), .pointer (some ⟨b', 0, none⟩), .slice ao m.length cap] w fun e w' => FedP w B b v B' b' v' rm ov l m e w' := by
  have hm : CRow w ao cap m := hmk w (KeptIn.refl _ _)
  have HMk : Hid _ := hmk
  clear hmk
  obtain ⟨p, hp⟩ : ∃ p, min m.length ov = p := ⟨_, rfl⟩
  obtain ⟨k, hk⟩ : ∃ k, min (m.length - p) (rm - l.length) = k := ⟨_, rfl⟩
  obtain ⟨n, hN⟩ : ∃ n, m.length = n := ⟨_, rfl⟩
  have HL : Hid _ := lendA ao cap n m w hm.row hN (by omega)
  have HI : Hid (Inb w B b v rm ov l) := h
  have HR : Hid (RIn w B' b' v' rm ov l) := h'
  have HAp : Hid (Apt b v b' v') := hap
  have HM : Hid (CRow w ao cap m) := hm
  have HN : Hid (m.length = n) := hN
  have HPk : Hid (min m.length ov = p ∧ min (m.length - p) (rm - l.length) = k) := ⟨hp, hk⟩
  rw [hN] at hp hk hn
  rw [hN]
  clear h h' hap hm hN
  go_enter Try.func13, Try.ntmps13
  go_wp2_with fail
  refine Calls.mono HL.out ?_
  rintro e w1 ⟨g, cp, rfl, ho1, hb1⟩
  have hg1 := owns_lt ho1 g rfl
  have hcpA : n + 3 ≤ cp ∧ cp ≤ 9223372036854775807 := by
    rcases ho1.2 with ⟨hv, hn0⟩ | ⟨g', c', cur, hv, _, _, hnc, hcm, _⟩
    · omega
    · simp only [Value.slice.injEq] at hv; unfold maxLen at hcm; omega
  have hI1 := HI.out.later hb1
  have hR1 := HR.out.later hb1
  have hl3 : ∀ x ∈ m ++ [90, 91, 92], x < 256 := fun x hx => by
    rcases List.mem_append.1 hx with hx | hx
    · exact HM.out.row.lt x hx
    · simp at hx; omega
  have hLr : CRow w1 (some ⟨g, 0, none⟩) cp m := by
    have hb := BRow.own (l := m ++ [90, 91, 92]) (w := w1) (base := w.heap.size) (v := .slice (some ⟨g, 0, none⟩) (n + 3) cp) (by rw [List.length_append, HN.out]; exact ho1) hl3 (by rw [List.length_append, HN.out]; simp; omega)
    obtain ⟨ao2, c2, hv, hbr⟩ := hb
    rw [List.length_append, HN.out] at hv
    simp only [Value.slice.injEq] at hv
    obtain ⟨rfl, _, rfl⟩ := hv
    refine ⟨⟨HM.out.row.lt, HM.out.row.len, fun e => by simp at e, fun hne => ?_⟩, by rw [HN.out]; omega, hcpA.2⟩
    obtain ⟨b2, off, e, hc⟩ := hbr.at_ (by simp)
    refine ⟨b2, off, e, fun j hj => ?_⟩
    rw [hc j (by rw [List.length_append]; omega), List.getElem_append_left hj]
  have HF : Hid _ := feedI hI1 (some ⟨g, 0, none⟩) cp n m hLr HN (by omega) p k hp hk
  have HO1 : Hid _ := ho1
  have HB1 : Hid _ := hb1
  have HI1 : Hid _ := hI1
  have HR1 : Hid _ := hR1
  have HM1 : Hid (CRow w1 ao cap m) := HM.out.later hb1
  have hgI : ¬ ifp b v g := fun hf => by have := (HI.out.lt g hf).2; omega
  have hgR : ¬ ifp b' v' g := fun hf => by
    have h9 := (HR.out.lt g hf).2; omega
  have HCp : Hid _ := hcpA
  have HL3 : Hid _ := hl3
  clear HL ho1 hb1 hI1 hR1 hLr hcpA hl3
  go_wp2_with fail
  refine Calls.mono HF.out ?_
  rintro e w2 ⟨rfl, v1, hI2, hA2⟩
  have hb2 := hA2.kept
  have hR2 : RIn w2 B' b' v' rm ov l := HR1.out.keep hA2.kept (fun x hx hf => HAp.out x hf hx)
  have hK2 : KeptIn (fun g => ifp b v g ∨ ifp b' v' g) w w2 := (KeptIn.ofBelow HB1.out).trans hA2.kept (fun x _ hn hf => hn (.inl hf))
  have HK2 : Hid _ := hK2
  have hM2 : CRow w2 ao cap m := HMk.out w2 hK2
  have hO2 : w2.ownsRow w.heap.size 5 1 (.slice (some ⟨g, 0, none⟩) (n + 3) cp) (n + 3) ((m ++ [90, 91, 92]).map bv) := owns_same HO1.out fun x hx => by
    simp [Value.ownBlock] at hx
    subst hx
    exact hA2.kept.block _ hg1.1 hgI
  have HRf : Hid _ := rfeedI hR2 ao cap n m hM2 HN (by omega) p k hp hk
  have HI2 : Hid _ := hI2
  have HA2 : Hid _ := hA2
  have HR2 : Hid _ := hR2
  have HM2 : Hid _ := hM2
  have HO2 : Hid _ := hO2
  clear HF hI2 hA2 hR2 hM2 hO2 HI1 HR1 HM1 hb2 hK2
  go_wp2_with fail
  refine Calls.mono HRf.out ?_
  rintro e w3 ⟨rfl, v1', hR3, hA3⟩
  have hszw := HB1.out.size
  have hA2f := HA2.out.fresh
  have hapI : ∀ x, ifp b v1 x → ¬ ifp b' v' x := fun x hx hf => by
    rcases hx with rfl | hx
    · exact HAp.out _ (.inl rfl) hf
    · have hlt := (HR.out.lt x hf).2
      rcases hA2f with f | ⟨g', f, hge⟩
      · exact HAp.out x (.inr (f ▸ hx)) hf
      · rw [hx] at f; simp at f; omega
  have hI3 := HI2.out.keep hA3.kept hapI
  have hK3 : KeptIn (fun g => ifp b v g ∨ ifp b' v' g) w w3 := HK2.out.trans hA3.kept (fun x _ hn hf => hn (.inr hf))
  have hgI3 : ¬ ifp b v1 g := fun hx => by
    rcases hx with rfl | hx
    · exact hgI (.inl rfl)
    · exact Fresh.not hA2f hg1.1 (fun e => hgI (.inr e)) hx
  have hg2 : g < w2.heap.size := Nat.lt_of_lt_of_le hg1.1 HA2.out.kept.size
  have hO3 : w3.ownsRow w.heap.size 5 1 (.slice (some ⟨g, 0, none⟩) (n + 3) cp) (n + 3) ((m ++ [90, 91, 92]).map bv) := owns_same HO2.out fun x hx => by
    simp [Value.ownBlock] at hx
    subst hx
    exact hA3.kept.block _ hg2 hgR
  have hgR3 : ¬ ifp b' v1' g := fun hx => by
    rcases hx with rfl | hx
    · exact hgR (.inl rfl)
    · exact Fresh.not hA3.fresh hg2 (fun e => hgR (.inr e)) hx
  have hap3 : Apt b v1 b' v1' := fun x hx hf => by
    have hlt := (HI2.out.lt x hx).2
    rcases hf with rfl | hf
    · exact hapI _ hx (.inl rfl)
    · exact Fresh.not hA3.fresh hlt (fun e => hapI x hx (.inr e)) hf
  have hF1 : Fresh w v v1 := by
    rcases hA2f with f | ⟨g', f, hge⟩
    · exact .inl f
    · exact .inr ⟨g', f, by omega⟩
  have hF2 : Fresh w v' v1' := by
    rcases hA3.fresh with f | ⟨g', f, hge⟩
    · exact .inl f
    · exact .inr ⟨g', f, by have := HA2.out.kept.size; omega⟩
  have HMw : Hid (∀ W, KeptIn (fun x => x = g) w3 W → CRow W ao cap m) := fun W hW => HMk.out W (hK3.trans hW (fun x hx _ e => by omega))
  have HFin : Hid (∀ W, KeptIn (fun x => x = g) w3 W → Inb W B b v1 rm (ov - p) (l ++ (m.drop p).take k) ∧ RIn W B' b' v1' rm (ov - p) (l ++ (m.drop p).take k) ∧ Apt b v1 b' v1' ∧ KeptIn (fun g => ifp b v g ∨ ifp b' v' g) w W ∧ Fresh w v v1 ∧ Fresh w v' v1') := fun W hW =>
    ⟨hI3.keep hW (fun x hx e => hgI3 (by subst e; exact hx)), hR3.keep hW (fun x hx e => hgR3 (by subst e; exact hx)), hap3, hK3.trans hW (fun x hx _ e => by omega), hF1, hF2⟩
  have HO3 : Hid _ := hO3
  have hM3 : CRow w3 ao cap m := HMw.out w3 (KeptIn.refl _ _)
  have hrow3 : BRow w3 (some ⟨g, 0, none⟩) cp m := by
    have hb := BRow.own (l := m ++ [90, 91, 92]) (w := w3) (base := w.heap.size) (v := .slice (some ⟨g, 0, none⟩) (n + 3) cp) (by rw [List.length_append, HN.out]; exact hO3) HL3.out (by rw [List.length_append, HN.out]; simp; omega)
    obtain ⟨ao2, c2, hv, hbr⟩ := hb
    rw [List.length_append, HN.out] at hv
    simp only [Value.slice.injEq] at hv
    obtain ⟨rfl, _, rfl⟩ := hv
    refine ⟨HM.out.row.lt, HM.out.row.len, fun e => by simp at e, fun hne => ?_⟩
    obtain ⟨b2, off, e, hc⟩ := hbr.at_ (by simp)
    refine ⟨b2, off, e, fun j hj => ?_⟩
    rw [hc j (by rw [List.length_append]; omega), List.getElem_append_left hj]
  have HSm : Hid (Calls Try.prog 30 #[.slice (some ⟨g, 0, none⟩) n cp, .slice ao n cap] w3 fun e w' => e = .returned (.bool true) ∧ ∃ q, w' = w3.drewN q) := by
    have := same_any (some ⟨g, 0, none⟩) ao cp cap m m w3 hrow3 hM3.row
    rw [HN.out] at this
    simp at this
    exact this
  have hc1 := HCp.out.1
  have hc2 := HCp.out.2
  have z0 : w3.cell? ⟨g, n, none⟩ = some (.int .u8 90) := by
    rw [hO3.cellAt n (by omega)]; simp [bv, HN.out]
  have z1 : w3.cell? ⟨g, n + 1, none⟩ = some (.int .u8 91) := by
    rw [hO3.cellAt (n + 1) (by omega)]; simp [bv, HN.out]
  have z2 : w3.cell? ⟨g, n + 2, none⟩ = some (.int .u8 92) := by
    rw [hO3.cellAt (n + 2) (by omega)]; simp [bv, HN.out]
  clear HRf hR3 hA3 hI3 hK3 hO3 hap3 hapI hgI3 hgR3 hF1 hF2 HI2 HA2 HR2 HM2 HO2 HK2 hA2f HMk hM3 hrow3 HI HR HAp HB1 hg2
  have s3 : IntKind.i64.wrap ((n : Int) + 3) = (n : Int) + 3 := by rw [IntKind.wrap_i64]; omega
  have s1 : IntKind.i64.wrap ((n : Int) + 1) = (n : Int) + 1 := by rw [IntKind.wrap_i64]; omega
  have s2 : IntKind.i64.wrap ((n : Int) + 2) = (n : Int) + 2 := by rw [IntKind.wrap_i64]; omega
  have t3 : (n : Int) + 3 ≤ (cp : Int) := by omega
  have t3n : ((n : Int) + 3).toNat = n + 3 := by omega
  have t1n : ((n : Int) + 1).toNat = n + 1 := by omega
  have t2n : ((n : Int) + 2).toNat = n + 2 := by omega
  have t0 : (0 : Int) ≤ (n : Int) + 3 := by omega
  have t4 : (0 : Int) ≤ (n : Int) + 1 := by omega
  have t5 : (0 : Int) ≤ (n : Int) + 2 := by omega
  have t6 : (n : Int) < (n : Int) + 3 := by omega
  have t7 : (n : Int) + 1 < (n : Int) + 3 := by omega
  have t8 : (n : Int) + 2 < (n : Int) + 3 := by omega
  go_wp2_with fail
  refine HSm.out.mono ?_
  rintro e w4 ⟨rfl, q, hw4⟩
  have HO4 : Hid (w4.ownsRow w.heap.size 5 1 (.slice (some ⟨g, 0, none⟩) (n + 3) cp) (n + 3) ((m ++ [90, 91, 92]).map bv)) := by
    show World.ownsRow _ _ _ _ _ _ _
    rw [hw4]; exact owns_same HO3.out fun _ _ => rfl
  have HK4 : Hid (KeptIn (fun x => x = g) w3 w4) := by
    show KeptIn _ _ _
    rw [hw4]; exact keptIn_drewN (KeptIn.refl _ _) q
  have y0 : w4.cell? ⟨g, n, none⟩ = some (.int .u8 90) := by rw [hw4]; exact z0
  have y1 : w4.cell? ⟨g, n + 1, none⟩ = some (.int .u8 91) := by rw [hw4]; exact z1
  have y2 : w4.cell? ⟨g, n + 2, none⟩ = some (.int .u8 92) := by rw [hw4]; exact z2
  clear hw4 z0 z1 z2 HSm HO3
  go_wp2
  go_loopw [13] (fun i wr => ∃ j : Nat, j ≤ n + 3 ∧ i = .int .i64 (j : Int) ∧ ∃ C : List Nat, Hid (C.length = n + 3 ∧ wr.ownsRow w.heap.size 5 1 (.slice (some ⟨g, 0, none⟩) (n + 3) cp) (n + 3) (C.map bv) ∧ (∀ x ∈ C, x < 256) ∧ KeptIn (fun x => x = g) w3 wr)) (fun i _ => n + 3 - (intOf i).toNat)
  case atStart => exact ⟨0, Nat.zero_le _, rfl, m ++ [90, 91, 92], by rw [List.length_append, HN.out]; rfl, HO4.out, HL3.out, HK4.out⟩
  case round =>
    obtain ⟨j, hj, rfl, C, HC⟩ := hrel
    by_cases hlt : j < n + 3
    · have hC := HC.out.1
      have ho := HC.out.2.1
      have hjz : (j : Int) < (n : Int) + 3 := by omega
      obtain ⟨x, hx⟩ : ∃ x, C[j]?.getD 0 = x := ⟨_, rfl⟩
      have hx256 : x < 256 := by
        rw [← hx, List.getElem?_eq_getElem (by omega)]; exact HC.out.2.2.1 _ (List.getElem_mem _)
      have hc0 : wr.cell? ⟨g, j, none⟩ = some (.int .u8 (x : Int)) := by
        rw [ho.cellAt j (by omega)]; simp [bv, hC, hlt, ← hx]
      have hf0 := ho.frozenAt j
      have hwr : IntKind.u8.wrap ((x : Int) + 1) = (((x + 1) % 256 : Nat) : Int) := by rw [IntKind.wrap_u8]; omega
      obtain ⟨hs1, hg1'⟩ := ho.stored j (bv ((x + 1) % 256))
      obtain ⟨y, hy⟩ : ∃ y, (x + 1) % 256 = y := ⟨_, rfl⟩
      rw [hy] at hs1 hg1' hwr
      have H2 : Hid ((C.set j y).length = n + 3 ∧ (wr.setCell ⟨g, j, none⟩ (.int .u8 (y : Int))).ownsRow w.heap.size 5 1 (.slice (some ⟨g, 0, none⟩) (n + 3) cp) (n + 3) ((C.set j y).map bv) ∧ (∀ x ∈ C.set j y, x < 256) ∧ KeptIn (fun x => x = g) w3 (wr.setCell ⟨g, j, none⟩ (.int .u8 (y : Int)))) := by
        refine ⟨by simp [hC], by rw [List.map_set]; exact hs1, fun z hz => ?_, HC.out.2.2.2.trans (T := fun x => x = g) ⟨rfl, rfl, rfl, by simp [World.setCell], fun k _ hn => Below.heap_setCell _ _ _ _ hn⟩ (fun _ _ hn => hn)⟩
        rcases List.mem_or_eq_of_mem_set hz with h9 | h9
        · exact HC.out.2.2.1 z h9
        · omega
      clear hs1 hg1' ho HC hC hx hy
      go_wp2
      go_roundw
      case rel => exact ⟨j + 1, by omega, by go_num, _, H2⟩
      case measure => simp [intOf]; omega
    · obtain rfl : j = n + 3 := by omega
      have hd : ¬ (((n + 3 : Nat) : Int) < (n : Int) + 3) := by omega
      have HE : Hid _ := HFin.out wr HC.out.2.2.2
      clear HC HO4 HK4 HFin HMw
      go_wp2
      go_ret
      refine ⟨rfl, v1, v1', ?_⟩
      rw [HPk.out.1, HPk.out.2]
      exact HE.out
end Go.Proofs.Ytckfmpoddmccfaa
