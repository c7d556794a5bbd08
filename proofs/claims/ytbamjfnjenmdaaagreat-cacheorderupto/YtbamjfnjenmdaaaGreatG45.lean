import Derived.Test.YtbamjfnjenmdaaaGreatzCPx
namespace Go.Proofs.YtbamjfnjenmdaaaGreat.C
open Go.RowKit Go.Maps Go.Shelf Go.Proofs.YtbamjfnjenmdaaaGreat
attribute [local go_sem] Oper.semAt_some
set_option linter.unusedVariables false
set_option linter.unusedSimpArgs false
set_option maxRecDepth 100000

theorem apart_nil {n : Nat} : Apart n [] := ⟨(fun p hp => by cases hp), List.Pairwise.nil⟩
theorem eql_sps (w : World) (a : Addr) (n c : Nat) : (binOp .eql TSps (.slice (some a) n c) (.slice none 0 0)).run Tryz.prog w = .ok (.bool false) w := by rfl
/-- an empty list that is not nil -/
theorem cloneS_none (w : World) (a : Addr) (cap : Nat) : Calls Tryz.prog 50 #[.slice (some a) 0 cap] w fun r w' => ∃ v, r = .returned v ∧ w'.ownsRow w.heap.size TSp 2 v 0 [] ∧ Below w.heap.size w w' := by
  obtain ⟨i0, hi, hz0, hz1, hz2⟩ := info_parts infoSp
  have z23 := Tryz.sizeOf66
  have u22 : ∀ w, Sem.run Tryz.prog (underlying TSps) w = .ok (TypeDesc.slice TSp) w := run_underlying Tryz.underlying22
  have e1 := eql_sps
  go_enter Tryz.func50, Tryz.ntmps50
  go_wp2_with (at_builtin; refine wpList_append_own _ rfl _ _ TSps rfl w.heap.size TSp i0 _ 2 16 Tryz.underlying22 hi hz0 hz1 hz2 rfl (by decide) _ _ _ rfl (World.ownsRow_made w #[] 0 (Nat.le_refl _) (Nat.zero_le _) (by simp)) a 0 cap [] rfl rfl (fun j u hu => by simp at hu) (fun u hu => by simp at hu) (by decide) (by decide) (by simp) ?_; intro v1 w1 h1 hg1 _)
  go_ret
  have hg2 : (w.alloc (.cells #[] TSp)).grownBy w1 (some w.heap.size) := hg1
  exact ⟨_, rfl, by simpa using h1, ((Below.refl _ w).alloc (Nat.le_refl _) _).grown hg2 (by simp) (by intro k hk; cases hk; exact Nat.le_refl _)⟩
theorem cloneS_any {w : World} {cap : Nat} {ao : Option Addr} {l : List (Int × Int)} (hr : SpR w ao l) (hl : l.length ≤ 1048576) (hao : ao = none → l = []) :
    Calls Tryz.prog 50 #[.slice ao l.length cap] w fun r w' => ∃ v, r = .returned v ∧ w'.ownsRow w.heap.size TSp 2 v l.length (spcells l) ∧ Below w.heap.size w w' := by
  cases l with
  | nil =>
    cases ao with
    | none => exact cloneS_c hr hl hao (fun a e => by cases e)
    | some a => exact cloneS_none w a cap
  | cons p l =>
    refine cloneS_c hr hl hao (fun a e => ?_)
    obtain ⟨g, off, e', _⟩ := hr 0 p rfl
    rw [e] at e'
    cases e'
    exact ⟨_, _, rfl⟩
set_option maxHeartbeats 4000000 in
theorem new_c2 {w : World} {b ms ml : Nat} {qv fv : Value} {S : K.Dk} (h : K.RK w 0 b ms ml qv fv S) {most : Nat} (hm0 : 1 ≤ most) (hm1 : most ≤ 1024) {ao : Option Addr} {cap : Nat} {l : List (Int × Int)} (hr : SpR w ao l) (hl : l.length ≤ 64) (hw : ∀ p ∈ l, I64 p.1 ∧ I64 p.2) (ha : Apart S.n l) (hao : ao = none → l = []) (hfar : l ≠ [] → ∀ b' off, ao = some ⟨b', off, none⟩ → b' ∉ K.fp b ms ml qv fv) :
    Calls Tryz.prog 21 #[.pointer (some ⟨b, 0, none⟩), .int .i64 most, .slice ao l.length cap] w fun r w' => ∃ P, r = .returned (.tuple #[.pointer (some ⟨P.bc, 0, none⟩), .int .i64 0]) ∧ Made w w' b ms ml qv fv S most l P := by
  have hs := K.sectors_any h
  have hn0 := h.n0
  have hn1 := h.n1
  have hmk := fun (w : World) => run_makeMap (P := Tryz.prog) TLm w
  have hap : apartB S.n l = true := apartB_iff.2 ha
  -- the spans behind the question for the sectors
  have HSP : Hid (∀ w1, K.DAct w w1 0 b ms ml ms ml qv fv qv fv S → SpR w1 ao l) := fun w1 hd k p hk => by
    obtain ⟨g, off, e, hg, c0, c1⟩ := hr k p hk
    have hb := hd.kp.block g hg (hfar (by rintro rfl; simp at hk) g off e)
    refine ⟨g, off, e, Nat.lt_of_lt_of_le hg hd.kp.size, ?_, ?_⟩
    · unfold World.cell? at c0 ⊢; rw [hb]; exact c0
    · unfold World.cell? at c1 ⊢; rw [hb]; exact c1
  have HL : Hid (∀ w1, K.DAct w w1 0 b ms ml ms ml qv fv qv fv S → Calls Tryz.prog 49 #[.slice ao l.length cap, .int .i64 S.n] w1 fun r w2 => r = .returned (.bool true) ∧ Below w1.heap.size w1 w2 ∧ Calls Tryz.prog 50 #[.slice ao l.length cap] w2 fun r w3 => ∃ ao' cap', r = .returned (.slice ao' l.length cap') ∧ w3.ownsRow w2.heap.size TSp 2 (.slice ao' l.length cap') l.length (spcells l) ∧ Below w2.heap.size w2 w3) := fun w1 hd => by
    have hsp := HSP.out w1 hd
    have h1 := lieApart_c (n := S.n) (cap := cap) hsp (by omega) hn1 hw
    rw [hap] at h1
    refine h1.mono ?_
    rintro r w2 ⟨rfl, hb⟩
    refine ⟨rfl, hb, (cloneS_any (cap := cap) (hsp.later hb) (by omega) hao).mono ?_⟩
    rintro r w3 ⟨v, rfl, ho, hb3⟩
    obtain ⟨ao', cap', rfl, _⟩ := sp_form ho
    exact ⟨ao', cap', rfl, ho, hb3⟩
  have HNW := fun w => I.new_any w
  have d1 : ¬ ((most : Int) < 1) := by omega
  have d2 : ¬ ((1024 : Int) < (most : Int)) := by omega
  have d3 : ¬ ((64 : Int) < (l.length : Int)) := by omega
  have d4 : ¬ ((S.n : Int) = 0) := by omega
  have d4' : ¬ (S.n = 0) := by omega
  have b1 : decide ((most : Int) < 1) = false := decide_eq_false d1
  have b2 : decide ((l.length : Int) > 64) = false := decide_eq_false d3
  have HLe : Hid (l.length ≤ 64) := hl
  have HH : Hid (K.RK w 0 b ms ml qv fv S) := h
  have HA : Hid (Apart S.n l) := ha
  clear hr hw ha hao hfar hap HSP h
  go_enter Tryz.func21, Tryz.ntmps21
  go_wp2_with (first | (go_at_call 48; refine hs.mono ?_; clear hs; rintro r w1 ⟨rfl, hd1⟩; have hlp := HL.out w1 hd1; clear HL) | (go_at_call 49; refine hlp.mono ?_; clear hlp; rintro r w2 ⟨rfl, hb2, hcl⟩) | (go_at_call 50; refine hcl.mono ?_; clear hcl; rintro r w3 ⟨ao', cap', rfl, ho3, hb3⟩) | (go_at_call 51; refine (HNW _).mono ?_; clear HNW; rintro r w5 ⟨bo, bm, g, rfl, hro, hb5, hfp⟩))
  refine bodyPost_ret (results_tmp2 rfl _ _ _) rfl ?_
  have s1 := hd1.kp.size
  have s2 := hb2.size
  have s3 := hb3.size
  have s4 : (w3.alloc (.map #[] 0)).heap.size = w3.heap.size + 1 := World.size_alloc _ _
  rw [s4] at hfp
  have s5 := hb5.size
  rw [s4] at s5
  have hb34 : Below w3.heap.size w3 (w3.alloc (.map #[] 0)) := (Below.refl _ w3).alloc (Nat.le_refl _) _
  have hb35 : Below w3.heap.size w3 w5 := hb34.trans (hb5.mono (by rw [s4]; omega))
  obtain ⟨w6, hw6⟩ : ∃ w6, w6 = w5.alloc (.cells #[.pointer (some ⟨b, 0, none⟩), .int .i64 most, .slice ao' l.length cap', .map (some w3.heap.size), .pointer (some ⟨bo, 0, none⟩), .int .u64 0, .int .u64 0, .int .u64 0, .int .u64 0] TCa) := ⟨_, rfl⟩
  have hb56 : Below w5.heap.size w5 w6 := by rw [hw6]; exact (Below.refl _ w5).alloc (Nat.le_refl _) _
  have hb36 : Below w3.heap.size w3 w6 := hb35.trans (hb56.mono (by omega))
  have hb46 : Below (w3.heap.size + 1) (w3.alloc (.map #[] 0)) w6 := (by rw [s4] at hb5; exact hb5 : Below (w3.heap.size + 1) (w3.alloc (.map #[] 0)) w5).trans (hb56.mono s5)
  have hb16 : Below w1.heap.size w1 w6 := (hb2.trans (hb3.mono s2)).trans (hb36.mono (by omega))
  have hrk6 := hd1.rk.later hb16
  have hdl := HH.out.lt
  have hol := hro.lt
  have hnb : ∀ i, (Value.slice ao' l.length cap').ownBlock = some i → w2.heap.size ≤ i ∧ i < w3.heap.size := fun i e => ⟨row_base ho3 e, (K.row_lt ho3 i e).1⟩
  have hmap : w6.ownsMap Tryz.prog TIn I.ptrE w3.heap.size 0 (.map []) := K.ownsMap_block (World.ownsMap_made w3 Tryz.prog TIn I.ptrE) (hb46.block _ (by omega))
  refine ⟨⟨w5.heap.size, b, ms, ml, qv, fv, .slice ao' l.length cap', (Value.slice ao' l.length cap').ownBlock, w3.heap.size, bo, bm, g, []⟩, rfl, ?_⟩
  show Made w (w5.alloc _) b ms ml qv fv S most l _
  rw [← hw6]
  have hcf : ∀ i ∈ Loc.cfp ⟨w5.heap.size, b, ms, ml, qv, fv, .slice ao' l.length cap', (Value.slice ao' l.length cap').ownBlock, w3.heap.size, bo, bm, g, []⟩ [], i = w5.heap.size ∨ i = w3.heap.size ∨ (w2.heap.size ≤ i ∧ i < w3.heap.size) := fun i hi => by
    simp only [Loc.cfp, List.map_nil, List.append_nil, List.mem_cons, Option.mem_toList] at hi
    rcases hi with hi | hi | hi
    · exact .inl hi
    · exact .inr (.inl hi)
    · exact .inr (.inr (hnb i hi))
  refine ⟨⟨?_, hrk6, hro.later hb56, rfl, .inr ⟨rfl, K.ownsRow_block (owns_mono ho3 (Nat.zero_le _)) (fun i hi => hb36.block i (hnb i hi).2)⟩, ⟨.map [], hmap, ⟨by simp [newCh], by simp [newCh], fun k _ => rfl, rfl⟩⟩, (fun l hl => by cases hl), List.nodup_nil, (fun l hl => by cases hl), ⟨Nat.zero_le _, hm0, hm1⟩, HLe.out, HA.out.1, ?_, ?_, ?_⟩, ⟨rfl, rfl, rfl, rfl, rfl⟩, ?_, ?_⟩
  · show w6.heap[w5.heap.size]? = _
    rw [hw6]; exact heap_alloc_new w5 _
  · intro i hi ho
    have h1 := hdl i hi
    have h2 := hfp i ho
    omega
  · intro i hi hc
    have h1 := hdl i hi
    rcases hcf i hc with h2 | h2 | h2 <;> omega
  · intro i ho hc
    have h1 := hfp i ho
    have h3 := hol i ho
    rcases hcf i hc with h2 | h2 | h2 <;> omega
  · exact hd1.kp.trans (K.Kp.of_below hb16 _) (fun i hi => .inl hi)
  · rintro i (hi | hi)
    · have h1 := hfp i hi; omega
    · rcases hcf i hi with h2 | h2 | h2 <;> omega
section
variable {w : World} {b ms ml : Nat} {qv fv : Value} {S : K.Dk}
theorem new_all2 (h : K.RK w 0 b ms ml qv fv S) (k : Int) {ao : Option Addr} {cap : Nat} {l : List (Int × Int)} (hr : SpR w ao l) (hl : l.length ≤ 1048576) (hw : ∀ p ∈ l, I64 p.1 ∧ I64 p.2) (hao : ao = none → l = []) (hfar : l ≠ [] → ∀ b' off, ao = some ⟨b', off, none⟩ → b' ∉ K.fp b ms ml qv fv) :
    Calls Tryz.prog 21 #[.pointer (some ⟨b, 0, none⟩), .int .i64 k, .slice ao l.length cap] w (NewPost w b ms ml qv fv S k l) := by
  by_cases hk : k < 1 ∨ 1024 < k
  · have e : newE S.n k l = 50 := by unfold newE; rw [if_pos hk]
    refine (new_lines h hk _).mono ?_
    rintro r w' ⟨rfl, hrk, hkp⟩
    exact ⟨none, by rw [e], hkp, .inl ⟨rfl, by rw [e]; decide, hrk⟩⟩
  · obtain ⟨m, hm⟩ : ∃ m : Nat, (m : Int) = k := ⟨k.toNat, by omega⟩
    subst hm
    by_cases hs : 64 < l.length ∨ apartB S.n l = false
    · have e : newE S.n m l = 51 := by unfold newE; rw [if_neg hk, if_pos hs]
      refine (new_spans h (by omega) (by omega) hr hl hw (hfar (fun e => by subst e; rcases hs with hs | hs; simp at hs; exact absurd apart_nil (apartB_no.1 hs))) (by rw [apartB_no] at hs; exact hs)).mono ?_
      rintro r w' ⟨rfl, hrk, hkp⟩
      exact ⟨none, by rw [e], hkp, .inl ⟨rfl, by rw [e]; decide, hrk⟩⟩
    · have e : newE S.n m l = 0 := by unfold newE; rw [if_neg hk, if_neg hs]
      have ha : Apart S.n l := Classical.byContradiction fun hn => hs (.inr (apartB_no.2 hn))
      refine (new_c2 h (by omega) (by omega) hr (by omega) hw ha hao hfar).mono ?_
      rintro r w' ⟨P, rfl, hM⟩
      exact ⟨_, by rw [e], hM.kp, .inr ⟨e, P, rfl, by rw [Int.toNat_natCast]; exact hM⟩⟩
end
end Go.Proofs.YtbamjfnjenmdaaaGreat.C

namespace Go.Proofs.YtbamjfnjenmdaaaGreat.C
open Go.RowKit Go.Maps Go.Shelf Go.Proofs.YtbamjfnjenmdaaaGreat
attribute [local go_sem] Oper.semAt_some
set_option linter.unusedVariables false
set_option linter.unusedSimpArgs false
set_option maxRecDepth 100000

/-- may there be such a cache? -/
def fitB (n k : Int) (l : List (Int × Int)) : Bool := decide (1 ≤ n ∧ n ≤ 65536 ∧ newE n.toNat k l = 0)
theorem newE_three (n : Nat) (k : Int) (l : List (Int × Int)) : newE n k l = 0 ∨ newE n k l = 50 ∨ newE n k l = 51 := by
  unfold newE
  split
  · exact .inr (.inl rfl)
  · split
    · exact .inr (.inr rfl)
    · exact .inl rfl
theorem fits_c (w : World) (n k : Int) {v : Value} {l : List (Int × Int)} (hv : ArgS w v l) (hw : ∀ p ∈ l, I64 p.1 ∧ I64 p.2) :
    Calls Tryz.prog 5 #[.agg #[.int .i64 n, .int .i64 k, v]] w fun r w' => r = .returned (.bool (fitB n k l)) ∧ Below w.heap.size w w' := by
  obtain ⟨ao, c0, rfl, _⟩ := hv.form
  obtain ⟨W0, hW0⟩ : ∃ W0, W0 = w.alloc (.cells #[.int .i64 n, .int .i64 k, .slice ao l.length c0] TSe) := ⟨_, rfl⟩
  have hB0 : Below w.heap.size w W0 := by rw [hW0]; exact (Below.refl _ w).alloc (Nat.le_refl _) _
  have hbx : W0.heap[w.heap.size]? = some (.cells #[.int .i64 n, .int .i64 k, .slice ao l.length c0] TSe) := by rw [hW0]; exact heap_alloc_new w _
  have k0 : W0.cell? ⟨w.heap.size, 0, none⟩ = some (.int .i64 n) := (K.cell_of hbx).trans rfl
  by_cases hn : n < 1 ∨ 65536 < n
  · have e : fitB n k l = false := by unfold fitB; rw [decide_eq_false]; omega
    rw [e]
    have HNew : Hid (Calls Tryz.prog 24 #[.int .i64 n] W0 fun r w' => r = .returned (.tuple #[.pointer none, .int .i64 30]) ∧ w' = W0) := rnew_bad W0 n hn
    have HB : Hid (Below w.heap.size w W0) := hB0
    clear hv hw hB0 hbx hn e
    go_enter Tryz.func5, Tryz.ntmps5
    go_wp2_with fail
    rw [← hW0]
    refine Calls.mono HNew.out ?_
    clear HNew
    rintro e W1 ⟨rfl, hw1⟩
    rw [hw1]
    clear hw1 hW0
    go_wp2
    go_ret
    exact ⟨rfl, HB.out⟩
  · obtain ⟨m, hm⟩ : ∃ m : Nat, (m : Int) = n := ⟨n.toNat, by omega⟩
    subst hm
    obtain ⟨W1, hW1⟩ : ∃ W1, W1 = W0.alloc (.cells (rdcells m) TRd) := ⟨_, rfl⟩
    have hB1 : Below W0.heap.size W0 W1 := by rw [hW1]; exact (Below.refl _ _).alloc (Nat.le_refl _) _
    have hbw : Below w.heap.size w W1 := hB0.trans (hB1.mono hB0.size)
    have hby := (hB1.block w.heap.size (Array.getElem?_eq_some_iff.1 hbx).1).trans hbx
    have p0 : W1.cell? ⟨W0.heap.size, 0, none⟩ = some (.int .i64 m) := by
      have : W1.heap[W0.heap.size]? = some (.cells (rdcells m) TRd) := by rw [hW1]; exact heap_alloc_new _ _
      exact (K.cell_of this).trans rfl
    have q1 : W1.cell? ⟨w.heap.size, 1, none⟩ = some (.int .i64 k) := (K.cell_of hby).trans rfl
    have q2 : W1.cell? ⟨w.heap.size, 2, none⟩ = some (.slice ao l.length c0) := (K.cell_of hby).trans rfl
    have HNew : Hid (Calls Tryz.prog 24 #[.int .i64 m] W0 fun r w' => r = .returned (.tuple #[.pointer (some ⟨W0.heap.size, 0, none⟩), .int .i64 0]) ∧ w' = W1) := by rw [hW1]; exact rnew_any W0 m (by omega) (by omega)
    have HRc : Hid (Calls Tryz.prog 25 #[.pointer (some ⟨W0.heap.size, 0, none⟩), .int .i64 k, .slice ao l.length c0] W1 fun r w' => ∃ cp, r = .returned (.tuple #[.pointer cp, .int .i64 (newE m k l)]) ∧ Below w.heap.size w w') := by
      refine (rcnew_all p0 (by omega) (by omega) k (hv.later hbw) hw).mono ?_
      rintro r w' ⟨cp, rfl, hb, _⟩
      exact ⟨cp, rfl, hbw.trans (hb.mono hbw.size)⟩
    have HF : Hid (fitB m k l = decide (newE m k l = 0)) := by
      show _ = _
      unfold fitB
      rw [Int.toNat_natCast]
      rw [decide_eq_decide]
      constructor
      · exact fun h => h.2.2
      · exact fun h => ⟨by omega, by omega, h⟩
    rw [HF.out]
    clear hv hw hB0 hbx hn hB1 hbw hby p0 hW1
    generalize newE m k l = ne at *
    go_enter Tryz.func5, Tryz.ntmps5
    go_wp2_with fail
    rw [← hW0]
    refine Calls.mono HNew.out ?_
    clear HNew
    rintro e W2 ⟨rfl, hw2⟩
    rw [hw2]
    clear hw2 hW0 k0
    go_wp2_with fail
    refine Calls.mono HRc.out ?_
    clear HRc
    rintro e W3 ⟨cp, rfl, hb3⟩
    go_wp2
    go_ret
    exact ⟨rfl, hb3⟩
/-- what opened gives -/
def OpdPost (w : World) (n k : Int) (l : List (Int × Int)) (r : Ending) (w' : World) : Prop :=
  Below w.heap.size w w' ∧ ((fitB n k l = false ∧ r = .returned (.tuple #[.pointer none, .pointer none])) ∨ (fitB n k l = true ∧ ∃ P : Loc, r = .returned (.tuple #[.pointer (some ⟨P.bd, 0, none⟩), .pointer (some ⟨P.bc, 0, none⟩)]) ∧ RC w' P (K.newDk n.toNat) (newCh k.toNat l) ∧ ∀ i ∈ P.fp [], w.heap.size ≤ i))
theorem opened_c (w : World) (n k : Int) {v : Value} {l : List (Int × Int)} (hv : ArgS w v l) (hl : l.length ≤ 1048576) (hw : ∀ p ∈ l, I64 p.1 ∧ I64 p.2) :
    Calls Tryz.prog 6 #[.agg #[.int .i64 n, .int .i64 k, v]] w (OpdPost w n k l) := by
  obtain ⟨ao, c0, rfl, hsp, hao⟩ := hv.form
  obtain ⟨W0, hW0⟩ : ∃ W0, W0 = w.alloc (.cells #[.int .i64 n, .int .i64 k, .slice ao l.length c0] TSe) := ⟨_, rfl⟩
  have hB0 : Below w.heap.size w W0 := by rw [hW0]; exact (Below.refl _ w).alloc (Nat.le_refl _) _
  have hbx : W0.heap[w.heap.size]? = some (.cells #[.int .i64 n, .int .i64 k, .slice ao l.length c0] TSe) := by rw [hW0]; exact heap_alloc_new w _
  have k0 : W0.cell? ⟨w.heap.size, 0, none⟩ = some (.int .i64 n) := (K.cell_of hbx).trans rfl
  have e0 : ∀ (w : World), (binOp .eql 28 (.pointer none) (.pointer none)).run Tryz.prog w = .ok (.bool true) w := fun _ => rfl
  have e1 : ∀ (w : World) (a : Addr), (binOp .eql 28 (.pointer (some a)) (.pointer none)).run Tryz.prog w = .ok (.bool false) w := fun _ _ => rfl
  by_cases hn : n < 1 ∨ 65536 < n
  · have e : fitB n k l = false := by unfold fitB; rw [decide_eq_false]; omega
    have HNew := K.new_bad W0 n hn
    have HNh : Hid (Calls Tryz.prog 20 #[.int .i64 n] W0 _) := HNew
    have HB : Hid (Below w.heap.size w W0) := hB0
    have HE : Hid (fitB n k l = false) := e
    clear hv hw hB0 hbx hn e hsp hao hl HNew
    go_enter Tryz.func6, Tryz.ntmps6
    go_wp2_with fail
    rw [← hW0]
    refine Calls.mono HNh.out ?_
    clear HNh
    rintro e W1 ⟨rfl, hw1⟩
    rw [hw1]
    clear hw1 hW0
    go_wp2
    refine bodyPost_ret (results_tmp2 rfl _ _ _) rfl ?_
    exact ⟨HB.out, .inl ⟨HE.out, rfl⟩⟩
  · obtain ⟨m, hm⟩ : ∃ m : Nat, (m : Int) = n := ⟨n.toNat, by omega⟩
    subst hm
    have HN : Hid (Calls Tryz.prog 20 #[.int .i64 m] W0 fun r w' => ∃ b, r = .returned (.tuple #[.pointer (some ⟨b, 0, none⟩), .int .i64 0]) ∧ ∃ ms ml, K.RK w' 0 b ms ml (.slice none 0 0) (.slice none 0 0) (K.newDk m) ∧ Below W0.heap.size W0 w' ∧ ∀ i ∈ K.fp b ms ml (.slice none 0 0) (.slice none 0 0), W0.heap.size ≤ i) := K.new_any W0 m (by omega) (by omega)
    have HC : Hid (∀ W1 b ms ml, K.RK W1 0 b ms ml (.slice none 0 0) (.slice none 0 0) (K.newDk m) → Below W0.heap.size W0 W1 → (∀ i ∈ K.fp b ms ml (.slice none 0 0) (.slice none 0 0), W0.heap.size ≤ i) → W1.cell? ⟨w.heap.size, 1, none⟩ = some (.int .i64 k) ∧ W1.cell? ⟨w.heap.size, 2, none⟩ = some (.slice ao l.length c0) ∧ Calls Tryz.prog 21 #[.pointer (some ⟨b, 0, none⟩), .int .i64 k, .slice ao l.length c0] W1 fun r w' => ∃ cp, r = .returned (.tuple #[.pointer cp, .int .i64 (newE m k l)]) ∧ (newE m k l = 0 → OpdPost w m k l (.returned (.tuple #[.pointer (some ⟨b, 0, none⟩), .pointer cp])) w') ∧ (newE m k l ≠ 0 → OpdPost w m k l (.returned (.tuple #[.pointer none, .pointer none])) w')) := fun W1 b ms ml hrk hb1 hfp => by
      have hbw : Below w.heap.size w W1 := hB0.trans (hb1.mono hB0.size)
      have hby := (hb1.block w.heap.size (Array.getElem?_eq_some_iff.1 hbx).1).trans hbx
      have hs0 : w.heap.size < W0.heap.size := (Array.getElem?_eq_some_iff.1 hbx).1
      refine ⟨(K.cell_of hby).trans rfl, (K.cell_of hby).trans rfl, ?_⟩
      have hfar : l ≠ [] → ∀ b' off, ao = some ⟨b', off, none⟩ → b' ∉ K.fp b ms ml (.slice none 0 0) (.slice none 0 0) := fun hne b' off e hm => by
        have h1 := hv.lt hne (show Value.slice ao l.length c0 = .slice (some ⟨b', off, none⟩) l.length c0 by rw [e])
        have h2 := hfp b' hm
        omega
      refine (new_all2 hrk k (cap := c0) (hsp.later hbw) hl hw hao hfar).mono ?_
      rintro r w' ⟨cp, rfl, hkp, hcase⟩
      have hbb : Below w.heap.size w w' := hbw.trans (hkp.below (fun i hi => by have := hfp i hi; omega) hbw.size)
      have hFt : newE m k l = 0 → fitB m k l = true := fun h0 => by unfold fitB; rw [decide_eq_true]; rw [Int.toNat_natCast]; exact ⟨by omega, by omega, h0⟩
      have hFf : newE m k l ≠ 0 → fitB m k l = false := fun h0 => by unfold fitB; rw [decide_eq_false]; rw [Int.toNat_natCast]; exact fun h => h0 h.2.2
      refine ⟨cp, rfl, fun h0 => ⟨hbb, .inr ⟨hFt h0, ?_⟩⟩, fun h0 => ⟨hbb, .inl ⟨hFf h0, rfl⟩⟩⟩
      rcases hcase with ⟨_, h1, _⟩ | ⟨_, P, rfl, hM⟩
      · exact absurd h0 h1
      · obtain ⟨g1, g2, g3, g4, g5⟩ := hM.bd
        refine ⟨P, by rw [g1], by rw [Int.toNat_natCast]; exact hM.rc, fun i hi => ?_⟩
        have hs1 := hb1.size
        simp only [Loc.fp, List.mem_append] at hi
        rcases hi with hi | hi | hi
        · unfold Loc.dfp at hi
          rw [g1, g2, g3, g4, g5] at hi
          have := hfp i hi
          omega
        · have := hM.new i (.inl hi); omega
        · have := hM.new i (.inr hi); omega
    clear hv hw hB0 hbx hn hsp hao hl
    rcases newE_three m k l with h0 | h0
    · simp only [h0, show ((0 : Int) ≠ 0) = False by simp, false_implies, true_implies, and_true] at HC
      go_enter Tryz.func6, Tryz.ntmps6
      go_wp2_with fail
      rw [← hW0]
      refine Calls.mono HN.out ?_
      clear HN hW0 k0
      rintro e W1 ⟨b, rfl, ms, ml, hrk, hb1, hfp⟩
      obtain ⟨q1, q2, hnw⟩ := HC.out W1 b ms ml hrk hb1 hfp
      clear HC hrk hb1 hfp
      have HNW : Hid (Calls Tryz.prog 21 #[.pointer (some ⟨b, 0, none⟩), .int .i64 k, .slice ao l.length c0] W1 _) := hnw
      clear hnw
      go_wp2_with fail
      refine Calls.mono HNW.out ?_
      clear HNW q1 q2
      rintro e W2 ⟨cp, rfl, hp⟩
      have HP : Hid (OpdPost w m k l (.returned (.tuple #[.pointer (some ⟨b, 0, none⟩), .pointer cp])) W2) := hp
      clear hp
      go_wp2
      refine bodyPost_ret (results_tmp2 rfl _ _ _) rfl ?_
      exact HP.out
    · have hne : newE m k l ≠ 0 := by omega
      have HC2 : Hid (∀ W1 b ms ml, K.RK W1 0 b ms ml (.slice none 0 0) (.slice none 0 0) (K.newDk m) → Below W0.heap.size W0 W1 → (∀ i ∈ K.fp b ms ml (.slice none 0 0) (.slice none 0 0), W0.heap.size ≤ i) → W1.cell? ⟨w.heap.size, 1, none⟩ = some (.int .i64 k) ∧ W1.cell? ⟨w.heap.size, 2, none⟩ = some (.slice ao l.length c0) ∧ Calls Tryz.prog 21 #[.pointer (some ⟨b, 0, none⟩), .int .i64 k, .slice ao l.length c0] W1 fun r w' => ∃ cp, ∃ z : Int, z ≠ 0 ∧ r = .returned (.tuple #[.pointer cp, .int .i64 z]) ∧ OpdPost w m k l (.returned (.tuple #[.pointer none, .pointer none])) w') := fun W1 b ms ml hrk hb1 hfp => by
        obtain ⟨q1, q2, hnw⟩ := HC.out W1 b ms ml hrk hb1 hfp
        refine ⟨q1, q2, hnw.mono ?_⟩
        rintro r w' ⟨cp, rfl, _, hp⟩
        exact ⟨cp, _, hne, rfl, hp hne⟩
      clear HC hne h0
      go_enter Tryz.func6, Tryz.ntmps6
      go_wp2_with fail
      rw [← hW0]
      refine Calls.mono HN.out ?_
      clear HN hW0 k0
      rintro e W1 ⟨b, rfl, ms, ml, hrk, hb1, hfp⟩
      obtain ⟨q1, q2, hnw⟩ := HC2.out W1 b ms ml hrk hb1 hfp
      clear HC2 hrk hb1 hfp
      have HNW : Hid (Calls Tryz.prog 21 #[.pointer (some ⟨b, 0, none⟩), .int .i64 k, .slice ao l.length c0] W1 _) := hnw
      clear hnw
      go_wp2_with fail
      refine Calls.mono HNW.out ?_
      clear HNW q1 q2
      rintro e W2 ⟨cp, z, hz, rfl, hp⟩
      have HP : Hid (OpdPost w m k l (.returned (.tuple #[.pointer none, .pointer none])) W2) := hp
      have hz' : decide (z = 0) = false := decide_eq_false hz
      clear hp
      go_wp2
      refine bodyPost_ret (results_tmp2 rfl _ _ _) rfl ?_
      exact HP.out
end Go.Proofs.YtbamjfnjenmdaaaGreat.C
