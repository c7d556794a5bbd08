import Derived.Test.YtlacligofhinmaaGreatV43
import Derived.Test.YtlacligofhinmaaGreatV27
namespace Go.Proofs.YtlacligofhinmaaGreat.C
open Go.RowKit Go.Maps Go.Shelf Go.Proofs.YtlacligofhinmaaGreat
attribute [local go_sem] Oper.semAt_some
set_option linter.unusedVariables false
set_option linter.unusedSimpArgs false
set_option maxRecDepth 100000

/-- what the document's New leaves of its cache -/
def RnL (w w' : World) (p q : Nat) (u : Value) (k : Int) (l : List (Int × Int)) : Prop :=
  w.heap.size ≤ q ∧ w'.heap[q]? = some (.cells (rccells p k.toNat u) TRc) ∧ w'.ownsRow w.heap.size TSp 2 u l.length (spcells l) ∧ u.ownBlock ≠ some q
/-- what open leaves, the document's cache too -/
def OpenPost2 (w : World) (x b ms ml p : Nat) (qv fv : Value) (S : K.Dk) (k : Int) (l : List (Int × Int)) (w' : World) : Prop :=
  K.Kp w w' (x :: K.fp b ms ml qv fv) ∧ ((newE S.n k l ≠ 0 ∧ K.RK w' 0 b ms ml qv fv S ∧ w'.heap[x]? = some (.cells #[.pointer (some ⟨b, 0, none⟩), .pointer none, .pointer (some ⟨p, 0, none⟩), .pointer none] TPa)) ∨
   (newE S.n k l = 0 ∧ ∃ (P : Loc) (q : Nat) (u : Value), RC w' P S (newCh k.toNat l) ∧ P.bd = b ∧ (∀ i ∈ P.fp [], i ∈ K.fp b ms ml qv fv ∨ w.heap.size ≤ i) ∧ (∀ i ∈ P.fp [], i ≠ q ∧ u.ownBlock ≠ some i) ∧ RnL w w' p q u k l ∧ w'.heap[x]? = some (.cells #[.pointer (some ⟨b, 0, none⟩), .pointer (some ⟨P.bc, 0, none⟩), .pointer (some ⟨p, 0, none⟩), .pointer (some ⟨q, 0, none⟩)] TPa)))
set_option maxHeartbeats 8000000 in
theorem open_q {w : World} {x b ms ml p : Nat} {qv fv : Value} {S : K.Dk} {cv0 qv0 : Value} (h : K.RK w 0 b ms ml qv fv S)
    (hx : w.heap[x]? = some (.cells #[.pointer (some ⟨b, 0, none⟩), cv0, .pointer (some ⟨p, 0, none⟩), qv0] TPa)) (hp : w.cell? ⟨p, 0, none⟩ = some (.int .i64 S.n))
    (hxf : x ∉ K.fp b ms ml qv fv) (hpf : p ∉ K.fp b ms ml qv fv) (hpx : p ≠ x) {v : Value} {l : List (Int × Int)} (hv : ArgS w v l) (hvf : l ≠ [] → ∀ b' off n c, v = .slice (some ⟨b', off, none⟩) n c → b' ∉ K.fp b ms ml qv fv ∧ b' ≠ x)
    (hl : l.length ≤ 1048576) (hw : ∀ p ∈ l, I64 p.1 ∧ I64 p.2) (m k : Int) :
    Calls Tryz.prog 19 #[.pointer (some ⟨x, 0, none⟩), .agg #[.int .i64 m, .int .i64 k, v]] w fun r w' => r = .returned (.bool true) ∧ OpenPost2 w x b ms ml p qv fv S k l w' := by
  obtain ⟨ao, c0, rfl, _, hao⟩ := hv.form
  have hlt := h.lt
  have hxl : x < w.heap.size := (Array.getElem?_eq_some_iff.1 hx).1
  obtain ⟨W0, hW0⟩ : ∃ W0, W0 = w.alloc (.cells #[.int .i64 m, .int .i64 k, .slice ao l.length c0] TSe) := ⟨_, rfl⟩
  have hB0 : Below w.heap.size w W0 := by rw [hW0]; exact (Below.refl _ w).alloc (Nat.le_refl _) _
  have hbx : W0.heap[w.heap.size]? = some (.cells #[.int .i64 m, .int .i64 k, .slice ao l.length c0] TSe) := by rw [hW0]; exact heap_alloc_new w _
  have hs0 : W0.heap.size = w.heap.size + 1 := by rw [hW0]; simp
  have k2 : W0.cell? ⟨w.heap.size, 2, none⟩ = some (.slice ao l.length c0) := (K.cell_of hbx).trans rfl
  have hsp := spans_c (hv.later hB0) hl
  have HN : Hid (∀ W1 g c, Below W0.heap.size W0 W1 → W1.ownsRow W0.heap.size TSp 2 (.slice (some ⟨g, 0, none⟩) (l.length + 2) c) (l.length + 2) (spcells (l ++ [(71, 0), (72, 0)])) → OSt w x b p S.n (K.fp b ms ml qv fv) cv0 qv0 m k (.slice ao l.length c0) l g c W1 ∧ Calls Tryz.prog 20 #[.pointer (some ⟨b, 0, none⟩), .int .i64 k, .slice (some ⟨g, 0, none⟩) l.length c] W1.drew (NewPost W1.drew b ms ml qv fv S k l)) := fun W1 g c hb1 ho => by
    have hbw : Below w.heap.size w W1 := hB0.trans (hb1.mono hB0.size)
    have hg := K.row_lt ho g rfl
    have hpl : p < w.heap.size := by
      unfold World.cell? at hp
      rcases Nat.lt_or_ge p w.heap.size with hh | hh
      · exact hh
      · simp only at hp
        rw [Array.getElem?_eq_none hh] at hp
        simp at hp
    have hst : OSt w x b p S.n (K.fp b ms ml qv fv) cv0 qv0 m k (.slice ao l.length c0) l g c W1 := ⟨K.Kp.of_below hbw _, (hbw.block x hxl).trans hx, (hb1.block _ (by omega)).trans hbx, cell_later hbw hp, hv.later hbw, by rw [← hs0]; exact ho, by have := row_base ho (show (Value.slice (some ⟨g, 0, none⟩) (l.length + 2) c).ownBlock = some g from rfl); omega, hxf, hpf, hlt, fun hne b' off n c e => (hvf hne b' off n c e).1, hpl, hxl⟩
    refine ⟨hst, new_all (h.later hbw.drew) k (SpR.left (SpR.of_row hst.drew.rw)) hl hw (fun e => by cases e) (fun a e => by cases e; exact ⟨_, _, rfl⟩) (fun b' off e hm => ?_)⟩
    cases e
    have := hlt _ hm
    have h2 := hst.gn
    omega
  have HR : Hid (∀ W g c, OSt w x b p S.n (K.fp b ms ml qv fv) cv0 qv0 m k (.slice ao l.length c0) l g c W → Calls Tryz.prog 54 #[.pointer (some ⟨p, 0, none⟩), .int .i64 k, .slice ao l.length c0] W.drew (RnewPost W.drew p S.n k l) ∧ True) := fun W g c hst => ⟨rcnew_all hst.drew.p0 h.n0 h.n1 k hst.drew.ar hw, trivial⟩
  clear hv hvf hx hp hxf hpf hpx hbx hw hao hB0 h
  go_enter Tryz.func19, Tryz.ntmps19
  go_wp2_with fail
  rw [← hW0]
  refine Calls.mono hsp ?_
  clear hsp k2 hW0
  rintro e W1 ⟨g, c, rfl, hown, hb⟩
  obtain ⟨hst, hnew⟩ := HN.out W1 g c hb hown
  have HS1 : Hid (OSt w x b p S.n (K.fp b ms ml qv fv) cv0 qv0 m k (.slice ao l.length c0) l g c W1) := hst
  have q1 : W1.cell? ⟨x, 0, none⟩ = some (.pointer (some ⟨b, 0, none⟩)) := (K.cell_of hst.px).trans rfl
  have q2 : W1.cell? ⟨w.heap.size, 1, none⟩ = some (.int .i64 k) := (K.cell_of hst.bs).trans rfl
  clear hst hown hb HN
  go_wp2_with fail
  go_region_held3 (fun w' => w'.cell? ⟨x, 0, none⟩ = some (.pointer (some ⟨b, 0, none⟩)) ∧ w'.cell? ⟨w.heap.size, 1, none⟩ = some (.int .i64 k)) (first | exact ⟨(K.cell_of HS2.out.px).trans rfl, (K.cell_of HS2.out.bs).trans rfl⟩ | go_keep) (first | (go_at_call 20; refine Calls.mono hnew ?_; rintro e W2 ⟨cp, rfl, hkp, hcase⟩; have HS2 : Hid (OSt w x b p S.n (K.fp b ms ml qv fv) cv0 qv0 m k (.slice ao l.length c0) l g c W2) := (HS1.out.drew.step hkp); have HC2 : Hid ((cp = none ∧ newE S.n k l ≠ 0 ∧ K.RK W2 0 b ms ml qv fv S) ∨ (newE S.n k l = 0 ∧ ∃ P : Loc, cp = some ⟨P.bc, 0, none⟩ ∧ Made W1.drew W2 b ms ml qv fv S k.toNat l P)) := hcase; clear hcase hkp))
  clear q1 q2 hnew hs0
  have hrn := (HR.out W2 g c HS2.out).1
  have q1 : W2.cell? ⟨x, 2, none⟩ = some (.pointer (some ⟨p, 0, none⟩)) := (K.cell_of HS2.out.px).trans rfl
  have q2 : W2.cell? ⟨w.heap.size, 1, none⟩ = some (.int .i64 k) := (K.cell_of HS2.out.bs).trans rfl
  have q3 : W2.cell? ⟨w.heap.size, 2, none⟩ = some (.slice ao l.length c0) := (K.cell_of HS2.out.bs).trans rfl
  clear HR
  go_wp2_with fail
  go_region_held3 (fun w' => w'.cell? ⟨x, 2, none⟩ = some (.pointer (some ⟨p, 0, none⟩)) ∧ w'.cell? ⟨w.heap.size, 1, none⟩ = some (.int .i64 k) ∧ w'.cell? ⟨w.heap.size, 2, none⟩ = some (.slice ao l.length c0)) (first | exact ⟨(K.cell_of HS3.out.px).trans rfl, (K.cell_of HS3.out.bs).trans rfl, (K.cell_of HS3.out.bs).trans rfl⟩ | go_keep) (first | (go_at_call 54; refine Calls.mono hrn ?_; rintro e W3 ⟨qp, rfl, hb3, hcase⟩; have HS3 : Hid (OSt w x b p S.n (K.fp b ms ml qv fv) cv0 qv0 m k (.slice ao l.length c0) l g c W3) := (HS2.out.drew.step (K.Kp.of_below hb3 _)); have HC3 : Hid (Below W2.heap.size W2 W3 ∧ ((qp = none ∧ newE S.n k l ≠ 0) ∨ (newE S.n k l = 0 ∧ ∃ q u, qp = some ⟨q, 0, none⟩ ∧ RnL W2 W3 p q u k l))) := (by refine ⟨⟨hb3.os, hb3.tape, hb3.output, hb3.size, hb3.block⟩, ?_⟩; rcases hcase with hh | ⟨e0, q, nv, e1, e2, e3⟩; exact .inl hh; exact .inr ⟨e0, q, nv, e1, e2, e3⟩); clear hcase hb3))
  clear q1 q2 q3 hrn
  have hcap := (owns_capS HS3.out.rw).1
  have hkc := kept_c (SpR.of_row HS3.out.rw) hcap HS3.out.ar hl
  have q3 : W3.cell? ⟨w.heap.size, 2, none⟩ = some (.slice ao l.length c0) := (K.cell_of HS3.out.bs).trans rfl
  go_wp2_with fail
  refine Calls.mono hkc ?_
  clear hkc q3
  rintro e W4 ⟨rfl, hb4⟩
  have HS4 : Hid (OSt w x b p S.n (K.fp b ms ml qv fv) cv0 qv0 m k (.slice ao l.length c0) l g c W4) := HS3.out.step (K.Kp.of_below hb4 _)
  have HB34 : Hid (Below W3.heap.size W3 W4) := hb4
  have HB4 : Hid (Below W2.heap.size W2 W4) := HC3.out.1.trans (hb4.mono HC3.out.1.size)
  have HG4 : Hid (∃ cur, W4.heap[g]? = some (.cells cur TSp) ∧ (l.length + 2) * 2 ≤ cur.size) := by
    rcases HS4.out.rw.2 with ⟨h0, _⟩ | ⟨g', cp', cur, h0, _, hg, h5, _, h7, _⟩
    · cases h0
    · cases h0
      exact ⟨cur, hg, by omega⟩
  obtain ⟨M, hM⟩ : ∃ M, M = l.length := ⟨_, rfl⟩
  rw [← hM] at hl hcap HG4
  have HM : Hid (M = l.length) := hM
  clear hb4
  rw [← hM]
  go_wp2
  go_loopw [11] (fun i wr => ∃ (j : Nat), j ≤ M ∧ i = .int .i64 j ∧ Hid (∃ cur, wr.heap[g]? = some (.cells cur TSp) ∧ (M + 2) * 2 ≤ cur.size) ∧ Hid (K.Kp W4 wr [g])) (fun i _ => M - (intOf i).toNat)
  case atStart => exact ⟨0, Nat.zero_le _, rfl, HG4, K.Kp.refl _ _⟩
  case round =>
    obtain ⟨j, hj, rfl, HGj, HKj⟩ := hrel
    by_cases hlj : j < M
    · have hjz : (j : Int) < (M : Int) := by omega
      obtain ⟨cur, hg, hcs⟩ := HGj.out
      obtain ⟨u0, hu0⟩ : ∃ u, cur[j * 2]? = some u := ⟨_, Array.getElem?_eq_getElem (by omega)⟩
      obtain ⟨u1, hu1⟩ : ∃ u, cur[j * 2 + 1]? = some u := ⟨_, Array.getElem?_eq_getElem (by omega)⟩
      have y0 : wr.cell? ⟨g, j * 2, none⟩ = some u0 := (K.cell_of hg).trans hu0
      have y1 : wr.cell? ⟨g, j * 2 + 1, none⟩ = some u1 := (K.cell_of hg).trans hu1
      have z0 : wr.frozen? ⟨g, j * 2, none⟩ = false := K.frozen_of hg
      have z1 : wr.frozen? ⟨g, j * 2 + 1, none⟩ = false := K.frozen_of hg
      have HG2 : Hid (∀ a b, ∃ cur', ((wr.setCell ⟨g, j * 2, none⟩ a).setCell ⟨g, j * 2 + 1, none⟩ b).heap[g]? = some (.cells cur' TSp) ∧ (M + 2) * 2 ≤ cur'.size) := fun a b => ⟨_, K.blk_set (K.blk_set hg _ a) _ b, by simpa using hcs⟩
      have HK2 : Hid (∀ a b, K.Kp W4 ((wr.setCell ⟨g, j * 2, none⟩ a).setCell ⟨g, j * 2 + 1, none⟩ b) [g]) := fun a b => (HKj.out.set (.inl (by simp)) _ _).set (.inl (by simp)) _ _
      have hjl : j < l.length := by have := HM.out; omega
      clear hg hu0 hu1
      go_wp2
      go_roundw
      case rel => exact ⟨j + 1, by omega, by go_num, HG2.out _ _, HK2.out _ _⟩
      case measure => simp [intOf]; omega
    · have hjz : ¬ (j : Int) < (M : Int) := by omega
      have hgx : x ≠ g := by have := HS4.out.gn; omega
      have hxw4 : x < W4.heap.size := Nat.lt_of_lt_of_le hxl HS4.out.kp.size
      have hpx : wr.heap[x]? = some (.cells #[.pointer (some ⟨b, 0, none⟩), cv0, .pointer (some ⟨p, 0, none⟩), qv0] TPa) := (HKj.out.block x hxw4 (by simpa using hgx)).trans HS4.out.px
      have HX : Hid (∀ u v, ((wr.setCell ⟨x, 1, none⟩ u).setCell ⟨x, 3, none⟩ v).heap[x]? = some (.cells #[.pointer (some ⟨b, 0, none⟩), u, .pointer (some ⟨p, 0, none⟩), v] TPa) ∧ K.Kp w ((wr.setCell ⟨x, 1, none⟩ u).setCell ⟨x, 3, none⟩ v) (x :: K.fp b ms ml qv fv) ∧ ∀ i, i < W4.heap.size → i ≠ g → i ≠ x → ((wr.setCell ⟨x, 1, none⟩ u).setCell ⟨x, 3, none⟩ v).heap[i]? = W4.heap[i]?) := fun u v => by
        refine ⟨K.blk_set (K.blk_set hpx 1 u) 3 v, ?_, fun i hi hig hix => (Below.heap_setCell _ _ _ _ hix).trans ((Below.heap_setCell _ _ _ _ hix).trans (HKj.out.block i hi (by simpa using hig)))⟩
        have h1 : K.Kp w W4 (x :: K.fp b ms ml qv fv) := HS4.out.kp.sub (fun i hi => .inl (List.mem_cons_of_mem _ hi))
        have h2 : K.Kp w wr (x :: K.fp b ms ml qv fv) := h1.trans HKj.out (fun i hi => by simp at hi; subst hi; exact .inr (Nat.le_of_lt HS4.out.gn))
        exact (h2.set (.inl (by simp)) _ _).set (.inl (by simp)) _ _
      have x1 : wr.cell? ⟨x, 1, none⟩ = some cv0 := (K.cell_of hpx).trans rfl
      have z1 : wr.frozen? ⟨x, 1, none⟩ = false := K.frozen_of hpx
      have x3 : ∀ u, (wr.setCell ⟨x, 1, none⟩ u).cell? ⟨x, 3, none⟩ = some qv0 := fun u => (K.cell_of (K.blk_set hpx 1 u)).trans rfl
      have z3 : ∀ u, (wr.setCell ⟨x, 1, none⟩ u).frozen? ⟨x, 3, none⟩ = false := fun u => K.frozen_of (K.blk_set hpx 1 u)
      have e1 := eq_cp
      have e2 : ∀ (w : World) (a : Addr), (binOp .eql 35 (.pointer (some a)) (.pointer none)).run Tryz.prog w = .ok (.bool false) w := fun _ _ => rfl
      have HLT : Hid (∀ i ∈ K.fp b ms ml qv fv, i < W4.heap.size ∧ i ≠ g ∧ i ≠ x) := fun i hi => by
        have h1 := hlt i hi
        have h2 := HS4.out.gn
        have h3 := HS4.out.kp.size
        refine ⟨by omega, by omega, fun e => ?_⟩
        subst e
        exact HS4.out.ff.1 hi
      have HGL : Hid (g < W1.heap.size) := (K.row_lt HS1.out.rw g rfl).1
      clear hpx hgx hxw4 HG4 HGj
      generalize hE : newE S.n k l = E at *
      have HE : Hid (newE S.n k l = E) := hE
      clear hE
      rcases HC2.out with ⟨rfl, hne, hrk⟩ | ⟨he, P, rfl, hMd⟩
      · rcases HC3.out.2 with ⟨rfl, _⟩ | ⟨he, _⟩
        · have HRK : Hid (K.RK W2 0 b ms ml qv fv S ∧ E ≠ 0) := ⟨hrk, hne⟩
          clear HC2 HC3 hrk hne
          go_wp2
          go_ret
          obtain ⟨g1, g2, g3⟩ := HX.out (.pointer none) (.pointer none)
          exact ⟨rfl, g2, .inl ⟨by rw [HE.out]; exact HRK.out.2, (HRK.out.1.later HB4.out).same (fun i hi => g3 i (HLT.out i hi).1 (HLT.out i hi).2.1 (HLT.out i hi).2.2), g1⟩⟩
        · exact absurd he hne
      · rcases HC3.out.2 with ⟨_, hne⟩ | ⟨_, q, u, rfl, hq⟩
        · exact absurd he hne
        · have HMd : Hid (Made W1.drew W2 b ms ml qv fv S k.toNat l P) := hMd
          have HQ : Hid (E = 0 ∧ RnL W2 W3 p q u k l) := ⟨he, hq⟩
          clear HC2 HC3 hMd he hq
          go_wp2
          go_ret
          obtain ⟨g1, g2, g3⟩ := HX.out (.pointer (some ⟨P.bc, 0, none⟩)) (.pointer (some ⟨q, 0, none⟩))
          obtain ⟨b1, b2, b3, b4, b5⟩ := HMd.out.bd
          have hw1 : w.heap.size ≤ W1.heap.size := HS1.out.kp.size
          have hfp : ∀ i ∈ P.fp [], i ∈ K.fp b ms ml qv fv ∨ W1.heap.size ≤ i := fun i hi => by
            simp only [Loc.fp, List.mem_append] at hi
            rcases hi with hi | hi
            · left
              rw [← b1, ← b2, ← b3, ← b4, ← b5]
              exact hi
            · right
              exact HMd.out.new i hi
          have hlt2 := HMd.out.rc.lt
          have h2 := HB4.out.size
          have h4 := HGL.out
          have h5 : W1.heap.size ≤ W2.heap.size := HMd.out.kp.size
          have h6 := HB34.out.size
          have hw2 : w.heap.size ≤ W2.heap.size := HS2.out.kp.size
          obtain ⟨r1, r2, r3, r4⟩ := HQ.out.2
          have hq4 : q < W3.heap.size := (Array.getElem?_eq_some_iff.1 r2).1
          refine ⟨rfl, g2, .inr ⟨by rw [HE.out]; exact HQ.out.1, P, q, u, (HMd.out.rc.later HB4.out).same (fun i hi => ?_), b1, fun i hi => (hfp i hi).imp id (fun h => Nat.le_trans hw1 h), fun i hi => ?_, ⟨Nat.le_trans hw2 r1, ?_, ?_, r4⟩, g1⟩⟩
          · have h1 := hlt2 i hi
            rcases hfp i hi with h3 | h3
            · exact g3 i (HLT.out i h3).1 (HLT.out i h3).2.1 (HLT.out i h3).2.2
            · exact g3 i (by omega) (by omega) (by omega)
          · have h1 := hlt2 i hi
            refine ⟨by omega, fun e => ?_⟩
            have h7 := row_base r3 e
            omega
          · exact (g3 q (by omega) (by omega) (by omega)).trans ((HB34.out.block q hq4).trans r2)
          · refine owns_mono (K.ownsRow_block r3 (fun i e => ?_)) hw2
            have h7 := row_base r3 e
            have h8 := (K.row_lt r3 i e).1
            exact (g3 i (by omega) (by omega) (by omega)).trans (HB34.out.block i h8)
end Go.Proofs.YtlacligofhinmaaGreat.C
