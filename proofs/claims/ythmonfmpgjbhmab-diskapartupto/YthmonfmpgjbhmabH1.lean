import Derived.Test.YthmonfmpgjbhmabMH
import Derived.Deep.RegionHeld3
import Derived.Deep.RegionLaw
import Derived.Deep.AppendLies
import Derived.Deep.DrawnRows
import Derived.Test.YthmonfmpgjbhmabRows
import Derived.Carry
import Derived.ProofKit
import Derived.OpenShut
import Derived.SizedLaws
import Derived.Deep.Slices
import Derived.Test.YthmonfmpgjbhmabKH
import Derived.Test.YthmonfmpgjbhmabLP
namespace Go.Proofs.Ythmonfmpgjbhmab.K
open Go.RowKit Go.Maps Go.Proofs.Ythmonfmpgjbhmab
attribute [local go_sem] Oper.semAt_some
set_option linter.unusedVariables false
set_option linter.unusedSimpArgs false
set_option maxRecDepth 100000

/-- behind the last that is picked nothing changes -/
theorem pick_stop {k : Nat → Bool} {Q : List Pv} {n : Nat} (h : ∀ i, n ≤ i → k i = false) : ∀ j, pick k Q (n + j) = pick k Q n
  | 0 => rfl
  | j + 1 => by
    have ih := pick_stop (Q := Q) h j
    rw [← ih]
    show pick k Q (n + j + 1) = _
    conv => lhs; unfold pick
    cases Q[n + j]? with
    | none => rfl
    | some x => simp [h (n + j) (by omega)]
theorem lay_stop {k : Nat → Bool} {q : List Pu} {f : Nat → Bl} {n : Nat} (h : ∀ i, n ≤ i → k i = false) : ∀ j, layTo k q f (n + j) = layTo k q f n
  | 0 => rfl
  | j + 1 => by
    have ih := lay_stop (q := q) (f := f) h j
    rw [← ih]
    show layTo k q f (n + j + 1) = _
    conv => lhs; unfold layTo
    cases q[n + j]? with
    | none => rfl
    | some x => simp [h (n + j) (by omega)]
theorem pick_yes {k : Nat → Bool} {Q : List Pv} {n : Nat} {x : Pv} (h : Q[n]? = some x) (hk : k n = true) : pick k Q (n + 1) = pick k Q n ++ [x] := by
  conv => lhs; unfold pick
  rw [h]; simp [hk]
theorem pick_no {k : Nat → Bool} {Q : List Pv} {n : Nat} {x : Pv} (h : Q[n]? = some x) (hk : k n = false) : pick k Q (n + 1) = pick k Q n := by
  conv => lhs; unfold pick
  rw [h]; simp [hk]
theorem pick_len (k : Nat → Bool) (Q : List Pv) : ∀ n, (pick k Q n).length ≤ n
  | 0 => by simp [pick]
  | n + 1 => by
    have ih := pick_len k Q n
    unfold pick
    cases Q[n]? with
    | none => simp; omega
    | some x => by_cases hk : k n = true <;> simp [hk] <;> omega
section
variable {w : World} {p : Nat} {dv qv av : Value} {D Q : List Pv} {S : Dk}
set_option maxHeartbeats 8000000 in
theorem rCrash_any (h : RR w p dv qv av D Q S) (hl : D.length + Q.length ≤ 1048576) {ao : Option Addr} {cap kn : Nat} {l : List Bool} (hr : BoRow w ao cap l) (hn : l.length = kn) (hap : ∀ ad, ao = some ad → l ≠ [] → ad.block ∉ fr p dv qv av (D ++ Q)) :
    Calls Try.prog 43 #[.pointer (some ⟨p, 0, none⟩), .slice ao kn cap] w fun r w' => r = .returned (.tuple #[]) ∧ ∃ dv' D', RAct w w' p dv qv av D Q dv' (.slice none 0 0) (.slice none 0 0) D' [] (crashed l S) ∧ D'.length ≤ D.length + Q.length := by
  obtain ⟨qo, qc, rfl⟩ := own_slice h.qr
  obtain ⟨m, hm⟩ : ∃ m, m = Q.length := ⟨_, rfl⟩
  obtain ⟨k, hk⟩ : ∃ k : Nat → Bool, k = fun i => l.getD i false := ⟨_, rfl⟩
  have HK : Hid (k = fun i => l.getD i false) := hk
  have HM : Hid (Q.length = m) := hm.symm
  have HN : Hid (l.length = kn) := hn
  have hkn : kn ≤ 1048576 := by have := hr.len; omega
  have HH : Hid (RR w p dv (.slice qo m qc) av D Q S) := by have h1 := h; rw [← hm] at h1; exact h1
  have HB : Hid (∀ W, Kp w W (fr p dv (.slice qo m qc) av (D ++ Q)) → BoRow W ao cap l) := fun W hW => hr.kept hW (fun ad e hne => by have := hap ad e hne; rw [← hm] at this; exact this)
  rw [← hm]
  clear h hr hap hn hk
  obtain ⟨i0, hi0, hz0, hz1, hz2⟩ := info_parts infoPt
  go_enter Try.func43, Try.ntmps43
  have HSq : Hid (Q.map bare = S.q) := HH.out.q
  have HLay : Hid (∀ n, ∀ s, s < S.n → layTo k S.q S.safe n s = (lastQ s ((D ++ pick k Q n).map bare)).getD z512) := fun n s hs => by
    have h1 := pick_lay k Q D S.safe S.n HH.out.sf n s hs
    rw [HH.out.q] at h1
    exact h1
  have HL : Hid (D.length + Q.length ≤ 1048576) := hl
  have hml : m ≤ 1048576 := by omega
  clear hm hl
  go_wp2
  go_loopw [4] (fun c wr => ∃ (n : Nat) (dv' : Value), n ≤ m ∧ n ≤ kn ∧ c = .int .i64 n ∧ Hid (RAct w wr p dv (.slice qo m qc) av D Q dv' (.slice qo m qc) av (D ++ pick k Q n) Q { S with safe := layTo k S.q S.safe n })) (fun c _ => m - (intOf c).toNat)
  case atStart => exact ⟨0, dv, Nat.zero_le _, Nat.zero_le _, rfl, by show RAct _ _ _ _ _ _ _ _ _ _ _ _ _ _; simpa [pick, layTo] using RAct.refl HH.out⟩
  case round =>
    obtain ⟨n, dv', hn, hnk, rfl, HA⟩ := hrel
    have c3 : wr.cell? ⟨p, 3, none⟩ = some (.slice qo m qc) := HA.out.rk.c 3
    by_cases hlt : n < m
    · by_cases hlk : n < kn
      · have hbo := HB.out wr HA.out.kp
        obtain ⟨bb, off, hao, hcb⟩ := hbo.at_ (by rintro rfl; have := HN.out; simp at this; omega)
        subst hao
        obtain ⟨bx, hbx⟩ : ∃ bx, l[n]? = some bx := ⟨_, List.getElem?_eq_getElem (by have := HN.out; omega)⟩
        have cb := hcb n bx hbx
        have hkb : k n = bx := by rw [HK.out]; show l.getD n false = bx; rw [List.getD_eq_getElem?_getD, hbx]; rfl
        have HKb : Hid (k n = bx) := hkb
        obtain ⟨x, hx⟩ : ∃ x, Q[n]? = some x := ⟨_, List.getElem?_eq_getElem (by have := HM.out; omega)⟩
        have HX : Hid (Q[n]? = some x) := hx
        clear hbo hcb hbx hkb hx
        cases bx with
        | false =>
          have HA2 : Hid (RAct w wr p dv (.slice qo m qc) av D Q dv' (.slice qo m qc) av (D ++ pick k Q (n + 1)) Q { S with safe := layTo k S.q S.safe (n + 1) }) := by
            have e1 : pick k Q (n + 1) = pick k Q n := pick_no HX.out HKb.out
            have e2 : layTo k S.q S.safe (n + 1) = layTo k S.q S.safe n := by
              conv => lhs; unfold layTo
              rw [← HSq.out, List.getElem?_map, HX.out]; simp [HKb.out]
            show RAct _ _ _ _ _ _ _ _ _ _ _ _ _ _
            rw [e1, e2]; exact HA.out
          go_wp2
          go_roundw
          case rel => exact ⟨n + 1, dv', by omega, by omega, by go_num, HA2⟩
          case measure => simp [intOf]; omega
        | true =>
          obtain ⟨gq, hgq⟩ : ∃ gq, qo = some ⟨gq, 0, none⟩ := by
            rcases HH.out.qr.2 with ⟨e, h0⟩ | ⟨g, cap', cur, e, _⟩
            · rw [HM.out] at h0; omega
            · simp at e; exact ⟨g, e.1⟩
          subst hgq
          obtain ⟨s, v, bl⟩ := x
          have hxm : (s, v, bl) ∈ Q := List.mem_of_getElem? HX.out
          obtain ⟨vo, vc, hv⟩ := own_slice (HH.out.dat (s, v, bl) (by simp [hxm]))
          simp only at hv
          subst hv
          obtain ⟨ddo, ddc, hdv⟩ := own_slice HA.out.rk.dr
          subst hdv
          obtain ⟨dn, hdn⟩ : ∃ dn, dn = (D ++ pick k Q n).length := ⟨_, rfl⟩
          have hdl : dn ≤ 1048576 := by have h1 := pick_len k Q n; rw [hdn, List.length_append]; have h2 := HL.out; have h3 := HM.out; omega
          have HDn : Hid ((D ++ pick k Q n).length = dn) := hdn.symm
          rw [← hdn] at HA
          have hBd := below_drew wr
          have HAd : Hid (RAct w wr.drew p dv (.slice (some ⟨gq, 0, none⟩) m qc) av D Q (.slice ddo dn ddc) (.slice (some ⟨gq, 0, none⟩) m qc) av (D ++ pick k Q n) Q { S with safe := layTo k S.q S.safe n }) := HA.out.later hBd
          obtain ⟨q0, q1⟩ := qrow_at (by have h1 := HA.out.rk.qr; rw [HM.out] at h1; exact h1 : wr.ownsRow 0 TPt 2 (.slice (some ⟨gq, 0, none⟩) m qc) m (qcells Q)) HX.out HM.out
          simp only at q0 q1
          have c2 : wr.cell? ⟨p, 2, none⟩ = some (.slice ddo dn ddc) := HA.out.rk.c 2
          have hone := fun W => run_onep W s (.slice vo 512 vc) rfl
          have hal : Below wr.drew.heap.size wr.drew (wr.drew.alloc (.cells #[.int .i64 s, .slice vo 512 vc] TPt)) := (Below.refl _ _).alloc (Nat.le_refl _) _
          have HAl : Hid (Below wr.drew.heap.size wr.drew (wr.drew.alloc (.cells #[.int .i64 s, .slice vo 512 vc] TPt))) := hal
          have c2a : (wr.alloc (.cells #[.int .i64 s, .slice vo 512 vc] TPt)).cell? ⟨p, 2, none⟩ = some (.slice ddo dn ddc) := cell_later ((Below.refl _ wr).alloc (Nat.le_refl _) _) c2
          have c2b : (wr.drew.alloc (.cells #[.int .i64 s, .slice vo 512 vc] TPt)).cell? ⟨p, 2, none⟩ = some (.slice ddo dn ddc) := c2a
          have HR : Hid (wr.drew.ownsRow 0 TPt 2 (.slice ddo dn ddc) dn (qcells (D ++ pick k Q n))) := by have h1 := HAd.out.rk.dr; rw [HDn.out] at h1; exact h1
          have e1 : pick k Q (n + 1) = pick k Q n ++ [(s, .slice vo 512 vc, bl)] := pick_yes HX.out HKb.out
          have HE1 : Hid (pick k Q (n + 1) = pick k Q n ++ [(s, .slice vo 512 vc, bl)]) := e1
          have HXm : Hid ((s, .slice vo 512 vc, bl) ∈ Q) := hxm
          clear hdn hBd hal e1 hxm
          go_wp2
          go_region_law (first | (refine step_append_lies _ (by rfl) _ _ TPts (by rfl) 0 TPt i0 _ 2 32 Try.underlying38 hi0 hz0 hz1 hz2 (by rfl) (by decide) (.slice ddo dn ddc) dn (qcells (D ++ pick k Q n)) (by rfl) (HR.out.alloc _) ⟨wr.drew.heap.size, 0, none⟩ 1 1 (qcell (s, .slice vo 512 vc, bl)) (by rfl) (by rfl) (World.news_of_block (heap_alloc_new wr.drew _)) (fun u hu => by simp [qcell] at hu; rcases hu with rfl | rfl <;> rfl) (by decide) (by unfold maxLen; omega) (by omega) (Nat.zero_le _) (wr.drew.heap.size + 1) (by exact World.size_alloc wr _) ?_; intro g' cap' w6 hown' hgrow hat hlt'; have hN := HAd.out.rk.newD (w5 := wr.drew.alloc (.cells #[.int .i64 s, .slice vo 512 vc] TPt)) HAl.out hgrow (X := [(s, .slice vo 512 vc, bl)]) (dv' := .slice (some ⟨g', 0, none⟩) (dn + 1) cap') (fun y hy => by simp at hy; subst hy; exact HXm.out) (by rw [HDn.out]; simpa [qcells] using hown') (fun g e => by simp [Value.ownBlock] at e; subst e; exact hat.imp id (fun e => by omega)) (f := layTo k S.q S.safe (n + 1)) (fun s' hs' => by have h1 := HLay.out (n + 1) s' hs'; rw [HE1.out, ← List.append_assoc] at h1; exact h1); have c26 : w6.cell? ⟨p, 2, none⟩ = some (.slice ddo dn ddc) := (World.cell?_of_block (a := ⟨p, 2, none⟩) hN.1).trans (HAd.out.rk.c 2); have f26 : w6.frozen? ⟨p, 2, none⟩ = false := frozen_of (hN.1.trans HAd.out.rk.blk); have HN : Hid (RAct w (w6.setCell ⟨p, 2, none⟩ (.slice (some ⟨g', 0, none⟩) (dn + 1) cap')) p dv (.slice (some ⟨gq, 0, none⟩) m qc) av D Q (.slice (some ⟨g', 0, none⟩) (dn + 1) cap') (.slice (some ⟨gq, 0, none⟩) m qc) av (D ++ pick k Q (n + 1)) Q { S with safe := layTo k S.q S.safe (n + 1) }) := (by show RAct _ _ _ _ _ _ _ _ _ _ _ _ _ _; rw [HE1.out, ← List.append_assoc]; exact HAd.out.trans hN.2); clear hN hown' hgrow hat hlt'))
          all_goals go_wp2
          all_goals go_roundw
          all_goals first
            | exact ⟨n + 1, _, by omega, by omega, by go_num, HN⟩
            | (simp [intOf]; omega)
      · have hdum := hlk
        have hlay : layTo k S.q S.safe n = layTo k S.q S.safe S.q.length := by
          have e : S.q.length = kn + (S.q.length - kn) := by rw [← HSq.out, List.length_map]; have := HM.out; omega
          have hz : n = kn := by omega
          rw [e, hz]
          exact (lay_stop (fun i hi => by rw [HK.out]; show l.getD i false = false; rw [List.getD_eq_getElem?_getD, List.getElem?_eq_none (by have := HN.out; omega)]; rfl) _).symm
        have HFin : Hid (RAct w wr p dv (.slice qo m qc) av D Q dv' (.slice qo m qc) av (D ++ pick k Q n) Q { S with safe := layTo k S.q S.safe S.q.length }) := by
          show RAct _ _ _ _ _ _ _ _ _ _ _ _ _ _
          rw [← hlay]; exact HA.out
        have HF3 : Hid (RAct w (wr.setCell ⟨p, 3, none⟩ (.slice none 0 0)) p dv (.slice qo m qc) av D Q dv' (.slice none 0 0) av (D ++ pick k Q n) [] { S with safe := layTo k S.q S.safe S.q.length, q := [] }) := HFin.out.noQ
        have hF4 := HF3.out.trans (HF3.out.rk.newA (w5 := wr) (fs := []) (av' := .slice none 0 0) (Kp.refl _ _) (World.ownsRow_nil _ _ _ _) (fun g e => by simp [Value.ownBlock] at e)).2
        have HF4 : Hid (RAct w ((wr.setCell ⟨p, 3, none⟩ (.slice none 0 0)).setCell ⟨p, 4, none⟩ (.slice none 0 0)) p dv (.slice qo m qc) av D Q dv' (.slice none 0 0) (.slice none 0 0) (D ++ pick k Q n) [] { S with safe := layTo k S.q S.safe S.q.length, q := [], fs := [] }) := hF4
        have f3 : wr.frozen? ⟨p, 3, none⟩ = false := HA.out.rk.fz 3
        have c4 : (wr.setCell ⟨p, 3, none⟩ (.slice none 0 0)).cell? ⟨p, 4, none⟩ = some av := HF3.out.rk.c 4
        have f4 := HF3.out.rk.fz 4
        have c9 : ((wr.setCell ⟨p, 3, none⟩ (.slice none 0 0)).setCell ⟨p, 4, none⟩ (.slice none 0 0)).cell? ⟨p, 9, none⟩ = some (.int .u64 S.st.crashes) := HF4.out.rk.c 9
        have f9 := HF4.out.rk.fz 9
        clear hlay hF4
        go_wp2
        go_end0
        refine ⟨rfl, dv', D ++ pick k Q n, ?_, ?_⟩
        · have h9 := HF4.out.put 9 (.int .u64 (inc S.st.crashes)) { S.st with crashes := inc S.st.crashes } rfl
          have e : crashed l S = { S with safe := layTo k S.q S.safe S.q.length, q := [], fs := [], st := { S.st with crashes := inc S.st.crashes } } := by unfold crashed settled; rw [HK.out]
          rw [e]
          exact h9
        · rw [List.length_append]; have h1 := pick_len k Q n; have h2 := HM.out; omega
    · have hdum := hlt
      have hlay : layTo k S.q S.safe n = layTo k S.q S.safe S.q.length := by
        have e : S.q.length = n := by rw [← HSq.out, List.length_map]; have := HM.out; omega
        rw [e]
      have HFin : Hid (RAct w wr p dv (.slice qo m qc) av D Q dv' (.slice qo m qc) av (D ++ pick k Q n) Q { S with safe := layTo k S.q S.safe S.q.length }) := by
        show RAct _ _ _ _ _ _ _ _ _ _ _ _ _ _
        rw [← hlay]; exact HA.out
      have HF3 : Hid (RAct w (wr.setCell ⟨p, 3, none⟩ (.slice none 0 0)) p dv (.slice qo m qc) av D Q dv' (.slice none 0 0) av (D ++ pick k Q n) [] { S with safe := layTo k S.q S.safe S.q.length, q := [] }) := HFin.out.noQ
      have hF4 := HF3.out.trans (HF3.out.rk.newA (w5 := wr) (fs := []) (av' := .slice none 0 0) (Kp.refl _ _) (World.ownsRow_nil _ _ _ _) (fun g e => by simp [Value.ownBlock] at e)).2
      have HF4 : Hid (RAct w ((wr.setCell ⟨p, 3, none⟩ (.slice none 0 0)).setCell ⟨p, 4, none⟩ (.slice none 0 0)) p dv (.slice qo m qc) av D Q dv' (.slice none 0 0) (.slice none 0 0) (D ++ pick k Q n) [] { S with safe := layTo k S.q S.safe S.q.length, q := [], fs := [] }) := hF4
      have f3 : wr.frozen? ⟨p, 3, none⟩ = false := HA.out.rk.fz 3
      have c4 : (wr.setCell ⟨p, 3, none⟩ (.slice none 0 0)).cell? ⟨p, 4, none⟩ = some av := HF3.out.rk.c 4
      have f4 := HF3.out.rk.fz 4
      have c9 : ((wr.setCell ⟨p, 3, none⟩ (.slice none 0 0)).setCell ⟨p, 4, none⟩ (.slice none 0 0)).cell? ⟨p, 9, none⟩ = some (.int .u64 S.st.crashes) := HF4.out.rk.c 9
      have f9 := HF4.out.rk.fz 9
      clear hlay hF4
      go_wp2
      go_end0
      refine ⟨rfl, dv', D ++ pick k Q n, ?_, ?_⟩
      · have h9 := HF4.out.put 9 (.int .u64 (inc S.st.crashes)) { S.st with crashes := inc S.st.crashes } rfl
        have e : crashed l S = { S with safe := layTo k S.q S.safe S.q.length, q := [], fs := [], st := { S.st with crashes := inc S.st.crashes } } := by unfold crashed settled; rw [HK.out]
        rw [e]
        exact h9
      · rw [List.length_append]; have h1 := pick_len k Q n; have h2 := HM.out; omega
end
end Go.Proofs.Ythmonfmpgjbhmab.K

namespace Go.Proofs.Ythmonfmpgjbhmab.K
open Go.RowKit Go.Maps Go.Proofs.Ythmonfmpgjbhmab
attribute [local go_sem] Oper.semAt_some
set_option linter.unusedVariables false
set_option linter.unusedSimpArgs false
set_option maxRecDepth 100000

/-- the first bytes of a sector are laid -/
def mix (L : List Nat) (o : Nat) (l : Bl) (k : Nat) : List Nat := L.take o ++ l.take k ++ L.drop (o + k)
theorem mix_len {L : List Nat} {o : Nat} {l : Bl} {k : Nat} (hl : l.length = 512) (hk : k ≤ 512) (ho : o + 512 ≤ L.length) : (mix L o l k).length = L.length := by
  unfold mix
  simp [hl]
  omega
theorem mix_zero (L : List Nat) (o : Nat) (l : Bl) : mix L o l 0 = L := by simp [mix]
theorem mix_get {L : List Nat} {o : Nat} {l : Bl} {k : Nat} (hl : l.length = 512) (hk : k ≤ 512) (ho : o + 512 ≤ L.length) (j : Nat) : (mix L o l k)[j]? = if o ≤ j ∧ j < o + k then l[j - o]? else L[j]? := by
  unfold mix
  rw [List.append_assoc]
  have e1 : (L.take o).length = o := by simp; omega
  have e2 : (l.take k).length = k := by simp; omega
  by_cases h1 : j < o
  · rw [List.getElem?_append_left (by rw [e1]; exact h1), List.getElem?_take, if_pos h1, if_neg (by omega)]
  · rw [List.getElem?_append_right (by rw [e1]; omega), e1]
    by_cases h2 : j - o < k
    · rw [List.getElem?_append_left (by rw [e2]; exact h2), List.getElem?_take, if_pos h2, if_pos (by omega)]
    · rw [List.getElem?_append_right (by rw [e2]; omega), e2, List.getElem?_drop, if_neg (by omega), show o + k + (j - o - k) = j by omega]
theorem mix_step {L : List Nat} {o : Nat} {l : Bl} {k x : Nat} (hx : l[k]? = some x) (hl : l.length = 512) (ho : o + 512 ≤ L.length) : (mix L o l k).set (o + k) x = mix L o l (k + 1) := by
  have hk : k < 512 := by have := (List.getElem?_eq_some_iff.1 hx).1; omega
  apply List.ext_getElem?
  intro j
  rw [List.getElem?_set, mix_get hl (by omega) ho, mix_get hl (by omega) ho, mix_len hl (by omega) ho]
  by_cases h1 : o + k = j
  · rw [if_pos h1, if_pos (by omega), if_pos (by omega), ← h1, show o + k - o = k by omega, hx]
  · rw [if_neg h1]
    by_cases h2 : o ≤ j ∧ j < o + k
    · rw [if_pos h2, if_pos (by omega)]
    · rw [if_neg h2, if_neg (by omega)]
theorem mix_all {L : List Nat} {o : Nat} {l : Bl} (hl : l.length = 512) : mix L o l 512 = L.take o ++ l ++ L.drop (o + 512) := by
  unfold mix
  rw [List.take_of_length_le (l := l) (by omega)]
theorem map_set_bv (l : List Nat) (i x : Nat) : (l.map bv).toArray.setIfInBounds i (.int .u8 (x : Int)) = ((l.set i x).map bv).toArray := by
  rw [List.setIfInBounds_toArray]
  congr 1
  rw [List.map_set]
  rfl
/-- the safe bytes by the first writes -/
def safeTo (D : List Pv) (i : Nat) (s : Nat) : Bl := (lastQ s ((D.take i).map bare)).getD z512
theorem safeTo_succ {D : List Pv} {i : Nat} {x : Pv} (h : D[i]? = some x) : safeTo D (i + 1) = upd (safeTo D i) x.1 x.2.2 := by
  funext s
  unfold safeTo upd
  rw [List.take_add_one, h, List.map_append, lastQ_append]
  simp only [Option.toList_some, List.map_cons, List.map_nil, lastQ, bare]
  by_cases e : s = x.1
  · rw [if_pos e, if_pos e.symm]; rfl
  · rw [if_neg e, if_neg (fun h => e h.symm)]; rfl
theorem safeTo_len {D : List Pv} {n : Nat} (h : ∀ x ∈ D, x.1 < n ∧ OkB x.2.2) (i s : Nat) : (safeTo D i s).length = 512 := by
  unfold safeTo
  cases hl : lastQ s ((D.take i).map bare) with
  | none => exact okZ.len
  | some l =>
    obtain ⟨j, hj, _⟩ := lastQ_some hl
    rw [List.getElem?_map] at hj
    obtain ⟨x, hx, e⟩ := Option.map_eq_some_iff.1 hj
    have h2 := (h x (List.mem_of_mem_take (List.mem_of_getElem? hx))).2
    simp [bare] at e
    rw [Option.getD_some, ← e.2]; exact h2.len
section
variable {w : World} {p : Nat} {dv qv av : Value} {D Q : List Pv} {S : Dk}
set_option maxHeartbeats 8000000 in
theorem rImage_any (h : RR w p dv qv av D Q S) (hl : D.length ≤ 1048576) :
    Calls Try.prog 63 #[.pointer (some ⟨p, 0, none⟩)] w fun r w' => ∃ v, r = .returned v ∧ w'.ownsRow w.heap.size 5 1 v (S.n * 512) ((imgL S.n S.safe).map bv) ∧ Below w.heap.size w w' := by
  obtain ⟨n, hn⟩ : ∃ n, n = S.n := ⟨_, rfl⟩
  have HNn : Hid (S.n = n) := hn.symm
  have hn1 : n ≤ 65536 := by rw [hn]; exact h.n1
  have hmk := run_image w hn1
  obtain ⟨W0, hW0⟩ : ∃ W0, W0 = w.alloc (.cells ((imgL n (fun _ => z512)).map bv).toArray 5) := ⟨_, rfl⟩
  have hB0 : Below w.heap.size w W0 := by rw [hW0]; exact (Below.refl _ w).alloc (Nat.le_refl _) _
  have hbb : W0.heap[w.heap.size]? = some (.cells ((imgL n (safeTo D 0)).map bv).toArray 5) := by
    rw [hW0]
    exact heap_alloc_new w _
  rw [← hW0] at hmk
  have c0 : w.cell? ⟨p, 0, none⟩ = some (.int .i64 n) := by rw [hn]; exact h.c 0
  obtain ⟨ddo, ddc, rfl⟩ := own_slice h.dr
  obtain ⟨dn, hdn⟩ : ∃ dn, dn = D.length := ⟨_, rfl⟩
  have HDn : Hid (D.length = dn) := hdn.symm
  rw [← hdn] at hl
  have HH : Hid (∀ W, Below w.heap.size w W → RR W p (.slice ddo dn ddc) qv av D Q S) := fun W hW => by have h1 := h.later hW; rw [← hdn] at h1; exact h1
  have c1 : W0.cell? ⟨p, 1, none⟩ = some (.slice none 0 0) := (HH.out W0 hB0).c 1
  have HB0 : Hid (Below w.heap.size w W0) := hB0
  have HBB : Hid (W0.heap[w.heap.size]? = some (.cells ((imgL n (safeTo D 0)).map bv).toArray 5)) := hbb
  rw [← hn]
  clear h hn hW0 hB0 hbb hdn
  go_enter Try.func63, Try.ntmps63
  go_wp2
  go_loopw [4] (fun c wr => c = .int .i64 0 ∧ Hid (wr = W0)) (fun _ _ => 0)
  case atStart => exact ⟨rfl, rfl⟩
  case round =>
    obtain ⟨rfl, HW⟩ := hrel
    have hw := HW.out
    subst hw
    go_wp2
    go_loopw [5] (fun c wr => ∃ i : Nat, i ≤ dn ∧ c = .int .i64 i ∧ Hid (Below w.heap.size w wr) ∧ Hid (wr.heap[w.heap.size]? = some (.cells ((imgL n (safeTo D i)).map bv).toArray 5))) (fun c _ => dn - (intOf c).toNat)
    case atStart => exact ⟨0, Nat.zero_le _, rfl, HB0, HBB⟩
    case round =>
      obtain ⟨Wo, hWo⟩ : ∃ Wo, Wo = wr := ⟨_, rfl⟩
      subst hWo
      obtain ⟨i, hi, rfl, HB, HI⟩ := hrel
      have hrr := HH.out Wo HB.out
      have c2 : Wo.cell? ⟨p, 2, none⟩ = some (.slice ddo dn ddc) := hrr.c 2
      have hok : ∀ x ∈ D, x.1 < n ∧ OkB x.2.2 := fun x hx => by have h1 := hrr.ok x (by simp [hx]); rw [HNn.out] at h1; exact h1
      by_cases hlt : i < dn
      · obtain ⟨x, hx⟩ : ∃ x, D[i]? = some x := ⟨_, List.getElem?_eq_getElem (by have := HDn.out; omega)⟩
        obtain ⟨s, v, bl⟩ := x
        have hxm : (s, v, bl) ∈ D := List.mem_of_getElem? hx
        obtain ⟨hsn, hbl⟩ := hok _ hxm
        simp only at hsn hbl
        have hdat := hrr.dat (s, v, bl) (by simp [hxm])
        obtain ⟨gv, vc, curv, hv, _, hgv, hcv⟩ := own_form hdat (by decide)
        simp only at hv
        subst hv
        obtain ⟨gd, hgd⟩ : ∃ gd, ddo = some ⟨gd, 0, none⟩ := by
          rcases hrr.dr.2 with ⟨e, h0⟩ | ⟨g, cap', cur, e, _⟩
          · rw [HDn.out] at h0; omega
          · simp at e; exact ⟨g, e.1⟩
        subst hgd
        obtain ⟨q0, q1⟩ := qrow_at (by have h1 := hrr.dr; rw [HDn.out] at h1; exact h1 : Wo.ownsRow 0 TPt 2 (.slice (some ⟨gd, 0, none⟩) dn ddc) dn (qcells D)) hx HDn.out
        simp only at q0 q1
        have hlen : ∀ t, t < n → (safeTo D i t).length = 512 := fun t _ => safeTo_len hok i t
        have hil : (imgL n (safeTo D i)).length = n * 512 := imgL_len hlen
        have hso : s * 512 + 512 ≤ (imgL n (safeTo D i)).length := by rw [hil]; omega
        have HSo : Hid (s * 512 + 512 ≤ (imgL n (safeTo D i)).length ∧ (imgL n (safeTo D i)).length = n * 512) := ⟨hso, hil⟩
        have HBl : Hid (OkB bl) := hbl
        have HSn : Hid (s < n) := hsn
        have HNext : Hid (((mix (imgL n (safeTo D i)) (s * 512) bl 512).map bv).toArray = ((imgL n (safeTo D (i + 1))).map bv).toArray) := by
          show _ = _
          rw [mix_all hbl.len, imgL_put hlen hsn hbl.len, safeTo_succ hx]
        have hgvl : gv < Wo.heap.size := (Array.getElem?_eq_some_iff.1 hgv).1
        have HV : Hid (∀ W, Below Wo.heap.size Wo W ∨ W.heap[gv]? = Wo.heap[gv]? → ∀ (j y : Nat), bl[j]? = some y → W.cell? ⟨gv, j, none⟩ = some (.int .u8 y)) := fun W hW j y hy => by
          have h1 : W.heap[gv]? = Wo.heap[gv]? := by
            rcases hW with hW | hW
            · exact hW.block gv hgvl
            · exact hW
          rw [cell_of (h1.trans hgv)]
          exact hcv j y hy
        obtain ⟨W1, hW1⟩ : ∃ W1, W1 = Wo.alloc (.cells #[.int .i64 s, .slice (some ⟨gv, 0, none⟩) 512 vc] TPt) := ⟨_, rfl⟩
        have hB1 : Below Wo.heap.size Wo W1 := by rw [hW1]; exact (Below.refl _ Wo).alloc (Nat.le_refl _) _
        have hbbl : w.heap.size < Wo.heap.size := (Array.getElem?_eq_some_iff.1 HI.out).1
        have HS1 : Hid (Below w.heap.size w W1 ∧ W1.heap[w.heap.size]? = some (.cells ((mix (imgL n (safeTo D i)) (s * 512) bl 0).map bv).toArray 5) ∧ W1.heap[Wo.heap.size]? = some (.cells #[.int .i64 s, .slice (some ⟨gv, 0, none⟩) 512 vc] TPt) ∧ W1.heap[gv]? = Wo.heap[gv]?) := by
          refine ⟨HB.out.trans (hB1.mono HB.out.size), ?_, by rw [hW1]; exact heap_alloc_new Wo _, hB1.block gv hgvl⟩
          rw [mix_zero]
          exact (hB1.block _ hbbl).trans HI.out
        have HGB : Hid (gv ≠ w.heap.size ∧ w.heap.size < Wo.heap.size ∧ gv < Wo.heap.size) := ⟨fun e => by
          have h1 := row_lt (hrr.dat (s, .slice (some ⟨gv, 0, none⟩) 512 vc, bl) (by simp [hxm])) gv rfl
          have h2 := (row_lt ((HH.out w (Below.refl _ _)).dat (s, .slice (some ⟨gv, 0, none⟩) 512 vc, bl) (by simp [hxm])) gv rfl).1
          omega, hbbl, hgvl⟩
        clear hrr hok hx hxm hsn hbl hdat hgv hcv hlen hil hso hB1
        go_wp2
        rw [← hW1]
        clear hW1
        go_loopw [7] (fun c wr2 => ∃ k : Nat, k ≤ 512 ∧ c = .int .i64 k ∧ Hid (Below w.heap.size w wr2 ∧ wr2.heap[w.heap.size]? = some (.cells ((mix (imgL n (safeTo D i)) (s * 512) bl k).map bv).toArray 5) ∧ wr2.heap[Wo.heap.size]? = some (.cells #[.int .i64 s, .slice (some ⟨gv, 0, none⟩) 512 vc] TPt) ∧ wr2.heap[gv]? = Wo.heap[gv]?)) (fun c _ => 512 - (intOf c).toNat)
        case atStart => exact ⟨0, by decide, rfl, HS1⟩
        case round =>
          obtain ⟨k, hk, rfl, HR⟩ := hrel
          by_cases hk5 : k < 512
          · obtain ⟨x, hx⟩ : ∃ x, bl[k]? = some x := ⟨_, List.getElem?_eq_getElem (by rw [HBl.out.len]; exact hk5)⟩
            obtain ⟨r1, r2, r3, r4⟩ := HR.out
            have y0 : wr.cell? ⟨Wo.heap.size, 0, none⟩ = some (.int .i64 s) := (cell_of r3).trans rfl
            have y1 : wr.cell? ⟨Wo.heap.size, 1, none⟩ = some (.slice (some ⟨gv, 0, none⟩) 512 vc) := (cell_of r3).trans rfl
            have dk : wr.cell? ⟨gv, k, none⟩ = some (.int .u8 x) := HV.out wr (.inr r4) k x hx
            have hml : (mix (imgL n (safeTo D i)) (s * 512) bl k).length = n * 512 := by rw [mix_len HBl.out.len hk HSo.out.1, HSo.out.2]
            obtain ⟨old, hold⟩ : ∃ old, wr.cell? ⟨w.heap.size, s * 512 + k, none⟩ = some old := by
              rw [cell_of r2]
              have := HSn.out
              exact ⟨_, Array.getElem?_eq_getElem (by simp [hml]; omega)⟩
            have fz : wr.frozen? ⟨w.heap.size, s * 512 + k, none⟩ = false := frozen_of r2
            have e1 : ¬ w.heap.size = Wo.heap.size := by have := HGB.out.2.1; omega
            have e2 : ¬ Wo.heap.size = w.heap.size := by omega
            have e3 : ¬ w.heap.size = gv := fun e => HGB.out.1 e.symm
            have e4 : ¬ gv = w.heap.size := HGB.out.1
            have n6 : s ≤ 65536 := by have := HSn.out; omega
            have n1 : IntKind.i64.wrap ((s : Int) * 512) = (s : Int) * 512 := wrap_id (by omega) (by omega)
            have n7 : IntKind.i64.wrap ((s : Int) * 512 + (k : Int)) = (s : Int) * 512 + (k : Int) := wrap_id (by omega) (by omega)
            have n8 : (s : Int) * 512 + (k : Int) < ((n * 512 : Nat) : Int) := by have := HSn.out; omega
            have n2 : ((s : Int) * 512 + (k : Int)) < (n : Int) * 512 := by have := HSn.out; omega
            have n3 : (0 : Int) ≤ (s : Int) * 512 + (k : Int) := by omega
            have n4 : ((s : Int) * 512 + (k : Int)).toNat = s * 512 + k := by omega
            have n5 : s * 512 + k < n * 512 := by have := HSn.out; omega
            have HNx : Hid (Below w.heap.size w (wr.setCell ⟨w.heap.size, s * 512 + k, none⟩ (.int .u8 x)).drew ∧ (wr.setCell ⟨w.heap.size, s * 512 + k, none⟩ (.int .u8 x)).drew.heap[w.heap.size]? = some (.cells ((mix (imgL n (safeTo D i)) (s * 512) bl (k + 1)).map bv).toArray 5) ∧ (wr.setCell ⟨w.heap.size, s * 512 + k, none⟩ (.int .u8 x)).drew.heap[Wo.heap.size]? = some (.cells #[.int .i64 s, .slice (some ⟨gv, 0, none⟩) 512 vc] TPt) ∧ (wr.setCell ⟨w.heap.size, s * 512 + k, none⟩ (.int .u8 x)).drew.heap[gv]? = Wo.heap[gv]?) := by
              have hb := blk_set r2 (s * 512 + k) (.int .u8 x)
              rw [map_set_bv, mix_step hx HBl.out.len HSo.out.1] at hb
              refine ⟨⟨r1.os, r1.tape, r1.output, by show _ ≤ (wr.setCell _ _).heap.size; simpa using r1.size, fun j hj => ?_⟩, hb, ?_, ?_⟩
              · exact (Below.heap_setCell _ _ _ _ (by show j ≠ w.heap.size; omega)).trans (r1.block j hj)
              · exact (Below.heap_setCell _ _ _ _ (by show Wo.heap.size ≠ w.heap.size; omega)).trans r3
              · exact (Below.heap_setCell _ _ _ _ (by show gv ≠ w.heap.size; omega)).trans r4
            clear r1 r2 r3 r4 hx hml
            go_wp2
            go_region_held3 (fun w' => w'.cell? ⟨Wo.heap.size, 0, none⟩ = some (.int .i64 s) ∧ w'.cell? ⟨Wo.heap.size, 1, none⟩ = some (.slice (some ⟨gv, 0, none⟩) 512 vc) ∧ w'.cell? ⟨gv, k, none⟩ = some (.int .u8 x)) (first | go_keep) (fail)
            go_wp2
            go_roundw
            case rel => exact ⟨k + 1, by omega, by go_num, HNx⟩
            case measure => simp [intOf]; omega
          · have hk6 : k = 512 := by omega
            subst hk6
            have HI2 : Hid (wr.heap[w.heap.size]? = some (.cells ((imgL n (safeTo D (i + 1))).map bv).toArray 5)) := by
              have := HR.out.2.1
              rw [HNext.out] at this
              exact this
            have HB2 : Hid (Below w.heap.size w wr) := HR.out.1
            have y1 : wr.cell? ⟨Wo.heap.size, 1, none⟩ = some (.slice (some ⟨gv, 0, none⟩) 512 vc) := (cell_of HR.out.2.2.1).trans rfl
            go_wp2
            go_roundw
            case rel => exact ⟨i + 1, by omega, by go_num, HB2, HI2⟩
            case measure => simp [intOf]; omega
      · have e : i = dn := by omega
        subst e
        have hfin : imgL n (safeTo D i) = imgL n S.safe := imgL_congr fun t ht => by
          rw [hrr.sf t (by rw [HNn.out]; exact ht)]
          unfold safeTo
          rw [List.take_of_length_le (by have := HDn.out; omega)]
        have hl5 : (imgL n S.safe).length = n * 512 := by rw [← hfin]; exact imgL_len (fun t _ => safeTo_len hok i t)
        have HO : Hid (Wo.ownsRow w.heap.size 5 1 (.slice (some ⟨w.heap.size, 0, none⟩) (n * 512) (n * 512)) (n * 512) ((imgL n S.safe).map bv)) := by
          have h1 := HI.out
          rw [hfin] at h1
          refine ⟨by rw [List.length_map, hl5]; omega, .inr ⟨w.heap.size, n * 512, _, rfl, Nat.le_refl _, h1, Nat.le_refl _, by unfold maxLen; omega, by simp [hl5], by rw [List.take_of_length_le (by simp [hl5])]⟩⟩
        clear hrr hok hfin hl5
        go_wp2
        go_ret
        exact ⟨_, rfl, HO.out, HB.out⟩
end
end Go.Proofs.Ythmonfmpgjbhmab.K

namespace Go.Proofs.Ythmonfmpgjbhmab.K
open Go.RowKit Go.Maps Go.Proofs.Ythmonfmpgjbhmab
attribute [local go_sem] Oper.semAt_some
set_option linter.unusedVariables false
set_option linter.unusedSimpArgs false
set_option maxRecDepth 100000

/-- a disk and the document's, apart; H: their blocks -/
structure PP (W : World) (b p : Nat) (S T : Dk) (N : Nat) (H : List Nat) : Prop where
  ex : ∃ ms ml qv fv dv rq av D Q, RK W 0 b ms ml qv fv S ∧ RR W p dv rq av D Q T ∧ D.length + Q.length ≤ N ∧ (∀ i ∈ fp b ms ml qv fv, i ∉ fr p dv rq av (D ++ Q)) ∧ H = fp b ms ml qv fv ++ fr p dv rq av (D ++ Q)
  fs : FsOk S.fs
  ft : FsOk T.fs
/-- what a step keeps -/
structure Mv (W W' : World) (H H' : List Nat) : Prop where
  kp : Kp W W' H
  sub : ∀ i ∈ H', i ∈ H ∨ W.heap.size ≤ i
theorem Mv.refl (W : World) (H : List Nat) : Mv W W H H := ⟨Kp.refl _ _, fun _ h => .inl h⟩
theorem Mv.trans {A B C : World} {H H' H'' : List Nat} (h : Mv A B H H') (h' : Mv B C H' H'') : Mv A C H H'' :=
  ⟨h.kp.trans h'.kp h.sub, fun i hi => (h'.sub i hi).elim (h.sub i) (fun h1 => .inr (Nat.le_trans h.kp.size h1))⟩
theorem Mv.later {A B C : World} {H H' : List Nat} (h : Mv A B H H') (hb : Below B.heap.size B C) : Mv A C H H' :=
  ⟨h.kp.trans (Kp.of_below hb []) (by simp), h.sub⟩
theorem Mv.below {A B : World} {H : List Nat} (h : Mv A B H H) : True := trivial
section
variable {W W' : World} {b p : Nat} {S T : Dk} {N : Nat} {H : List Nat}
theorem PP.later (h : PP W b p S T N H) (hb : Below W.heap.size W W') : PP W' b p S T N H := by
  obtain ⟨ms, ml, qv, fv, dv, rq, av, D, Q, hk, hr, hN, hd, e⟩ := h.ex
  exact ⟨⟨ms, ml, qv, fv, dv, rq, av, D, Q, hk.later hb, hr.later hb, hN, hd, e⟩, h.fs, h.ft⟩
theorem PP.lt (h : PP W b p S T N H) : ∀ i ∈ H, i < W.heap.size := by
  obtain ⟨ms, ml, qv, fv, dv, rq, av, D, Q, hk, hr, hN, hd, rfl⟩ := h.ex
  intro i hi
  rcases List.mem_append.1 hi with hi | hi
  · exact hk.lt i hi
  · exact hr.lt i hi
theorem PP.kept {F : List Nat} (h : PP W b p S T N H) (hk : Kp W W' F) (hd : ∀ i ∈ H, i ∉ F) : PP W' b p S T N H := by
  obtain ⟨ms, ml, qv, fv, dv, rq, av, D, Q, hk0, hr, hN, hdd, rfl⟩ := h.ex
  exact ⟨⟨ms, ml, qv, fv, dv, rq, av, D, Q, hk0.kept hk (fun i hi => hd i (List.mem_append_left _ hi)), hr.kept hk (fun i hi => hd i (List.mem_append_right _ hi)), hN, hdd, rfl⟩, h.fs, h.ft⟩
theorem PP.more {N' : Nat} (h : PP W b p S T N H) (hN : N ≤ N') : PP W b p S T N' H := by
  obtain ⟨ms, ml, qv, fv, dv, rq, av, D, Q, hk, hr, hn, hd, e⟩ := h.ex
  exact ⟨⟨ms, ml, qv, fv, dv, rq, av, D, Q, hk, hr, Nat.le_trans hn hN, hd, e⟩, h.fs, h.ft⟩
/-- the disk has moved -/
theorem actD {ms ml ms' ml' : Nat} {qv fv qv' fv' dv rq av : Value} {D Q : List Pv} {S' : Dk} (hr : RR W p dv rq av D Q T) (hN : D.length + Q.length ≤ N) (hd : ∀ i ∈ fp b ms ml qv fv, i ∉ fr p dv rq av (D ++ Q)) (ha : DAct W W' 0 b ms ml ms' ml' qv fv qv' fv' S') (hf : FsOk S'.fs) (ht : FsOk T.fs) : PP W' b p S' T N (fp b ms' ml' qv' fv' ++ fr p dv rq av (D ++ Q)) ∧ Mv W W' (fp b ms ml qv fv ++ fr p dv rq av (D ++ Q)) (fp b ms' ml' qv' fv' ++ fr p dv rq av (D ++ Q)) := by
  have hrl := hr.lt
  refine ⟨⟨⟨ms', ml', qv', fv', dv, rq, av, D, Q, ha.rk, hr.kept ha.kp (fun i hi hm => hd i hm hi), hN, fun i hi hm => ?_, rfl⟩, hf, ht⟩, ⟨ha.kp.sub (fun i hi => .inl (List.mem_append_left _ hi)), fun i hi => ?_⟩⟩
  · rcases ha.sub i hi with h1 | h1
    · exact hd i h1 hm
    · have := hrl i hm; omega
  · rcases List.mem_append.1 hi with hi | hi
    · exact (ha.sub i hi).imp (List.mem_append_left _) id
    · exact .inl (List.mem_append_right _ hi)
/-- the document's disk has moved -/
theorem actR {ms ml N' : Nat} {qv fv dv rq av dv' rq' av' : Value} {D Q D' Q' : List Pv} {T' : Dk} (hk : RK W 0 b ms ml qv fv S) (hN : D'.length + Q'.length ≤ N') (hd : ∀ i ∈ fp b ms ml qv fv, i ∉ fr p dv rq av (D ++ Q)) (ha : RAct W W' p dv rq av D Q dv' rq' av' D' Q' T') (hf : FsOk S.fs) (ht : FsOk T'.fs) : ∃ H', PP W' b p S T' N' H' ∧ Mv W W' (fp b ms ml qv fv ++ fr p dv rq av (D ++ Q)) H' := by
  have hkl := hk.lt
  refine ⟨_, ⟨⟨ms, ml, qv, fv, dv', rq', av', D', Q', hk.kept ha.kp hd, ha.rk, hN, fun i hi hm => ?_, rfl⟩, hf, ht⟩, ⟨ha.kp.sub (fun i hi => .inl (List.mem_append_right _ hi)), fun i hi => ?_⟩⟩
  · rcases ha.sub i hm with h1 | h1
    · exact hd i hi h1
    · have := hkl i hi; omega
  · rcases List.mem_append.1 hi with hi | hi
    · exact .inl (List.mem_append_left _ hi)
    · exact (ha.sub i hi).imp (List.mem_append_right _) id
theorem act0 {ms ml : Nat} {qv fv dv rq av : Value} {D Q : List Pv} (hr : RR W p dv rq av D Q T) (hN : D.length + Q.length ≤ N) (hd : ∀ i ∈ fp b ms ml qv fv, i ∉ fr p dv rq av (D ++ Q)) (ha : DAct W W' 0 b ms ml ms ml qv fv qv fv S) (hf : FsOk S.fs) (ht : FsOk T.fs) : PP W' b p S T N (fp b ms ml qv fv ++ fr p dv rq av (D ++ Q)) ∧ Kp W W' (fp b ms ml qv fv ++ fr p dv rq av (D ++ Q)) := by
  obtain ⟨h1, h2⟩ := actD (N := N) hr hN hd ha hf ht
  exact ⟨h1, h2.kp⟩
/-- a row of bytes is none of the disk's blocks -/
theorem RK.notbyte {ms ml : Nat} {lk : Int} {qv fv : Value} {g : Nat} {cs : Array Value} (h : RK W lk b ms ml qv fv S) (hg : W.heap[g]? = some (.cells cs 5 (0, 0))) : g ∉ fp b ms ml qv fv := by
  obtain ⟨D, ⟨es, ck, hm, _⟩, _⟩ := h.sm
  obtain ⟨D', ⟨es', ck', hm', _⟩, _⟩ := h.lm
  intro hmem
  simp only [fp, List.mem_cons, List.mem_append, Option.mem_toList] at hmem
  rcases hmem with rfl | rfl | rfl | hi | hi
  · rw [h.blk] at hg; simp at hg; exact absurd hg.2 (by decide)
  · rw [hm] at hg; cases hg
  · rw [hm'] at hg; cases hg
  · obtain ⟨_, cs', h1⟩ := row_lt h.qr g hi; rw [h1] at hg; simp at hg; exact absurd hg.2 (by decide)
  · obtain ⟨_, cs', h1⟩ := row_lt h.fr g hi; rw [h1] at hg; simp at hg; exact absurd hg.2 (by decide)
theorem new_out {ms ml n : Nat} {lk : Int} {qv fv dv rq av v : Value} {D Q : List Pv} {S' : Dk} {xs : List Value} (hk : RK W' lk b ms ml qv fv S') (hr : RR W p dv rq av D Q T) (ho : W'.ownsRow W.heap.size 5 1 v n xs) : ∀ g, v.ownBlock = some g → g ∉ fp b ms ml qv fv ++ fr p dv rq av (D ++ Q) := fun g e hm => by
  obtain ⟨_, cs, hc⟩ := row_lt ho g e
  rcases List.mem_append.1 hm with hm | hm
  · exact hk.notbyte hc hm
  · have := hr.lt g hm
    have := (ho.lt g e).1
    omega
/-- the disk's calls -/
theorem PP.readD (h : PP W b p S T N H) (s : Int) : Calls Try.prog 22 #[.pointer (some ⟨b, 0, none⟩), .int .i64 s] W fun r W' => ∃ v, r = .returned (.tuple #[v, .int .i64 (rdE S s)]) ∧ W'.ownsRow W.heap.size 5 1 v (rdL S s).length ((rdL S s).map bv) ∧ ∃ H', (PP W' b p (rdS S s) T N H' ∧ Mv W W' H H') ∧ ∀ g, v.ownBlock = some g → g ∉ H' := by
  obtain ⟨ms, ml, qv, fv, dv, rq, av, D, Q, hk, hr, hN, hd, rfl⟩ := h.ex
  refine (read_gen hk h.fs s).mono ?_
  rintro r W' ⟨v, fv1, rfl, ho, ha⟩
  exact ⟨v, rfl, ho, _, actD hr hN hd ha (rdS_ok h.fs s) h.ft, new_out ha.rk hr ho⟩
theorem PP.readR (h : PP W b p S T N H) (hN1 : N ≤ 1048576) (s : Int) : Calls Try.prog 39 #[.pointer (some ⟨p, 0, none⟩), .int .i64 s] W fun r W' => ∃ v, r = .returned (.tuple #[v, .int .i64 (rdE T s)]) ∧ W'.ownsRow W.heap.size 5 1 v (rdL T s).length ((rdL T s).map bv) ∧ ∃ H', PP W' b p S (rdS T s) N H' ∧ Mv W W' H H' := by
  obtain ⟨ms, ml, qv, fv, dv, rq, av, D, Q, hk, hr, hN, hd, rfl⟩ := h.ex
  refine (rRead_any hr h.ft (by omega) (by omega) s).mono ?_
  rintro r W' ⟨v, av', rfl, ho, ha⟩
  exact ⟨v, rfl, ho, actR hk hN hd ha h.fs (rdS_ok h.ft s)⟩
theorem PP.qlen (h : PP W b p S T N H) : T.q.length ≤ N := by
  obtain ⟨ms, ml, qv, fv, dv, rq, av, D, Q, hk, hr, hN, hd, rfl⟩ := h.ex
  rw [← hr.q, List.length_map]
  omega
theorem PP.writeD (h : PP W b p S T N H) (hq : S.q.length < 1048576) (s : Int) {l : List Nat} (hlt : ∀ x ∈ l, x < 256) {m : Nat} (hm : l.length = m) (hm1 : m ≤ 140737488351232) {sb so cap : Nat} (hsrc : ∀ j v, (l.map bv)[j]? = some v → W.cell? ⟨sb, so + j, none⟩ = some v) (hsb : sb ∉ H) : Calls Try.prog 8 #[.pointer (some ⟨b, 0, none⟩), .int .i64 s, .slice (some ⟨sb, so, none⟩) m cap] W fun r W' => r = .returned (.int .i64 (wrE S s l)) ∧ ∃ H', PP W' b p (wrS S s l) T N H' ∧ Mv W W' H H' := by
  obtain ⟨ms, ml, qv, fv, dv, rq, av, D, Q, hk, hr, hN, hd, rfl⟩ := h.ex
  refine (write_gen hk h.fs hq s hlt hm hm1 hsrc (fun hx => hsb (List.mem_append_left _ hx))).mono ?_
  rintro r W' ⟨rfl, qv', fv1, ha⟩
  exact ⟨rfl, _, actD hr hN hd ha (wrS_ok h.fs s l) h.ft⟩
theorem PP.writeR (h : PP W b p S T N H) (hN1 : N < 1048576) (s : Int) {l : List Nat} {m : Nat} (hm : l.length = m) {ad : Addr} {cap : Nat} (hb : BRow W (some ad) cap l) (hap : ad.block ∉ H) : Calls Try.prog 40 #[.pointer (some ⟨p, 0, none⟩), .int .i64 s, .slice (some ad) m cap] W fun r W' => r = .returned (.int .i64 (wrE T s l)) ∧ ∃ H', PP W' b p S (wrS T s l) (N + 1) H' ∧ Mv W W' H H' := by
  obtain ⟨ms, ml, qv, fv, dv, rq, av, D, Q, hk, hr, hN, hd, rfl⟩ := h.ex
  refine (rWrite_any hr h.ft (by omega) s hm hb (fun hx => hap (List.mem_append_right _ hx))).mono ?_
  rintro r W' ⟨rfl, qv', av', Q', ha⟩
  refine ⟨rfl, actR hk ?_ hd ha h.fs (wrS_ok h.ft s l)⟩
  have h1 := wrS_q T s l
  rw [← ha.rk.q, ← hr.q, List.length_map, List.length_map] at h1
  omega
theorem PP.barD (h : PP W b p S T N H) (hq : S.q.length ≤ 1048576) : Calls Try.prog 13 #[.pointer (some ⟨b, 0, none⟩)] W fun r W' => r = .returned (.int .i64 (baE S)) ∧ ∃ H', PP W' b p (baS S) T N H' ∧ Mv W W' H H' := by
  obtain ⟨ms, ml, qv, fv, dv, rq, av, D, Q, hk, hr, hN, hd, rfl⟩ := h.ex
  refine (barrier_gen hk h.fs hq).mono ?_
  rintro r W' ⟨rfl, ml', qv', fv1, ha⟩
  exact ⟨rfl, _, actD hr hN hd ha (baS_ok h.fs) h.ft⟩
theorem PP.barR (h : PP W b p S T N H) (hN1 : N ≤ 1048576) : Calls Try.prog 41 #[.pointer (some ⟨p, 0, none⟩)] W fun r W' => r = .returned (.int .i64 (baE T)) ∧ ∃ H', PP W' b p S (baS T) N H' ∧ Mv W W' H H' := by
  obtain ⟨ms, ml, qv, fv, dv, rq, av, D, Q, hk, hr, hN, hd, rfl⟩ := h.ex
  refine (rBarrier_any hr h.ft (by omega)).mono ?_
  rintro r W' ⟨rfl, dv', qv', av', D', Q', ha, he⟩
  exact ⟨rfl, actR hk (by omega) hd ha h.fs (baS_ok h.ft)⟩
theorem PP.faultD (h : PP W b p S T N H) (f : Flt) (ha : I64 f.after) (ht : I64 f.times) : Calls Try.prog 10 #[.pointer (some ⟨b, 0, none⟩), .agg #[.int .i64 f.kind, .int .i64 f.sector, .int .i64 f.after, .int .i64 f.times, .bool f.land]] W fun r W' => r = .returned (.int .i64 (faE S f)) ∧ ∃ H', PP W' b p (faS S f) T N H' ∧ Mv W W' H H' := by
  obtain ⟨ms, ml, qv, fv, dv, rq, av, D, Q, hk, hr, hN, hd, rfl⟩ := h.ex
  refine (fault_gen hk h.fs f).mono ?_
  rintro r W' ⟨rfl, fv1, hx⟩
  exact ⟨rfl, _, actD hr hN hd hx (faS_ok h.fs ha ht) h.ft⟩
theorem PP.faultR (h : PP W b p S T N H) (f : Flt) (ha : I64 f.after) (ht : I64 f.times) : Calls Try.prog 42 #[.pointer (some ⟨p, 0, none⟩), .agg #[.int .i64 f.kind, .int .i64 f.sector, .int .i64 f.after, .int .i64 f.times, .bool f.land]] W fun r W' => r = .returned (.int .i64 (faE T f)) ∧ ∃ H', PP W' b p S (faS T f) N H' ∧ Mv W W' H H' := by
  obtain ⟨ms, ml, qv, fv, dv, rq, av, D, Q, hk, hr, hN, hd, rfl⟩ := h.ex
  refine (rFault_any hr h.ft f).mono ?_
  rintro r W' ⟨rfl, av', hx⟩
  exact ⟨rfl, actR hk hN hd hx h.fs (faS_ok h.ft ha ht)⟩
theorem crashed_ok (l : List Bool) (S : Dk) : FsOk (crashed l S).fs := ⟨by simp [crashed], by simp [crashed]⟩
theorem PP.crashD (h : PP W b p S T N H) (hq : S.q.length ≤ 1048576) {ao : Option Addr} {cap n : Nat} {l : List Bool} (hr : BoRow W ao cap l) (hn : l.length = n) (hap : ∀ ad, ao = some ad → l ≠ [] → ad.block ∉ H) : Calls Try.prog 16 #[.pointer (some ⟨b, 0, none⟩), .slice ao n cap] W fun r W' => r = .returned (.tuple #[]) ∧ ∃ H', PP W' b p (crashed l S) T N H' ∧ Mv W W' H H' := by
  obtain ⟨ms, ml, qv, fv, dv, rq, av, D, Q, hk, hrr, hN, hd, rfl⟩ := h.ex
  refine (crash_any hk hq hr hn (fun ad e hne hx => hap ad e hne (List.mem_append_left _ hx))).mono ?_
  rintro r W' ⟨rfl, ml', ha⟩
  exact ⟨rfl, _, actD hrr hN hd ha (crashed_ok l S) h.ft⟩
theorem PP.crashR (h : PP W b p S T N H) (hN1 : N ≤ 1048576) {ao : Option Addr} {cap n : Nat} {l : List Bool} (hr : BoRow W ao cap l) (hn : l.length = n) (hap : ∀ ad, ao = some ad → l ≠ [] → ad.block ∉ H) : Calls Try.prog 43 #[.pointer (some ⟨p, 0, none⟩), .slice ao n cap] W fun r W' => r = .returned (.tuple #[]) ∧ ∃ H', PP W' b p S (crashed l T) N H' ∧ Mv W W' H H' := by
  obtain ⟨ms, ml, qv, fv, dv, rq, av, D, Q, hk, hrr, hN, hd, rfl⟩ := h.ex
  refine (rCrash_any hrr (by omega) hr hn (fun ad e hne hx => hap ad e hne (List.mem_append_right _ hx))).mono ?_
  rintro r W' ⟨rfl, dv', D', ha, he⟩
  exact ⟨rfl, actR hk (by simp; omega) hd ha h.fs (crashed_ok l T)⟩
theorem PP.faultsD (h : PP W b p S T N H) : Calls Try.prog 18 #[.pointer (some ⟨b, 0, none⟩)] W fun r W' => ∃ v, r = .returned v ∧ W'.ownsRow W.heap.size TFa 5 v S.fs.length (fcells S.fs) ∧ PP W' b p S T N H ∧ Kp W W' H := by
  obtain ⟨ms, ml, qv, fv, dv, rq, av, D, Q, hk, hr, hN, hd, rfl⟩ := h.ex
  refine (faults_any hk h.fs).mono ?_
  rintro r W' ⟨v, rfl, ho, ha⟩
  exact ⟨v, rfl, ho, act0 hr hN hd ha h.fs h.ft⟩
theorem PP.faultsR (h : PP W b p S T N H) : Calls Try.prog 59 #[.pointer (some ⟨p, 0, none⟩)] W fun r W' => ∃ v, r = .returned v ∧ W'.ownsRow W.heap.size TFa 5 v T.fs.length (fcells T.fs) ∧ Below W.heap.size W W' := by
  obtain ⟨ms, ml, qv, fv, dv, rq, av, D, Q, hk, hr, hN, hd, rfl⟩ := h.ex
  exact rFaults_any hr h.ft
theorem PP.queueD (h : PP W b p S T N H) (hq : S.q.length ≤ 1048576) : Calls Try.prog 12 #[.pointer (some ⟨b, 0, none⟩)] W fun r W' => ∃ v ps, r = .returned v ∧ Told W' W.heap.size v ps ∧ ps.map bare = S.q ∧ PP W' b p S T N H ∧ Kp W W' H := by
  obtain ⟨ms, ml, qv, fv, dv, rq, av, D, Q, hk, hr, hN, hd, rfl⟩ := h.ex
  refine (queue_any hk hq).mono ?_
  rintro r W' ⟨v, ps, rfl, ht, he, ha⟩
  exact ⟨v, ps, rfl, ht, he, act0 hr hN hd ha h.fs h.ft⟩
theorem PP.waitsD (h : PP W b p S T N H) {s : Int} (hwf : (Lit.int .i64 s).wf = true) : Calls Try.prog 23 #[.pointer (some ⟨b, 0, none⟩), .int .i64 s] W fun r W' => r = .returned (.bool (waitsI S.q s)) ∧ PP W' b p S T N H ∧ Kp W W' H := by
  obtain ⟨ms, ml, qv, fv, dv, rq, av, D, Q, hk, hr, hN, hd, rfl⟩ := h.ex
  refine (waits_gen hk hwf).mono ?_
  rintro r W' ⟨rfl, ha⟩
  exact ⟨rfl, act0 hr hN hd ha h.fs h.ft⟩
theorem PP.waitsR (h : PP W b p S T N H) (hN1 : N ≤ 1048576) (s : Int) : Calls Try.prog 62 #[.pointer (some ⟨p, 0, none⟩), .int .i64 s] W fun r W' => r = .returned (.bool (waitsI T.q s)) ∧ Below W.heap.size W W' := by
  obtain ⟨ms, ml, qv, fv, dv, rq, av, D, Q, hk, hr, hN, hd, rfl⟩ := h.ex
  exact rWaits_any hr (by omega) s
theorem PP.imageD (h : PP W b p S T N H) : Calls Try.prog 11 #[.pointer (some ⟨b, 0, none⟩)] W fun r W' => ∃ v, r = .returned v ∧ W'.ownsRow W.heap.size 5 1 v (S.n * 512) ((imgL S.n S.safe).map bv) ∧ PP W' b p S T N H ∧ Kp W W' H := by
  obtain ⟨ms, ml, qv, fv, dv, rq, av, D, Q, hk, hr, hN, hd, rfl⟩ := h.ex
  refine (image_any hk).mono ?_
  rintro r W' ⟨v, rfl, ho, ha⟩
  exact ⟨v, rfl, ho, act0 hr hN hd ha h.fs h.ft⟩
theorem PP.imageR (h : PP W b p S T N H) (hN1 : N ≤ 1048576) : Calls Try.prog 63 #[.pointer (some ⟨p, 0, none⟩)] W fun r W' => ∃ v, r = .returned v ∧ W'.ownsRow W.heap.size 5 1 v (T.n * 512) ((imgL T.n T.safe).map bv) ∧ Below W.heap.size W W' := by
  obtain ⟨ms, ml, qv, fv, dv, rq, av, D, Q, hk, hr, hN, hd, rfl⟩ := h.ex
  exact rImage_any hr (by omega)
theorem PP.statsD (h : PP W b p S T N H) : Calls Try.prog 46 #[.pointer (some ⟨b, 0, none⟩)] W fun r W' => r = .returned (.agg #[.int .u64 S.st.reads, .int .u64 S.st.writes, .int .u64 S.st.bars, .int .u64 S.st.failed, .int .u64 S.st.crashes]) ∧ PP W' b p S T N H ∧ Kp W W' H := by
  obtain ⟨ms, ml, qv, fv, dv, rq, av, D, Q, hk, hr, hN, hd, rfl⟩ := h.ex
  refine (stats_any hk).mono ?_
  rintro r W' ⟨rfl, ha⟩
  exact ⟨rfl, act0 hr hN hd ha h.fs h.ft⟩
theorem PP.sectorsD (h : PP W b p S T N H) : Calls Try.prog 24 #[.pointer (some ⟨b, 0, none⟩)] W fun r W' => r = .returned (.int .i64 S.n) ∧ PP W' b p S T N H ∧ Kp W W' H := by
  obtain ⟨ms, ml, qv, fv, dv, rq, av, D, Q, hk, hr, hN, hd, rfl⟩ := h.ex
  refine (sectors_any hk).mono ?_
  rintro r W' ⟨rfl, ha⟩
  exact ⟨rfl, act0 hr hN hd ha h.fs h.ft⟩
theorem PP.cells (h : PP W b p S T N H) : (∀ j, W.cell? ⟨p, j, none⟩ = (#[.int .i64 T.n, .slice none 0 0] : Array Value)[j]? ∨ 2 ≤ j) ∧ W.cell? ⟨p, 5, none⟩ = some (.int .u64 T.st.reads) ∧ W.cell? ⟨p, 6, none⟩ = some (.int .u64 T.st.writes) ∧ W.cell? ⟨p, 7, none⟩ = some (.int .u64 T.st.bars) ∧ W.cell? ⟨p, 8, none⟩ = some (.int .u64 T.st.failed) ∧ W.cell? ⟨p, 9, none⟩ = some (.int .u64 T.st.crashes) := by
  obtain ⟨ms, ml, qv, fv, dv, rq, av, D, Q, hk, hr, hN, hd, rfl⟩ := h.ex
  refine ⟨fun j => ?_, hr.c 5, hr.c 6, hr.c 7, hr.c 8, hr.c 9⟩
  match j with
  | 0 => exact .inl (hr.c 0)
  | 1 => exact .inl (hr.c 1)
  | j + 2 => exact .inr (by omega)
end
end Go.Proofs.Ythmonfmpgjbhmab.K

namespace Go.Proofs.Ythmonfmpgjbhmab.K
open Go.RowKit Go.Maps Go.Proofs.Ythmonfmpgjbhmab
attribute [local go_sem] Oper.semAt_some
set_option linter.unusedVariables false
set_option linter.unusedSimpArgs false
set_option maxRecDepth 100000

theorem fcells_at : ∀ {l : List Flt} {i : Nat} {f : Flt}, l[i]? = some f → ∀ j, j < 5 → (fcells l)[i * 5 + j]? = (fcell f)[j]?
  | [], i, f, h, _, _ => by simp at h
  | x :: r, 0, f, h, j, hj => by
    simp at h; subst h
    have e : fcells (x :: r) = fcell x ++ fcells r := by simp [fcells]
    rw [e, Nat.zero_mul, Nat.zero_add, List.getElem?_append_left (by simpa [fcell] using hj)]
  | x :: r, i + 1, f, h, j, hj => by
    have ih := fcells_at (l := r) (i := i) (f := f) (by simpa using h) j hj
    have e : fcells (x :: r) = fcell x ++ fcells r := by simp [fcells]
    have e5 : (fcell x).length = 5 := rfl
    rw [e, List.getElem?_append_right (by omega), e5, show (i + 1) * 5 + j - 5 = i * 5 + j by omega]
    exact ih
set_option maxHeartbeats 4000000 in
theorem sameFaults_yes {W : World} {B B' : Nat} {v v' : Value} {l : List Flt} (h : W.ownsRow B TFa 5 v l.length (fcells l)) (h' : W.ownsRow B' TFa 5 v' l.length (fcells l)) (hl : l.length ≤ 64) :
    Calls Try.prog 58 #[v, v'] W fun r W' => r = .returned (.bool true) ∧ Below W.heap.size W W' := by
  obtain ⟨ao, c, rfl⟩ := own_slice h
  obtain ⟨ao', c', rfl⟩ := own_slice h'
  obtain ⟨n, hn⟩ : ∃ n, n = l.length := ⟨_, rfl⟩
  have HN : Hid (l.length = n) := hn.symm
  rw [← hn] at h h' hl ⊢
  have HR : Hid (W.ownsRow B TFa 5 (.slice ao n c) n (fcells l) ∧ W.ownsRow B' TFa 5 (.slice ao' n c') n (fcells l)) := ⟨h, h'⟩
  clear h h' hn
  go_enter Try.func58, Try.ntmps58
  go_wp2
  go_loopw [5] (fun cc wr => ∃ i : Nat, i ≤ n ∧ cc = .int .i64 i ∧ Hid (Below W.heap.size W wr)) (fun cc _ => n - (intOf cc).toNat)
  case atStart => exact ⟨0, Nat.zero_le _, rfl, Below.refl _ _⟩
  case round =>
    obtain ⟨i, hi, rfl, HB⟩ := hrel
    by_cases hlt : i < n
    · obtain ⟨f, hf⟩ : ∃ f, l[i]? = some f := ⟨_, List.getElem?_eq_getElem (by have := HN.out; omega)⟩
      obtain ⟨g, hg⟩ : ∃ g, ao = some ⟨g, 0, none⟩ := by
        rcases HR.out.1.2 with ⟨e, h0⟩ | ⟨g, cap', cur, e, _⟩
        · omega
        · simp at e; exact ⟨g, e.1⟩
      obtain ⟨g', hg'⟩ : ∃ g, ao' = some ⟨g, 0, none⟩ := by
        rcases HR.out.2.2 with ⟨e, h0⟩ | ⟨g, cap', cur, e, _⟩
        · omega
        · simp at e; exact ⟨g, e.1⟩
      subst hg
      subst hg'
      have hc : ∀ j, j < 5 → wr.cell? ⟨g, i * 5 + j, none⟩ = (fcell f)[j]? := fun j hj => by
        have h1 := ownsRow_block HR.out.1 (w' := wr) (fun x e => HB.out.block x (row_lt HR.out.1 x e).1)
        rw [h1.cellAt (i * 5 + j) (by omega), fcells_at hf j hj]
      have hc' : ∀ j, j < 5 → wr.cell? ⟨g', i * 5 + j, none⟩ = (fcell f)[j]? := fun j hj => by
        have h1 := ownsRow_block HR.out.2 (w' := wr) (fun x e => HB.out.block x (row_lt HR.out.2 x e).1)
        rw [h1.cellAt (i * 5 + j) (by omega), fcells_at hf j hj]
      have q0 : wr.cell? ⟨g, i * 5, none⟩ = some (.int .i64 f.kind) := hc 0 (by decide)
      have q1 : wr.cell? ⟨g, i * 5 + 1, none⟩ = some (.int .i64 f.sector) := hc 1 (by decide)
      have q2 : wr.cell? ⟨g, i * 5 + 2, none⟩ = some (.int .i64 f.after) := hc 2 (by decide)
      have q3 : wr.cell? ⟨g, i * 5 + 3, none⟩ = some (.int .i64 f.times) := hc 3 (by decide)
      have q4 : wr.cell? ⟨g, i * 5 + 4, none⟩ = some (.bool f.land) := hc 4 (by decide)
      have r0 : wr.cell? ⟨g', i * 5, none⟩ = some (.int .i64 f.kind) := hc' 0 (by decide)
      have r1 : wr.cell? ⟨g', i * 5 + 1, none⟩ = some (.int .i64 f.sector) := hc' 1 (by decide)
      have r2 : wr.cell? ⟨g', i * 5 + 2, none⟩ = some (.int .i64 f.after) := hc' 2 (by decide)
      have r3 : wr.cell? ⟨g', i * 5 + 3, none⟩ = some (.int .i64 f.times) := hc' 3 (by decide)
      have r4 : wr.cell? ⟨g', i * 5 + 4, none⟩ = some (.bool f.land) := hc' 4 (by decide)
      clear hc hc' hf
      go_wp2
      go_quiet (fail)
      have HB2 : Hid (Below W.heap.size W (wr.drewN nq)) := HB.out.trans ((below_drewN wr nq).mono HB.out.size)
      go_wp2
      go_roundw
      case rel => exact ⟨i + 1, by omega, by go_num, HB2⟩
      case measure => simp [intOf]; omega
    · have e : i = n := by omega
      subst e
      go_wp2
      go_ret
      exact ⟨rfl, HB.out⟩
set_option maxHeartbeats 4000000 in
theorem SamePuts_yes {W : World} {B B' : Nat} {v v' : Value} {A Q : List Pv} (h : W.ownsRow B TPt 2 v A.length (qcells A)) (h' : W.ownsRow B' TPt 2 v' Q.length (qcells Q)) (hd : ∀ x ∈ A, W.ownsRow 0 5 1 x.2.1 512 (x.2.2.map bv)) (hd' : ∀ x ∈ Q, W.ownsRow 0 5 1 x.2.1 512 (x.2.2.map bv)) (he : A.map bare = Q.map bare) (hok : ∀ x ∈ A, OkB x.2.2) (hl : A.length ≤ 1048576) :
    Calls Try.prog 60 #[v, v'] W fun r W' => r = .returned (.bool true) ∧ Below W.heap.size W W' := by
  have hlen : Q.length = A.length := by have := congrArg List.length he; simpa using this.symm
  rw [hlen] at h'
  obtain ⟨ao, c, rfl⟩ := own_slice h
  obtain ⟨ao', c', rfl⟩ := own_slice h'
  obtain ⟨n, hn⟩ : ∃ n, n = A.length := ⟨_, rfl⟩
  have HN : Hid (A.length = n ∧ Q.length = n) := ⟨hn.symm, by rw [hlen, hn]⟩
  rw [← hn] at h h' hl ⊢
  have HR : Hid (W.ownsRow B TPt 2 (.slice ao n c) n (qcells A) ∧ W.ownsRow B' TPt 2 (.slice ao' n c') n (qcells Q)) := ⟨h, h'⟩
  have HD : Hid (∀ x ∈ A, W.ownsRow 0 5 1 x.2.1 512 (x.2.2.map bv)) := hd
  have HD' : Hid (∀ x ∈ Q, W.ownsRow 0 5 1 x.2.1 512 (x.2.2.map bv)) := hd'
  have HE : Hid (A.map bare = Q.map bare) := he
  have HO : Hid (∀ x ∈ A, OkB x.2.2) := hok
  clear h h' hn hd hd' he hok hlen
  go_enter Try.func60, Try.ntmps60
  go_wp2
  go_loopw [5] (fun cc wr => ∃ i : Nat, i ≤ n ∧ cc = .int .i64 i ∧ Hid (Below W.heap.size W wr)) (fun cc _ => n - (intOf cc).toNat)
  case atStart => exact ⟨0, Nat.zero_le _, rfl, Below.refl _ _⟩
  case round =>
    obtain ⟨i, hi, rfl, HB⟩ := hrel
    by_cases hlt : i < n
    · obtain ⟨x, hx⟩ : ∃ x, A[i]? = some x := ⟨_, List.getElem?_eq_getElem (by have := HN.out.1; omega)⟩
      obtain ⟨y, hy⟩ : ∃ y, Q[i]? = some y := ⟨_, List.getElem?_eq_getElem (by have := HN.out.2; omega)⟩
      obtain ⟨s, u, l⟩ := x
      obtain ⟨s', u', l'⟩ := y
      have hbe : bare (s, u, l) = bare (s', u', l') := by
        have h1 : (A.map bare)[i]? = (Q.map bare)[i]? := by rw [HE.out]
        rw [List.getElem?_map, List.getElem?_map, hx, hy] at h1
        simpa using h1
      simp only [bare, Prod.mk.injEq] at hbe
      obtain ⟨rfl, rfl⟩ := hbe
      obtain ⟨g, hg⟩ : ∃ g, ao = some ⟨g, 0, none⟩ := by
        rcases HR.out.1.2 with ⟨e, h0⟩ | ⟨g, cap', cur, e, _⟩
        · omega
        · simp at e; exact ⟨g, e.1⟩
      obtain ⟨g', hg'⟩ : ∃ g, ao' = some ⟨g, 0, none⟩ := by
        rcases HR.out.2.2 with ⟨e, h0⟩ | ⟨g, cap', cur, e, _⟩
        · omega
        · simp at e; exact ⟨g, e.1⟩
      subst hg
      subst hg'
      have k1 := ownsRow_block HR.out.1 (w' := wr) (fun x e => HB.out.block x (row_lt HR.out.1 x e).1)
      have k2 := ownsRow_block HR.out.2 (w' := wr) (fun x e => HB.out.block x (row_lt HR.out.2 x e).1)
      obtain ⟨q0, q1⟩ := qrow_at k1 hx HN.out.1
      obtain ⟨r0, r1⟩ := qrow_at k2 hy HN.out.2
      simp only at q0 q1 r0 r1
      have hok := HO.out _ (List.mem_of_getElem? hx)
      have d1 := HD.out _ (List.mem_of_getElem? hx)
      have d2 := HD'.out _ (List.mem_of_getElem? hy)
      simp only at hok d1 d2
      obtain ⟨a1, c1, rfl, b1⟩ := own_brow (ownsRow_block d1 (w' := wr) (fun x e => HB.out.block x (row_lt d1 x e).1)) hok.len hok.lt (by decide)
      obtain ⟨a2, c2, rfl, b2⟩ := own_brow (ownsRow_block d2 (w' := wr) (fun x e => HB.out.block x (row_lt d2 x e).1)) hok.len hok.lt (by decide)
      have hs := same_any a1 a2 c1 c2 l l wr.drew (b1.later (below_drew wr)) (b2.later (below_drew wr))
      rw [hok.len, decide_eq_true rfl] at hs
      have HSm2 : Hid (Calls Try.prog 14 #[.slice a1 512 c1, .slice a2 512 c2] wr.drew fun e w' => e = .returned (.bool true) ∧ ∃ q, w' = wr.drew.drewN q) := hs
      clear k1 k2 hx hy hok d1 d2 b1 b2 hs
      have HSd : Hid (Calls Try.prog 14 #[.slice a1 512 c1, .slice a2 512 c2] wr.drew fun e w' => e = .returned (.bool true) ∧ ∃ q, w' = wr.drew.drewN q) := HSm2.out
      go_wp2
      go_region_held3 (fun w' => w'.cell? ⟨g, i * 2 + 1, none⟩ = some (.slice a1 512 c1) ∧ w'.cell? ⟨g', i * 2 + 1, none⟩ = some (.slice a2 512 c2)) (first | go_keep | exact ⟨q1, r1⟩) (first | (go_at_call 14; refine HSd.out.mono ?_; rintro e w2 ⟨rfl, q, rfl⟩))
      go_wp2
      go_quiet (fail)
      go_wp2
      go_roundw
      case rel => exact ⟨i + 1, by omega, by go_num, HB.out.trans ((below_drewN wr _).mono HB.out.size)⟩
      case measure => simp [intOf]; omega
    · have e : i = n := by omega
      subst e
      go_wp2
      go_ret
      exact ⟨rfl, HB.out⟩
set_option maxHeartbeats 4000000 in
theorem kept_yes {W : World} {ao ao' : Option Addr} {c c' n : Nat} {l : List Bool} (h : BoRow W ao c l) (h' : BoRow W ao' c' l) (hn : l.length = n) :
    Calls Try.prog 44 #[.slice ao n c, .slice ao' n c'] W fun r W' => r = .returned (.bool true) ∧ Below W.heap.size W W' := by
  have hl : n ≤ 1048576 := by have := h.len; omega
  have HN : Hid (l.length = n) := hn
  have HR : Hid (BoRow W ao c l ∧ BoRow W ao' c' l) := ⟨h, h'⟩
  clear h h' hn
  go_enter Try.func44, Try.ntmps44
  go_wp2
  go_loopw [5] (fun cc wr => ∃ i : Nat, i ≤ n ∧ cc = .int .i64 i ∧ Hid (Below W.heap.size W wr)) (fun cc _ => n - (intOf cc).toNat)
  case atStart => exact ⟨0, Nat.zero_le _, rfl, Below.refl _ _⟩
  case round =>
    obtain ⟨i, hi, rfl, HB⟩ := hrel
    by_cases hlt : i < n
    · obtain ⟨x, hx⟩ : ∃ x, l[i]? = some x := ⟨_, List.getElem?_eq_getElem (by have := HN.out; omega)⟩
      obtain ⟨g, off, e1, hc⟩ := HR.out.1.at_ (by rintro rfl; have := HN.out; simp at this; omega)
      obtain ⟨g', off', e2, hc'⟩ := HR.out.2.at_ (by rintro rfl; have := HN.out; simp at this; omega)
      subst e1
      subst e2
      have q0 : wr.cell? ⟨g, off + i, none⟩ = some (.bool x) := cell_later HB.out (hc i x hx)
      have q1 : wr.cell? ⟨g', off' + i, none⟩ = some (.bool x) := cell_later HB.out (hc' i x hx)
      clear hc hc' hx
      go_wp2
      go_quiet (fail)
      have HB2 : Hid (Below W.heap.size W (wr.drewN nq)) := HB.out.trans ((below_drewN wr nq).mono HB.out.size)
      go_wp2
      go_roundw
      case rel => exact ⟨i + 1, by omega, by go_num, HB2⟩
      case measure => simp [intOf]; omega
    · have e : i = n := by omega
      subst e
      go_wp2
      go_ret
      exact ⟨rfl, HB.out⟩
end Go.Proofs.Ythmonfmpgjbhmab.K

namespace Go.Proofs.Ythmonfmpgjbhmab.K
open Go.RowKit Go.Maps Go.Proofs.Ythmonfmpgjbhmab
attribute [local go_sem] Oper.semAt_some
set_option linter.unusedVariables false
set_option linter.unusedSimpArgs false
set_option maxRecDepth 100000

abbrev TBss : TypeId := 110
def mark (i k : Nat) : Nat := (11 * i + 3 * k + 5) % 256
def marks (i n : Nat) : List Nat := (List.range n).map (mark i)
def moreB (i k : Nat) : Nat := (100 + i + k) % 256
def mores (i n : Nat) : List Nat := (List.range n).map (moreB i)
theorem u8_mark (i k : Nat) : IntKind.u8.wrap (11 * (i : Int) + 3 * (k : Int) + 5) = (mark i k : Int) := by
  rw [IntKind.wrap_u8]
  unfold mark
  omega
theorem u8_more (i k : Nat) : IntKind.u8.wrap (100 + (i : Int) + (k : Int)) = (moreB i k : Int) := by
  rw [IntKind.wrap_u8]
  unfold moreB
  omega
/-- lists of bytes that were handed out: each its own block -/
abbrev Vn := Value × Nat
structure Ls (W : World) (F : List Nat) (lv : Value) (vs : List Vn) : Prop where
  row : W.ownsRow 0 TBs 1 lv vs.length (vs.map (·.1))
  pos : ∀ (j : Nat) v n, vs[j]? = some (v, n) → 0 < n ∧ n ≤ 33554432 ∧ ∃ g cap, v = .slice (some ⟨g, 0, none⟩) n cap ∧ g ∈ F
  two : ∀ (j j' : Nat) v n v' n', vs[j]? = some (v, n) → vs[j']? = some (v', n') → j ≠ j' → v.ownBlock ≠ v'.ownBlock
/-- their bytes, as far as they are marked -/
def Mk (W : World) (vs : List Vn) (i k : Nat) : Prop := ∀ (j : Nat) v n, vs[j]? = some (v, n) → ∃ l : List Nat, l.length = n ∧ W.ownsRow 0 5 1 v n (l.map bv) ∧ ∀ t, t < n → (j < i ∨ j = i ∧ t < k) → l[t]? = some (mark j t)
theorem Mk.set {W : World} {F : List Nat} {lv : Value} {vs : List Vn} {i k n : Nat} {v : Value} (hl : Ls W F lv vs) (h : Mk W vs i k) (hi : vs[i]? = some (v, n)) (hk : k < n) {g cap : Nat} (hv : v = .slice (some ⟨g, 0, none⟩) n cap) : Mk (W.setCell ⟨g, k, none⟩ (bv (mark i k))) vs i (k + 1) := by
  intro j u m hj
  obtain ⟨l, hl1, hl2, hl3⟩ := h j u m hj
  by_cases e : j = i
  · subst e
    rw [hi] at hj
    cases hj
    refine ⟨l.set k (mark j k), by simp [hl1], ?_, fun t ht hc => ?_⟩
    · rw [hv] at hl2 ⊢
      have h1 := row_set (bv (mark j k)) hl2 (j := k) (by rw [List.length_map, hl1]; exact hk)
      rw [← List.map_set] at h1
      exact h1
    · rw [List.getElem?_set]
      by_cases e2 : k = t
      · subst e2; rw [if_pos rfl, if_pos (by omega)]
      · rw [if_neg e2]
        exact hl3 t ht (by omega)
  · refine ⟨l, hl1, ownsRow_block hl2 (fun x hx => Below.heap_setCell _ _ _ _ ?_), fun t ht hc => hl3 t ht (by omega)⟩
    intro e2
    have e2 : x = g := e2
    subst e2
    exact hl.two j i u m v n hj hi e (by rw [hx, hv]; rfl)
theorem Mk.next {W : World} {vs : List Vn} {i n : Nat} {v : Value} (h : Mk W vs i n) (hi : vs[i]? = some (v, n)) : Mk W vs (i + 1) 0 := by
  intro j u m hj
  obtain ⟨l, hl1, hl2, hl3⟩ := h j u m hj
  refine ⟨l, hl1, hl2, fun t ht hc => hl3 t ht ?_⟩
  by_cases e : j = i
  · subst e
    rw [hi] at hj
    cases hj
    exact .inr ⟨rfl, ht⟩
  · left; omega
theorem Mk.kept {W W' : World} {F : List Nat} {lv : Value} {vs : List Vn} {i k : Nat} (h : Mk W vs i k) (hs : ∀ (j : Nat) v n, vs[j]? = some (v, n) → ∀ g, v.ownBlock = some g → W'.heap[g]? = W.heap[g]?) : Mk W' vs i k := by
  intro j u m hj
  obtain ⟨l, hl1, hl2, hl3⟩ := h j u m hj
  exact ⟨l, hl1, ownsRow_block hl2 (hs j u m hj), hl3⟩
theorem Ls.same {W W' : World} {F : List Nat} {lv : Value} {vs : List Vn} (h : Ls W F lv vs) (hs : ∀ g, lv.ownBlock = some g → W'.heap[g]? = W.heap[g]?) : Ls W' F lv vs := ⟨ownsRow_block h.row hs, h.pos, h.two⟩
theorem Ls.at_ {W : World} {F : List Nat} {ao : Option Addr} {m c : Nat} {vs : List Vn} (h : Ls W F (.slice ao m c) vs) {j : Nat} {v : Value} {n : Nat} (hj : vs[j]? = some (v, n)) : ∃ g, ao = some ⟨g, 0, none⟩ ∧ W.cell? ⟨g, j, none⟩ = some v := by
  have hlt := (List.getElem?_eq_some_iff.1 hj).1
  rcases h.row.2 with ⟨e, h0⟩ | ⟨g, cap, cur, e, _⟩
  · omega
  · have e2 := e
    simp at e
    refine ⟨g, e.1, ?_⟩
    have hr := h.row
    rw [e2] at hr
    have hm : m = vs.length := e.2.1
    rw [hr.cellAt j (by omega), List.getElem?_map, hj]
    rfl
/-- append to a row of one's own: in its place, or in a new block, the old one as it was -/
theorem wpList_append_keep {P : Program} (w : World) {ops : Array Oper} {rest : List Oper} {o : Oper} {a : Act} {Q : Exit → Act → World → Prop} (hgd : o.guard = none) (s x : Operand) (t : TypeId)
    (ho : o.op = .call { callee := .builtin .append, args := #[s, x], argTypes := #[t, t] })
    (e : TypeId) (i : TypeInfo) (z : Value) (bytes : Nat) (ht : P.underlying t = some (.slice e)) (hi : P.info? e = some i) (hz : i.zero = some z)
    (hsize : i.size = 1) (hby : i.bytes = bytes) (hzs : z.cells.size = 1)
    (g n cap : Nat) (xs : List Value) (hs : a.eval s = .slice (some ⟨g, 0, none⟩) n cap) (hown : w.ownsRow 0 e 1 (.slice (some ⟨g, 0, none⟩) n cap) n xs)
    (ad : Addr) (m c : Nat) (news : List Value) (hx : a.eval x = .slice (some ad) m c) (hl : news.length = m)
    (hnews : ∀ j u, news[j]? = some u → w.cell? (ad.add j) = some u) (h1 : ∀ u ∈ news, u.oneCell' = true) (hm : 0 < m)
    (h63 : n + m ≤ maxLen) (hbytes : (n + m) * bytes ≤ 140737488355328)
    (h : ∀ v' w', w'.ownsRow 0 e 1 v' (n + m) (xs ++ news) → ((v' = .slice (some ⟨g, 0, none⟩) (n + m) cap ∧ w.grownBy w' (some g)) ∨ (∃ y c', v' = .slice (some ⟨y, 0, none⟩) (n + m) c' ∧ w.heap.size ≤ y ∧ w.grownBy w' none)) → wpList P ops Q rest (a.put o.dst v') w') : wpList P ops Q (o :: rest) a w := by
  have hl' : news.length = m * 1 := by omega
  by_cases hroom : n + m ≤ cap
  · refine wpList_append_fits w hgd s x t ho 0 e i 1 ht hi hsize g n cap xs hs hown ad m c news hx hl' hnews h1 hroom ?_
    intro w' ho' hg'
    exact h _ w' ho' (.inl ⟨rfl, hg'⟩)
  · refine wpList_append_grows w hgd s x t ho e i z 1 bytes ht hi hz hsize hby hzs (by decide) (some ⟨g, 0, none⟩) n cap xs hs (fun h => by simp at h) (by simpa using hown.1) ?_ ad m c news hx hl' hnews h1 (by omega) h63 hbytes ?_
    · intro b hb j u hu
      cases hb
      have hj : j < n * 1 := by
        have := (List.getElem?_eq_some_iff.1 hu).1
        rw [hown.1] at this; exact this
      rw [WideShapes.add_plain, Nat.zero_add, hown.cellAt j hj]; exact hu
    · intro v' w' ho' hg'
      refine h v' w' (owns_mono ho' (Nat.zero_le _)) (.inr ?_)
      rcases ho'.2 with ⟨hv', hn'⟩ | ⟨g', cap', cur', hv', hy, _⟩
      · omega
      · exact ⟨g', cap', hv', hy, hg'⟩
theorem own_prefix {w : World} {T g n m cap : Nat} {xs ys : List Value} (h : w.ownsRow 0 T 1 (.slice (some ⟨g, 0, none⟩) m cap) m (xs ++ ys)) (hn : xs.length = n) : w.ownsRow 0 T 1 (.slice (some ⟨g, 0, none⟩) n cap) n xs := by
  have hm := h.1
  rw [List.length_append, hn] at hm
  rcases h.2 with ⟨e, _⟩ | ⟨g', cap', cur, e, h1, h2, h3, h4, h5, h6⟩
  · cases e
  · simp at e
    obtain ⟨rfl, _, rfl⟩ := e
    refine ⟨by omega, .inr ⟨g, cap, cur, rfl, h1, h2, by omega, h4, h5, ?_⟩⟩
    have h7 := congrArg (List.take (n * 1)) h6
    rw [List.take_take, Nat.min_eq_left (by omega), List.take_append_of_le_length (by omega), List.take_of_length_le (l := xs) (by omega)] at h7
    exact h7
/-- the lists are marked, and some of them are grown -/
structure Gr (W wr : World) (F : List Nat) (vs : List Vn) (gs : List Value) : Prop where
  kp : Kp W wr F
  mkd : ∀ (j : Nat) v n, vs[j]? = some (v, n) → wr.ownsRow 0 5 1 v n ((marks j n).map bv)
  gr : ∀ (j : Nat) v n g, vs[j]? = some (v, n) → gs[j]? = some g → (∃ y cg, g = .slice (some ⟨y, 0, none⟩) (n + 70) cg) ∧ wr.ownsRow 0 5 1 g (n + 70) ((marks j n ++ mores j 70).map bv) ∧ (g.ownBlock = v.ownBlock ∨ ∃ x, g.ownBlock = some x ∧ W.heap.size ≤ x)
  tw : ∀ (j j' : Nat) g g', gs[j]? = some g → gs[j']? = some g' → j ≠ j' → g.ownBlock ≠ g'.ownBlock
/-- one of them grows -/
structure Cu (W wr : World) (gs : List Value) (i n k : Nat) (v cur : Value) : Prop where
  row : wr.ownsRow 0 5 1 cur (n + k) ((marks i n ++ mores i k).map bv)
  pl : (∃ g cap, v = .slice (some ⟨g, 0, none⟩) n cap ∧ cur = .slice (some ⟨g, 0, none⟩) (n + k) cap) ∨ ∃ y c, cur = .slice (some ⟨y, 0, none⟩) (n + k) c ∧ W.heap.size ≤ y
  ne : ∀ (j : Nat) g, gs[j]? = some g → cur.ownBlock ≠ g.ownBlock
theorem marks_len (i n : Nat) : (marks i n).length = n := by simp [marks]
theorem mores_len (i n : Nat) : (mores i n).length = n := by simp [mores]
theorem mores_succ (i n : Nat) : mores i (n + 1) = mores i n ++ [moreB i n] := by simp [mores, List.range_succ]
theorem Mk.done {W : World} {vs : List Vn} {i k : Nat} (h : Mk W vs i k) (hi : vs.length ≤ i) : ∀ (j : Nat) v n, vs[j]? = some (v, n) → W.ownsRow 0 5 1 v n ((marks j n).map bv) := by
  intro j v n hj
  obtain ⟨l, hl1, hl2, hl3⟩ := h j v n hj
  have e : l = marks j n := by
    apply List.ext_getElem?
    intro t
    by_cases ht : t < n
    · have hlt := (List.getElem?_eq_some_iff.1 hj).1
      rw [hl3 t ht (by omega)]
      unfold marks
      rw [List.getElem?_map, List.getElem?_range ht]
      rfl
    · rw [List.getElem?_eq_none (by omega), List.getElem?_eq_none (by rw [marks_len]; omega)]
  rw [← e]
  exact hl2
/-- a row of bytes that grows leaves the others -/
theorem Gr.grow {W wr w' : World} {F : List Nat} {lv : Value} {vs : List Vn} {gs : List Value} {i n k : Nat} {v cur cur' : Value} {o : Obj} (hl : Ls W F lv vs) (hF : ∀ g ∈ F, g < W.heap.size) (h : Gr W wr F vs gs) (hi : vs[i]? = some (v, n)) (hgi : gs.length ≤ i) (hc : Cu W wr gs i n k v cur) {g cap : Nat} (hcur : cur = .slice (some ⟨g, 0, none⟩) (n + k) cap)
    (hrow : w'.ownsRow 0 5 1 cur' (n + k + 1) ((marks i n ++ mores i k).map bv ++ [bv (moreB i k)]))
    (hg : (cur' = .slice (some ⟨g, 0, none⟩) (n + k + 1) cap ∧ (wr.alloc o).grownBy w' (some g)) ∨ (∃ y c', cur' = .slice (some ⟨y, 0, none⟩) (n + k + 1) c' ∧ (wr.alloc o).heap.size ≤ y ∧ (wr.alloc o).grownBy w' none)) :
    Gr W w' F vs gs ∧ Cu W w' gs i n (k + 1) v cur' := by
  have hsz := h.kp.size
  have hrow' : w'.ownsRow 0 5 1 cur' (n + (k + 1)) ((marks i n ++ mores i (k + 1)).map bv) := by
    rw [mores_succ, ← List.append_assoc, List.map_append (l₁ := marks i n ++ mores i k)]
    exact hrow
  have hvb : ∀ (j : Nat) u m, vs[j]? = some (u, m) → ∃ x, u.ownBlock = some x ∧ x ∈ F := fun j u m hj => by
    obtain ⟨_, _, x, c, rfl, hx⟩ := hl.pos j u m hj
    exact ⟨x, rfl, hx⟩
  -- the block that is written, if any
  have hkeep : ∀ x, x < wr.heap.size → x ≠ g → w'.heap[x]? = wr.heap[x]? := fun x hx hne => by
    rcases hg with ⟨_, hg⟩ | ⟨y, c', _, _, hg⟩
    · exact (hg.block x (by rw [World.size_alloc]; omega) (by simp; exact hne)).trans (Below.heap_alloc _ _ _ hx)
    · exact (hg.block x (by rw [World.size_alloc]; omega) (by simp)).trans (Below.heap_alloc _ _ _ hx)
  have hgc : cur.ownBlock = some g := by rw [hcur]; rfl
  have hgl : g < wr.heap.size := (row_lt hc.row g hgc).1
  -- g is i's block or a new one
  have hgv : ∀ (j : Nat) u m, vs[j]? = some (u, m) → j ≠ i → u.ownBlock ≠ some g := fun j u m hj hji e => by
    rcases hc.pl with ⟨g', cap', hv, hcu⟩ | ⟨y, c, hcu, hy⟩
    · rw [hcur] at hcu
      simp at hcu
      exact hl.two j i u m v n hj hi hji (by rw [e, hv, hcu.1]; rfl)
    · rw [hcur] at hcu
      simp at hcu
      obtain ⟨x, hx, hxF⟩ := hvb j u m hj
      rw [e] at hx
      cases hx
      have := hF _ hxF
      omega
  have hmk : ∀ (j : Nat) u m, vs[j]? = some (u, m) → w'.ownsRow 0 5 1 u m ((marks j m).map bv) := fun j u m hj => by
    by_cases hji : j = i
    · subst hji
      rw [hi] at hj
      cases hj
      rcases hc.pl with ⟨g', cap', hv, hcu⟩ | ⟨y, c, hcu, hy⟩
      · rw [hcur] at hcu
        simp at hcu
        obtain ⟨rfl, rfl⟩ := hcu
        rcases hg with ⟨rfl, hg⟩ | ⟨y, c', rfl, hy, hg⟩
        · rw [hv]
          have h1 := hrow
          rw [List.map_append, List.append_assoc] at h1
          exact own_prefix h1 (by rw [List.length_map, marks_len])
        · refine ownsRow_block (h.mkd j v n hi) (fun x hx => ?_)
          have hxl := (row_lt (h.mkd j v n hi) x hx).1
          exact (hg.block x (by rw [World.size_alloc]; omega) (by simp)).trans (Below.heap_alloc _ _ _ hxl)
      · refine ownsRow_block (h.mkd j v n hi) (fun x hx => hkeep x (row_lt (h.mkd j v n hi) x hx).1 (fun e => ?_))
        rw [hcur] at hcu
        simp at hcu
        obtain ⟨x', hx', hxF⟩ := hvb j v n hi
        rw [hx] at hx'
        cases hx'
        have := hF _ hxF
        omega
    · exact ownsRow_block (h.mkd j u m hj) (fun x hx => hkeep x (row_lt (h.mkd j u m hj) x hx).1 (fun e => hgv j u m hj hji (by rw [hx, e])))
  have hkp : Kp W w' F := by
    rcases hg with ⟨_, hg⟩ | ⟨y, c', _, _, hg⟩
    · refine Kp.grown (h.kp.trans (Kp.of_below ((Below.refl _ wr).alloc (Nat.le_refl _) o) []) (by simp)) hg (fun x e => ?_)
      cases e
      rcases hc.pl with ⟨g', cap', hv, hcu⟩ | ⟨y, c, hcu, hy⟩
      · rw [hcur] at hcu
        simp at hcu
        obtain ⟨x', hx', hxF⟩ := hvb i v n hi
        rw [hv] at hx'
        simp [Value.ownBlock] at hx'
        left; rw [hcu.1, hx']; exact hxF
      · rw [hcur] at hcu
        simp at hcu
        right; omega
    · exact Kp.grown (h.kp.trans (Kp.of_below ((Below.refl _ wr).alloc (Nat.le_refl _) o) []) (by simp)) hg (fun x e => by cases e)
  refine ⟨⟨hkp, hmk, fun j u m y hj hy => ?_, h.tw⟩, ⟨hrow', ?_, fun j y hy => ?_⟩⟩
  · obtain ⟨p1, p2, p3⟩ := h.gr j u m y hj hy
    refine ⟨p1, ownsRow_block p2 (fun x hx => hkeep x (row_lt p2 x hx).1 (fun e => hc.ne j y hy (by rw [hgc, hx, e]))), p3⟩
  · rcases hg with ⟨rfl, hg⟩ | ⟨y, c', rfl, hy, hg⟩
    · rcases hc.pl with ⟨g', cap', hv, hcu⟩ | ⟨y, c, hcu, hy⟩
      · rw [hcur] at hcu
        simp at hcu
        exact .inl ⟨g', cap', hv, by rw [hcu.1, hcu.2]; rfl⟩
      · rw [hcur] at hcu
        simp at hcu
        exact .inr ⟨g, cap, rfl, by omega⟩
    · rw [World.size_alloc] at hy
      exact .inr ⟨y, c', rfl, by omega⟩
  · rcases hg with ⟨rfl, hg⟩ | ⟨y', c', rfl, hy', hg⟩
    · intro e
      exact hc.ne j y hy (by rw [hgc]; exact e)
    · intro e
      have hjl := (List.getElem?_eq_some_iff.1 hy).1
      rw [World.size_alloc] at hy'
      have hji : j < vs.length := by have := (List.getElem?_eq_some_iff.1 hi).1; omega
      obtain ⟨u, m⟩ : Vn := vs[j]
      have hvj : vs[j]? = some vs[j] := List.getElem?_eq_getElem hji
      obtain ⟨p1, p2, p3⟩ := h.gr j vs[j].1 vs[j].2 y hvj hy
      have := (row_lt p2 y' e.symm).1
      omega
theorem infoBs : (Try.prog.info? 34).map (fun i => (i.zero, i.size, i.bytes)) = some (some (.slice none 0 0), 1, 24) := by kernel_rfl
/-- one more is grown -/
theorem Gr.push {W wr w' : World} {F : List Nat} {lv : Value} {vs : List Vn} {gs : List Value} {i n : Nat} {v cur : Value} (hl : Ls W F lv vs) (h : Gr W wr F vs gs) (hi : vs[i]? = some (v, n)) (hgi : gs.length = i) (hc : Cu W wr gs i n 70 v cur) (hkp : Kp W w' F)
    (hs : ∀ (x : Nat) (cs : Array Value), wr.heap[x]? = some (Obj.cells cs 5 (0, 0)) → w'.heap[x]? = wr.heap[x]?) : Gr W w' F vs (gs ++ [cur]) := by
  have hk : ∀ {u : Value} {m : Nat} {xs : List Value}, wr.ownsRow 0 5 1 u m xs → w'.ownsRow 0 5 1 u m xs := fun {u m xs} hu => ownsRow_block hu (fun x hx => by obtain ⟨_, cs, hc⟩ := row_lt hu x hx; exact hs x cs hc)
  have hcf : ∃ y cg, cur = .slice (some ⟨y, 0, none⟩) (n + 70) cg := by
    rcases hc.pl with ⟨g, cap, _, e⟩ | ⟨y, c, e, _⟩
    · exact ⟨_, _, e⟩
    · exact ⟨_, _, e⟩
  refine ⟨hkp, fun j u m hj => hk (h.mkd j u m hj), fun j u m g hj hg => ?_, fun j j' g g' hg hg' hne => ?_⟩
  · by_cases hjl : j < gs.length
    · rw [List.getElem?_append_left hjl] at hg
      obtain ⟨p1, p2, p3⟩ := h.gr j u m g hj hg
      exact ⟨p1, hk p2, p3⟩
    · have hjj : j = i := by
        have := (List.getElem?_eq_some_iff.1 hg).1
        simp at this
        omega
      subst hjj
      rw [hi] at hj
      cases hj
      rw [List.getElem?_append_right (by omega), hgi, Nat.sub_self] at hg
      simp at hg
      subst hg
      refine ⟨hcf, hk hc.row, ?_⟩
      rcases hc.pl with ⟨g, cap, e1, e2⟩ | ⟨y, c, e, hy⟩
      · left; rw [e1, e2]; rfl
      · right; exact ⟨y, by rw [e]; rfl, hy⟩
  · have hlast : ∀ {t : Nat} {y : Value}, (gs ++ [cur])[t]? = some y → (t < gs.length ∧ gs[t]? = some y) ∨ (t = gs.length ∧ y = cur) := fun {t y} hy => by
      by_cases ht : t < gs.length
      · rw [List.getElem?_append_left ht] at hy; exact .inl ⟨ht, hy⟩
      · have := (List.getElem?_eq_some_iff.1 hy).1
        simp at this
        have e : t = gs.length := by omega
        subst e
        simp at hy
        exact .inr ⟨rfl, hy.symm⟩
    rcases hlast hg with ⟨a1, a2⟩ | ⟨a1, rfl⟩
    · rcases hlast hg' with ⟨b1, b2⟩ | ⟨b1, rfl⟩
      · exact h.tw j j' g g' a2 b2 hne
      · exact fun e => hc.ne j g a2 e.symm
    · rcases hlast hg' with ⟨b1, b2⟩ | ⟨b1, rfl⟩
      · exact hc.ne j' g' b2
      · omega
theorem marks_at {i n t : Nat} (ht : t < n) : ((marks i n).map bv)[t]? = some (.int .u8 (mark i t)) := by
  unfold marks
  rw [List.getElem?_map, List.getElem?_map, List.getElem?_range ht]
  rfl
theorem mores_at {i n t : Nat} (ht : t < 70) : ((marks i n ++ mores i 70).map bv)[n + t]? = some (.int .u8 (moreB i t)) := by
  rw [List.getElem?_map, List.getElem?_append_right (by rw [marks_len]; omega), marks_len, show n + t - n = t by omega]
  unfold mores
  rw [List.getElem?_map, List.getElem?_range ht]
  rfl
set_option maxHeartbeats 8000000 in
theorem own_any {W : World} {F : List Nat} {lv : Value} {vs : List Vn} (hl : Ls W F lv vs) (hm : Mk W vs 0 0) (hlen : vs.length ≤ 2097152) (hF : ∀ g ∈ F, g < W.heap.size) (hlF : ∀ g, lv.ownBlock = some g → g ∉ F) :
    Calls Try.prog 61 #[lv] W fun r W' => r = .returned (.bool true) ∧ Kp W W' F := by
  obtain ⟨ao, c, rfl⟩ := own_slice hl.row
  obtain ⟨m, hmm⟩ : ∃ m, m = vs.length := ⟨_, rfl⟩
  have HM : Hid (vs.length = m) := hmm.symm
  rw [← hmm] at hl hlF hlen ⊢
  have HL : Hid (Ls W F (.slice ao m c) vs) := hl
  have HMk : Hid (Mk W vs 0 0) := hm
  have HF : Hid (∀ g ∈ F, g < W.heap.size) := hF
  have HlF : Hid (∀ g, (Value.slice ao m c).ownBlock = some g → g ∉ F) := hlF
  clear hl hm hF hlF hmm
  go_enter Try.func61, Try.ntmps61
  go_wp2
  go_loopw [3] (fun c3 wr => ∃ i : Nat, i ≤ m ∧ c3 = .int .i64 i ∧ Hid (Kp W wr F ∧ Ls wr F (.slice ao m c) vs ∧ Mk wr vs i 0)) (fun c3 _ => m - (intOf c3).toNat)
  case atStart => exact ⟨0, Nat.zero_le _, rfl, ⟨Kp.refl _ _, HL.out, HMk.out⟩⟩
  case round =>
    obtain ⟨i, hi, rfl, HS⟩ := hrel
    by_cases hlt : i < m
    · obtain ⟨x, hx⟩ : ∃ x, vs[i]? = some x := ⟨_, List.getElem?_eq_getElem (by have := HM.out; omega)⟩
      obtain ⟨v, n⟩ := x
      obtain ⟨hn0, hn1, g, cap, hv, hgF⟩ := HL.out.pos i v n hx
      obtain ⟨gl, hgl, _⟩ := HL.out.at_ hx
      subst hgl
      have hilt : (i : Int) < (m : Int) := by omega
      have HX : Hid (vs[i]? = some (v, n)) := hx
      have HV : Hid (g ∈ F) := hgF
      subst hv
      clear hx hgF
      go_wp2
      go_loopw [4] (fun c4 wr => ∃ k : Nat, k ≤ n ∧ c4 = .int .i64 k ∧ Hid (Kp W wr F ∧ Ls wr F (.slice (some ⟨gl, 0, none⟩) m c) vs ∧ Mk wr vs i k)) (fun c4 _ => n - (intOf c4).toNat)
      case atStart => exact ⟨0, Nat.zero_le _, rfl, HS⟩
      case round =>
        obtain ⟨k, hk, rfl, HS2⟩ := hrel
        obtain ⟨s1, s2, s3⟩ := HS2.out
        obtain ⟨g', e', hcl⟩ := s2.at_ HX.out
        cases e'
        have hkn : (n : Int) ≤ 33554432 := by omega
        by_cases hlt2 : k < n
        · obtain ⟨l, hl1, hl2, _⟩ := s3 i _ n HX.out
          have hklt : (k : Int) < (n : Int) := by omega
          obtain ⟨old, q1⟩ : ∃ old, wr.cell? ⟨g, k, none⟩ = some old := by
            rw [hl2.cellAt k (by omega), List.getElem?_map, List.getElem?_eq_getElem (by omega)]; exact ⟨_, rfl⟩
          have f1 : wr.frozen? ⟨g, k, none⟩ = false := by
            obtain ⟨_, cs, hc⟩ := row_lt hl2 g rfl
            exact frozen_of hc
          have hmk := u8_mark i k
          have w1 : IntKind.i64.wrap (11 * (i : Int)) = 11 * (i : Int) := wrap_id (by omega) (by omega)
          have w2 : IntKind.i64.wrap (3 * (k : Int)) = 3 * (k : Int) := wrap_id (by omega) (by omega)
          have w3 : IntKind.i64.wrap (11 * (i : Int) + 3 * (k : Int)) = 11 * (i : Int) + 3 * (k : Int) := wrap_id (by omega) (by omega)
          have w4 : IntKind.i64.wrap (11 * (i : Int) + 3 * (k : Int) + 5) = 11 * (i : Int) + 3 * (k : Int) + 5 := wrap_id (by omega) (by omega)
          have e1 : ¬ g = gl := fun e => HlF.out gl rfl (by rw [← e]; exact HV.out)
          have e2 : ¬ gl = g := fun e => e1 e.symm
          have HNx : Hid (Kp W (wr.setCell ⟨g, k, none⟩ (.int .u8 (mark i k))) F ∧ Ls (wr.setCell ⟨g, k, none⟩ (.int .u8 (mark i k))) F (.slice (some ⟨gl, 0, none⟩) m c) vs ∧ Mk (wr.setCell ⟨g, k, none⟩ (.int .u8 (mark i k))) vs i (k + 1)) := by
            refine ⟨s1.set (.inl HV.out) k _, s2.same (fun x hx => ?_), Mk.set s2 s3 HX.out hlt2 rfl⟩
            simp [Value.ownBlock] at hx
            subst hx
            exact Below.heap_setCell _ _ _ _ (by show gl ≠ g; omega)
          clear s1 s2 s3 hl1 hl2
          go_wp2
          go_roundw
          case rel => exact ⟨k + 1, by omega, by go_num, HNx⟩
          case measure => simp [intOf]; omega
        · have e : k = n := by omega
          subst e
          have HS3 : Hid (Kp W wr F ∧ Ls wr F (.slice (some ⟨gl, 0, none⟩) m c) vs ∧ Mk wr vs (i + 1) 0) := ⟨s1, s2, Mk.next s3 HX.out⟩
          clear s1 s2 s3
          go_wp2
          go_roundw
          case rel => exact ⟨i + 1, by omega, by go_num, HS3⟩
          case measure => simp [intOf]; omega
    · have e : i = m := by omega
      subst e
      clear HMk
      obtain ⟨t1, t2, t3⟩ := HS.out
      have HG0 : Hid (Gr W wr F vs [] ∧ Ls wr F (.slice ao i c) vs ∧ wr.ownsRow W.heap.size TBs 1 (.slice none 0 0) 0 []) := ⟨⟨t1, Mk.done t3 (by have := HM.out; omega), fun j v n g _ h => by simp at h, fun j j' g g' h => by simp at h⟩, t2, World.ownsRow_nil _ _ _ _⟩
      clear t1 t2 t3 HS
      obtain ⟨m, hmi⟩ : ∃ m, m = i := ⟨_, rfl⟩
      subst hmi
      go_wp2
      go_loopw [5, 6] (fun c5 c6 wr => ∃ (i : Nat) (gs : List Value), i ≤ m ∧ c6 = .int .i64 i ∧ Hid (gs.length = i ∧ Gr W wr F vs gs ∧ Ls wr F (.slice ao m c) vs ∧ wr.ownsRow W.heap.size TBs 1 c5 i gs)) (fun _ c6 _ => m - (intOf c6).toNat)
      case atStart => exact ⟨0, [], Nat.zero_le _, rfl, ⟨rfl, HG0.out⟩⟩
      case round =>
        obtain ⟨i, gs, hi, rfl, HS⟩ := hrel
        by_cases hlt : i < m
        · obtain ⟨x, hx⟩ : ∃ x, vs[i]? = some x := ⟨_, List.getElem?_eq_getElem (by have := HM.out; omega)⟩
          obtain ⟨v, n⟩ := x
          obtain ⟨hn0, hn1, g0, cap0, hv, hgF⟩ := HL.out.pos i v n hx
          obtain ⟨s0, s1, s2, s3⟩ := HS.out
          obtain ⟨gl, hgl, hcl⟩ := s2.at_ hx
          subst hgl
          have hilt : (i : Int) < (m : Int) := by omega
          have HX : Hid (vs[i]? = some (v, n)) := hx
          have HV : Hid (v = .slice (some ⟨g0, 0, none⟩) n cap0) := hv
          obtain ⟨go, gc, hgv⟩ := own_slice s3
          subst hgv
          have HCu0 : Hid (Cu W wr gs i n 0 v v) := by
            refine ⟨by simpa [mores] using s1.mkd i v n hx, .inl ⟨g0, cap0, hv, hv⟩, fun j y hy e => ?_⟩
            have hjl := (List.getElem?_eq_some_iff.1 hy).1
            have hjv : j < vs.length := by have := HM.out; omega
            have hvj : vs[j]? = some (vs[j].1, vs[j].2) := List.getElem?_eq_getElem hjv
            obtain ⟨p1, p2, p3⟩ := s1.gr j vs[j].1 vs[j].2 y hvj hy
            rcases p3 with p3 | ⟨x, p3, p4⟩
            · exact HL.out.two i j v n _ _ hx hvj (by omega) (by rw [e, p3])
            · rw [p3, hv] at e
              simp [Value.ownBlock] at e
              have := HF.out g0 hgF
              omega
          have hcl2 : wr.cell? ⟨gl, i, none⟩ = some (.slice (some ⟨g0, 0, none⟩) n cap0) := by rw [← hv]; exact hcl
          clear hx hgF hv hcl s0 s1 s2 s3
          go_wp2
          rw [← HV.out]
          go_loopw [7, 8] (fun c7 c8 wr => ∃ k : Nat, k ≤ 70 ∧ c8 = .int .i64 k ∧ Hid (Cu W wr gs i n k v c7 ∧ Gr W wr F vs gs ∧ Ls wr F (.slice (some ⟨gl, 0, none⟩) m c) vs ∧ wr.ownsRow W.heap.size TBs 1 (.slice go i gc) i gs)) (fun _ c8 _ => 70 - (intOf c8).toNat)
          case atStart => exact ⟨0, by decide, rfl, ⟨HCu0.out, HS.out.2⟩⟩
          case round =>
            obtain ⟨k, hk, rfl, HS2⟩ := hrel
            obtain ⟨s1, s2, s3, s4⟩ := HS2.out
            obtain ⟨g, cap, hcur⟩ : ∃ g cap, u7 = .slice (some ⟨g, 0, none⟩) (n + k) cap := by
              rcases s1.pl with ⟨g', cap', _, e⟩ | ⟨y, c', e, _⟩
              · exact ⟨_, _, e⟩
              · exact ⟨_, _, e⟩
            have HCur : Hid (u7 = .slice (some ⟨g, 0, none⟩) (n + k) cap) := hcur
            by_cases hk7 : k < 70
            · have hk8 : (k : Int) < 70 := by omega
              have hmo := u8_more i k
              have w1 : IntKind.i64.wrap (100 + (i : Int)) = 100 + (i : Int) := wrap_id (by omega) (by omega)
              have w2 : IntKind.i64.wrap (100 + (i : Int) + (k : Int)) = 100 + (i : Int) + (k : Int) := wrap_id (by omega) (by omega)
              obtain ⟨i0, hi0, hz0, hz1, hz2⟩ := info_parts info5x
              have hrw := s1.row
              rw [hcur] at hrw
              have HRw : Hid (wr.ownsRow 0 5 1 (.slice (some ⟨g, 0, none⟩) (n + k) cap) (n + k) ((marks i n ++ mores i k).map bv)) := hrw
              subst hcur
              clear s1 s2 s3 s4 hrw
              go_wp2_with (at_builtin; refine wpList_append_keep _ rfl _ _ TBs rfl 5 i0 (.int .u8 0) 1 Try.underlying34 hi0 hz0 hz1 hz2 rfl g (n + k) cap ((marks i n ++ mores i k).map bv) rfl (HRw.out.alloc _) ⟨wr.heap.size, 0, none⟩ 1 1 [bv (moreB i k)] rfl rfl (World.news_of_block (heap_alloc_new wr _)) (fun u hu => by simp at hu; subst hu; rfl) (by decide) (by unfold maxLen; omega) (by omega) ?_)
              intro v' w' ho hg
              obtain ⟨s1, s2, s3, s4⟩ := HS2.out
              have hrow : w'.ownsRow 0 5 1 v' (n + k + 1) ((marks i n ++ mores i k).map bv ++ [bv (moreB i k)]) := by rw [List.map_append, List.append_assoc]; exact ho
              have hg' : (v' = .slice (some ⟨g, 0, none⟩) (n + k + 1) cap ∧ (wr.alloc (.cells #[.int .u8 (moreB i k)] 5)).grownBy w' (some g)) ∨ ∃ y c', v' = .slice (some ⟨y, 0, none⟩) (n + k + 1) c' ∧ (wr.alloc (.cells #[.int .u8 (moreB i k)] 5)).heap.size ≤ y ∧ (wr.alloc (.cells #[.int .u8 (moreB i k)] 5)).grownBy w' none := by
                rcases hg with h1 | ⟨y, ⟨c', e⟩, h2, h3⟩
                · exact .inl h1
                · exact .inr ⟨y, c', e, by rw [World.size_alloc]; exact h2, h3⟩
              have hkeep : ∀ x, x < wr.heap.size → x ≠ g → w'.heap[x]? = wr.heap[x]? := fun x hx hne => by
                rcases hg' with ⟨_, hg⟩ | ⟨y, c', _, _, hg⟩
                · exact (hg.block x (by rw [World.size_alloc]; omega) (by simp; exact hne)).trans (Below.heap_alloc _ _ _ hx)
                · exact (hg.block x (by rw [World.size_alloc]; omega) (by simp)).trans (Below.heap_alloc _ _ _ hx)
              have hgr := Gr.grow HL.out HF.out s2 HX.out (by rw [HS.out.1]; exact Nat.le_refl _) s1 rfl hrow hg'
              have HNx : Hid (Cu W w' gs i n (k + 1) v v' ∧ Gr W w' F vs gs ∧ Ls w' F (.slice (some ⟨gl, 0, none⟩) m c) vs ∧ w'.ownsRow W.heap.size TBs 1 (.slice go i gc) i gs) :=
                ⟨hgr.2, hgr.1, s3.same (fun x hx => hkeep x (row_lt s3.row x hx).1 (fun e => own_types s3.row HRw.out (by decide) hx (by rw [e]; rfl))), ownsRow_block s4 (fun x hx => hkeep x (row_lt s4 x hx).1 (fun e => own_types s4 HRw.out (by decide) hx (by rw [e]; rfl)))⟩
              clear ho hg hrow hg' hkeep hgr s1 s2 s3 s4
              go_wp2
              go_roundw
              case rel => exact ⟨k + 1, by omega, by go_num, HNx⟩
              case measure => simp [intOf]; omega
            · have e : k = 70 := by omega
              subst e
              obtain ⟨i0, hi0, hz0, hz1, hz2⟩ := info_parts infoBs
              have HR4 : Hid (wr.ownsRow W.heap.size TBs 1 (.slice go i gc) i gs) := s4
              have hWs := s2.kp.size
              subst hcur
              clear s1 s2 s3 s4
              go_wp2_with (at_builtin; refine wpList_append_own _ rfl _ _ TBss rfl W.heap.size 34 i0 _ 1 24 Try.underlying110 hi0 hz0 hz1 hz2 rfl (by decide) (.slice go i gc) i gs rfl (HR4.out.alloc _) ⟨wr.heap.size, 0, none⟩ 1 1 [.slice (some ⟨g, 0, none⟩) (n + 70) cap] rfl rfl (World.news_of_block (heap_alloc_new wr _)) (fun u hu => by simp at hu; subst hu; rfl) (by unfold maxLen; omega) (by omega) (by rw [World.size_alloc]; omega) ?_)
              intro v2 w2 ho2 hg2 _
              obtain ⟨s1, s2, s3, s4⟩ := HS2.out
              have hkeep : ∀ x, x < wr.heap.size → (Value.slice go i gc).ownBlock ≠ some x → w2.heap[x]? = wr.heap[x]? := fun x hx hne => (hg2.block x (by rw [World.size_alloc]; omega) (fun e => hne e.symm)).trans (Below.heap_alloc _ _ _ hx)
              have hkp : Kp W w2 F := Kp.grown (s2.kp.trans (Kp.of_below ((Below.refl _ wr).alloc (Nat.le_refl _) _) []) (by simp)) hg2 (fun x e => .inr (HR4.out.lt x e).1)
              have hpush := Gr.push HL.out s2 HX.out HS.out.1 s1 hkp (fun x cs hx => hkeep x (Array.getElem?_eq_some_iff.1 hx).1 (fun e => by
                obtain ⟨_, cs', hc'⟩ := row_lt s4 x e
                rw [hx] at hc'
                simp at hc'
                exact absurd hc'.2 (by decide)))
              have HNx : Hid ((gs ++ [Value.slice (some ⟨g, 0, none⟩) (n + 70) cap]).length = i + 1 ∧ Gr W w2 F vs (gs ++ [Value.slice (some ⟨g, 0, none⟩) (n + 70) cap]) ∧ Ls w2 F (.slice (some ⟨gl, 0, none⟩) m c) vs ∧ w2.ownsRow W.heap.size TBs 1 v2 (i + 1) (gs ++ [Value.slice (some ⟨g, 0, none⟩) (n + 70) cap])) := by
                refine ⟨by simp [HS.out.1], hpush, s3.same (fun x hx => hkeep x (row_lt s3.row x hx).1 (fun e => ?_)), ho2⟩
                have h1 := (HR4.out.lt x e).1
                have h2 := (row_lt HL.out.row x hx).1
                omega
              clear ho2 hg2 hkeep hkp hpush s1 s2 s3 s4
              go_wp2
              go_roundw
              case rel => exact ⟨i + 1, gs ++ [_], by omega, by go_num, HNx⟩
              case measure => simp [intOf]; omega
        · have e : i = m := by omega
          subst e
          obtain ⟨t0, t1, t2, t3⟩ := HS.out
          obtain ⟨go, gc, hgv⟩ := own_slice t3
          subst hgv
          obtain ⟨W3, hW3⟩ : ∃ W3, W3 = wr := ⟨_, rfl⟩
          subst hW3
          have HT : Hid (gs.length = i ∧ Gr W W3 F vs gs ∧ Ls W3 F (.slice ao i c) vs ∧ W3.ownsRow W.heap.size TBs 1 (.slice go i gc) i gs) := ⟨t0, t1, t2, t3⟩
          clear t0 t1 t2 t3 HS HG0
          obtain ⟨m, hmi⟩ : ∃ m, m = i := ⟨_, rfl⟩
          subst hmi
          go_wp2
          go_loopw [9] (fun c9 wr => ∃ i : Nat, i ≤ m ∧ c9 = .int .i64 i ∧ Hid (Below W3.heap.size W3 wr)) (fun c9 _ => m - (intOf c9).toNat)
          case atStart => exact ⟨0, Nat.zero_le _, rfl, Below.refl _ _⟩
          case round =>
            obtain ⟨i, hi, rfl, HB⟩ := hrel
            by_cases hlt : i < m
            · obtain ⟨x, hx⟩ : ∃ x, vs[i]? = some x := ⟨_, List.getElem?_eq_getElem (by have := HM.out; omega)⟩
              obtain ⟨v, n⟩ := x
              obtain ⟨hn0, hn1, g0, cap0, hv, hgF⟩ := HL.out.pos i v n hx
              obtain ⟨gl, hgl, hcl⟩ := HT.out.2.2.1.at_ hx
              subst hgl
              have hilt : (i : Int) < (m : Int) := by omega
              have HX : Hid (vs[i]? = some (v, n)) := hx
              have HV : Hid (v = .slice (some ⟨g0, 0, none⟩) n cap0) := hv
              have HC : Hid (∀ wr, Below W3.heap.size W3 wr → wr.cell? ⟨gl, i, none⟩ = some (.slice (some ⟨g0, 0, none⟩) n cap0) ∧ ∀ t, t < n → wr.cell? ⟨g0, t, none⟩ = some (.int .u8 (mark i t))) := fun wr hB => by
                refine ⟨cell_later hB (by rw [← hv]; exact hcl), fun t ht => ?_⟩
                have h1 := HT.out.2.1.mkd i v n hx
                rw [hv] at h1
                exact cell_later hB ((h1.cellAt t (by omega)).trans (marks_at ht))
              obtain ⟨y, hy⟩ : ∃ y, gs[i]? = some y := ⟨_, List.getElem?_eq_getElem (by have := HT.out.1; omega)⟩
              obtain ⟨⟨gy, cy, hyv⟩, hyr, _⟩ := HT.out.2.1.gr i v n y hx hy
              obtain ⟨gg, hgg, hgc⟩ : ∃ gg, go = some ⟨gg, 0, none⟩ ∧ W3.cell? ⟨gg, i, none⟩ = some y := by
                have hr := HT.out.2.2.2
                rcases hr.2 with ⟨e, h0⟩ | ⟨gg, cap', cur, e, _⟩
                · omega
                · simp at e
                  obtain ⟨e1, e2⟩ := e
                  subst e1
                  refine ⟨gg, rfl, ?_⟩
                  rw [hr.cellAt i (by omega), hy]
              subst hgg
              have HC2 : Hid (∀ wr, Below W3.heap.size W3 wr → wr.cell? ⟨gg, i, none⟩ = some (.slice (some ⟨gy, 0, none⟩) (n + 70) cy) ∧ ∀ t, t < 70 → wr.cell? ⟨gy, n + t, none⟩ = some (.int .u8 (moreB i t))) := fun wr hB => by
                refine ⟨cell_later hB (by rw [← hyv]; exact hgc), fun t ht => ?_⟩
                rw [hyv] at hyr
                exact cell_later hB ((hyr.cellAt (n + t) (by omega)).trans (mores_at ht))
              have hkn : (n : Int) ≤ 33554432 := by omega
              clear hx hgF hv hcl hy hyv hyr hgc
              go_wp2
              go_loopw [10] (fun c10 wr => ∃ k : Nat, k ≤ n ∧ c10 = .int .i64 k ∧ Hid (Below W3.heap.size W3 wr)) (fun c10 _ => n - (intOf c10).toNat)
              case atStart => exact ⟨0, Nat.zero_le _, rfl, HB⟩
              case round =>
                obtain ⟨k, hk, rfl, HB2⟩ := hrel
                obtain ⟨y1, y2⟩ := HC.out wr HB2.out
                by_cases hlt2 : k < n
                · have hklt : (k : Int) < (n : Int) := by omega
                  have yk := y2 k hlt2
                  have hmk := u8_mark i k
                  have w1 : IntKind.i64.wrap (11 * (i : Int)) = 11 * (i : Int) := wrap_id (by omega) (by omega)
                  have w2 : IntKind.i64.wrap (3 * (k : Int)) = 3 * (k : Int) := wrap_id (by omega) (by omega)
                  have w3 : IntKind.i64.wrap (11 * (i : Int) + 3 * (k : Int)) = 11 * (i : Int) + 3 * (k : Int) := wrap_id (by omega) (by omega)
                  have w4 : IntKind.i64.wrap (11 * (i : Int) + 3 * (k : Int) + 5) = 11 * (i : Int) + 3 * (k : Int) + 5 := wrap_id (by omega) (by omega)
                  clear y2
                  go_wp2
                  go_roundw
                  case rel => exact ⟨k + 1, by omega, by go_num, HB2⟩
                  case measure => simp [intOf]; omega
                · have hkl : ¬ (k : Int) < (n : Int) := by omega
                  clear y2
                  go_wp2
                  go_loopw [11] (fun c11 wr => ∃ k : Nat, k ≤ 70 ∧ c11 = .int .i64 k ∧ Hid (Below W3.heap.size W3 wr)) (fun c11 _ => 70 - (intOf c11).toNat)
                  case atStart => exact ⟨0, by decide, rfl, HB2⟩
                  case round =>
                    obtain ⟨t, ht, rfl, HB3⟩ := hrel
                    obtain ⟨y1', _⟩ := HC.out wr HB3.out
                    obtain ⟨z1, z2⟩ := HC2.out wr HB3.out
                    by_cases ht7 : t < 70
                    · have ht8 : (t : Int) < 70 := by omega
                      have zk := z2 t ht7
                      have hmo := u8_more i t
                      have w1 : IntKind.i64.wrap (100 + (i : Int)) = 100 + (i : Int) := wrap_id (by omega) (by omega)
                      have w2 : IntKind.i64.wrap (100 + (i : Int) + (t : Int)) = 100 + (i : Int) + (t : Int) := wrap_id (by omega) (by omega)
                      have w3 : IntKind.i64.wrap ((n : Int) + (t : Int)) = (n : Int) + (t : Int) := wrap_id (by omega) (by omega)
                      have n1 : (0 : Int) ≤ (n : Int) + (t : Int) := by omega
                      have n2 : (n : Int) + (t : Int) < ((n + 70 : Nat) : Int) := by omega
                      have n3 : (n : Int) + (t : Int) < (n : Int) + 70 := by omega
                      have n4 : ((n : Int) + (t : Int)).toNat = n + t := by omega
                      clear z2
                      go_wp2
                      go_quiet (fail)
                      go_wp2
                      go_roundw
                      case rel => exact ⟨t + 1, by omega, by go_num, HB3.out.trans ((below_drewN wr _).mono HB3.out.size)⟩
                      case measure => simp [intOf]; omega
                    · have ht8 : ¬ (t : Int) < 70 := by omega
                      go_wp2
                      go_roundw
                      case rel => exact ⟨i + 1, by omega, by go_num, HB3⟩
                      case measure => simp [intOf]; omega
            · have e : i = m := by omega
              subst e
              have HK : Hid (Kp W wr F) := HT.out.2.1.kp.trans (Kp.of_below HB.out []) (by simp)
              go_wp2
              go_ret
              exact ⟨rfl, HK.out⟩
end Go.Proofs.Ythmonfmpgjbhmab.K

namespace Go.Proofs.Ythmonfmpgjbhmab
open _root_.Go.Proofs.Ythmonfmpgjbhmab.Rows (uptoBulk uptoBulkAll uptoSmall)

theorem bulk_pos {H : Type} (d : DataW H) : 0 < uptoBulk d := by
  rcases d with l | _ | _ | _ | _ | _ | _ | _
  · cases l <;> simp [uptoBulk]
  all_goals simp [uptoBulk]
theorem bulkAll_append {H : Type} : ∀ l r : List (DataW H), uptoBulkAll (l ++ r) = uptoBulkAll l + uptoBulkAll r
  | [], r => by simp [uptoBulkAll]
  | d :: l, r => by simp only [List.cons_append, uptoBulkAll]; rw [bulkAll_append l r]; omega
theorem bulk_le_all {H : Type} {d : DataW H} {l : List (DataW H)} (h : d ∈ l) : uptoBulk d ≤ uptoBulkAll l := by
  obtain ⟨a, b, rfl⟩ := List.append_of_mem h
  rw [bulkAll_append]; simp only [uptoBulkAll]; omega
theorem length_le_bulk {H : Type} : ∀ l : List (DataW H), l.length ≤ uptoBulkAll l
  | [] => Nat.zero_le _
  | d :: l => by have := length_le_bulk l; have := bulk_pos d; simp only [uptoBulkAll, List.length_cons]; omega
theorem bulk_slice {H : Type} (es sp : List (DataW H)) : uptoBulk (.slice es sp) = uptoBulkAll es + uptoBulkAll sp + 1 := by simp [uptoBulk]
theorem bulk_bound {H : Type} {l : List (DataW H)} (h : uptoSmall H l = true) : uptoBulkAll l ≤ 1048576 := of_decide_eq_true h
end Go.Proofs.Ythmonfmpgjbhmab

namespace Go.Proofs.Ythmonfmpgjbhmab.K
open Go.ChangeShapes Go.WideShapes Go.ChangeAt Go.RowKit Go.Deep Go.Proofs.Ythmonfmpgjbhmab
set_option linter.unusedVariables false
set_option maxRecDepth 100000

theorem laidOut : laidOutB Try.prog = true := by kernel_rfl
theorem cellsInt : Try.prog.cellsOf 3 = 1 := by kernel_rfl
theorem cellsU8 : Try.prog.cellsOf 5 = 1 := by kernel_rfl
theorem cellsKeep : Try.prog.cellsOf 30 = 1 := by kernel_rfl
theorem cellsOp : Try.prog.cellsOf 32 = 10 := by kernel_rfl
theorem tenV {cs : List Value} (h : cs.length = 10) : ∃ a b c d e f g i j k, cs = [a, b, c, d, e, f, g, i, j, k] := by
  match cs, h with
  | [a, b, c, d, e, f, g, i, j, k], _ => exact ⟨a, b, c, d, e, f, g, i, j, k, rfl⟩
theorem cellsBool : Try.prog.cellsOf 4 = 1 := by kernel_rfl
theorem cellsFa5 : Try.prog.cellsOf 29 = 5 := by kernel_rfl
theorem fiveV {cs : List Value} (h : cs.length = 5) : ∃ a b c d e, cs = [a, b, c, d, e] := by
  match cs, h with
  | [a, b, c, d, e], _ => exact ⟨a, b, c, d, e, rfl⟩
theorem i64_of_wf {z : Int} (h : (Lit.int .i64 z).wf = true) : I64 z := by
  have e1 : IntKind.i64.min = -9223372036854775808 := rfl
  have e2 : IntKind.i64.max = 9223372036854775807 := rfl
  simp [Lit.wf] at h
  unfold I64
  omega
/-- a call that was handed in -/
structure Opn where
  kind : Int
  sector : Int
  fill : Nat
  more : Int
  f : Flt
  ao : Option Addr
  cap : Nat
  keep : List Bool
def Opn.cells (o : Opn) : List Value := [.int .i64 o.kind, .int .i64 o.sector, .int .u8 o.fill, .int .i64 o.more, .int .i64 o.f.kind, .int .i64 o.f.sector, .int .i64 o.f.after, .int .i64 o.f.times, .bool o.f.land, .slice o.ao o.keep.length o.cap]
structure OpOk (W : World) (o : Opn) : Prop where
  fill : o.fill < 256
  sw : (Lit.int .i64 o.sector).wf = true
  fa : I64 o.f.after
  ft : I64 o.f.times
  row : BoRow W o.ao o.cap o.keep
theorem open_fault {H : Type} {enc : TypeId × Value → H} {W : World} {base fuel : Nat} {cs : List Value} {x : DataW H × List MemPlace} (hf : DataW.trod enc Try.prog W base (fun _ => true) true fuel 29 cs = some x) :
    ∃ f : Flt, cs = fcell f ∧ I64 f.after ∧ I64 f.times := by
  obtain ⟨xs, m, _, _, hl, hxl, hall⟩ := DataW.trod_struct Try.underlying29 hf
  obtain ⟨a, b, c, d, e, rfl⟩ := fiveV (hl.trans cellsFa5)
  have hx5 : xs.length = 5 := hxl
  have h0 : DataW.trod enc Try.prog W base (fun _ => true) true m 3 (([a, b, c, d, e].drop 0).take (Try.prog.cellsOf 3)) = xs[0]? := hall 0 _ rfl
  have h1 : DataW.trod enc Try.prog W base (fun _ => true) true m 3 (([a, b, c, d, e].drop 1).take (Try.prog.cellsOf 3)) = xs[1]? := hall 1 _ rfl
  have h2 : DataW.trod enc Try.prog W base (fun _ => true) true m 3 (([a, b, c, d, e].drop 2).take (Try.prog.cellsOf 3)) = xs[2]? := hall 2 _ rfl
  have h3 : DataW.trod enc Try.prog W base (fun _ => true) true m 3 (([a, b, c, d, e].drop 3).take (Try.prog.cellsOf 3)) = xs[3]? := hall 3 _ rfl
  have h4 : DataW.trod enc Try.prog W base (fun _ => true) true m 4 (([a, b, c, d, e].drop 4).take (Try.prog.cellsOf 4)) = xs[4]? := hall 4 _ rfl
  rw [List.getElem?_eq_getElem (by omega)] at h0 h1 h2 h3 h4
  rw [cellsInt] at h0 h1 h2 h3
  rw [cellsBool] at h4
  obtain ⟨z0, e0, _, _⟩ := DataW.trod_int Try.underlying3 h0
  obtain ⟨z1, e1, _, _⟩ := DataW.trod_int Try.underlying3 h1
  obtain ⟨z2, e2, _, w2⟩ := DataW.trod_int Try.underlying3 h2
  obtain ⟨z3, e3, _, w3⟩ := DataW.trod_int Try.underlying3 h3
  obtain ⟨z4, e4, _⟩ := DataW.trod_bool Try.underlying4 h4
  simp at e0 e1 e2 e3 e4
  subst e0; subst e1; subst e2; subst e3; subst e4
  exact ⟨⟨z0, z1, z2, z3, z4⟩, rfl, i64_of_wf w2, i64_of_wf w3⟩
theorem open_keep {H : Type} {enc : TypeId × Value → H} {W : World} {base fuel : Nat} {cs : List Value} {d : DataW H} {p : List MemPlace} (hf : DataW.trod enc Try.prog W base (fun _ => true) true fuel 30 cs = some (d, p)) (hb : Rows.uptoBulk d ≤ 1048576) :
    ∃ (ao : Option Addr) (cap : Nat) (l : List Bool), cs = [.slice ao l.length cap] ∧ BoRow W ao cap l := by
  rcases open_slice Try.underlying30 hf with ⟨hcs, _⟩ | ⟨x, len, cap, m, n, D, Pl, hcs, _, hl, hm, hmm, hx, hel⟩
  · exact ⟨none, 0, [], hcs, ⟨by simp, fun _ => ⟨rfl, rfl⟩, fun h => absurd rfl h⟩⟩
  · have hmc : m = cap := by simpa using hmm
    have hd : d = .slice ((List.range len).map D) ((List.range (m - len)).map fun j => D (len + j)) := (Prod.mk.inj hx).1
    have hlen : len ≤ 1048576 := by
      have b1 := bulk_slice ((List.range len).map D) ((List.range (m - len)).map fun j => D (len + j))
      have b2 := length_le_bulk ((List.range len).map D)
      rw [← hd] at b1
      simp at b2
      omega
    have hel' : ∀ i, ∃ q : Bool, i < len → W.cell? (x.add i) = some (.bool q) := by
      intro i
      by_cases hi : i < len
      · obtain ⟨cs', hc1, hc2⟩ := hel i (by omega)
        rw [cellsBool] at hc1
        obtain ⟨q, rfl, _⟩ := DataW.trod_bool Try.underlying4 hc2
        refine ⟨q, fun _ => ?_⟩
        have h1 := (World.cells?_some hc1).2.2 0 (by decide)
        rw [Nat.mul_one] at h1
        have e : (x.add i).add 0 = x.add i := by simp [Addr.add]
        rw [e] at h1
        exact h1
      · exact ⟨false, fun h => absurd h hi⟩
    obtain ⟨T, hT⟩ := Classical.axiomOfChoice hel'
    refine ⟨some x, cap, (List.range len).map T, by rw [hcs]; simp, ⟨by simpa using hlen, (fun e => by cases e), fun hne => ?_⟩⟩
    have h0 : 0 < len := by
      rcases Nat.eq_zero_or_pos len with h | h
      · subst h; simp at hne
      · exact h
    obtain ⟨pb, po, rfl⟩ : ∃ pb po, x = ⟨pb, po, none⟩ := by
      have h1 := World.cell?_spot (hT 0 h0)
      obtain ⟨b, off, spot⟩ := x
      have : spot = none := by simpa [Addr.add] using h1
      exact ⟨b, off, by rw [this]⟩
    refine ⟨pb, po, rfl, fun k y hk => ?_⟩
    have hk2 : k < len := by
      have := (List.getElem?_eq_some_iff.1 hk).1
      simpa using this
    have hq : T k = y := by simpa [hk2] using hk
    have h1 := hT k hk2
    rw [add_plain, hq] at h1
    exact h1
theorem open_opn {H : Type} {enc : TypeId × Value → H} {W : World} {base fuel : Nat} {cs : List Value} {d : DataW H} {p : List MemPlace} (hf : DataW.trod enc Try.prog W base (fun _ => true) true fuel 32 cs = some (d, p)) (hb : Rows.uptoBulk d ≤ 1048576) :
    ∃ o : Opn, cs = o.cells ∧ OpOk W o := by
  obtain ⟨xs, m, _, hx, hl, hxl, hall⟩ := DataW.trod_struct Try.underlying32 hf
  obtain ⟨a, b, c, d', f0, f1, f2, f3, f4, g, rfl⟩ := tenV (hl.trans cellsOp)
  have hx6 : xs.length = 6 := hxl
  have h0 : DataW.trod enc Try.prog W base (fun _ => true) true m 3 (([a, b, c, d', f0, f1, f2, f3, f4, g].drop 0).take (Try.prog.cellsOf 3)) = xs[0]? := hall 0 _ rfl
  have h1 : DataW.trod enc Try.prog W base (fun _ => true) true m 3 (([a, b, c, d', f0, f1, f2, f3, f4, g].drop 1).take (Try.prog.cellsOf 3)) = xs[1]? := hall 1 _ rfl
  have h2 : DataW.trod enc Try.prog W base (fun _ => true) true m 5 (([a, b, c, d', f0, f1, f2, f3, f4, g].drop 2).take (Try.prog.cellsOf 5)) = xs[2]? := hall 2 _ rfl
  have h3 : DataW.trod enc Try.prog W base (fun _ => true) true m 3 (([a, b, c, d', f0, f1, f2, f3, f4, g].drop 3).take (Try.prog.cellsOf 3)) = xs[3]? := hall 3 _ rfl
  have h4 : DataW.trod enc Try.prog W base (fun _ => true) true m 29 (([a, b, c, d', f0, f1, f2, f3, f4, g].drop 4).take (Try.prog.cellsOf 29)) = xs[4]? := hall 4 _ rfl
  have h5 : DataW.trod enc Try.prog W base (fun _ => true) true m 30 (([a, b, c, d', f0, f1, f2, f3, f4, g].drop 9).take (Try.prog.cellsOf 30)) = xs[5]? := hall 5 _ rfl
  rw [List.getElem?_eq_getElem (by omega)] at h0 h1 h2 h3 h4 h5
  rw [cellsInt] at h0 h1 h3
  rw [cellsU8] at h2
  rw [cellsFa5] at h4
  rw [cellsKeep] at h5
  obtain ⟨z0, e0, _, _⟩ := DataW.trod_int Try.underlying3 h0
  obtain ⟨z1, e1, _, w1⟩ := DataW.trod_int Try.underlying3 h1
  obtain ⟨z2, e2, _, w2⟩ := DataW.trod_int Try.underlying5 h2
  obtain ⟨z3, e3, _, _⟩ := DataW.trod_int Try.underlying3 h3
  obtain ⟨f, e4, fa, ft⟩ := open_fault h4
  have hb5 : Rows.uptoBulk xs[5].1 ≤ 1048576 := by
    have hd : d = .agg (xs.map Prod.fst) := (Prod.mk.inj hx).1
    have h6 : xs[5].1 ∈ xs.map Prod.fst := List.mem_map_of_mem (List.getElem_mem _)
    have h7 := bulk_le_all h6
    rw [hd] at hb
    simp only [Rows.uptoBulk] at hb
    omega
  obtain ⟨ao, cap, l, e5, hr⟩ := open_keep (d := xs[5].1) (p := xs[5].2) h5 hb5
  simp [fcell] at e0 e1 e2 e3 e4 e5
  obtain ⟨q0, q1, q2, q3, q4⟩ := e4
  subst e0; subst e1; subst e2; subst e3; subst e5; subst q0; subst q1; subst q2; subst q3; subst q4
  have hbb := bounds_u8 w2
  obtain ⟨fill, rfl⟩ := Int.eq_ofNat_of_zero_le hbb.1
  exact ⟨⟨z0, z1, fill, z3, f, ao, cap, l⟩, rfl, ⟨by show fill < 256; omega, w1, fa, ft, hr⟩⟩
/-- the script's row -/
structure ORow (W : World) (ao : Option Addr) (l : List Opn) : Prop where
  at_ : ∀ (k : Nat) o, l[k]? = some o → ∃ b off, ao = some ⟨b, off, none⟩ ∧ ∀ j, j < 10 → W.cell? ⟨b, off + k * 10 + j, none⟩ = o.cells[j]?
theorem open_ops {H : Type} {enc : TypeId × Value → H} {W : World} {base fuel : Nat} {a0 : Option Addr} {len0 cap0 : Nat} {d : DataW H} {p : List MemPlace} (hf : DataW.trod enc Try.prog W base (fun _ => true) true fuel 22 [.slice a0 len0 cap0] = some (d, p)) (hb : Rows.uptoBulk d ≤ 1048576) :
    ∃ l : List Opn, len0 = l.length ∧ ORow W a0 l ∧ (∀ o ∈ l, OpOk W o) ∧ len0 ≤ 1048575 := by
  rcases open_slice Try.underlying22 hf with ⟨hcs, _⟩ | ⟨x, len, cap, m, n, D, Pl, hcs, _, hl, hm, hmm, hx, hel⟩
  · simp at hcs
    obtain ⟨rfl, rfl, rfl⟩ := hcs
    exact ⟨[], rfl, ⟨fun k q hk => by simp at hk⟩, by simp, by decide⟩
  · simp at hcs
    obtain ⟨rfl, rfl, rfl⟩ := hcs
    have hmc : m = cap0 := by simpa using hmm
    have hd : d = .slice ((List.range len0).map D) ((List.range (m - len0)).map fun j => D (len0 + j)) := (Prod.mk.inj hx).1
    have b1 := bulk_slice ((List.range len0).map D) ((List.range (m - len0)).map fun j => D (len0 + j))
    rw [← hd] at b1
    have hlen : len0 ≤ 1048575 := by
      have b2 := length_le_bulk ((List.range len0).map D)
      simp at b2
      omega
    have hel' : ∀ i, ∃ q : Opn, i < len0 → (∀ j, j < 10 → W.cell? ((x.add (i * 10)).add j) = q.cells[j]?) ∧ OpOk W q := by
      intro i
      by_cases hi : i < len0
      · obtain ⟨cs', hc1, hc2⟩ := hel i (by omega)
        rw [cellsOp] at hc1
        have hbi : Rows.uptoBulk (D i) ≤ 1048576 := by
          have h6 : D i ∈ (List.range len0).map D := List.mem_map_of_mem (List.mem_range.2 hi)
          have h7 := bulk_le_all h6
          omega
        obtain ⟨q, rfl, hq⟩ := open_opn hc2 hbi
        exact ⟨q, fun _ => ⟨(World.cells?_some hc1).2.2, hq⟩⟩
      · exact ⟨⟨0, 0, 0, 0, ⟨0, 0, 0, 0, false⟩, none, 0, []⟩, fun h => absurd h hi⟩
    obtain ⟨T, hT⟩ := Classical.axiomOfChoice hel'
    refine ⟨(List.range len0).map T, by simp, ⟨fun k q hk => ?_⟩, fun y hy => ?_, hlen⟩
    · have hk2 : k < len0 := by
        have := (List.getElem?_eq_some_iff.1 hk).1
        simpa using this
      have hq : T k = q := by simpa [hk2] using hk
      obtain ⟨pb, po, rfl⟩ : ∃ pb po, x = ⟨pb, po, none⟩ := by
        have h0 := (hT 0 (by omega)).1 0 (by decide)
        have h1 := World.cell?_spot (show W.cell? ((x.add (0 * 10)).add 0) = some (.int .i64 (T 0).kind) from h0)
        obtain ⟨b, off, spot⟩ := x
        have : spot = none := by simpa [Addr.add] using h1
        exact ⟨b, off, by rw [this]⟩
      refine ⟨pb, po, rfl, fun j hj => ?_⟩
      have g0 := (hT k hk2).1 j hj
      rw [add_plain, add_plain, hq] at g0
      exact g0
    · obtain ⟨i, hi, rfl⟩ := List.mem_map.1 hy
      exact (hT i (List.mem_range.1 hi)).2
end Go.Proofs.Ythmonfmpgjbhmab.K

namespace Go.Proofs.Ythmonfmpgjbhmab.K
open Go.RowKit Go.Maps Go.Proofs.Ythmonfmpgjbhmab
attribute [local go_sem] Oper.semAt_some
set_option linter.unusedVariables false
set_option linter.unusedSimpArgs false
set_option maxRecDepth 100000

abbrev TOp : TypeId := 32
/-- the box of a call that was handed in -/
structure Bx (W0 W : World) (x : Nat) (cs : Array Value) : Prop where
  blk : W.heap[x]? = some (.cells cs TOp (0, 0))
theorem rdL_lt {W : World} {b p : Nat} {S T : Dk} {N : Nat} {H : List Nat} (h : PP W b p S T N H) (s : Int) : ∀ x ∈ rdL S s, x < 256 := by
  obtain ⟨ms, ml, qv, fv, dv, rq, av, D, Q, hk, hr, hN, hd, rfl⟩ := h.ex
  unfold rdL
  intro x hx
  split at hx
  · rename_i hi
    split at hx
    · simp at hx
    · have hr : 0 ≤ s ∧ s < S.n := of_decide_eq_true hi
      exact (look_ok hk (s := s.toNat) (by omega)).lt x hx
  · simp at hx
theorem rdL_len {W : World} {b p : Nat} {S T : Dk} {N : Nat} {H : List Nat} (h : PP W b p S T N H) (s : Int) : (rdL S s).length ≤ 512 := by
  obtain ⟨ms, ml, qv, fv, dv, rq, av, D, Q, hk, hr, hN, hd, rfl⟩ := h.ex
  unfold rdL
  split
  · rename_i hi
    split
    · simp
    · have hr : 0 ≤ s ∧ s < S.n := of_decide_eq_true hi
      rw [(look_ok hk (s := s.toNat) (by omega)).len]
      exact Nat.le_refl _
  · simp
set_option maxHeartbeats 4000000 in
theorem acts_read {W : World} {b p : Nat} {S : Dk} {N : Nat} {H : List Nat} (h : PP W b p S S N H) (hN : N < 1048576) (osec : Int) (ofill : Nat) (omore fk fsec fa ft : Int) (fl : Bool) (oao : Option Addr) (ocap : Nat) (okeep : List Bool) :
    Calls Try.prog 20 #[.pointer (some ⟨b, 0, none⟩), .pointer (some ⟨p, 0, none⟩), .agg #[.int .i64 1, .int .i64 osec, .int .u8 ofill, .int .i64 omore, .int .i64 fk, .int .i64 fsec, .int .i64 fa, .int .i64 ft, .bool fl, .slice oao okeep.length ocap]] W fun r W' => r = .returned (.bool true) ∧ ∃ S' H', PP W' b p S' S' (N + 1) H' ∧ Mv W W' H H' := by
  have hB0 : Below W.heap.size W (W.alloc (.cells #[.int .i64 1, .int .i64 osec, .int .u8 ofill, .int .i64 omore, .int .i64 fk, .int .i64 fsec, .int .i64 fa, .int .i64 ft, .bool fl, .slice oao okeep.length ocap] TOp)) := (Below.refl _ W).alloc (Nat.le_refl _) _
  obtain ⟨W0, hW0⟩ : ∃ W0, W0 = W.alloc (.cells #[.int .i64 1, .int .i64 osec, .int .u8 ofill, .int .i64 omore, .int .i64 fk, .int .i64 fsec, .int .i64 fa, .int .i64 ft, .bool fl, .slice oao okeep.length ocap] TOp) := ⟨_, rfl⟩
  rw [← hW0] at hB0
  have HP0 : Hid (PP W0 b p S S N H) := h.later hB0
  have hx0 : W0.heap[W.heap.size]? = some (.cells #[.int .i64 1, .int .i64 osec, .int .u8 ofill, .int .i64 omore, .int .i64 fk, .int .i64 fsec, .int .i64 fa, .int .i64 ft, .bool fl, .slice oao okeep.length ocap] TOp) := by rw [hW0]; exact heap_alloc_new W _
  have HXk : Hid (∀ W' F, Kp W0 W' F → (∀ i ∈ F, i ∈ H ∨ W0.heap.size ≤ i) → W'.heap[W.heap.size]? = some (.cells #[.int .i64 1, .int .i64 osec, .int .u8 ofill, .int .i64 omore, .int .i64 fk, .int .i64 fsec, .int .i64 fa, .int .i64 ft, .bool fl, .slice oao okeep.length ocap] TOp)) := fun W' F hk hs => by
    have hl := (Array.getElem?_eq_some_iff.1 hx0).1
    refine (hk.block _ hl (fun hm => ?_)).trans hx0
    rcases hs _ hm with h1 | h1
    · have := h.lt _ h1; omega
    · omega
  have HMv : Hid (∀ W' H', Mv W0 W' H H' → Mv W W' H H') := fun W' H' hm => ⟨(Kp.of_below hB0 _).trans hm.kp (fun i hi => .inl hi), fun i hi => (hm.sub i hi).imp id (fun h1 => Nat.le_trans hB0.size h1)⟩
  have HL : Hid ((∀ x ∈ rdL S osec, x < 256) ∧ (rdL S osec).length ≤ 512) := ⟨rdL_lt h osec, rdL_len h osec⟩
  have y1 : W0.cell? ⟨W.heap.size, 1, none⟩ = some (.int .i64 osec) := (cell_of hx0).trans rfl
  have HW0 : Hid (W0 = W.alloc (.cells #[.int .i64 1, .int .i64 osec, .int .u8 ofill, .int .i64 omore, .int .i64 fk, .int .i64 fsec, .int .i64 fa, .int .i64 ft, .bool fl, .slice oao okeep.length ocap] TOp)) := hW0
  clear h hx0 hB0 hW0
  go_enter Try.func20, Try.ntmps20
  go_wp2_with fail
  rw [← HW0.out]
  refine (HP0.out.readD osec).mono ?_
  rintro r W1 ⟨v1, rfl, ho1, H1, ⟨hp1, hm1⟩, hv1⟩
  have HP1 : Hid (PP W1 b p (rdS S osec) S N H1) := hp1
  have HM1 : Hid (Mv W0 W1 H H1) := hm1
  obtain ⟨a1, c1, e1, hb1⟩ := BRow.own ho1 HL.out.1 (by have := HL.out.2; omega)
  have HO1 : Hid (W1.ownsRow W0.heap.size 5 1 v1 (rdL S osec).length ((rdL S osec).map bv) ∧ (∀ g, v1.ownBlock = some g → g ∉ H1) ∧ v1 = .slice a1 (rdL S osec).length c1) := ⟨ho1, hv1, e1⟩
  subst e1
  have y11 : W1.cell? ⟨W.heap.size, 1, none⟩ = some (.int .i64 osec) := (cell_of (HXk.out W1 H hm1.kp (fun i hi => .inl hi))).trans rfl
  clear ho1 hv1 hp1 hm1 hb1
  go_wp2_with fail
  refine (HP1.out.readR (by omega) osec).mono ?_
  rintro r W2 ⟨v2, rfl, ho2, H2, hp2, hm2⟩
  have HP2 : Hid (PP W2 b p (rdS S osec) (rdS S osec) (N + 1) H2) := hp2.more (by omega)
  have HM2 : Hid (Mv W W2 H H2) := HMv.out W2 H2 (HM1.out.trans hm2)
  obtain ⟨a2, c2, e2, hb2⟩ := BRow.own ho2 HL.out.1 (by have := HL.out.2; omega)
  have ho12 := ownsRow_block HO1.out.1 (w' := W2) (fun g e => hm2.kp.block g (row_lt HO1.out.1 g e).1 (HO1.out.2.1 g e))
  obtain ⟨a1', c1', e1', hb1⟩ := BRow.own ho12 HL.out.1 (by have := HL.out.2; omega)
  simp at e1'
  obtain ⟨rfl, rfl⟩ := e1'
  have hsm := same_any a1 a2 c1 c2 (rdL S osec) (rdL S osec) W2 hb1 hb2
  rw [decide_eq_true rfl] at hsm
  subst e2
  clear ho2 hp2 hm2 hb1 hb2 ho12 HO1 HXk
  generalize (rdL S osec).length = ln at *
  go_wp2_with fail
  refine hsm.mono ?_
  clear hsm
  rintro r W3 ⟨rfl, q, rfl⟩
  go_wp2
  go_ret
  exact ⟨rfl, _, H2, HP2.out.later (below_drewN W2 q), HM2.out.later (below_drewN W2 q)⟩
end Go.Proofs.Ythmonfmpgjbhmab.K

namespace Go.Proofs.Ythmonfmpgjbhmab.K
open Go.RowKit Go.Maps Go.Proofs.Ythmonfmpgjbhmab
attribute [local go_sem] Oper.semAt_some
set_option linter.unusedVariables false
set_option linter.unusedSimpArgs false
set_option maxRecDepth 100000

theorem infoBo : (Try.prog.info? 4).map (fun i => (i.zero, i.size, i.bytes)) = some (some (.bool false), 1, 1) := by kernel_rfl
theorem bo_own {w : World} {B n : Nat} {v : Value} {l : List Bool} (h : w.ownsRow B 4 1 v n (l.map Value.bool)) (hn : l.length = n) (hl : n ≤ 1048576) : ∃ ao cap, v = .slice ao n cap ∧ BoRow w ao cap l := by
  rcases h.2 with ⟨rfl, h0⟩ | ⟨g, cap, cur, rfl, _⟩
  · have : l = [] := List.length_eq_zero_iff.1 (by omega)
    subst this
    exact ⟨none, 0, by rw [h0], ⟨by simp, fun _ => ⟨rfl, rfl⟩, fun h => absurd rfl h⟩⟩
  · refine ⟨_, cap, rfl, ⟨by omega, (fun e => by cases e), fun _ => ⟨g, 0, rfl, fun k x hx => ?_⟩⟩⟩
    have hk := (List.getElem?_eq_some_iff.1 hx).1
    rw [Nat.zero_add, h.cellAt k (by omega), List.getElem?_map, hx]
    rfl
set_option maxHeartbeats 4000000 in
theorem acts_bar {W : World} {b p : Nat} {S : Dk} {N : Nat} {H : List Nat} (h : PP W b p S S N H) (hN : N < 1048576) (osec : Int) (ofill : Nat) (omore fk fsec fa ft : Int) (fl : Bool) (oao : Option Addr) (ocap : Nat) (okeep : List Bool) :
    Calls Try.prog 20 #[.pointer (some ⟨b, 0, none⟩), .pointer (some ⟨p, 0, none⟩), .agg #[.int .i64 3, .int .i64 osec, .int .u8 ofill, .int .i64 omore, .int .i64 fk, .int .i64 fsec, .int .i64 fa, .int .i64 ft, .bool fl, .slice oao okeep.length ocap]] W fun r W' => r = .returned (.bool true) ∧ ∃ S' H', PP W' b p S' S' (N + 1) H' ∧ Mv W W' H H' := by
  have hB0 : Below W.heap.size W (W.alloc (.cells #[.int .i64 3, .int .i64 osec, .int .u8 ofill, .int .i64 omore, .int .i64 fk, .int .i64 fsec, .int .i64 fa, .int .i64 ft, .bool fl, .slice oao okeep.length ocap] TOp)) := (Below.refl _ W).alloc (Nat.le_refl _) _
  obtain ⟨W0, hW0⟩ : ∃ W0, W0 = W.alloc (.cells #[.int .i64 3, .int .i64 osec, .int .u8 ofill, .int .i64 omore, .int .i64 fk, .int .i64 fsec, .int .i64 fa, .int .i64 ft, .bool fl, .slice oao okeep.length ocap] TOp) := ⟨_, rfl⟩
  rw [← hW0] at hB0
  have HP0 : Hid (PP W0 b p S S N H) := h.later hB0
  have hx0 : W0.heap[W.heap.size]? = some (.cells #[.int .i64 3, .int .i64 osec, .int .u8 ofill, .int .i64 omore, .int .i64 fk, .int .i64 fsec, .int .i64 fa, .int .i64 ft, .bool fl, .slice oao okeep.length ocap] TOp) := by rw [hW0]; exact heap_alloc_new W _
  have HXk : Hid (∀ W' F, Kp W0 W' F → (∀ i ∈ F, i ∈ H ∨ W0.heap.size ≤ i) → W'.heap[W.heap.size]? = some (.cells #[.int .i64 3, .int .i64 osec, .int .u8 ofill, .int .i64 omore, .int .i64 fk, .int .i64 fsec, .int .i64 fa, .int .i64 ft, .bool fl, .slice oao okeep.length ocap] TOp)) := fun W' F hk hs => by
    have hl := (Array.getElem?_eq_some_iff.1 hx0).1
    refine (hk.block _ hl (fun hm => ?_)).trans hx0
    rcases hs _ hm with h1 | h1
    · have := h.lt _ h1; omega
    · omega
  have HMv : Hid (∀ W' H', Mv W0 W' H H' → Mv W W' H H') := fun W' H' hm => ⟨(Kp.of_below hB0 _).trans hm.kp (fun i hi => .inl hi), fun i hi => (hm.sub i hi).imp id (fun h1 => Nat.le_trans hB0.size h1)⟩
  have HW0 : Hid (W0 = W.alloc (.cells #[.int .i64 3, .int .i64 osec, .int .u8 ofill, .int .i64 omore, .int .i64 fk, .int .i64 fsec, .int .i64 fa, .int .i64 ft, .bool fl, .slice oao okeep.length ocap] TOp)) := hW0
  have hq : S.q.length ≤ 1048576 := by have := h.qlen; omega
  have HQ : Hid (S.q.length ≤ 1048576) := hq
  clear h hx0 hB0 hW0 hq HXk
  go_enter Try.func20, Try.ntmps20
  go_wp2_with fail
  rw [← HW0.out]
  refine (HP0.out.barD HQ.out).mono ?_
  rintro r W1 ⟨rfl, H1, hp1, hm1⟩
  have HP1 : Hid (PP W1 b p (baS S) S N H1) := hp1
  have HM1 : Hid (Mv W0 W1 H H1) := hm1
  clear hp1 hm1
  go_wp2_with fail
  refine (HP1.out.barR (by omega)).mono ?_
  rintro r W2 ⟨rfl, H2, hp2, hm2⟩
  have HP2 : Hid (PP W2 b p (baS S) (baS S) (N + 1) H2) := hp2.more (by omega)
  have HM2 : Hid (Mv W W2 H H2) := HMv.out W2 H2 (HM1.out.trans hm2)
  clear hp2 hm2
  go_wp2
  go_ret
  exact ⟨by simp, _, H2, HP2.out, HM2.out⟩
set_option maxHeartbeats 4000000 in
theorem acts_fault {W : World} {b p : Nat} {S : Dk} {N : Nat} {H : List Nat} (h : PP W b p S S N H) (hN : N < 1048576) (osec : Int) (ofill : Nat) (omore fk fsec fa ft : Int) (fl : Bool) (oao : Option Addr) (ocap : Nat) (okeep : List Bool) (hfa : I64 fa) (hft : I64 ft) :
    Calls Try.prog 20 #[.pointer (some ⟨b, 0, none⟩), .pointer (some ⟨p, 0, none⟩), .agg #[.int .i64 4, .int .i64 osec, .int .u8 ofill, .int .i64 omore, .int .i64 fk, .int .i64 fsec, .int .i64 fa, .int .i64 ft, .bool fl, .slice oao okeep.length ocap]] W fun r W' => r = .returned (.bool true) ∧ ∃ S' H', PP W' b p S' S' (N + 1) H' ∧ Mv W W' H H' := by
  have hB0 : Below W.heap.size W (W.alloc (.cells #[.int .i64 4, .int .i64 osec, .int .u8 ofill, .int .i64 omore, .int .i64 fk, .int .i64 fsec, .int .i64 fa, .int .i64 ft, .bool fl, .slice oao okeep.length ocap] TOp)) := (Below.refl _ W).alloc (Nat.le_refl _) _
  obtain ⟨W0, hW0⟩ : ∃ W0, W0 = W.alloc (.cells #[.int .i64 4, .int .i64 osec, .int .u8 ofill, .int .i64 omore, .int .i64 fk, .int .i64 fsec, .int .i64 fa, .int .i64 ft, .bool fl, .slice oao okeep.length ocap] TOp) := ⟨_, rfl⟩
  rw [← hW0] at hB0
  have HP0 : Hid (PP W0 b p S S N H) := h.later hB0
  have hx0 : W0.heap[W.heap.size]? = some (.cells #[.int .i64 4, .int .i64 osec, .int .u8 ofill, .int .i64 omore, .int .i64 fk, .int .i64 fsec, .int .i64 fa, .int .i64 ft, .bool fl, .slice oao okeep.length ocap] TOp) := by rw [hW0]; exact heap_alloc_new W _
  have HXk : Hid (∀ W' F, Kp W0 W' F → (∀ i ∈ F, i ∈ H ∨ W0.heap.size ≤ i) → W'.heap[W.heap.size]? = some (.cells #[.int .i64 4, .int .i64 osec, .int .u8 ofill, .int .i64 omore, .int .i64 fk, .int .i64 fsec, .int .i64 fa, .int .i64 ft, .bool fl, .slice oao okeep.length ocap] TOp)) := fun W' F hk hs => by
    have hl := (Array.getElem?_eq_some_iff.1 hx0).1
    refine (hk.block _ hl (fun hm => ?_)).trans hx0
    rcases hs _ hm with h1 | h1
    · have := h.lt _ h1; omega
    · omega
  have HMv : Hid (∀ W' H', Mv W0 W' H H' → Mv W W' H H') := fun W' H' hm => ⟨(Kp.of_below hB0 _).trans hm.kp (fun i hi => .inl hi), fun i hi => (hm.sub i hi).imp id (fun h1 => Nat.le_trans hB0.size h1)⟩
  have HW0 : Hid (W0 = W.alloc (.cells #[.int .i64 4, .int .i64 osec, .int .u8 ofill, .int .i64 omore, .int .i64 fk, .int .i64 fsec, .int .i64 fa, .int .i64 ft, .bool fl, .slice oao okeep.length ocap] TOp)) := hW0
  have HA : Hid (I64 fa ∧ I64 ft) := ⟨hfa, hft⟩
  have HXc : Hid (∀ W', Mv W0 W' H H → True) := fun _ _ => trivial
  clear hfa hft
  have z4 : W0.cell? ⟨W.heap.size, 4, none⟩ = some (.int .i64 fk) := (cell_of hx0).trans rfl
  have z5 : W0.cell? ⟨W.heap.size, 5, none⟩ = some (.int .i64 fsec) := (cell_of hx0).trans rfl
  have z6 : W0.cell? ⟨W.heap.size, 6, none⟩ = some (.int .i64 fa) := (cell_of hx0).trans rfl
  have z7 : W0.cell? ⟨W.heap.size, 7, none⟩ = some (.int .i64 ft) := (cell_of hx0).trans rfl
  have z8 : W0.cell? ⟨W.heap.size, 8, none⟩ = some (.bool fl) := (cell_of hx0).trans rfl
  clear h hx0 hB0 hW0
  go_enter Try.func20, Try.ntmps20
  go_wp2_with fail
  rw [← HW0.out]
  have HZ : Hid (∀ W' F, Kp W0 W' F → (∀ i ∈ F, i ∈ H ∨ W0.heap.size ≤ i) → W'.cell? ⟨W.heap.size, 4, none⟩ = some (.int .i64 fk) ∧ W'.cell? ⟨W.heap.size, 5, none⟩ = some (.int .i64 fsec) ∧ W'.cell? ⟨W.heap.size, 6, none⟩ = some (.int .i64 fa) ∧ W'.cell? ⟨W.heap.size, 7, none⟩ = some (.int .i64 ft) ∧ W'.cell? ⟨W.heap.size, 8, none⟩ = some (.bool fl)) := fun W' F hk hs => by
    have h1 := HXk.out W' F hk hs
    exact ⟨(cell_of h1).trans rfl, (cell_of h1).trans rfl, (cell_of h1).trans rfl, (cell_of h1).trans rfl, (cell_of h1).trans rfl⟩
  have HPd : Hid (PP W0.drew b p S S N H) := HP0.out.later (below_drew W0)
  have HKd : Hid (Kp W0 W0.drew []) := Kp.of_below (below_drew W0) []
  have hfD := HPd.out.faultD ⟨fk, fsec, fa, ft, fl⟩ HA.out.1 HA.out.2
  go_region_held3 (fun w' => w'.cell? ⟨W.heap.size, 4, none⟩ = some (.int .i64 fk) ∧ w'.cell? ⟨W.heap.size, 5, none⟩ = some (.int .i64 fsec) ∧ w'.cell? ⟨W.heap.size, 6, none⟩ = some (.int .i64 fa) ∧ w'.cell? ⟨W.heap.size, 7, none⟩ = some (.int .i64 ft) ∧ w'.cell? ⟨W.heap.size, 8, none⟩ = some (.bool fl)) (first | exact ⟨z4, z5, z6, z7, z8⟩ | exact HZ.out _ [] HKd.out (by simp) | exact HZ.out _ H HK1.out (fun i hi => .inl hi) | exact HZ.out _ H HK2.out (fun i hi => .inl hi) | go_keep) (first | (go_at_call 10; refine hfD.mono ?_; rintro r W1 ⟨rfl, H1, hp1, hm1⟩; have HP1 : Hid (PP W1 b p (faS S ⟨fk, fsec, fa, ft, fl⟩) S N H1) := hp1; have HM1 : Hid (Mv W0.drew W1 H H1) := hm1; have HK1 : Hid (Kp W0 W1 H) := (Kp.of_below (below_drew W0) _).trans hm1.kp (fun i hi => .inl hi); have hfR := HP1.out.faultR ⟨fk, fsec, fa, ft, fl⟩ HA.out.1 HA.out.2; clear hp1 hm1 hfD) | (go_at_call 42; refine hfR.mono ?_; rintro r W2 ⟨rfl, H2, hp2, hm2⟩; have HP2 : Hid (PP W2 b p (faS S ⟨fk, fsec, fa, ft, fl⟩) (faS S ⟨fk, fsec, fa, ft, fl⟩) (N + 1) H2) := hp2.more (by omega); have HMd : Hid (Mv W0.drew W2 H H2) := HM1.out.trans hm2; have HK2 : Hid (Kp W0 W2 H) := (Kp.of_below (below_drew W0) _).trans HMd.out.kp (fun i hi => .inl hi); clear hp2 hm2 hfR))
  have HM2 : Hid (Mv W W2 H H2) := HMv.out W2 H2 ⟨HK2.out, HMd.out.sub⟩
  go_wp2
  go_ret
  exact ⟨by simp, _, H2, HP2.out, HM2.out⟩
set_option maxHeartbeats 4000000 in
theorem acts_crash {W : World} {b p : Nat} {S : Dk} {N : Nat} {H : List Nat} (h : PP W b p S S N H) (hN : N < 1048576) (osec : Int) (ofill : Nat) (omore fk fsec fa ft : Int) (fl : Bool) (oao : Option Addr) (ocap : Nat) (okeep : List Bool) (hr : BoRow W oao ocap okeep) (hap : ∀ ad, oao = some ad → okeep ≠ [] → ad.block ∉ H) :
    Calls Try.prog 20 #[.pointer (some ⟨b, 0, none⟩), .pointer (some ⟨p, 0, none⟩), .agg #[.int .i64 5, .int .i64 osec, .int .u8 ofill, .int .i64 omore, .int .i64 fk, .int .i64 fsec, .int .i64 fa, .int .i64 ft, .bool fl, .slice oao okeep.length ocap]] W fun r W' => r = .returned (.bool true) ∧ ∃ S' H', PP W' b p S' S' (N + 1) H' ∧ Mv W W' H H' := by
  have hB0 : Below W.heap.size W (W.alloc (.cells #[.int .i64 5, .int .i64 osec, .int .u8 ofill, .int .i64 omore, .int .i64 fk, .int .i64 fsec, .int .i64 fa, .int .i64 ft, .bool fl, .slice oao okeep.length ocap] TOp)) := (Below.refl _ W).alloc (Nat.le_refl _) _
  obtain ⟨W0, hW0⟩ : ∃ W0, W0 = W.alloc (.cells #[.int .i64 5, .int .i64 osec, .int .u8 ofill, .int .i64 omore, .int .i64 fk, .int .i64 fsec, .int .i64 fa, .int .i64 ft, .bool fl, .slice oao okeep.length ocap] TOp) := ⟨_, rfl⟩
  rw [← hW0] at hB0
  have HP0 : Hid (PP W0 b p S S N H) := h.later hB0
  have hx0 : W0.heap[W.heap.size]? = some (.cells #[.int .i64 5, .int .i64 osec, .int .u8 ofill, .int .i64 omore, .int .i64 fk, .int .i64 fsec, .int .i64 fa, .int .i64 ft, .bool fl, .slice oao okeep.length ocap] TOp) := by rw [hW0]; exact heap_alloc_new W _
  have HXk : Hid (∀ W' F, Kp W0 W' F → (∀ i ∈ F, i ∈ H ∨ W0.heap.size ≤ i) → W'.heap[W.heap.size]? = some (.cells #[.int .i64 5, .int .i64 osec, .int .u8 ofill, .int .i64 omore, .int .i64 fk, .int .i64 fsec, .int .i64 fa, .int .i64 ft, .bool fl, .slice oao okeep.length ocap] TOp)) := fun W' F hk hs => by
    have hl := (Array.getElem?_eq_some_iff.1 hx0).1
    refine (hk.block _ hl (fun hm => ?_)).trans hx0
    rcases hs _ hm with h1 | h1
    · have := h.lt _ h1; omega
    · omega
  have HMv : Hid (∀ W' H', Mv W0 W' H H' → Mv W W' H H') := fun W' H' hm => ⟨(Kp.of_below hB0 _).trans hm.kp (fun i hi => .inl hi), fun i hi => (hm.sub i hi).imp id (fun h1 => Nat.le_trans hB0.size h1)⟩
  have HW0 : Hid (W0 = W.alloc (.cells #[.int .i64 5, .int .i64 osec, .int .u8 ofill, .int .i64 omore, .int .i64 fk, .int .i64 fsec, .int .i64 fa, .int .i64 ft, .bool fl, .slice oao okeep.length ocap] TOp)) := hW0
  have hq : S.q.length ≤ 1048576 := by have := h.qlen; omega
  have HQ : Hid (S.q.length ≤ 1048576) := hq
  have HR : Hid (BoRow W0 oao ocap okeep) := hr.kept (Kp.of_below hB0 []) (by simp)
  have HAp : Hid (∀ ad, oao = some ad → okeep ≠ [] → ad.block ∉ H) := hap
  have HXl : Hid (∀ i ∈ H, i < W.heap.size) := h.lt
  have y9 : W0.cell? ⟨W.heap.size, 9, none⟩ = some (.slice oao okeep.length ocap) := (cell_of hx0).trans rfl
  clear h hx0 hB0 hW0 hq hr hap
  obtain ⟨i0, hi0, hz0, hz1, hz2⟩ := info_parts infoBo
  obtain ⟨kn, hkn⟩ : ∃ kn, kn = okeep.length := ⟨_, rfl⟩
  have HKn : Hid (okeep.length = kn) := hkn.symm
  have hkl : kn ≤ 1048576 := by rw [hkn]; exact HR.out.len
  rw [← hkn] at y9 HW0 HXk ⊢
  have HNil : Hid (oao = none → kn = 0 ∧ ocap = 0) := fun e => by have h1 := HR.out.nil e; rw [h1.1] at hkn; simp at hkn; exact ⟨hkn, h1.2⟩
  have HNw : Hid (∀ ad, oao = some ad → ∀ j u, (okeep.map Value.bool)[j]? = some u → W0.cell? (ad.add j) = some u) := fun ad e j u hu => by
    rw [List.getElem?_map] at hu
    obtain ⟨x, hx, rfl⟩ := Option.map_eq_some_iff.1 hu
    obtain ⟨bb, off, e2, hc⟩ := HR.out.at_ (by rintro rfl; simp at hx)
    rw [e] at e2
    cases e2
    rw [add_plain]
    exact hc j x hx
  clear hkn
  go_enter Try.func20, Try.ntmps20
  go_wp2_with (first | (at_builtin; rw [← HW0.out]; refine wpList_append_two W0 rfl _ _ 30 rfl W0.heap.size 4 i0 (.bool false) 1 Try.underlying30 hi0 hz0 hz1 hz2 rfl (.slice none 0 0) 0 [] rfl (World.ownsRow_nil _ _ _ _) oao kn ocap (okeep.map Value.bool) rfl HNil.out (by rw [List.length_map]; exact HKn.out) HNw.out (fun u hu => by obtain ⟨x, _, rfl⟩ := List.mem_map.1 hu; rfl) (by unfold maxLen; omega) (by omega) (Nat.le_refl _) ?_))
  intro v1 W1 ho1 hg1 _
  have hB1 : Below W0.heap.size W0 W1 := (Below.refl _ _).grown hg1 (Nat.le_refl _) (by simp [Value.ownBlock])
  obtain ⟨a1, c1, e1, hr1⟩ := bo_own ho1 HKn.out hkl
  subst e1
  have HB1 : Hid (Below W0.heap.size W0 W1) := hB1
  have HR1 : Hid (BoRow W1 a1 c1 okeep) := hr1
  have HA1 : Hid (∀ ad, a1 = some ad → okeep ≠ [] → W0.heap.size ≤ ad.block ∧ ad.block < W1.heap.size) := fun ad e hne => by
    obtain ⟨bb, off, e2, hc⟩ := hr1.at_ hne
    rw [e] at e2
    cases e2
    rcases ho1.2 with ⟨e3, h0⟩ | ⟨g, cap', cur, e3, hb, hg, _⟩
    · simp at e3; rw [e] at e3; exact absurd e3.1 (by simp)
    · simp at e3
      rw [e] at e3
      simp at e3
      rw [e3.1.1]
      exact ⟨hb, (Array.getElem?_eq_some_iff.1 hg).1⟩
  have HA0 : Hid (∀ ad, oao = some ad → okeep ≠ [] → ad.block < W0.heap.size) := fun ad e hne => by
    obtain ⟨bb, off, e2, hc⟩ := HR.out.at_ hne
    rw [e] at e2
    cases e2
    cases okeep with
    | nil => exact absurd rfl hne
    | cons x r => exact cell_lt (hc 0 x rfl)
  have HXl0 : Hid (W.heap.size ≤ W0.heap.size) := by show _ ≤ _; rw [HW0.out, World.size_alloc]; omega
  have hcD := (HP0.out.later hB1).crashD HQ.out hr1 HKn.out (fun ad e hne hm => by have h1 := (HA1.out ad e hne).1; have h2 := HXl.out _ hm; have h3 := HXl0.out; omega)
  clear ho1 hg1 hB1 hr1 HNil HNw
  go_wp2_with fail
  refine hcD.mono ?_
  clear hcD
  rintro r W2 ⟨rfl, H2, hp2, hm2⟩
  have HP2 : Hid (PP W2 b p (crashed okeep S) S N H2) := hp2
  have HM2 : Hid (Mv W1 W2 H H2) := hm2
  have HK02 : Hid (Kp W0 W2 H) := (Kp.of_below HB1.out _).trans hm2.kp (fun i hi => .inl hi)
  have y92 : W2.cell? ⟨W.heap.size, 9, none⟩ = some (.slice oao kn ocap) := (cell_of (HXk.out W2 H HK02.out (fun i hi => .inl hi))).trans rfl
  have HR2 : Hid (BoRow W2 oao ocap okeep) := HR.out.kept HK02.out HAp.out
  have hcR := HP2.out.crashR (by omega) HR2.out HKn.out (fun ad e hne hm => by
    rcases hm2.sub _ hm with h1 | h1
    · exact HAp.out ad e hne h1
    · have h2 := HA0.out ad e hne
      have h3 := HB1.out.size
      omega)
  have HR12 : Hid (BoRow W2 a1 c1 okeep) := HR1.out.kept hm2.kp (fun ad e hne hm => by have h1 := (HA1.out ad e hne).1; have h2 := HXl.out _ hm; have h3 := HXl0.out; omega)
  clear hp2 hm2
  go_wp2_with fail
  refine hcR.mono ?_
  clear hcR
  rintro r W3 ⟨rfl, H3, hp3, hm3⟩
  have HP3 : Hid (PP W3 b p (crashed okeep S) (crashed okeep S) (N + 1) H3) := hp3.more (by omega)
  have HM13 : Hid (Mv W1 W3 H H3) := HM2.out.trans hm3
  have HM3 : Hid (Mv W W3 H H3) := HMv.out W3 H3 ⟨(Kp.of_below HB1.out _).trans HM13.out.kp (fun i hi => .inl hi), fun i hi => (HM13.out.sub i hi).imp id (fun h1 => Nat.le_trans HB1.out.size h1)⟩
  have HK03 : Hid (Kp W0 W3 H) := (Kp.of_below HB1.out _).trans HM13.out.kp (fun i hi => .inl hi)
  have y93 : W3.cell? ⟨W.heap.size, 9, none⟩ = some (.slice oao kn ocap) := (cell_of (HXk.out W3 H HK03.out (fun i hi => .inl hi))).trans rfl
  have HR3 : Hid (BoRow W3 oao ocap okeep) := HR.out.kept HK03.out HAp.out
  have HR13 : Hid (BoRow W3 a1 c1 okeep) := HR1.out.kept HM13.out.kp (fun ad e hne hm => by have h1 := (HA1.out ad e hne).1; have h2 := HXl.out _ hm; have h3 := HXl0.out; omega)
  have hke := kept_yes HR13.out HR3.out HKn.out
  clear hp3 hm3
  go_wp2_with fail
  refine hke.mono ?_
  clear hke
  rintro r W4 ⟨rfl, hb4⟩
  have HF : Hid (PP W4 b p (crashed okeep S) (crashed okeep S) (N + 1) H3 ∧ Mv W W4 H H3) := ⟨HP3.out.later hb4, HM3.out.later hb4⟩
  clear hb4
  go_wp2
  go_ret
  exact ⟨rfl, _, H3, HF.out⟩
end Go.Proofs.Ythmonfmpgjbhmab.K

namespace Go.Proofs.Ythmonfmpgjbhmab.K
open Go.RowKit Go.Maps Go.Proofs.Ythmonfmpgjbhmab
attribute [local go_sem] Oper.semAt_some
set_option linter.unusedVariables false
set_option linter.unusedSimpArgs false
set_option maxRecDepth 100000

theorem news_two (W : World) (v u : Value) : ∀ j x, [v, u][j]? = some x → (W.alloc (.cells #[v, u] 5)).cell? ((⟨W.heap.size, 0, none⟩ : Addr).add j) = some x := by
  intro j x hx
  rw [add_plain, Nat.zero_add, cell_of (heap_alloc_new W _)]
  simpa using hx
/-- the bytes with two marks behind them -/
structure Full (W w' : World) (g c m : Nat) (l : List Nat) : Prop where
  new : W.heap.size ≤ g
  blk : ∃ cur, w'.heap[g]? = some (.cells cur 5) ∧ ∀ (j x : Nat), (l ++ [90, 91])[j]? = some x → cur[j]? = some (bv x)
  cp : m + 2 ≤ c
theorem Full.brow {W w' : World} {g c m : Nat} {l : List Nat} (h : Full W w' g c m l) (hlt : ∀ x ∈ l, x < 256) (hlen : l.length ≤ 140737488351232) : BRow w' (some ⟨g, 0, none⟩) c l := by
  obtain ⟨cur, hb, hc⟩ := h.blk
  refine ⟨hlt, hlen, (fun e => by cases e), fun _ => ⟨g, 0, rfl, fun k hk => ?_⟩⟩
  rw [Nat.zero_add, cell_of hb]
  exact hc k _ (by rw [List.getElem?_append_left hk, List.getElem?_eq_getElem hk])
theorem Full.marks {W w' : World} {g c m : Nat} {l : List Nat} (h : Full W w' g c m l) (hm : l.length = m) : w'.cell? ⟨g, m, none⟩ = some (.int .u8 90) ∧ w'.cell? ⟨g, m + 1, none⟩ = some (.int .u8 91) := by
  obtain ⟨cur, hb, hc⟩ := h.blk
  subst hm
  exact ⟨(cell_of hb).trans (hc _ 90 (by simp)), (cell_of hb).trans (hc _ 91 (by simp))⟩
theorem full_of {W w' : World} {v : Value} {m : Nat} {l : List Nat} (hm : l.length = m) (ho : w'.ownsRow W.heap.size 5 1 v (m + 2) (l.map bv ++ [.int .u8 90, .int .u8 91])) : ∃ g c, v = .slice (some ⟨g, 0, none⟩) (m + 2) c ∧ Full W w' g c m l := by
  have e : l.map bv ++ [.int .u8 90, .int .u8 91] = (l ++ [90, 91]).map bv := by simp [bv]
  rw [e] at ho
  obtain ⟨g, c, cur, hv, hg, hk, hc⟩ := own_form ho (by omega)
  refine ⟨g, c, hv, hg, ⟨cur, hk, hc⟩, ?_⟩
  rcases ho.2 with ⟨_, h0'⟩ | ⟨g', cap', cur', hv', _, _, h3⟩
  · omega
  · rw [hv] at hv'; cases hv'; exact h3.1

set_option maxHeartbeats 4000000 in
theorem acts_write {W : World} {b p : Nat} {S : Dk} {N : Nat} {H : List Nat} (h : PP W b p S S N H) (hN : N < 1048576) (osec : Int) (ofill : Nat) (omore fk fsec fa ft : Int) (fl : Bool) (oao : Option Addr) (ocap : Nat) (okeep : List Bool) (hfill : ofill < 256) :
    Calls Try.prog 20 #[.pointer (some ⟨b, 0, none⟩), .pointer (some ⟨p, 0, none⟩), .agg #[.int .i64 2, .int .i64 osec, .int .u8 ofill, .int .i64 omore, .int .i64 fk, .int .i64 fsec, .int .i64 fa, .int .i64 ft, .bool fl, .slice oao okeep.length ocap]] W fun r W' => r = .returned (.bool true) ∧ ∃ S' H', PP W' b p S' S' (N + 1) H' ∧ Mv W W' H H' := by
  have hB0 : Below W.heap.size W (W.alloc (.cells #[.int .i64 2, .int .i64 osec, .int .u8 ofill, .int .i64 omore, .int .i64 fk, .int .i64 fsec, .int .i64 fa, .int .i64 ft, .bool fl, .slice oao okeep.length ocap] TOp)) := (Below.refl _ W).alloc (Nat.le_refl _) _
  obtain ⟨W0, hW0⟩ : ∃ W0, W0 = W.alloc (.cells #[.int .i64 2, .int .i64 osec, .int .u8 ofill, .int .i64 omore, .int .i64 fk, .int .i64 fsec, .int .i64 fa, .int .i64 ft, .bool fl, .slice oao okeep.length ocap] TOp) := ⟨_, rfl⟩
  rw [← hW0] at hB0
  have HP0 : Hid (PP W0 b p S S N H) := h.later hB0
  have hx0 : W0.heap[W.heap.size]? = some (.cells #[.int .i64 2, .int .i64 osec, .int .u8 ofill, .int .i64 omore, .int .i64 fk, .int .i64 fsec, .int .i64 fa, .int .i64 ft, .bool fl, .slice oao okeep.length ocap] TOp) := by rw [hW0]; exact heap_alloc_new W _
  have HXk : Hid (∀ W' F, Kp W0 W' F → (∀ i ∈ F, i ∈ H ∨ W0.heap.size ≤ i) → W'.heap[W.heap.size]? = some (.cells #[.int .i64 2, .int .i64 osec, .int .u8 ofill, .int .i64 omore, .int .i64 fk, .int .i64 fsec, .int .i64 fa, .int .i64 ft, .bool fl, .slice oao okeep.length ocap] TOp)) := fun W' F hk hs => by
    have hl := (Array.getElem?_eq_some_iff.1 hx0).1
    refine (hk.block _ hl (fun hm => ?_)).trans hx0
    rcases hs _ hm with h1 | h1
    · have := h.lt _ h1; omega
    · omega
  have HMv : Hid (∀ W' H', Mv W0 W' H H' → Mv W W' H H') := fun W' H' hm => ⟨(Kp.of_below hB0 _).trans hm.kp (fun i hi => .inl hi), fun i hi => (hm.sub i hi).imp id (fun h1 => Nat.le_trans hB0.size h1)⟩
  have HW0 : Hid (W0 = W.alloc (.cells #[.int .i64 2, .int .i64 osec, .int .u8 ofill, .int .i64 omore, .int .i64 fk, .int .i64 fsec, .int .i64 fa, .int .i64 ft, .bool fl, .slice oao okeep.length ocap] TOp)) := hW0
  have hq : S.q.length < 1048576 := by have := h.qlen; omega
  have HQ : Hid (S.q.length < 1048576 ∧ ofill < 256) := ⟨hq, hfill⟩
  have HXl : Hid (∀ i ∈ H, i < W.heap.size) := h.lt
  have HXl0 : Hid (W.heap.size ≤ W0.heap.size) := hB0.size
  have hbl0 : 0 < blen omore ∧ blen omore ≤ 1023 := by unfold blen; split <;> omega
  obtain ⟨m, hm⟩ : ∃ m, m = blen omore := ⟨_, rfl⟩
  have HMm : Hid (m = blen omore) := hm
  obtain ⟨bl, hbl⟩ : ∃ bl, bl = bytesL ofill m := ⟨_, rfl⟩
  have HBL : Hid (bl.length = m ∧ ∀ x ∈ bl, x < 256) := by rw [hbl]; exact ⟨bytesL_len _ _, bytesL_lt _ _⟩
  have hm0 : 0 < m := by rw [hm]; exact hbl0.1
  have hm1 : m ≤ 1023 := by rw [hm]; exact hbl0.2
  have hby := fun X : World => bytes_any X ofill omore hfill
  rw [← hm, ← hbl] at hby
  have HBy : Hid (∀ X : World, Calls Try.prog 9 #[.int .u8 ofill, .int .i64 omore] X fun r w' => ∃ v, r = .returned v ∧ w'.ownsRow X.heap.size 5 1 v m (bl.map bv) ∧ Below X.heap.size X w') := hby
  have y2 : W0.cell? ⟨W.heap.size, 2, none⟩ = some (.int .u8 ofill) := (cell_of hx0).trans rfl
  have y3 : W0.cell? ⟨W.heap.size, 3, none⟩ = some (.int .i64 omore) := (cell_of hx0).trans rfl
  clear h hx0 hB0 hW0 hq hm hbl hbl0 hby hfill
  go_enter Try.func20, Try.ntmps20
  go_wp2_with fail
  rw [← HW0.out]
  refine (HBy.out W0).mono ?_
  rintro r W1 ⟨v1, rfl, ho1, hb1⟩
  have HB1 : Hid (Below W0.heap.size W0 W1) := hb1
  obtain ⟨g1, c1, cur1, e1, hg1, hk1, hc1⟩ := own_form ho1 hm0
  subst e1
  have HO1 : Hid (W1.ownsRow W0.heap.size 5 1 (.slice (some ⟨g1, 0, none⟩) m c1) m (bl.map bv) ∧ W0.heap.size ≤ g1) := ⟨ho1, hg1⟩
  have h1x := HXk.out W1 [] (Kp.of_below hb1 _) (by simp)
  have y21 : W1.cell? ⟨W.heap.size, 2, none⟩ = some (.int .u8 ofill) := (cell_of h1x).trans rfl
  have y31 : W1.cell? ⟨W.heap.size, 3, none⟩ = some (.int .i64 omore) := (cell_of h1x).trans rfl
  clear ho1 hb1 hg1 hk1 hc1 h1x
  obtain ⟨i0, hi0, hz0, hz1, hz2⟩ := info_parts info5x
  go_wp2_with fail
  refine (HBy.out W1).mono ?_
  rintro r W2 ⟨v2, rfl, ho2, hb2⟩
  have HB2 : Hid (Below W1.heap.size W1 W2) := hb2
  have HO2 : Hid (W2.ownsRow W1.heap.size 5 1 v2 m (bl.map bv)) := ho2
  obtain ⟨g2, c2, cur2, e2, hg2, _, _⟩ := own_form ho2 hm0
  subst e2
  have HG2 : Hid (W1.heap.size ≤ g2) := hg2
  clear ho2 hb2 hg2
  go_wp2_with (first | (at_builtin; refine wpList_append_own _ rfl _ _ TBs rfl W1.heap.size 5 i0 (.int .u8 0) 1 1 Try.underlying34 hi0 hz0 hz1 hz2 rfl (by decide) (.slice (some ⟨g2, 0, none⟩) m c2) m (bl.map bv) rfl (HO2.out.alloc _) ⟨W2.heap.size, 0, none⟩ 2 2 [.int .u8 90, .int .u8 91] rfl rfl (news_two W2 _ _) (fun u hu => by simp at hu; rcases hu with rfl | rfl <;> rfl) (by unfold maxLen; omega) (by omega) (by rw [World.size_alloc]; have := HB2.out.size; omega) ?_))
  intro v3 W3 ho3 hgr3 _
  obtain ⟨g3, c3, e3, hfull⟩ := full_of (W := W1) HBL.out.1 ho3
  subst e3
  have hB3 : Below W1.heap.size W1 W3 := (HB2.out.alloc (by have := HB2.out.size; omega) _).grown hgr3 (by rw [World.size_alloc]; have := HB2.out.size; omega) (fun k e => by simp [Value.ownBlock] at e; have := HG2.out; omega)
  have HB3 : Hid (Below W1.heap.size W1 W3) := hB3
  have hB03 : Below W0.heap.size W0 W3 := HB1.out.trans (hB3.mono HB1.out.size)
  have HB03 : Hid (Below W0.heap.size W0 W3) := hB03
  have HFu : Hid (Full W1 W3 g3 c3 m bl) := hfull
  have HP3 : Hid (PP W3 b p S S N H) := HP0.out.later hB03
  have hcp := hfull.cp
  have HG3 : Hid (W1.heap.size ≤ g3 ∧ g3 < W3.heap.size ∧ W0.heap.size ≤ g3) := by
    obtain ⟨cur, hcu, _⟩ := hfull.blk
    have h1 := hfull.new
    have h2 := HB1.out.size
    exact ⟨h1, (Array.getElem?_eq_some_iff.1 hcu).1, by omega⟩
  have HOut3 : Hid (g3 ∉ H) := fun hm => by have h1 := HXl.out _ hm; have h2 := HXl0.out; have h3 := HG3.out.2.2; omega
  have HOut1 : Hid (g1 ∉ H ∧ g1 < W1.heap.size) := ⟨fun hm => by have h1 := HXl.out _ hm; have h2 := HXl0.out; have h3 := HO1.out.2; omega, (row_lt HO1.out.1 g1 rfl).1⟩
  have y13 : W3.cell? ⟨W.heap.size, 1, none⟩ = some (.int .i64 osec) := (cell_of (HXk.out W3 [] (Kp.of_below hB03 _) (by simp))).trans rfl
  have hwD := (HP3.out.later (below_drew W3)).writeD HQ.out.1 osec (l := bl) HBL.out.2 HBL.out.1 (by omega) (sb := g3) (so := 0) (cap := c3) (fun j v hv => by
    obtain ⟨cur, hcu, hcc⟩ := HFu.out.blk
    rw [List.getElem?_map] at hv
    obtain ⟨x, hx, rfl⟩ := Option.map_eq_some_iff.1 hv
    rw [Nat.zero_add]
    show W3.cell? _ = _
    rw [cell_of hcu]
    exact hcc j x (by rw [List.getElem?_append_left (List.getElem?_eq_some_iff.1 hx).1]; exact hx)) HOut3.out
  have k1 : (m : Int) ≤ (c3 : Int) := by omega
  have k2 : ¬ (c3 = 0) := by omega
  have HWD : Hid (Calls Try.prog 8 #[.pointer (some ⟨b, 0, none⟩), .int .i64 osec, .slice (some ⟨g3, 0, none⟩) m c3] W3.drew fun r W' => r = .returned (.int .i64 (wrE S osec bl)) ∧ ∃ H', PP W' b p (wrS S osec bl) S N H' ∧ Mv W3.drew W' H H') := hwD
  clear ho3 hgr3 hfull hB3 hB03 y2 y3 y21 y31 hwD
  go_wp2
  go_region_held3 (fun w' => w'.cell? ⟨W.heap.size, 1, none⟩ = some (.int .i64 osec)) (first | exact y13 | exact y14 | go_keep) (first | (go_at_call 8; refine HWD.out.mono ?_; rintro r W4 ⟨rfl, H4, hp4, hmd4⟩; have HP4 : Hid (PP W4 b p (wrS S osec bl) S N H4) := hp4; have hm4 : Mv W3 W4 H H4 := ⟨(Kp.of_below (below_drew W3) _).trans hmd4.kp (fun i hi => .inl hi), hmd4.sub⟩; have HM4 : Hid (Mv W3 W4 H H4) := hm4; have HK04 : Hid (Kp W0 W4 H) := (Kp.of_below HB03.out _).trans hm4.kp (fun i hi => .inl hi); have y14 : W4.cell? ⟨W.heap.size, 1, none⟩ = some (.int .i64 osec) := (cell_of (HXk.out W4 H HK04.out (fun i hi => .inl hi))).trans rfl; clear hp4 hmd4 hm4))
  have hm4 := HM4.out
  have ho14 : W4.ownsRow W0.heap.size 5 1 (.slice (some ⟨g1, 0, none⟩) m c1) m (bl.map bv) := ownsRow_block HO1.out.1 (fun g e => by
    simp [Value.ownBlock] at e
    subst e
    exact (hm4.kp.block g1 (Nat.lt_of_lt_of_le HOut1.out.2 HB3.out.size) HOut1.out.1).trans (HB3.out.block g1 HOut1.out.2))
  have HO14 : Hid (W4.ownsRow W0.heap.size 5 1 (.slice (some ⟨g1, 0, none⟩) m c1) m (bl.map bv)) := ho14
  have hbr4 : BRow W4 (some ⟨g1, 0, none⟩) c1 bl := by
    obtain ⟨ao, cc, e, hb⟩ := own_brow ho14 HBL.out.1 HBL.out.2 (by omega)
    simp at e
    obtain ⟨rfl, rfl⟩ := e
    exact hb
  have hwR := HP4.out.writeR hN osec HBL.out.1 hbr4 (fun hm => by
    rcases hm4.sub _ hm with h1 | h1
    · exact HOut1.out.1 h1
    · have h2 := HOut1.out.2
      have h3 := HB3.out.size
      have h4 : W3.heap.size ≤ g1 := h1
      omega)
  clear hm4 ho14 hbr4 y13
  go_wp2_with fail
  refine hwR.mono ?_
  clear hwR
  rintro r W5 ⟨rfl, H5, hp5, hm5⟩
  have HP5 : Hid (PP W5 b p (wrS S osec bl) (wrS S osec bl) (N + 1) H5) := hp5
  have HM35 : Hid (Mv W3 W5 H H5) := HM4.out.trans hm5
  have HM5 : Hid (Mv W W5 H H5) := HMv.out W5 H5 ⟨(Kp.of_below HB03.out _).trans HM35.out.kp (fun i hi => .inl hi), fun i hi => (HM35.out.sub i hi).imp id (fun h1 => Nat.le_trans HB03.out.size h1)⟩
  have HO5 : Hid (g3 ∉ H5) := fun hm => by
    rcases HM35.out.sub _ hm with h1 | h1
    · exact HOut3.out h1
    · have := HG3.out.2.1; omega
  have hF5 : Full W1 W5 g3 c3 m bl := by
    obtain ⟨cur, hcu, hcc⟩ := HFu.out.blk
    exact ⟨HFu.out.new, ⟨cur, (HM35.out.kp.block g3 HG3.out.2.1 HOut3.out).trans hcu, hcc⟩, HFu.out.cp⟩
  have HF5 : Hid (Full W1 W5 g3 c3 m bl) := hF5
  have hbr1 : BRow W5 (some ⟨g1, 0, none⟩) c1 bl := by
    have h1 := ownsRow_block HO14.out (w' := W5) (fun g e => by
      simp [Value.ownBlock] at e
      subst e
      refine hm5.kp.block g1 (row_lt HO14.out g1 rfl).1 (fun hm => ?_)
      rcases HM4.out.sub _ hm with h1 | h1
      · exact HOut1.out.1 h1
      · have h2 := HOut1.out.2
        have h3 := HB3.out.size
        omega)
    obtain ⟨ao, cc, e, hb⟩ := own_brow h1 HBL.out.1 HBL.out.2 (by omega)
    simp at e
    obtain ⟨rfl, rfl⟩ := e
    exact hb
  have hsm := same_any _ _ _ _ bl bl W5 (hF5.brow HBL.out.2 (by rw [HBL.out.1]; omega)) hbr1
  rw [HBL.out.1, decide_eq_true rfl] at hsm
  clear hp5 hm5 hF5 hbr1 y14
  go_wp2_with fail
  refine hsm.mono ?_
  clear hsm
  rintro r W6 ⟨rfl, q6, rfl⟩
  obtain ⟨f90, f91⟩ := HF5.out.marks HBL.out.1
  have k3 : (m : Int) < ((m + 2 : Nat) : Int) := by omega
  have k4 : (m : Int) + 1 < ((m + 2 : Nat) : Int) := by omega
  have k5 : IntKind.i64.wrap ((m : Int) + 1) = (m : Int) + 1 := wrap_id (by omega) (by omega)
  have k6 : ((m : Int) + 1).toNat = m + 1 := by omega
  have k7 : (0 : Int) ≤ (m : Int) + 1 := by omega
  have k8 : (m : Int) + 1 < (m : Int) + 2 := by omega
  go_wp2
  have HS0 : Hid (PP (W5.drewN q6) b p (wrS S osec bl) (wrS S osec bl) (N + 1) H5 ∧ Mv W (W5.drewN q6) H H5 ∧ ∃ cur, (W5.drewN q6).heap[g3]? = some (.cells cur 5 (0, 0)) ∧ m + 2 ≤ cur.size) := by
    obtain ⟨cur, hcu, hcc⟩ := HF5.out.blk
    refine ⟨HP5.out.later (below_drewN W5 q6), HM5.out.later (below_drewN W5 q6), cur, hcu, ?_⟩
    have h1 := hcc (m + 1) 91 (by rw [List.getElem?_append_right (by rw [HBL.out.1]; omega), HBL.out.1]; simp)
    have := (Array.getElem?_eq_some_iff.1 h1).1
    omega
  go_loopw [17] (fun c17 wr => ∃ i : Nat, i ≤ m + 2 ∧ c17 = .int .i64 i ∧ Hid (PP wr b p (wrS S osec bl) (wrS S osec bl) (N + 1) H5 ∧ Mv W wr H H5 ∧ ∃ cur, wr.heap[g3]? = some (.cells cur 5 (0, 0)) ∧ m + 2 ≤ cur.size)) (fun c17 _ => m + 2 - (intOf c17).toNat)
  case atStart => exact ⟨0, Nat.zero_le _, rfl, HS0⟩
  case round =>
    obtain ⟨i, hi, rfl, HS⟩ := hrel
    by_cases hlt : i < m + 2
    · obtain ⟨s1, s2, cur, hcu, hsz⟩ := HS.out
      have hil : (i : Int) < ((m + 2 : Nat) : Int) := by omega
      have hil2 : (i : Int) < (m : Int) + 2 := by omega
      obtain ⟨old, hold⟩ : ∃ old, wr.cell? ⟨g3, i, none⟩ = some old := ⟨_, (cell_of hcu).trans (Array.getElem?_eq_getElem (by omega))⟩
      have hfz : wr.frozen? ⟨g3, i, none⟩ = false := frozen_of hcu
      have HNx : Hid (PP (wr.setCell ⟨g3, i, none⟩ (.int .u8 99)) b p (wrS S osec bl) (wrS S osec bl) (N + 1) H5 ∧ Mv W (wr.setCell ⟨g3, i, none⟩ (.int .u8 99)) H H5 ∧ ∃ cur, (wr.setCell ⟨g3, i, none⟩ (.int .u8 99)).heap[g3]? = some (.cells cur 5 (0, 0)) ∧ m + 2 ≤ cur.size) := by
        refine ⟨s1.kept ((Kp.refl wr [g3]).set (.inl (by simp)) i _) (fun x hx hm => ?_), ⟨s2.kp.set (.inr ?_) i _, s2.sub⟩, _, blk_set hcu i _, by simpa using hsz⟩
        · simp at hm; subst hm; exact HO5.out hx
        · have h1 := HG3.out.2.2
          have h2 := HXl0.out
          omega
      clear s1 s2 hcu
      go_wp2
      go_roundw
      case rel => exact ⟨i + 1, by omega, by go_num, HNx⟩
      case measure => simp [intOf]; omega
    · have hil : ¬ (i : Int) < ((m + 2 : Nat) : Int) := by omega
      have hil2 : ¬ (i : Int) < (m : Int) + 2 := by omega
      go_wp2
      go_ret
      exact ⟨by simp, _, H5, HS.out.1, HS.out.2.1⟩
end Go.Proofs.Ythmonfmpgjbhmab.K

namespace Go.Proofs.Ythmonfmpgjbhmab.K
open Go.RowKit Go.Maps Go.Proofs.Ythmonfmpgjbhmab
attribute [local go_sem] Oper.semAt_some
set_option linter.unusedVariables false
set_option linter.unusedSimpArgs false
set_option maxRecDepth 100000

set_option maxHeartbeats 4000000 in
theorem asks_waits {W : World} {b p : Nat} {S : Dk} {N : Nat} {H : List Nat} (h : PP W b p S S N H) (hN : N < 1048576) (osec : Int) (ofill : Nat) (omore fk fsec fa ft : Int) (fl : Bool) (oao : Option Addr) (ocap : Nat) (okeep : List Bool) (hwf : (Lit.int .i64 osec).wf = true) :
    Calls Try.prog 45 #[.pointer (some ⟨b, 0, none⟩), .pointer (some ⟨p, 0, none⟩), .agg #[.int .i64 8, .int .i64 osec, .int .u8 ofill, .int .i64 omore, .int .i64 fk, .int .i64 fsec, .int .i64 fa, .int .i64 ft, .bool fl, .slice oao okeep.length ocap]] W fun r W' => r = .returned (.bool true) ∧ ∃ S' H', PP W' b p S' S' (N + 1) H' ∧ Mv W W' H H' := by
  have hB0 : Below W.heap.size W (W.alloc (.cells #[.int .i64 8, .int .i64 osec, .int .u8 ofill, .int .i64 omore, .int .i64 fk, .int .i64 fsec, .int .i64 fa, .int .i64 ft, .bool fl, .slice oao okeep.length ocap] TOp)) := (Below.refl _ W).alloc (Nat.le_refl _) _
  obtain ⟨W0, hW0⟩ : ∃ W0, W0 = W.alloc (.cells #[.int .i64 8, .int .i64 osec, .int .u8 ofill, .int .i64 omore, .int .i64 fk, .int .i64 fsec, .int .i64 fa, .int .i64 ft, .bool fl, .slice oao okeep.length ocap] TOp) := ⟨_, rfl⟩
  rw [← hW0] at hB0
  have HP0 : Hid (PP W0 b p S S N H) := h.later hB0
  have hx0 : W0.heap[W.heap.size]? = some (.cells #[.int .i64 8, .int .i64 osec, .int .u8 ofill, .int .i64 omore, .int .i64 fk, .int .i64 fsec, .int .i64 fa, .int .i64 ft, .bool fl, .slice oao okeep.length ocap] TOp) := by rw [hW0]; exact heap_alloc_new W _
  have HXk : Hid (∀ W' F, Kp W0 W' F → (∀ i ∈ F, i ∈ H ∨ W0.heap.size ≤ i) → W'.heap[W.heap.size]? = some (.cells #[.int .i64 8, .int .i64 osec, .int .u8 ofill, .int .i64 omore, .int .i64 fk, .int .i64 fsec, .int .i64 fa, .int .i64 ft, .bool fl, .slice oao okeep.length ocap] TOp)) := fun W' F hk hs => by
    have hl := (Array.getElem?_eq_some_iff.1 hx0).1
    refine (hk.block _ hl (fun hm => ?_)).trans hx0
    rcases hs _ hm with h1 | h1
    · have := h.lt _ h1; omega
    · omega
  have HMv : Hid (∀ W' H', Mv W0 W' H H' → Mv W W' H H') := fun W' H' hm => ⟨(Kp.of_below hB0 _).trans hm.kp (fun i hi => .inl hi), fun i hi => (hm.sub i hi).imp id (fun h1 => Nat.le_trans hB0.size h1)⟩
  have HW0 : Hid (W0 = W.alloc (.cells #[.int .i64 8, .int .i64 osec, .int .u8 ofill, .int .i64 omore, .int .i64 fk, .int .i64 fsec, .int .i64 fa, .int .i64 ft, .bool fl, .slice oao okeep.length ocap] TOp)) := hW0
  have y1 : W0.cell? ⟨W.heap.size, 1, none⟩ = some (.int .i64 osec) := (cell_of hx0).trans rfl
  have HWf : Hid ((Lit.int .i64 osec).wf = true) := hwf
  clear h hx0 hB0 hW0 hwf
  go_enter Try.func45, Try.ntmps45
  go_wp2_with fail
  rw [← HW0.out]
  have HZ : Hid (∀ W' F, Kp W0 W' F → (∀ i ∈ F, i ∈ H ∨ W0.heap.size ≤ i) → W'.cell? ⟨W.heap.size, 1, none⟩ = some (.int .i64 osec)) := fun W' F hk hs => (cell_of (HXk.out W' F hk hs)).trans rfl
  have HPd : Hid (PP W0.drew b p S S N H) := HP0.out.later (below_drew W0)
  have HKd : Hid (Kp W0 W0.drew []) := Kp.of_below (below_drew W0) []
  have hwD := HPd.out.waitsD HWf.out
  go_region_held3 (fun w' => w'.cell? ⟨W.heap.size, 1, none⟩ = some (.int .i64 osec)) (first | exact y1 | exact HZ.out _ [] HKd.out (by simp) | exact HZ.out _ H HK1.out (fun i hi => .inl hi) | exact HZ.out _ H HK2.out (fun i hi => .inl hi) | go_keep) (first | (go_at_call 23; refine hwD.mono ?_; rintro r W1 ⟨rfl, hp1, hk1⟩; have HP1 : Hid (PP W1 b p S S N H) := hp1; have HK1 : Hid (Kp W0 W1 H) := (Kp.of_below (below_drew W0) _).trans hk1 (fun i hi => .inl hi); have hwR := HP1.out.waitsR (by omega) osec; clear hp1 hk1 hwD) | (go_at_call 62; refine hwR.mono ?_; rintro r W2 ⟨rfl, hb2⟩; have HP2 : Hid (PP W2 b p S S (N + 1) H) := (HP1.out.later hb2).more (by omega); have HK2 : Hid (Kp W0 W2 H) := HK1.out.trans (Kp.of_below hb2 []) (by simp); clear hb2 hwR))
  have HM2 : Hid (Mv W W2 H H) := HMv.out W2 H ⟨HK2.out, fun i hi => .inl hi⟩
  go_wp2
  go_ret
  exact ⟨by simp, _, H, HP2.out, HM2.out⟩
set_option maxHeartbeats 4000000 in
theorem asks_stats {W : World} {b p : Nat} {S : Dk} {N : Nat} {H : List Nat} (h : PP W b p S S N H) (hN : N < 1048576) (osec : Int) (ofill : Nat) (omore fk fsec fa ft : Int) (fl : Bool) (oao : Option Addr) (ocap : Nat) (okeep : List Bool) :
    Calls Try.prog 45 #[.pointer (some ⟨b, 0, none⟩), .pointer (some ⟨p, 0, none⟩), .agg #[.int .i64 10, .int .i64 osec, .int .u8 ofill, .int .i64 omore, .int .i64 fk, .int .i64 fsec, .int .i64 fa, .int .i64 ft, .bool fl, .slice oao okeep.length ocap]] W fun r W' => r = .returned (.bool true) ∧ ∃ S' H', PP W' b p S' S' (N + 1) H' ∧ Mv W W' H H' := by
  have hB0 : Below W.heap.size W (W.alloc (.cells #[.int .i64 10, .int .i64 osec, .int .u8 ofill, .int .i64 omore, .int .i64 fk, .int .i64 fsec, .int .i64 fa, .int .i64 ft, .bool fl, .slice oao okeep.length ocap] TOp)) := (Below.refl _ W).alloc (Nat.le_refl _) _
  obtain ⟨W0, hW0⟩ : ∃ W0, W0 = W.alloc (.cells #[.int .i64 10, .int .i64 osec, .int .u8 ofill, .int .i64 omore, .int .i64 fk, .int .i64 fsec, .int .i64 fa, .int .i64 ft, .bool fl, .slice oao okeep.length ocap] TOp) := ⟨_, rfl⟩
  rw [← hW0] at hB0
  have HP0 : Hid (PP W0 b p S S N H) := h.later hB0
  have hx0 : W0.heap[W.heap.size]? = some (.cells #[.int .i64 10, .int .i64 osec, .int .u8 ofill, .int .i64 omore, .int .i64 fk, .int .i64 fsec, .int .i64 fa, .int .i64 ft, .bool fl, .slice oao okeep.length ocap] TOp) := by rw [hW0]; exact heap_alloc_new W _
  have HXk : Hid (∀ W' F, Kp W0 W' F → (∀ i ∈ F, i ∈ H ∨ W0.heap.size ≤ i) → W'.heap[W.heap.size]? = some (.cells #[.int .i64 10, .int .i64 osec, .int .u8 ofill, .int .i64 omore, .int .i64 fk, .int .i64 fsec, .int .i64 fa, .int .i64 ft, .bool fl, .slice oao okeep.length ocap] TOp)) := fun W' F hk hs => by
    have hl := (Array.getElem?_eq_some_iff.1 hx0).1
    refine (hk.block _ hl (fun hm => ?_)).trans hx0
    rcases hs _ hm with h1 | h1
    · have := h.lt _ h1; omega
    · omega
  have HMv : Hid (∀ W' H', Mv W0 W' H H' → Mv W W' H H') := fun W' H' hm => ⟨(Kp.of_below hB0 _).trans hm.kp (fun i hi => .inl hi), fun i hi => (hm.sub i hi).imp id (fun h1 => Nat.le_trans hB0.size h1)⟩
  have HW0 : Hid (W0 = W.alloc (.cells #[.int .i64 10, .int .i64 osec, .int .u8 ofill, .int .i64 omore, .int .i64 fk, .int .i64 fsec, .int .i64 fa, .int .i64 ft, .bool fl, .slice oao okeep.length ocap] TOp)) := hW0
  clear h hx0 hB0 hW0
  go_enter Try.func45, Try.ntmps45
  go_wp2_with fail
  rw [← HW0.out]
  have HZ : Hid (∀ W', PP W' b p S S N H → W'.cell? ⟨p, 0, none⟩ = some (.int .i64 S.n) ∧ W'.cell? ⟨p, 5, none⟩ = some (.int .u64 S.st.reads) ∧ W'.cell? ⟨p, 6, none⟩ = some (.int .u64 S.st.writes) ∧ W'.cell? ⟨p, 7, none⟩ = some (.int .u64 S.st.bars) ∧ W'.cell? ⟨p, 8, none⟩ = some (.int .u64 S.st.failed) ∧ W'.cell? ⟨p, 9, none⟩ = some (.int .u64 S.st.crashes)) := fun W' hp => by
    obtain ⟨c0, c5⟩ := hp.cells
    refine ⟨?_, c5⟩
    rcases c0 0 with h1 | h1
    · exact h1
    · omega
  have HPd : Hid (PP W0.drew b p S S N H) := HP0.out.later (below_drew W0)
  have hsD := HPd.out.statsD
  go_region_held3 (fun w' => w'.cell? ⟨p, 0, none⟩ = some (.int .i64 S.n) ∧ w'.cell? ⟨p, 5, none⟩ = some (.int .u64 S.st.reads) ∧ w'.cell? ⟨p, 6, none⟩ = some (.int .u64 S.st.writes) ∧ w'.cell? ⟨p, 7, none⟩ = some (.int .u64 S.st.bars) ∧ w'.cell? ⟨p, 8, none⟩ = some (.int .u64 S.st.failed) ∧ w'.cell? ⟨p, 9, none⟩ = some (.int .u64 S.st.crashes)) (first | exact HZ.out _ HP0.out | exact HZ.out _ HPd.out | exact HZ.out _ HP1.out | exact HZ.out _ HP2.out | go_keep) (first | (go_at_call 46; refine hsD.mono ?_; rintro r W1 ⟨rfl, hp1, hk1⟩; have HP1 : Hid (PP W1 b p S S N H) := hp1; have HK1 : Hid (Kp W0 W1 H) := (Kp.of_below (below_drew W0) _).trans hk1 (fun i hi => .inl hi); have hsC := HP1.out.sectorsD; clear hp1 hk1 hsD) | (go_at_call 24; refine hsC.mono ?_; rintro r W2 ⟨rfl, hp2, hk2⟩; have HP2 : Hid (PP W2 b p S S N H) := hp2; have HK2 : Hid (Kp W0 W2 H) := HK1.out.trans hk2 (fun i hi => .inl hi); clear hp2 hk2 hsC))
  have HM2 : Hid (Mv W W2 H H) := HMv.out W2 H ⟨HK2.out, fun i hi => .inl hi⟩
  go_wp2
  go_ret
  exact ⟨by simp, _, H, HP2.out.more (by omega), HM2.out⟩
set_option maxHeartbeats 4000000 in
theorem asks_none {W : World} {b p : Nat} {S : Dk} {N : Nat} {H : List Nat} (h : PP W b p S S N H) (hN : N < 1048576) (okind osec : Int) (ofill : Nat) (omore fk fsec fa ft : Int) (fl : Bool) (oao : Option Addr) (ocap : Nat) (okeep : List Bool) (hk : okind < 6 ∨ 10 < okind) :
    Calls Try.prog 45 #[.pointer (some ⟨b, 0, none⟩), .pointer (some ⟨p, 0, none⟩), .agg #[.int .i64 okind, .int .i64 osec, .int .u8 ofill, .int .i64 omore, .int .i64 fk, .int .i64 fsec, .int .i64 fa, .int .i64 ft, .bool fl, .slice oao okeep.length ocap]] W fun r W' => r = .returned (.bool true) ∧ ∃ S' H', PP W' b p S' S' (N + 1) H' ∧ Mv W W' H H' := by
  have hB0 : Below W.heap.size W (W.alloc (.cells #[.int .i64 okind, .int .i64 osec, .int .u8 ofill, .int .i64 omore, .int .i64 fk, .int .i64 fsec, .int .i64 fa, .int .i64 ft, .bool fl, .slice oao okeep.length ocap] TOp)) := (Below.refl _ W).alloc (Nat.le_refl _) _
  obtain ⟨W0, hW0⟩ : ∃ W0, W0 = W.alloc (.cells #[.int .i64 okind, .int .i64 osec, .int .u8 ofill, .int .i64 omore, .int .i64 fk, .int .i64 fsec, .int .i64 fa, .int .i64 ft, .bool fl, .slice oao okeep.length ocap] TOp) := ⟨_, rfl⟩
  rw [← hW0] at hB0
  have HP0 : Hid (PP W0 b p S S N H) := h.later hB0
  have hx0 : W0.heap[W.heap.size]? = some (.cells #[.int .i64 okind, .int .i64 osec, .int .u8 ofill, .int .i64 omore, .int .i64 fk, .int .i64 fsec, .int .i64 fa, .int .i64 ft, .bool fl, .slice oao okeep.length ocap] TOp) := by rw [hW0]; exact heap_alloc_new W _
  have HXk : Hid (∀ W' F, Kp W0 W' F → (∀ i ∈ F, i ∈ H ∨ W0.heap.size ≤ i) → W'.heap[W.heap.size]? = some (.cells #[.int .i64 okind, .int .i64 osec, .int .u8 ofill, .int .i64 omore, .int .i64 fk, .int .i64 fsec, .int .i64 fa, .int .i64 ft, .bool fl, .slice oao okeep.length ocap] TOp)) := fun W' F hk hs => by
    have hl := (Array.getElem?_eq_some_iff.1 hx0).1
    refine (hk.block _ hl (fun hm => ?_)).trans hx0
    rcases hs _ hm with h1 | h1
    · have := h.lt _ h1; omega
    · omega
  have HMv : Hid (∀ W' H', Mv W0 W' H H' → Mv W W' H H') := fun W' H' hm => ⟨(Kp.of_below hB0 _).trans hm.kp (fun i hi => .inl hi), fun i hi => (hm.sub i hi).imp id (fun h1 => Nat.le_trans hB0.size h1)⟩
  have HW0 : Hid (W0 = W.alloc (.cells #[.int .i64 okind, .int .i64 osec, .int .u8 ofill, .int .i64 omore, .int .i64 fk, .int .i64 fsec, .int .i64 fa, .int .i64 ft, .bool fl, .slice oao okeep.length ocap] TOp)) := hW0
  have k6 : ¬ okind = 6 := by omega
  have k7 : ¬ okind = 7 := by omega
  have k8 : ¬ okind = 8 := by omega
  have k9 : ¬ okind = 9 := by omega
  have k10 : ¬ okind = 10 := by omega
  have HF : Hid (PP W0 b p S S (N + 1) H ∧ Mv W W0 H H) := ⟨HP0.out.more (by omega), HMv.out W0 H (Mv.refl _ _)⟩
  clear h hx0 hB0 hW0 hk
  go_enter Try.func45, Try.ntmps45
  go_wp2
  rw [← HW0.out]
  go_ret
  exact ⟨rfl, S, H, HF.out⟩
end Go.Proofs.Ythmonfmpgjbhmab.K

namespace Go.Proofs.Ythmonfmpgjbhmab.K
open Go.RowKit Go.Maps Go.Proofs.Ythmonfmpgjbhmab
attribute [local go_sem] Oper.semAt_some
set_option linter.unusedVariables false
set_option linter.unusedSimpArgs false
set_option maxRecDepth 100000

set_option maxHeartbeats 4000000 in
theorem asks_faults {W : World} {b p : Nat} {S : Dk} {N : Nat} {H : List Nat} (h : PP W b p S S N H) (hN : N < 1048576) (osec : Int) (ofill : Nat) (omore fk fsec fa ft : Int) (fl : Bool) (oao : Option Addr) (ocap : Nat) (okeep : List Bool) :
    Calls Try.prog 45 #[.pointer (some ⟨b, 0, none⟩), .pointer (some ⟨p, 0, none⟩), .agg #[.int .i64 6, .int .i64 osec, .int .u8 ofill, .int .i64 omore, .int .i64 fk, .int .i64 fsec, .int .i64 fa, .int .i64 ft, .bool fl, .slice oao okeep.length ocap]] W fun r W' => r = .returned (.bool true) ∧ ∃ S' H', PP W' b p S' S' (N + 1) H' ∧ Mv W W' H H' := by
  have hB0 : Below W.heap.size W (W.alloc (.cells #[.int .i64 6, .int .i64 osec, .int .u8 ofill, .int .i64 omore, .int .i64 fk, .int .i64 fsec, .int .i64 fa, .int .i64 ft, .bool fl, .slice oao okeep.length ocap] TOp)) := (Below.refl _ W).alloc (Nat.le_refl _) _
  obtain ⟨W0, hW0⟩ : ∃ W0, W0 = W.alloc (.cells #[.int .i64 6, .int .i64 osec, .int .u8 ofill, .int .i64 omore, .int .i64 fk, .int .i64 fsec, .int .i64 fa, .int .i64 ft, .bool fl, .slice oao okeep.length ocap] TOp) := ⟨_, rfl⟩
  rw [← hW0] at hB0
  have HP0 : Hid (PP W0 b p S S N H) := h.later hB0
  have hx0 : W0.heap[W.heap.size]? = some (.cells #[.int .i64 6, .int .i64 osec, .int .u8 ofill, .int .i64 omore, .int .i64 fk, .int .i64 fsec, .int .i64 fa, .int .i64 ft, .bool fl, .slice oao okeep.length ocap] TOp) := by rw [hW0]; exact heap_alloc_new W _
  have HXk : Hid (∀ W' F, Kp W0 W' F → (∀ i ∈ F, i ∈ H ∨ W0.heap.size ≤ i) → W'.heap[W.heap.size]? = some (.cells #[.int .i64 6, .int .i64 osec, .int .u8 ofill, .int .i64 omore, .int .i64 fk, .int .i64 fsec, .int .i64 fa, .int .i64 ft, .bool fl, .slice oao okeep.length ocap] TOp)) := fun W' F hk hs => by
    have hl := (Array.getElem?_eq_some_iff.1 hx0).1
    refine (hk.block _ hl (fun hm => ?_)).trans hx0
    rcases hs _ hm with h1 | h1
    · have := h.lt _ h1; omega
    · omega
  have HMv : Hid (∀ W' H', Mv W0 W' H H' → Mv W W' H H') := fun W' H' hm => ⟨(Kp.of_below hB0 _).trans hm.kp (fun i hi => .inl hi), fun i hi => (hm.sub i hi).imp id (fun h1 => Nat.le_trans hB0.size h1)⟩
  have HW0 : Hid (W0 = W.alloc (.cells #[.int .i64 6, .int .i64 osec, .int .u8 ofill, .int .i64 omore, .int .i64 fk, .int .i64 fsec, .int .i64 fa, .int .i64 ft, .bool fl, .slice oao okeep.length ocap] TOp)) := hW0
  have HXl : Hid (∀ i ∈ H, i < W.heap.size) := h.lt
  have HXl0 : Hid (W.heap.size ≤ W0.heap.size) := hB0.size
  obtain ⟨n, hn⟩ : ∃ n, n = S.fs.length := ⟨_, rfl⟩
  have HNn : Hid (S.fs.length = n) := hn.symm
  have hn64 : n ≤ 64 := by rw [hn]; exact h.fs.le
  clear h hx0 hB0 hW0 HXk hn
  go_enter Try.func45, Try.ntmps45
  go_wp2_with fail
  rw [← HW0.out]
  refine HP0.out.faultsD.mono ?_
  rintro r W1 ⟨v1, rfl, ho1, hp1, hk1⟩
  have HP1 : Hid (PP W1 b p S S N H ∧ Kp W0 W1 H) := ⟨hp1, hk1⟩
  rw [HNn.out] at ho1
  obtain ⟨a1, c1, e1⟩ := own_slice ho1
  subst e1
  have HO1 : Hid (W1.ownsRow W0.heap.size TFa 5 (.slice a1 n c1) n (fcells S.fs)) := ho1
  clear ho1 hp1 hk1
  go_wp2_with fail
  refine HP1.out.1.faultsR.mono ?_
  rintro r W2 ⟨v2, rfl, ho2, hb2⟩
  have hs12 := sameFaults_yes (W := W2) (v := .slice a1 n c1) (v' := v2) (l := S.fs) (B := W0.heap.size) (B' := W1.heap.size) (by rw [HNn.out]; exact ownsRow_block HO1.out (fun g e => hb2.block g (row_lt HO1.out g e).1)) ho2 (by rw [HNn.out]; exact hn64)
  have HB2 : Hid (Below W1.heap.size W1 W2) := hb2
  rw [HNn.out] at ho2
  clear ho2 hb2
  go_wp2_with fail
  refine hs12.mono ?_
  clear hs12
  rintro r W3 ⟨rfl, hb3⟩
  have hB13 : Below W1.heap.size W1 W3 := HB2.out.trans (hb3.mono HB2.out.size)
  have HS0 : Hid (PP W3 b p S S N H ∧ Kp W0 W3 H ∧ (∀ g, a1 = some ⟨g, 0, none⟩ → ∃ cur, W3.heap[g]? = some (.cells cur TFa (0, 0)) ∧ n * 5 ≤ cur.size)) := by
    refine ⟨HP1.out.1.later hB13, HP1.out.2.trans (Kp.of_below hB13 []) (by simp), fun g e => ?_⟩
    rcases HO1.out.2 with ⟨e2, _⟩ | ⟨g', cap', cur, e2, _, hg, hc, _, hsz, _⟩
    · simp at e2; rw [e] at e2; exact absurd e2.1 (by simp)
    · simp at e2
      rw [e] at e2
      simp at e2
      obtain ⟨e4, e5⟩ := e2
      subst e4
      exact ⟨cur, (hB13.block g (Array.getElem?_eq_some_iff.1 hg).1).trans hg, by omega⟩
  have HG1 : Hid (∀ g, a1 = some ⟨g, 0, none⟩ → W0.heap.size ≤ g) := fun g e => (HO1.out.lt g (by rw [e]; rfl)).1
  have HA1 : Hid (0 < n → ∃ g, a1 = some ⟨g, 0, none⟩) := fun h0 => by
    rcases HO1.out.2 with ⟨_, h1⟩ | ⟨g', cap', cur, e2, _⟩
    · omega
    · simp at e2; exact ⟨g', e2.1⟩
  clear hb3 hB13 HB2
  go_wp2
  go_loopw [9] (fun c9 wr => ∃ i : Nat, i ≤ n ∧ c9 = .int .i64 i ∧ Hid (PP wr b p S S N H ∧ Kp W0 wr H ∧ (∀ g, a1 = some ⟨g, 0, none⟩ → ∃ cur, wr.heap[g]? = some (.cells cur TFa (0, 0)) ∧ n * 5 ≤ cur.size))) (fun c9 _ => n - (intOf c9).toNat)
  case atStart => exact ⟨0, Nat.zero_le _, rfl, HS0⟩
  case round =>
    obtain ⟨i, hi, rfl, HS⟩ := hrel
    by_cases hlt : i < n
    · have hil : (i : Int) < (n : Int) := by omega
      obtain ⟨g, hga⟩ := HA1.out (by omega)
      subst hga
      obtain ⟨s1, s2, s3⟩ := HS.out
      obtain ⟨cur, hcu, hsz⟩ := s3 g rfl
      have hce : ∀ j, j < 5 → ∃ old, wr.cell? ⟨g, i * 5 + j, none⟩ = some old := fun j hj => ⟨_, (cell_of hcu).trans (Array.getElem?_eq_getElem (by omega))⟩
      obtain ⟨o0, q0⟩ := hce 0 (by decide)
      obtain ⟨o1, q1⟩ := hce 1 (by decide)
      obtain ⟨o2, q2⟩ := hce 2 (by decide)
      obtain ⟨o3, q3⟩ := hce 3 (by decide)
      obtain ⟨o4, q4⟩ := hce 4 (by decide)
      rw [Nat.add_zero] at q0
      have fz : ∀ j, wr.frozen? ⟨g, j, none⟩ = false := fun j => frozen_of hcu
      have HSt : Hid (∀ X : World, PP X b p S S N H ∧ Kp W0 X H ∧ (∃ cur, X.heap[g]? = some (.cells cur TFa (0, 0)) ∧ n * 5 ≤ cur.size) → ∀ j v, PP (X.setCell ⟨g, j, none⟩ v) b p S S N H ∧ Kp W0 (X.setCell ⟨g, j, none⟩ v) H ∧ (∃ cur, (X.setCell ⟨g, j, none⟩ v).heap[g]? = some (.cells cur TFa (0, 0)) ∧ n * 5 ≤ cur.size)) := fun X hX j v => by
        obtain ⟨t1, t2, cu, t3, t4⟩ := hX
        refine ⟨t1.kept ((Kp.refl X [g]).set (.inl (by simp)) j v) (fun x hx hm => ?_), t2.set (.inr (HG1.out g rfl)) j v, _, blk_set t3 j v, by simpa using t4⟩
        simp at hm
        subst hm
        have h1 := HXl.out _ hx
        have h2 := HG1.out x rfl
        have h3 := HXl0.out
        omega
      have HSi : Hid (PP wr b p S S N H ∧ Kp W0 wr H ∧ (∃ cur, wr.heap[g]? = some (.cells cur TFa (0, 0)) ∧ n * 5 ≤ cur.size)) := ⟨s1, s2, cur, hcu, hsz⟩
      clear s1 s2 s3 hce hcu
      have HN5 := HSt.out _ (HSt.out _ (HSt.out _ (HSt.out _ (HSt.out wr HSi.out (i * 5) (.int .i64 1)) (i * 5 + 1) (.int .i64 (-1))) (i * 5 + 2) (.int .i64 0)) (i * 5 + 3) (.int .i64 1)) (i * 5 + 4) (.bool false)
      have HNx : Hid (PP (((((wr.setCell ⟨g, i * 5, none⟩ (.int .i64 1)).setCell ⟨g, i * 5 + 1, none⟩ (.int .i64 (-1))).setCell ⟨g, i * 5 + 2, none⟩ (.int .i64 0)).setCell ⟨g, i * 5 + 3, none⟩ (.int .i64 1)).setCell ⟨g, i * 5 + 4, none⟩ (.bool false)) b p S S N H ∧ Kp W0 (((((wr.setCell ⟨g, i * 5, none⟩ (.int .i64 1)).setCell ⟨g, i * 5 + 1, none⟩ (.int .i64 (-1))).setCell ⟨g, i * 5 + 2, none⟩ (.int .i64 0)).setCell ⟨g, i * 5 + 3, none⟩ (.int .i64 1)).setCell ⟨g, i * 5 + 4, none⟩ (.bool false)) H ∧ ∀ g', some (⟨g, 0, none⟩ : Addr) = some ⟨g', 0, none⟩ → ∃ cur, (((((wr.setCell ⟨g, i * 5, none⟩ (.int .i64 1)).setCell ⟨g, i * 5 + 1, none⟩ (.int .i64 (-1))).setCell ⟨g, i * 5 + 2, none⟩ (.int .i64 0)).setCell ⟨g, i * 5 + 3, none⟩ (.int .i64 1)).setCell ⟨g, i * 5 + 4, none⟩ (.bool false)).heap[g']? = some (Obj.cells cur TFa (0, 0)) ∧ n * 5 ≤ cur.size) := ⟨HN5.1, HN5.2.1, fun g' e => by simp at e; subst e; exact HN5.2.2⟩
      clear HN5
      go_wp2
      go_roundw
      case rel => exact ⟨i + 1, by omega, by go_num, HNx⟩
      case measure => simp [intOf]; omega
    · have hil : ¬ (i : Int) < (n : Int) := by omega
      have HPw : Hid (PP wr b p S S N H ∧ Kp W0 wr H) := ⟨HS.out.1, HS.out.2.1⟩
      clear HS HS0
      go_wp2_with fail
      refine HPw.out.1.faultsD.mono ?_
      rintro r W5 ⟨v5, rfl, ho5, hp5, hk5⟩
      have HP5 : Hid (PP W5 b p S S N H ∧ Kp W0 W5 H) := ⟨hp5, HPw.out.2.trans hk5 (fun i hi => .inl hi)⟩
      have HO5 : Hid (W5.ownsRow wr.heap.size TFa 5 v5 S.fs.length (fcells S.fs)) := ho5
      clear ho5 hp5 hk5
      go_wp2_with fail
      refine HP5.out.1.faultsR.mono ?_
      rintro r W6 ⟨v6, rfl, ho6, hb6⟩
      have hs56 := sameFaults_yes (W := W6) (v := v5) (v' := v6) (l := S.fs) (ownsRow_block HO5.out (fun g e => hb6.block g (row_lt HO5.out g e).1)) ho6 (by rw [HNn.out]; exact hn64)
      have HP6 : Hid (PP W6 b p S S N H ∧ Kp W0 W6 H) := ⟨HP5.out.1.later hb6, HP5.out.2.trans (Kp.of_below hb6 []) (by simp)⟩
      clear ho6 hb6
      go_wp2_with fail
      refine hs56.mono ?_
      clear hs56
      rintro r W7 ⟨rfl, hb7⟩
      have HP7 : Hid (PP W7 b p S S (N + 1) H ∧ Mv W W7 H H) := ⟨(HP6.out.1.later hb7).more (by omega), HMv.out W7 H ⟨HP6.out.2.trans (Kp.of_below hb7 []) (by simp), fun i hi => .inl hi⟩⟩
      clear hb7
      go_wp2
      go_ret
      exact ⟨rfl, _, H, HP7.out⟩
/-- two lists of bytes, laid into a row of two, are each their own -/
theorem own_two {W : World} {g1 g2 m c1 c2 : Nat} {l1 l2 : List Nat} (h1 : W.ownsRow 0 5 1 (.slice (some ⟨g1, 0, none⟩) m c1) m (l1.map bv)) (h2 : W.ownsRow 0 5 1 (.slice (some ⟨g2, 0, none⟩) m c2) m (l2.map bv)) (hl1 : l1.length = m) (hl2 : l2.length = m) (hm0 : 0 < m) (hm1 : m ≤ 33554432) (hne : g1 ≠ g2) :
    Calls Try.prog 61 #[.slice (some ⟨W.heap.size, 0, none⟩) 2 2] (W.alloc (.cells #[.slice (some ⟨g1, 0, none⟩) m c1, .slice (some ⟨g2, 0, none⟩) m c2] TBs)) fun r W' => r = .returned (.bool true) ∧ Kp W W' [g1, g2] := by
  have hg1 := (row_lt h1 g1 rfl).1
  have hg2 := (row_lt h2 g2 rfl).1
  have hB : Below W.heap.size W (W.alloc (.cells #[.slice (some ⟨g1, 0, none⟩) m c1, .slice (some ⟨g2, 0, none⟩) m c2] TBs)) := (Below.refl _ W).alloc (Nat.le_refl _) _
  have r1 := ownsRow_block h1 (w' := W.alloc (.cells #[.slice (some ⟨g1, 0, none⟩) m c1, .slice (some ⟨g2, 0, none⟩) m c2] TBs)) (fun g e => hB.block g (row_lt h1 g e).1)
  have r2 := ownsRow_block h2 (w' := W.alloc (.cells #[.slice (some ⟨g1, 0, none⟩) m c1, .slice (some ⟨g2, 0, none⟩) m c2] TBs)) (fun g e => hB.block g (row_lt h2 g e).1)
  have hl : Ls (W.alloc (.cells #[.slice (some ⟨g1, 0, none⟩) m c1, .slice (some ⟨g2, 0, none⟩) m c2] TBs)) [g1, g2] (.slice (some ⟨W.heap.size, 0, none⟩) 2 2) [(.slice (some ⟨g1, 0, none⟩) m c1, m), (.slice (some ⟨g2, 0, none⟩) m c2, m)] := by
    refine ⟨⟨rfl, .inr ⟨_, _, _, rfl, Nat.zero_le _, heap_alloc_new W _, Nat.le_refl _, by decide, rfl, rfl⟩⟩, fun j v n hj => ?_, fun j j' v n v' n' hj hj' hne' => ?_⟩
    · match j with
      | 0 => simp at hj; obtain ⟨rfl, rfl⟩ := hj; exact ⟨hm0, hm1, g1, c1, rfl, by simp⟩
      | 1 => simp at hj; obtain ⟨rfl, rfl⟩ := hj; exact ⟨hm0, hm1, g2, c2, rfl, by simp⟩
      | j + 2 => simp at hj
    · match j, j' with
      | 0, 0 => exact absurd rfl hne'
      | 1, 1 => exact absurd rfl hne'
      | 0, 1 => simp at hj hj'; obtain ⟨rfl, rfl⟩ := hj; obtain ⟨rfl, rfl⟩ := hj'; simp [Value.ownBlock]; exact hne
      | 1, 0 => simp at hj hj'; obtain ⟨rfl, rfl⟩ := hj; obtain ⟨rfl, rfl⟩ := hj'; simp [Value.ownBlock]; exact fun e => hne e.symm
      | j + 2, _ => simp at hj
      | _, j' + 2 => simp at hj'
  have hk : Mk (W.alloc (.cells #[.slice (some ⟨g1, 0, none⟩) m c1, .slice (some ⟨g2, 0, none⟩) m c2] TBs)) [(.slice (some ⟨g1, 0, none⟩) m c1, m), (.slice (some ⟨g2, 0, none⟩) m c2, m)] 0 0 := by
    intro j v n hj
    match j with
    | 0 => simp at hj; obtain ⟨rfl, rfl⟩ := hj; exact ⟨l1, hl1, r1, fun t ht hc => by omega⟩
    | 1 => simp at hj; obtain ⟨rfl, rfl⟩ := hj; exact ⟨l2, hl2, r2, fun t ht hc => by omega⟩
    | j + 2 => simp at hj
  refine (own_any hl hk (by simp) (fun g hg => ?_) (fun g e hm => ?_)).mono ?_
  · rw [World.size_alloc]; simp at hg; omega
  · simp [Value.ownBlock] at e; simp at hm; omega
  · rintro r W' ⟨rfl, hkp⟩
    exact ⟨rfl, (Kp.of_below hB [g1, g2]).trans hkp (fun i hi => .inl hi)⟩
set_option maxHeartbeats 4000000 in
theorem asks_image {W : World} {b p : Nat} {S : Dk} {N : Nat} {H : List Nat} (h : PP W b p S S N H) (hN : N < 1048576) (osec : Int) (ofill : Nat) (omore fk fsec fa ft : Int) (fl : Bool) (oao : Option Addr) (ocap : Nat) (okeep : List Bool) :
    Calls Try.prog 45 #[.pointer (some ⟨b, 0, none⟩), .pointer (some ⟨p, 0, none⟩), .agg #[.int .i64 9, .int .i64 osec, .int .u8 ofill, .int .i64 omore, .int .i64 fk, .int .i64 fsec, .int .i64 fa, .int .i64 ft, .bool fl, .slice oao okeep.length ocap]] W fun r W' => r = .returned (.bool true) ∧ ∃ S' H', PP W' b p S' S' (N + 1) H' ∧ Mv W W' H H' := by
  have hB0 : Below W.heap.size W (W.alloc (.cells #[.int .i64 9, .int .i64 osec, .int .u8 ofill, .int .i64 omore, .int .i64 fk, .int .i64 fsec, .int .i64 fa, .int .i64 ft, .bool fl, .slice oao okeep.length ocap] TOp)) := (Below.refl _ W).alloc (Nat.le_refl _) _
  obtain ⟨W0, hW0⟩ : ∃ W0, W0 = W.alloc (.cells #[.int .i64 9, .int .i64 osec, .int .u8 ofill, .int .i64 omore, .int .i64 fk, .int .i64 fsec, .int .i64 fa, .int .i64 ft, .bool fl, .slice oao okeep.length ocap] TOp) := ⟨_, rfl⟩
  rw [← hW0] at hB0
  have HP0 : Hid (PP W0 b p S S N H) := h.later hB0
  have hx0 : W0.heap[W.heap.size]? = some (.cells #[.int .i64 9, .int .i64 osec, .int .u8 ofill, .int .i64 omore, .int .i64 fk, .int .i64 fsec, .int .i64 fa, .int .i64 ft, .bool fl, .slice oao okeep.length ocap] TOp) := by rw [hW0]; exact heap_alloc_new W _
  have HXk : Hid (∀ W' F, Kp W0 W' F → (∀ i ∈ F, i ∈ H ∨ W0.heap.size ≤ i) → W'.heap[W.heap.size]? = some (.cells #[.int .i64 9, .int .i64 osec, .int .u8 ofill, .int .i64 omore, .int .i64 fk, .int .i64 fsec, .int .i64 fa, .int .i64 ft, .bool fl, .slice oao okeep.length ocap] TOp)) := fun W' F hk hs => by
    have hl := (Array.getElem?_eq_some_iff.1 hx0).1
    refine (hk.block _ hl (fun hm => ?_)).trans hx0
    rcases hs _ hm with h1 | h1
    · have := h.lt _ h1; omega
    · omega
  have HMv : Hid (∀ W' H', Mv W0 W' H H' → Mv W W' H H') := fun W' H' hm => ⟨(Kp.of_below hB0 _).trans hm.kp (fun i hi => .inl hi), fun i hi => (hm.sub i hi).imp id (fun h1 => Nat.le_trans hB0.size h1)⟩
  have HW0 : Hid (W0 = W.alloc (.cells #[.int .i64 9, .int .i64 osec, .int .u8 ofill, .int .i64 omore, .int .i64 fk, .int .i64 fsec, .int .i64 fa, .int .i64 ft, .bool fl, .slice oao okeep.length ocap] TOp)) := hW0
  have HXl : Hid (∀ i ∈ H, i < W.heap.size) := h.lt
  have HXl0 : Hid (W.heap.size ≤ W0.heap.size) := hB0.size
  obtain ⟨hn0, hn1, hsafe⟩ : 1 ≤ S.n ∧ S.n ≤ 65536 ∧ ∀ t, t < S.n → OkB (S.safe t) := by
    obtain ⟨ms, ml, qv, fv, dv, rq, av, D, Q, hk, hr, hN, hd, rfl⟩ := h.ex
    obtain ⟨D', _, hso⟩ := hk.sm
    exact ⟨hk.n0, hk.n1, hso.ok⟩
  obtain ⟨il, hil⟩ : ∃ il, il = imgL S.n S.safe := ⟨_, rfl⟩
  obtain ⟨m, hm⟩ : ∃ m, m = S.n * 512 := ⟨_, rfl⟩
  have HIL : Hid (il.length = m ∧ ∀ x ∈ il, x < 256) := by
    refine ⟨by rw [hil, hm]; exact imgL_len (fun t ht => (hsafe t ht).len), fun x hx => ?_⟩
    rw [hil] at hx
    obtain ⟨t, ht, hx⟩ := List.mem_flatMap.1 hx
    exact (hsafe t (List.mem_range.1 ht)).lt x hx
  have hm0 : 0 < m := by omega
  have hm1 : m ≤ 33554432 := by omega
  have HD : Hid (∀ W, PP W b p S S N H → Calls Try.prog 11 #[.pointer (some ⟨b, 0, none⟩)] W fun r W' => ∃ v, r = .returned v ∧ W'.ownsRow W.heap.size 5 1 v m (il.map bv) ∧ PP W' b p S S N H ∧ Kp W W' H) := fun W hp => by have h1 := hp.imageD; rw [← hm, ← hil] at h1; exact h1
  have HRf : Hid (∀ W, PP W b p S S N H → Calls Try.prog 63 #[.pointer (some ⟨p, 0, none⟩)] W fun r W' => ∃ v, r = .returned v ∧ W'.ownsRow W.heap.size 5 1 v m (il.map bv) ∧ Below W.heap.size W W') := fun W hp => by have h1 := hp.imageR (by omega); rw [← hm, ← hil] at h1; exact h1
  clear h hx0 hB0 hW0 HXk hil hm hsafe hn0 hn1
  go_enter Try.func45, Try.ntmps45
  go_wp2_with fail
  rw [← HW0.out]
  refine (HD.out W0 HP0.out).mono ?_
  rintro r W1 ⟨v1, rfl, ho1, hp1, hk1⟩
  obtain ⟨g1, c1, cur1, e1, hg1, _, _⟩ := own_form ho1 hm0
  subst e1
  have HP1 : Hid (PP W1 b p S S N H ∧ Kp W0 W1 H ∧ W1.ownsRow W0.heap.size 5 1 (.slice (some ⟨g1, 0, none⟩) m c1) m (il.map bv) ∧ W0.heap.size ≤ g1 ∧ g1 < W1.heap.size) := ⟨hp1, hk1, ho1, hg1, (row_lt ho1 g1 rfl).1⟩
  clear ho1 hp1 hk1 hg1
  go_wp2_with fail
  refine (HD.out W1 HP1.out.1).mono ?_
  rintro r W2 ⟨v2, rfl, ho2, hp2, hk2⟩
  obtain ⟨g2, c2, cur2, e2, hg2, _, _⟩ := own_form ho2 hm0
  subst e2
  have HO1 : Hid (g1 ∉ H) := fun hx => by have h1 := HXl.out _ hx; have h2 := HXl0.out; have h3 := HP1.out.2.2.2.1; omega
  have HO2 : Hid (g2 ∉ H) := fun hx => by have h1 := HXl.out _ hx; have h2 := HXl0.out; have h3 := HP1.out.2.2.2.1; have h4 := HP1.out.2.2.2.2; omega
  have HP2 : Hid (PP W2 b p S S N H ∧ Kp W0 W2 H ∧ W2.ownsRow 0 5 1 (.slice (some ⟨g1, 0, none⟩) m c1) m (il.map bv) ∧ W2.ownsRow 0 5 1 (.slice (some ⟨g2, 0, none⟩) m c2) m (il.map bv) ∧ W1.heap.size ≤ g2 ∧ g2 < W2.heap.size) := ⟨hp2, HP1.out.2.1.trans hk2 (fun i hi => .inl hi), owns_mono (ownsRow_block HP1.out.2.2.1 (fun g e => by simp [Value.ownBlock] at e; subst e; exact hk2.block g1 HP1.out.2.2.2.2 HO1.out)) (Nat.zero_le _), owns_mono ho2 (Nat.zero_le _), hg2, (row_lt ho2 g2 rfl).1⟩
  clear ho2 hp2 hk2 hg2
  go_wp2_with fail
  refine (HRf.out W2 HP2.out.1).mono ?_
  rintro r W3 ⟨v3, rfl, ho3, hb3⟩
  have brow : ∀ {X : World} {g c : Nat}, X.ownsRow 0 5 1 (.slice (some ⟨g, 0, none⟩) m c) m (il.map bv) → BRow X (some ⟨g, 0, none⟩) c il := fun {X g c} hx => by
    obtain ⟨ao, cc, e, hb⟩ := own_brow hx HIL.out.1 HIL.out.2 (by omega)
    simp at e
    obtain ⟨rfl, rfl⟩ := e
    exact hb
  obtain ⟨a3, c3, e3, hbr3⟩ := own_brow ho3 HIL.out.1 HIL.out.2 (by omega)
  subst e3
  have r13 := ownsRow_block HP2.out.2.2.1 (w' := W3) (fun g e => hb3.block g (row_lt HP2.out.2.2.1 g e).1)
  have r23 := ownsRow_block HP2.out.2.2.2.1 (w' := W3) (fun g e => hb3.block g (row_lt HP2.out.2.2.2.1 g e).1)
  have hs1 := same_any _ _ _ _ il il W3 (brow r13) hbr3
  rw [HIL.out.1, decide_eq_true rfl] at hs1
  have HP3 : Hid (PP W3 b p S S N H ∧ Kp W0 W3 H ∧ W3.ownsRow 0 5 1 (.slice (some ⟨g1, 0, none⟩) m c1) m (il.map bv) ∧ W3.ownsRow 0 5 1 (.slice (some ⟨g2, 0, none⟩) m c2) m (il.map bv) ∧ W1.heap.size ≤ g2 ∧ g2 < W3.heap.size) := ⟨HP2.out.1.later hb3, HP2.out.2.1.trans (Kp.of_below hb3 []) (by simp), r13, r23, HP2.out.2.2.2.2.1, Nat.lt_of_lt_of_le HP2.out.2.2.2.2.2 hb3.size⟩
  have hs2 := fun q => same_any _ _ _ _ il il (W3.drewN q) ((brow r23).later (below_drewN W3 q)) ((brow r13).later (below_drewN W3 q))
  rw [HIL.out.1] at hs2
  have HS2 : Hid (∀ q, Calls Try.prog 14 #[.slice (some ⟨g2, 0, none⟩) m c2, .slice (some ⟨g1, 0, none⟩) m c1] (W3.drewN q) fun e w' => e = .returned (.bool true) ∧ ∃ q', w' = (W3.drewN q).drewN q') := fun q => by have h1 := hs2 q; rw [decide_eq_true rfl] at h1; exact h1
  clear ho3 hb3 hbr3 r13 r23 hs2 brow
  go_wp2_with fail
  refine hs1.mono ?_
  clear hs1
  rintro r W4 ⟨rfl, q4, rfl⟩
  go_wp2_with fail
  refine (HS2.out q4).mono ?_
  clear HS2
  rintro r W5 ⟨rfl, q5, rfl⟩
  go_wp2_with fail
  have ho := own_two (W := W3.drewN (q4 + q5)) (ownsRow_block HP3.out.2.2.1 (fun g e => (below_drewN W3 (q4 + q5)).block g (row_lt HP3.out.2.2.1 g e).1)) (ownsRow_block HP3.out.2.2.2.1 (fun g e => (below_drewN W3 (q4 + q5)).block g (row_lt HP3.out.2.2.2.1 g e).1)) HIL.out.1 HIL.out.1 hm0 hm1 (by have h1 := HP1.out.2.2.2.2; have h2 := HP3.out.2.2.2.2.1; omega)
  refine ho.mono ?_
  clear ho
  rintro r W6 ⟨rfl, hk6⟩
  have HP6 : Hid (PP W6 b p S S (N + 1) H ∧ Mv W W6 H H) := by
    have hb := below_drewN W3 (q4 + q5)
    refine ⟨((HP3.out.1.later hb).kept hk6 (fun i hi hm => ?_)).more (by omega), HMv.out W6 H ⟨HP3.out.2.1.trans ((Kp.of_below hb [g1, g2]).trans hk6 (fun i hi => .inl hi)) (fun i hi => ?_), fun i hi => .inl hi⟩⟩
    · simp at hm
      rcases hm with rfl | rfl
      · exact HO1.out hi
      · exact HO2.out hi
    · right
      simp at hi
      have h1 := HP1.out.2.2.2.1
      have h2 := HP1.out.2.2.2.2
      have h3 := HP3.out.2.2.2.2.1
      rcases hi with rfl | rfl <;> omega
  clear hk6
  go_wp2
  go_ret
  exact ⟨rfl, _, H, HP6.out⟩
end Go.Proofs.Ythmonfmpgjbhmab.K

namespace Go.Proofs.Ythmonfmpgjbhmab.K
open Go.RowKit Go.Maps Go.Proofs.Ythmonfmpgjbhmab
attribute [local go_sem] Oper.semAt_some
set_option linter.unusedVariables false
set_option linter.unusedSimpArgs false
set_option maxRecDepth 100000

theorem PP.queueR {W : World} {b p : Nat} {S T : Dk} {N : Nat} {H : List Nat} (h : PP W b p S T N H) : ∃ rq Q, W.cell? ⟨p, 3, none⟩ = some rq ∧ W.ownsRow 0 TPt 2 rq Q.length (qcells Q) ∧ (∀ x ∈ Q, W.ownsRow 0 5 1 x.2.1 512 (x.2.2.map bv)) ∧ Q.map bare = T.q ∧ ∀ x ∈ Q, OkB x.2.2 := by
  obtain ⟨ms, ml, qv, fv, dv, rq, av, D, Q, hk, hr, hN, hd, rfl⟩ := h.ex
  exact ⟨rq, Q, hr.c 3, hr.qr, fun x hx => hr.dat x (List.mem_append_right _ hx), hr.q, fun x hx => (hr.ok x (List.mem_append_right _ hx)).2⟩
/-- the data of the k-th write -/
def pat (A : List Pv) (k : Nat) : Value := ((A[k]?).map (·.2.1)).getD (.slice none 0 0)
def dvs (A C : List Pv) (i : Nat) : List Vn := (List.range (i * 2)).map fun j => (pat (if j % 2 = 0 then A else C) (j / 2), 512)
theorem dvs_len (A C : List Pv) (i : Nat) : (dvs A C i).length = i * 2 := by simp [dvs]
theorem dvs_succ (A C : List Pv) (i : Nat) : (dvs A C (i + 1)).map (·.1) = (dvs A C i).map (·.1) ++ [pat A i, pat C i] := by
  unfold dvs
  rw [show (i + 1) * 2 = i * 2 + 1 + 1 by omega, List.range_succ, List.range_succ]
  simp only [List.map_append, List.map_cons, List.map_nil, List.append_assoc, List.singleton_append, List.cons_append, List.nil_append]
  rw [if_pos (by omega), if_neg (by omega), show i * 2 / 2 = i by omega, show (i * 2 + 1) / 2 = i by omega]
theorem dvs_at {A C : List Pv} {i j n : Nat} {v : Value} (h : (dvs A C i)[j]? = some (v, n)) : n = 512 ∧ j / 2 < i ∧ v = pat (if j % 2 = 0 then A else C) (j / 2) := by
  have hl := (List.getElem?_eq_some_iff.1 h).1
  rw [dvs_len] at hl
  unfold dvs at h
  rw [List.getElem?_map, List.getElem?_range hl] at h
  simp at h
  exact ⟨h.2.symm, by omega, h.1.symm⟩
theorem pat_at {A : List Pv} {k : Nat} {x : Pv} (h : A[k]? = some x) : pat A k = x.2.1 := by simp [pat, h]
/-- the blocks of the data -/
def dbs (A : List Pv) : List Nat := A.flatMap fun x => x.2.1.ownBlock.toList
theorem mem_dbs {A : List Pv} {g : Nat} : g ∈ dbs A ↔ ∃ x ∈ A, x.2.1.ownBlock = some g := by simp [dbs, List.mem_flatMap]
theorem told_ls {W : World} {A C : List Pv} {B B1 : Nat} {tv : Value} (hr : W.ownsRow B TBs 1 tv (A.length * 2) ((dvs A C A.length).map (·.1))) (hl : C.length = A.length)
    (d1 : ∀ x ∈ A, W.ownsRow 0 5 1 x.2.1 512 (x.2.2.map bv)) (d2 : ∀ x ∈ C, W.ownsRow B1 5 1 x.2.1 512 (x.2.2.map bv)) (hA : ∀ x ∈ A, ∀ g, x.2.1.ownBlock = some g → g < B1)
    (t1 : A.Pairwise fun p q => p.2.1.ownBlock ≠ q.2.1.ownBlock) (t2 : C.Pairwise fun p q => p.2.1.ownBlock ≠ q.2.1.ownBlock) (hok : ∀ x ∈ A ++ C, x.2.2.length = 512) :
    Ls W (dbs A ++ dbs C) tv (dvs A C A.length) ∧ Mk W (dvs A C A.length) 0 0 := by
  have hat : ∀ (j n : Nat) (v : Value), (dvs A C A.length)[j]? = some (v, n) → n = 512 ∧ ∃ x, (if j % 2 = 0 then A else C)[j / 2]? = some x ∧ v = x.2.1 := fun j n v h => by
    obtain ⟨h1, h2, h3⟩ := dvs_at h
    obtain ⟨x, hx⟩ : ∃ x, (if j % 2 = 0 then A else C)[j / 2]? = some x := ⟨_, List.getElem?_eq_getElem (by split <;> omega)⟩
    exact ⟨h1, x, hx, by rw [h3, pat_at hx]⟩
  have hmem : ∀ (j : Nat) (x : Pv), (if j % 2 = 0 then A else C)[j / 2]? = some x → x ∈ A ∨ x ∈ C := fun j x h => by
    split at h
    · exact .inl (List.mem_of_getElem? h)
    · exact .inr (List.mem_of_getElem? h)
  have hrow : ∀ x, x ∈ A ∨ x ∈ C → W.ownsRow 0 5 1 x.2.1 512 (x.2.2.map bv) := fun x h => h.elim (d1 x) (fun h => owns_mono (d2 x h) (Nat.zero_le _))
  have hpw : ∀ {L : List Pv}, L.Pairwise (fun p q => p.2.1.ownBlock ≠ q.2.1.ownBlock) → ∀ (k k' : Nat) x y, L[k]? = some x → L[k']? = some y → k ≠ k' → x.2.1.ownBlock ≠ y.2.1.ownBlock := fun {L} hp k k' x y hx hy hne => by
    obtain ⟨l1, rfl⟩ := List.getElem?_eq_some_iff.1 hx
    obtain ⟨l2, rfl⟩ := List.getElem?_eq_some_iff.1 hy
    rw [List.pairwise_iff_getElem] at hp
    rcases Nat.lt_or_gt_of_ne hne with h | h
    · exact hp k k' l1 l2 h
    · exact fun e => hp k' k l2 l1 h e.symm
  have hcross : ∀ x ∈ A, ∀ y ∈ C, x.2.1.ownBlock ≠ y.2.1.ownBlock := fun x hx y hy e => by
    obtain ⟨g, c, cur, e2, hg, _⟩ := own_form (d2 y hy) (by decide)
    rw [e2] at e
    have := hA x hx g e
    omega
  refine ⟨⟨by rw [dvs_len]; exact owns_mono hr (Nat.zero_le _), fun j v n h => ?_, fun j j' v n v' n' h h' hne => ?_⟩, fun j v n h => ?_⟩
  · obtain ⟨rfl, x, hx, rfl⟩ := hat j n v h
    obtain ⟨g, c, cur, e2, hg, _⟩ := own_form (hrow x (hmem j x hx)) (by decide)
    refine ⟨by decide, by decide, g, c, e2, ?_⟩
    rcases hmem j x hx with h1 | h1
    · exact List.mem_append_left _ (mem_dbs.2 ⟨x, h1, by rw [e2]; rfl⟩)
    · exact List.mem_append_right _ (mem_dbs.2 ⟨x, h1, by rw [e2]; rfl⟩)
  · obtain ⟨_, x, hx, rfl⟩ := hat j n v h
    obtain ⟨_, y, hy, rfl⟩ := hat j' n' v' h'
    by_cases e1 : j % 2 = 0 <;> by_cases e2 : j' % 2 = 0
    · rw [if_pos e1] at hx
      rw [if_pos e2] at hy
      exact hpw t1 _ _ x y hx hy (by omega)
    · rw [if_pos e1] at hx
      rw [if_neg e2] at hy
      exact hcross x (List.mem_of_getElem? hx) y (List.mem_of_getElem? hy)
    · rw [if_neg e1] at hx
      rw [if_pos e2] at hy
      exact fun e => hcross y (List.mem_of_getElem? hy) x (List.mem_of_getElem? hx) e.symm
    · rw [if_neg e1] at hx
      rw [if_neg e2] at hy
      exact hpw t2 _ _ x y hx hy (by omega)
  · obtain ⟨rfl, x, hx, rfl⟩ := hat j n v h
    exact ⟨x.2.2, hok x (List.mem_append.2 (hmem j x hx)), hrow x (hmem j x hx), fun t ht hc => by omega⟩
/-- the rows while they are walked -/
structure Tq (W0 wr : World) (H : List Nat) (B : Nat) (tv v1 v2 : Value) (A C : List Pv) (i : Nat) : Prop where
  kp : Kp W0 wr H
  tr : wr.ownsRow B TBs 1 tv (i * 2) ((dvs A C i).map (·.1))
  r1 : ∀ g, v1.ownBlock = some g → ∃ cur, wr.heap[g]? = some (.cells cur TPt (0, 0)) ∧ A.length * 2 ≤ cur.size ∧ ∀ (j : Nat) (x : Pv), A[j]? = some x → cur[j * 2 + 1]? = some x.2.1
  r2 : wr.ownsRow 0 TPt 2 v2 C.length (qcells C)
  d1 : ∀ x ∈ A, wr.ownsRow 0 5 1 x.2.1 512 (x.2.2.map bv)
  d2 : ∀ x ∈ C, wr.ownsRow 0 5 1 x.2.1 512 (x.2.2.map bv)
theorem qcells_at {Q : List Pv} {j : Nat} {x : Pv} (h : Q[j]? = some x) : (qcells Q)[j * 2]? = some (.int .i64 x.1) ∧ (qcells Q)[j * 2 + 1]? = some x.2.1 := by
  induction Q generalizing j with
  | nil => simp at h
  | cons a l ih =>
    cases j with
    | zero => simp at h; subst h; simp [qcells, qcell]
    | succ j =>
      simp only [List.getElem?_cons_succ] at h
      have := ih h
      simp only [qcells, List.flatMap_cons, qcell] at this ⊢
      rw [show (j + 1) * 2 = j * 2 + 2 by omega, show j * 2 + 2 + 1 = j * 2 + 1 + 2 by omega]
      simpa using this
end Go.Proofs.Ythmonfmpgjbhmab.K

namespace Go.Proofs.Ythmonfmpgjbhmab.K
open Go.RowKit Go.Maps Go.Proofs.Ythmonfmpgjbhmab
attribute [local go_sem] Oper.semAt_some
set_option linter.unusedVariables false
set_option linter.unusedSimpArgs false
set_option maxRecDepth 100000

theorem Tq.step {W0 wr wx w' : World} {H : List Nat} {B i g1 : Nat} {tv tv' v1 v2 : Value} {A C : List Pv} (h : Tq W0 wr H B tv v1 v2 A C i) (hb : Below wr.heap.size wr wx) (hg : wx.grownBy w' tv.ownBlock) (ho : w'.ownsRow B TBs 1 tv' (i * 2 + 2) ((dvs A C i).map (·.1) ++ [pat A i, pat C i])) (hB : W0.heap.size ≤ B) (hv1 : v1.ownBlock = some g1) (hg1 : W0.heap.size ≤ g1) (hne : v2.ownBlock ≠ some g1) :
    Tq W0 (w'.setCell ⟨g1, i * 2, none⟩ (.int .i64 (-7))) H B tv' v1 v2 A C (i + 1) := by
  obtain ⟨cur, hcu, hsz, hda⟩ := h.r1 g1 hv1
  have hlt := (Array.getElem?_eq_some_iff.1 hcu).1
  have hT : ∀ (x : Nat) (cs : Array Value) (T : TypeId), T ≠ TBs → wr.heap[x]? = some (.cells cs T (0, 0)) → w'.heap[x]? = wr.heap[x]? := fun x cs T hTT hx => by
    have hl := (Array.getElem?_eq_some_iff.1 hx).1
    refine (hg.block x (Nat.lt_of_lt_of_le hl hb.size) (fun e => ?_)).trans (hb.block x hl)
    obtain ⟨_, cs', hc'⟩ := row_lt h.tr x e.symm
    rw [hx] at hc'
    simp at hc'
    exact hTT hc'.2
  have hK : ∀ {T size n : Nat} {v : Value} {xs : List Value}, T ≠ TBs → wr.ownsRow 0 T size v n xs → v.ownBlock ≠ some g1 → (w'.setCell ⟨g1, i * 2, none⟩ (.int .i64 (-7))).ownsRow 0 T size v n xs := fun {T size n v xs} hTT hr hn => ownsRow_block hr (fun x hx => by
    obtain ⟨_, cs, hc⟩ := row_lt hr x hx
    exact (Below.heap_setCell _ _ _ _ (by show x ≠ g1; rintro rfl; exact hn hx)).trans (hT x cs T hTT hc))
  have hD : ∀ x : Pv, wr.ownsRow 0 5 1 x.2.1 512 (x.2.2.map bv) → x.2.1.ownBlock ≠ some g1 := fun x hx e => by
    obtain ⟨_, cs, hc⟩ := row_lt hx g1 e
    rw [hcu] at hc
    simp at hc
    exact absurd hc.2 (by decide)
  refine ⟨?_, ?_, fun g e => ?_, hK (by decide) h.r2 hne, fun x hx => hK (by decide) (h.d1 x hx) (hD x (h.d1 x hx)), fun x hx => hK (by decide) (h.d2 x hx) (hD x (h.d2 x hx))⟩
  · exact ((h.kp.trans (Kp.of_below hb []) (by simp)).grown hg (fun k e => .inr (Nat.le_trans hB (h.tr.lt k e).1))).set (.inr hg1) _ _
  · rw [dvs_succ, show (i + 1) * 2 = i * 2 + 2 by omega]
    refine ownsRow_block ho (fun x hx => Below.heap_setCell _ _ _ _ ?_)
    show x ≠ g1
    rintro rfl
    obtain ⟨_, cs, hc⟩ := row_lt ho x hx
    rw [hT x cur TPt (by decide) hcu, hcu] at hc
    simp at hc
    exact absurd hc.2 (by decide)
  · rw [hv1] at e
    cases e
    refine ⟨_, blk_set ((hT g1 cur TPt (by decide) hcu).trans hcu) _ _, by simpa using hsz, fun j x hx => ?_⟩
    rw [Array.getElem?_setIfInBounds]
    rw [if_neg (by omega)]
    exact hda j x hx
theorem owns_up {w : World} {T size n B : Nat} {v : Value} {xs : List Value} (h : w.ownsRow 0 T size v n xs) (hB : ∀ g, v.ownBlock = some g → B ≤ g) : w.ownsRow B T size v n xs := by
  refine ⟨h.1, ?_⟩
  rcases h.2 with h1 | ⟨g, cap, cur, e, _, h2⟩
  · exact .inl h1
  · exact .inr ⟨g, cap, cur, e, hB g (by rw [e]; rfl), h2⟩
set_option maxHeartbeats 8000000 in
theorem asks_queue {W : World} {b p : Nat} {S : Dk} {N : Nat} {H : List Nat} (h : PP W b p S S N H) (hN : N < 1048576) (osec : Int) (ofill : Nat) (omore fk fsec fa ft : Int) (fl : Bool) (oao : Option Addr) (ocap : Nat) (okeep : List Bool) :
    Calls Try.prog 45 #[.pointer (some ⟨b, 0, none⟩), .pointer (some ⟨p, 0, none⟩), .agg #[.int .i64 7, .int .i64 osec, .int .u8 ofill, .int .i64 omore, .int .i64 fk, .int .i64 fsec, .int .i64 fa, .int .i64 ft, .bool fl, .slice oao okeep.length ocap]] W fun r W' => r = .returned (.bool true) ∧ ∃ S' H', PP W' b p S' S' (N + 1) H' ∧ Mv W W' H H' := by
  have hB0 : Below W.heap.size W (W.alloc (.cells #[.int .i64 7, .int .i64 osec, .int .u8 ofill, .int .i64 omore, .int .i64 fk, .int .i64 fsec, .int .i64 fa, .int .i64 ft, .bool fl, .slice oao okeep.length ocap] TOp)) := (Below.refl _ W).alloc (Nat.le_refl _) _
  obtain ⟨W0, hW0⟩ : ∃ W0, W0 = W.alloc (.cells #[.int .i64 7, .int .i64 osec, .int .u8 ofill, .int .i64 omore, .int .i64 fk, .int .i64 fsec, .int .i64 fa, .int .i64 ft, .bool fl, .slice oao okeep.length ocap] TOp) := ⟨_, rfl⟩
  rw [← hW0] at hB0
  have HP0 : Hid (PP W0 b p S S N H) := h.later hB0
  have HMv : Hid (∀ W' H', Mv W0 W' H H' → Mv W W' H H') := fun W' H' hm => ⟨(Kp.of_below hB0 _).trans hm.kp (fun i hi => .inl hi), fun i hi => (hm.sub i hi).imp id (fun h1 => Nat.le_trans hB0.size h1)⟩
  have HW0 : Hid (W0 = W.alloc (.cells #[.int .i64 7, .int .i64 osec, .int .u8 ofill, .int .i64 omore, .int .i64 fk, .int .i64 fsec, .int .i64 fa, .int .i64 ft, .bool fl, .slice oao okeep.length ocap] TOp)) := hW0
  have HXl : Hid (∀ i ∈ H, i < W0.heap.size) := fun i hi => Nat.lt_of_lt_of_le (h.lt i hi) hB0.size
  have hql : S.q.length ≤ 1048576 := Nat.le_trans h.qlen (by omega)
  have HOk : Hid (∀ x ∈ S.q, OkB x.2) := by
    obtain ⟨rq, Q, _, _, _, e, hok⟩ := h.queueR
    intro x hx
    rw [← e] at hx
    obtain ⟨y, hy, rfl⟩ := List.mem_map.1 hx
    exact hok y hy
  obtain ⟨n, hn⟩ : ∃ n, n = S.q.length := ⟨_, rfl⟩
  have HNn : Hid (S.q.length = n) := hn.symm
  rw [← hn] at hql
  clear h hB0 hW0 hn
  go_enter Try.func45, Try.ntmps45
  go_wp2_with fail
  rw [← HW0.out]
  refine (HP0.out.queueD (by rw [HNn.out]; exact hql)).mono ?_
  rintro r W1 ⟨v1, A, rfl, ht1, he1, hp1, hk1⟩
  have hAl : A.length = n := by have := congrArg List.length he1; rw [List.length_map, HNn.out] at this; exact this
  obtain ⟨a1, c1, e1⟩ := own_slice (by have h1 := ht1.row; rw [hAl] at h1; exact h1)
  subst e1
  have HT1 : Hid (Told W1 W0.heap.size (.slice a1 n c1) A ∧ A.map bare = S.q ∧ A.length = n) := ⟨ht1, he1, hAl⟩
  have HP1 : Hid (PP W1 b p S S N H ∧ Kp W0 W1 H) := ⟨hp1, hk1⟩
  clear ht1 he1 hp1 hk1 hAl
  go_wp2_with fail
  refine (HP1.out.1.queueD (by rw [HNn.out]; exact hql)).mono ?_
  rintro r W2 ⟨v2, C, rfl, ht2, he2, hp2, hk2⟩
  have hCl : C.length = n := by have := congrArg List.length he2; rw [List.length_map, HNn.out] at this; exact this
  obtain ⟨a2, c2, e2⟩ := own_slice (by have h1 := ht2.row; rw [hCl] at h1; exact h1)
  subst e2
  have HL12 : Hid (∀ {T size m : Nat} {v : Value} {xs : List Value}, W1.ownsRow W0.heap.size T size v m xs → W2.ownsRow W0.heap.size T size v m xs) := fun {T size m v xs} hr => ownsRow_block hr (fun g e => hk2.block g (row_lt hr g e).1 (fun hm => by have h1 := HXl.out g hm; have h2 := (hr.lt g e).1; omega))
  have HT2 : Hid (Told W2 W1.heap.size (.slice a2 n c2) C ∧ C.map bare = S.q ∧ C.length = n ∧ Told W2 W0.heap.size (.slice a1 n c1) A) := ⟨ht2, he2, hCl, HL12.out HT1.out.1.row, fun x hx => HL12.out (HT1.out.1.dat x hx), HT1.out.1.two⟩
  have HP2 : Hid (PP W2 b p S S N H ∧ Kp W0 W2 H) := ⟨hp2, HP1.out.2.trans hk2 (fun i hi => .inl hi)⟩
  obtain ⟨rq, Q, hq1, hq2, hq3, hq4, hq5⟩ := hp2.queueR
  have HQ : Hid (W2.ownsRow 0 TPt 2 rq Q.length (qcells Q) ∧ (∀ x ∈ Q, W2.ownsRow 0 5 1 x.2.1 512 (x.2.2.map bv)) ∧ Q.map bare = S.q) := ⟨hq2, hq3, hq4⟩
  have hOkA : ∀ {X : List Pv}, X.map bare = S.q → ∀ x ∈ X, OkB x.2.2 := fun {X} hX x hx => HOk.out (bare x) (by rw [← hX]; exact List.mem_map_of_mem hx)
  have HS1 : Hid (Calls Try.prog 60 #[.slice a1 n c1, rq] W2 fun r W' => r = .returned (.bool true) ∧ Below W2.heap.size W2 W') :=
    SamePuts_yes (A := A) (Q := Q) HT2.out.2.2.2.row hq2 (fun x hx => owns_mono (HT2.out.2.2.2.dat x hx) (Nat.zero_le _)) hq3 (HT1.out.2.1.trans hq4.symm) (hOkA HT1.out.2.1) (by rw [HT1.out.2.2]; exact hql)
  have HS2 : Hid (∀ W3, Below W2.heap.size W2 W3 → Calls Try.prog 60 #[.slice a2 n c2, rq] W3 fun r W' => r = .returned (.bool true) ∧ Below W3.heap.size W3 W') := fun W3 hb =>
    SamePuts_yes (A := C) (Q := Q) (HT2.out.1.later hb).row (ownsRow_block hq2 (fun g e => hb.block g (row_lt hq2 g e).1)) (fun x hx => owns_mono ((HT2.out.1.later hb).dat x hx) (Nat.zero_le _)) (fun x hx => ownsRow_block (hq3 x hx) (fun g e => hb.block g (row_lt (hq3 x hx) g e).1)) (HT2.out.2.1.trans hq4.symm) (hOkA HT2.out.2.1) (by rw [HT2.out.2.2.1]; exact hql)
  have HOA : Hid (∀ x ∈ A ++ C, x.2.2.length = 512) := fun x hx => by
    rcases List.mem_append.1 hx with hx | hx
    · exact (hOkA HT1.out.2.1 x hx).len
    · exact (hOkA HT2.out.2.1 x hx).len
  clear ht2 he2 hp2 hk2 hCl hq2 hq3 hq4 hq5 hOkA
  go_wp2_with fail
  refine HS1.out.mono ?_
  clear HS1
  rintro r W3 ⟨rfl, hb3⟩
  have hs2 := HS2.out W3 hb3
  have q3 : W3.cell? ⟨p, 3, none⟩ = some rq := cell_later hb3 hq1
  have HB3 : Hid (Below W2.heap.size W2 W3) := hb3
  clear hb3 hq1
  go_wp2_with fail
  refine hs2.mono ?_
  clear hs2 HS2
  rintro r W4 ⟨rfl, hb4⟩
  have HB4 : Hid (Below W2.heap.size W2 W4) := HB3.out.trans (hb4.mono HB3.out.size)
  have HT4 : Hid (PP W4 b p S S N H ∧ Tq W0 W4 H W0.heap.size (.slice none 0 0) (.slice a1 n c1) (.slice a2 n c2) A C 0) := by
    have hb := HB4.out
    refine ⟨HP2.out.1.later hb, HP2.out.2.trans (Kp.of_below hb []) (by simp), World.ownsRow_nil _ _ _ _, fun g e => ?_, owns_mono (HT2.out.1.later hb).row (Nat.zero_le _), fun x hx => owns_mono ((HT2.out.2.2.2.later hb).dat x hx) (Nat.zero_le _), fun x hx => owns_mono ((HT2.out.1.later hb).dat x hx) (Nat.zero_le _)⟩
    have hr := (HT2.out.2.2.2.later hb).row
    obtain ⟨_, cs, hc⟩ := row_lt hr g e
    refine ⟨cs, hc, ?_, fun j x hx => ?_⟩
    · rcases hr.2 with ⟨e2, h0⟩ | ⟨g', cap', cur, e2, _, hg, hcc, _, hsz, _⟩
      · rw [h0]; omega
      · rw [e2] at e; simp [Value.ownBlock] at e; subst e; rw [hc] at hg; simp at hg; subst hg; omega
    · have hjl := (List.getElem?_eq_some_iff.1 hx).1
      have h1 := (qcells_at hx).2
      obtain ⟨ad, rfl⟩ : ∃ c, a1 = some ⟨g, 0, none⟩ := by
        rcases hr.2 with ⟨e2, h0⟩ | ⟨g', cap', cur, e2, _⟩
        · omega
        · rw [e2] at e; simp [Value.ownBlock] at e; subst e; simp at e2; exact ⟨0, e2.1⟩
      have hr' := hr
      rw [HT1.out.2.2] at hr'
      have h2 := hr'.cellAt (j * 2 + 1) (by have := HT1.out.2.2; omega)
      rw [h1, cell_of hc] at h2
      exact h2
  clear hb4 q3 HB3
  go_wp2
  go_loopw [14, 15] (fun c14 c15 wr => ∃ i : Nat, i ≤ n ∧ c15 = .int .i64 i ∧ Hid (PP wr b p S S N H ∧ Tq W0 wr H W0.heap.size c14 (.slice a1 n c1) (.slice a2 n c2) A C i)) (fun _ c15 _ => n - (intOf c15).toNat)
  case atStart => exact ⟨0, Nat.zero_le _, rfl, HT4⟩
  case round =>
    obtain ⟨i, hi, rfl, HS⟩ := hrel
    by_cases hlt : i < n
    · have hil : (i : Int) < (n : Int) := by omega
      obtain ⟨xa, hxa⟩ : ∃ x, A[i]? = some x := ⟨_, List.getElem?_eq_getElem (by have := HT1.out.2.2; omega)⟩
      obtain ⟨xc, hxc⟩ : ∃ x, C[i]? = some x := ⟨_, List.getElem?_eq_getElem (by have := HT2.out.2.2.1; omega)⟩
      obtain ⟨g1, hg1⟩ : ∃ g, a1 = some ⟨g, 0, none⟩ := by
        rcases HT1.out.1.row.2 with ⟨_, h0⟩ | ⟨g', cap', cur, e2, _⟩
        · have := HT1.out.2.2; omega
        · simp at e2; exact ⟨g', e2.1⟩
      obtain ⟨g2, hg2⟩ : ∃ g, a2 = some ⟨g, 0, none⟩ := by
        rcases HT2.out.1.row.2 with ⟨_, h0⟩ | ⟨g', cap', cur, e2, _⟩
        · have := HT2.out.2.2.1; omega
        · simp at e2; exact ⟨g', e2.1⟩
      subst hg1 hg2
      obtain ⟨s1, s2⟩ := HS.out
      obtain ⟨cur, hcu, hsz, hda⟩ := s2.r1 g1 rfl
      obtain ⟨ga, ca, cura, ea, _⟩ := own_form (s2.d1 xa (List.mem_of_getElem? hxa)) (by decide)
      obtain ⟨gc, cc, curc, ec, _⟩ := own_form (s2.d2 xc (List.mem_of_getElem? hxc)) (by decide)
      have k1 : wr.cell? ⟨g1, i * 2 + 1, none⟩ = some (.slice (some ⟨ga, 0, none⟩) 512 ca) := by rw [← ea]; exact (cell_of hcu).trans (hda i xa hxa)
      have hr2 := s2.r2
      rw [HT2.out.2.2.1] at hr2
      have k2 : wr.cell? ⟨g2, i * 2 + 1, none⟩ = some (.slice (some ⟨gc, 0, none⟩) 512 cc) := by rw [← ec, hr2.cellAt (i * 2 + 1) (by omega)]; exact (qcells_at hxc).2
      have HG1 : Hid (W0.heap.size ≤ g1 ∧ g1 < W1.heap.size ∧ W1.heap.size ≤ g2) := ⟨(HT1.out.1.row.lt g1 rfl).1, (HT1.out.1.row.lt g1 rfl).2, (HT2.out.1.row.lt g2 rfl).1⟩
      obtain ⟨to, tc, et⟩ := own_slice s2.tr
      subst et
      have HR4 : Hid (wr.ownsRow W0.heap.size TBs 1 (.slice to (i * 2) tc) (i * 2) ((dvs A C i).map (·.1))) := s2.tr
      have hWs := s2.kp.size
      have HPA : Hid (pat A i = .slice (some ⟨ga, 0, none⟩) 512 ca ∧ pat C i = .slice (some ⟨gc, 0, none⟩) 512 cc) := ⟨by rw [← ea]; exact pat_at hxa, by rw [← ec]; exact pat_at hxc⟩
      have HCu : Hid (wr.heap[g1]? = some (.cells cur TPt (0, 0)) ∧ A.length * 2 ≤ cur.size) := ⟨hcu, hsz⟩
      obtain ⟨i0, hi0, hz0, hz1, hz2⟩ := info_parts infoBs
      have HStp : Hid (∀ t2 w2, w2.ownsRow W0.heap.size TBs 1 t2 (i * 2 + 2) ((dvs A C i).map (·.1) ++ [.slice (some ⟨ga, 0, none⟩) 512 ca, .slice (some ⟨gc, 0, none⟩) 512 cc]) → (wr.alloc (.cells #[.slice (some ⟨ga, 0, none⟩) 512 ca, .slice (some ⟨gc, 0, none⟩) 512 cc] TBs)).drew.grownBy w2 (Value.slice to (i * 2) tc).ownBlock → (PP (w2.setCell ⟨g1, i * 2, none⟩ (.int .i64 (-7))) b p S S N H ∧ Tq W0 (w2.setCell ⟨g1, i * 2, none⟩ (.int .i64 (-7))) H W0.heap.size t2 (.slice (some ⟨g1, 0, none⟩) n c1) (.slice (some ⟨g2, 0, none⟩) n c2) A C (i + 1)) ∧ (∃ old, w2.cell? ⟨g1, i * 2, none⟩ = some old) ∧ w2.frozen? ⟨g1, i * 2, none⟩ = false) := fun t2 w2 ho2 hg2 => by
        have hb : Below wr.heap.size wr (wr.alloc (.cells #[.slice (some ⟨ga, 0, none⟩) 512 ca, .slice (some ⟨gc, 0, none⟩) 512 cc] TBs)).drew := (Below.refl _ wr).alloc (Nat.le_refl _) (.cells #[.slice (some ⟨ga, 0, none⟩) 512 ca, .slice (some ⟨gc, 0, none⟩) 512 cc] TBs) |>.trans ((below_drew _).mono (by rw [World.size_alloc]; omega))
        have hst := HS.out.2.step hb hg2 (by rw [HPA.out.1, HPA.out.2]; exact ho2) (Nat.le_refl _) rfl HG1.out.1 (by have := HG1.out; simp [Value.ownBlock]; omega)
        have hgx : w2.heap[g1]? = some (.cells cur TPt (0, 0)) := by
          have hl := (Array.getElem?_eq_some_iff.1 HCu.out.1).1
          refine (hg2.block g1 (Nat.lt_of_lt_of_le hl hb.size) (fun e => ?_)).trans ((hb.block g1 hl).trans HCu.out.1)
          obtain ⟨_, cs', hc'⟩ := row_lt HR4.out g1 e.symm
          rw [HCu.out.1] at hc'
          simp at hc'
          exact absurd hc'.2 (by decide)
        have hpp : PP (w2.setCell ⟨g1, i * 2, none⟩ (.int .i64 (-7))) b p S S N H := by
          have hkp : Kp wr (w2.setCell ⟨g1, i * 2, none⟩ (.int .i64 (-7))) ((Value.slice to (i * 2) tc).ownBlock.toList ++ [g1]) := Kp.set ((Kp.of_below hb _).grown hg2 (fun k e => .inl (by simp [e]))) (.inl (by simp)) _ _
          refine HS.out.1.kept hkp (fun x hx hm => ?_)
          have h1 := HXl.out x hx
          simp at hm
          rcases hm with hm | hm
          · have := (HR4.out.lt x hm).1; omega
          · have := HG1.out.1; omega
        exact ⟨⟨hpp, hst⟩, ⟨_, (cell_of hgx).trans (Array.getElem?_eq_getElem (by have h1 := HCu.out.2; have h2 := HT1.out.2.2; omega))⟩, frozen_of hgx⟩
      have HRd : Hid ((wr.alloc (.cells #[.slice (some ⟨ga, 0, none⟩) 512 ca, .slice (some ⟨gc, 0, none⟩) 512 cc] TBs)).drew.ownsRow W0.heap.size TBs 1 (.slice to (i * 2) tc) (i * 2) ((dvs A C i).map (·.1))) := ownsRow_block (HR4.out.alloc _) (fun g e => rfl)
      clear s1 s2 hcu hsz hda ea ec hr2 hxa hxc
      go_wp2_with fail
      go_region_law (first | (refine step_append_lies _ (by rfl) _ _ TBss (by rfl) W0.heap.size TBs i0 _ 1 24 Try.underlying110 hi0 hz0 hz1 hz2 (by rfl) (by decide) (.slice to (i * 2) tc) (i * 2) ((dvs A C i).map (·.1)) (by rfl) HRd.out ⟨wr.heap.size, 0, none⟩ 2 2 [.slice (some ⟨ga, 0, none⟩) 512 ca, .slice (some ⟨gc, 0, none⟩) 512 cc] (by rfl) (by rfl) (World.news_of_block (w := (wr.alloc (.cells #[.slice (some ⟨ga, 0, none⟩) 512 ca, .slice (some ⟨gc, 0, none⟩) 512 cc] TBs)).drew) (heap_alloc_new wr _)) (fun u hu => by simp at hu; rcases hu with rfl | rfl <;> rfl) (by decide) (by unfold maxLen; omega) (by omega) (by show _ ≤ (wr.alloc (.cells #[.slice (some ⟨ga, 0, none⟩) 512 ca, .slice (some ⟨gc, 0, none⟩) 512 cc] TBs)).heap.size; rw [World.size_alloc]; exact Nat.le_succ_of_le hWs) (wr.heap.size + 1) (by show (wr.alloc (.cells #[.slice (some ⟨ga, 0, none⟩) 512 ca, .slice (some ⟨gc, 0, none⟩) 512 cc] TBs)).heap.size = _; rw [World.size_alloc]) ?_; intro g' cap' w2 ho2 hg2 hat hlt'; obtain ⟨hNx, ⟨old, k3⟩, f3⟩ := HStp.out _ w2 ho2 hg2; have HNx : Hid (PP (w2.setCell ⟨g1, i * 2, none⟩ (.int .i64 (-7))) b p S S N H ∧ Tq W0 (w2.setCell ⟨g1, i * 2, none⟩ (.int .i64 (-7))) H W0.heap.size (.slice (some ⟨g', 0, none⟩) (i * 2 + 2) cap') (.slice (some ⟨g1, 0, none⟩) n c1) (.slice (some ⟨g2, 0, none⟩) n c2) A C (i + 1)) := hNx; clear ho2 hg2 hat hlt' hNx HStp))
      all_goals go_wp2
      all_goals go_roundw
      all_goals first
        | exact ⟨i + 1, by omega, by go_num, HNx⟩
        | (simp [intOf]; omega)
    · have e : i = n := by omega
      subst e
      obtain ⟨s1, s2⟩ := HS.out
      have hlA : A.length = i := HT1.out.2.2
      have hlC : C.length = A.length := by rw [hlA]; exact HT2.out.2.2.1
      have hbA : ∀ x ∈ A, ∀ g, x.2.1.ownBlock = some g → W0.heap.size ≤ g ∧ g < W1.heap.size := fun x hx g e => ⟨((HT1.out.1.dat x hx).lt g e).1, (row_lt (HT1.out.1.dat x hx) g e).1⟩
      have hbC : ∀ x ∈ C, ∀ g, x.2.1.ownBlock = some g → W1.heap.size ≤ g := fun x hx g e => ((HT2.out.1.dat x hx).lt g e).1
      have hls := told_ls (W := wr) (A := A) (C := C) (B := W0.heap.size) (B1 := W1.heap.size) (tv := u14) (by rw [hlA]; exact s2.tr) hlC s2.d1 (fun x hx => owns_up (s2.d2 x hx) (hbC x hx)) (fun x hx g e => (hbA x hx g e).2) HT1.out.1.two HT2.out.1.two HOA.out
      have hF : ∀ g ∈ dbs A ++ dbs C, W0.heap.size ≤ g ∧ ∃ cs, wr.heap[g]? = some (.cells cs 5 (0, 0)) := fun g hg => by
        rcases List.mem_append.1 hg with hg | hg
        · obtain ⟨x, hx, e⟩ := mem_dbs.1 hg
          exact ⟨(hbA x hx g e).1, (row_lt (s2.d1 x hx) g e).2⟩
        · obtain ⟨x, hx, e⟩ := mem_dbs.1 hg
          exact ⟨Nat.le_trans HP1.out.2.size (hbC x hx g e), (row_lt (s2.d2 x hx) g e).2⟩
      have ho := own_any hls.1 hls.2 (by rw [dvs_len, hlA]; omega) (fun g hg => by obtain ⟨_, cs, hc⟩ := hF g hg; exact (Array.getElem?_eq_some_iff.1 hc).1) (fun g e hg => by
        obtain ⟨_, cs, hc⟩ := hF g hg
        obtain ⟨_, cs', hc'⟩ := row_lt s2.tr g e
        rw [hc] at hc'
        simp at hc'
        exact absurd hc'.2 (by decide))
      have HO : Hid (∀ W', Kp wr W' (dbs A ++ dbs C) → PP W' b p S S (N + 1) H ∧ Mv W W' H H) := fun W' hk => by
        refine ⟨(s1.kept hk (fun x hx hm => ?_)).more (by omega), HMv.out W' H ⟨s2.kp.trans hk (fun x hx => .inr (hF x hx).1), fun x hx => .inl hx⟩⟩
        have h1 := HXl.out x hx
        have h2 := (hF x hm).1
        omega
      clear s1 s2 hls hF hbA hbC HS HT4
      go_wp2_with fail
      refine ho.mono ?_
      clear ho
      rintro r W6 ⟨rfl, hk6⟩
      have HP6 : Hid (PP W6 b p S S (N + 1) H ∧ Mv W W6 H H) := HO.out W6 hk6
      clear hk6 HO
      go_wp2
      go_ret
      exact ⟨rfl, _, H, HP6.out⟩
end Go.Proofs.Ythmonfmpgjbhmab.K

namespace Go.Proofs.Ythmonfmpgjbhmab.K
open Go.RowKit Go.Maps Go.Proofs.Ythmonfmpgjbhmab
attribute [local go_sem] Oper.semAt_some
set_option linter.unusedVariables false
set_option linter.unusedSimpArgs false
set_option maxRecDepth 100000

theorem asks_any {W : World} {b p : Nat} {S : Dk} {N : Nat} {H : List Nat} (h : PP W b p S S N H) (hN : N < 1048576) (okind osec : Int) (ofill : Nat) (omore fk fsec fa ft : Int) (fl : Bool) (oao : Option Addr) (ocap : Nat) (okeep : List Bool) (hwf : (Lit.int .i64 osec).wf = true) :
    Calls Try.prog 45 #[.pointer (some ⟨b, 0, none⟩), .pointer (some ⟨p, 0, none⟩), .agg #[.int .i64 okind, .int .i64 osec, .int .u8 ofill, .int .i64 omore, .int .i64 fk, .int .i64 fsec, .int .i64 fa, .int .i64 ft, .bool fl, .slice oao okeep.length ocap]] W fun r W' => r = .returned (.bool true) ∧ ∃ S' H', PP W' b p S' S' (N + 1) H' ∧ Mv W W' H H' := by
  by_cases hk : okind < 6 ∨ 10 < okind
  · exact asks_none h hN okind osec ofill omore fk fsec fa ft fl oao ocap okeep hk
  · have : okind = 6 ∨ okind = 7 ∨ okind = 8 ∨ okind = 9 ∨ okind = 10 := by omega
    rcases this with rfl | rfl | rfl | rfl | rfl
    · exact asks_faults h hN osec ofill omore fk fsec fa ft fl oao ocap okeep
    · exact asks_queue h hN osec ofill omore fk fsec fa ft fl oao ocap okeep
    · exact asks_waits h hN osec ofill omore fk fsec fa ft fl oao ocap okeep hwf
    · exact asks_image h hN osec ofill omore fk fsec fa ft fl oao ocap okeep
    · exact asks_stats h hN osec ofill omore fk fsec fa ft fl oao ocap okeep
set_option maxHeartbeats 4000000 in
theorem acts_other {W : World} {b p : Nat} {S : Dk} {N : Nat} {H : List Nat} (h : PP W b p S S N H) (hN : N < 1048576) (okind osec : Int) (ofill : Nat) (omore fk fsec fa ft : Int) (fl : Bool) (oao : Option Addr) (ocap : Nat) (okeep : List Bool) (hwf : (Lit.int .i64 osec).wf = true) (hk : okind < 1 ∨ 5 < okind) :
    Calls Try.prog 20 #[.pointer (some ⟨b, 0, none⟩), .pointer (some ⟨p, 0, none⟩), .agg #[.int .i64 okind, .int .i64 osec, .int .u8 ofill, .int .i64 omore, .int .i64 fk, .int .i64 fsec, .int .i64 fa, .int .i64 ft, .bool fl, .slice oao okeep.length ocap]] W fun r W' => r = .returned (.bool true) ∧ ∃ S' H', PP W' b p S' S' (N + 1) H' ∧ Mv W W' H H' := by
  have hB0 : Below W.heap.size W (W.alloc (.cells #[.int .i64 okind, .int .i64 osec, .int .u8 ofill, .int .i64 omore, .int .i64 fk, .int .i64 fsec, .int .i64 fa, .int .i64 ft, .bool fl, .slice oao okeep.length ocap] TOp)) := (Below.refl _ W).alloc (Nat.le_refl _) _
  obtain ⟨W0, hW0⟩ : ∃ W0, W0 = W.alloc (.cells #[.int .i64 okind, .int .i64 osec, .int .u8 ofill, .int .i64 omore, .int .i64 fk, .int .i64 fsec, .int .i64 fa, .int .i64 ft, .bool fl, .slice oao okeep.length ocap] TOp) := ⟨_, rfl⟩
  rw [← hW0] at hB0
  have HP0 : Hid (PP W0 b p S S N H) := h.later hB0
  have HMv : Hid (∀ W' H', Mv W0 W' H H' → Mv W W' H H') := fun W' H' hm => ⟨(Kp.of_below hB0 _).trans hm.kp (fun i hi => .inl hi), fun i hi => (hm.sub i hi).imp id (fun h1 => Nat.le_trans hB0.size h1)⟩
  have HW0 : Hid (W0 = W.alloc (.cells #[.int .i64 okind, .int .i64 osec, .int .u8 ofill, .int .i64 omore, .int .i64 fk, .int .i64 fsec, .int .i64 fa, .int .i64 ft, .bool fl, .slice oao okeep.length ocap] TOp)) := hW0
  have HAs : Hid (Calls Try.prog 45 #[.pointer (some ⟨b, 0, none⟩), .pointer (some ⟨p, 0, none⟩), .agg #[.int .i64 okind, .int .i64 osec, .int .u8 ofill, .int .i64 omore, .int .i64 fk, .int .i64 fsec, .int .i64 fa, .int .i64 ft, .bool fl, .slice oao okeep.length ocap]] W0 fun r W' => r = .returned (.bool true) ∧ ∃ S' H', PP W' b p S' S' (N + 1) H' ∧ Mv W0 W' H H') := asks_any HP0.out hN okind osec ofill omore fk fsec fa ft fl oao ocap okeep hwf
  have n1 : ¬ okind = 1 := by omega
  have n2 : ¬ okind = 2 := by omega
  have n3 : ¬ okind = 3 := by omega
  have n4 : ¬ okind = 4 := by omega
  have n5 : ¬ okind = 5 := by omega
  clear h hB0 hW0 hwf hk
  go_enter Try.func20, Try.ntmps20
  go_wp2_with fail
  rw [← HW0.out]
  refine HAs.out.mono ?_
  rintro r W1 ⟨rfl, S', H', hp, hm⟩
  have HR : Hid (PP W1 b p S' S' (N + 1) H' ∧ Mv W W1 H H') := ⟨hp, HMv.out W1 H' hm⟩
  clear hp hm
  go_wp2
  go_ret
  exact ⟨rfl, _, _, HR.out⟩
theorem acts_any {W : World} {b p : Nat} {S : Dk} {N : Nat} {H : List Nat} (h : PP W b p S S N H) (hN : N < 1048576) (okind osec : Int) (ofill : Nat) (omore fk fsec fa ft : Int) (fl : Bool) (oao : Option Addr) (ocap : Nat) (okeep : List Bool) (hwf : (Lit.int .i64 osec).wf = true) (hfill : ofill < 256) (hfa : I64 fa) (hft : I64 ft) (hr : BoRow W oao ocap okeep) (hap : ∀ ad, oao = some ad → okeep ≠ [] → ad.block ∉ H) :
    Calls Try.prog 20 #[.pointer (some ⟨b, 0, none⟩), .pointer (some ⟨p, 0, none⟩), .agg #[.int .i64 okind, .int .i64 osec, .int .u8 ofill, .int .i64 omore, .int .i64 fk, .int .i64 fsec, .int .i64 fa, .int .i64 ft, .bool fl, .slice oao okeep.length ocap]] W fun r W' => r = .returned (.bool true) ∧ ∃ S' H', PP W' b p S' S' (N + 1) H' ∧ Mv W W' H H' := by
  by_cases hk : okind < 1 ∨ 5 < okind
  · exact acts_other h hN okind osec ofill omore fk fsec fa ft fl oao ocap okeep hwf hk
  · have : okind = 1 ∨ okind = 2 ∨ okind = 3 ∨ okind = 4 ∨ okind = 5 := by omega
    rcases this with rfl | rfl | rfl | rfl | rfl
    · exact acts_read h hN osec ofill omore fk fsec fa ft fl oao ocap okeep
    · exact acts_write h hN osec ofill omore fk fsec fa ft fl oao ocap okeep hfill
    · exact acts_bar h hN osec ofill omore fk fsec fa ft fl oao ocap okeep
    · exact acts_fault h hN osec ofill omore fk fsec fa ft fl oao ocap okeep hfa hft
    · exact acts_crash h hN osec ofill omore fk fsec fa ft fl oao ocap okeep hr hap
end Go.Proofs.Ythmonfmpgjbhmab.K

namespace Go.Proofs.Ythmonfmpgjbhmab.K
open Go.RowKit Go.Maps Go.Proofs.Ythmonfmpgjbhmab
attribute [local go_sem] Oper.semAt_some
set_option linter.unusedVariables false
set_option linter.unusedSimpArgs false
set_option maxRecDepth 100000

theorem PP.new {w W : World} {b p n ms ml : Nat} (h0 : 1 ≤ n) (h1 : n ≤ 65536) (h : Hs w W b ms ml (.slice none 0 0) (.slice none 0 0) (newDk n)) (hr : RRf W p n (.slice none 0 0) 0) (hp : p ∉ fp b ms ml (.slice none 0 0) (.slice none 0 0)) :
    PP W b p (newDk n) (newDk n) 0 (fp b ms ml (.slice none 0 0) (.slice none 0 0) ++ fr p (.slice none 0 0) (.slice none 0 0) (.slice none 0 0) ([] ++ [])) := by
  refine ⟨⟨ms, ml, _, _, _, _, _, [], [], h.rk, ?_, Nat.le_refl _, fun i hi hm => ?_, rfl⟩, ⟨by simp [newDk], by simp [newDk]⟩, ⟨by simp [newDk], by simp [newDk]⟩⟩
  · exact ⟨hr, h0, h1, World.ownsRow_nil _ _ _ _, World.ownsRow_nil _ _ _ _, World.ownsRow_nil _ _ _ _, by simp, by simp, fun g e => by simp [Value.ownBlock] at e, rfl, fun s hs => rfl, fun _ => rfl⟩
  · rcases mem_fr.1 hm with rfl | hm | hm | hm | ⟨x, hx, _⟩
    · exact hp hi
    · simp [Value.ownBlock] at hm
    · simp [Value.ownBlock] at hm
    · simp [Value.ownBlock] at hm
    · simp at hx
/-- the old disk beside the pair that plays on -/
structure Cy (w W : World) (b b' p : Nat) (S : Dk) (N M : Nat) (H : List Nat) : Prop where
  pp : PP W b' p S S N H
  bl : Below w.heap.size w W
  own : ∀ i ∈ H, w.heap.size ≤ i
  old : ∃ ms ml qv fv S', RK W 0 b ms ml qv fv S' ∧ FsOk S'.fs ∧ S'.q.length ≤ M ∧ ∀ i ∈ fp b ms ml qv fv, i ∉ H ∧ w.heap.size ≤ i
theorem Cy.later {w W W' : World} {b b' p : Nat} {S : Dk} {N M : Nat} {H : List Nat} (h : Cy w W b b' p S N M H) (hb : Below W.heap.size W W') : Cy w W' b b' p S N M H := by
  obtain ⟨ms, ml, qv, fv, S', h1, h2⟩ := h.old
  exact ⟨h.pp.later hb, h.bl.trans (hb.mono h.bl.size), h.own, ms, ml, qv, fv, S', h1.later hb, h2⟩
theorem Cy.act {w W W' : World} {b b' p : Nat} {S S1 : Dk} {N M' : Nat} {H : List Nat} {ms ml ms' ml' : Nat} {qv fv qv' fv' : Value} (hpp : PP W b' p S S N H) (hbl : Below w.heap.size w W) (hown : ∀ i ∈ H, w.heap.size ≤ i) (hfp : ∀ i ∈ fp b ms ml qv fv, i ∉ H ∧ w.heap.size ≤ i) (ha : DAct W W' 0 b ms ml ms' ml' qv fv qv' fv' S1) (hf : FsOk S1.fs) (hq : S1.q.length ≤ M') : Cy w W' b b' p S N M' H := by
  refine ⟨hpp.kept ha.kp (fun i hi hm => (hfp i hm).1 hi), hbl.trans (ha.kp.below (fun i hi => (hfp i hi).2) hbl.size), hown, ms', ml', qv', fv', S1, ha.rk, hf, hq, fun i hi => ?_⟩
  rcases ha.sub i hi with h1 | h1
  · exact hfp i h1
  · exact ⟨fun hm => by have := hpp.lt i hm; omega, Nat.le_trans hbl.size h1⟩
theorem PP.copy {w W : World} {b p : Nat} {S : Dk} {N : Nat} {H : List Nat} (h : PP W b p S S N H) (hN : N ≤ 1048576) (hbl : Below w.heap.size w W) (hown : ∀ i ∈ H, w.heap.size ≤ i) :
    Calls Try.prog 47 #[.pointer (some ⟨b, 0, none⟩)] W fun r W' => ∃ b' H', r = .returned (.pointer (some ⟨b', 0, none⟩)) ∧ Cy w W' b b' p S N N H' := by
  have hql := h.qlen
  have hlt := h.lt
  obtain ⟨ms, ml, qv, fv, dv, rq, av, D, Q, hk, hr, hNN, hd, rfl⟩ := h.ex
  refine (copy_any hk h.fs (by omega)).mono ?_
  rintro r W' ⟨b', ms', ml', qv', fv', rfl, hk', hnew, ha⟩
  have hrr := hr.kept ha.kp (fun i hi hm => hd i hm hi)
  have hlr := hr.lt
  refine ⟨b', _, rfl, ⟨⟨ms', ml', qv', fv', dv, rq, av, D, Q, hk', hrr, hNN, fun i hi hm => ?_, rfl⟩, h.fs, h.ft⟩, hbl.trans (ha.kp.below (fun i hi => hown i (List.mem_append_left _ hi)) hbl.size), fun i hi => ?_, ms, ml, qv, fv, S, ha.rk, h.fs, hql, fun i hi => ⟨fun hm => ?_, hown i (List.mem_append_left _ hi)⟩⟩
  · have h1 := hnew i hi
    have h2 := hlr i hm
    omega
  · rcases List.mem_append.1 hi with hi | hi
    · exact Nat.le_trans hbl.size (hnew i hi)
    · exact hown i (List.mem_append_right _ hi)
  · rcases List.mem_append.1 hm with hm | hm
    · have h1 := hnew i hm
      have h2 := hk.lt i hi
      omega
    · exact hd i hi hm
section
variable {w W : World} {b b' p : Nat} {S : Dk} {N M : Nat} {H : List Nat}
theorem Cy.write {W3 : World} (h : Cy w W b b' p S N M H) (hb : Below W.heap.size W W3) (hM : M < 1048576) (s : Int) {l : List Nat} (hlt : ∀ x ∈ l, x < 256) {m : Nat} (hm : l.length = m) (hm0 : 0 < m) (hm1 : m ≤ 140737488351232) {v : Value} (hsrc : W3.ownsRow W.heap.size 5 1 v m (l.map bv)) : Calls Try.prog 8 #[.pointer (some ⟨b, 0, none⟩), .int .i64 s, v] W3 fun r W' => (∃ e : Int, r = .returned (.int .i64 e)) ∧ Cy w W' b b' p S N (M + 1) H := by
  have h' := h.later hb
  obtain ⟨ms, ml, qv, fv, S', h1, h2, h3, h4⟩ := h.old
  obtain ⟨g, c, cur, rfl, hg, hh, hc⟩ := own_form hsrc hm0
  refine (write_gen (h1.later hb) h2 (by omega) s hlt hm hm1 (sb := g) (so := 0) (cap := c) (fun j v hv => ?_) (fun hx => by have := h1.lt g hx; omega)).mono ?_
  · rw [List.getElem?_map] at hv
    cases hx : l[j]? with
    | none => rw [hx] at hv; cases hv
    | some x => rw [hx] at hv; cases hv; rw [Nat.zero_add]; exact (cell_of hh).trans (hc j x hx)
  · rintro r W' ⟨rfl, qv', fv1, ha⟩
    exact ⟨⟨_, rfl⟩, Cy.act h'.pp h'.bl h'.own h4 ha (wrS_ok h2 s l) (Nat.le_trans (wrS_q S' s l) (by omega))⟩
theorem Cy.bar (h : Cy w W b b' p S N M H) (hM : M ≤ 1048576) : Calls Try.prog 13 #[.pointer (some ⟨b, 0, none⟩)] W fun r W' => (∃ e : Int, r = .returned (.int .i64 e)) ∧ Cy w W' b b' p S N M H := by
  obtain ⟨ms, ml, qv, fv, S', h1, h2, h3, h4⟩ := h.old
  refine (barrier_gen h1 h2 (by omega)).mono ?_
  rintro r W' ⟨rfl, ml', qv', fv1, ha⟩
  refine ⟨⟨_, rfl⟩, Cy.act h.pp h.bl h.own h4 ha (baS_ok h2) ?_⟩
  unfold baS
  split
  · rw [failS_q]; exact h3
  · simp [barred, settled]
theorem Cy.fault (h : Cy w W b b' p S N M H) (f : Flt) (ha : I64 f.after) (ht : I64 f.times) : Calls Try.prog 10 #[.pointer (some ⟨b, 0, none⟩), .agg #[.int .i64 f.kind, .int .i64 f.sector, .int .i64 f.after, .int .i64 f.times, .bool f.land]] W fun r W' => (∃ e : Int, r = .returned (.int .i64 e)) ∧ Cy w W' b b' p S N M H := by
  obtain ⟨ms, ml, qv, fv, S', h1, h2, h3, h4⟩ := h.old
  refine (fault_gen h1 h2 f).mono ?_
  rintro r W' ⟨rfl, fv1, hx⟩
  exact ⟨⟨_, rfl⟩, Cy.act h.pp h.bl h.own h4 hx (faS_ok h2 ha ht) (by rw [faS_q]; exact h3)⟩
theorem Cy.crash (h : Cy w W b b' p S N M H) (hM : M ≤ 1048576) : Calls Try.prog 16 #[.pointer (some ⟨b, 0, none⟩), .slice none 0 0] W fun r W' => r = .returned (.tuple #[]) ∧ Cy w W' b b' p S N M H := by
  obtain ⟨ms, ml, qv, fv, S', h1, h2, h3, h4⟩ := h.old
  refine (crash_any h1 (by omega) (ao := none) (cap := 0) (n := 0) (l := []) ⟨by simp, fun _ => ⟨rfl, rfl⟩, fun h => absurd rfl h⟩ rfl (fun ad e => by cases e)).mono ?_
  rintro r W' ⟨rfl, ml', ha⟩
  exact ⟨rfl, Cy.act h.pp h.bl h.own h4 ha (crashed_ok [] S') (by simp [crashed, settled])⟩
end
end Go.Proofs.Ythmonfmpgjbhmab.K

namespace Go.Proofs.Ythmonfmpgjbhmab.K
open Go.RowKit Go.Maps Go.Proofs.Ythmonfmpgjbhmab
attribute [local go_sem] Oper.semAt_some
set_option linter.unusedVariables false
set_option linter.unusedSimpArgs false
set_option maxRecDepth 100000

theorem keep_out {w : World} {o : Opn} {H : List Nat} (ho : OpOk w o) (hown : ∀ i ∈ H, w.heap.size ≤ i) : ∀ ad, o.ao = some ad → o.keep ≠ [] → ad.block ∉ H := fun ad e hne hm => by
  obtain ⟨bb, off', e2, hcc⟩ := ho.row.at_ hne
  rw [e] at e2
  cases e2
  have h5 : bb < w.heap.size := by
    cases hk : o.keep with
    | nil => exact absurd hk hne
    | cons x r => exact cell_lt (hcc 0 x (by rw [hk]; rfl))
  have h6 : w.heap.size ≤ bb := hown _ hm
  omega
/-- two pairs side by side -/
structure Tw (w W : World) (b p c q : Nat) (S S2 : Dk) (i k : Nat) (H H2 : List Nat) : Prop where
  p1 : PP W b p S S i H
  p2 : PP W c q S2 S2 k H2
  dis : ∀ x ∈ H, x ∉ H2
  bl : Below w.heap.size w W
  o1 : ∀ x ∈ H, w.heap.size ≤ x
  o2 : ∀ x ∈ H2, w.heap.size ≤ x
section
variable {w W W' : World} {b p c q : Nat} {S S2 S' : Dk} {i k i' : Nat} {H H2 H' : List Nat}
theorem Tw.later (h : Tw w W b p c q S S2 i k H H2) (hb : Below W.heap.size W W') : Tw w W' b p c q S S2 i k H H2 := ⟨h.p1.later hb, h.p2.later hb, h.dis, h.bl.trans (hb.mono h.bl.size), h.o1, h.o2⟩
theorem Tw.one (h : Tw w W b p c q S S2 i k H H2) (hp : PP W' b p S' S' i' H') (hm : Mv W W' H H') : Tw w W' b p c q S' S2 i' k H' H2 :=
  ⟨hp, h.p2.kept hm.kp (fun x hx hy => h.dis x hy hx), fun x hx hy => (hm.sub x hx).elim (fun h1 => h.dis x h1 hy) (fun h1 => by have := h.p2.lt x hy; omega), h.bl.trans (hm.kp.below h.o1 h.bl.size), fun x hx => (hm.sub x hx).elim (h.o1 x) (fun h1 => Nat.le_trans h.bl.size h1), h.o2⟩
theorem Tw.two (h : Tw w W b p c q S S2 i k H H2) (hp : PP W' c q S' S' i' H') (hm : Mv W W' H2 H') : Tw w W' b p c q S S' i i' H H' :=
  ⟨h.p1.kept hm.kp (fun x hx => h.dis x hx), hp, fun x hx hy => (hm.sub x hy).elim (fun h1 => h.dis x hx h1) (fun h1 => by have := h.p1.lt x hx; omega), h.bl.trans (hm.kp.below h.o2 h.bl.size), h.o1, fun x hx => (hm.sub x hx).elim (h.o2 x) (fun h1 => Nat.le_trans h.bl.size h1)⟩
end
/-- what is known of the i-th call that was handed in -/
theorem op_at {w : World} {ao : Option Addr} {l : List Opn} (hr : ORow w ao l) (hok : ∀ o ∈ l, OpOk w o) {i : Nat} {o : Opn} (ho : l[i]? = some o) : ∃ bs off, ao = some ⟨bs, off, none⟩ ∧ OpOk w o ∧ ∀ W, Below w.heap.size w W → OpOk W o ∧ ∀ j, j < 10 → W.cell? ⟨bs, off + i * 10 + j, none⟩ = o.cells[j]? := by
  obtain ⟨bs, off, hao, hcs⟩ := hr.at_ i o ho
  have hokk := hok o (List.mem_of_getElem? ho)
  refine ⟨bs, off, hao, hokk, fun W hb => ⟨⟨hokk.fill, hokk.sw, hokk.fa, hokk.ft, hokk.row.kept (Kp.of_below hb []) (by simp)⟩, fun j hj => ?_⟩⟩
  have h1 := hcs j hj
  obtain ⟨v, hv⟩ : ∃ v, o.cells[j]? = some v := ⟨_, List.getElem?_eq_getElem hj⟩
  rw [hv] at h1 ⊢
  exact cell_later hb h1
theorem acts_one {W : World} {b p : Nat} {S : Dk} {N : Nat} {H : List Nat} (h : PP W b p S S N H) (hN : N < 1048576) (o : Opn) (ho : OpOk W o) (hap : ∀ ad, o.ao = some ad → o.keep ≠ [] → ad.block ∉ H) :
    Calls Try.prog 20 #[.pointer (some ⟨b, 0, none⟩), .pointer (some ⟨p, 0, none⟩), .agg #[.int .i64 o.kind, .int .i64 o.sector, .int .u8 o.fill, .int .i64 o.more, .int .i64 o.f.kind, .int .i64 o.f.sector, .int .i64 o.f.after, .int .i64 o.f.times, .bool o.f.land, .slice o.ao o.keep.length o.cap]] W fun r W' => r = .returned (.bool true) ∧ ∃ S' H', PP W' b p S' S' (N + 1) H' ∧ Mv W W' H H' :=
  acts_any h hN o.kind o.sector o.fill o.more o.f.kind o.f.sector o.f.after o.f.times o.f.land o.ao o.cap o.keep ho.sw ho.fill ho.fa ho.ft ho.row hap
theorem made_own {w W : World} {b p ms ml n : Nat} (hs : Hs w W b ms ml (.slice none 0 0) (.slice none 0 0) (newDk n)) (hpw : w.heap.size ≤ p) : ∀ i ∈ fp b ms ml (.slice none 0 0) (.slice none 0 0) ++ fr p (.slice none 0 0) (.slice none 0 0) (.slice none 0 0) ([] ++ []), w.heap.size ≤ i := fun i hi => by
  rcases List.mem_append.1 hi with hi | hi
  · exact hs.own i hi
  · rcases mem_fr.1 hi with rfl | hm | hm | hm | ⟨x, hx, _⟩
    · exact hpw
    · simp [Value.ownBlock] at hm
    · simp [Value.ownBlock] at hm
    · simp [Value.ownBlock] at hm
    · simp at hx
set_option maxHeartbeats 8000000 in
theorem lawApart_any (w : World) (ns : Nat) (h0 : 1 ≤ ns) (h1 : ns ≤ 65536) (ao ao2 : Option Addr) (n cap n2 cap2 : Nat) (l l2 : List Opn) (hn : n = l.length) (hn1 : n ≤ 1048575) (hr : ORow w ao l) (hok : ∀ o ∈ l, OpOk w o) (hn' : n2 = l2.length) (hn2 : n2 ≤ 1048575) (hr2 : ORow w ao2 l2) (hok2 : ∀ o ∈ l2, OpOk w o) :
    Calls Try.prog 4 #[.int .i64 ns, .slice ao n cap, .slice ao2 n2 cap2] w fun r w' => r = .returned (.bool true) ∧ Below w.heap.size w w' := by
  have hmade := made_any w ns h0 h1
  have HN : Hid (l.length = n ∧ l2.length = n2) := ⟨hn.symm, hn'.symm⟩
  have HO : Hid (∀ i o, l[i]? = some o → ∃ bs off, ao = some ⟨bs, off, none⟩ ∧ OpOk w o ∧ ∀ W, Below w.heap.size w W → OpOk W o ∧ ∀ j, j < 10 → W.cell? ⟨bs, off + i * 10 + j, none⟩ = o.cells[j]?) := fun i o ho => op_at hr hok ho
  have HO2 : Hid (∀ i o, l2[i]? = some o → ∃ bs off, ao2 = some ⟨bs, off, none⟩ ∧ OpOk w o ∧ ∀ W, Below w.heap.size w W → OpOk W o ∧ ∀ j, j < 10 → W.cell? ⟨bs, off + i * 10 + j, none⟩ = o.cells[j]?) := fun i o ho => op_at hr2 hok2 ho
  have H01 : Hid (1 ≤ ns ∧ ns ≤ 65536) := ⟨h0, h1⟩
  clear hn hr hok h0 h1 hn' hr2 hok2
  go_enter Try.func4, Try.ntmps4
  go_wp2_with fail
  refine hmade.mono ?_
  clear hmade
  rintro e w1 ⟨b, p, rfl, ms, ml, hs, hrf, hpw, hpf⟩
  obtain ⟨H, hH⟩ : ∃ H, H = fp b ms ml (.slice none 0 0) (.slice none 0 0) ++ fr p (.slice none 0 0) (.slice none 0 0) (.slice none 0 0) ([] ++ []) := ⟨_, rfl⟩
  have HS1 : Hid (PP w1 b p (newDk ns) (newDk ns) 0 H ∧ Below w.heap.size w w1 ∧ ∀ i ∈ H, w.heap.size ≤ i) := by
    rw [hH]
    exact ⟨PP.new H01.out.1 H01.out.2 hs hrf hpf, hs.bl, made_own hs hpw⟩
  clear hs hrf hpw hpf hH
  go_wp2_with fail
  refine Calls.mono (made_any w1 3 (by decide) (by decide)) ?_
  rintro e w2 ⟨c, q, rfl, ms2, ml2, hs, hrf, hpw, hpf⟩
  have HS2 : Hid (∃ S S2 H H2, Tw w w2 b p c q S S2 0 0 H H2) := by
    have ho := made_own hs hpw
    exact ⟨_, _, _, _, HS1.out.1.later hs.bl, PP.new (by decide) (by decide) hs hrf hpf, fun x hx hy => by have h1 := HS1.out.1.lt x hx; have h2 := ho x hy; omega, HS1.out.2.1.trans (hs.bl.mono HS1.out.2.1.size), HS1.out.2.2, fun x hx => Nat.le_trans HS1.out.2.1.size (ho x hx)⟩
  clear hs hrf hpw hpf HS1
  have hhd := heads_any w2
  go_wp2_with fail
  refine hhd.mono ?_
  clear hhd
  rintro e w3 ⟨rfl, hb3⟩
  have HS3 : Hid (∃ S S2 H H2, Tw w w3 b p c q S S2 0 0 H H2) := by
    obtain ⟨S, S2, H, H2, h⟩ := HS2.out
    exact ⟨S, S2, H, H2, h.later hb3⟩
  clear hb3 HS2
  go_wp2
  go_loopw [13] (fun c13 wr => ∃ i : Nat, (i ≤ n ∨ i ≤ n2) ∧ c13 = .int .i64 i ∧ Hid (∃ S S2 H H2, Tw w wr b p c q S S2 i i H H2)) (fun c13 _ => n + n2 - (intOf c13).toNat)
  case atStart => exact ⟨0, .inl (Nat.zero_le _), rfl, HS3⟩
  case round =>
    obtain ⟨i, hi, rfl, HW⟩ := hrel
    obtain ⟨S, S2, H, H2, htw⟩ := HW.out
    have HTwr : Hid (Tw w wr b p c q S S2 i i H H2) := htw
    clear htw HW HS3
    by_cases hlt : i < n
    · obtain ⟨o, ho⟩ : ∃ o, l[i]? = some o := ⟨_, List.getElem?_eq_getElem (by have := HN.out.1; omega)⟩
      obtain ⟨xbs, xoff, haox, hokx, hatx⟩ := HO.out i o ho
      subst haox
      have hcx := (hatx wr HTwr.out.bl).2
      have HAx := acts_one HTwr.out.p1 (by omega) o (hatx wr HTwr.out.bl).1 (keep_out hokx HTwr.out.o1)
      clear ho hokx hatx
      obtain ⟨okind, osec, ofill, omore, ⟨ofk, ofsec, ofa, oft, ofl⟩, oao, ocap, okeep⟩ := o
      have xq0 : wr.cell? ⟨xbs, xoff + i * 10, none⟩ = some (.int .i64 okind) := hcx 0 (by decide)
      have xq1 : wr.cell? ⟨xbs, xoff + i * 10 + 1, none⟩ = some (.int .i64 osec) := hcx 1 (by decide)
      have xq2 : wr.cell? ⟨xbs, xoff + i * 10 + 2, none⟩ = some (.int .u8 ofill) := hcx 2 (by decide)
      have xq3 : wr.cell? ⟨xbs, xoff + i * 10 + 3, none⟩ = some (.int .i64 omore) := hcx 3 (by decide)
      have xq4 : wr.cell? ⟨xbs, xoff + i * 10 + 4, none⟩ = some (.int .i64 ofk) := hcx 4 (by decide)
      have xq5 : wr.cell? ⟨xbs, xoff + i * 10 + 5, none⟩ = some (.int .i64 ofsec) := hcx 5 (by decide)
      have xq6 : wr.cell? ⟨xbs, xoff + i * 10 + 6, none⟩ = some (.int .i64 ofa) := hcx 6 (by decide)
      have xq7 : wr.cell? ⟨xbs, xoff + i * 10 + 7, none⟩ = some (.int .i64 oft) := hcx 7 (by decide)
      have xq8 : wr.cell? ⟨xbs, xoff + i * 10 + 8, none⟩ = some (.bool ofl) := hcx 8 (by decide)
      have xq9 : wr.cell? ⟨xbs, xoff + i * 10 + 9, none⟩ = some (.slice oao okeep.length ocap) := hcx 9 (by decide)
      clear hcx
      have hlx : (i : Int) < (n : Int) := by omega
      go_wp2_with fail
      refine Calls.mono HAx ?_
      clear HAx
      rintro r Wa ⟨rfl, SWa, HWa, hpWa, hmWa⟩
      have HTWa : Hid (Tw w Wa b p c q SWa S2 (i + 1) i HWa H2) := HTwr.out.one hpWa hmWa
      clear hpWa hmWa xq0 xq1 xq2 xq3 xq4 xq5 xq6 xq7 xq8 xq9
      by_cases hlt2 : i < n2
      · obtain ⟨e, he⟩ : ∃ o, l2[i]? = some o := ⟨_, List.getElem?_eq_getElem (by have := HN.out.2; omega)⟩
        obtain ⟨ybs, yoff, haoy, hoky, haty⟩ := HO2.out i e he
        subst haoy
        have hcy := (haty Wa HTWa.out.bl).2
        have HAy := acts_one HTWa.out.p2 (by omega) e (haty Wa HTWa.out.bl).1 (keep_out hoky HTWa.out.o2)
        clear he hoky haty
        obtain ⟨ekind, esec, efill, emore, ⟨efk, efsec, efa, eft, efl⟩, eao, ecap, ekeep⟩ := e
        have yq0 : Wa.cell? ⟨ybs, yoff + i * 10, none⟩ = some (.int .i64 ekind) := hcy 0 (by decide)
        have yq1 : Wa.cell? ⟨ybs, yoff + i * 10 + 1, none⟩ = some (.int .i64 esec) := hcy 1 (by decide)
        have yq2 : Wa.cell? ⟨ybs, yoff + i * 10 + 2, none⟩ = some (.int .u8 efill) := hcy 2 (by decide)
        have yq3 : Wa.cell? ⟨ybs, yoff + i * 10 + 3, none⟩ = some (.int .i64 emore) := hcy 3 (by decide)
        have yq4 : Wa.cell? ⟨ybs, yoff + i * 10 + 4, none⟩ = some (.int .i64 efk) := hcy 4 (by decide)
        have yq5 : Wa.cell? ⟨ybs, yoff + i * 10 + 5, none⟩ = some (.int .i64 efsec) := hcy 5 (by decide)
        have yq6 : Wa.cell? ⟨ybs, yoff + i * 10 + 6, none⟩ = some (.int .i64 efa) := hcy 6 (by decide)
        have yq7 : Wa.cell? ⟨ybs, yoff + i * 10 + 7, none⟩ = some (.int .i64 eft) := hcy 7 (by decide)
        have yq8 : Wa.cell? ⟨ybs, yoff + i * 10 + 8, none⟩ = some (.bool efl) := hcy 8 (by decide)
        have yq9 : Wa.cell? ⟨ybs, yoff + i * 10 + 9, none⟩ = some (.slice eao ekeep.length ecap) := hcy 9 (by decide)
        clear hcy
        have hly : (i : Int) < (n2 : Int) := by omega
        go_wp2_with fail
        refine Calls.mono HAy ?_
        clear HAy
        rintro r Wb ⟨rfl, SWb, HWb, hpWb, hmWb⟩
        have HTWb : Hid (Tw w Wb b p c q SWa SWb (i + 1) (i + 1) HWa HWb) := HTWa.out.two hpWb hmWb
        clear hpWb hmWb yq0 yq1 yq2 yq3 yq4 yq5 yq6 yq7 yq8 yq9
        go_wp2
        go_roundw
        case rel => exact ⟨i + 1, by omega, by go_num, ⟨_, _, _, _, HTWb.out⟩⟩
        case measure => simp [intOf]; omega
      · have hl2 : ¬ (i : Int) < (n2 : Int) := by omega
        have HF : Hid (Tw w Wa b p c q SWa S2 (i + 1) (i + 1) HWa H2) := ⟨HTWa.out.p1, HTWa.out.p2.more (by omega), HTWa.out.dis, HTWa.out.bl, HTWa.out.o1, HTWa.out.o2⟩
        go_wp2
        go_roundw
        case rel => exact ⟨i + 1, by omega, by go_num, ⟨_, _, _, _, HF.out⟩⟩
        case measure => simp [intOf]; omega
    · have hl1 : ¬ (i : Int) < (n : Int) := by omega
      by_cases hlt2 : i < n2
      · obtain ⟨e, he⟩ : ∃ o, l2[i]? = some o := ⟨_, List.getElem?_eq_getElem (by have := HN.out.2; omega)⟩
        obtain ⟨ybs, yoff, haoy, hoky, haty⟩ := HO2.out i e he
        subst haoy
        have hcy := (haty wr HTwr.out.bl).2
        have HAy := acts_one HTwr.out.p2 (by omega) e (haty wr HTwr.out.bl).1 (keep_out hoky HTwr.out.o2)
        clear he hoky haty
        obtain ⟨ekind, esec, efill, emore, ⟨efk, efsec, efa, eft, efl⟩, eao, ecap, ekeep⟩ := e
        have yq0 : wr.cell? ⟨ybs, yoff + i * 10, none⟩ = some (.int .i64 ekind) := hcy 0 (by decide)
        have yq1 : wr.cell? ⟨ybs, yoff + i * 10 + 1, none⟩ = some (.int .i64 esec) := hcy 1 (by decide)
        have yq2 : wr.cell? ⟨ybs, yoff + i * 10 + 2, none⟩ = some (.int .u8 efill) := hcy 2 (by decide)
        have yq3 : wr.cell? ⟨ybs, yoff + i * 10 + 3, none⟩ = some (.int .i64 emore) := hcy 3 (by decide)
        have yq4 : wr.cell? ⟨ybs, yoff + i * 10 + 4, none⟩ = some (.int .i64 efk) := hcy 4 (by decide)
        have yq5 : wr.cell? ⟨ybs, yoff + i * 10 + 5, none⟩ = some (.int .i64 efsec) := hcy 5 (by decide)
        have yq6 : wr.cell? ⟨ybs, yoff + i * 10 + 6, none⟩ = some (.int .i64 efa) := hcy 6 (by decide)
        have yq7 : wr.cell? ⟨ybs, yoff + i * 10 + 7, none⟩ = some (.int .i64 eft) := hcy 7 (by decide)
        have yq8 : wr.cell? ⟨ybs, yoff + i * 10 + 8, none⟩ = some (.bool efl) := hcy 8 (by decide)
        have yq9 : wr.cell? ⟨ybs, yoff + i * 10 + 9, none⟩ = some (.slice eao ekeep.length ecap) := hcy 9 (by decide)
        clear hcy
        have hly : (i : Int) < (n2 : Int) := by omega
        go_wp2_with fail
        refine Calls.mono HAy ?_
        clear HAy
        rintro r Wb ⟨rfl, SWb, HWb, hpWb, hmWb⟩
        have HTWb : Hid (Tw w Wb b p c q S SWb i (i + 1) H HWb) := HTwr.out.two hpWb hmWb
        clear hpWb hmWb yq0 yq1 yq2 yq3 yq4 yq5 yq6 yq7 yq8 yq9
        have HF : Hid (Tw w Wb b p c q S SWb (i + 1) (i + 1) H HWb) := ⟨HTWb.out.p1.more (by omega), HTWb.out.p2, HTWb.out.dis, HTWb.out.bl, HTWb.out.o1, HTWb.out.o2⟩
        go_wp2
        go_roundw
        case rel => exact ⟨i + 1, by omega, by go_num, ⟨_, _, _, _, HF.out⟩⟩
        case measure => simp [intOf]; omega
      · have hl2 : ¬ (i : Int) < (n2 : Int) := by omega
        have HB : Hid (Below w.heap.size w wr) := HTwr.out.bl
        go_wp2
        go_ret
        exact ⟨rfl, HB.out⟩
end Go.Proofs.Ythmonfmpgjbhmab.K

namespace Go.Proofs.Ythmonfmpgjbhmab.K
open Go.RowKit Go.Maps Go.Proofs.Ythmonfmpgjbhmab
attribute [local go_sem] Oper.semAt_some
set_option linter.unusedVariables false
set_option linter.unusedSimpArgs false
set_option maxRecDepth 100000

/-- the pair behind i calls -/
structure Pl (w W : World) (b p : Nat) (S : Dk) (N : Nat) (H : List Nat) : Prop where
  pp : PP W b p S S N H
  bl : Below w.heap.size w W
  own : ∀ i ∈ H, w.heap.size ≤ i
theorem Pl.later {w W W' : World} {b p : Nat} {S : Dk} {N : Nat} {H : List Nat} (h : Pl w W b p S N H) (hb : Below W.heap.size W W') : Pl w W' b p S N H := ⟨h.pp.later hb, h.bl.trans (hb.mono h.bl.size), h.own⟩
theorem Pl.move {w W W' : World} {b p : Nat} {S S' : Dk} {N N' : Nat} {H H' : List Nat} (h : Pl w W b p S N H) (hp : PP W' b p S' S' N' H') (hm : Mv W W' H H') : Pl w W' b p S' N' H' :=
  ⟨hp, h.bl.trans (hm.kp.below h.own h.bl.size), fun i hi => (hm.sub i hi).elim (h.own i) (fun h1 => Nat.le_trans h.bl.size h1)⟩
set_option maxHeartbeats 8000000 in
theorem lawApart_bad (w : World) (ns : Int) (h : ns < 1 ∨ 65536 < ns) (ao ao2 : Option Addr) (n cap n2 cap2 : Nat) (l2 : List Opn) (hn1 : n ≤ 1048575) (hn' : n2 = l2.length) (hn2 : n2 ≤ 1048575) (hr2 : ORow w ao2 l2) (hok2 : ∀ o ∈ l2, OpOk w o) :
    Calls Try.prog 4 #[.int .i64 ns, .slice ao n cap, .slice ao2 n2 cap2] w fun r w' => r = .returned (.bool true) ∧ Below w.heap.size w w' := by
  have hmade := made_bad w ns h
  have HN : Hid (True ∧ l2.length = n2) := ⟨trivial, hn'.symm⟩
  have HO2 : Hid (∀ i o, l2[i]? = some o → ∃ bs off, ao2 = some ⟨bs, off, none⟩ ∧ OpOk w o ∧ ∀ W, Below w.heap.size w W → OpOk W o ∧ ∀ j, j < 10 → W.cell? ⟨bs, off + i * 10 + j, none⟩ = o.cells[j]?) := fun i o ho => op_at hr2 hok2 ho
  clear h hn' hr2 hok2
  go_enter Try.func4, Try.ntmps4
  go_wp2_with fail
  refine hmade.mono ?_
  clear hmade
  rintro e w1 ⟨rfl, hw1⟩
  rw [hw1]
  clear hw1
  go_wp2_with fail
  refine Calls.mono (made_any w 3 (by decide) (by decide)) ?_
  rintro e w2 ⟨c, q, rfl, ms2, ml2, hs, hrf, hpw, hpf⟩
  have HS2 : Hid (∃ S H, Pl w w2 c q S 0 H) := ⟨_, _, PP.new (by decide) (by decide) hs hrf hpf, hs.bl, made_own hs hpw⟩
  clear hs hrf hpw hpf
  have hhd := heads_any w2
  go_wp2_with fail
  refine hhd.mono ?_
  clear hhd
  rintro e w3 ⟨rfl, hb3⟩
  have HS3 : Hid (∃ S H, Pl w w3 c q S 0 H) := by
    obtain ⟨S, H, h⟩ := HS2.out
    exact ⟨S, H, h.later hb3⟩
  clear hb3 HS2
  go_wp2
  go_loopw [13] (fun c13 wr => ∃ (i : Nat), (i ≤ n ∨ i ≤ n2) ∧ c13 = .int .i64 i ∧ Hid (∃ S H, Pl w wr c q S (min i n2) H)) (fun c13 _ => n + n2 - (intOf c13).toNat)
  case atStart => exact ⟨0, .inl (Nat.zero_le _), rfl, by rw [Nat.zero_min]; exact HS3⟩
  case round =>
    obtain ⟨i, hi, rfl, HW⟩ := hrel
    obtain ⟨S, H, hpl⟩ := HW.out
    have HTwr : Hid (Pl w wr c q S (min i n2) H) := hpl
    clear hpl HW HS3
    by_cases hlt : i < n
    · have hl1 : (i : Int) < (n : Int) := by omega
      by_cases hlt2 : i < n2
      · obtain ⟨e, he⟩ : ∃ o, l2[i]? = some o := ⟨_, List.getElem?_eq_getElem (by have := HN.out.2; omega)⟩
        obtain ⟨ybs, yoff, haoy, hoky, haty⟩ := HO2.out i e he
        subst haoy
        have hcy := (haty wr HTwr.out.bl).2
        have HAy := acts_one (HTwr.out.pp.more (Nat.min_le_left i n2)) (by omega) e (haty wr HTwr.out.bl).1 (keep_out hoky HTwr.out.own)
        clear he hoky haty
        obtain ⟨ekind, esec, efill, emore, ⟨efk, efsec, efa, eft, efl⟩, eao, ecap, ekeep⟩ := e
        have yq0 : wr.cell? ⟨ybs, yoff + i * 10, none⟩ = some (.int .i64 ekind) := hcy 0 (by decide)
        have yq1 : wr.cell? ⟨ybs, yoff + i * 10 + 1, none⟩ = some (.int .i64 esec) := hcy 1 (by decide)
        have yq2 : wr.cell? ⟨ybs, yoff + i * 10 + 2, none⟩ = some (.int .u8 efill) := hcy 2 (by decide)
        have yq3 : wr.cell? ⟨ybs, yoff + i * 10 + 3, none⟩ = some (.int .i64 emore) := hcy 3 (by decide)
        have yq4 : wr.cell? ⟨ybs, yoff + i * 10 + 4, none⟩ = some (.int .i64 efk) := hcy 4 (by decide)
        have yq5 : wr.cell? ⟨ybs, yoff + i * 10 + 5, none⟩ = some (.int .i64 efsec) := hcy 5 (by decide)
        have yq6 : wr.cell? ⟨ybs, yoff + i * 10 + 6, none⟩ = some (.int .i64 efa) := hcy 6 (by decide)
        have yq7 : wr.cell? ⟨ybs, yoff + i * 10 + 7, none⟩ = some (.int .i64 eft) := hcy 7 (by decide)
        have yq8 : wr.cell? ⟨ybs, yoff + i * 10 + 8, none⟩ = some (.bool efl) := hcy 8 (by decide)
        have yq9 : wr.cell? ⟨ybs, yoff + i * 10 + 9, none⟩ = some (.slice eao ekeep.length ecap) := hcy 9 (by decide)
        clear hcy
        have hly : (i : Int) < (n2 : Int) := by omega
        go_wp2_with fail
        refine Calls.mono HAy ?_
        clear HAy
        rintro r Wb ⟨rfl, SWb, HWb, hpWb, hmWb⟩
        have HTWb : Hid (Pl w Wb c q SWb (i + 1) HWb) := HTwr.out.move hpWb hmWb
        clear hpWb hmWb yq0 yq1 yq2 yq3 yq4 yq5 yq6 yq7 yq8 yq9
        have HF : Hid (∃ S H, Pl w Wb c q S (min (i + 1) n2) H) := ⟨_, _, by rw [Nat.min_eq_left (by omega)]; exact HTWb.out⟩
        go_wp2
        go_roundw
        case rel => exact ⟨i + 1, by omega, by go_num, HF⟩
        case measure => simp [intOf]; omega
      · have hl2 : ¬ (i : Int) < (n2 : Int) := by omega
        have HF : Hid (∃ S H, Pl w wr c q S (min (i + 1) n2) H) := ⟨_, _, by rw [Nat.min_eq_right (by omega)]; have h := HTwr.out; rw [Nat.min_eq_right (by omega)] at h; exact h⟩
        go_wp2
        go_roundw
        case rel => exact ⟨i + 1, by omega, by go_num, HF⟩
        case measure => simp [intOf]; omega
    · have hl1 : ¬ (i : Int) < (n : Int) := by omega
      by_cases hlt2 : i < n2
      · obtain ⟨e, he⟩ : ∃ o, l2[i]? = some o := ⟨_, List.getElem?_eq_getElem (by have := HN.out.2; omega)⟩
        obtain ⟨ybs, yoff, haoy, hoky, haty⟩ := HO2.out i e he
        subst haoy
        have hcy := (haty wr HTwr.out.bl).2
        have HAy := acts_one (HTwr.out.pp.more (Nat.min_le_left i n2)) (by omega) e (haty wr HTwr.out.bl).1 (keep_out hoky HTwr.out.own)
        clear he hoky haty
        obtain ⟨ekind, esec, efill, emore, ⟨efk, efsec, efa, eft, efl⟩, eao, ecap, ekeep⟩ := e
        have yq0 : wr.cell? ⟨ybs, yoff + i * 10, none⟩ = some (.int .i64 ekind) := hcy 0 (by decide)
        have yq1 : wr.cell? ⟨ybs, yoff + i * 10 + 1, none⟩ = some (.int .i64 esec) := hcy 1 (by decide)
        have yq2 : wr.cell? ⟨ybs, yoff + i * 10 + 2, none⟩ = some (.int .u8 efill) := hcy 2 (by decide)
        have yq3 : wr.cell? ⟨ybs, yoff + i * 10 + 3, none⟩ = some (.int .i64 emore) := hcy 3 (by decide)
        have yq4 : wr.cell? ⟨ybs, yoff + i * 10 + 4, none⟩ = some (.int .i64 efk) := hcy 4 (by decide)
        have yq5 : wr.cell? ⟨ybs, yoff + i * 10 + 5, none⟩ = some (.int .i64 efsec) := hcy 5 (by decide)
        have yq6 : wr.cell? ⟨ybs, yoff + i * 10 + 6, none⟩ = some (.int .i64 efa) := hcy 6 (by decide)
        have yq7 : wr.cell? ⟨ybs, yoff + i * 10 + 7, none⟩ = some (.int .i64 eft) := hcy 7 (by decide)
        have yq8 : wr.cell? ⟨ybs, yoff + i * 10 + 8, none⟩ = some (.bool efl) := hcy 8 (by decide)
        have yq9 : wr.cell? ⟨ybs, yoff + i * 10 + 9, none⟩ = some (.slice eao ekeep.length ecap) := hcy 9 (by decide)
        clear hcy
        have hly : (i : Int) < (n2 : Int) := by omega
        go_wp2_with fail
        refine Calls.mono HAy ?_
        clear HAy
        rintro r Wb ⟨rfl, SWb, HWb, hpWb, hmWb⟩
        have HTWb : Hid (Pl w Wb c q SWb (i + 1) HWb) := HTwr.out.move hpWb hmWb
        clear hpWb hmWb yq0 yq1 yq2 yq3 yq4 yq5 yq6 yq7 yq8 yq9
        have HF : Hid (∃ S H, Pl w Wb c q S (min (i + 1) n2) H) := ⟨_, _, by rw [Nat.min_eq_left (by omega)]; exact HTWb.out⟩
        go_wp2
        go_roundw
        case rel => exact ⟨i + 1, by omega, by go_num, HF⟩
        case measure => simp [intOf]; omega
      · have hl2 : ¬ (i : Int) < (n2 : Int) := by omega
        have HB : Hid (Below w.heap.size w wr) := HTwr.out.bl
        go_wp2
        go_ret
        exact ⟨rfl, HB.out⟩
end Go.Proofs.Ythmonfmpgjbhmab.K
