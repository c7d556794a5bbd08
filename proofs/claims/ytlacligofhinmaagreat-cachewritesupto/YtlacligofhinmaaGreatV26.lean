import Derived.Test.YtlacligofhinmaaGreatV25
import Derived.Deep.RegionHeld3
import Derived.Deep.RegionLaw
import Derived.Deep.AppendLies
import Derived.Deep.DrawnRows
namespace Go.Proofs.YtlacligofhinmaaGreat.K
open Go.RowKit Go.Maps Go.Proofs.YtlacligofhinmaaGreat
attribute [local go_sem] Oper.semAt_some
set_option linter.unusedVariables false
set_option linter.unusedSimpArgs false
set_option maxRecDepth 100000

/-- behind the last that is picked nothing changes -/
theorem pick_stop {k : Nat → Bool} {Q : List Pv} {n : Nat} (h : ∀ i, n ≤ i → k i = false) : ∀ j, pick k Q (n + j) = pick k Q n
  | 0 => rfl
  | j + 1 => by
    have ih := pick_stop (Q := Q) h j
    rw [← ih]
    show pick k Q (n + j + 1) = _
    conv => lhs; unfold pick
    cases Q[n + j]? with
    | none => rfl
    | some x => simp [h (n + j) (by omega)]
theorem lay_stop {k : Nat → Bool} {q : List Pu} {f : Nat → Bl} {n : Nat} (h : ∀ i, n ≤ i → k i = false) : ∀ j, layTo k q f (n + j) = layTo k q f n
  | 0 => rfl
  | j + 1 => by
    have ih := lay_stop (q := q) (f := f) h j
    rw [← ih]
    show layTo k q f (n + j + 1) = _
    conv => lhs; unfold layTo
    cases q[n + j]? with
    | none => rfl
    | some x => simp [h (n + j) (by omega)]
theorem pick_yes {k : Nat → Bool} {Q : List Pv} {n : Nat} {x : Pv} (h : Q[n]? = some x) (hk : k n = true) : pick k Q (n + 1) = pick k Q n ++ [x] := by
  conv => lhs; unfold pick
  rw [h]; simp [hk]
theorem pick_no {k : Nat → Bool} {Q : List Pv} {n : Nat} {x : Pv} (h : Q[n]? = some x) (hk : k n = false) : pick k Q (n + 1) = pick k Q n := by
  conv => lhs; unfold pick
  rw [h]; simp [hk]
theorem pick_len (k : Nat → Bool) (Q : List Pv) : ∀ n, (pick k Q n).length ≤ n
  | 0 => by simp [pick]
  | n + 1 => by
    have ih := pick_len k Q n
    unfold pick
    cases Q[n]? with
    | none => simp; omega
    | some x => by_cases hk : k n = true <;> simp [hk] <;> omega
section
variable {w : World} {p : Nat} {dv qv av : Value} {D Q : List Pv} {S : Dk}
set_option maxHeartbeats 8000000 in
theorem rCrash_any (h : RR w p dv qv av D Q S) (hl : D.length + Q.length ≤ 1048576) {ao : Option Addr} {cap kn : Nat} {l : List Bool} (hr : BoRow w ao cap l) (hn : l.length = kn) (hap : ∀ ad, ao = some ad → l ≠ [] → ad.block ∉ fr p dv qv av (D ++ Q)) :
    Calls Tryz.prog 36 #[.pointer (some ⟨p, 0, none⟩), .slice ao kn cap] w fun r w' => r = .returned (.tuple #[]) ∧ ∃ dv' D', RAct w w' p dv qv av D Q dv' (.slice none 0 0) (.slice none 0 0) D' [] (crashed l S) ∧ D'.length ≤ D.length + Q.length := by
  obtain ⟨qo, qc, rfl⟩ := own_slice h.qr
  obtain ⟨m, hm⟩ : ∃ m, m = Q.length := ⟨_, rfl⟩
  obtain ⟨k, hk⟩ : ∃ k : Nat → Bool, k = fun i => l.getD i false := ⟨_, rfl⟩
  have HK : Hid (k = fun i => l.getD i false) := hk
  have HM : Hid (Q.length = m) := hm.symm
  have HN : Hid (l.length = kn) := hn
  have hkn : kn ≤ 1048576 := by have := hr.len; omega
  have HH : Hid (RR w p dv (.slice qo m qc) av D Q S) := by have h1 := h; rw [← hm] at h1; exact h1
  have HB : Hid (∀ W, Kp w W (fr p dv (.slice qo m qc) av (D ++ Q)) → BoRow W ao cap l) := fun W hW => hr.kept hW (fun ad e hne => by have := hap ad e hne; rw [← hm] at this; exact this)
  rw [← hm]
  clear h hr hap hn hk
  obtain ⟨i0, hi0, hz0, hz1, hz2⟩ := info_parts infoPt
  go_enter Tryz.func36, Tryz.ntmps36
  have HSq : Hid (Q.map bare = S.q) := HH.out.q
  have HLay : Hid (∀ n, ∀ s, s < S.n → layTo k S.q S.safe n s = (lastQ s ((D ++ pick k Q n).map bare)).getD z512) := fun n s hs => by
    have h1 := pick_lay k Q D S.safe S.n HH.out.sf n s hs
    rw [HH.out.q] at h1
    exact h1
  have HL : Hid (D.length + Q.length ≤ 1048576) := hl
  have hml : m ≤ 1048576 := by omega
  clear hm hl
  go_wp2
  go_loopw [4] (fun c wr => ∃ (n : Nat) (dv' : Value), n ≤ m ∧ n ≤ kn ∧ c = .int .i64 n ∧ Hid (RAct w wr p dv (.slice qo m qc) av D Q dv' (.slice qo m qc) av (D ++ pick k Q n) Q { S with safe := layTo k S.q S.safe n })) (fun c _ => m - (intOf c).toNat)
  case atStart => exact ⟨0, dv, Nat.zero_le _, Nat.zero_le _, rfl, by show RAct _ _ _ _ _ _ _ _ _ _ _ _ _ _; simpa [pick, layTo] using RAct.refl HH.out⟩
  case round =>
    obtain ⟨n, dv', hn, hnk, rfl, HA⟩ := hrel
    have c3 : wr.cell? ⟨p, 3, none⟩ = some (.slice qo m qc) := HA.out.rk.c 3
    by_cases hlt : n < m
    · by_cases hlk : n < kn
      · have hbo := HB.out wr HA.out.kp
        obtain ⟨bb, off, hao, hcb⟩ := hbo.at_ (by rintro rfl; have := HN.out; simp at this; omega)
        subst hao
        obtain ⟨bx, hbx⟩ : ∃ bx, l[n]? = some bx := ⟨_, List.getElem?_eq_getElem (by have := HN.out; omega)⟩
        have cb := hcb n bx hbx
        have hkb : k n = bx := by rw [HK.out]; show l.getD n false = bx; rw [List.getD_eq_getElem?_getD, hbx]; rfl
        have HKb : Hid (k n = bx) := hkb
        obtain ⟨x, hx⟩ : ∃ x, Q[n]? = some x := ⟨_, List.getElem?_eq_getElem (by have := HM.out; omega)⟩
        have HX : Hid (Q[n]? = some x) := hx
        clear hbo hcb hbx hkb hx
        cases bx with
        | false =>
          have HA2 : Hid (RAct w wr p dv (.slice qo m qc) av D Q dv' (.slice qo m qc) av (D ++ pick k Q (n + 1)) Q { S with safe := layTo k S.q S.safe (n + 1) }) := by
            have e1 : pick k Q (n + 1) = pick k Q n := pick_no HX.out HKb.out
            have e2 : layTo k S.q S.safe (n + 1) = layTo k S.q S.safe n := by
              conv => lhs; unfold layTo
              rw [← HSq.out, List.getElem?_map, HX.out]; simp [HKb.out]
            show RAct _ _ _ _ _ _ _ _ _ _ _ _ _ _
            rw [e1, e2]; exact HA.out
          go_wp2
          go_roundw
          case rel => exact ⟨n + 1, dv', by omega, by omega, by go_num, HA2⟩
          case measure => simp [intOf]; omega
        | true =>
          obtain ⟨gq, hgq⟩ : ∃ gq, qo = some ⟨gq, 0, none⟩ := by
            rcases HH.out.qr.2 with ⟨e, h0⟩ | ⟨g, cap', cur, e, _⟩
            · rw [HM.out] at h0; omega
            · simp at e; exact ⟨g, e.1⟩
          subst hgq
          obtain ⟨s, v, bl⟩ := x
          have hxm : (s, v, bl) ∈ Q := List.mem_of_getElem? HX.out
          obtain ⟨vo, vc, hv⟩ := own_slice (HH.out.dat (s, v, bl) (by simp [hxm]))
          simp only at hv
          subst hv
          obtain ⟨ddo, ddc, hdv⟩ := own_slice HA.out.rk.dr
          subst hdv
          obtain ⟨dn, hdn⟩ : ∃ dn, dn = (D ++ pick k Q n).length := ⟨_, rfl⟩
          have hdl : dn ≤ 1048576 := by have h1 := pick_len k Q n; rw [hdn, List.length_append]; have h2 := HL.out; have h3 := HM.out; omega
          have HDn : Hid ((D ++ pick k Q n).length = dn) := hdn.symm
          rw [← hdn] at HA
          have hBd := below_drew wr
          have HAd : Hid (RAct w wr.drew p dv (.slice (some ⟨gq, 0, none⟩) m qc) av D Q (.slice ddo dn ddc) (.slice (some ⟨gq, 0, none⟩) m qc) av (D ++ pick k Q n) Q { S with safe := layTo k S.q S.safe n }) := HA.out.later hBd
          obtain ⟨q0, q1⟩ := qrow_at (by have h1 := HA.out.rk.qr; rw [HM.out] at h1; exact h1 : wr.ownsRow 0 TPt 2 (.slice (some ⟨gq, 0, none⟩) m qc) m (qcells Q)) HX.out HM.out
          simp only at q0 q1
          have c2 : wr.cell? ⟨p, 2, none⟩ = some (.slice ddo dn ddc) := HA.out.rk.c 2
          have hone := fun W => run_onep W s (.slice vo 512 vc) rfl
          have hal : Below wr.drew.heap.size wr.drew (wr.drew.alloc (.cells #[.int .i64 s, .slice vo 512 vc] TPt)) := (Below.refl _ _).alloc (Nat.le_refl _) _
          have HAl : Hid (Below wr.drew.heap.size wr.drew (wr.drew.alloc (.cells #[.int .i64 s, .slice vo 512 vc] TPt))) := hal
          have c2a : (wr.alloc (.cells #[.int .i64 s, .slice vo 512 vc] TPt)).cell? ⟨p, 2, none⟩ = some (.slice ddo dn ddc) := cell_later ((Below.refl _ wr).alloc (Nat.le_refl _) _) c2
          have c2b : (wr.drew.alloc (.cells #[.int .i64 s, .slice vo 512 vc] TPt)).cell? ⟨p, 2, none⟩ = some (.slice ddo dn ddc) := c2a
          have HR : Hid (wr.drew.ownsRow 0 TPt 2 (.slice ddo dn ddc) dn (qcells (D ++ pick k Q n))) := by have h1 := HAd.out.rk.dr; rw [HDn.out] at h1; exact h1
          have e1 : pick k Q (n + 1) = pick k Q n ++ [(s, .slice vo 512 vc, bl)] := pick_yes HX.out HKb.out
          have HE1 : Hid (pick k Q (n + 1) = pick k Q n ++ [(s, .slice vo 512 vc, bl)]) := e1
          have HXm : Hid ((s, .slice vo 512 vc, bl) ∈ Q) := hxm
          clear hdn hBd hal e1 hxm
          go_wp2
          go_region_law (first | (refine step_append_lies _ (by rfl) _ _ TPts (by rfl) 0 TPt i0 _ 2 32 Tryz.underlying71 hi0 hz0 hz1 hz2 (by rfl) (by decide) (.slice ddo dn ddc) dn (qcells (D ++ pick k Q n)) (by rfl) (HR.out.alloc _) ⟨wr.drew.heap.size, 0, none⟩ 1 1 (qcell (s, .slice vo 512 vc, bl)) (by rfl) (by rfl) (World.news_of_block (heap_alloc_new wr.drew _)) (fun u hu => by simp [qcell] at hu; rcases hu with rfl | rfl <;> rfl) (by decide) (by unfold maxLen; omega) (by omega) (Nat.zero_le _) (wr.drew.heap.size + 1) (by exact World.size_alloc wr _) ?_; intro g' cap' w6 hown' hgrow hat hlt'; have hN := HAd.out.rk.newD (w5 := wr.drew.alloc (.cells #[.int .i64 s, .slice vo 512 vc] TPt)) HAl.out hgrow (X := [(s, .slice vo 512 vc, bl)]) (dv' := .slice (some ⟨g', 0, none⟩) (dn + 1) cap') (fun y hy => by simp at hy; subst hy; exact HXm.out) (by rw [HDn.out]; simpa [qcells] using hown') (fun g e => by simp [Value.ownBlock] at e; subst e; exact hat.imp id (fun e => by omega)) (f := layTo k S.q S.safe (n + 1)) (fun s' hs' => by have h1 := HLay.out (n + 1) s' hs'; rw [HE1.out, ← List.append_assoc] at h1; exact h1); have c26 : w6.cell? ⟨p, 2, none⟩ = some (.slice ddo dn ddc) := (World.cell?_of_block (a := ⟨p, 2, none⟩) hN.1).trans (HAd.out.rk.c 2); have f26 : w6.frozen? ⟨p, 2, none⟩ = false := frozen_of (hN.1.trans HAd.out.rk.blk); have HN : Hid (RAct w (w6.setCell ⟨p, 2, none⟩ (.slice (some ⟨g', 0, none⟩) (dn + 1) cap')) p dv (.slice (some ⟨gq, 0, none⟩) m qc) av D Q (.slice (some ⟨g', 0, none⟩) (dn + 1) cap') (.slice (some ⟨gq, 0, none⟩) m qc) av (D ++ pick k Q (n + 1)) Q { S with safe := layTo k S.q S.safe (n + 1) }) := (by show RAct _ _ _ _ _ _ _ _ _ _ _ _ _ _; rw [HE1.out, ← List.append_assoc]; exact HAd.out.trans hN.2); clear hN hown' hgrow hat hlt'))
          all_goals go_wp2
          all_goals go_roundw
          all_goals first
            | exact ⟨n + 1, _, by omega, by omega, by go_num, HN⟩
            | (simp [intOf]; omega)
      · have hdum := hlk
        have hlay : layTo k S.q S.safe n = layTo k S.q S.safe S.q.length := by
          have e : S.q.length = kn + (S.q.length - kn) := by rw [← HSq.out, List.length_map]; have := HM.out; omega
          have hz : n = kn := by omega
          rw [e, hz]
          exact (lay_stop (fun i hi => by rw [HK.out]; show l.getD i false = false; rw [List.getD_eq_getElem?_getD, List.getElem?_eq_none (by have := HN.out; omega)]; rfl) _).symm
        have HFin : Hid (RAct w wr p dv (.slice qo m qc) av D Q dv' (.slice qo m qc) av (D ++ pick k Q n) Q { S with safe := layTo k S.q S.safe S.q.length }) := by
          show RAct _ _ _ _ _ _ _ _ _ _ _ _ _ _
          rw [← hlay]; exact HA.out
        have HF3 : Hid (RAct w (wr.setCell ⟨p, 3, none⟩ (.slice none 0 0)) p dv (.slice qo m qc) av D Q dv' (.slice none 0 0) av (D ++ pick k Q n) [] { S with safe := layTo k S.q S.safe S.q.length, q := [] }) := HFin.out.noQ
        have hF4 := HF3.out.trans (HF3.out.rk.newA (w5 := wr) (fs := []) (av' := .slice none 0 0) (Kp.refl _ _) (World.ownsRow_nil _ _ _ _) (fun g e => by simp [Value.ownBlock] at e)).2
        have HF4 : Hid (RAct w ((wr.setCell ⟨p, 3, none⟩ (.slice none 0 0)).setCell ⟨p, 4, none⟩ (.slice none 0 0)) p dv (.slice qo m qc) av D Q dv' (.slice none 0 0) (.slice none 0 0) (D ++ pick k Q n) [] { S with safe := layTo k S.q S.safe S.q.length, q := [], fs := [] }) := hF4
        have f3 : wr.frozen? ⟨p, 3, none⟩ = false := HA.out.rk.fz 3
        have c4 : (wr.setCell ⟨p, 3, none⟩ (.slice none 0 0)).cell? ⟨p, 4, none⟩ = some av := HF3.out.rk.c 4
        have f4 := HF3.out.rk.fz 4
        have c9 : ((wr.setCell ⟨p, 3, none⟩ (.slice none 0 0)).setCell ⟨p, 4, none⟩ (.slice none 0 0)).cell? ⟨p, 9, none⟩ = some (.int .u64 S.st.crashes) := HF4.out.rk.c 9
        have f9 := HF4.out.rk.fz 9
        clear hlay hF4
        go_wp2
        go_end0
        refine ⟨rfl, dv', D ++ pick k Q n, ?_, ?_⟩
        · have h9 := HF4.out.put 9 (.int .u64 (inc S.st.crashes)) { S.st with crashes := inc S.st.crashes } rfl
          have e : crashed l S = { S with safe := layTo k S.q S.safe S.q.length, q := [], fs := [], st := { S.st with crashes := inc S.st.crashes } } := by unfold crashed settled; rw [HK.out]
          rw [e]
          exact h9
        · rw [List.length_append]; have h1 := pick_len k Q n; have h2 := HM.out; omega
    · have hdum := hlt
      have hlay : layTo k S.q S.safe n = layTo k S.q S.safe S.q.length := by
        have e : S.q.length = n := by rw [← HSq.out, List.length_map]; have := HM.out; omega
        rw [e]
      have HFin : Hid (RAct w wr p dv (.slice qo m qc) av D Q dv' (.slice qo m qc) av (D ++ pick k Q n) Q { S with safe := layTo k S.q S.safe S.q.length }) := by
        show RAct _ _ _ _ _ _ _ _ _ _ _ _ _ _
        rw [← hlay]; exact HA.out
      have HF3 : Hid (RAct w (wr.setCell ⟨p, 3, none⟩ (.slice none 0 0)) p dv (.slice qo m qc) av D Q dv' (.slice none 0 0) av (D ++ pick k Q n) [] { S with safe := layTo k S.q S.safe S.q.length, q := [] }) := HFin.out.noQ
      have hF4 := HF3.out.trans (HF3.out.rk.newA (w5 := wr) (fs := []) (av' := .slice none 0 0) (Kp.refl _ _) (World.ownsRow_nil _ _ _ _) (fun g e => by simp [Value.ownBlock] at e)).2
      have HF4 : Hid (RAct w ((wr.setCell ⟨p, 3, none⟩ (.slice none 0 0)).setCell ⟨p, 4, none⟩ (.slice none 0 0)) p dv (.slice qo m qc) av D Q dv' (.slice none 0 0) (.slice none 0 0) (D ++ pick k Q n) [] { S with safe := layTo k S.q S.safe S.q.length, q := [], fs := [] }) := hF4
      have f3 : wr.frozen? ⟨p, 3, none⟩ = false := HA.out.rk.fz 3
      have c4 : (wr.setCell ⟨p, 3, none⟩ (.slice none 0 0)).cell? ⟨p, 4, none⟩ = some av := HF3.out.rk.c 4
      have f4 := HF3.out.rk.fz 4
      have c9 : ((wr.setCell ⟨p, 3, none⟩ (.slice none 0 0)).setCell ⟨p, 4, none⟩ (.slice none 0 0)).cell? ⟨p, 9, none⟩ = some (.int .u64 S.st.crashes) := HF4.out.rk.c 9
      have f9 := HF4.out.rk.fz 9
      clear hlay hF4
      go_wp2
      go_end0
      refine ⟨rfl, dv', D ++ pick k Q n, ?_, ?_⟩
      · have h9 := HF4.out.put 9 (.int .u64 (inc S.st.crashes)) { S.st with crashes := inc S.st.crashes } rfl
        have e : crashed l S = { S with safe := layTo k S.q S.safe S.q.length, q := [], fs := [], st := { S.st with crashes := inc S.st.crashes } } := by unfold crashed settled; rw [HK.out]
        rw [e]
        exact h9
      · rw [List.length_append]; have h1 := pick_len k Q n; have h2 := HM.out; omega
end
end Go.Proofs.YtlacligofhinmaaGreat.K
