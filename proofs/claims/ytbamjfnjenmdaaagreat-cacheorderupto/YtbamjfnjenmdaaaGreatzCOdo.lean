import Derived.Test.YtbamjfnjenmdaaaGreatG48
import Derived.Deep.RegionHeld3
namespace Go.Proofs.YtbamjfnjenmdaaaGreat.C
open Go.RowKit Go.Maps Go.Shelf Go.Proofs.YtbamjfnjenmdaaaGreat
attribute [local go_sem] Oper.semAt_some
set_option linter.unusedVariables false
set_option linter.unusedSimpArgs false
set_option maxRecDepth 100000

set_option maxHeartbeats 2000000 in
/-- the law's question whether a sector is a note's -/
theorem note_l (w : World) (n k : Int) {v : Value} {l : List (Int × Int)} (hv : ArgS w v l) (hl : l.length ≤ 64) (hw : ∀ p ∈ l, 0 ≤ p.1 ∧ 1 ≤ p.2 ∧ p.1 + p.2 ≤ 65536) {s : Int} (h0 : 0 ≤ s ∧ s ≤ 65536) :
    Calls Tryz.prog 26 #[.agg #[.int .i64 n, .int .i64 k, v], .int .i64 s] w fun r w' => r = .returned (.bool (isN l s)) ∧ Below w.heap.size w w' := by
  obtain ⟨ao, c0, rfl, hsp, _⟩ := hv.form
  obtain ⟨m, hm⟩ : ∃ m, m = l.length := ⟨_, rfl⟩
  obtain ⟨W0, hW0⟩ : ∃ W0, W0 = w.alloc (.cells #[.int .i64 n, .int .i64 k, .slice ao l.length c0] TSe) := ⟨_, rfl⟩
  have hB0 : Below w.heap.size w W0 := by rw [hW0]; exact (Below.refl _ w).alloc (Nat.le_refl _) _
  have hbx : W0.heap[w.heap.size]? = some (.cells #[.int .i64 n, .int .i64 k, .slice ao l.length c0] TSe) := by rw [hW0]; exact heap_alloc_new w _
  have hlt : w.heap.size < W0.heap.size := (Array.getElem?_eq_some_iff.1 hbx).1
  have HC : Hid (∀ W, Below W0.heap.size W0 W → W.cell? ⟨w.heap.size, 2, none⟩ = some (.slice ao m c0) ∧ ∀ j p, l[j]? = some p → ∃ b off, ao = some ⟨b, off, none⟩ ∧ W.cell? ⟨b, off + j * 2, none⟩ = some (.int .i64 p.1) ∧ W.cell? ⟨b, off + j * 2 + 1, none⟩ = some (.int .i64 p.2)) := fun W hb => by
    refine ⟨by rw [hm]; exact (K.cell_of ((hb.block _ hlt).trans hbx)).trans rfl, fun j p hj => ?_⟩
    obtain ⟨b, off, e, _, c1, c2⟩ := hsp j p hj
    have hbw : Below w.heap.size w W := hB0.trans (hb.mono hB0.size)
    exact ⟨b, off, e, cell_later hbw c1, cell_later hbw c2⟩
  have HF : Hid (∀ W, Below W0.heap.size W0 W → Below w.heap.size w W) := fun W hb => hB0.trans (hb.mono hB0.size)
  have HM : Hid (m = l.length) := hm
  have HP : Hid (∀ p ∈ l, 0 ≤ p.1 ∧ 1 ≤ p.2 ∧ p.1 + p.2 ≤ 65536) := hw
  have HB0 : Hid (Below W0.heap.size W0 W0) := Below.refl _ _
  rw [← hm] at hl hW0
  clear hv hw hB0 hbx hlt hsp hm
  rw [show l.length = m from HM.out.symm]
  go_enter Tryz.func26, Tryz.ntmps26
  go_wp2
  rw [← hW0]
  clear hW0
  go_loopw [5] (fun i wr => ∃ (j : Nat), j ≤ m ∧ i = .int .i64 j ∧ Hid (Below W0.heap.size W0 wr) ∧ Hid (isN (l.take j) s = false)) (fun i _ => m - (intOf i).toNat)
  case atStart => exact ⟨0, Nat.zero_le _, rfl, HB0, (show isN (l.take 0) s = false by simp [isN])⟩
  case round =>
    obtain ⟨j, hj, rfl, HB, HN⟩ := hrel
    obtain ⟨c2, hcs⟩ := HC.out wr HB.out
    by_cases hlt : j < m
    · have hjz : (j : Int) < (m : Int) := by omega
      obtain ⟨p, hp⟩ : ∃ p, l[j]? = some p := ⟨_, List.getElem?_eq_getElem (by have := HM.out; omega)⟩
      obtain ⟨b, off, rfl, d0, d1⟩ := hcs j p hp
      have hpp := HP.out p (List.mem_of_getElem? hp)
      have hwr : IntKind.i64.wrap (p.1 + p.2) = p.1 + p.2 := by rw [IntKind.wrap_i64]; omega
      have HQ : Hid (l[j]? = some p) := hp
      have HT : Hid (isN (l.take (j + 1)) s = (decide (p.1 ≤ s) && decide (s - p.1 < p.2))) := by
        show _ = _
        have h1 := HN.out
        rw [List.take_add_one, hp]
        unfold isN at h1 ⊢
        rw [List.any_append, h1]
        simp
      clear hp hcs
      by_cases a1 : p.1 ≤ s
      · have a1' : decide (s ≥ p.1) = true := decide_eq_true a1
        by_cases a2 : s < p.1 + p.2
        · have a2' : decide (s < p.1 + p.2) = true := decide_eq_true a2
          have HR : Hid (isN l s = true) := by
            show _ = _
            unfold isN
            rw [List.any_eq_true]
            exact ⟨p, List.mem_of_getElem? HQ.out, by simp [a1]; omega⟩
          go_wp2
          go_quiet (fail)
          go_wp2
          go_ret
          rw [HR.out]
          exact ⟨rfl, (HF.out _ HB.out).os, (HF.out _ HB.out).tape, (HF.out _ HB.out).output, (HF.out _ HB.out).size, (HF.out _ HB.out).block⟩
        · have a2' : decide (s < p.1 + p.2) = false := decide_eq_false a2
          go_wp2
          go_quiet (fail)
          go_wp2
          go_roundw
          case rel => exact ⟨j + 1, by omega, by go_num, ⟨HB.out.os, HB.out.tape, HB.out.output, HB.out.size, HB.out.block⟩, by rw [HT.out]; show _ = _; rw [decide_eq_false (show ¬ s - p.1 < p.2 by omega)]; simp⟩
          case measure => simp [intOf]; omega
      · have a1' : decide (s ≥ p.1) = false := decide_eq_false a1
        go_wp2
        go_quiet (fail)
        go_wp2
        go_roundw
        case rel => exact ⟨j + 1, by omega, by go_num, ⟨HB.out.os, HB.out.tape, HB.out.output, HB.out.size, HB.out.block⟩, by rw [HT.out]; show _ = _; rw [decide_eq_false (show ¬ p.1 ≤ s by omega)]; rfl⟩
        case measure => simp [intOf]; omega
    · have hjz : ¬ (j : Int) < (m : Int) := by omega
      have HR : Hid (isN l s = false) := by
        have h1 := HN.out
        rw [List.take_of_length_le (by have := HM.out; omega)] at h1
        exact h1
      clear hcs
      go_wp2
      go_ret
      rw [HR.out]
      exact ⟨rfl, HF.out _ HB.out⟩
theorem w_drew' (X : World) : Below X.heap.size X X.drew := ⟨rfl, rfl, rfl, Nat.le_refl _, fun _ _ => rfl⟩
/-- does a write of a note wait? -/
def notedB (notes : List (Int × Int)) (q : List K.Pu) : Bool := q.any fun p => isN notes p.1
set_option maxHeartbeats 4000000 in
theorem noted_l {w : World} {P : Loc} {S : K.Dk} {C : Ch} (h : RC w P S C) (hq : S.q.length ≤ 1048576) (n k : Int) {v : Value} (hv : ArgS w v C.notes) (hfar : C.notes ≠ [] → ∀ b off m c, v = .slice (some ⟨b, off, none⟩) m c → b ∉ P.fp C.L) :
    Calls Tryz.prog 7 #[.agg #[.int .i64 n, .int .i64 k, v], .pointer (some ⟨P.bd, 0, none⟩)] w fun r w' => r = .returned (.bool (notedB C.notes S.q)) ∧ CAct w w' P P C S C := by
  obtain ⟨ao, c0, rfl, _⟩ := hv.form
  have hn1 := h.rk.n1
  obtain ⟨W0, hW0⟩ : ∃ W0, W0 = w.alloc (.cells #[.int .i64 n, .int .i64 k, .slice ao C.notes.length c0] TSe) := ⟨_, rfl⟩
  have hB0 : Below w.heap.size w W0 := by rw [hW0]; exact (Below.refl _ w).alloc (Nat.le_refl _) _
  have hbx : W0.heap[w.heap.size]? = some (.cells #[.int .i64 n, .int .i64 k, .slice ao C.notes.length c0] TSe) := by rw [hW0]; exact heap_alloc_new w _
  have hlt : w.heap.size < W0.heap.size := (Array.getElem?_eq_some_iff.1 hbx).1
  have h0 := h.later hB0
  have HQ : Hid (Calls Tryz.prog 22 #[.pointer (some ⟨P.bd, 0, none⟩)] W0 fun r w2 => ∃ qo qc ps, r = .returned (.slice qo ps.length qc) ∧ Hid (PtR w2 qo ps ∧ ps.map K.bare = S.q ∧ CAct w w2 P P C S C ∧ ArgS w2 (.slice ao C.notes.length c0) C.notes ∧ w2.heap[w.heap.size]? = some (.cells #[.int .i64 n, .int .i64 k, .slice ao C.notes.length c0] TSe))) := by
    refine (queue_c h0 hq).mono ?_
    rintro r w2 ⟨qo, qc, ps, rfl, e1, _, e3, e4⟩
    refine ⟨qo, qc, ps, rfl, e1, e3, e4.from_later hB0 h.lt, (hv.later hB0).kp e4.kp hfar, (e4.kp.block _ hlt (fun hm => ?_)).trans hbx⟩
    have := h.lt _ hm
    omega
  have HNt : Hid (∀ W, ArgS W (.slice ao C.notes.length c0) C.notes → ∀ s : Nat, s ≤ 65536 → Calls Tryz.prog 26 #[.agg #[.int .i64 n, .int .i64 k, .slice ao C.notes.length c0], .int .i64 s] W fun r w' => r = .returned (.bool (isN C.notes s)) ∧ Below W.heap.size W w') := fun W ha s hs => note_l W n k ha h.nl (fun p hp => by have := h.nok p hp; omega) ⟨by omega, by omega⟩
  have HQok : Hid (∀ p ∈ S.q, p.1 ≤ 65536) := fun p hp => by have := (h.rk.qok p hp).1; omega
  have hql : S.q.length ≤ 1048576 := hq
  obtain ⟨ml, hml⟩ : ∃ ml, ml = C.notes.length := ⟨_, rfl⟩
  rw [← hml] at HQ HNt hW0 ⊢
  clear hv hB0 hbx hlt h0 h hfar hml
  go_enter Tryz.func7, Tryz.ntmps7
  go_wp2_with fail
  rw [← hW0]
  refine Calls.mono HQ.out ?_
  clear HQ hW0
  rintro r w2 ⟨qo, qc, ps, rfl, H2⟩
  obtain ⟨m, hm⟩ : ∃ m, m = ps.length := ⟨_, rfl⟩
  have HM : Hid (m = ps.length) := hm
  have hml : m ≤ 1048576 := by have h1 := congrArg List.length H2.out.2.1; rw [List.length_map] at h1; omega
  have HSt : Hid (∀ W, Below w2.heap.size w2 W → (W.cell? ⟨w.heap.size, 0, none⟩ = some (.int .i64 n) ∧ W.cell? ⟨w.heap.size, 1, none⟩ = some (.int .i64 k) ∧ W.cell? ⟨w.heap.size, 2, none⟩ = some (.slice ao ml c0)) ∧ CAct w W P P C S C ∧ ArgS W (.slice ao ml c0) C.notes ∧ ∀ j p, ps[j]? = some p → ∃ g, qo = some ⟨g, 0, none⟩ ∧ W.cell? ⟨g, j * 2, none⟩ = some (.int .i64 p.1)) := fun W hb => by
    obtain ⟨e1, e2, e3, e4, e5⟩ := H2.out
    have h5 := (hb.block _ (Array.getElem?_eq_some_iff.1 e5).1).trans e5
    refine ⟨⟨(K.cell_of h5).trans rfl, (K.cell_of h5).trans rfl, (K.cell_of h5).trans rfl⟩, e3.later hb, e4.later hb, fun j p hj => ?_⟩
    obtain ⟨g, e, _, c1, _⟩ := e1 j p hj
    exact ⟨g, e, cell_later hb c1⟩
  have HBr : Hid (ps.map K.bare = S.q) := H2.out.2.1
  rw [← hm]
  clear H2 hm
  go_wp2
  go_loopw [6] (fun i wr => ∃ (j : Nat), j ≤ m ∧ i = .int .i64 j ∧ Hid (Below w2.heap.size w2 wr) ∧ Hid (notedB C.notes ((ps.take j).map K.bare) = false)) (fun i _ => m - (intOf i).toNat)
  case atStart => exact ⟨0, Nat.zero_le _, rfl, Below.refl _ _, rfl⟩
  case round =>
    obtain ⟨j, hj, rfl, HB, HN⟩ := hrel
    obtain ⟨hS, hca, har, hcs⟩ := HSt.out wr HB.out
    by_cases hlt : j < m
    · have hjz : (j : Int) < (m : Int) := by omega
      have hj0 : (0 : Int) ≤ (j : Int) := by omega
      obtain ⟨p, hp⟩ : ∃ p, ps[j]? = some p := ⟨_, List.getElem?_eq_getElem (by have := HM.out; omega)⟩
      obtain ⟨g, rfl, d0⟩ := hcs j p hp
      have hpm : K.bare p ∈ S.q := by rw [← HBr.out]; exact List.mem_map_of_mem (List.mem_of_getElem? hp)
      have hp6 : p.1 ≤ 65536 := HQok.out _ hpm
      have HT : Hid (notedB C.notes ((ps.take (j + 1)).map K.bare) = isN C.notes p.1) := by
        show _ = _
        have h1 := HN.out
        rw [List.take_add_one, hp, List.map_append]
        unfold notedB at h1 ⊢
        rw [List.any_append, h1]
        simp [K.bare]
      have HY : Hid (isN C.notes p.1 = true → notedB C.notes S.q = true) := fun hy => by
        unfold notedB
        rw [List.any_eq_true]
        exact ⟨_, hpm, hy⟩
      have HS0 : Hid ((wr.cell? ⟨w.heap.size, 0, none⟩ = some (.int .i64 n) ∧ wr.cell? ⟨w.heap.size, 1, none⟩ = some (.int .i64 k) ∧ wr.cell? ⟨w.heap.size, 2, none⟩ = some (.slice ao ml c0)) ∧ wr.cell? ⟨g, j * 2, none⟩ = some (.int .i64 p.1)) := ⟨hS, d0⟩
      have HNc : Hid (Calls Tryz.prog 26 #[.agg #[.int .i64 n, .int .i64 k, .slice ao ml c0], .int .i64 p.1] wr.drew fun r w' => r = .returned (.bool (isN C.notes p.1)) ∧ ((w'.cell? ⟨w.heap.size, 0, none⟩ = some (.int .i64 n) ∧ w'.cell? ⟨w.heap.size, 1, none⟩ = some (.int .i64 k) ∧ w'.cell? ⟨w.heap.size, 2, none⟩ = some (.slice ao ml c0)) ∧ w'.cell? ⟨g, j * 2, none⟩ = some (.int .i64 p.1)) ∧ Hid (Below w2.heap.size w2 w')) := by
        have hbd := HB.out.trans ((w_drew' wr).mono HB.out.size)
        refine (HNt.out wr.drew (HSt.out _ hbd).2.2.1 p.1 hp6).mono ?_
        rintro r w' ⟨rfl, hb'⟩
        have hbw := hbd.trans (hb'.mono hbd.size)
        obtain ⟨g1, _, _, g4⟩ := HSt.out w' hbw
        obtain ⟨g', e, g5⟩ := g4 j p hp
        cases e
        exact ⟨rfl, ⟨g1, g5⟩, hbw⟩
      clear hp hcs hpm hp6 hca har hS d0
      generalize isN C.notes p.1 = b at *
      cases b
      · go_wp2_with fail
        go_region_held3 (fun w' => (w'.cell? ⟨w.heap.size, 0, none⟩ = some (.int .i64 n) ∧ w'.cell? ⟨w.heap.size, 1, none⟩ = some (.int .i64 k) ∧ w'.cell? ⟨w.heap.size, 2, none⟩ = some (.slice ao ml c0)) ∧ w'.cell? ⟨g, j * 2, none⟩ = some (.int .i64 p.1)) (first | exact HS0.out | exact hS9 | go_keep) (first | (go_at_call 26; refine Calls.mono HNc.out ?_; rintro r w9 ⟨rfl, hS9, HB9⟩))
        go_wp2
        go_roundw
        case rel => exact ⟨j + 1, by omega, by go_num, HB9, HT⟩
        case measure => simp [intOf]; omega
      · go_wp2_with fail
        go_region_held3 (fun w' => (w'.cell? ⟨w.heap.size, 0, none⟩ = some (.int .i64 n) ∧ w'.cell? ⟨w.heap.size, 1, none⟩ = some (.int .i64 k) ∧ w'.cell? ⟨w.heap.size, 2, none⟩ = some (.slice ao ml c0)) ∧ w'.cell? ⟨g, j * 2, none⟩ = some (.int .i64 p.1)) (first | exact HS0.out | exact hS9 | go_keep) (first | (go_at_call 26; refine Calls.mono HNc.out ?_; rintro r w9 ⟨rfl, hS9, HB9⟩))
        go_wp2
        go_ret
        rw [HY.out (by first | rfl | trivial)]
        exact ⟨rfl, (HSt.out _ HB9.out).2.1⟩
    · have hjz : ¬ (j : Int) < (m : Int) := by omega
      have HR : Hid (notedB C.notes S.q = false) := by
        have h1 := HN.out
        rw [List.take_of_length_le (by have := HM.out; omega), HBr.out] at h1
        exact h1
      have HCA : Hid (CAct w wr P P C S C) := hca
      clear hS hca har hcs
      go_wp2
      go_ret
      rw [HR.out]
      exact ⟨rfl, HCA.out⟩
end Go.Proofs.YtbamjfnjenmdaaaGreat.C
