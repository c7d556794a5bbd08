import Derived.Test.YtefgdhoapmikhaaDoorRpA
namespace Go.Proofs.YtefgdhoapmikhaaDoor
open Go.RowKit
set_option linter.unusedVariables false
set_option linter.unusedSimpArgs false
set_option maxRecDepth 100000
theorem PRow.cell {w : World} {po : Option Addr} {P : List Pc} (h : PRow w po P) (b off : Nat) (hpo : po = some ⟨b, off, none⟩) (k : Nat) (hk : k < P.length) (j : Nat) (hj : j < 4) : w.cell? ⟨b, off + k * 4 + j, none⟩ = (P[k].cells)[j]? := by
  obtain ⟨b', o', e, hc⟩ := h.at_ (by intro h0; rw [h0] at hk; simp at hk)
  rw [hpo] at e
  simp at e
  obtain ⟨rfl, rfl⟩ := e
  exact hc k hk j hj
set_option maxHeartbeats 1000000 in
theorem piecesFit_some (fl ty ck off len : Nat) (d : Value) (b po pc n : Nat) (P : List Pc) (w : World) (h : PRow w (some ⟨b, po, none⟩) P) (HN : Hid (P.length = n)) (h1 : off < 18446744073709551616) (h2 : len < 18446744073709551616) :
    Calls Tryd.prog 67 #[.agg #[.int .u16 (fl : Int), .int .u16 (ty : Int), .int .u64 (ck : Int), .int .u64 (off : Int), .int .u64 (len : Int), d], .slice (some ⟨b, po, none⟩) n pc] w fun e w' => e = .returned (.bool (pieB off len 0 P)) ∧ Below w.heap.size w w' := by
  have hn : n ≤ 1048576 := HN.out ▸ h.len
  have HR : Hid (PRow w (some ⟨b, po, none⟩) P) := h
  clear h
  go_enter Tryd.func67, Tryd.ntmps67
  go_wp2
  have hb1 := below1 w (Obj.cells #[.int .u16 (fl : Int), .int .u16 (ty : Int), .int .u64 (ck : Int), .int .u64 (off : Int), .int .u64 (len : Int), d] 29)
  have hx1 := heap_new w (Obj.cells #[.int .u16 (fl : Int), .int .u16 (ty : Int), .int .u64 (ck : Int), .int .u64 (off : Int), .int .u64 (len : Int), d] 29)
  have hsz : w.heap.size < (w.alloc (Obj.cells #[.int .u16 (fl : Int), .int .u16 (ty : Int), .int .u64 (ck : Int), .int .u64 (off : Int), .int .u64 (len : Int), d] 29)).heap.size := by simp
  generalize w.alloc (Obj.cells #[.int .u16 (fl : Int), .int .u16 (ty : Int), .int .u64 (ck : Int), .int .u64 (off : Int), .int .u64 (len : Int), d] 29) = W0 at *
  go_loopw [5, 10] (fun dn i wr => ∃ k dd : Nat, k ≤ n ∧ i = .int .i64 (k : Int) ∧ dn = .int .u64 (dd : Int) ∧ dd ≤ len ∧ Below W0.heap.size W0 wr ∧ pieB off len 0 P = pieB off len dd (P.drop k)) (fun _ i _ => n - (intOf i).toNat)
  case atStart => exact ⟨0, 0, Nat.zero_le _, rfl, rfl, Nat.zero_le _, Below.refl _ _, rfl⟩
  case round =>
    obtain ⟨k, dd, hk, rfl, rfl, hdl, hbw, he⟩ := hrel
    have HE : Hid (pieB off len 0 P = pieB off len dd (P.drop k)) := he
    clear he
    have HB : Hid (Below W0.heap.size W0 wr) := hbw
    have HB1 : Hid (Below w.heap.size w W0) := hb1
    have HX1 := hx1
    have hbx : wr.heap[w.heap.size]? = some (Obj.cells #[.int .u16 (fl : Int), .int .u16 (ty : Int), .int .u64 (ck : Int), .int .u64 (off : Int), .int .u64 (len : Int), d] 29) := by rw [hbw.block _ hsz]; exact hx1
    have r3 : wr.cell? ⟨w.heap.size, 3, none⟩ = some (.int .u64 (off : Int)) := by rw [blk_at hbx]; rfl
    have r4 : wr.cell? ⟨w.heap.size, 4, none⟩ = some (.int .u64 (len : Int)) := by rw [blk_at hbx]; rfl
    by_cases hlt : k < n
    · have hkl : k < P.length := by rw [HN.out]; exact hlt
      have hrow : PRow wr (some ⟨b, po, none⟩) P := (HR.out.later hb1).later hbw
      have g0 := hrow.cell b po rfl k hkl 0 (by decide)
      have g1 := hrow.cell b po rfl k hkl 1 (by decide)
      have g2 := hrow.cell b po rfl k hkl 2 (by decide)
      have g3 := hrow.cell b po rfl k hkl 3 (by decide)
      have hst := pie_step off len dd P k hkl
      have hok := hrow.ok _ (List.getElem_mem hkl)
      rw [hst] at HE
      generalize P[k] = p at *
      have HF : Hid (∀ W, Calls Tryd.prog 95 #[.agg p.cells] W fun e w' => e = .returned (.bool (pcB p)) ∧ Below W.heap.size W w') := fun W => pieceFits_any p hok W
      obtain ⟨o, l, ho, ao, m, cp⟩ := p
      obtain ⟨k1, k2, k3⟩ := hok
      simp only at k1 k2 k3
      simp only [Pc.cells] at g0 g1 g2 g3 HF
      simp at g0 g1 g2 g3
      clear hst hrow hbw hb1 hx1 HX1 hbx
      generalize pcB _ = B1 at *
      go_wp2_with fail
      refine (HF.out _).mono ?_
      rintro e W1 ⟨rfl, hbe⟩
      have q3 := cell_later hbe (cell_later (below1 wr _) r3)
      have q4 := cell_later hbe (cell_later (below1 wr _) r4)
      have p0 : W1.cell? ⟨wr.heap.size, 0, none⟩ = some (.int .u64 (o : Int)) := cell_later hbe (by rw [blk_at (heap_new wr _)]; rfl)
      have p1 : W1.cell? ⟨wr.heap.size, 1, none⟩ = some (.int .u32 (l : Int)) := cell_later hbe (by rw [blk_at (heap_new wr _)]; rfl)
      have HW : Hid (Below W0.heap.size W0 W1) := (HB.out.trans ((below1 wr _).mono HB.out.size)).trans (hbe.mono (Nat.le_trans HB.out.size (by simp)))
      clear hbe r3 r4 g0 g1 g2 g3
      generalize wr.heap.size = g at *
      have u1 : IntKind.u64.wrap (l : Int) = l := wu64 (by omega) (by omega)
      have u2 : off ≤ o → IntKind.u64.wrap ((o : Int) - (off : Int)) = (o : Int) - (off : Int) := fun h => wu64 (by omega) (by omega)
      have u3 : IntKind.u64.wrap ((len : Int) - (dd : Int)) = (len : Int) - (dd : Int) := wu64 (by omega) (by omega)
      go_wp2
      all_goals clear u1 u2 u3
      all_goals first
        | (go_ret
           refine ⟨ret_bool ?_, HB1.out.trans (HW.out.mono (Nat.le_of_lt hsz))⟩
           rw [HE.out]
           symm
           rw [Bool.eq_false_iff]
           intro hh
           simp only [Bool.and_eq_true, decide_eq_true_eq] at hh
           obtain ⟨x1, x2, x3, _⟩ := hh
           first | omega | simp_all)
        | (have hB : B1 = true := by assumption
           go_roundw
           case rel => exact ⟨k + 1, dd + l, by omega, by go_num, by go_num, by omega, HW.out, by rw [HE.out, hB, decide_eq_true (by omega), decide_eq_true (by omega)]; simp⟩
           case measure => simp [intOf]; omega)
    · have HZ : Hid (P.drop k = []) := List.drop_eq_nil_of_le (by rw [HN.out]; omega)
      go_wp2
      go_ret
      refine ⟨ret_bool ?_, HB1.out.trans (HB.out.mono (Nat.le_of_lt hsz))⟩
      rw [HE.out, HZ.out]
      simp only [pieB]
      rw [Bool.eq_iff_iff]
      simp <;> omega
set_option maxHeartbeats 1000000 in
theorem piecesFit_nil (fl ty ck off len : Nat) (d : Value) (po : Option Addr) (pc : Nat) (w : World) :
    Calls Tryd.prog 67 #[.agg #[.int .u16 (fl : Int), .int .u16 (ty : Int), .int .u64 (ck : Int), .int .u64 (off : Int), .int .u64 (len : Int), d], .slice po 0 pc] w fun e w' => e = .returned (.bool (pieB off len 0 [])) ∧ Below w.heap.size w w' := by
  go_enter Tryd.func67, Tryd.ntmps67
  go_wp2
  go_loopw [5, 10] (fun dn i wr => dn = .int .u64 0 ∧ i = .int .i64 0 ∧ wr = w.alloc (Obj.cells #[.int .u16 (fl : Int), .int .u16 (ty : Int), .int .u64 (ck : Int), .int .u64 (off : Int), .int .u64 (len : Int), d] 29)) (fun _ i _ => 0)
  case atStart => exact ⟨rfl, rfl, rfl⟩
  case round =>
    obtain ⟨rfl, rfl, rfl⟩ := hrel
    go_wp2
    go_ret
    refine ⟨ret_bool ?_, below1 _ _⟩
    simp only [pieB]
    rw [Bool.eq_iff_iff]
    simp <;> omega
theorem piecesFit_any (fl ty ck off len : Nat) (d : Value) (po : Option Addr) (pc : Nat) (P : List Pc) (w : World) (h : PRow w po P) (h1 : off < 18446744073709551616) (h2 : len < 18446744073709551616) :
    Calls Tryd.prog 67 #[.agg #[.int .u16 (fl : Int), .int .u16 (ty : Int), .int .u64 (ck : Int), .int .u64 (off : Int), .int .u64 (len : Int), d], .slice po P.length pc] w fun e w' => e = .returned (.bool (pieB off len 0 P)) ∧ Below w.heap.size w w' := by
  by_cases hp : P = []
  · subst hp; exact piecesFit_nil fl ty ck off len d po pc w
  · obtain ⟨b, o, rfl, _⟩ := h.at_ hp
    exact piecesFit_some fl ty ck off len d b o pc _ P w h rfl h1 h2
end Go.Proofs.YtefgdhoapmikhaaDoor
