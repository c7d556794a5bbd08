import Derived.Test.YtefgdhoapmikhaaDoorRpA
namespace Go.Proofs.YtefgdhoapmikhaaDoor
open Go.RowKit
set_option linter.unusedVariables false
set_option linter.unusedSimpArgs false
set_option maxRecDepth 100000
theorem RuRow.cell {w : World} {po : Option Addr} {P : List Rn} (h : RuRow w po P) (b off : Nat) (hpo : po = some ⟨b, off, none⟩) (k : Nat) (hk : k < P.length) (j : Nat) (hj : j < 2) : w.cell? ⟨b, off + k * 2 + j, none⟩ = (P[k].cells)[j]? := by
  obtain ⟨b', o', e, hc⟩ := h.at_ (by intro h0; rw [h0] at hk; simp at hk)
  rw [hpo] at e
  simp at e
  obtain ⟨rfl, rfl⟩ := e
  exact hc k hk j hj
set_option maxHeartbeats 1000000 in
theorem runsFit_some (b po pc n len : Nat) (wide : Bool) (P : List Rn) (w : World) (h : RuRow w (some ⟨b, po, none⟩) P) (HN : Hid (P.length = n)) (h2 : len < 18446744073709551616) (hn0 : 0 < n) :
    Calls Tryd.prog 96 #[.slice (some ⟨b, po, none⟩) n pc, .int .u64 (len : Int), .bool wide] w fun e w' => e = .returned (.bool (runsB len wide P)) ∧ Below w.heap.size w w' := by
  have hn : n ≤ 1048576 := HN.out ▸ h.len
  have HR : Hid (RuRow w (some ⟨b, po, none⟩) P) := h
  clear h
  have HS : Hid (runsB len wide P = runB len wide P) := by simp only [runsB]; rw [decide_eq_true (show 0 < P.length by rw [HN.out]; exact hn0)]; rfl
  rw [HS.out]
  clear HS
  go_enter Tryd.func96, Tryd.ntmps96
  go_wp2
  go_loopw [7, 13] (fun dn i wr => ∃ k dd : Nat, k ≤ n ∧ i = .int .i64 (k : Int) ∧ dn = .int .u64 (dd : Int) ∧ dd ≤ len ∧ Below w.heap.size w wr ∧ runB len wide P = runB dd wide (P.drop k)) (fun _ i _ => n - (intOf i).toNat)
  case atStart => exact ⟨0, len, Nat.zero_le _, rfl, rfl, Nat.le_refl _, Below.refl _ _, rfl⟩
  case round =>
    obtain ⟨k, dd, hk, rfl, rfl, hdl, hbw, he⟩ := hrel
    have HE : Hid (runB len wide P = runB dd wide (P.drop k)) := he
    clear he
    have HB : Hid (Below w.heap.size w wr) := hbw
    by_cases hlt : k < n
    · have hkl : k < P.length := by rw [HN.out]; exact hlt
      have hrow : RuRow wr (some ⟨b, po, none⟩) P := HR.out.later hbw
      have g0 := hrow.cell b po rfl k hkl 0 (by decide)
      have g1 := hrow.cell b po rfl k hkl 1 (by decide)
      have hst := run_step dd wide P k hkl
      have hok := hrow.ok _ (List.getElem_mem hkl)
      rw [hst] at HE
      generalize P[k] = p at *
      obtain ⟨l, f⟩ := p
      obtain ⟨k1, k2⟩ := hok
      simp only at k1 k2
      simp only [Rn.cells] at g0 g1
      simp at g0 g1
      clear hst hrow hbw
      have u3 : l ≤ dd → IntKind.u64.wrap ((dd : Int) - (l : Int)) = (dd : Int) - (l : Int) := fun h => wu64 (by omega) (by omega)
      rcases wide with _ | _
      all_goals go_wp2
      all_goals clear u3
      all_goals first
        | (go_ret
           refine ⟨ret_bool ?_, HB.out.alloc HB.out.size _⟩
           rw [HE.out]
           symm
           rw [Bool.eq_false_iff]
           intro hh
           simp only [rnB, Bool.and_eq_true, Bool.or_eq_true, decide_eq_true_eq] at hh
           obtain ⟨⟨x1, x2, x3⟩, _⟩ := hh
           first | omega | (exfalso; rename_i ha _; rcases ha with ha | ha <;> (try simp at ha) <;> omega) | (rcases x3 with x3 | x3 <;> simp_all <;> omega))
        | (go_roundw
           case rel => exact ⟨k + 1, dd - l, by omega, by go_num, by go_num, by omega, HB.out.alloc HB.out.size _, by rw [HE.out]; simp only [rnB]; rw [decide_eq_true (by omega), decide_eq_true (by omega)]; first | rfl | (rw [decide_eq_true (by omega), decide_eq_true (by omega)]; rfl)⟩
           case measure => simp [intOf]; omega)
        | trace_state
    · have HZ : Hid (P.drop k = []) := List.drop_eq_nil_of_le (by rw [HN.out]; omega)
      go_wp2
      go_ret
      refine ⟨ret_bool ?_, HB.out⟩
      rw [HE.out, HZ.out]
      simp only [runB]
      rw [Bool.eq_iff_iff]
      simp <;> omega
set_option maxHeartbeats 1000000 in
theorem runsFit_nil (po : Option Addr) (pc len : Nat) (wide : Bool) (w : World) :
    Calls Tryd.prog 96 #[.slice po 0 pc, .int .u64 (len : Int), .bool wide] w fun e w' => e = .returned (.bool (runsB len wide [])) ∧ Below w.heap.size w w' := by
  have HS : Hid (runsB len wide [] = false) := rfl
  rw [HS.out]
  go_enter Tryd.func96, Tryd.ntmps96
  go_wp2
  go_loopw [7, 13] (fun dn i wr => dn = .int .u64 (len : Int) ∧ i = .int .i64 0 ∧ wr = w) (fun _ i _ => 0)
  case atStart => exact ⟨rfl, rfl, rfl⟩
  case round =>
    obtain ⟨rfl, rfl, rfl⟩ := hrel
    go_wp2
    all_goals
      go_ret
      exact ⟨rfl, Below.refl _ _⟩
theorem runsFit_any (po : Option Addr) (pc len : Nat) (wide : Bool) (P : List Rn) (w : World) (h : RuRow w po P) (h2 : len < 18446744073709551616) :
    Calls Tryd.prog 96 #[.slice po P.length pc, .int .u64 (len : Int), .bool wide] w fun e w' => e = .returned (.bool (runsB len wide P)) ∧ Below w.heap.size w w' := by
  by_cases hp : P = []
  · subst hp; exact runsFit_nil po pc len wide w
  · obtain ⟨b, o, rfl, _⟩ := h.at_ hp
    exact runsFit_some b o pc _ len wide P w h rfl h2 (List.length_pos_iff.2 hp)
end Go.Proofs.YtefgdhoapmikhaaDoor
