import Derived.Test.YtefgdhoapmikhaaDoorRpE
namespace Go.Proofs.YtefgdhoapmikhaaDoor
open Go.RowKit
set_option linter.unusedVariables false
set_option linter.unusedSimpArgs false
set_option maxRecDepth 100000
set_option maxHeartbeats 1000000 in
theorem rstruct_any (ix : Int) (st ex : Bool) (c : Value) (fl ty ck off len : Nat) (d : Value) (w : World) (h1 : ty < 65536) :
    Calls Tryd.prog 13 #[.agg #[.int .i64 ix, .bool st, .bool ex, c], .agg #[.int .u16 (fl : Int), .int .u16 (ty : Int), .int .u64 (ck : Int), .int .u64 (off : Int), .int .u64 (len : Int), d]] w fun e w' => e = .returned (.bool (strB st ex ty)) ∧ Below w.heap.size w w' := by
  generalize hB : strB st ex ty = B
  have hB' : B = true ↔ ex = true ∨ st = true ∧ (ty = 0 ∨ ty = 7) := by rw [← hB]; simp [strB]
  clear hB
  go_enter Tryd.func13, Tryd.ntmps13
  go_wp2
  all_goals
    go_ret
    refine ⟨ret_bool ?_, below2 _ _ _⟩
    rw [Bool.eq_iff_iff, hB']
    simp_all <;> omega
set_option maxHeartbeats 1000000 in
theorem rplaced_any (fl ty ck off len : Nat) (d : Value) (at_ : Nat) (w : World) (h1 : off < 18446744073709551616) (h2 : len < 18446744073709551616) (h3 : at_ < 18446744073709551616) :
    Calls Tryd.prog 33 #[.agg #[.int .u16 (fl : Int), .int .u16 (ty : Int), .int .u64 (ck : Int), .int .u64 (off : Int), .int .u64 (len : Int), d], .int .u64 (at_ : Int)] w fun e w' => e = .returned (.bool (decide (off ≤ at_) && decide (at_ < off + len))) ∧ Below w.heap.size w w' := by
  generalize hB : (decide (off ≤ at_) && decide (at_ < off + len)) = B
  have hB' : B = true ↔ (off ≤ at_ ∧ at_ < off + len) := by rw [← hB]; simp
  clear hB
  have u3 : off ≤ at_ → IntKind.u64.wrap ((at_ : Int) - (off : Int)) = (at_ : Int) - (off : Int) := fun h => wu64 (by omega) (by omega)
  go_enter Tryd.func33, Tryd.ntmps33
  go_wp2
  all_goals
    go_ret
    refine ⟨ret_bool ?_, below1 _ _⟩
    rw [Bool.eq_iff_iff, hB']
    simp_all <;> omega
set_option maxHeartbeats 2000000 in
theorem whole_some (fl ty ck off len : Nat) (d : Value) (b po pc n : Nat) (P : List Pc) (w : World) (h : PRow w (some ⟨b, po, none⟩) P) (HN : Hid (P.length = n)) (h1 : off < 18446744073709551616) (h2 : len < 18446744073709551616) :
    Calls Tryd.prog 34 #[.agg #[.int .u16 (fl : Int), .int .u16 (ty : Int), .int .u64 (ck : Int), .int .u64 (off : Int), .int .u64 (len : Int), d], .slice (some ⟨b, po, none⟩) n pc] w fun e w' => e = .returned (.bool (pieB off len 0 P)) ∧ Below w.heap.size w w' := by
  have hn : n ≤ 1048576 := HN.out ▸ h.len
  have HR : Hid (PRow w (some ⟨b, po, none⟩) P) := h
  clear h
  go_enter Tryd.func34, Tryd.ntmps34
  go_wp2
  have hx := mkb1 w #[.int .u16 (fl : Int), .int .u16 (ty : Int), .int .u64 (ck : Int), .int .u64 (off : Int), .int .u64 (len : Int), d] 29
  generalize w.alloc (Obj.cells #[.int .u16 (fl : Int), .int .u16 (ty : Int), .int .u64 (ck : Int), .int .u64 (off : Int), .int .u64 (len : Int), d] 29) = W0 at *
  have HX : Hid (Bx1 w W0 #[.int .u16 (fl : Int), .int .u16 (ty : Int), .int .u64 (ck : Int), .int .u64 (off : Int), .int .u64 (len : Int), d] 29) := hx
  clear hx
  go_loopw [5, 6] (fun dn i wr => ∃ k dd : Nat, k ≤ n ∧ i = .int .i64 (k : Int) ∧ dn = .int .u64 (dd : Int) ∧ dd ≤ len ∧ dd ≤ k * 4294967295 ∧ Bx1 w wr #[.int .u16 (fl : Int), .int .u16 (ty : Int), .int .u64 (ck : Int), .int .u64 (off : Int), .int .u64 (len : Int), d] 29 ∧ pieB off len 0 P = pieB off len dd (P.drop k)) (fun _ i _ => n - (intOf i).toNat)
  case atStart => exact ⟨0, 0, Nat.zero_le _, rfl, rfl, Nat.zero_le _, Nat.zero_le _, HX.out, rfl⟩
  case round =>
    obtain ⟨k, dd, hk, rfl, rfl, hdl, hdk, hbw, he⟩ := hrel
    have HE : Hid (pieB off len 0 P = pieB off len dd (P.drop k)) := he
    have HB : Hid (Bx1 w wr #[.int .u16 (fl : Int), .int .u16 (ty : Int), .int .u64 (ck : Int), .int .u64 (off : Int), .int .u64 (len : Int), d] 29) := hbw
    have r3 : wr.cell? ⟨w.heap.size, 3, none⟩ = some (.int .u64 (off : Int)) := by rw [blk_at hbw.a]; rfl
    have r4 : wr.cell? ⟨w.heap.size, 4, none⟩ = some (.int .u64 (len : Int)) := by rw [blk_at hbw.a]; rfl
    clear he HX
    by_cases hlt : k < n
    · have hkl : k < P.length := by rw [HN.out]; exact hlt
      have hrow : PRow wr (some ⟨b, po, none⟩) P := HR.out.later hbw.bel
      have g0 := hrow.cell b po rfl k hkl 0 (by decide)
      have g1 := hrow.cell b po rfl k hkl 1 (by decide)
      have g2 := hrow.cell b po rfl k hkl 2 (by decide)
      have g3 := hrow.cell b po rfl k hkl 3 (by decide)
      have hst := pie_step off len dd P k hkl
      have hok := hrow.ok _ (List.getElem_mem hkl)
      rw [hst] at HE
      generalize P[k] = p at *
      obtain ⟨o, l, ho, ao, m, cp⟩ := p
      obtain ⟨k1, k2, k3⟩ := hok
      simp only at k1 k2 k3
      simp only [Pc.cells] at g0 g1 g2 g3
      simp at g0 g1 g2 g3
      clear hst hrow hbw
      have HW : Hid (∀ c : Array Value, Bx1 w (wr.alloc (.cells c 62)) #[.int .u16 (fl : Int), .int .u16 (ty : Int), .int .u64 (ck : Int), .int .u64 (off : Int), .int .u64 (len : Int), d] 29) := fun c => HB.out.later (below1 wr _)
      have a1 : IntKind.u64.wrap (l : Int) = l := wu64 (by omega) (by omega)
      have a2 : IntKind.u64.wrap (18446744073709551615 - (off : Int)) = 18446744073709551615 - (off : Int) := wu64 (by omega) (by omega)
      have a3 : IntKind.u64.wrap (18446744073709551615 - (o : Int)) = 18446744073709551615 - (o : Int) := wu64 (by omega) (by omega)
      have a4 : IntKind.u64.wrap (m : Int) = m := wu64 (by omega) (by omega)
      have a5 : IntKind.u64.wrap ((dd : Int) + (l : Int)) = (dd : Int) + (l : Int) := wu64 (by omega) (by omega)
      have q3 : ∀ o, (wr.alloc o).cell? ⟨w.heap.size, 3, none⟩ = some (.int .u64 (off : Int)) := fun o => cell_later (below1 wr o) r3
      have q4 : ∀ o, (wr.alloc o).cell? ⟨w.heap.size, 4, none⟩ = some (.int .u64 (len : Int)) := fun o => cell_later (below1 wr o) r4
      rcases ho with _ | _
      all_goals go_wp2
      all_goals clear a1 a2 a3 a4 a5
      all_goals try have hm := bne_eq_false_iff_eq.1 (show ((m : Int) != (l : Int)) = false by assumption)
      all_goals first
        | (go_ret
           refine ⟨ret_bool ?_, (HW.out _).bel⟩
           rw [HE.out]
           symm
           rw [Bool.eq_false_iff]
           intro hh
           simp only [pcB, Bool.and_eq_true, decide_eq_true_eq] at hh
           simp at hh
           first | omega | (simp_all <;> omega))
        | (go_roundw
           case rel => exact ⟨k + 1, dd + l, by omega, by go_num, by go_num, by omega, by omega, HW.out _, by rw [HE.out]; simp only [pcB]; rw [decide_eq_true (by omega), decide_eq_true (by simp; omega), decide_eq_true (by omega), decide_eq_true (by omega), decide_eq_true (by omega)]; simp⟩
           case measure => simp [intOf]; omega)
        | trace_state
    · have HZ : Hid (P.drop k = []) := List.drop_eq_nil_of_le (by rw [HN.out]; omega)
      go_wp2
      go_ret
      refine ⟨ret_bool ?_, HB.out.bel⟩
      rw [HE.out, HZ.out]
      simp only [pieB]
      rw [Bool.eq_iff_iff]
      simp <;> omega
set_option maxHeartbeats 1000000 in
theorem whole_nil (fl ty ck off len : Nat) (d : Value) (po : Option Addr) (pc : Nat) (w : World) :
    Calls Tryd.prog 34 #[.agg #[.int .u16 (fl : Int), .int .u16 (ty : Int), .int .u64 (ck : Int), .int .u64 (off : Int), .int .u64 (len : Int), d], .slice po 0 pc] w fun e w' => e = .returned (.bool (pieB off len 0 [])) ∧ Below w.heap.size w w' := by
  go_enter Tryd.func34, Tryd.ntmps34
  go_wp2
  go_loopw [5, 6] (fun dn i wr => dn = .int .u64 0 ∧ i = .int .i64 0 ∧ wr = w.alloc (Obj.cells #[.int .u16 (fl : Int), .int .u16 (ty : Int), .int .u64 (ck : Int), .int .u64 (off : Int), .int .u64 (len : Int), d] 29)) (fun _ i _ => 0)
  case atStart => exact ⟨rfl, rfl, rfl⟩
  case round =>
    obtain ⟨rfl, rfl, rfl⟩ := hrel
    go_wp2
    go_ret
    refine ⟨ret_bool ?_, below1 _ _⟩
    simp only [pieB]
    rw [Bool.eq_iff_iff]
    simp <;> omega
theorem whole_any (fl ty ck off len : Nat) (d : Value) (po : Option Addr) (pc : Nat) (P : List Pc) (w : World) (h : PRow w po P) (h1 : off < 18446744073709551616) (h2 : len < 18446744073709551616) :
    Calls Tryd.prog 34 #[.agg #[.int .u16 (fl : Int), .int .u16 (ty : Int), .int .u64 (ck : Int), .int .u64 (off : Int), .int .u64 (len : Int), d], .slice po P.length pc] w fun e w' => e = .returned (.bool (pieB off len 0 P)) ∧ Below w.heap.size w w' := by
  by_cases hp : P = []
  · subst hp; exact whole_nil fl ty ck off len d po pc w
  · obtain ⟨b, o, rfl, _⟩ := h.at_ hp
    exact whole_some fl ty ck off len d b o pc _ P w h rfl h1 h2
end Go.Proofs.YtefgdhoapmikhaaDoor
