import Derived.Test.YtefgdhoapmikhaaDoorRpC
import Derived.Test.YtefgdhoapmikhaaDoorRpX
namespace Go.Proofs.YtefgdhoapmikhaaDoor
open Go.RowKit
set_option linter.unusedVariables false
set_option linter.unusedSimpArgs false
set_option maxRecDepth 100000
theorem LRow.cell {w : World} {po : Option Addr} {P : List Ls} (h : LRow w po P) (b off : Nat) (hpo : po = some ⟨b, off, none⟩) (k : Nat) (hk : k < P.length) : w.cell? ⟨b, off + k, none⟩ = some (.slice P[k].ao P[k].l.length P[k].cap) := by
  obtain ⟨b', o', e, hc⟩ := h.at_ (by intro h0; rw [h0] at hk; simp at hk)
  rw [hpo] at e
  simp at e
  obtain ⟨rfl, rfl⟩ := e
  exact hc k hk
theorem lists_step (len : Nat) (wide : Bool) (L : List Ls) (k : Nat) (hk : k < L.length) : listsB len wide (L.drop k) = (runsB len wide L[k].l && listsB len wide (L.drop (k + 1))) := by
  rw [List.drop_eq_getElem_cons hk]; rfl
abbrev sesA (ix : Int) (st ex : Bool) (co : Option Addr) (cn cc : Nat) : Array Value := #[.int .i64 ix, .bool st, .bool ex, .slice co cn cc]
abbrev reqA (fl ty ck off len : Nat) (d : Value) : Array Value := #[.int .u16 (fl : Int), .int .u16 (ty : Int), .int .u64 (ck : Int), .int .u64 (off : Int), .int .u64 (len : Int), d]
set_option maxHeartbeats 1000000 in
theorem statusFits_no (ix : Int) (st ex : Bool) (co : Option Addr) (cn cc : Nat) (fl ty ck off len : Nat) (d : Value) (po : Option Addr) (n pc : Nat) (w : World) (hty : ty = 7) (hcn : cn ≤ 1048576) (hn : n ≤ 1048576) (hno : ¬ ((st || ex) = true ∧ cn ≠ 0 ∧ n = cn)) :
    Calls Tryd.prog 68 #[.agg #[.int .i64 ix, .bool st, .bool ex, .slice co cn cc], .agg #[.int .u16 (fl : Int), .int .u16 (ty : Int), .int .u64 (ck : Int), .int .u64 (off : Int), .int .u64 (len : Int), d], .slice po n pc] w fun e w' => e = .returned (.bool false) ∧ Below w.heap.size w w' := by
  have HST : Hid (∀ W, Calls Tryd.prog 12 #[.agg #[.int .i64 ix, .bool st, .bool ex, .slice co cn cc], .agg #[.int .u16 (fl : Int), .int .u16 (ty : Int), .int .u64 (ck : Int), .int .u64 (off : Int), .int .u64 (len : Int), d]] W fun e w' => e = .returned (.bool (strB st ex ty)) ∧ Below W.heap.size W w') := fun W => struct_any ix st ex _ fl ty ck off len d W (by omega)
  have HS : Hid (strB st ex ty = (st || ex)) := by subst hty; cases st <;> cases ex <;> rfl
  rw [HS.out] at HST
  clear HS hty
  go_enter Tryd.func68, Tryd.ntmps68
  go_wp2_with fail
  have hx := mkb2 w #[.int .i64 ix, .bool st, .bool ex, .slice co cn cc] #[.int .u16 (fl : Int), .int .u16 (ty : Int), .int .u64 (ck : Int), .int .u64 (off : Int), .int .u64 (len : Int), d] 24 29
  generalize ((w.alloc (Obj.cells #[.int .i64 ix, .bool st, .bool ex, .slice co cn cc] 24)).alloc (Obj.cells #[.int .u16 (fl : Int), .int .u16 (ty : Int), .int .u64 (ck : Int), .int .u64 (off : Int), .int .u64 (len : Int), d] 29)) = W0 at *
  refine (HST.out _).mono ?_
  rintro e W1 ⟨rfl, hbe⟩
  have hy := hx.later hbe
  have p3 : W1.cell? ⟨w.heap.size, 3, none⟩ = some (.slice co cn cc) := by rw [blk_at hy.a]; rfl
  have HW : Hid (Below w.heap.size w W1) := hy.bel
  clear hbe hx hy
  generalize hq : (st || ex) = Q at hno ⊢
  clear HST hq
  rcases Q with _ | _
  · go_wp2
    go_ret
    exact ⟨rfl, HW.out⟩
  · by_cases h0 : cn = 0
    · go_wp2
      go_ret
      exact ⟨rfl, HW.out⟩
    · have h9 : ((n : Int) != (cn : Int)) = true := by rw [bne_iff_ne]; intro h; exact hno ⟨rfl, h0, by omega⟩
      clear hno
      go_wp2
      go_ret
      exact ⟨rfl, HW.out⟩
set_option maxHeartbeats 1000000 in
theorem statusFits_some (ix : Int) (st ex : Bool) (co : Option Addr) (cn cc : Nat) (fl ty ck off len : Nat) (d : Value) (b po n pc : Nat) (L : List Ls) (w : World) (hty : ty = 7) (hcn : cn ≤ 1048576) (h : LRow w (some ⟨b, po, none⟩) L) (HN : Hid (L.length = n)) (h2 : len < 18446744073709551616) (hse : (st || ex) = true) (hc0 : cn ≠ 0) (hnc : n = cn) :
    Calls Tryd.prog 68 #[.agg #[.int .i64 ix, .bool st, .bool ex, .slice co cn cc], .agg #[.int .u16 (fl : Int), .int .u16 (ty : Int), .int .u64 (ck : Int), .int .u64 (off : Int), .int .u64 (len : Int), d], .slice (some ⟨b, po, none⟩) n pc] w fun e w' => e = .returned (.bool (listsB len ex L)) ∧ Below w.heap.size w w' := by
  have HST : Hid (∀ W, Calls Tryd.prog 12 #[.agg #[.int .i64 ix, .bool st, .bool ex, .slice co cn cc], .agg #[.int .u16 (fl : Int), .int .u16 (ty : Int), .int .u64 (ck : Int), .int .u64 (off : Int), .int .u64 (len : Int), d]] W fun e w' => e = .returned (.bool (strB st ex ty)) ∧ Below W.heap.size W w') := fun W => struct_any ix st ex _ fl ty ck off len d W (by omega)
  have HS0 : strB st ex ty = true := by subst hty; revert hse; cases st <;> cases ex <;> simp [strB]
  have HS : Hid (strB st ex ty = true) := HS0
  rw [HS.out] at HST
  clear HS HS0 hty hse
  have HR : Hid (LRow w (some ⟨b, po, none⟩) L) := h
  clear h
  subst hnc
  have hz : ((n : Int) == 0) = false := by simp; omega
  go_enter Tryd.func68, Tryd.ntmps68
  go_wp2_with fail
  have hx := mkb2 w #[.int .i64 ix, .bool st, .bool ex, .slice co n cc] #[.int .u16 (fl : Int), .int .u16 (ty : Int), .int .u64 (ck : Int), .int .u64 (off : Int), .int .u64 (len : Int), d] 24 29
  generalize ((w.alloc (Obj.cells #[.int .i64 ix, .bool st, .bool ex, .slice co n cc] 24)).alloc (Obj.cells #[.int .u16 (fl : Int), .int .u16 (ty : Int), .int .u64 (ck : Int), .int .u64 (off : Int), .int .u64 (len : Int), d] 29)) = W0 at *
  refine (HST.out _).mono ?_
  rintro e W1 ⟨rfl, hbe⟩
  have hy := hx.later hbe
  have p3 : W1.cell? ⟨w.heap.size, 3, none⟩ = some (.slice co n cc) := by rw [blk_at hy.a]; rfl
  have HY : Hid (Bx2 w W1 #[.int .i64 ix, .bool st, .bool ex, .slice co n cc] #[.int .u16 (fl : Int), .int .u16 (ty : Int), .int .u64 (ck : Int), .int .u64 (off : Int), .int .u64 (len : Int), d] 24 29) := hy
  clear hbe hx hy HST
  go_wp2
  clear p3
  go_loopw [29] (fun i wr => ∃ k : Nat, k ≤ n ∧ i = .int .i64 (k : Int) ∧ Bx2 w wr #[.int .i64 ix, .bool st, .bool ex, .slice co n cc] #[.int .u16 (fl : Int), .int .u16 (ty : Int), .int .u64 (ck : Int), .int .u64 (off : Int), .int .u64 (len : Int), d] 24 29 ∧ listsB len ex L = listsB len ex (L.drop k)) (fun i _ => n - (intOf i).toNat)
  case atStart => exact ⟨0, Nat.zero_le _, rfl, HY.out, rfl⟩
  case round =>
    obtain ⟨k, hk, rfl, hbw, he⟩ := hrel
    have HE : Hid (listsB len ex L = listsB len ex (L.drop k)) := he
    have HB : Hid (Bx2 w wr #[.int .i64 ix, .bool st, .bool ex, .slice co n cc] #[.int .u16 (fl : Int), .int .u16 (ty : Int), .int .u64 (ck : Int), .int .u64 (off : Int), .int .u64 (len : Int), d] 24 29) := hbw
    clear he HY
    by_cases hlt : k < n
    · have hkl : k < L.length := by rw [HN.out]; exact hlt
      have hrow : LRow wr (some ⟨b, po, none⟩) L := HR.out.later hbw.bel
      have g0 := hrow.cell b po rfl k hkl
      have hst := lists_step len ex L k hkl
      have hro := (hrow.row _ (List.getElem_mem hkl)).1
      have r4 : wr.cell? ⟨w.heap.size + 1, 4, none⟩ = some (.int .u64 (len : Int)) := by rw [blk_at hbw.b]; rfl
      have r2 : wr.cell? ⟨w.heap.size, 2, none⟩ = some (.bool ex) := by rw [blk_at hbw.a]; rfl
      rw [hst] at HE
      generalize L[k] = p at *
      obtain ⟨ao, cap, l⟩ := p
      have HF : Hid (Calls Tryd.prog 96 #[.slice ao l.length cap, .int .u64 (len : Int), .bool ex] wr fun e w' => e = .returned (.bool (runsB len ex l)) ∧ Below wr.heap.size wr w') := runsFit_any ao cap len ex l wr hro h2
      have hl0 : l.length ≤ 1048576 := hro.len
      simp only at g0 HE
      clear hst hrow hbw hro
      generalize runsB len ex l = R at *
      generalize l.length = m at *
      go_wp2_with fail
      refine HF.out.mono ?_
      rintro e W2 ⟨rfl, hbe⟩
      have HW : Hid (Bx2 w W2 #[.int .i64 ix, .bool st, .bool ex, .slice co n cc] #[.int .u16 (fl : Int), .int .u16 (ty : Int), .int .u64 (ck : Int), .int .u64 (off : Int), .int .u64 (len : Int), d] 24 29) := HB.out.later hbe
      clear hbe r4 r2 g0 HF
      rcases R with _ | _
      · go_wp2
        go_ret
        exact ⟨ret_bool (by rw [HE.out]; rfl), HW.out.bel⟩
      · go_wp2
        go_roundw
        case rel => exact ⟨k + 1, by omega, by go_num, HW.out, by rw [HE.out]; rfl⟩
        case measure => simp [intOf]; omega
    · have HZ : Hid (L.drop k = []) := List.drop_eq_nil_of_le (by rw [HN.out]; omega)
      go_wp2
      go_ret
      exact ⟨ret_bool (by rw [HE.out, HZ.out]; rfl), HB.out.bel⟩
theorem statusFits_any (ix : Int) (st ex : Bool) (co : Option Addr) (cn cc : Nat) (fl ty ck off len : Nat) (d : Value) (lo : Option Addr) (pc : Nat) (L : List Ls) (w : World) (hty : ty = 7) (hcn : cn ≤ 1048576) (h : LRow w lo L) (h2 : len < 18446744073709551616) :
    Calls Tryd.prog 68 #[.agg #[.int .i64 ix, .bool st, .bool ex, .slice co cn cc], .agg #[.int .u16 (fl : Int), .int .u16 (ty : Int), .int .u64 (ck : Int), .int .u64 (off : Int), .int .u64 (len : Int), d], .slice lo L.length pc] w fun e w' => e = .returned (.bool ((st || ex) && (decide (cn ≠ 0) && (decide (L.length = cn) && listsB len ex L)))) ∧ Below w.heap.size w w' := by
  by_cases hc : (st || ex) = true ∧ cn ≠ 0 ∧ L.length = cn
  · obtain ⟨h3, h4, h5⟩ := hc
    obtain ⟨b, o, rfl, _⟩ := h.at_ (by intro h0; rw [h0] at h5; simp at h5; omega)
    have e1 : ((st || ex) && (decide (cn ≠ 0) && (decide (L.length = cn) && listsB len ex L))) = listsB len ex L := by rw [h3]; simp [h4, h5]
    rw [e1]
    exact statusFits_some ix st ex co cn cc fl ty ck off len d b o _ pc L w hty hcn h rfl h2 h3 h4 h5
  · have : ((st || ex) && (decide (cn ≠ 0) && (decide (L.length = cn) && listsB len ex L))) = false := by
      rw [Bool.eq_false_iff]
      intro hh
      simp only [Bool.and_eq_true, decide_eq_true_eq] at hh
      exact hc ⟨hh.1, hh.2.1, hh.2.2.1⟩
    rw [this]
    exact statusFits_no ix st ex co cn cc fl ty ck off len d lo _ pc w hty hcn h.len hc
end Go.Proofs.YtefgdhoapmikhaaDoor
