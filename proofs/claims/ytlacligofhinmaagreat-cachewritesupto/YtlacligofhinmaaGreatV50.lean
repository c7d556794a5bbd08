import Derived.Test.YtlacligofhinmaaGreatV47
namespace Go.Proofs.YtlacligofhinmaaGreat.C
open Go.RowKit Go.Maps Go.Shelf Go.Proofs.YtlacligofhinmaaGreat
attribute [local go_sem] Oper.semAt_some
set_option linter.unusedVariables false
set_option linter.unusedSimpArgs false
set_option maxRecDepth 100000

theorem lcellsT_get3 : ∀ {L : List Ln} {i : Nat} {x : Ln}, L[i]? = some x → (lcellsT L)[i * 3]? = some (.int .i64 x.sec) ∧ (lcellsT L)[i * 3 + 1]? = some (.bool x.dirty) ∧ (lcellsT L)[i * 3 + 2]? = some (.bool x.note)
  | [], i, x, h => by simp at h
  | y :: r, 0, x, h => by simp at h; subst h; exact ⟨rfl, rfl, rfl⟩
  | y :: r, i + 1, x, h => by
    have ih := lcellsT_get3 (L := r) (i := i) (by simpa using h)
    have e : lcellsT (y :: r) = lcell y ++ lcellsT r := by simp [lcellsT]
    have l3 : (lcell y).length = 3 := rfl
    rw [e, List.getElem?_append_right (by omega), List.getElem?_append_right (by omega), List.getElem?_append_right (by omega), l3]
    rw [show (i + 1) * 3 - 3 = i * 3 by omega, show (i + 1) * 3 + 1 - 3 = i * 3 + 1 by omega, show (i + 1) * 3 + 2 - 3 = i * 3 + 2 by omega]
    exact ih
theorem lrow {w : World} {B n c : Nat} {ao : Option Addr} {L : List Ln} (h : w.ownsRow B TLq 3 (.slice ao n c) n (lcellsT L)) (hn : n = L.length) : ∀ j y, L[j]? = some y → ∃ g, ao = some ⟨g, 0, none⟩ ∧ w.cell? ⟨g, j * 3, none⟩ = some (.int .i64 y.sec) ∧ w.cell? ⟨g, j * 3 + 1, none⟩ = some (.bool y.dirty) ∧ w.cell? ⟨g, j * 3 + 2, none⟩ = some (.bool y.note) := fun j y hj => by
  have hl := (List.getElem?_eq_some_iff.1 hj).1
  have hr := h
  rcases h.2 with ⟨e, h0⟩ | ⟨g, cap, cur, e, hb, hg, _⟩
  · omega
  · cases e
    obtain ⟨h1, h2, h3⟩ := lcellsT_get3 hj
    exact ⟨g, rfl, (hr.cellAt _ (by omega)).trans h1, (hr.cellAt _ (by omega)).trans h2, (hr.cellAt _ (by omega)).trans h3⟩
theorem neLq (w : World) (x : Int) (d n : Bool) : (binOp .neq TLq (.agg #[.int .i64 x, .bool d, .bool n]) (.agg #[.int .i64 x, .bool d, .bool n])).run Tryz.prog w = .ok (.bool false) w := by
  have hu := Tryz.underlying51
  have hi := Tryz.underlying3
  have hb := Tryz.underlying4
  simp [go_sem, hu, hi, hb]
set_option maxHeartbeats 4000000 in
theorem same_lines {w : World} {B B' : Nat} {v v' : Value} {L : List Ln} (h : w.ownsRow B TLq 3 v L.length (lcellsT L)) (h' : w.ownsRow B' TLq 3 v' L.length (lcellsT L)) (hl : L.length ≤ 1024) :
    Calls Tryz.prog 16 #[v, v'] w fun r w' => r = .returned (.bool true) ∧ Below w.heap.size w w' := by
  obtain ⟨ao, c, rfl⟩ := K.own_slice h
  obtain ⟨bo, d, rfl⟩ := K.own_slice h'
  have HA : Hid (∀ j y, L[j]? = some y → ∃ g, ao = some ⟨g, 0, none⟩ ∧ w.cell? ⟨g, j * 3, none⟩ = some (.int .i64 y.sec) ∧ w.cell? ⟨g, j * 3 + 1, none⟩ = some (.bool y.dirty) ∧ w.cell? ⟨g, j * 3 + 2, none⟩ = some (.bool y.note)) := lrow h rfl
  have HB : Hid (∀ j y, L[j]? = some y → ∃ g, bo = some ⟨g, 0, none⟩ ∧ w.cell? ⟨g, j * 3, none⟩ = some (.int .i64 y.sec) ∧ w.cell? ⟨g, j * 3 + 1, none⟩ = some (.bool y.dirty) ∧ w.cell? ⟨g, j * 3 + 2, none⟩ = some (.bool y.note)) := lrow h' rfl
  have hne := neLq
  obtain ⟨m, hm⟩ : ∃ m, m = L.length := ⟨_, rfl⟩
  have HM : Hid (m = L.length) := hm
  rw [← hm] at hl ⊢
  clear h h' hm
  go_enter Tryz.func16, Tryz.ntmps16
  go_wp2
  go_loopw [5] (fun i wr => ∃ (k : Nat), k ≤ m ∧ i = .int .i64 k ∧ Hid (Below w.heap.size w wr)) (fun i _ => m - (intOf i).toNat)
  case atStart => exact ⟨0, Nat.zero_le _, rfl, Below.refl _ _⟩
  case round =>
    obtain ⟨k, hk, rfl, HBw⟩ := hrel
    by_cases hlt : k < m
    · have hkz : (k : Int) < (m : Int) := by omega
      obtain ⟨y, hy⟩ : ∃ y, L[k]? = some y := ⟨_, List.getElem?_eq_getElem (by have := HM.out; omega)⟩
      obtain ⟨g, hae, c0, c1, c2⟩ := HA.out k y hy
      obtain ⟨g', hbe, d0, d1, d2⟩ := HB.out k y hy
      subst hae hbe
      have c0' := cell_later HBw.out c0
      have c1' := cell_later HBw.out c1
      have c2' := cell_later HBw.out c2
      have d0' := cell_later HBw.out d0
      have d1' := cell_later HBw.out d1
      have d2' := cell_later HBw.out d2
      clear c0 c1 c2 d0 d1 d2 hy HA HB
      go_wp2
      go_quiet (fail)
      go_wp2
      go_roundw
      case rel => exact ⟨k + 1, by omega, by go_num, ⟨HBw.out.os, HBw.out.tape, HBw.out.output, HBw.out.size, HBw.out.block⟩⟩
      case measure => simp [intOf]; omega
    · have hkz : ¬ (k : Int) < (m : Int) := by omega
      go_wp2
      go_ret
      exact ⟨rfl, HBw.out⟩
end Go.Proofs.YtlacligofhinmaaGreat.C
