import Derived.Test.YtncajaihojhkkaaGreatET1
namespace Go.Proofs.YtncajaihojhkkaaGreat.I
open Go.RowKit Go.Sort Go.Lib Go.Shelf Go.Proofs.YtncajaihojhkkaaGreat
attribute [local go_sem] Oper.semAt_some
set_option linter.unusedVariables false
set_option linter.unusedSimpArgs false
set_option maxRecDepth 100000

theorem qrow_cells {w : World} {B T : Nat} {ao : Option Addr} {cap : Nat} {S : List Put} (h : w.ownsRow B T 3 (.slice ao S.length cap) S.length (qcells S)) {k : Nat} {q : Put} (hk : S[k]? = some q) :
    ∃ g, ao = some ⟨g, 0, none⟩ ∧ w.cell? ⟨g, k * 3, none⟩ = some (.int .i64 q.1) ∧ w.cell? ⟨g, k * 3 + 1, none⟩ = some (.int .i64 q.2.1) ∧ w.cell? ⟨g, k * 3 + 2, none⟩ = some (.int .i64 q.2.2) := by
  have hlt := (List.getElem?_eq_some_iff.1 hk).1
  rcases h.2 with ⟨_, h0⟩ | ⟨g, cp, cur, hv, _⟩
  · omega
  · simp only [Value.slice.injEq] at hv
    obtain ⟨rfl, _, _⟩ := hv
    have c0 := h.cells (g := g) rfl _ _ ((qcells_get S k q hk 0 (by omega)).trans rfl)
    have c1 := h.cells (g := g) rfl _ _ ((qcells_get S k q hk 1 (by omega)).trans rfl)
    have c2 := h.cells (g := g) rfl _ _ ((qcells_get S k q hk 2 (by omega)).trans rfl)
    rw [WideShapes.add_plain, Nat.zero_add] at c0 c1 c2
    exact ⟨g, rfl, c0, c1, c2⟩
theorem dAt_out {w : World} {B bd : Nat} {sv : Value} {size first : Int} {S : List Put} (h : DM w B bd sv size first S) (i : Int) (ho : i < 0 ∨ size ≤ i) :
    Calls Tryz.prog 25 #[.pointer (some ⟨bd, 0, none⟩), .int .i64 i] w fun e w' => e = .returned (.tuple #[.int .i64 0, .bool false]) ∧ w' = w := by
  have c0 : w.cell? ⟨bd, 0, none⟩ = some (.bool true) := h.c 0
  have c1 : w.cell? ⟨bd, 1, none⟩ = some (.int .i64 size) := h.c 1
  clear h
  go_enter Tryz.func25, Tryz.ntmps25
  by_cases h0 : i < 0
  · clear ho
    go_wp2
    go_ret2
    exact ⟨rfl, rfl⟩
  · have h1 : size ≤ i := by omega
    clear ho
    go_wp2
    go_ret2
    exact ⟨rfl, rfl⟩
set_option maxHeartbeats 4000000 in
theorem dAt_in {w : World} {B bd : Nat} {sv : Value} {size first : Int} {S : List Put} (h : DM w B bd sv size first S) (i : Int) (h0 : 0 ≤ i) (h1 : i < size) (hl : S.length ≤ 1099511627776) :
    Calls Tryz.prog 25 #[.pointer (some ⟨bd, 0, none⟩), .int .i64 i] w fun e w' => e = .returned (.tuple #[.int .i64 (lastV size first S i), .bool true]) ∧ w' = w := by
  have c0 : w.cell? ⟨bd, 0, none⟩ = some (.bool true) := h.c 0
  have c1 : w.cell? ⟨bd, 1, none⟩ = some (.int .i64 size) := h.c 1
  have c2 : w.cell? ⟨bd, 2, none⟩ = some (.int .i64 first) := h.c 2
  have c3 : w.cell? ⟨bd, 3, none⟩ = some sv := h.c 3
  obtain ⟨ao, cap, rfl⟩ := own_slice h.row
  have HR : Hid (∀ k q, S[k]? = some q → ∃ g, ao = some ⟨g, 0, none⟩ ∧ w.cell? ⟨g, k * 3, none⟩ = some (.int .i64 q.1) ∧ w.cell? ⟨g, k * 3 + 1, none⟩ = some (.int .i64 q.2.1) ∧ w.cell? ⟨g, k * 3 + 2, none⟩ = some (.int .i64 q.2.2)) := fun k q hk => qrow_cells h.row hk
  have HMy : Hid (∀ q ∈ S, I.may size q.1 q.2.1) := h.may
  obtain ⟨n, hn⟩ : ∃ n, S.length = n := ⟨_, rfl⟩
  rw [hn] at c3 hl
  have HN : Hid (S.length = n) := hn
  obtain ⟨L, hL⟩ : ∃ L, L = lastV size first S i := ⟨_, rfl⟩
  rw [← hL]
  have HL0 : Hid (L = lastV size first (S.take n) i) := by show _ = _; rw [hL, List.take_of_length_le (by omega)]
  clear h hn hL
  have n0 : ¬ i < 0 := by omega
  have n1 : ¬ size ≤ i := by omega
  go_enter Tryz.func25, Tryz.ntmps25
  go_wp2
  go_loopw [6] (fun v wr => wr = w ∧ ∃ (m : Nat), m ≤ n ∧ v = .int .i64 ((m : Int) - 1) ∧ Hid (L = lastV size first (S.take m) i)) (fun v _ => (intOf v + 1).toNat)
  case atStart => exact ⟨rfl, n, Nat.le_refl _, by go_num, HL0⟩
  case round =>
    obtain ⟨rfl, m, hm, rfl, HLm⟩ := hrel
    by_cases hz : 1 ≤ m
    · obtain ⟨k, rfl⟩ : ∃ k, m = k + 1 := ⟨m - 1, by omega⟩
      obtain ⟨q, hq⟩ : ∃ q, S[k]? = some q := ⟨_, List.getElem?_eq_getElem (by have := HN.out; omega)⟩
      obtain ⟨g, rfl, d0, d1, d2⟩ := HR.out k q hq
      have hmy := HMy.out q (List.mem_of_getElem? hq)
      have HS : Hid (lastV size first (S.take (k + 1)) i = if I.may size q.1 q.2.1 ∧ q.1 ≤ i ∧ i < q.2.1 then q.2.2 else lastV size first (S.take k) i) := by
        show _ = _
        rw [List.take_add_one, hq, show (some q).toList = [q] from rfl, lastV_snoc]
      have HMq : Hid (I.may size q.1 q.2.1) := hmy
      have ek : ((k + 1 : Nat) : Int) - 1 = (k : Int) := by omega
      rw [ek]
      have hkn : (k : Int) < (n : Int) := by omega
      have hk0 : (0 : Int) ≤ (k : Int) := by omega
      clear hq hmy ek
      by_cases c1' : q.1 ≤ i
      · by_cases c2' : i < q.2.1
        · have HE : Hid (L = q.2.2) := by show _ = _; rw [HLm.out, HS.out, if_pos ⟨HMq.out, c1', c2'⟩]
          go_wp2
          go_ret2
          exact ⟨by rw [HE.out]; rfl, rfl⟩
        · have HE : Hid (L = lastV size first (S.take k) i) := by show _ = _; rw [HLm.out, HS.out, if_neg (fun h => c2' h.2.2)]
          go_wp2
          go_roundw
          case rel => exact ⟨by trivial, k, by omega, by go_num, HE⟩
          case measure => simp [intOf] <;> omega
      · have HE : Hid (L = lastV size first (S.take k) i) := by show _ = _; rw [HLm.out, HS.out, if_neg (fun h => c1' h.2.1)]
        go_wp2
        go_roundw
        case rel => exact ⟨by trivial, k, by omega, by go_num, HE⟩
        case measure => simp [intOf] <;> omega
    · have e : m = 0 := by omega
      subst e
      have HE : Hid (L = first) := HLm.out
      have hz0 : ¬ (0 : Int) ≤ ((0 : Nat) : Int) - 1 := by omega
      go_wp2
      go_ret2
      exact ⟨by rw [HE.out]; rfl, rfl⟩
end Go.Proofs.YtncajaihojhkkaaGreat.I
