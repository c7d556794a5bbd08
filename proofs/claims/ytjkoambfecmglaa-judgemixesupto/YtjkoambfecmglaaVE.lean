import Derived.Test.YtjkoambfecmglaaVD
namespace Go.Proofs.Ytjkoambfecmglaa
open Go.RowKit
set_option linter.unusedVariables false
set_option linter.unusedSimpArgs false
set_option maxRecDepth 100000
/-- a row of whole numbers -/
structure ZRow (W : World) (ao : Option Addr) (l : List Int) : Prop where
  at_ : l ≠ [] → ∃ b off, ao = some ⟨b, off, none⟩ ∧ ∀ k (hk : k < l.length), W.cell? ⟨b, off + k, none⟩ = some (.int .i64 l[k])
theorem ZRow.later {W V : World} {ao : Option Addr} {l : List Int} (h : ZRow W ao l) (hb : Below W.heap.size W V) : ZRow V ao l :=
  ⟨fun hl => by obtain ⟨b, off, e, hc⟩ := h.at_ hl; exact ⟨b, off, e, fun k hk => cell_later hb (hc k hk)⟩⟩
theorem mem_take_succ (l : List Int) (x : Int) (i : Nat) (hi : i < l.length) (h : ¬ x ∈ l.take i) (hx : l[i] ≠ x) : ¬ x ∈ l.take (i + 1) := by
  rw [List.take_succ_eq_append_getElem hi]
  simp only [List.mem_append, List.mem_singleton, not_or]
  exact ⟨h, fun e => hx e.symm⟩
set_option maxHeartbeats 2000000 in
theorem rIn_any (ao : Option Addr) (n cap : Nat) (l : List Int) (x : Int) (w : World) (h : ZRow w ao l) (hn : l.length = n) (hs : n ≤ 1099511627776) :
    Calls Try.prog 51 #[.slice ao n cap, .int .i64 x] w fun e w' => e = .returned (.bool (decide (x ∈ l))) ∧ Below w.heap.size w w' := by
  have HR : Hid (ZRow w ao l) := h
  have HN : Hid (l.length = n) := hn
  clear h hn
  go_enter Try.func51, Try.ntmps51
  go_wp2
  go_loopw [5] (fun iv wr => ∃ i : Nat, i ≤ n ∧ iv = .int .i64 (i : Int) ∧ Hid (Below w.heap.size w wr ∧ ¬ x ∈ l.take i)) (fun iv _ => n - (intOf iv).toNat)
  case atStart => exact ⟨0, Nat.zero_le _, rfl, Below.refl _ _, by simp⟩
  case round =>
    obtain ⟨i, hi, rfl, HB⟩ := hrel
    by_cases hlt : i < n
    · have hil : i < l.length := by rw [HN.out]; exact hlt
      obtain ⟨b, off, rfl, hc⟩ := HR.out.at_ (by rintro rfl; simp at hil)
      have c0 := cell_later HB.out.1 (hc i hil)
      have n9 : decide ((i : Int) < (n : Int)) = true := by simp; omega
      have ii0 : (0 : Int) ≤ (i : Int) := by omega
      have ii9 : (i : Int) < (n : Int) := by omega
      clear hc
      by_cases hx : l[i] = x
      · have HM : Hid (decide (x ∈ l) = true) := decide_eq_true (hx ▸ List.getElem_mem hil)
        have hx2 : (l[i] == x) = true := by simp [hx]
        rw [hx] at c0
        go_wp2
        go_ret
        exact ⟨by rw [HM.out]; rfl, HB.out.1⟩
      · have hx2 : (l[i] == x) = false := by rw [beq_eq_false_iff_ne]; exact hx
        have HM : Hid (¬ x ∈ l.take (i + 1)) := mem_take_succ l x i hil HB.out.2 hx
        obtain ⟨y, hy⟩ : ∃ y, l[i] = y := ⟨_, rfl⟩
        rw [hy] at c0 hx2 hx
        go_wp2
        go_roundw
        case rel => exact ⟨i + 1, by omega, by go_num, HB.out.1, HM.out⟩
        case measure => simp [intOf]; omega
    · have n9 : decide ((i : Int) < (n : Int)) = false := by simp; omega
      have HM : Hid (decide (x ∈ l) = false) := decide_eq_false (fun h => HB.out.2 (by rw [List.take_of_length_le (by rw [HN.out]; omega)]; exact h))
      go_wp2
      go_ret
      exact ⟨by rw [HM.out]; rfl, HB.out.1⟩
end Go.Proofs.Ytjkoambfecmglaa
