import Derived.Test.YtncajaihojhkkaaGreatETa
namespace Go.Proofs.YtncajaihojhkkaaGreat.I
open Go.RowKit Go.Sort Go.Lib Go.Shelf Go.Proofs.YtncajaihojhkkaaGreat
attribute [local go_sem] Oper.semAt_some
set_option linter.unusedVariables false
set_option linter.unusedSimpArgs false
set_option maxRecDepth 100000

abbrev TNames : TypeId := 23
/-- the first place at which a name stands -/
def Can (nm : Nat → ByteArray) (k j : Nat) : Prop := j ≤ k ∧ nm j = nm k ∧ ∀ i, i < j → nm i ≠ nm k
theorem Can.one {nm : Nat → ByteArray} {k j j' : Nat} (h : Can nm k j) (h' : Can nm k j') : j = j' := by
  rcases Nat.lt_trichotomy j j' with e | e | e
  · exact absurd h.2.1 (h'.2.2 j e)
  · exact e
  · exact absurd h'.2.1 (h.2.2 j' e)
theorem str_beq (a b : ByteArray) : (a.toList == b.toList) = decide (a = b) := by
  by_cases h : a = b
  · subst h; simp
  · rw [decide_eq_false h, beq_eq_false_iff_ne]
    intro e
    rw [Lib.toList_data, Lib.toList_data] at e
    obtain ⟨⟨x⟩⟩ := a
    obtain ⟨⟨y⟩⟩ := b
    simp at e
    exact h (by rw [e])
/-- an array of names, as a value -/
structure Nms (A : Array Value) (nm : Nat → ByteArray) : Prop where
  size : A.size = 256
  get : ∀ j, j < 256 → A[j]? = some (.string (nm j))
theorem Nms.cell {A : Array Value} {nm : Nat → ByteArray} (h : Nms A nm) {W : World} {b : Nat} (hb : W.heap[b]? = some (.cells A TNames (0, 0))) (j : Nat) (hj : j < 256) : W.cell? ⟨b, j, none⟩ = some (.string (nm j)) := by
  unfold World.cell?; simp only [hb]; exact h.get j hj
set_option maxHeartbeats 4000000 in
theorem number_any {A : Array Value} {nm : Nat → ByteArray} (hA : Nms A nm) (k : Nat) (hk : k < 256) (w : World) :
    Calls Tryz.prog 9 #[.agg A, .int .u8 (k : Int)] w fun e w' => ∃ j : Nat, e = .returned (.int .i64 (j : Int)) ∧ Can nm k j ∧ Below w.heap.size w w' := by
  have hb0 : Below w.heap.size w (w.alloc (.cells A TNames)) := (Below.refl _ w).alloc (Nat.le_refl _) _
  have HC : Hid (∀ d j, j < 256 → ((w.alloc (.cells A TNames)).drewN d).cell? ⟨w.heap.size, j, none⟩ = some (.string (nm j))) := fun d j hj => hA.cell (show ((w.alloc (.cells A TNames)).drewN d).heap[w.heap.size]? = _ from heap_alloc_new w _) j hj
  have HB : Hid (∀ d, Below w.heap.size w ((w.alloc (.cells A TNames)).drewN d)) := fun d => hb0.trans ((below_drewW _ d).mono hb0.size)
  have hk0 : (0 : Int) ≤ (k : Int) := by omega
  have hk1 : (k : Int) < 256 := by omega
  have hsz := hA.size
  clear hb0 hA
  go_enter Tryz.func9, Tryz.ntmps9
  go_wp2
  obtain ⟨W1, hW1⟩ : ∃ W1, W1 = w.alloc (.cells A TNames) := ⟨_, rfl⟩
  rw [← hW1] at HC HB ⊢
  clear hW1
  go_loopw [5] (fun i wr => ∃ j : Nat, j ≤ 256 ∧ i = .int .i64 j ∧ Hid (∀ i, i < j → nm i ≠ nm k) ∧ Hid (∃ d, wr = W1.drewN d)) (fun i _ => 256 - (intOf i).toNat)
  case atStart => exact ⟨0, by omega, rfl, fun i h => absurd h (by omega), 0, rfl⟩
  case round =>
    obtain ⟨j, hj, rfl, HN, HD⟩ := hrel
    have HD2 : Hid (∀ m, ∃ d, wr.drewN m = W1.drewN d) := fun m => by
      obtain ⟨d, hd⟩ := HD.out
      exact ⟨d + m, by rw [hd]; exact World.drewN_drewN _ _ _⟩
    have HBw : Hid (∀ m, Below w.heap.size w (wr.drewN m)) := fun m => by
      obtain ⟨d, hd⟩ := HD2.out m
      rw [hd]; exact HB.out d
    have hjk : j ≤ k := by
      by_cases h : j ≤ k
      · exact h
      · exact absurd rfl (HN.out k (by omega))
    have c0 : wr.cell? ⟨w.heap.size, j, none⟩ = some (.string (nm j)) := by obtain ⟨d, hd⟩ := HD.out; rw [hd]; exact HC.out d j (by omega)
    have c1 : wr.cell? ⟨w.heap.size, k, none⟩ = some (.string (nm k)) := by obtain ⟨d, hd⟩ := HD.out; rw [hd]; exact HC.out d k hk
    have hj0 : (0 : Int) ≤ (j : Int) := by omega
    have hj1 : (j : Int) < 256 := by omega
    have hb := str_beq (nm j) (nm k)
    by_cases e : nm j = nm k
    · have HCan : Hid (Can nm k j) := ⟨hjk, e, HN.out⟩
      rw [decide_eq_true e] at hb
      clear e
      go_wp2
      go_quiet (fail)
      go_wp2
      go_ret
      exact ⟨j, rfl, HCan.out, HBw.out _⟩
    · have HN2 : Hid (∀ i, i < j + 1 → nm i ≠ nm k) := fun i hi => by
        by_cases h : i < j
        · exact HN.out i h
        · obtain rfl : i = j := by omega
          exact e
      have hjn : j + 1 ≤ 256 := by omega
      rw [decide_eq_false e] at hb
      clear e
      go_wp2
      go_quiet (fail)
      go_wp2
      go_roundw
      case rel => exact ⟨j + 1, hjn, by go_num, HN2, HD2.out _⟩
      case measure => simp [intOf]; omega
end Go.Proofs.YtncajaihojhkkaaGreat.I
