import Derived.Test.YtjikibhhhchgeaaDoorY28
namespace Go.Proofs.YtjikibhhhchgeaaDoor
open Go.RowKit
set_option linter.unusedVariables false
set_option linter.unusedSimpArgs false
set_option maxRecDepth 100000
/-- runs in memory -/
structure Runs (w : World) (ao : Option Addr) (l : List (Nat × Nat)) : Prop where
  lt : ∀ x ∈ l, x.1 < 18446744073709551616 ∧ x.2 < 18446744073709551616
  at_ : l ≠ [] → ∃ b off, ao = some ⟨b, off, none⟩ ∧ ∀ k (hk : k < l.length), w.cell? ⟨b, off + k * 2, none⟩ = some (.int .u64 ((l[k].1 : Nat) : Int)) ∧ w.cell? ⟨b, off + k * 2 + 1, none⟩ = some (.int .u64 ((l[k].2 : Nat) : Int))
theorem Runs.later {w w' : World} {ao : Option Addr} {l : List (Nat × Nat)} (h : Runs w ao l) (hb : Below w.heap.size w w') : Runs w' ao l :=
  ⟨h.lt, fun hl => by obtain ⟨b, off, e, hc⟩ := h.at_ hl; exact ⟨b, off, e, fun k hk => ⟨cell_later hb (hc k hk).1, cell_later hb (hc k hk).2⟩⟩⟩
def fit1 (wide : Bool) (x : Nat × Nat) : Bool := wide || (decide (x.1 ≤ 4294967295) && decide (x.2 ≤ 4294967295))
def fitA (wide : Bool) (l : List (Nat × Nat)) : Bool := l.all (fit1 wide)
theorem fitA_take {wide : Bool} {l : List (Nat × Nat)} {j : Nat} (h : fitA wide (l.take j) = true) (hj : j < l.length) (ht : fit1 wide l[j] = true) : fitA wide (l.take (j + 1)) = true := by
  rw [List.take_add_one, List.getElem?_eq_getElem hj]
  simp only [fitA, List.all_append, Option.toList, List.all_cons, List.all_nil, Bool.and_true, Bool.and_eq_true] at h ⊢
  exact ⟨h, ht⟩
theorem fitA_bad {wide : Bool} {l : List (Nat × Nat)} {j : Nat} (hj : j < l.length) (ht : fit1 wide l[j] = false) : fitA wide l = false := by
  rw [fitA, List.all_eq_false]
  exact ⟨l[j], List.getElem_mem hj, by rw [ht]; simp⟩
theorem fitA_mem {wide : Bool} {l : List (Nat × Nat)} (h : fitA wide l = true) (j : Nat) (hj : j < l.length) : fit1 wide l[j] = true := List.all_eq_true.1 h _ (List.getElem_mem hj)
set_option maxHeartbeats 2000000 in
theorem statusFits_any (cx : Nat) (ra : Option Addr) (n rc : Nat) (wide : Bool) (rs : List (Nat × Nat)) (w : World) (h : Runs w ra rs) (hn : rs.length = n) (hn2 : n ≤ 1048576) :
    Calls Tryd.prog 94 #[.agg #[.int .u32 (cx : Int), .slice ra n rc], .bool wide] w fun e w' => e = .returned (.bool (fitA wide rs && decide (0 < n))) ∧ Below w.heap.size w w' := by
  have HR : Hid (Runs w ra rs) := h
  have HN : Hid (rs.length = n) := hn
  clear h hn
  have hx := mkb1 w #[.int .u32 (cx : Int), .slice ra n rc] 40
  go_enter Tryd.func94, Tryd.ntmps94
  go_wp2
  generalize w.alloc (Obj.cells #[.int .u32 (cx : Int), .slice ra n rc] 40) = W0 at *
  have HX : Hid (Bx1 w W0 #[.int .u32 (cx : Int), .slice ra n rc] 40) := hx
  clear hx
  go_loopw [10] (fun i wr => ∃ k : Nat, k ≤ n ∧ i = .int .i64 (k : Int) ∧ Hid (Below W0.heap.size W0 wr ∧ fitA wide (rs.take k) = true)) (fun i _ => n - (intOf i).toNat)
  case atStart => exact ⟨0, Nat.zero_le _, rfl, Below.refl _ _, by simp [fitA]⟩
  case round =>
    obtain ⟨k, hk, rfl, HI⟩ := hrel
    by_cases hlt : k < n
    · have hne : rs ≠ [] := by rintro rfl; have := HN.out; simp at this; omega
      obtain ⟨b, off, rfl, hrow⟩ := ((HR.out.later HX.out.bel).later HI.out.1).at_ hne
      have hkl : k < rs.length := by rw [HN.out]; exact hlt
      obtain ⟨g0, g1⟩ := hrow k hkl
      obtain ⟨k1, k2⟩ := HR.out.lt _ (List.getElem_mem hkl)
      have HT1 : Hid (fit1 wide rs[k] = true → fitA wide (rs.take (k + 1)) = true) := fitA_take HI.out.2 hkl
      have HT0 : Hid (fit1 wide rs[k] = false → fitA wide rs = false) := fitA_bad hkl
      obtain ⟨⟨l, f⟩, hp⟩ : ∃ p, rs[k] = p := ⟨_, rfl⟩
      rw [hp] at g0 g1 k1 k2 HT1 HT0
      simp only at g0 g1 k1 k2
      have HB2 : Hid (Below W0.heap.size W0 (wr.alloc (.cells #[.int .u64 (l : Int), .int .u64 (f : Int)] 135))) := HI.out.1.alloc HI.out.1.size _
      clear hrow hp hne hkl
      rcases wide with _ | _
      · by_cases hf : l ≤ 4294967295 ∧ f ≤ 4294967295
        · have HT : Hid (fitA false (rs.take (k + 1)) = true) := HT1.out (by simp [fit1, hf.1, hf.2])
          clear HT1 HT0
          go_wp2
          all_goals first
            | (exfalso; omega)
            | (exfalso; rename_i ha _; rcases ha with ha | ha <;> (try simp at ha) <;> omega)
            | (go_roundw
               case rel => exact ⟨k + 1, by omega, by go_num, HB2.out, HT.out⟩
               case measure => simp [intOf]; omega)
        · have HT : Hid (fitA false rs = false) := HT0.out (by simp [fit1]; omega)
          clear HT1 HT0
          go_wp2
          all_goals first
            | (exfalso; omega)
            | (exfalso; rename_i ha _; rcases ha with ha | ha <;> (try simp at ha) <;> omega)
            | (go_ret; exact ⟨by rw [HT.out]; rfl, HX.out.bel.trans (HB2.out.mono HX.out.bel.size)⟩)
      · have HT : Hid (fitA true (rs.take (k + 1)) = true) := HT1.out rfl
        clear HT1 HT0
        go_wp2
        go_roundw
        case rel => exact ⟨k + 1, by omega, by go_num, HB2.out, HT.out⟩
        case measure => simp [intOf]; omega
    · have e1 : rs.take k = rs := List.take_of_length_le (by rw [HN.out]; omega)
      have h2 := HI.out.2
      rw [e1] at h2
      have H2 : Hid (fitA wide rs = true) := h2
      have q1 := blk_at (box_later HX.out.a HI.out.1) 1
      simp at q1
      clear h2 e1
      go_wp2
      go_ret
      exact ⟨by rw [H2.out]; simp, HX.out.bel.trans (HI.out.1.mono HX.out.bel.size)⟩
end Go.Proofs.YtjikibhhhchgeaaDoor
