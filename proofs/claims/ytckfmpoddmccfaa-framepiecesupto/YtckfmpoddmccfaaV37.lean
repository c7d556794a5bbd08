import Derived.Test.YtckfmpoddmccfaaV27
namespace Go.Proofs.Ytckfmpoddmccfaa
open Go.RowKit
set_option linter.unusedVariables false
set_option linter.unusedSimpArgs false
set_option maxRecDepth 100000
/-- so many bytes off the front -/
def datD (z : Int) (l : List Nat) : List Nat × Nat × Nat :=
  if z < 0 then ([], 0, 81) else if (l.length : Int) < z then ([], z.toNat, 10) else (l.take z.toNat, z.toNat, 0)
theorem datD_n (z : Int) (l : List Nat) (h : (datD z l).2.2 = 0) : (datD z l).2.1 ≤ l.length := by
  unfold datD at h ⊢
  by_cases h0 : z < 0
  · rw [if_pos h0] at h; simp at h
  rw [if_neg h0] at h ⊢
  by_cases h1 : (l.length : Int) < z
  · rw [if_pos h1] at h; simp at h
  rw [if_neg h1]; simp only; omega
def DatP (D : List Nat × Nat × Nat) (w : World) (e : Ending) (w' : World) : Prop :=
  ∃ (d : List Nat) (n er : Nat) (ao2 : Option Addr) (cap2 : Nat), e = .returned (.tuple #[.slice ao2 d.length cap2, .int .i64 (n : Int), .int .i64 (er : Int)]) ∧ D = (d, n, er) ∧ Row w w' ao2 cap2 d
set_option maxHeartbeats 1000000 in
theorem decData_neg (ao : Option Addr) (cap n : Nat) (l : List Nat) (z : Int) (w : World) (hz : z < 0) :
    Calls Try.prog 84 #[.slice ao n cap, .int .i64 z] w fun e w' => DatP (datD z l) w e w' := by
  have t2 : decide (z < 0) = true := by simpa using hz
  have HE : Hid (datD z l = ([], 0, 81)) := by show datD z l = _; unfold datD; rw [if_pos hz]
  go_enter Try.func84, Try.ntmps84
  go_wp2
  go_ret3
  exact ⟨[], 0, 81, none, 0, rfl, HE.out, World.ownsRow_nil _ _ _ _, by simp, Below.refl _ _⟩
set_option maxHeartbeats 1000000 in
theorem decData_short (ao : Option Addr) (cap n : Nat) (l : List Nat) (k : Nat) (w : World) (hl : l.length = n) (hz : n < k) :
    Calls Try.prog 84 #[.slice ao n cap, .int .i64 (k : Int)] w fun e w' => DatP (datD (k : Int) l) w e w' := by
  have u1 : ¬ ((k : Int) < 0) := by omega
  have u2 : decide ((k : Int) < 0) = false := by simp
  have t1 : (n : Int) < (k : Int) := by omega
  have t2 : decide ((n : Int) < (k : Int)) = true := by simpa using t1
  have HE : Hid (datD (k : Int) l = ([], k, 10)) := by show datD (k : Int) l = _; unfold datD; rw [if_neg u1, if_pos (by omega)]; simp
  clear hl
  go_enter Try.func84, Try.ntmps84
  go_wp2
  go_ret3
  exact ⟨[], k, 10, none, 0, rfl, HE.out, World.ownsRow_nil _ _ _ _, by simp, Below.refl _ _⟩
set_option maxHeartbeats 1000000 in
theorem decData_none (w : World) :
    Calls Try.prog 84 #[.slice none 0 0, .int .i64 0] w fun e w' => DatP (datD 0 []) w e w' := by
  obtain ⟨i0, hi, hz0, hz1, hz2⟩ := info_parts Try.info5
  go_enter Try.func84, Try.ntmps84
  go_wp2_with (at_builtin; refine wpList_append_own_none rfl _ _ 22 rfl w.heap.size 5 i0 1 Try.underlying22 hi _ 0 [] rfl (World.ownsRow_nil _ _ _ _) rfl ?_)
  go_ret3
  exact ⟨[], 0, 0, none, 0, rfl, by decide, World.ownsRow_nil _ _ _ _, by simp, Below.refl _ _⟩
set_option maxHeartbeats 2000000 in
theorem decData_ok (ad : Addr) (cap n : Nat) (l : List Nat) (k : Nat) (w : World) (h : CRow w (some ad) cap l) (hl : l.length = n) (hk : k ≤ n) :
    Calls Try.prog 84 #[.slice (some ad) n cap, .int .i64 (k : Int)] w fun e w' => DatP (datD (k : Int) l) w e w' := by
  obtain ⟨i0, hi, hz0, hz1, hz2⟩ := info_parts Try.info5
  obtain ⟨m, hm⟩ : ∃ m, l.take k = m := ⟨_, rfl⟩
  have HM : Hid (m.length = k) := by show m.length = k; rw [← hm, List.length_take]; omega
  have HX : Hid (∀ x ∈ m, x < 256) := fun x hx => h.row.lt x (List.mem_of_mem_take (hm ▸ hx))
  have HN : Hid (∀ j u, (m.map bv)[j]? = some u → w.cell? (ad.add j) = some u) := by
    intro j u hu
    have hM : m.length = k := HM.out
    rw [List.getElem?_map] at hu
    by_cases hj : j < m.length
    · rw [List.getElem?_eq_getElem hj] at hu
      obtain ⟨b', off', e, hc⟩ := h.row.at_ (by rintro rfl; simp at hl; omega)
      cases e
      simp only [Option.map_some, Option.some.injEq] at hu
      subst hu
      rw [add_plain, hc j (by omega)]
      subst hm
      simp
    · rw [List.getElem?_eq_none (by omega)] at hu; simp at hu
  have hlen := h.row.len
  have H1 : Hid (∀ u ∈ m.map bv, u.oneCell' = true) := by
    intro u hu
    obtain ⟨x, _, rfl⟩ := List.mem_map.1 hu
    rfl
  have u1 : ¬ ((k : Int) < 0) := by omega
  have u2 : decide ((k : Int) < 0) = false := by simp
  have t1 : ¬ ((n : Int) < (k : Int)) := by omega
  have t2 : decide ((n : Int) < (k : Int)) = false := by simpa using t1
  have HE : Hid (datD (k : Int) l = (m, k, 0)) := by show datD (k : Int) l = _; unfold datD; rw [if_neg u1, if_neg (by omega), ← hm]; simp
  have hc1 := h.cap1
  have hc2 := h.cap2
  have c4 : (k : Int) ≤ (cap : Int) := by omega
  have c5 : k ≤ cap := by omega
  have HML : Hid ((m.map bv).length = k) := by show (m.map bv).length = k; rw [List.length_map]; exact HM.out
  rw [hl] at hc1 hlen
  clear h hl hm
  go_enter Try.func84, Try.ntmps84
  go_wp2_with (at_builtin; refine wpList_append_own _ rfl _ _ 22 rfl w.heap.size 5 i0 (.int .u8 0) 1 1 Try.underlying22 hi hz0 hz1 hz2 rfl (by decide) _ 0 [] rfl (World.ownsRow_nil _ _ _ _) ad k cap (m.map bv) rfl (by rw [HML.out]; simp) HN.out H1.out (by unfold maxLen; omega) (by omega) (Nat.le_refl _) ?_)
  intro v' w1 hown hgrow _
  have hb : Below w.heap.size w w1 := (Below.refl _ _).grown hgrow (Nat.le_refl _) (by simp [Value.ownBlock])
  clear hgrow
  have ho : w1.ownsRow w.heap.size 5 1 v' m.length (m.map bv) := by
    rw [HM.out]; simpa using hown
  obtain ⟨ao2, cap2, rfl, _⟩ := BRow.own ho HX.out (by rw [HM.out]; omega)
  have HO : Hid _ := ho
  have HB : Hid _ := hb
  clear ho hown hb
  go_wp2
  go_ret3
  exact ⟨m, k, 0, ao2, cap2, rfl, HE.out, HO.out, HX.out, HB.out⟩
theorem decDataA (ao : Option Addr) (cap : Nat) (l : List Nat) (z : Int) (w : World) (h : CRow w ao cap l) :
    Calls Try.prog 84 #[.slice ao l.length cap, .int .i64 z] w fun e w' => DatP (datD z l) w e w' := by
  by_cases hz : z < 0
  · exact decData_neg ao cap l.length l z w hz
  obtain ⟨k, rfl⟩ := Int.eq_ofNat_of_zero_le (show 0 ≤ z by omega)
  by_cases hk : l.length < k
  · exact decData_short ao cap l.length l k w rfl hk
  cases ao with
  | none =>
    obtain ⟨rfl, rfl⟩ := h.row.nil rfl
    obtain rfl : k = 0 := by simp at hk; omega
    exact decData_none w
  | some ad => exact decData_ok ad cap l.length l k w h rfl (by omega)
end Go.Proofs.Ytckfmpoddmccfaa
