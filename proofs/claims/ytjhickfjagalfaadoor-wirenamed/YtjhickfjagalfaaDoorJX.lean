import Derived.Test.YtjhickfjagalfaaDoorJW
namespace Go.Proofs.YtjhickfjagalfaaDoor
open Go.RowKit
set_option linter.unusedVariables false
set_option linter.unusedSimpArgs false
set_option maxRecDepth 100000

theorem flat_cell (l : List Rw) (k : Nat) (x : Rw) (h : l[k]? = some x) (j : Nat) (hj : j < 3) : (flat l).toArray[k * 3 + j]? = x.cells[j]? := by
  have := flat_take l k x h
  rw [List.getElem?_toArray, ← this, List.getElem?_take, if_pos hj, List.getElem?_drop, Nat.mul_comm]
theorem allL_len : allL.length = 55 := rfl
set_option maxHeartbeats 4000000 in
theorem rname_any (T : Int) (n : Nat) (w : World) : Calls Tryd.prog 12 #[.int .i64 T, .int .u32 (n : Int)] w fun e w' => e = .returned (.string (nameOf T n)) ∧ Below w.heap.size w w' := by
  obtain ⟨W1, hW1⟩ : ∃ W1, W1 = w.alloc (.cells (flat allL).toArray TEn) := ⟨_, rfl⟩
  have HC : Hid (∀ (k : Nat) (x : Rw), allL[k]? = some x → ∀ j, j < 3 → W1.cell? ⟨w.heap.size, k * 3 + j, none⟩ = x.cells[j]?) := fun k x hx j hj => by
    rw [blk_at (show W1.heap[w.heap.size]? = some (.cells (flat allL).toArray TEn (0, 0)) by rw [hW1]; exact heap_new w _), flat_cell allL k x hx j hj]
  have HB : Hid (Below w.heap.size w W1) := by rw [hW1]; exact (Below.refl _ _).alloc (Nat.le_refl _) _
  have HN : Hid (Calls Tryd.prog 56 #[] w fun e w' => e = .returned (.slice (some ⟨w.heap.size, 0, none⟩) 55 55) ∧ w' = W1) := by rw [hW1]; exact names_any w
  clear hW1
  go_enter Tryd.func12, Tryd.ntmps12
  go_wp2_with fail
  refine HN.out.mono ?_
  rintro e w9 ⟨rfl, hw⟩
  rw [hw]; clear hw HN
  go_wp2
  go_loop [6] (fun i => ∃ k : Nat, i = .int .i64 k ∧ k ≤ 55 ∧ Hid (∀ y ∈ allL.take k, hitN T n y = false)) (fun i => 55 - (intOf i).toNat)
  case atStart => exact ⟨0, rfl, Nat.zero_le _, fun y hy => by simp at hy⟩
  case round =>
    obtain ⟨k, rfl, hk, HP⟩ := hrel
    by_cases hlt : k < 55
    · obtain ⟨x, hx⟩ : ∃ x, allL[k]? = some x := ⟨_, List.getElem?_eq_getElem (by rw [allL_len]; omega)⟩
      have z0 : W1.cell? ⟨w.heap.size, k * 3, none⟩ = some (.int .i64 (x.t : Int)) := HC.out k x hx 0 (by decide)
      have z1 : W1.cell? ⟨w.heap.size, k * 3 + 1, none⟩ = some (.int .u32 (x.n : Int)) := HC.out k x hx 1 (by decide)
      have z2 : W1.cell? ⟨w.heap.size, k * 3 + 2, none⟩ = some (.string (bstr x.s)) := HC.out k x hx 2 (by decide)
      have hkz : (k : Int) < 55 := by omega
      have HTk : Hid (allL.take (k + 1) = allL.take k ++ [x]) := by show _ = _; rw [List.take_add_one, hx]; rfl
      have HR : Hid (∃ rest, allL = allL.take k ++ [x] ++ rest) := ⟨allL.drop (k + 1), by rw [← HTk.out, List.take_append_drop]⟩
      clear hx
      by_cases h1 : (x.t : Int) = T
      · by_cases h2 : x.n = n
        · have e2 : (x.n : Int) = (n : Int) := by omega
          have HH : Hid (nameOf T n = bstr x.s) := by
            obtain ⟨rest, hr⟩ := HR.out
            show _ = _
            unfold nameOf
            rw [hr, find_at (hitN T n) (allL.take k) x rest HP.out (by simp [hitN, h1, h2])]
          clear HTk HR
          go_wp2
          go_ret
          exact ⟨by rw [HH.out]; rfl, HB.out⟩
        · have e2 : ¬ ((x.n : Int) = (n : Int)) := by omega
          have e3 : ((x.n : Int) == (n : Int)) = false := by simp; omega
          have HP2 : Hid (∀ y ∈ allL.take (k + 1), hitN T n y = false) := fun y hy => by
            rw [HTk.out] at hy
            rcases List.mem_append.1 hy with hy | hy
            · exact HP.out y hy
            · simp at hy; subst hy; simp [hitN, h2]
          clear HTk HR
          go_wp2
          go_round
          case rel => exact ⟨k + 1, by go_num, by omega, HP2⟩
          case measure => simp [intOf]; omega
      · have e1 : ((x.t : Int) == T) = false := by simpa using h1
        have HP2 : Hid (∀ y ∈ allL.take (k + 1), hitN T n y = false) := fun y hy => by
          rw [HTk.out] at hy
          rcases List.mem_append.1 hy with hy | hy
          · exact HP.out y hy
          · simp at hy; subst hy; simp [hitN, h1]
        clear HTk HR
        go_wp2
        go_round
        case rel => exact ⟨k + 1, by go_num, by omega, HP2⟩
        case measure => simp [intOf]; omega
    · obtain rfl : k = 55 := by omega
      have HH : Hid (nameOf T n = ⟨#[]⟩) := by
        show _ = _
        unfold nameOf
        rw [find_none (hitN T n) allL (fun y hy => HP.out y (by rw [show allL.take 55 = allL from rfl]; exact hy))]
      go_wp2
      go_ret
      exact ⟨by rw [HH.out]; rfl, HB.out⟩
set_option maxHeartbeats 4000000 in
theorem rnumberW_any (T : Int) (s : ByteArray) (w : World) : Calls Tryd.prog 10 #[.int .i64 T, .string s] w fun e w' => e = .returned (.tuple #[.int .u32 ((numOf T s).1 : Int), .bool (numOf T s).2]) ∧ Below w.heap.size w w' := by
  obtain ⟨W1, hW1⟩ : ∃ W1, W1 = w.alloc (.cells (flat allL).toArray TEn) := ⟨_, rfl⟩
  have HC : Hid (∀ (k : Nat) (x : Rw), allL[k]? = some x → ∀ j, j < 3 → W1.cell? ⟨w.heap.size, k * 3 + j, none⟩ = x.cells[j]?) := fun k x hx j hj => by
    rw [blk_at (show W1.heap[w.heap.size]? = some (.cells (flat allL).toArray TEn (0, 0)) by rw [hW1]; exact heap_new w _), flat_cell allL k x hx j hj]
  have HB : Hid (Below w.heap.size w W1) := by rw [hW1]; exact (Below.refl _ _).alloc (Nat.le_refl _) _
  have HN : Hid (Calls Tryd.prog 56 #[] w fun e w' => e = .returned (.slice (some ⟨w.heap.size, 0, none⟩) 55 55) ∧ w' = W1) := by rw [hW1]; exact names_any w
  clear hW1
  go_enter Tryd.func10, Tryd.ntmps10
  go_wp2_with fail
  refine HN.out.mono ?_
  rintro e w9 ⟨rfl, hw⟩
  rw [hw]; clear hw HN
  go_wp2
  go_loop [7] (fun i => ∃ k : Nat, i = .int .i64 k ∧ k ≤ 55 ∧ Hid (∀ y ∈ allL.take k, hitS T s y = false)) (fun i => 55 - (intOf i).toNat)
  case atStart => exact ⟨0, rfl, Nat.zero_le _, fun y hy => by simp at hy⟩
  case round =>
    obtain ⟨k, rfl, hk, HP⟩ := hrel
    by_cases hlt : k < 55
    · obtain ⟨x, hx⟩ : ∃ x, allL[k]? = some x := ⟨_, List.getElem?_eq_getElem (by rw [allL_len]; omega)⟩
      have z0 : W1.cell? ⟨w.heap.size, k * 3, none⟩ = some (.int .i64 (x.t : Int)) := HC.out k x hx 0 (by decide)
      have z1 : W1.cell? ⟨w.heap.size, k * 3 + 1, none⟩ = some (.int .u32 (x.n : Int)) := HC.out k x hx 1 (by decide)
      have z2 : W1.cell? ⟨w.heap.size, k * 3 + 2, none⟩ = some (.string (bstr x.s)) := HC.out k x hx 2 (by decide)
      have hkz : (k : Int) < 55 := by omega
      have HTk : Hid (allL.take (k + 1) = allL.take k ++ [x]) := by show _ = _; rw [List.take_add_one, hx]; rfl
      have HR : Hid (∃ rest, allL = allL.take k ++ [x] ++ rest) := ⟨allL.drop (k + 1), by rw [← HTk.out, List.take_append_drop]⟩
      clear hx
      by_cases h1 : (x.t : Int) = T
      · by_cases h2 : bstr x.s = s
        · have e2 : ((bstr x.s).toList == s.toList) = true := by rw [h2]; simp
          have HH : Hid (numOf T s = (x.n, true)) := by
            obtain ⟨rest, hr⟩ := HR.out
            show _ = _
            unfold numOf
            rw [hr, find_at (hitS T s) (allL.take k) x rest HP.out (by simp [hitS, h1, h2])]
          clear HTk HR
          go_wp2
          go_ret2
          exact ⟨by rw [HH.out]; rfl, HB.out⟩
        · have e3 : ((bstr x.s).toList == s.toList) = false := bytes_ne h2
          have HP2 : Hid (∀ y ∈ allL.take (k + 1), hitS T s y = false) := fun y hy => by
            rw [HTk.out] at hy
            rcases List.mem_append.1 hy with hy | hy
            · exact HP.out y hy
            · simp at hy; subst hy; simp [hitS, h2]
          clear HTk HR
          go_wp2
          go_round
          case rel => exact ⟨k + 1, by go_num, by omega, HP2⟩
          case measure => simp [intOf]; omega
      · have e1 : ((x.t : Int) == T) = false := by simpa using h1
        have HP2 : Hid (∀ y ∈ allL.take (k + 1), hitS T s y = false) := fun y hy => by
          rw [HTk.out] at hy
          rcases List.mem_append.1 hy with hy | hy
          · exact HP.out y hy
          · simp at hy; subst hy; simp [hitS, h1]
        clear HTk HR
        go_wp2
        go_round
        case rel => exact ⟨k + 1, by go_num, by omega, HP2⟩
        case measure => simp [intOf]; omega
    · obtain rfl : k = 55 := by omega
      have HH : Hid (numOf T s = (0, false)) := by
        show _ = _
        unfold numOf
        rw [find_none (hitS T s) allL (fun y hy => HP.out y (by rw [show allL.take 55 = allL from rfl]; exact hy))]
      go_wp2
      go_ret2
      exact ⟨by rw [HH.out]; rfl, HB.out⟩
end Go.Proofs.YtjhickfjagalfaaDoor
