import Derived.Test.YtbamjfnjenmdaaaGreatzKI
namespace Go.Proofs.YtbamjfnjenmdaaaGreat.K
open Go.RowKit Go.Maps Go.Proofs.YtbamjfnjenmdaaaGreat Go.MuLone
attribute [local go_sem] Oper.semAt_some
set_option linter.unusedVariables false
set_option linter.unusedSimpArgs false
set_option maxRecDepth 100000

/-- a write's bytes -/
def byt (fill i : Nat) : Nat := (fill + i % 5 * 51) % 256
def bytesL (fill n : Nat) : Bl := (List.range n).map (byt fill)
def blen (more : Int) : Nat := if -512 < more ∧ more < 512 then (512 + more).toNat else 512
theorem bytesL_succ (fill n : Nat) : bytesL fill (n + 1) = bytesL fill n ++ [byt fill n] := by simp [bytesL, List.range_succ]
theorem bytesL_len (fill n : Nat) : (bytesL fill n).length = n := by simp [bytesL]
theorem bytesL_lt (fill n : Nat) : ∀ x ∈ bytesL fill n, x < 256 := fun x hx => by
  obtain ⟨i, _, rfl⟩ := List.mem_map.1 hx
  exact Nat.mod_lt _ (by decide)
theorem bytes_ok (fill : Nat) : OkB (bytesL fill 512) := ⟨bytesL_len _ _, bytesL_lt _ _⟩
theorem take_set {l : List Value} {k : Nat} {v : Value} (h : k < l.length) : (l.set k v).take (k + 1) = l.take k ++ [v] := by
  rw [List.take_add_one, List.take_set_of_le (Nat.le_refl _), List.getElem?_set_self h]; rfl
theorem run_row (w : World) {n : Nat} (hn : n ≤ 65536) : ∃ Z : Array Value, Z.size = n ∧ (Instr.makeSlice 44 (.int .i64 (n : Int)) (.int .i64 (n : Int))).run Tryz.prog w = .ok (.slice (some ⟨w.heap.size, 0, none⟩) n n) (w.alloc (.cells Z 5)) := by
  obtain ⟨i0, hi, hz0, hz1, hz2⟩ := info_parts info5x
  have h1 := run_make (P := Tryz.prog) w 44 5 i0 (.int .u8 0) Tryz.underlying44 hi hz0 .i64 .i64 (n : Int) (n : Int) (by omega) (Int.le_refl _) (by rw [hz2]; omega) (by omega)
  rw [Int.toNat_natCast, hz1, Nat.mul_one] at h1
  exact ⟨_, size_madeCells _ _, h1⟩
set_option maxHeartbeats 2000000 in
theorem bytes_loop (w : World) (fill n : Nat) (more : Int) (hfill : fill < 256) (hn : n ≤ 65536) (hmore : -512 < more ∧ more < 512 ∧ 512 + more = (n : Int) ∨ ¬ (-512 < more ∧ more < 512) ∧ n = 512) :
    Calls Tryz.prog 10 #[.int .u8 fill, .int .i64 more] w fun r w' => ∃ v, r = .returned v ∧ w'.ownsRow w.heap.size 5 1 v n ((bytesL fill n).map bv) ∧ Below w.heap.size w w' := by
  obtain ⟨Z, hZ, hmk⟩ := run_row w hn
  have HZ : Hid (Z.size = n) := hZ
  have HB0 : Hid (Below w.heap.size w (w.alloc (.cells Z 5))) := (Below.refl _ w).alloc (Nat.le_refl _) _
  have HG0 : Hid ((w.alloc (.cells Z 5)).heap[w.heap.size]? = some (.cells Z 5)) := heap_alloc_new w _
  have HW : Hid (∀ k : Nat, k < n → (IntKind.u8.wrap ((fill : Int) + IntKind.u8.wrap (IntKind.u8.wrap ((k : Int) % 5) * 51)) = (byt fill k : Int))) := fun k hk => by
    rw [IntKind.wrap_u8, IntKind.wrap_u8, IntKind.wrap_u8]
    unfold byt
    omega
  clear hZ
  have hent : True := trivial
  rcases hmore with ⟨h1, h2, h3⟩ | ⟨h1, rfl⟩
  · go_enter Tryz.func10, Tryz.ntmps10
    go_wp2
    go_loopw [7] (fun i wr => ∃ (k : Nat) (cur : Array Value), k ≤ n ∧ i = .int .i64 k ∧ Hid (wr.heap[w.heap.size]? = some (.cells cur 5)) ∧ Hid (cur.size = n) ∧ Hid (cur.toList.take k = (bytesL fill k).map bv) ∧ Hid (Below w.heap.size w wr)) (fun i _ => n - (intOf i).toNat)
    case atStart => exact ⟨0, Z, Nat.zero_le _, rfl, HG0, HZ, (by show _ = _; simp [bytesL]), HB0⟩
    case round =>
      obtain ⟨k, cur, hk, rfl, HG, HC, HT, HB⟩ := hrel
      by_cases hlt : k < n
      · have hkn : (k : Int) < (n : Int) := by omega
        have htm : (k : Int).tmod 5 = (k : Int) % 5 := by rw [Int.tmod_eq_emod_of_nonneg (by omega)]
        have hw := HW.out k hlt
        obtain ⟨u, hu⟩ : ∃ u, wr.cell? ⟨w.heap.size, k, none⟩ = some u := by
          rw [cell_of HG.out]; exact ⟨_, Array.getElem?_eq_getElem (by have := HC.out; omega)⟩
        have hf : wr.frozen? ⟨w.heap.size, k, none⟩ = false := frozen_of HG.out
        have HN : Hid (∀ v, (wr.setCell ⟨w.heap.size, k, none⟩ v).heap[w.heap.size]? = some (.cells (cur.setIfInBounds k v) 5)) := fun v => blk_set HG.out k v
        have HT2 : Hid ((cur.setIfInBounds k (.int .u8 (byt fill k))).toList.take (k + 1) = (bytesL fill (k + 1)).map bv) := by
          show _ = _
          have hks : k < cur.toList.length := by have := HC.out; simp; omega
          rw [bytesL_succ, List.map_append, ← HT.out, Array.toList_setIfInBounds, take_set hks]
          rfl
        go_wp2
        go_roundw
        case rel => exact ⟨k + 1, _, by omega, by go_num, HN.out _, by show _ = _; simp; exact HC.out, HT2, HB.out.setCell (Nat.le_refl _) _⟩
        case measure => simp [intOf]; omega
      · have e : k = n := by omega
        subst e
        go_wp2
        go_ret
        refine ⟨_, rfl, ⟨by simp [bytesL_len], .inr ⟨w.heap.size, k, cur, rfl, Nat.le_refl _, HG.out, Nat.le_refl _, by unfold maxLen; omega, by rw [HC.out, Nat.mul_one], by rw [Nat.mul_one]; exact HT.out⟩⟩, HB.out⟩
  · have h1' : -512 < more → 512 ≤ more := fun h => by omega
    have hmk2 : (Instr.makeSlice 44 (.int .i64 512) (.int .i64 512)).run Tryz.prog w = .ok (.slice (some ⟨w.heap.size, 0, none⟩) 512 512) (w.alloc (.cells Z 5)) := hmk
    clear hmk
    by_cases h4 : -512 < more
    · have h5 : 512 ≤ more := h1' h4
      clear h1 h1'
      go_enter Tryz.func10, Tryz.ntmps10
      go_wp2
      go_loopw [7] (fun i wr => ∃ (k : Nat) (cur : Array Value), k ≤ 512 ∧ i = .int .i64 k ∧ Hid (wr.heap[w.heap.size]? = some (.cells cur 5)) ∧ Hid (cur.size = 512) ∧ Hid (cur.toList.take k = (bytesL fill k).map bv) ∧ Hid (Below w.heap.size w wr)) (fun i _ => 512 - (intOf i).toNat)
      case atStart => exact ⟨0, Z, Nat.zero_le _, rfl, HG0, HZ, (by show _ = _; simp [bytesL]), HB0⟩
      case round =>
        obtain ⟨k, cur, hk, rfl, HG, HC, HT, HB⟩ := hrel
        by_cases hlt : k < 512
        · have hkn : (k : Int) < 512 := by omega
          have htm : (k : Int).tmod 5 = (k : Int) % 5 := by rw [Int.tmod_eq_emod_of_nonneg (by omega)]
          have hw := HW.out k hlt
          obtain ⟨u, hu⟩ : ∃ u, wr.cell? ⟨w.heap.size, k, none⟩ = some u := by
            rw [cell_of HG.out]; exact ⟨_, Array.getElem?_eq_getElem (by have := HC.out; omega)⟩
          have hf : wr.frozen? ⟨w.heap.size, k, none⟩ = false := frozen_of HG.out
          have HN : Hid (∀ v, (wr.setCell ⟨w.heap.size, k, none⟩ v).heap[w.heap.size]? = some (.cells (cur.setIfInBounds k v) 5)) := fun v => blk_set HG.out k v
          have HT2 : Hid ((cur.setIfInBounds k (.int .u8 (byt fill k))).toList.take (k + 1) = (bytesL fill (k + 1)).map bv) := by
            show _ = _
            have hks : k < cur.toList.length := by have := HC.out; simp; omega
            rw [bytesL_succ, List.map_append, ← HT.out, Array.toList_setIfInBounds, take_set hks]
            rfl
          go_wp2
          go_roundw
          case rel => exact ⟨k + 1, _, by omega, by go_num, HN.out _, by show _ = _; simp; exact HC.out, HT2, HB.out.setCell (Nat.le_refl _) _⟩
          case measure => simp [intOf]; omega
        · have e : k = 512 := by omega
          subst e
          go_wp2
          go_ret
          refine ⟨_, rfl, ⟨by simp [bytesL_len], .inr ⟨w.heap.size, 512, cur, rfl, Nat.le_refl _, HG.out, Nat.le_refl _, by unfold maxLen; omega, by rw [HC.out, Nat.mul_one], by rw [Nat.mul_one]; exact HT.out⟩⟩, HB.out⟩
    · clear h1 h1'
      go_enter Tryz.func10, Tryz.ntmps10
      go_wp2
      go_loopw [7] (fun i wr => ∃ (k : Nat) (cur : Array Value), k ≤ 512 ∧ i = .int .i64 k ∧ Hid (wr.heap[w.heap.size]? = some (.cells cur 5)) ∧ Hid (cur.size = 512) ∧ Hid (cur.toList.take k = (bytesL fill k).map bv) ∧ Hid (Below w.heap.size w wr)) (fun i _ => 512 - (intOf i).toNat)
      case atStart => exact ⟨0, Z, Nat.zero_le _, rfl, HG0, HZ, (by show _ = _; simp [bytesL]), HB0⟩
      case round =>
        obtain ⟨k, cur, hk, rfl, HG, HC, HT, HB⟩ := hrel
        by_cases hlt : k < 512
        · have hkn : (k : Int) < 512 := by omega
          have htm : (k : Int).tmod 5 = (k : Int) % 5 := by rw [Int.tmod_eq_emod_of_nonneg (by omega)]
          have hw := HW.out k hlt
          obtain ⟨u, hu⟩ : ∃ u, wr.cell? ⟨w.heap.size, k, none⟩ = some u := by
            rw [cell_of HG.out]; exact ⟨_, Array.getElem?_eq_getElem (by have := HC.out; omega)⟩
          have hf : wr.frozen? ⟨w.heap.size, k, none⟩ = false := frozen_of HG.out
          have HN : Hid (∀ v, (wr.setCell ⟨w.heap.size, k, none⟩ v).heap[w.heap.size]? = some (.cells (cur.setIfInBounds k v) 5)) := fun v => blk_set HG.out k v
          have HT2 : Hid ((cur.setIfInBounds k (.int .u8 (byt fill k))).toList.take (k + 1) = (bytesL fill (k + 1)).map bv) := by
            show _ = _
            have hks : k < cur.toList.length := by have := HC.out; simp; omega
            rw [bytesL_succ, List.map_append, ← HT.out, Array.toList_setIfInBounds, take_set hks]
            rfl
          go_wp2
          go_roundw
          case rel => exact ⟨k + 1, _, by omega, by go_num, HN.out _, by show _ = _; simp; exact HC.out, HT2, HB.out.setCell (Nat.le_refl _) _⟩
          case measure => simp [intOf]; omega
        · have e : k = 512 := by omega
          subst e
          go_wp2
          go_ret
          refine ⟨_, rfl, ⟨by simp [bytesL_len], .inr ⟨w.heap.size, 512, cur, rfl, Nat.le_refl _, HG.out, Nat.le_refl _, by unfold maxLen; omega, by rw [HC.out, Nat.mul_one], by rw [Nat.mul_one]; exact HT.out⟩⟩, HB.out⟩
theorem bytes_any (w : World) (fill : Nat) (more : Int) (hfill : fill < 256) :
    Calls Tryz.prog 10 #[.int .u8 fill, .int .i64 more] w fun r w' => ∃ v, r = .returned v ∧ w'.ownsRow w.heap.size 5 1 v (blen more) ((bytesL fill (blen more)).map bv) ∧ Below w.heap.size w w' := by
  refine bytes_loop w fill (blen more) more hfill ?_ ?_
  · unfold blen; split <;> omega
  · unfold blen; split
    · left; omega
    · right; omega
end Go.Proofs.YtbamjfnjenmdaaaGreat.K
