import Derived.Test.YthmonfmpgjbhmaazKI
import Derived.Test.YthmonfmpgjbhmaaG1
namespace Go.Proofs.Ythmonfmpgjbhmaa.K
open Go.RowKit Go.Maps Go.Proofs.Ythmonfmpgjbhmaa Go.MuLone
attribute [local go_sem] Oper.semAt_some
set_option linter.unusedVariables false
set_option linter.unusedSimpArgs false
set_option maxRecDepth 100000

/-- a write's bytes -/
def byt (fill i : Nat) : Nat := (fill + i % 5 * 51) % 256
def bytesL (fill n : Nat) : Bl := (List.range n).map (byt fill)
def blen (more : Int) : Nat := if -512 < more ∧ more < 512 then (512 + more).toNat else 512
theorem bytesL_succ (fill n : Nat) : bytesL fill (n + 1) = bytesL fill n ++ [byt fill n] := by simp [bytesL, List.range_succ]
theorem bytesL_len (fill n : Nat) : (bytesL fill n).length = n := by simp [bytesL]
theorem bytesL_lt (fill n : Nat) : ∀ x ∈ bytesL fill n, x < 256 := fun x hx => by
  obtain ⟨i, _, rfl⟩ := List.mem_map.1 hx
  exact Nat.mod_lt _ (by decide)
theorem bytes_ok (fill : Nat) : OkB (bytesL fill 512) := ⟨bytesL_len _ _, bytesL_lt _ _⟩
theorem take_set {l : List Value} {k : Nat} {v : Value} (h : k < l.length) : (l.set k v).take (k + 1) = l.take k ++ [v] := by
  rw [List.take_add_one, List.take_set_of_le (Nat.le_refl _), List.getElem?_set_self h]; rfl
theorem run_row (w : World) {n : Nat} (hn : n ≤ 65536) : ∃ Z : Array Value, Z.size = n ∧ (Instr.makeSlice 22 (.int .i64 (n : Int)) (.int .i64 (n : Int))).run Try.prog w = .ok (.slice (some ⟨w.heap.size, 0, none⟩) n n) (w.alloc (.cells Z 5)) := by
  obtain ⟨i0, hi, hz0, hz1, hz2⟩ := info_parts info5x
  have h1 := run_make (P := Try.prog) w 22 5 i0 (.int .u8 0) Try.underlying22 hi hz0 .i64 .i64 (n : Int) (n : Int) (by omega) (Int.le_refl _) (by rw [hz2]; omega) (by omega)
  rw [Int.toNat_natCast, hz1, Nat.mul_one] at h1
  exact ⟨_, size_madeCells _ _, h1⟩
set_option maxHeartbeats 2000000 in
theorem bytes_loop (w : World) (fill n : Nat) (more : Int) (hfill : fill < 256) (hn : n ≤ 65536) (hmore : -512 < more ∧ more < 512 ∧ 512 + more = (n : Int) ∨ ¬ (-512 < more ∧ more < 512) ∧ n = 512) :
    Calls Try.prog 24 #[.int .u8 fill, .int .i64 more] w fun r w' => ∃ v, r = .returned v ∧ w'.ownsRow w.heap.size 5 1 v n ((bytesL fill n).map bv) ∧ Below w.heap.size w w' := by
  obtain ⟨Z, hZ, hmk⟩ := run_row w hn
  have HZ : Hid (Z.size = n) := hZ
  have HB0 : Hid (Below w.heap.size w (w.alloc (.cells Z 5))) := (Below.refl _ w).alloc (Nat.le_refl _) _
  have HG0 : Hid ((w.alloc (.cells Z 5)).heap[w.heap.size]? = some (.cells Z 5)) := heap_alloc_new w _
  have HW : Hid (∀ k : Nat, k < n → (IntKind.u8.wrap ((fill : Int) + IntKind.u8.wrap (IntKind.u8.wrap ((k : Int) % 5) * 51)) = (byt fill k : Int))) := fun k hk => by
    rw [IntKind.wrap_u8, IntKind.wrap_u8, IntKind.wrap_u8]
    unfold byt
    omega
  clear hZ
  have hent : True := trivial
  rcases hmore with ⟨h1, h2, h3⟩ | ⟨h1, rfl⟩
  · go_enter Try.func24, Try.ntmps24
    go_wp2
    go_loopw [7] (fun i wr => ∃ (k : Nat) (cur : Array Value), k ≤ n ∧ i = .int .i64 k ∧ Hid (wr.heap[w.heap.size]? = some (.cells cur 5)) ∧ Hid (cur.size = n) ∧ Hid (cur.toList.take k = (bytesL fill k).map bv) ∧ Hid (Below w.heap.size w wr)) (fun i _ => n - (intOf i).toNat)
    case atStart => exact ⟨0, Z, Nat.zero_le _, rfl, HG0, HZ, (by show _ = _; simp [bytesL]), HB0⟩
    case round =>
      obtain ⟨k, cur, hk, rfl, HG, HC, HT, HB⟩ := hrel
      by_cases hlt : k < n
      · have hkn : (k : Int) < (n : Int) := by omega
        have htm : (k : Int).tmod 5 = (k : Int) % 5 := by rw [Int.tmod_eq_emod_of_nonneg (by omega)]
        have hw := HW.out k hlt
        obtain ⟨u, hu⟩ : ∃ u, wr.cell? ⟨w.heap.size, k, none⟩ = some u := by
          rw [cell_of HG.out]; exact ⟨_, Array.getElem?_eq_getElem (by have := HC.out; omega)⟩
        have hf : wr.frozen? ⟨w.heap.size, k, none⟩ = false := frozen_of HG.out
        have HN : Hid (∀ v, (wr.setCell ⟨w.heap.size, k, none⟩ v).heap[w.heap.size]? = some (.cells (cur.setIfInBounds k v) 5)) := fun v => blk_set HG.out k v
        have HT2 : Hid ((cur.setIfInBounds k (.int .u8 (byt fill k))).toList.take (k + 1) = (bytesL fill (k + 1)).map bv) := by
          show _ = _
          have hks : k < cur.toList.length := by have := HC.out; simp; omega
          rw [bytesL_succ, List.map_append, ← HT.out, Array.toList_setIfInBounds, take_set hks]
          rfl
        go_wp2
        go_roundw
        case rel => exact ⟨k + 1, _, by omega, by go_num, HN.out _, by show _ = _; simp; exact HC.out, HT2, HB.out.setCell (Nat.le_refl _) _⟩
        case measure => simp [intOf]; omega
      · have e : k = n := by omega
        subst e
        go_wp2
        go_ret
        refine ⟨_, rfl, ⟨by simp [bytesL_len], .inr ⟨w.heap.size, k, cur, rfl, Nat.le_refl _, HG.out, Nat.le_refl _, by unfold maxLen; omega, by rw [HC.out, Nat.mul_one], by rw [Nat.mul_one]; exact HT.out⟩⟩, HB.out⟩
  · have h1' : -512 < more → 512 ≤ more := fun h => by omega
    have hmk2 : (Instr.makeSlice 22 (.int .i64 512) (.int .i64 512)).run Try.prog w = .ok (.slice (some ⟨w.heap.size, 0, none⟩) 512 512) (w.alloc (.cells Z 5)) := hmk
    clear hmk
    by_cases h4 : -512 < more
    · have h5 : 512 ≤ more := h1' h4
      clear h1 h1'
      go_enter Try.func24, Try.ntmps24
      go_wp2
      go_loopw [7] (fun i wr => ∃ (k : Nat) (cur : Array Value), k ≤ 512 ∧ i = .int .i64 k ∧ Hid (wr.heap[w.heap.size]? = some (.cells cur 5)) ∧ Hid (cur.size = 512) ∧ Hid (cur.toList.take k = (bytesL fill k).map bv) ∧ Hid (Below w.heap.size w wr)) (fun i _ => 512 - (intOf i).toNat)
      case atStart => exact ⟨0, Z, Nat.zero_le _, rfl, HG0, HZ, (by show _ = _; simp [bytesL]), HB0⟩
      case round =>
        obtain ⟨k, cur, hk, rfl, HG, HC, HT, HB⟩ := hrel
        by_cases hlt : k < 512
        · have hkn : (k : Int) < 512 := by omega
          have htm : (k : Int).tmod 5 = (k : Int) % 5 := by rw [Int.tmod_eq_emod_of_nonneg (by omega)]
          have hw := HW.out k hlt
          obtain ⟨u, hu⟩ : ∃ u, wr.cell? ⟨w.heap.size, k, none⟩ = some u := by
            rw [cell_of HG.out]; exact ⟨_, Array.getElem?_eq_getElem (by have := HC.out; omega)⟩
          have hf : wr.frozen? ⟨w.heap.size, k, none⟩ = false := frozen_of HG.out
          have HN : Hid (∀ v, (wr.setCell ⟨w.heap.size, k, none⟩ v).heap[w.heap.size]? = some (.cells (cur.setIfInBounds k v) 5)) := fun v => blk_set HG.out k v
          have HT2 : Hid ((cur.setIfInBounds k (.int .u8 (byt fill k))).toList.take (k + 1) = (bytesL fill (k + 1)).map bv) := by
            show _ = _
            have hks : k < cur.toList.length := by have := HC.out; simp; omega
            rw [bytesL_succ, List.map_append, ← HT.out, Array.toList_setIfInBounds, take_set hks]
            rfl
          go_wp2
          go_roundw
          case rel => exact ⟨k + 1, _, by omega, by go_num, HN.out _, by show _ = _; simp; exact HC.out, HT2, HB.out.setCell (Nat.le_refl _) _⟩
          case measure => simp [intOf]; omega
        · have e : k = 512 := by omega
          subst e
          go_wp2
          go_ret
          refine ⟨_, rfl, ⟨by simp [bytesL_len], .inr ⟨w.heap.size, 512, cur, rfl, Nat.le_refl _, HG.out, Nat.le_refl _, by unfold maxLen; omega, by rw [HC.out, Nat.mul_one], by rw [Nat.mul_one]; exact HT.out⟩⟩, HB.out⟩
    · clear h1 h1'
      go_enter Try.func24, Try.ntmps24
      go_wp2
      go_loopw [7] (fun i wr => ∃ (k : Nat) (cur : Array Value), k ≤ 512 ∧ i = .int .i64 k ∧ Hid (wr.heap[w.heap.size]? = some (.cells cur 5)) ∧ Hid (cur.size = 512) ∧ Hid (cur.toList.take k = (bytesL fill k).map bv) ∧ Hid (Below w.heap.size w wr)) (fun i _ => 512 - (intOf i).toNat)
      case atStart => exact ⟨0, Z, Nat.zero_le _, rfl, HG0, HZ, (by show _ = _; simp [bytesL]), HB0⟩
      case round =>
        obtain ⟨k, cur, hk, rfl, HG, HC, HT, HB⟩ := hrel
        by_cases hlt : k < 512
        · have hkn : (k : Int) < 512 := by omega
          have htm : (k : Int).tmod 5 = (k : Int) % 5 := by rw [Int.tmod_eq_emod_of_nonneg (by omega)]
          have hw := HW.out k hlt
          obtain ⟨u, hu⟩ : ∃ u, wr.cell? ⟨w.heap.size, k, none⟩ = some u := by
            rw [cell_of HG.out]; exact ⟨_, Array.getElem?_eq_getElem (by have := HC.out; omega)⟩
          have hf : wr.frozen? ⟨w.heap.size, k, none⟩ = false := frozen_of HG.out
          have HN : Hid (∀ v, (wr.setCell ⟨w.heap.size, k, none⟩ v).heap[w.heap.size]? = some (.cells (cur.setIfInBounds k v) 5)) := fun v => blk_set HG.out k v
          have HT2 : Hid ((cur.setIfInBounds k (.int .u8 (byt fill k))).toList.take (k + 1) = (bytesL fill (k + 1)).map bv) := by
            show _ = _
            have hks : k < cur.toList.length := by have := HC.out; simp; omega
            rw [bytesL_succ, List.map_append, ← HT.out, Array.toList_setIfInBounds, take_set hks]
            rfl
          go_wp2
          go_roundw
          case rel => exact ⟨k + 1, _, by omega, by go_num, HN.out _, by show _ = _; simp; exact HC.out, HT2, HB.out.setCell (Nat.le_refl _) _⟩
          case measure => simp [intOf]; omega
        · have e : k = 512 := by omega
          subst e
          go_wp2
          go_ret
          refine ⟨_, rfl, ⟨by simp [bytesL_len], .inr ⟨w.heap.size, 512, cur, rfl, Nat.le_refl _, HG.out, Nat.le_refl _, by unfold maxLen; omega, by rw [HC.out, Nat.mul_one], by rw [Nat.mul_one]; exact HT.out⟩⟩, HB.out⟩
theorem bytes_any (w : World) (fill : Nat) (more : Int) (hfill : fill < 256) :
    Calls Try.prog 24 #[.int .u8 fill, .int .i64 more] w fun r w' => ∃ v, r = .returned v ∧ w'.ownsRow w.heap.size 5 1 v (blen more) ((bytesL fill (blen more)).map bv) ∧ Below w.heap.size w w' := by
  refine bytes_loop w fill (blen more) more hfill ?_ ?_
  · unfold blen; split <;> omega
  · unfold blen; split
    · left; omega
    · right; omega
end Go.Proofs.Ythmonfmpgjbhmaa.K

namespace Go.Proofs.Ythmonfmpgjbhmaa
open Go.RowKit
set_option linter.unusedVariables false
set_option maxRecDepth 100000

set_option maxHeartbeats 400000 in
theorem same_len (ao bo : Option Addr) (cap cap' : Nat) (n m : Nat) (w : World) (hn : n ≤ 140737488351232) (hm : m ≤ 140737488351232) (h : ((n : Int) != (m : Int)) = true) :
    Calls Try.prog 16 #[.slice ao n cap, .slice bo m cap'] w fun e w' => e = .returned (.bool false) ∧ w' = w := by
  go_enter Try.func16, Try.ntmps16
  go_wp2
  go_ret
  exact ⟨rfl, rfl⟩

set_option maxHeartbeats 400000 in
theorem same_nil (ao bo : Option Addr) (cap cap' : Nat) (w : World) :
    Calls Try.prog 16 #[.slice ao 0 cap, .slice bo 0 cap'] w fun e w' => e = .returned (.bool true) ∧ w' = w := by
  go_enter Try.func16, Try.ntmps16
  go_wp2
  refine wp_loop_rounds 1 ?_
  rw [rounds_succ]
  go_wp2
  go_ret
  exact ⟨rfl, rfl⟩

theorem take_ne (l m : List Nat) (k n : Nat) (hl : l.length = n) (hm : m.length = n) (hk : k < n) (h : (l[k]?.getD 0) ≠ (m[k]?.getD 0)) : ¬ l = m := by
  rintro rfl; exact h rfl
theorem take_eq (l m : List Nat) (k n : Nat) (hl : l.length = n) (hm : m.length = n) (hk : k < n) (h : l[k]?.getD 0 = m[k]?.getD 0) (ht : l.take k = m.take k) : l.take (k + 1) = m.take (k + 1) := by
  rw [List.take_succ_eq_append_getElem (by omega), List.take_succ_eq_append_getElem (by omega), ht]
  simp [show k < l.length by omega, show k < m.length by omega] at h
  rw [h]

set_option maxHeartbeats 400000 in
theorem same_some (b off cap b' off' cap' n : Nat) (l m : List Nat) (w : World) (hn : n ≤ 140737488351232) (HL : Hid (l.length = n)) (HM : Hid (m.length = n))
    (HC : Hid (∀ k, k < n → w.cell? ⟨b, off + k, none⟩ = some (.int .u8 ((l[k]?.getD 0 : Nat) : Int)))) (HD : Hid (∀ k, k < n → w.cell? ⟨b', off' + k, none⟩ = some (.int .u8 ((m[k]?.getD 0 : Nat) : Int)))) :
    Calls Try.prog 16 #[.slice (some ⟨b, off, none⟩) n cap, .slice (some ⟨b', off', none⟩) n cap'] w fun e w' => e = .returned (.bool (decide (l = m))) ∧ ∃ q, w' = w.drewN q := by
  go_enter Try.func16, Try.ntmps16
  go_wp2
  go_loopw [5] (fun i wr => ∃ k q : Nat, k ≤ n ∧ i = .int .i64 k ∧ wr = w.drewN q ∧ l.take k = m.take k) (fun i _ => n - (intOf i).toNat)
  case atStart => exact ⟨0, 0, Nat.zero_le _, rfl, rfl, rfl⟩
  case round =>
    obtain ⟨k, q, hk, rfl, rfl, ht⟩ := hrel
    have HT : Hid (l.take k = m.take k) := ht
    clear ht
    by_cases hlt : k < n
    · have hc := HC.out k hlt
      have hd := HD.out k hlt
      by_cases hx : l[k]?.getD 0 = m[k]?.getD 0
      · have HS : Hid (l.take (k + 1) = m.take (k + 1)) := take_eq l m k n HL.out HM.out hlt hx HT.out
        rw [← hx] at hd
        clear hx
        generalize l[k]?.getD 0 = x at *
        go_wp2
        go_quiet (fail)
        go_wp2
        go_roundw
        case rel => exact ⟨k + 1, _, by omega, by go_num, rfl, HS.out⟩
        case measure => simp [intOf]; omega
      · have HS : Hid (¬ l = m) := take_ne l m k n HL.out HM.out hlt hx
        have hne : (((l[k]?.getD 0 : Nat) : Int) != ((m[k]?.getD 0 : Nat) : Int)) = true := by rw [bne_iff_ne]; omega
        clear hx
        generalize l[k]?.getD 0 = x at *
        generalize m[k]?.getD 0 = y at *
        go_wp2
        go_quiet (fail)
        go_wp2
        go_ret
        exact ⟨ret_bool (by rw [decide_eq_false HS.out]), q + nq, by rw [World.drewN_drewN]⟩
    · have HE : Hid (l = m) := by
        have := HT.out
        rwa [List.take_of_length_le (by rw [HL.out]; omega), List.take_of_length_le (by rw [HM.out]; omega)] at this
      go_wp2
      go_ret
      exact ⟨ret_bool (by rw [decide_eq_true HE.out]), _, rfl⟩

theorem same_any (ao bo : Option Addr) (cap cap' : Nat) (l m : List Nat) (w : World) (h : BRow w ao cap l) (h' : BRow w bo cap' m) :
    Calls Try.prog 16 #[.slice ao l.length cap, .slice bo m.length cap'] w fun e w' => e = .returned (.bool (decide (l = m))) ∧ ∃ q, w' = w.drewN q := by
  by_cases hlen : l.length = m.length
  · by_cases hl : l = []
    · subst hl
      have hm : m = [] := List.eq_nil_of_length_eq_zero hlen.symm
      subst hm
      exact (same_nil ao bo cap cap' w).mono fun e w' hh => ⟨hh.1, 0, hh.2⟩
    · obtain ⟨b, off, rfl, hc⟩ := h.at_ hl
      obtain ⟨b', off', rfl, hc'⟩ := h'.at_ (by rintro rfl; exact hl (List.eq_nil_of_length_eq_zero hlen))
      rw [← hlen]
      refine same_some b off cap b' off' cap' l.length l m w h.len rfl hlen.symm ?_ ?_
      · intro k hk; rw [hc k hk]; simp [bv, hk]
      · intro k hk; rw [hc' k (by omega)]; simp [bv, show k < m.length by omega]
  · refine (same_len ao bo cap cap' _ _ w h.len h'.len (by rw [bne_iff_ne]; omega)).mono fun e w' hh => ⟨?_, 0, hh.2⟩
    rw [hh.1, decide_eq_false (by rintro rfl; exact hlen rfl)]
end Go.Proofs.Ythmonfmpgjbhmaa
