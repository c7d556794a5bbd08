import Derived.Test.YtlacligofhinmaaGreatV13
import Derived.Test.YtlacligofhinmaaGreatV8
namespace Go.Proofs.YtlacligofhinmaaGreat.K
open Go.RowKit Go.Maps Go.Proofs.YtlacligofhinmaaGreat Go.MuLone
attribute [local go_sem] Oper.semAt_some
set_option linter.unusedVariables false
set_option linter.unusedSimpArgs false
set_option maxRecDepth 100000

/-- a write's bytes -/
def byt (fill i : Nat) : Nat := (fill + i % 5 * 51) % 256
def bytesL (fill n : Nat) : Bl := (List.range n).map (byt fill)
def blen (more : Int) : Nat := if -512 < more ∧ more < 512 then (512 + more).toNat else 512
theorem bytesL_succ (fill n : Nat) : bytesL fill (n + 1) = bytesL fill n ++ [byt fill n] := by simp [bytesL, List.range_succ]
theorem bytesL_len (fill n : Nat) : (bytesL fill n).length = n := by simp [bytesL]
theorem bytesL_lt (fill n : Nat) : ∀ x ∈ bytesL fill n, x < 256 := fun x hx => by
  obtain ⟨i, _, rfl⟩ := List.mem_map.1 hx
  exact Nat.mod_lt _ (by decide)
theorem bytes_ok (fill : Nat) : OkB (bytesL fill 512) := ⟨bytesL_len _ _, bytesL_lt _ _⟩
theorem take_set {l : List Value} {k : Nat} {v : Value} (h : k < l.length) : (l.set k v).take (k + 1) = l.take k ++ [v] := by
  rw [List.take_add_one, List.take_set_of_le (Nat.le_refl _), List.getElem?_set_self h]; rfl
theorem run_row (w : World) {n : Nat} (hn : n ≤ 65536) : ∃ Z : Array Value, Z.size = n ∧ (Instr.makeSlice 52 (.int .i64 (n : Int)) (.int .i64 (n : Int))).run Tryz.prog w = .ok (.slice (some ⟨w.heap.size, 0, none⟩) n n) (w.alloc (.cells Z 5)) := by
  obtain ⟨i0, hi, hz0, hz1, hz2⟩ := info_parts info5x
  have h1 := run_make (P := Tryz.prog) w 52 5 i0 (.int .u8 0) Tryz.underlying52 hi hz0 .i64 .i64 (n : Int) (n : Int) (by omega) (Int.le_refl _) (by rw [hz2]; omega) (by omega)
  rw [Int.toNat_natCast, hz1, Nat.mul_one] at h1
  exact ⟨_, size_madeCells _ _, h1⟩
set_option maxHeartbeats 2000000 in
theorem bytes_loop (w : World) (fill n : Nat) (more : Int) (hfill : fill < 256) (hn : n ≤ 65536) (hmore : -512 < more ∧ more < 512 ∧ 512 + more = (n : Int) ∨ ¬ (-512 < more ∧ more < 512) ∧ n = 512) :
    Calls Tryz.prog 22 #[.int .u8 fill, .int .i64 more] w fun r w' => ∃ v, r = .returned v ∧ w'.ownsRow w.heap.size 5 1 v n ((bytesL fill n).map bv) ∧ Below w.heap.size w w' := by
  obtain ⟨Z, hZ, hmk⟩ := run_row w hn
  have HZ : Hid (Z.size = n) := hZ
  have HB0 : Hid (Below w.heap.size w (w.alloc (.cells Z 5))) := (Below.refl _ w).alloc (Nat.le_refl _) _
  have HG0 : Hid ((w.alloc (.cells Z 5)).heap[w.heap.size]? = some (.cells Z 5)) := heap_alloc_new w _
  have HW : Hid (∀ k : Nat, k < n → (IntKind.u8.wrap ((fill : Int) + IntKind.u8.wrap (IntKind.u8.wrap ((k : Int) % 5) * 51)) = (byt fill k : Int))) := fun k hk => by
    rw [IntKind.wrap_u8, IntKind.wrap_u8, IntKind.wrap_u8]
    unfold byt
    omega
  clear hZ
  have hent : True := trivial
  rcases hmore with ⟨h1, h2, h3⟩ | ⟨h1, rfl⟩
  · go_enter Tryz.func22, Tryz.ntmps22
    go_wp2
    go_loopw [7] (fun i wr => ∃ (k : Nat) (cur : Array Value), k ≤ n ∧ i = .int .i64 k ∧ Hid (wr.heap[w.heap.size]? = some (.cells cur 5)) ∧ Hid (cur.size = n) ∧ Hid (cur.toList.take k = (bytesL fill k).map bv) ∧ Hid (Below w.heap.size w wr)) (fun i _ => n - (intOf i).toNat)
    case atStart => exact ⟨0, Z, Nat.zero_le _, rfl, HG0, HZ, (by show _ = _; simp [bytesL]), HB0⟩
    case round =>
      obtain ⟨k, cur, hk, rfl, HG, HC, HT, HB⟩ := hrel
      by_cases hlt : k < n
      · have hkn : (k : Int) < (n : Int) := by omega
        have htm : (k : Int).tmod 5 = (k : Int) % 5 := by rw [Int.tmod_eq_emod_of_nonneg (by omega)]
        have hw := HW.out k hlt
        obtain ⟨u, hu⟩ : ∃ u, wr.cell? ⟨w.heap.size, k, none⟩ = some u := by
          rw [cell_of HG.out]; exact ⟨_, Array.getElem?_eq_getElem (by have := HC.out; omega)⟩
        have hf : wr.frozen? ⟨w.heap.size, k, none⟩ = false := frozen_of HG.out
        have HN : Hid (∀ v, (wr.setCell ⟨w.heap.size, k, none⟩ v).heap[w.heap.size]? = some (.cells (cur.setIfInBounds k v) 5)) := fun v => blk_set HG.out k v
        have HT2 : Hid ((cur.setIfInBounds k (.int .u8 (byt fill k))).toList.take (k + 1) = (bytesL fill (k + 1)).map bv) := by
          show _ = _
          have hks : k < cur.toList.length := by have := HC.out; simp; omega
          rw [bytesL_succ, List.map_append, ← HT.out, Array.toList_setIfInBounds, take_set hks]
          rfl
        go_wp2
        go_roundw
        case rel => exact ⟨k + 1, _, by omega, by go_num, HN.out _, by show _ = _; simp; exact HC.out, HT2, HB.out.setCell (Nat.le_refl _) _⟩
        case measure => simp [intOf]; omega
      · have e : k = n := by omega
        subst e
        go_wp2
        go_ret
        refine ⟨_, rfl, ⟨by simp [bytesL_len], .inr ⟨w.heap.size, k, cur, rfl, Nat.le_refl _, HG.out, Nat.le_refl _, by unfold maxLen; omega, by rw [HC.out, Nat.mul_one], by rw [Nat.mul_one]; exact HT.out⟩⟩, HB.out⟩
  · have h1' : -512 < more → 512 ≤ more := fun h => by omega
    have hmk2 : (Instr.makeSlice 52 (.int .i64 512) (.int .i64 512)).run Tryz.prog w = .ok (.slice (some ⟨w.heap.size, 0, none⟩) 512 512) (w.alloc (.cells Z 5)) := hmk
    clear hmk
    by_cases h4 : -512 < more
    · have h5 : 512 ≤ more := h1' h4
      clear h1 h1'
      go_enter Tryz.func22, Tryz.ntmps22
      go_wp2
      go_loopw [7] (fun i wr => ∃ (k : Nat) (cur : Array Value), k ≤ 512 ∧ i = .int .i64 k ∧ Hid (wr.heap[w.heap.size]? = some (.cells cur 5)) ∧ Hid (cur.size = 512) ∧ Hid (cur.toList.take k = (bytesL fill k).map bv) ∧ Hid (Below w.heap.size w wr)) (fun i _ => 512 - (intOf i).toNat)
      case atStart => exact ⟨0, Z, Nat.zero_le _, rfl, HG0, HZ, (by show _ = _; simp [bytesL]), HB0⟩
      case round =>
        obtain ⟨k, cur, hk, rfl, HG, HC, HT, HB⟩ := hrel
        by_cases hlt : k < 512
        · have hkn : (k : Int) < 512 := by omega
          have htm : (k : Int).tmod 5 = (k : Int) % 5 := by rw [Int.tmod_eq_emod_of_nonneg (by omega)]
          have hw := HW.out k hlt
          obtain ⟨u, hu⟩ : ∃ u, wr.cell? ⟨w.heap.size, k, none⟩ = some u := by
            rw [cell_of HG.out]; exact ⟨_, Array.getElem?_eq_getElem (by have := HC.out; omega)⟩
          have hf : wr.frozen? ⟨w.heap.size, k, none⟩ = false := frozen_of HG.out
          have HN : Hid (∀ v, (wr.setCell ⟨w.heap.size, k, none⟩ v).heap[w.heap.size]? = some (.cells (cur.setIfInBounds k v) 5)) := fun v => blk_set HG.out k v
          have HT2 : Hid ((cur.setIfInBounds k (.int .u8 (byt fill k))).toList.take (k + 1) = (bytesL fill (k + 1)).map bv) := by
            show _ = _
            have hks : k < cur.toList.length := by have := HC.out; simp; omega
            rw [bytesL_succ, List.map_append, ← HT.out, Array.toList_setIfInBounds, take_set hks]
            rfl
          go_wp2
          go_roundw
          case rel => exact ⟨k + 1, _, by omega, by go_num, HN.out _, by show _ = _; simp; exact HC.out, HT2, HB.out.setCell (Nat.le_refl _) _⟩
          case measure => simp [intOf]; omega
        · have e : k = 512 := by omega
          subst e
          go_wp2
          go_ret
          refine ⟨_, rfl, ⟨by simp [bytesL_len], .inr ⟨w.heap.size, 512, cur, rfl, Nat.le_refl _, HG.out, Nat.le_refl _, by unfold maxLen; omega, by rw [HC.out, Nat.mul_one], by rw [Nat.mul_one]; exact HT.out⟩⟩, HB.out⟩
    · clear h1 h1'
      go_enter Tryz.func22, Tryz.ntmps22
      go_wp2
      go_loopw [7] (fun i wr => ∃ (k : Nat) (cur : Array Value), k ≤ 512 ∧ i = .int .i64 k ∧ Hid (wr.heap[w.heap.size]? = some (.cells cur 5)) ∧ Hid (cur.size = 512) ∧ Hid (cur.toList.take k = (bytesL fill k).map bv) ∧ Hid (Below w.heap.size w wr)) (fun i _ => 512 - (intOf i).toNat)
      case atStart => exact ⟨0, Z, Nat.zero_le _, rfl, HG0, HZ, (by show _ = _; simp [bytesL]), HB0⟩
      case round =>
        obtain ⟨k, cur, hk, rfl, HG, HC, HT, HB⟩ := hrel
        by_cases hlt : k < 512
        · have hkn : (k : Int) < 512 := by omega
          have htm : (k : Int).tmod 5 = (k : Int) % 5 := by rw [Int.tmod_eq_emod_of_nonneg (by omega)]
          have hw := HW.out k hlt
          obtain ⟨u, hu⟩ : ∃ u, wr.cell? ⟨w.heap.size, k, none⟩ = some u := by
            rw [cell_of HG.out]; exact ⟨_, Array.getElem?_eq_getElem (by have := HC.out; omega)⟩
          have hf : wr.frozen? ⟨w.heap.size, k, none⟩ = false := frozen_of HG.out
          have HN : Hid (∀ v, (wr.setCell ⟨w.heap.size, k, none⟩ v).heap[w.heap.size]? = some (.cells (cur.setIfInBounds k v) 5)) := fun v => blk_set HG.out k v
          have HT2 : Hid ((cur.setIfInBounds k (.int .u8 (byt fill k))).toList.take (k + 1) = (bytesL fill (k + 1)).map bv) := by
            show _ = _
            have hks : k < cur.toList.length := by have := HC.out; simp; omega
            rw [bytesL_succ, List.map_append, ← HT.out, Array.toList_setIfInBounds, take_set hks]
            rfl
          go_wp2
          go_roundw
          case rel => exact ⟨k + 1, _, by omega, by go_num, HN.out _, by show _ = _; simp; exact HC.out, HT2, HB.out.setCell (Nat.le_refl _) _⟩
          case measure => simp [intOf]; omega
        · have e : k = 512 := by omega
          subst e
          go_wp2
          go_ret
          refine ⟨_, rfl, ⟨by simp [bytesL_len], .inr ⟨w.heap.size, 512, cur, rfl, Nat.le_refl _, HG.out, Nat.le_refl _, by unfold maxLen; omega, by rw [HC.out, Nat.mul_one], by rw [Nat.mul_one]; exact HT.out⟩⟩, HB.out⟩
theorem bytes_any (w : World) (fill : Nat) (more : Int) (hfill : fill < 256) :
    Calls Tryz.prog 22 #[.int .u8 fill, .int .i64 more] w fun r w' => ∃ v, r = .returned v ∧ w'.ownsRow w.heap.size 5 1 v (blen more) ((bytesL fill (blen more)).map bv) ∧ Below w.heap.size w w' := by
  refine bytes_loop w fill (blen more) more hfill ?_ ?_
  · unfold blen; split <;> omega
  · unfold blen; split
    · left; omega
    · right; omega
end Go.Proofs.YtlacligofhinmaaGreat.K

namespace Go.Proofs.YtlacligofhinmaaGreat.K
open Go.RowKit Go.Maps Go.Proofs.YtlacligofhinmaaGreat Go.MuLone
attribute [local go_sem] Oper.semAt_some
set_option linter.unusedVariables false
set_option linter.unusedSimpArgs false
set_option maxRecDepth 100000

theorem own_form {w : World} {B n : Nat} {v : Value} {l : Bl} (h : w.ownsRow B 5 1 v n (l.map bv)) (hn : 0 < n) : ∃ g cap cur, v = .slice (some ⟨g, 0, none⟩) n cap ∧ B ≤ g ∧ w.heap[g]? = some (.cells cur 5) ∧ ∀ (j x : Nat), l[j]? = some x → cur[j]? = some (bv x) := by
  rcases h.2 with ⟨_, h0⟩ | ⟨g, cap, cur, rfl, hb, hg, hc, _, hsz, ht⟩
  · omega
  · refine ⟨g, cap, cur, rfl, hb, hg, fun j x hx => ?_⟩
    have h1 : (l.map bv)[j]? = some (bv x) := by rw [List.getElem?_map, hx]; rfl
    rw [← ht, List.getElem?_take] at h1
    split at h1
    · simpa using h1
    · cases h1
theorem own_brow {w : World} {B n : Nat} {v : Value} {l : Bl} (h : w.ownsRow B 5 1 v n (l.map bv)) (hl : l.length = n) (hlt : ∀ x ∈ l, x < 256) (hn : n ≤ 140737488351232) : ∃ ao cap, v = .slice ao n cap ∧ BRow w ao cap l := by
  subst hl
  exact BRow.own h hlt hn
/-- what the heads' disk comes to -/
def hd1 : Dk := newDk 2
def hd2 : Dk := wrote hd1 1 (bytesL 7 512)
def hd3 : Dk := readS hd2
def hd4 : Dk := barred hd3
theorem hd3_look : look hd2 1 = bytesL 7 512 := by
  unfold look hd2 wrote hd1 newDk
  simp [lastQ]
theorem hd4_safe0 : hd4.safe 0 = z512 := by
  unfold hd4 barred settled hd3 readS hd2 wrote hd1 newDk
  simp [layTo, upd]
theorem hd4_safe1 : hd4.safe 1 = bytesL 7 512 := by
  unfold hd4 barred settled hd3 readS hd2 wrote hd1 newDk
  simp [layTo, upd]

/-- a disk of one's own -/
structure Hs (w W : World) (b ms ml : Nat) (qv fv : Value) (S : Dk) : Prop where
  rk : RK W 0 b ms ml qv fv S
  bl : Below w.heap.size w W
  own : ∀ i ∈ fp b ms ml qv fv, w.heap.size ≤ i
theorem Hs.later {w W W' : World} {b ms ml : Nat} {qv fv : Value} {S : Dk} (h : Hs w W b ms ml qv fv S) (hb : Below W.heap.size W W') : Hs w W' b ms ml qv fv S := ⟨h.rk.later hb, h.bl.trans (hb.mono h.bl.size), h.own⟩
theorem Hs.step {w W W' : World} {b ms ml ms' ml' : Nat} {qv fv qv' fv' : Value} {S S' : Dk} (h : Hs w W b ms ml qv fv S) (hd : DAct W W' 0 b ms ml ms' ml' qv fv qv' fv' S') : Hs w W' b ms' ml' qv' fv' S' :=
  ⟨hd.rk, h.bl.trans (hd.kp.below h.own h.bl.size), fun i hi => (hd.sub i hi).elim (h.own i) (fun h1 => Nat.le_trans h.bl.size h1)⟩
theorem Hs.start {w W : World} {b ms ml : Nat} {qv fv : Value} {S : Dk} (h : RK W 0 b ms ml qv fv S) (hb : Below w.heap.size w W) (ho : ∀ i ∈ fp b ms ml qv fv, w.heap.size ≤ i) : Hs w W b ms ml qv fv S := ⟨h, hb, ho⟩

end Go.Proofs.YtlacligofhinmaaGreat.K

namespace Go.Proofs.YtlacligofhinmaaGreat.K
open Go.RowKit Go.Maps Go.Proofs.YtlacligofhinmaaGreat Go.MuLone
attribute [local go_sem] Oper.semAt_some
set_option linter.unusedVariables false
set_option linter.unusedSimpArgs false
set_option maxRecDepth 100000

set_option maxHeartbeats 4000000 in
theorem read_out {w : World} {b ms ml : Nat} {qv fv : Value} {S : Dk} (h : RK w 0 b ms ml qv fv S) {s : Int} (hs : ¬ (0 ≤ s ∧ s < S.n)) :
    Calls Tryz.prog 45 #[.pointer (some ⟨b, 0, none⟩), .int .i64 s] w fun r w' => r = .returned (.tuple #[.slice none 0 0, .int .i64 31]) ∧ DAct w w' 0 b ms ml ms ml qv fv qv fv S := by
  have hus := usable_any h
  have c0 : w.cell? ⟨b, 0, none⟩ = some (.int .i32 0) := h.c 0
  have z0 := h.fz 0
  have a1 := (DAct.refl h).put 0 (.int .i32 1) 1 S.st rfl
  obtain ⟨w1, hw1⟩ : ∃ w1, w1 = w.setCell ⟨b, 0, none⟩ (.int .i32 1) := ⟨_, rfl⟩
  rw [← hw1] at a1
  have h1 : RK w1 1 b ms ml qv fv S := a1.rk
  have hha := has_any h1 s
  rw [decide_eq_false hs] at hha
  have HA1 : Hid (DAct w w1 1 b ms ml ms ml qv fv qv fv S) := a1
  clear h h1 a1 hs
  go_enter_defers Tryz.func45, Tryz.ntmps45
  go_wp2_with (first | (go_at_call 60; refine hus.mono ?_; rintro e w9 ⟨rfl, hw9⟩; rw [hw9]; clear hw9 hus) | (go_at_call 61; refine (lock_free Tryz.muLib ⟨b, 0, none⟩ _ c0 z0).mono ?_; rintro e w9 ⟨rfl, hw9⟩; rw [hw9, ← hw1]; clear hw9 hw1 c0 z0) | (go_at_call 96; refine hha.mono ?_; rintro e w9 ⟨rfl, hw9⟩; rw [hw9]; clear hw9 hha))
  have a7 := HA1.out
  refine leaves_cons (f := 62) (args := #[.pointer (some ⟨b, 0, none⟩)]) (by simp) (by simp [go_sem]) ?_
  refine (unlock_deferred Tryz.muLib ⟨b, 0, none⟩ .returning _ (a7.rk.c 0) (a7.rk.fz 0)).mono ?_
  rintro e u' w'' ⟨rfl, rfl, rfl⟩
  exact ⟨_, results_tmp2 rfl _ _ _, rfl, a7.put 0 (.int .i32 0) 0 S.st rfl⟩
set_option maxHeartbeats 4000000 in
theorem queue_none {w : World} {b ms ml : Nat} {fv : Value} {S : Dk} (h : RK w 0 b ms ml (.slice none 0 0) fv S) :
    Calls Tryz.prog 23 #[.pointer (some ⟨b, 0, none⟩)] w fun r w' => r = .returned (.slice none 0 0) ∧ DAct w w' 0 b ms ml ms ml (.slice none 0 0) fv (.slice none 0 0) fv S := by
  have hus := usable_any h
  have c0 : w.cell? ⟨b, 0, none⟩ = some (.int .i32 0) := h.c 0
  have z0 := h.fz 0
  have a1 := (DAct.refl h).put 0 (.int .i32 1) 1 S.st rfl
  obtain ⟨w1, hw1⟩ : ∃ w1, w1 = w.setCell ⟨b, 0, none⟩ (.int .i32 1) := ⟨_, rfl⟩
  rw [← hw1] at a1
  have c4 : w1.cell? ⟨b, 4, none⟩ = some (.slice none 0 0) := a1.rk.c 4
  have HA1 : Hid (DAct w w1 1 b ms ml ms ml (.slice none 0 0) fv (.slice none 0 0) fv S) := a1
  clear h a1
  go_enter_defers Tryz.func23, Tryz.ntmps23
  go_wp2_with (first | (go_at_call 60; refine hus.mono ?_; rintro e w9 ⟨rfl, hw9⟩; rw [hw9]; clear hw9 hus) | (go_at_call 61; refine (lock_free Tryz.muLib ⟨b, 0, none⟩ _ c0 z0).mono ?_; rintro e w9 ⟨rfl, hw9⟩; rw [hw9, ← hw1]; clear hw9 hw1 c0 z0))
  go_loopw [3, 21] (fun t i wr => t = .slice none 0 0 ∧ i = .int .i64 0 ∧ Hid (wr = w1)) (fun _ i _ => 0)
  case atStart => exact ⟨rfl, rfl, rfl⟩
  case round =>
    obtain ⟨rfl, rfl, HW⟩ := hrel
    go_wp2
    have a7 := HA1.out
    rw [← HW.out] at a7
    refine leaves_cons (f := 62) (args := #[.pointer (some ⟨b, 0, none⟩)]) (by simp) (by simp [go_sem]) ?_
    refine (unlock_deferred Tryz.muLib ⟨b, 0, none⟩ .returning _ (a7.rk.c 0) (a7.rk.fz 0)).mono ?_
    rintro e u' w'' ⟨rfl, rfl, rfl⟩
    exact ⟨_, results_tmp rfl _ _ _, rfl, a7.put 0 (.int .i32 0) 0 S.st rfl⟩
end Go.Proofs.YtlacligofhinmaaGreat.K

namespace Go.Proofs.YtlacligofhinmaaGreat.K
open Go.RowKit Go.Maps Go.Proofs.YtlacligofhinmaaGreat
attribute [local go_sem] Oper.semAt_some
set_option linter.unusedVariables false
set_option linter.unusedSimpArgs false
set_option maxRecDepth 100000

/-- does an operation meet a fault? -/
def touch (f : Flt) (k s : Int) : Bool := decide (f.kind = k) && (decide (k = 3) || decide (f.sector = -1) || decide (f.sector = s))
/-- what an operation leaves of the faults, and the fault that it fails by -/
def failL (k s : Int) : List Flt → List Flt × Option Flt
  | [] => ([], none)
  | f :: fs =>
    if touch f k s = false then (f :: (failL k s fs).1, (failL k s fs).2)
    else if 0 < f.after then ({ f with after := f.after - 1 } :: (failL k s fs).1, (failL k s fs).2)
    else if f.times - 1 = 0 then (fs, some { f with times := f.times - 1 })
    else ({ f with times := f.times - 1 } :: fs, some { f with times := f.times - 1 })
theorem touches_any (w : World) (f : Flt) (k s : Int) : Calls Tryz.prog 125 #[.agg (fcell f).toArray, .int .i64 k, .int .i64 s] w fun r w' => r = .returned (.bool (touch f k s)) ∧ Below w.heap.size w w' := by
  have HT : Hid (∀ b : Bool, touch f k s = b → Value.bool b = .bool (touch f k s)) := fun b h => by rw [h]
  have hT : touch f k s = (decide (f.kind = k) && (decide (k = 3) || decide (f.sector = -1) || decide (f.sector = s))) := rfl
  unfold fcell
  by_cases h1 : f.kind = k
  · by_cases h2 : k = 3
    · have hv : touch f k s = true := by rw [hT]; simp [h1, h2]
      rw [hv]
      clear hT hv HT
      go_enter Tryz.func125, Tryz.ntmps125
      go_wp2
      go_ret
      exact ⟨rfl, (Below.refl _ w).alloc (Nat.le_refl _) _⟩
    · by_cases h3 : f.sector = -1
      · have hv : touch f k s = true := by rw [hT]; simp [h1, h3]
        rw [hv]
        clear hT hv HT
        have e2 : (k == 3) = false := by simpa using h2
        go_enter Tryz.func125, Tryz.ntmps125
        go_wp2
        go_ret
        exact ⟨rfl, (Below.refl _ w).alloc (Nat.le_refl _) _⟩
      · by_cases h4 : f.sector = s
        · have hv : touch f k s = true := by rw [hT]; simp [h1, h4]
          rw [hv]
          clear hT hv HT
          have e2 : (k == 3) = false := by simpa using h2
          have e3 : (f.sector == -1) = false := by simpa using h3
          go_enter Tryz.func125, Tryz.ntmps125
          go_wp2
          go_ret
          exact ⟨rfl, (Below.refl _ w).alloc (Nat.le_refl _) _⟩
        · have hv : touch f k s = false := by rw [hT]; simp [h1, h2, h3, h4]
          rw [hv]
          clear hT hv HT
          have e2 : (k == 3) = false := by simpa using h2
          have e3 : (f.sector == -1) = false := by simpa using h3
          have e4 : (f.sector == s) = false := by simpa using h4
          go_enter Tryz.func125, Tryz.ntmps125
          go_wp2
          go_ret
          exact ⟨by simp [e4, h4], (Below.refl _ w).alloc (Nat.le_refl _) _⟩
  · have hv : touch f k s = false := by rw [hT]; simp [h1]
    rw [hv]
    clear hT hv HT
    have e1 : (f.kind == k) = false := by simpa using h1
    go_enter Tryz.func125, Tryz.ntmps125
    go_wp2
    go_ret
    exact ⟨rfl, (Below.refl _ w).alloc (Nat.le_refl _) _⟩
end Go.Proofs.YtlacligofhinmaaGreat.K
