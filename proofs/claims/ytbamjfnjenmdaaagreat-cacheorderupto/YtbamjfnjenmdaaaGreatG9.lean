import Derived.Test.YtbamjfnjenmdaaaGreatG1
import Derived.Test.YtbamjfnjenmdaaaGreatzKT
namespace Go.Proofs.YtbamjfnjenmdaaaGreat
open Go.RowKit
set_option linter.unusedVariables false
set_option maxRecDepth 100000

set_option maxHeartbeats 400000 in
theorem same_len (ao bo : Option Addr) (cap cap' : Nat) (n m : Nat) (w : World) (hn : n ≤ 140737488351232) (hm : m ≤ 140737488351232) (h : ((n : Int) != (m : Int)) = true) :
    Calls Tryz.prog 23 #[.slice ao n cap, .slice bo m cap'] w fun e w' => e = .returned (.bool false) ∧ w' = w := by
  go_enter Tryz.func23, Tryz.ntmps23
  go_wp2
  go_ret
  exact ⟨rfl, rfl⟩

set_option maxHeartbeats 400000 in
theorem same_nil (ao bo : Option Addr) (cap cap' : Nat) (w : World) :
    Calls Tryz.prog 23 #[.slice ao 0 cap, .slice bo 0 cap'] w fun e w' => e = .returned (.bool true) ∧ w' = w := by
  go_enter Tryz.func23, Tryz.ntmps23
  go_wp2
  refine wp_loop_rounds 1 ?_
  rw [rounds_succ]
  go_wp2
  go_ret
  exact ⟨rfl, rfl⟩

theorem take_ne (l m : List Nat) (k n : Nat) (hl : l.length = n) (hm : m.length = n) (hk : k < n) (h : (l[k]?.getD 0) ≠ (m[k]?.getD 0)) : ¬ l = m := by
  rintro rfl; exact h rfl
theorem take_eq (l m : List Nat) (k n : Nat) (hl : l.length = n) (hm : m.length = n) (hk : k < n) (h : l[k]?.getD 0 = m[k]?.getD 0) (ht : l.take k = m.take k) : l.take (k + 1) = m.take (k + 1) := by
  rw [List.take_succ_eq_append_getElem (by omega), List.take_succ_eq_append_getElem (by omega), ht]
  simp [show k < l.length by omega, show k < m.length by omega] at h
  rw [h]

set_option maxHeartbeats 400000 in
theorem same_some (b off cap b' off' cap' n : Nat) (l m : List Nat) (w : World) (hn : n ≤ 140737488351232) (HL : Hid (l.length = n)) (HM : Hid (m.length = n))
    (HC : Hid (∀ k, k < n → w.cell? ⟨b, off + k, none⟩ = some (.int .u8 ((l[k]?.getD 0 : Nat) : Int)))) (HD : Hid (∀ k, k < n → w.cell? ⟨b', off' + k, none⟩ = some (.int .u8 ((m[k]?.getD 0 : Nat) : Int)))) :
    Calls Tryz.prog 23 #[.slice (some ⟨b, off, none⟩) n cap, .slice (some ⟨b', off', none⟩) n cap'] w fun e w' => e = .returned (.bool (decide (l = m))) ∧ ∃ q, w' = w.drewN q := by
  go_enter Tryz.func23, Tryz.ntmps23
  go_wp2
  go_loopw [5] (fun i wr => ∃ k q : Nat, k ≤ n ∧ i = .int .i64 k ∧ wr = w.drewN q ∧ l.take k = m.take k) (fun i _ => n - (intOf i).toNat)
  case atStart => exact ⟨0, 0, Nat.zero_le _, rfl, rfl, rfl⟩
  case round =>
    obtain ⟨k, q, hk, rfl, rfl, ht⟩ := hrel
    have HT : Hid (l.take k = m.take k) := ht
    clear ht
    by_cases hlt : k < n
    · have hc := HC.out k hlt
      have hd := HD.out k hlt
      by_cases hx : l[k]?.getD 0 = m[k]?.getD 0
      · have HS : Hid (l.take (k + 1) = m.take (k + 1)) := take_eq l m k n HL.out HM.out hlt hx HT.out
        rw [← hx] at hd
        clear hx
        generalize l[k]?.getD 0 = x at *
        go_wp2
        go_quiet (fail)
        go_wp2
        go_roundw
        case rel => exact ⟨k + 1, _, by omega, by go_num, rfl, HS.out⟩
        case measure => simp [intOf]; omega
      · have HS : Hid (¬ l = m) := take_ne l m k n HL.out HM.out hlt hx
        have hne : (((l[k]?.getD 0 : Nat) : Int) != ((m[k]?.getD 0 : Nat) : Int)) = true := by rw [bne_iff_ne]; omega
        clear hx
        generalize l[k]?.getD 0 = x at *
        generalize m[k]?.getD 0 = y at *
        go_wp2
        go_quiet (fail)
        go_wp2
        go_ret
        exact ⟨ret_bool (by rw [decide_eq_false HS.out]), q + nq, by rw [World.drewN_drewN]⟩
    · have HE : Hid (l = m) := by
        have := HT.out
        rwa [List.take_of_length_le (by rw [HL.out]; omega), List.take_of_length_le (by rw [HM.out]; omega)] at this
      go_wp2
      go_ret
      exact ⟨ret_bool (by rw [decide_eq_true HE.out]), _, rfl⟩

theorem same_any (ao bo : Option Addr) (cap cap' : Nat) (l m : List Nat) (w : World) (h : BRow w ao cap l) (h' : BRow w bo cap' m) :
    Calls Tryz.prog 23 #[.slice ao l.length cap, .slice bo m.length cap'] w fun e w' => e = .returned (.bool (decide (l = m))) ∧ ∃ q, w' = w.drewN q := by
  by_cases hlen : l.length = m.length
  · by_cases hl : l = []
    · subst hl
      have hm : m = [] := List.eq_nil_of_length_eq_zero hlen.symm
      subst hm
      exact (same_nil ao bo cap cap' w).mono fun e w' hh => ⟨hh.1, 0, hh.2⟩
    · obtain ⟨b, off, rfl, hc⟩ := h.at_ hl
      obtain ⟨b', off', rfl, hc'⟩ := h'.at_ (by rintro rfl; exact hl (List.eq_nil_of_length_eq_zero hlen))
      rw [← hlen]
      refine same_some b off cap b' off' cap' l.length l m w h.len rfl hlen.symm ?_ ?_
      · intro k hk; rw [hc k hk]; simp [bv, hk]
      · intro k hk; rw [hc' k (by omega)]; simp [bv, show k < m.length by omega]
  · refine (same_len ao bo cap cap' _ _ w h.len h'.len (by rw [bne_iff_ne]; omega)).mono fun e w' hh => ⟨?_, 0, hh.2⟩
    rw [hh.1, decide_eq_false (by rintro rfl; exact hlen rfl)]
end Go.Proofs.YtbamjfnjenmdaaaGreat

namespace Go.Proofs.YtbamjfnjenmdaaaGreat.K
open Go.RowKit Go.Maps Go.Proofs.YtbamjfnjenmdaaaGreat Go.MuLone
attribute [local go_sem] Oper.semAt_some
set_option linter.unusedVariables false
set_option linter.unusedSimpArgs false
set_option maxRecDepth 100000

theorem own_form {w : World} {B n : Nat} {v : Value} {l : Bl} (h : w.ownsRow B 5 1 v n (l.map bv)) (hn : 0 < n) : ∃ g cap cur, v = .slice (some ⟨g, 0, none⟩) n cap ∧ B ≤ g ∧ w.heap[g]? = some (.cells cur 5) ∧ ∀ (j x : Nat), l[j]? = some x → cur[j]? = some (bv x) := by
  rcases h.2 with ⟨_, h0⟩ | ⟨g, cap, cur, rfl, hb, hg, hc, _, hsz, ht⟩
  · omega
  · refine ⟨g, cap, cur, rfl, hb, hg, fun j x hx => ?_⟩
    have h1 : (l.map bv)[j]? = some (bv x) := by rw [List.getElem?_map, hx]; rfl
    rw [← ht, List.getElem?_take] at h1
    split at h1
    · simpa using h1
    · cases h1
theorem own_brow {w : World} {B n : Nat} {v : Value} {l : Bl} (h : w.ownsRow B 5 1 v n (l.map bv)) (hl : l.length = n) (hlt : ∀ x ∈ l, x < 256) (hn : n ≤ 140737488351232) : ∃ ao cap, v = .slice ao n cap ∧ BRow w ao cap l := by
  subst hl
  exact BRow.own h hlt hn
/-- what the heads' disk comes to -/
def hd1 : Dk := newDk 2
def hd2 : Dk := wrote hd1 1 (bytesL 7 512)
def hd3 : Dk := readS hd2
def hd4 : Dk := barred hd3
theorem hd3_look : look hd2 1 = bytesL 7 512 := by
  unfold look hd2 wrote hd1 newDk
  simp [lastQ]
theorem hd4_safe0 : hd4.safe 0 = z512 := by
  unfold hd4 barred settled hd3 readS hd2 wrote hd1 newDk
  simp [layTo, upd]
theorem hd4_safe1 : hd4.safe 1 = bytesL 7 512 := by
  unfold hd4 barred settled hd3 readS hd2 wrote hd1 newDk
  simp [layTo, upd]

/-- a disk of one's own -/
structure Hs (w W : World) (b ms ml : Nat) (qv fv : Value) (S : Dk) : Prop where
  rk : RK W 0 b ms ml qv fv S
  bl : Below w.heap.size w W
  own : ∀ i ∈ fp b ms ml qv fv, w.heap.size ≤ i
theorem Hs.later {w W W' : World} {b ms ml : Nat} {qv fv : Value} {S : Dk} (h : Hs w W b ms ml qv fv S) (hb : Below W.heap.size W W') : Hs w W' b ms ml qv fv S := ⟨h.rk.later hb, h.bl.trans (hb.mono h.bl.size), h.own⟩
theorem Hs.step {w W W' : World} {b ms ml ms' ml' : Nat} {qv fv qv' fv' : Value} {S S' : Dk} (h : Hs w W b ms ml qv fv S) (hd : DAct W W' 0 b ms ml ms' ml' qv fv qv' fv' S') : Hs w W' b ms' ml' qv' fv' S' :=
  ⟨hd.rk, h.bl.trans (hd.kp.below h.own h.bl.size), fun i hi => (hd.sub i hi).elim (h.own i) (fun h1 => Nat.le_trans h.bl.size h1)⟩
theorem Hs.start {w W : World} {b ms ml : Nat} {qv fv : Value} {S : Dk} (h : RK W 0 b ms ml qv fv S) (hb : Below w.heap.size w W) (ho : ∀ i ∈ fp b ms ml qv fv, w.heap.size ≤ i) : Hs w W b ms ml qv fv S := ⟨h, hb, ho⟩

end Go.Proofs.YtbamjfnjenmdaaaGreat.K

namespace Go.Proofs.YtbamjfnjenmdaaaGreat.K
open Go.RowKit Go.Maps Go.Proofs.YtbamjfnjenmdaaaGreat Go.MuLone
attribute [local go_sem] Oper.semAt_some
set_option linter.unusedVariables false
set_option linter.unusedSimpArgs false
set_option maxRecDepth 100000

set_option maxHeartbeats 4000000 in
theorem read_out {w : World} {b ms ml : Nat} {qv fv : Value} {S : Dk} (h : RK w 0 b ms ml qv fv S) {s : Int} (hs : ¬ (0 ≤ s ∧ s < S.n)) :
    Calls Tryz.prog 32 #[.pointer (some ⟨b, 0, none⟩), .int .i64 s] w fun r w' => r = .returned (.tuple #[.slice none 0 0, .int .i64 31]) ∧ DAct w w' 0 b ms ml ms ml qv fv qv fv S := by
  have hus := usable_any h
  have c0 : w.cell? ⟨b, 0, none⟩ = some (.int .i32 0) := h.c 0
  have z0 := h.fz 0
  have a1 := (DAct.refl h).put 0 (.int .i32 1) 1 S.st rfl
  obtain ⟨w1, hw1⟩ : ∃ w1, w1 = w.setCell ⟨b, 0, none⟩ (.int .i32 1) := ⟨_, rfl⟩
  rw [← hw1] at a1
  have h1 : RK w1 1 b ms ml qv fv S := a1.rk
  have hha := has_any h1 s
  rw [decide_eq_false hs] at hha
  have HA1 : Hid (DAct w w1 1 b ms ml ms ml qv fv qv fv S) := a1
  clear h h1 a1 hs
  go_enter_defers Tryz.func32, Tryz.ntmps32
  go_wp2_with (first | (go_at_call 44; refine hus.mono ?_; rintro e w9 ⟨rfl, hw9⟩; rw [hw9]; clear hw9 hus) | (go_at_call 45; refine (lock_free Tryz.muLib ⟨b, 0, none⟩ _ c0 z0).mono ?_; rintro e w9 ⟨rfl, hw9⟩; rw [hw9, ← hw1]; clear hw9 hw1 c0 z0) | (go_at_call 57; refine hha.mono ?_; rintro e w9 ⟨rfl, hw9⟩; rw [hw9]; clear hw9 hha))
  have a7 := HA1.out
  refine leaves_cons (f := 46) (args := #[.pointer (some ⟨b, 0, none⟩)]) (by simp) (by simp [go_sem]) ?_
  refine (unlock_deferred Tryz.muLib ⟨b, 0, none⟩ .returning _ (a7.rk.c 0) (a7.rk.fz 0)).mono ?_
  rintro e u' w'' ⟨rfl, rfl, rfl⟩
  exact ⟨_, results_tmp2 rfl _ _ _, rfl, a7.put 0 (.int .i32 0) 0 S.st rfl⟩
set_option maxHeartbeats 4000000 in
theorem queue_none {w : World} {b ms ml : Nat} {fv : Value} {S : Dk} (h : RK w 0 b ms ml (.slice none 0 0) fv S) :
    Calls Tryz.prog 22 #[.pointer (some ⟨b, 0, none⟩)] w fun r w' => r = .returned (.slice none 0 0) ∧ DAct w w' 0 b ms ml ms ml (.slice none 0 0) fv (.slice none 0 0) fv S := by
  have hus := usable_any h
  have c0 : w.cell? ⟨b, 0, none⟩ = some (.int .i32 0) := h.c 0
  have z0 := h.fz 0
  have a1 := (DAct.refl h).put 0 (.int .i32 1) 1 S.st rfl
  obtain ⟨w1, hw1⟩ : ∃ w1, w1 = w.setCell ⟨b, 0, none⟩ (.int .i32 1) := ⟨_, rfl⟩
  rw [← hw1] at a1
  have c4 : w1.cell? ⟨b, 4, none⟩ = some (.slice none 0 0) := a1.rk.c 4
  have HA1 : Hid (DAct w w1 1 b ms ml ms ml (.slice none 0 0) fv (.slice none 0 0) fv S) := a1
  clear h a1
  go_enter_defers Tryz.func22, Tryz.ntmps22
  go_wp2_with (first | (go_at_call 44; refine hus.mono ?_; rintro e w9 ⟨rfl, hw9⟩; rw [hw9]; clear hw9 hus) | (go_at_call 45; refine (lock_free Tryz.muLib ⟨b, 0, none⟩ _ c0 z0).mono ?_; rintro e w9 ⟨rfl, hw9⟩; rw [hw9, ← hw1]; clear hw9 hw1 c0 z0))
  go_loopw [3, 21] (fun t i wr => t = .slice none 0 0 ∧ i = .int .i64 0 ∧ Hid (wr = w1)) (fun _ i _ => 0)
  case atStart => exact ⟨rfl, rfl, rfl⟩
  case round =>
    obtain ⟨rfl, rfl, HW⟩ := hrel
    go_wp2
    have a7 := HA1.out
    rw [← HW.out] at a7
    refine leaves_cons (f := 46) (args := #[.pointer (some ⟨b, 0, none⟩)]) (by simp) (by simp [go_sem]) ?_
    refine (unlock_deferred Tryz.muLib ⟨b, 0, none⟩ .returning _ (a7.rk.c 0) (a7.rk.fz 0)).mono ?_
    rintro e u' w'' ⟨rfl, rfl, rfl⟩
    exact ⟨_, results_tmp rfl _ _ _, rfl, a7.put 0 (.int .i32 0) 0 S.st rfl⟩
end Go.Proofs.YtbamjfnjenmdaaaGreat.K

namespace Go.Proofs.YtbamjfnjenmdaaaGreat.K
open Go.RowKit Go.Maps Go.Proofs.YtbamjfnjenmdaaaGreat
attribute [local go_sem] Oper.semAt_some
set_option linter.unusedVariables false
set_option linter.unusedSimpArgs false
set_option maxRecDepth 100000

/-- does an operation meet a fault? -/
def touch (f : Flt) (k s : Int) : Bool := decide (f.kind = k) && (decide (k = 3) || decide (f.sector = -1) || decide (f.sector = s))
/-- what an operation leaves of the faults, and the fault that it fails by -/
def failL (k s : Int) : List Flt → List Flt × Option Flt
  | [] => ([], none)
  | f :: fs =>
    if touch f k s = false then (f :: (failL k s fs).1, (failL k s fs).2)
    else if 0 < f.after then ({ f with after := f.after - 1 } :: (failL k s fs).1, (failL k s fs).2)
    else if f.times - 1 = 0 then (fs, some { f with times := f.times - 1 })
    else ({ f with times := f.times - 1 } :: fs, some { f with times := f.times - 1 })
theorem touches_any (w : World) (f : Flt) (k s : Int) : Calls Tryz.prog 77 #[.agg (fcell f).toArray, .int .i64 k, .int .i64 s] w fun r w' => r = .returned (.bool (touch f k s)) ∧ Below w.heap.size w w' := by
  have HT : Hid (∀ b : Bool, touch f k s = b → Value.bool b = .bool (touch f k s)) := fun b h => by rw [h]
  have hT : touch f k s = (decide (f.kind = k) && (decide (k = 3) || decide (f.sector = -1) || decide (f.sector = s))) := rfl
  unfold fcell
  by_cases h1 : f.kind = k
  · by_cases h2 : k = 3
    · have hv : touch f k s = true := by rw [hT]; simp [h1, h2]
      rw [hv]
      clear hT hv HT
      go_enter Tryz.func77, Tryz.ntmps77
      go_wp2
      go_ret
      exact ⟨rfl, (Below.refl _ w).alloc (Nat.le_refl _) _⟩
    · by_cases h3 : f.sector = -1
      · have hv : touch f k s = true := by rw [hT]; simp [h1, h3]
        rw [hv]
        clear hT hv HT
        have e2 : (k == 3) = false := by simpa using h2
        go_enter Tryz.func77, Tryz.ntmps77
        go_wp2
        go_ret
        exact ⟨rfl, (Below.refl _ w).alloc (Nat.le_refl _) _⟩
      · by_cases h4 : f.sector = s
        · have hv : touch f k s = true := by rw [hT]; simp [h1, h4]
          rw [hv]
          clear hT hv HT
          have e2 : (k == 3) = false := by simpa using h2
          have e3 : (f.sector == -1) = false := by simpa using h3
          go_enter Tryz.func77, Tryz.ntmps77
          go_wp2
          go_ret
          exact ⟨rfl, (Below.refl _ w).alloc (Nat.le_refl _) _⟩
        · have hv : touch f k s = false := by rw [hT]; simp [h1, h2, h3, h4]
          rw [hv]
          clear hT hv HT
          have e2 : (k == 3) = false := by simpa using h2
          have e3 : (f.sector == -1) = false := by simpa using h3
          have e4 : (f.sector == s) = false := by simpa using h4
          go_enter Tryz.func77, Tryz.ntmps77
          go_wp2
          go_ret
          exact ⟨by simp [e4, h4], (Below.refl _ w).alloc (Nat.le_refl _) _⟩
  · have hv : touch f k s = false := by rw [hT]; simp [h1]
    rw [hv]
    clear hT hv HT
    have e1 : (f.kind == k) = false := by simpa using h1
    go_enter Tryz.func77, Tryz.ntmps77
    go_wp2
    go_ret
    exact ⟨rfl, (Below.refl _ w).alloc (Nat.le_refl _) _⟩
end Go.Proofs.YtbamjfnjenmdaaaGreat.K
