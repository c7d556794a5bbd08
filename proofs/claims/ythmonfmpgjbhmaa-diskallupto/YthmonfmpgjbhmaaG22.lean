import Derived.Test.YthmonfmpgjbhmaaG15
namespace Go.Proofs.Ythmonfmpgjbhmaa.K
open Go.RowKit Go.Maps Go.Proofs.Ythmonfmpgjbhmaa Go.MuLone
attribute [local go_sem] Oper.semAt_some
set_option linter.unusedVariables false
set_option linter.unusedSimpArgs false
set_option maxRecDepth 100000

/-- a sector of an image -/
def secL (l : List Nat) (s : Nat) : Bl := (l.drop (s * 512)).take 512
def loadF (l : List Nat) (k : Nat) : Nat → Bl := fun s => if s < k then secL l s else z512
def loadDk (n k : Nat) (l : List Nat) : Dk := { newDk n with safe := loadF l k }
theorem secL_ok {l : List Nat} {n s : Nat} (hl : l.length = n * 512) (hs : s < n) (hlt : ∀ x ∈ l, x < 256) : OkB (secL l s) := by
  refine ⟨?_, fun x hx => hlt x (List.mem_of_mem_drop (List.mem_of_mem_take hx))⟩
  unfold secL
  rw [List.length_take, List.length_drop, hl]
  omega
theorem loadDk_zero (n : Nat) (l : List Nat) : loadDk n 0 l = newDk n := by
  unfold loadDk loadF newDk
  congr 1
theorem loadDk_succ (n k : Nat) (l : List Nat) : laid (loadDk n k l) k (secL l k) = loadDk n (k + 1) l := by
  unfold laid loadDk loadF upd
  congr 1
  funext t
  show (if t = k then _ else if t < k then _ else _) = if t < k + 1 then _ else _
  by_cases h1 : t = k
  · subst h1; simp
  · by_cases h2 : t < k
    · rw [if_neg h1, if_pos h2, if_pos (by omega)]
    · rw [if_neg h1, if_neg h2, if_neg (by omega)]
theorem secL_get {l : List Nat} {s j : Nat} (hj : j < 512) : (secL l s)[j]? = l[s * 512 + j]? := by
  unfold secL
  rw [List.getElem?_take, if_pos hj, List.getElem?_drop]
set_option maxHeartbeats 2000000 in
theorem load_bad (w : World) (ao : Option Addr) (cap : Nat) (m : Nat) (hm : m ≤ 140737488351232) (hb : m % 512 ≠ 0 ∨ m / 512 < 1 ∨ 65536 < m / 512) :
    Calls Try.prog 12 #[.slice ao m cap] w fun r w' => r = .returned (.tuple #[.pointer none, .int .i64 30]) ∧ w' = w := by
  obtain ⟨r, hr⟩ : ∃ r : Int, r = (m : Int).tmod 512 := ⟨_, rfl⟩
  obtain ⟨q, hq⟩ : ∃ q : Int, q = (m : Int).tdiv 512 := ⟨_, rfl⟩
  have hr' : r = ((m % 512 : Nat) : Int) := by rw [hr, Int.tmod_eq_emod_of_nonneg (by omega)]; omega
  have hq' : q = ((m / 512 : Nat) : Int) := by rw [hq, Int.tdiv_eq_ediv_of_nonneg (by omega)]; omega
  have hq0 : 0 ≤ q := by omega
  have hq1 : q ≤ 140737488351232 := by omega
  have hr0 : 0 ≤ r := by omega
  have hr1 : r < 512 := by omega
  have ht := hr.symm
  have htq := hq.symm
  by_cases h0 : m % 512 = 0
  · have hz : r = 0 := by omega
    have hnb := new_bad w q (by omega)
    clear hr hq hr' hq' hb h0
    subst hz
    go_enter Try.func12, Try.ntmps12
    go_wp2_with fail
    refine hnb.mono ?_
    rintro e w9 ⟨rfl, hw9⟩
    rw [hw9]
    clear hw9 hnb ht htq
    go_wp2
    exact bodyPost_ret (results_tmp2 rfl _ _ _) rfl ⟨rfl, rfl⟩
  · have hz : ¬ r = 0 := by omega
    clear hr hq hr' hq' hb h0
    go_enter Try.func12, Try.ntmps12
    go_wp2
    exact bodyPost_ret (results_tmp2 rfl _ _ _) rfl ⟨rfl, rfl⟩
set_option maxHeartbeats 4000000 in
theorem load_any {w : World} {gb off cap : Nat} {l : List Nat} (h : BRow w (some ⟨gb, off, none⟩) cap l) {n : Nat} (hl : l.length = n * 512) (h0 : 1 ≤ n) (h1 : n ≤ 65536) (hcap : n * 512 ≤ cap) :
    Calls Try.prog 12 #[.slice (some ⟨gb, off, none⟩) (n * 512) cap] w fun r w' => ∃ b, r = .returned (.tuple #[.pointer (some ⟨b, 0, none⟩), .int .i64 0]) ∧ ∃ ms ml, Hs w w' b ms ml (.slice none 0 0) (.slice none 0 0) (loadDk n n l) := by
  have ht : ((n : Int) * 512).tmod 512 = 0 := by rw [Int.tmod_eq_emod_of_nonneg (by omega)]; omega
  have hq : ((n : Int) * 512).tdiv 512 = (n : Int) := by rw [Int.tdiv_eq_ediv_of_nonneg (by omega)]; omega
  have hnew := new_any w n h0 h1
  have HN0 : Hid (1 ≤ n) := h0
  have HN1 : Hid (n ≤ 65536) := h1
  have HBl : Hid (∀ W, Below w.heap.size w W → ∀ k, k < n → ∀ j v, ((secL l k).map bv)[j]? = some v → W.cell? ((⟨gb, off + k * 512, none⟩ : Addr).add j) = some v) := fun W hW k hk j v hv => by
    have hne : l ≠ [] := fun e => by rw [e] at hl; simp at hl; omega
    obtain ⟨b', off', e, hc⟩ := h.at_ hne
    cases e
    rw [List.getElem?_map] at hv
    cases hx : (secL l k)[j]? with
    | none => rw [hx] at hv; cases hv
    | some x =>
      rw [hx] at hv; cases hv
      have hj : j < 512 := by
        have := (List.getElem?_eq_some_iff.1 hx).1
        unfold secL at this
        rw [List.length_take] at this
        omega
      rw [secL_get hj] at hx
      obtain ⟨hlt, rfl⟩ := List.getElem?_eq_some_iff.1 hx
      rw [add_plain, show off + k * 512 + j = off + (k * 512 + j) by omega]
      exact cell_later hW (hc _ hlt)
  have HOk : Hid (∀ k, k < n → OkB (secL l k)) := fun k hk => secL_ok hl hk h.lt
  clear h hl
  go_enter Try.func12, Try.ntmps12
  go_wp2_with fail
  refine hnew.mono ?_
  clear hnew
  rintro e w1 ⟨b, rfl, ms, ml, hrk, hb1, hf1⟩
  have c2 : w1.cell? ⟨b, 2, none⟩ = some (.int .i64 n) := hrk.c 2
  have HS1 : Hid (Hs w w1 b ms ml (.slice none 0 0) (.slice none 0 0) (loadDk n 0 l)) := by rw [loadDk_zero]; exact ⟨hrk, hb1, hf1⟩
  clear hrk hb1 hf1
  go_wp2
  go_loopw [25] (fun i wr => ∃ (k : Nat), k ≤ n ∧ i = .int .i64 k ∧ Hid (Hs w wr b ms ml (.slice none 0 0) (.slice none 0 0) (loadDk n k l))) (fun i _ => n - (intOf i).toNat)
  case atStart => exact ⟨0, Nat.zero_le _, rfl, HS1⟩
  case round =>
    obtain ⟨k, hk, rfl, HS⟩ := hrel
    by_cases hlt : k < n
    · have hkn : (k : Int) < (n : Int) := by omega
      have hle : (k : Int) * 512 ≤ (n : Int) * 512 := by omega
      have hto : ((k : Int) * 512).toNat = k * 512 := by omega
      have hge : (0 : Int) ≤ (k : Int) * 512 := by omega
      obtain ⟨C, hC⟩ : ∃ C, C = Lc (secL l k) := ⟨_, rfl⟩
      have hblk : Calls Try.prog 31 #[.slice (some ⟨gb, off + k * 512, none⟩) (n * 512 - k * 512) (cap - k * 512)] wr fun r w' => r = .returned (.agg C) ∧ Below wr.heap.size wr w' := by
        rw [hC]
        exact block_any (w := wr) (a := ⟨gb, off + k * 512, none⟩) (n := n * 512 - k * 512) (cap := cap - k * 512) (HOk.out k hlt) (by omega) (HBl.out wr HS.out.bl k hlt)
      have HC : Hid (C = Lc (secL l k)) := hC
      clear hC
      go_wp2_with fail
      refine hblk.mono ?_
      clear hblk
      rintro e w2 ⟨rfl, hb2⟩
      have HS2 : Hid (Hs w w2 b ms ml (.slice none 0 0) (.slice none 0 0) (loadDk n k l)) := HS.out.later hb2
      have hlay : Calls Try.prog 30 #[.pointer (some ⟨b, 0, none⟩), .int .i64 k, .agg C] w2 fun r w' => r = .returned (.tuple #[]) ∧ DAct w2 w' 0 b ms ml ms ml (.slice none 0 0) (.slice none 0 0) (.slice none 0 0) (.slice none 0 0) (laid (loadDk n k l) k (secL l k)) := by
        rw [HC.out]
        exact lay_any HS2.out.rk (s := k) hlt (HOk.out k hlt)
      clear hb2
      go_wp2_with fail
      refine hlay.mono ?_
      clear hlay
      rintro e w3 ⟨rfl, h3⟩
      rw [loadDk_succ] at h3
      have HS3 : Hid (Hs w w3 b ms ml (.slice none 0 0) (.slice none 0 0) (loadDk n (k + 1) l)) := HS2.out.step h3
      clear h3 HS2 HS
      go_wp2
      go_roundw
      · exact ⟨k + 1, by omega, by push_cast; rfl, HS3⟩
      · simp [intOf]; omega
    · have hkn : k = n := by omega
      subst hkn
      go_wp2
      go_ret2
      exact ⟨b, rfl, ms, ml, HS.out⟩
end Go.Proofs.Ythmonfmpgjbhmaa.K

namespace Go.Proofs.Ythmonfmpgjbhmaa.K
open Go.RowKit Go.Maps Go.Proofs.Ythmonfmpgjbhmaa Go.MuLone
attribute [local go_sem] Oper.semAt_some
set_option linter.unusedVariables false
set_option linter.unusedSimpArgs false
set_option maxRecDepth 100000

set_option maxHeartbeats 4000000 in
theorem read_out {w : World} {b ms ml : Nat} {qv fv : Value} {S : Dk} (h : RK w 0 b ms ml qv fv S) {s : Int} (hs : ¬ (0 ≤ s ∧ s < S.n)) :
    Calls Try.prog 14 #[.pointer (some ⟨b, 0, none⟩), .int .i64 s] w fun r w' => r = .returned (.tuple #[.slice none 0 0, .int .i64 31]) ∧ DAct w w' 0 b ms ml ms ml qv fv qv fv S := by
  have hus := usable_any h
  have c0 : w.cell? ⟨b, 0, none⟩ = some (.int .i32 0) := h.c 0
  have z0 := h.fz 0
  have a1 := (DAct.refl h).put 0 (.int .i32 1) 1 S.st rfl
  obtain ⟨w1, hw1⟩ : ∃ w1, w1 = w.setCell ⟨b, 0, none⟩ (.int .i32 1) := ⟨_, rfl⟩
  rw [← hw1] at a1
  have h1 : RK w1 1 b ms ml qv fv S := a1.rk
  have hha := has_any h1 s
  rw [decide_eq_false hs] at hha
  have HA1 : Hid (DAct w w1 1 b ms ml ms ml qv fv qv fv S) := a1
  clear h h1 a1 hs
  go_enter_defers Try.func14, Try.ntmps14
  go_wp2_with (first | (go_at_call 27; refine hus.mono ?_; rintro e w9 ⟨rfl, hw9⟩; rw [hw9]; clear hw9 hus) | (go_at_call 28; refine (lock_free Try.muLib ⟨b, 0, none⟩ _ c0 z0).mono ?_; rintro e w9 ⟨rfl, hw9⟩; rw [hw9, ← hw1]; clear hw9 hw1 c0 z0) | (go_at_call 33; refine hha.mono ?_; rintro e w9 ⟨rfl, hw9⟩; rw [hw9]; clear hw9 hha))
  have a7 := HA1.out
  refine leaves_cons (f := 29) (args := #[.pointer (some ⟨b, 0, none⟩)]) (by simp) (by simp [go_sem]) ?_
  refine (unlock_deferred Try.muLib ⟨b, 0, none⟩ .returning _ (a7.rk.c 0) (a7.rk.fz 0)).mono ?_
  rintro e u' w'' ⟨rfl, rfl, rfl⟩
  exact ⟨_, results_tmp2 rfl _ _ _, rfl, a7.put 0 (.int .i32 0) 0 S.st rfl⟩
set_option maxHeartbeats 4000000 in
theorem queue_none {w : World} {b ms ml : Nat} {fv : Value} {S : Dk} (h : RK w 0 b ms ml (.slice none 0 0) fv S) :
    Calls Try.prog 19 #[.pointer (some ⟨b, 0, none⟩)] w fun r w' => r = .returned (.slice none 0 0) ∧ DAct w w' 0 b ms ml ms ml (.slice none 0 0) fv (.slice none 0 0) fv S := by
  have hus := usable_any h
  have c0 : w.cell? ⟨b, 0, none⟩ = some (.int .i32 0) := h.c 0
  have z0 := h.fz 0
  have a1 := (DAct.refl h).put 0 (.int .i32 1) 1 S.st rfl
  obtain ⟨w1, hw1⟩ : ∃ w1, w1 = w.setCell ⟨b, 0, none⟩ (.int .i32 1) := ⟨_, rfl⟩
  rw [← hw1] at a1
  have c4 : w1.cell? ⟨b, 4, none⟩ = some (.slice none 0 0) := a1.rk.c 4
  have HA1 : Hid (DAct w w1 1 b ms ml ms ml (.slice none 0 0) fv (.slice none 0 0) fv S) := a1
  clear h a1
  go_enter_defers Try.func19, Try.ntmps19
  go_wp2_with (first | (go_at_call 27; refine hus.mono ?_; rintro e w9 ⟨rfl, hw9⟩; rw [hw9]; clear hw9 hus) | (go_at_call 28; refine (lock_free Try.muLib ⟨b, 0, none⟩ _ c0 z0).mono ?_; rintro e w9 ⟨rfl, hw9⟩; rw [hw9, ← hw1]; clear hw9 hw1 c0 z0))
  go_loopw [3, 21] (fun t i wr => t = .slice none 0 0 ∧ i = .int .i64 0 ∧ Hid (wr = w1)) (fun _ i _ => 0)
  case atStart => exact ⟨rfl, rfl, rfl⟩
  case round =>
    obtain ⟨rfl, rfl, HW⟩ := hrel
    go_wp2
    have a7 := HA1.out
    rw [← HW.out] at a7
    refine leaves_cons (f := 29) (args := #[.pointer (some ⟨b, 0, none⟩)]) (by simp) (by simp [go_sem]) ?_
    refine (unlock_deferred Try.muLib ⟨b, 0, none⟩ .returning _ (a7.rk.c 0) (a7.rk.fz 0)).mono ?_
    rintro e u' w'' ⟨rfl, rfl, rfl⟩
    exact ⟨_, results_tmp rfl _ _ _, rfl, a7.put 0 (.int .i32 0) 0 S.st rfl⟩
end Go.Proofs.Ythmonfmpgjbhmaa.K
