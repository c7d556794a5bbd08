import Derived.Test.YtckfmpoddmccfaaJK
import Derived.Deep.RegionWith
import Derived.Deep.RegionHeld3
namespace Go.Proofs.Ytckfmpoddmccfaa
open Go.RowKit
set_option linter.unusedVariables false
set_option linter.unusedSimpArgs false
set_option maxRecDepth 100000

set_option maxHeartbeats 400000 in
theorem zeros1_any (x : Nat) (w : World) (hx : x = 0) : Calls Try.prog 123 #[.int .u8 (x : Int)] w fun e w' => e = .returned (.bool false) ∧ w' = w := by
  subst hx
  go_enter Try.func123, Try.ntmps123
  go_wp2
  go_ret
  exact ⟨rfl, rfl⟩
set_option maxHeartbeats 2000000 in
theorem indexFunc_none (ao : Option Addr) (cap n : Nat) (l : List Nat) (w : World) (h : BRow w ao cap l) (HN : Hid (l.length = n)) (hz : ∀ x ∈ l, x = 0) (hn : n ≤ 1000) :
    Calls Try.prog 126 #[.slice ao n cap, .func (.func 123) #[] #[]] w fun e w' => e = .returned (.int .i64 (-1)) ∧ w' = w := by
  have HC : Hid (∀ k, k < n → ∃ b off, ao = some ⟨b, off, none⟩ ∧ w.cell? ⟨b, off + k, none⟩ = some (.int .u8 0)) := fun k hk => by
    have hl := HN.out
    obtain ⟨b, off, e, hc⟩ := h.at_ (by rintro rfl; simp at hl; omega)
    have h1 := hc k (by omega)
    have h0 : l[k]'(by omega) = 0 := hz _ (List.getElem_mem _)
    rw [h0] at h1
    exact ⟨b, off, e, h1⟩
  have HZ : Hid (Calls Try.prog 123 #[.int .u8 0] w fun e w' => e = .returned (.bool false) ∧ w' = w) := zeros1_any 0 w rfl
  clear h hz
  go_enter Try.func126, Try.ntmps126
  go_wp2
  go_loop [8] (fun i => ∃ k : Nat, i = .int .i64 k ∧ k ≤ n) (fun i => n - (intOf i).toNat)
  case atStart => exact ⟨0, rfl, Nat.zero_le _⟩
  case round =>
    obtain ⟨k, rfl, hk⟩ := hrel
    by_cases hlt : k < n
    · obtain ⟨b, off, rfl, z0⟩ := HC.out k hlt
      have hkz : (k : Int) < (n : Int) := by omega
      go_wp2_with fail
      refine HZ.out.mono ?_
      rintro e w9 ⟨rfl, hw⟩
      rw [hw]; clear hw
      go_wp2
      go_round
      case rel => exact ⟨k + 1, by go_num, by omega⟩
      case measure => simp [intOf]; omega
    · obtain rfl : k = n := by omega
      go_wp2
      go_ret
      exact ⟨rfl, rfl⟩
set_option maxHeartbeats 400000 in
theorem containsFunc_none (ao : Option Addr) (cap n : Nat) (l : List Nat) (w : World) (h : BRow w ao cap l) (HN : Hid (l.length = n)) (hz : ∀ x ∈ l, x = 0) (hn : n ≤ 1000) :
    Calls Try.prog 122 #[.slice ao n cap, .func (.func 123) #[] #[]] w fun e w' => e = .returned (.bool false) ∧ w' = w := by
  have HI : Hid (Calls Try.prog 126 #[.slice ao n cap, .func (.func 123) #[] #[]] w fun e w' => e = .returned (.int .i64 (-1)) ∧ w' = w) := indexFunc_none ao cap n l w h HN hz hn
  clear h hz
  go_enter Try.func122, Try.ntmps122
  go_wp2_with fail
  refine HI.out.mono ?_
  rintro e w9 ⟨rfl, hw⟩
  rw [hw]; clear hw
  go_wp2
  go_ret
  exact ⟨rfl, rfl⟩
/-- Raw of what is left -/
theorem raw_rest {w : World} {B h : Nat} {ao : Option Addr} {cap : Nat} {l : List Nat} {at_ : Nat} (H : ROk w B h ao cap l at_) (hl : 0 < l.length) :
    Calls Try.prog 120 #[.pointer (some ⟨h, 0, none⟩), .int .i64 ((l.length : Int) - (at_ : Int))] w fun e w' => ∃ ao' cap', e = .returned (.tuple #[.slice ao' (l.length - at_) cap', .int .i64 0]) ∧ w'.ownsRow w.heap.size 5 1 (.slice ao' (l.length - at_) cap') (l.length - at_) ((l.drop at_).map bv) ∧ RPost w w' B h ao cap l l.length := by
  have hle := H.le
  obtain ⟨g, rfl⟩ := some_of_len H hl
  have := rraw_ok B h g cap l at_ l.length (l.length - at_) w H rfl (by omega)
  rw [show (((l.length - at_ : Nat) : Int)) = (l.length : Int) - (at_ : Int) by omega, show at_ + (l.length - at_) = l.length by omega, List.take_of_length_le (by rw [List.length_drop]; omega)] at this
  exact this
set_option maxHeartbeats 4000000 in
theorem zeros_ok {w W : World} {bs : List (Nat × Obj)} {c r h : Nat} {ao : Option Addr} {cap : Nat} {hl : List Nat} {at_ : Nat} {bh : Value} {ln n : Int} (H : Dec w W bs c r h ao cap hl at_ bh ln n 0) (hl0 : 0 < hl.length) (hln : hl.length ≤ 1000) (hz : ∀ x ∈ hl.drop at_, x = 0) :
    Calls Try.prog 107 #[.pointer (some ⟨r, 0, none⟩)] W fun e W' => e = .returned (.bool true) ∧ Dec w W' bs c r h ao cap hl hl.length bh ln n 0 := by
  have c0 := H.c 0
  simp at c0
  have hle := H.hd.le
  obtain ⟨N, hN⟩ : ∃ N, N = hl.length - at_ := ⟨_, rfl⟩
  have HLf : Hid (∀ q, Calls Try.prog 121 #[.pointer (some ⟨h, 0, none⟩)] (W.drewN q) fun e w' => e = .returned (.int .i64 ((hl.length : Int) - (at_ : Int))) ∧ ∃ q', w' = W.drewN q') := fun q =>
    (rleft_any c h ao cap hl at_ hl.length (W.drewN q) (H.drewN q).hd rfl).mono fun e w' ⟨he, q', hw⟩ => ⟨he, q + q', by rw [hw, World.drewN_drewN]⟩
  have HRw : Hid (∀ q, Calls Try.prog 120 #[.pointer (some ⟨h, 0, none⟩), .int .i64 ((hl.length : Int) - (at_ : Int))] (W.drewN q) fun e w' => ∃ ao' cap', e = .returned (.tuple #[.slice ao' N cap', .int .i64 0]) ∧ BRow w' ao' cap' (hl.drop at_) ∧ Dec w w' bs c r h ao cap hl hl.length bh ln n 0) := fun q => by
    refine (raw_rest (H.drewN q).hd hl0).mono ?_
    rintro e w' ⟨ao', cap', rfl, ho, hp⟩
    rw [← hN] at ho ⊢
    have hlen : (hl.drop at_).length = N := by rw [List.length_drop, hN]
    have ho' : w'.ownsRow W.heap.size 5 1 (.slice ao' (hl.drop at_).length cap') (hl.drop at_).length ((hl.drop at_).map bv) := by rw [hlen]; exact ho
    obtain ⟨ao2, cap2, hv, hb⟩ := BRow.own ho' (fun x hx => H.hd.lt x (List.mem_of_mem_drop hx)) (by rw [hlen]; omega)
    rw [hlen] at hv
    simp only [Value.slice.injEq] at hv
    obtain ⟨rfl, _, rfl⟩ := hv
    exact ⟨_, _, rfl, hb, (H.drewN q).moved hp⟩
  have hlen : (hl.drop at_).length = N := by rw [List.length_drop, hN]
  have HC : Hid (∀ (W' : World) (ao' : Option Addr) (cap' : Nat), BRow W' ao' cap' (hl.drop at_) → Calls Try.prog 122 #[.slice ao' N cap', .func (.func 123) #[] #[]] W' fun e w' => e = .returned (.bool false) ∧ w' = W') := fun W' ao' cap' hb => containsFunc_none ao' cap' N _ W' hb hlen hz (by omega)
  clear H hz hlen hN
  go_enter Try.func107, Try.ntmps107
  go_wp2
  go_region_with (first | (go_at_call 121; refine (HLf.out _).mono ?_; rintro e w9 ⟨rfl, q9, hw9⟩; rw [hw9]; clear hw9) | (go_at_call 120; refine (HRw.out _).mono ?_; rintro e w8 ⟨ao8, cap8, rfl, hb8, h8⟩; have HB8 : Hid (BRow w8 ao8 cap8 (hl.drop at_)) := hb8; have H8 : Hid _ := h8; clear hb8 h8))
  all_goals
    go_wp2_with fail
    refine (HC.out _ _ _ HB8.out).mono ?_
    rintro e w7 ⟨rfl, hw7⟩
    rw [hw7]; clear hw7
    have r4 := H8.out.lb.ce
    go_wp2
    go_ret
    exact ⟨rfl, H8.out⟩
end Go.Proofs.Ytckfmpoddmccfaa
