import Derived.Test.YtckfmpoddmccfaaJN
namespace Go.Proofs.Ytckfmpoddmccfaa
open Go.RowKit
set_option linter.unusedVariables false
set_option linter.unusedSimpArgs false
set_option maxRecDepth 100000
set_option maxHeartbeats 400000 in
theorem zeros1_no (x : Nat) (w : World) (hx : x ≠ 0) : Calls Try.prog 123 #[.int .u8 (x : Int)] w fun e w' => e = .returned (.bool true) ∧ w' = w := by
  have hb : ((x : Int) != 0) = true := by simp; exact hx
  have hb2 : ¬ (x : Int) = 0 := by omega
  go_enter Try.func123, Try.ntmps123
  go_wp2
  go_ret
  exact ⟨by simp [hx], rfl⟩
set_option maxHeartbeats 2000000 in
theorem indexFunc_some (ao : Option Addr) (cap n : Nat) (l : List Nat) (w : World) (h : BRow w ao cap l) (HN : Hid (l.length = n)) (hz : ∃ x ∈ l, x ≠ 0) (hn : n ≤ 1000) :
    Calls Try.prog 126 #[.slice ao n cap, .func (.func 123) #[] #[]] w fun e w' => ∃ k : Nat, e = .returned (.int .i64 k) ∧ w' = w := by
  have HC : Hid (∀ k, k < n → ∃ b off, ao = some ⟨b, off, none⟩ ∧ w.cell? ⟨b, off + k, none⟩ = some (.int .u8 ((l[k]?.getD 0 : Nat) : Int))) := fun k hk => by
    have hl := HN.out
    obtain ⟨b, off, e, hc⟩ := h.at_ (by rintro rfl; simp at hl; omega)
    have h1 := hc k (by omega)
    rw [List.getElem?_eq_getElem (by omega)]
    exact ⟨b, off, e, h1⟩
  have HZ : Hid (Calls Try.prog 123 #[.int .u8 0] w fun e w' => e = .returned (.bool false) ∧ w' = w) := zeros1_any 0 w rfl
  have HY : Hid (∀ x : Nat, x ≠ 0 → Calls Try.prog 123 #[.int .u8 (x : Int)] w fun e w' => e = .returned (.bool true) ∧ w' = w) := fun x hx => zeros1_no x w hx
  have HE : Hid (∃ x ∈ l, x ≠ 0) := hz
  clear h hz
  go_enter Try.func126, Try.ntmps126
  go_wp2
  go_loop [8] (fun i => ∃ k : Nat, i = .int .i64 k ∧ k ≤ n ∧ Hid (∀ j, j < k → l[j]?.getD 0 = 0)) (fun i => n - (intOf i).toNat)
  case atStart => exact ⟨0, rfl, Nat.zero_le _, fun j hj => by omega⟩
  case round =>
    obtain ⟨k, rfl, hk, HJ⟩ := hrel
    by_cases hlt : k < n
    · obtain ⟨b, off, rfl, z0⟩ := HC.out k hlt
      have hkz : (k : Int) < (n : Int) := by omega
      by_cases hx : l[k]?.getD 0 = 0
      · rw [hx] at z0
        have HX : Hid (l[k]?.getD 0 = 0) := hx
        clear hx
        go_wp2_with fail
        refine HZ.out.mono ?_
        rintro e w9 ⟨rfl, hw⟩
        rw [hw]; clear hw
        go_wp2
        go_round
        case rel =>
          refine ⟨k + 1, by go_num, by omega, fun j hj => ?_⟩
          by_cases e : j = k
          · rw [e]; exact HX.out
          · exact HJ.out j (by omega)
        case measure => simp [intOf]; omega
      · obtain ⟨x, hxe⟩ : ∃ x, l[k]?.getD 0 = x := ⟨_, rfl⟩
        rw [hxe] at z0 hx
        have HX : Hid (x ≠ 0) := hx
        clear hxe hx
        go_wp2_with fail
        refine (HY.out x HX.out).mono ?_
        rintro e w9 ⟨rfl, hw⟩
        rw [hw]; clear hw
        go_wp2
        go_ret
        exact ⟨k, rfl, rfl⟩
    · exfalso
      obtain ⟨x, hx, hx0⟩ := HE.out
      obtain ⟨j, hj, rfl⟩ := List.getElem_of_mem hx
      have h1 := HJ.out j (by have := HN.out; omega)
      rw [List.getElem?_eq_getElem hj] at h1
      exact hx0 h1
set_option maxHeartbeats 400000 in
theorem containsFunc_some (ao : Option Addr) (cap n : Nat) (l : List Nat) (w : World) (h : BRow w ao cap l) (HN : Hid (l.length = n)) (hz : ∃ x ∈ l, x ≠ 0) (hn : n ≤ 1000) :
    Calls Try.prog 122 #[.slice ao n cap, .func (.func 123) #[] #[]] w fun e w' => e = .returned (.bool true) ∧ w' = w := by
  have HI : Hid (Calls Try.prog 126 #[.slice ao n cap, .func (.func 123) #[] #[]] w fun e w' => ∃ k : Nat, e = .returned (.int .i64 k) ∧ w' = w) := indexFunc_some ao cap n l w h HN hz hn
  clear h hz
  go_enter Try.func122, Try.ntmps122
  go_wp2_with fail
  refine HI.out.mono ?_
  rintro e w9 ⟨k, rfl, hw⟩
  rw [hw]; clear hw
  have hk : (0 : Int) ≤ (k : Int) := by omega
  go_wp2
  go_ret
  exact ⟨by simp, rfl⟩
set_option maxHeartbeats 4000000 in
theorem zeros_bad {w W : World} {bs : List (Nat × Obj)} {c r h : Nat} {ao : Option Addr} {cap : Nat} {hl : List Nat} {at_ : Nat} {bh : Value} {ln n : Int} (H : Dec w W bs c r h ao cap hl at_ bh ln n 0) (hl0 : 0 < hl.length) (hln : hl.length ≤ 1000) (hz : ∃ x ∈ hl.drop at_, x ≠ 0) :
    Calls Try.prog 107 #[.pointer (some ⟨r, 0, none⟩)] W fun e W' => e = .returned (.bool false) ∧ Dec w W' bs c r h ao cap hl hl.length bh ln 0 81 := by
  have c0 := H.c 0
  simp at c0
  have hle := H.hd.le
  obtain ⟨N, hN⟩ : ∃ N, N = hl.length - at_ := ⟨_, rfl⟩
  have HLf : Hid (∀ q, Calls Try.prog 121 #[.pointer (some ⟨h, 0, none⟩)] (W.drewN q) fun e w' => e = .returned (.int .i64 ((hl.length : Int) - (at_ : Int))) ∧ ∃ q', w' = W.drewN q') := fun q =>
    (rleft_any c h ao cap hl at_ hl.length (W.drewN q) (H.drewN q).hd rfl).mono fun e w' ⟨he, q', hw⟩ => ⟨he, q + q', by rw [hw, World.drewN_drewN]⟩
  have HRw : Hid (∀ q, Calls Try.prog 120 #[.pointer (some ⟨h, 0, none⟩), .int .i64 ((hl.length : Int) - (at_ : Int))] (W.drewN q) fun e w' => ∃ ao' cap', e = .returned (.tuple #[.slice ao' N cap', .int .i64 0]) ∧ BRow w' ao' cap' (hl.drop at_) ∧ Dec w w' bs c r h ao cap hl hl.length bh ln n 0) := fun q => by
    refine (raw_rest (H.drewN q).hd hl0).mono ?_
    rintro e w' ⟨ao', cap', rfl, ho, hp⟩
    rw [← hN] at ho ⊢
    have hlen : (hl.drop at_).length = N := by rw [List.length_drop, hN]
    have ho' : w'.ownsRow W.heap.size 5 1 (.slice ao' (hl.drop at_).length cap') (hl.drop at_).length ((hl.drop at_).map bv) := by rw [hlen]; exact ho
    obtain ⟨ao2, cap2, hv, hb⟩ := BRow.own ho' (fun x hx => H.hd.lt x (List.mem_of_mem_drop hx)) (by rw [hlen]; omega)
    rw [hlen] at hv
    simp only [Value.slice.injEq] at hv
    obtain ⟨rfl, _, rfl⟩ := hv
    exact ⟨_, _, rfl, hb, (H.drewN q).moved hp⟩
  have hlen : (hl.drop at_).length = N := by rw [List.length_drop, hN]
  have HC : Hid (∀ (W' : World) (ao' : Option Addr) (cap' : Nat), BRow W' ao' cap' (hl.drop at_) → Calls Try.prog 122 #[.slice ao' N cap', .func (.func 123) #[] #[]] W' fun e w' => e = .returned (.bool true) ∧ w' = W') := fun W' ao' cap' hb => containsFunc_some ao' cap' N _ W' hb hlen hz (by omega)
  clear H hz hlen hN
  go_enter Try.func107, Try.ntmps107
  go_wp2
  go_region_with (first | (go_at_call 121; refine (HLf.out _).mono ?_; rintro e w9 ⟨rfl, q9, hw9⟩; rw [hw9]; clear hw9) | (go_at_call 120; refine (HRw.out _).mono ?_; rintro e w8 ⟨ao8, cap8, rfl, hb8, h8⟩; have HB8 : Hid (BRow w8 ao8 cap8 (hl.drop at_)) := hb8; have H8 : Hid _ := h8; clear hb8 h8))
  all_goals
    go_wp2_with fail
    refine (HC.out _ _ _ HB8.out).mono ?_
    rintro e w7 ⟨rfl, hw7⟩
    rw [hw7]; clear hw7
    go_wp2_with fail
    refine (refuse_any H8.out 81).mono ?_
    rintro e w6 ⟨rfl, h6⟩
    have H6 : Hid _ := h6
    clear h6 HB8
    have r4 := H6.out.lb.ce
    go_wp2
    go_ret
    exact ⟨rfl, H6.out⟩
set_option maxHeartbeats 2000000 in
theorem nil_left (W : World) : Calls Try.prog 121 #[.pointer none] W fun e W' => e = .returned (.int .i64 0) ∧ W' = W := by
  have HU : Hid (Calls Try.prog 125 #[.pointer none] W fun e W' => e = .returned (.bool false) ∧ W' = W) := by
    show Calls _ _ _ _ _
    go_enter Try.func125, Try.ntmps125
    go_wp2
    go_ret
    exact ⟨rfl, rfl⟩
  go_enter Try.func121, Try.ntmps121
  go_wp2_with fail
  refine HU.out.mono ?_
  rintro e w9 ⟨rfl, hw⟩
  rw [hw]; clear hw
  go_wp2
  go_ret
  exact ⟨rfl, rfl⟩
set_option maxHeartbeats 2000000 in
theorem nil_raw (W : World) : Calls Try.prog 120 #[.pointer none, .int .i64 0] W fun e W' => e = .returned (.tuple #[.slice none 0 0, .int .i64 1]) ∧ W' = W := by
  have HU : Hid (Calls Try.prog 125 #[.pointer none] W fun e W' => e = .returned (.bool false) ∧ W' = W) := by
    show Calls _ _ _ _ _
    go_enter Try.func125, Try.ntmps125
    go_wp2
    go_ret
    exact ⟨rfl, rfl⟩
  go_enter Try.func120, Try.ntmps120
  go_wp2_with fail
  refine HU.out.mono ?_
  rintro e w9 ⟨rfl, hw⟩
  rw [hw]; clear hw
  go_wp2
  go_ret2
  exact ⟨rfl, rfl⟩
set_option maxHeartbeats 2000000 in
theorem nh_zeros {W : World} {r : Nat} {n : Int} (H : Nh W r n) : Calls Try.prog 107 #[.pointer (some ⟨r, 0, none⟩)] W fun e W' => e = .returned (.bool false) ∧ ∃ q, W' = W.drewN q := by
  have c0 := H.c 0
  have c4 := H.c 4
  simp at c0 c4
  have HLf : Hid (∀ q, Calls Try.prog 121 #[.pointer none] (W.drewN q) fun e w' => e = .returned (.int .i64 0) ∧ w' = W.drewN q) := fun q => nil_left _
  have HRw : Hid (∀ q, Calls Try.prog 120 #[.pointer none, .int .i64 0] (W.drewN q) fun e w' => e = .returned (.tuple #[.slice none 0 0, .int .i64 1]) ∧ w' = W.drewN q) := fun q => nil_raw _
  have HC : Hid (∀ W' : World, Calls Try.prog 122 #[.slice none 0 0, .func (.func 123) #[] #[]] W' fun e w' => e = .returned (.bool false) ∧ w' = W') := fun W' => containsFunc_none none 0 0 [] W' ⟨by simp, by simp, fun _ => ⟨rfl, rfl⟩, fun h => absurd rfl h⟩ rfl (by simp) (by decide)
  clear H
  go_enter Try.func107, Try.ntmps107
  go_wp2
  go_quiet (first | (go_at_call 121; exact Calls.quiet_of_same (HLf.out _)) | (go_at_call 120; exact Calls.quiet_of_same (HRw.out _)) | fail)
  go_wp2_with fail
  refine (HC.out _).mono ?_
  rintro e w7 ⟨rfl, hw7⟩
  rw [hw7]; clear hw7
  go_wp2
  go_ret
  exact ⟨rfl, _, rfl⟩
end Go.Proofs.Ytckfmpoddmccfaa
