import Derived.Test.YtckfmpoddmccfaaU22
import Derived.Test.YtckfmpoddmccfaaU12
namespace Go.Proofs.Ytckfmpoddmccfaa
open Go.RowKit
set_option linter.unusedVariables false
set_option linter.unusedSimpArgs false
set_option maxRecDepth 100000
set_option maxHeartbeats 400000 in
theorem zeros1_no (x : Nat) (w : World) (hx : x ≠ 0) : Calls Try.prog 123 #[.int .u8 (x : Int)] w fun e w' => e = .returned (.bool true) ∧ w' = w := by
  have hb : ((x : Int) != 0) = true := by simp; exact hx
  have hb2 : ¬ (x : Int) = 0 := by omega
  go_enter Try.func123, Try.ntmps123
  go_wp2
  go_ret
  exact ⟨by simp [hx], rfl⟩
set_option maxHeartbeats 2000000 in
theorem indexFunc_some (ao : Option Addr) (cap n : Nat) (l : List Nat) (w : World) (h : BRow w ao cap l) (HN : Hid (l.length = n)) (hz : ∃ x ∈ l, x ≠ 0) (hn : n ≤ 1000) :
    Calls Try.prog 126 #[.slice ao n cap, .func (.func 123) #[] #[]] w fun e w' => ∃ k : Nat, e = .returned (.int .i64 k) ∧ w' = w := by
  have HC : Hid (∀ k, k < n → ∃ b off, ao = some ⟨b, off, none⟩ ∧ w.cell? ⟨b, off + k, none⟩ = some (.int .u8 ((l[k]?.getD 0 : Nat) : Int))) := fun k hk => by
    have hl := HN.out
    obtain ⟨b, off, e, hc⟩ := h.at_ (by rintro rfl; simp at hl; omega)
    have h1 := hc k (by omega)
    rw [List.getElem?_eq_getElem (by omega)]
    exact ⟨b, off, e, h1⟩
  have HZ : Hid (Calls Try.prog 123 #[.int .u8 0] w fun e w' => e = .returned (.bool false) ∧ w' = w) := zeros1_any 0 w rfl
  have HY : Hid (∀ x : Nat, x ≠ 0 → Calls Try.prog 123 #[.int .u8 (x : Int)] w fun e w' => e = .returned (.bool true) ∧ w' = w) := fun x hx => zeros1_no x w hx
  have HE : Hid (∃ x ∈ l, x ≠ 0) := hz
  clear h hz
  go_enter Try.func126, Try.ntmps126
  go_wp2
  go_loop [8] (fun i => ∃ k : Nat, i = .int .i64 k ∧ k ≤ n ∧ Hid (∀ j, j < k → l[j]?.getD 0 = 0)) (fun i => n - (intOf i).toNat)
  case atStart => exact ⟨0, rfl, Nat.zero_le _, fun j hj => by omega⟩
  case round =>
    obtain ⟨k, rfl, hk, HJ⟩ := hrel
    by_cases hlt : k < n
    · obtain ⟨b, off, rfl, z0⟩ := HC.out k hlt
      have hkz : (k : Int) < (n : Int) := by omega
      by_cases hx : l[k]?.getD 0 = 0
      · rw [hx] at z0
        have HX : Hid (l[k]?.getD 0 = 0) := hx
        clear hx
        go_wp2_with fail
        refine HZ.out.mono ?_
        rintro e w9 ⟨rfl, hw⟩
        rw [hw]; clear hw
        go_wp2
        go_round
        case rel =>
          refine ⟨k + 1, by go_num, by omega, fun j hj => ?_⟩
          by_cases e : j = k
          · rw [e]; exact HX.out
          · exact HJ.out j (by omega)
        case measure => simp [intOf]; omega
      · obtain ⟨x, hxe⟩ : ∃ x, l[k]?.getD 0 = x := ⟨_, rfl⟩
        rw [hxe] at z0 hx
        have HX : Hid (x ≠ 0) := hx
        clear hxe hx
        go_wp2_with fail
        refine (HY.out x HX.out).mono ?_
        rintro e w9 ⟨rfl, hw⟩
        rw [hw]; clear hw
        go_wp2
        go_ret
        exact ⟨k, rfl, rfl⟩
    · exfalso
      obtain ⟨x, hx, hx0⟩ := HE.out
      obtain ⟨j, hj, rfl⟩ := List.getElem_of_mem hx
      have h1 := HJ.out j (by have := HN.out; omega)
      rw [List.getElem?_eq_getElem hj] at h1
      exact hx0 h1
set_option maxHeartbeats 400000 in
theorem containsFunc_some (ao : Option Addr) (cap n : Nat) (l : List Nat) (w : World) (h : BRow w ao cap l) (HN : Hid (l.length = n)) (hz : ∃ x ∈ l, x ≠ 0) (hn : n ≤ 1000) :
    Calls Try.prog 122 #[.slice ao n cap, .func (.func 123) #[] #[]] w fun e w' => e = .returned (.bool true) ∧ w' = w := by
  have HI : Hid (Calls Try.prog 126 #[.slice ao n cap, .func (.func 123) #[] #[]] w fun e w' => ∃ k : Nat, e = .returned (.int .i64 k) ∧ w' = w) := indexFunc_some ao cap n l w h HN hz hn
  clear h hz
  go_enter Try.func122, Try.ntmps122
  go_wp2_with fail
  refine HI.out.mono ?_
  rintro e w9 ⟨k, rfl, hw⟩
  rw [hw]; clear hw
  have hk : (0 : Int) ≤ (k : Int) := by omega
  go_wp2
  go_ret
  exact ⟨by simp, rfl⟩
set_option maxHeartbeats 4000000 in
theorem zeros_bad {w W : World} {bs : List (Nat × Obj)} {c r h : Nat} {ao : Option Addr} {cap : Nat} {hl : List Nat} {at_ : Nat} {bh : Value} {ln n : Int} (H : Dec w W bs c r h ao cap hl at_ bh ln n 0) (hl0 : 0 < hl.length) (hln : hl.length ≤ 1000) (hz : ∃ x ∈ hl.drop at_, x ≠ 0) :
    Calls Try.prog 107 #[.pointer (some ⟨r, 0, none⟩)] W fun e W' => e = .returned (.bool false) ∧ Dec w W' bs c r h ao cap hl hl.length bh ln 0 81 := by
  have c0 := H.c 0
  simp at c0
  have hle := H.hd.le
  obtain ⟨N, hN⟩ : ∃ N, N = hl.length - at_ := ⟨_, rfl⟩
  have HLf : Hid (∀ q, Calls Try.prog 121 #[.pointer (some ⟨h, 0, none⟩)] (W.drewN q) fun e w' => e = .returned (.int .i64 ((hl.length : Int) - (at_ : Int))) ∧ ∃ q', w' = W.drewN q') := fun q =>
    (rleft_any c h ao cap hl at_ hl.length (W.drewN q) (H.drewN q).hd rfl).mono fun e w' ⟨he, q', hw⟩ => ⟨he, q + q', by rw [hw, World.drewN_drewN]⟩
  have HRw : Hid (∀ q, Calls Try.prog 120 #[.pointer (some ⟨h, 0, none⟩), .int .i64 ((hl.length : Int) - (at_ : Int))] (W.drewN q) fun e w' => ∃ ao' cap', e = .returned (.tuple #[.slice ao' N cap', .int .i64 0]) ∧ BRow w' ao' cap' (hl.drop at_) ∧ Dec w w' bs c r h ao cap hl hl.length bh ln n 0) := fun q => by
    refine (raw_rest (H.drewN q).hd hl0).mono ?_
    rintro e w' ⟨ao', cap', rfl, ho, hp⟩
    rw [← hN] at ho ⊢
    have hlen : (hl.drop at_).length = N := by rw [List.length_drop, hN]
    have ho' : w'.ownsRow W.heap.size 5 1 (.slice ao' (hl.drop at_).length cap') (hl.drop at_).length ((hl.drop at_).map bv) := by rw [hlen]; exact ho
    obtain ⟨ao2, cap2, hv, hb⟩ := BRow.own ho' (fun x hx => H.hd.lt x (List.mem_of_mem_drop hx)) (by rw [hlen]; omega)
    rw [hlen] at hv
    simp only [Value.slice.injEq] at hv
    obtain ⟨rfl, _, rfl⟩ := hv
    exact ⟨_, _, rfl, hb, (H.drewN q).moved hp⟩
  have hlen : (hl.drop at_).length = N := by rw [List.length_drop, hN]
  have HC : Hid (∀ (W' : World) (ao' : Option Addr) (cap' : Nat), BRow W' ao' cap' (hl.drop at_) → Calls Try.prog 122 #[.slice ao' N cap', .func (.func 123) #[] #[]] W' fun e w' => e = .returned (.bool true) ∧ w' = W') := fun W' ao' cap' hb => containsFunc_some ao' cap' N _ W' hb hlen hz (by omega)
  clear H hz hlen hN
  go_enter Try.func107, Try.ntmps107
  go_wp2
  go_region_with (first | (go_at_call 121; refine (HLf.out _).mono ?_; rintro e w9 ⟨rfl, q9, hw9⟩; rw [hw9]; clear hw9) | (go_at_call 120; refine (HRw.out _).mono ?_; rintro e w8 ⟨ao8, cap8, rfl, hb8, h8⟩; have HB8 : Hid (BRow w8 ao8 cap8 (hl.drop at_)) := hb8; have H8 : Hid _ := h8; clear hb8 h8))
  all_goals
    go_wp2_with fail
    refine (HC.out _ _ _ HB8.out).mono ?_
    rintro e w7 ⟨rfl, hw7⟩
    rw [hw7]; clear hw7
    go_wp2_with fail
    refine (refuse_any H8.out 81).mono ?_
    rintro e w6 ⟨rfl, h6⟩
    have H6 : Hid _ := h6
    clear h6 HB8
    have r4 := H6.out.lb.ce
    go_wp2
    go_ret
    exact ⟨rfl, H6.out⟩
set_option maxHeartbeats 2000000 in
theorem nil_left (W : World) : Calls Try.prog 121 #[.pointer none] W fun e W' => e = .returned (.int .i64 0) ∧ W' = W := by
  have HU : Hid (Calls Try.prog 125 #[.pointer none] W fun e W' => e = .returned (.bool false) ∧ W' = W) := by
    show Calls _ _ _ _ _
    go_enter Try.func125, Try.ntmps125
    go_wp2
    go_ret
    exact ⟨rfl, rfl⟩
  go_enter Try.func121, Try.ntmps121
  go_wp2_with fail
  refine HU.out.mono ?_
  rintro e w9 ⟨rfl, hw⟩
  rw [hw]; clear hw
  go_wp2
  go_ret
  exact ⟨rfl, rfl⟩
set_option maxHeartbeats 2000000 in
theorem nil_raw (W : World) : Calls Try.prog 120 #[.pointer none, .int .i64 0] W fun e W' => e = .returned (.tuple #[.slice none 0 0, .int .i64 1]) ∧ W' = W := by
  have HU : Hid (Calls Try.prog 125 #[.pointer none] W fun e W' => e = .returned (.bool false) ∧ W' = W) := by
    show Calls _ _ _ _ _
    go_enter Try.func125, Try.ntmps125
    go_wp2
    go_ret
    exact ⟨rfl, rfl⟩
  go_enter Try.func120, Try.ntmps120
  go_wp2_with fail
  refine HU.out.mono ?_
  rintro e w9 ⟨rfl, hw⟩
  rw [hw]; clear hw
  go_wp2
  go_ret2
  exact ⟨rfl, rfl⟩
set_option maxHeartbeats 2000000 in
theorem nh_zeros {W : World} {r : Nat} {n : Int} (H : Nh W r n) : Calls Try.prog 107 #[.pointer (some ⟨r, 0, none⟩)] W fun e W' => e = .returned (.bool false) ∧ ∃ q, W' = W.drewN q := by
  have c0 := H.c 0
  have c4 := H.c 4
  simp at c0 c4
  have HLf : Hid (∀ q, Calls Try.prog 121 #[.pointer none] (W.drewN q) fun e w' => e = .returned (.int .i64 0) ∧ w' = W.drewN q) := fun q => nil_left _
  have HRw : Hid (∀ q, Calls Try.prog 120 #[.pointer none, .int .i64 0] (W.drewN q) fun e w' => e = .returned (.tuple #[.slice none 0 0, .int .i64 1]) ∧ w' = W.drewN q) := fun q => nil_raw _
  have HC : Hid (∀ W' : World, Calls Try.prog 122 #[.slice none 0 0, .func (.func 123) #[] #[]] W' fun e w' => e = .returned (.bool false) ∧ w' = W') := fun W' => containsFunc_none none 0 0 [] W' ⟨by simp, by simp, fun _ => ⟨rfl, rfl⟩, fun h => absurd rfl h⟩ rfl (by simp) (by decide)
  clear H
  go_enter Try.func107, Try.ntmps107
  go_wp2
  go_quiet (first | (go_at_call 121; exact Calls.quiet_of_same (HLf.out _)) | (go_at_call 120; exact Calls.quiet_of_same (HRw.out _)) | fail)
  go_wp2_with fail
  refine (HC.out _).mono ?_
  rintro e w7 ⟨rfl, hw7⟩
  rw [hw7]; clear hw7
  go_wp2
  go_ret
  exact ⟨rfl, _, rfl⟩
end Go.Proofs.Ytckfmpoddmccfaa
namespace Go.Proofs.Ytckfmpoddmccfaa
open Go.RowKit
set_option linter.unusedVariables false
set_option linter.unusedSimpArgs false
set_option maxRecDepth 100000
theorem Lb.putS {w W : World} {t : TypeId} {x y z z' : Array Value} {r : Nat} {n er : Int} (H : Lb w W (bx3 w t x y z) r n er) (j : Nat) (v : Value) (hz : z.setIfInBounds j v = z') : Lb w (W.setCell ⟨w.heap.size + 1 + 1, j, none⟩ v) (bx3 w t x y z') r n er := by
  have hs := H.box _ (.tail _ (.tail _ (.head _)))
  have h0 := H.box _ (.head _)
  have h1 := H.box _ (.tail _ (.head _))
  refine ⟨below_set H.bel hs.2.1, ?_, ?_, ?_⟩
  · intro e he
    simp only [List.mem_cons, List.not_mem_nil, or_false] at he
    rcases he with rfl | rfl | rfl
    · exact ⟨(Below.heap_setCell _ _ _ _ (by show w.heap.size ≠ w.heap.size + 1 + 1; omega)).trans h0.1, h0.2⟩
    · exact ⟨(Below.heap_setCell _ _ _ _ (by show w.heap.size + 1 ≠ w.heap.size + 1 + 1; omega)).trans h1.1, h1.2⟩
    · exact ⟨put_box hs.1 j v hz, hs.2⟩
  · rw [World.cell?_setCell_far _ _ _ _ (show w.heap.size + 1 + 1 ≠ r from hs.2.2)]; exact H.cn
  · rw [World.cell?_setCell_far _ _ _ _ (show w.heap.size + 1 + 1 ≠ r from hs.2.2)]; exact H.ce
theorem Lb.drewN {w W : World} {bs : List (Nat × Obj)} {r : Nat} {n er : Int} (H : Lb w W bs r n er) (q : Nat) : Lb w (W.drewN q) bs r n er :=
  ⟨H.bel.trans ⟨rfl, rfl, rfl, Nat.le_refl _, fun _ _ => rfl⟩, H.box, H.cn, H.ce⟩
set_option maxHeartbeats 4000000 in
theorem decExport0_short (ao : Option Addr) (cap n : Nat)  (w : World) (h : n < 10) :
    Calls Try.prog 75 #[.slice ao n cap, .bool false] w fun e w' => e = .returned (.tuple #[.agg #[.int .u64 0, .int .u16 0], .int .i64 10, .int .i64 10]) ∧ Below w.heap.size w w' := by
  obtain ⟨W0, hW0⟩ : ∃ W0, W0 = (((w.alloc (.cells #[.int .u64 0, .int .u16 0] 96)).alloc (.cells #[.int .u64 0, .int .u16 0] 96)).alloc (.cells #[.int .u64 0, .int .u16 0] 96)) := ⟨_, rfl⟩
  obtain ⟨W1, hW1⟩ : ∃ W1, W1 = W0.alloc (nhO 10) := ⟨_, rfl⟩
  have HO : Hid (Calls Try.prog 99 #[.slice ao n cap, .int .i64 10] W0 fun e W' => e = .returned (.pointer (some ⟨W0.heap.size, 0, none⟩)) ∧ W' = W1) := by rw [hW1]; exact open_short ao cap n 10 W0 h (by decide)
  have hN : Nh W1 W0.heap.size 10 := ⟨by rw [hW1]; exact heap_new W0 _⟩
  have HL : Hid (Lb w W1 (bx3 w 96 #[.int .u64 0, .int .u16 0] #[.int .u64 0, .int .u16 0] #[.int .u64 0, .int .u16 0]) W0.heap.size 10 10) := by rw [hW1, hW0]; exact lb_short (bx3_bel w _ _ _) (bx3_new w _ _ _ _) 10
  have HH : Hid (∀ W : World, Calls Try.prog 106 #[.bool false] W fun e W' => e = .returned (.int .i64 10) ∧ W' = W) := fun W => by
    go_enter Try.func106, Try.ntmps106
    go_wp2
    go_ret
    exact ⟨rfl, rfl⟩
  have HU0 : Hid (Calls Try.prog 102 #[.pointer (some ⟨W0.heap.size, 0, none⟩)] W1 fun e W' => e = .returned (.int .u64 0) ∧ W' = W1) := nh_u64 hN
  have HU1 : Hid (Calls Try.prog 103 #[.pointer (some ⟨W0.heap.size, 0, none⟩)] W1 fun e W' => e = .returned (.int .u16 0) ∧ W' = W1) := nh_u16 hN
  have HL2 : Hid (Lb w ((W1.setCell ⟨w.heap.size + 1 + 1, 0, none⟩ (.int .u64 0)).setCell ⟨w.heap.size + 1 + 1, 1, none⟩ (.int .u16 0)) (bx3 w 96 #[.int .u64 0, .int .u16 0] #[.int .u64 0, .int .u16 0] #[.int .u64 0, .int .u16 0]) W0.heap.size 10 10) := (HL.out.putS 0 (.int .u64 0) (z' := #[.int .u64 0, .int .u16 0]) rfl).putS 1 (.int .u16 0) rfl
  have hN2 : Nh ((W1.setCell ⟨w.heap.size + 1 + 1, 0, none⟩ (.int .u64 0)).setCell ⟨w.heap.size + 1 + 1, 1, none⟩ (.int .u16 0)) W0.heap.size 10 := ⟨by
    have hne : W0.heap.size ≠ w.heap.size + 1 + 1 := (HL.out.box _ (.tail _ (.tail _ (.head _)))).2.2.symm
    rw [Below.heap_setCell _ _ _ _ hne, Below.heap_setCell _ _ _ _ hne]; exact hN.blk⟩
  have HU2 : Hid (Calls Try.prog 107 #[.pointer (some ⟨W0.heap.size, 0, none⟩)] ((W1.setCell ⟨w.heap.size + 1 + 1, 0, none⟩ (.int .u64 0)).setCell ⟨w.heap.size + 1 + 1, 1, none⟩ (.int .u16 0)) fun e W' => e = .returned (.bool false) ∧ ∃ q, W' = ((W1.setCell ⟨w.heap.size + 1 + 1, 0, none⟩ (.int .u64 0)).setCell ⟨w.heap.size + 1 + 1, 1, none⟩ (.int .u16 0)).drewN q) := nh_zeros hN2
  obtain ⟨s0, t0⟩ := HL.out.b (.tail _ (.tail _ (.head _))) 0
  obtain ⟨s1, t1⟩ := HL.out.b (.tail _ (.tail _ (.head _))) 1
  simp at s0 s1
  clear hN2
  clear hN hW1
  generalize hr : W0.heap.size = r at *
  clear hr
  go_enter Try.func75, Try.ntmps75
  go_wp2
  refine wp_scope_jumps 0 (fun a W => ∃ (x0 x1 x2 x3 x5 x6 x8 x10 x11 x12 x13 x14 x15 x16 x17 x18 x19 x20 x21 x22 x23 x24 x25 x26 x27 x28 x29 x30 x31 x32 : Value) (r : Nat) (zz : Array Value), a = { tmps := #[x0, x1, x2, x3, .pointer (some ⟨w.heap.size, 0, none⟩), x5, x6, .pointer (some ⟨w.heap.size + 1, 0, none⟩), x8, .pointer (some ⟨r, 0, none⟩), x10, x11, x12, x13, x14, x15, x16, x17, x18, x19, x20, x21, x22, x23, x24, x25, x26, x27, x28, x29, x30, x31, x32], defers := [] } ∧ Hid (Lb w W (bx3 w 96 #[.int .u64 0, .int .u16 0] #[.int .u64 0, .int .u16 0] zz) r 10 10)) (fun _ _ => 0) rfl ?first ?pass
  case first =>
    go_wp2_with fail
    refine (HH.out _).mono ?_
    rintro e W9 ⟨rfl, hw⟩
    rw [hw]; clear hw HH
    go_wp2_with fail
    rw [← hW0]
    clear hW0
    refine HO.out.mono ?_
    rintro e W9 ⟨rfl, hw⟩
    rw [hw]; clear hw HO
    go_wp2_with fail
    refine HU0.out.mono ?_
    rintro e W9 ⟨rfl, hw⟩
    rw [hw]; clear hw HU0
    go_wp2_with fail
    refine HU1.out.mono ?_
    rintro e W9 ⟨rfl, hw⟩
    rw [hw]; clear hw HU1
    go_wp2_with fail
    refine HU2.out.mono ?_
    rintro e W9 ⟨rfl, q9, hw⟩
    rw [hw]; clear hw HU2 s0 t0 s1 t1
    have HL3 : Hid _ := HL2.out.drewN q9
    go_wp2
    go_step3
    exact ⟨rfl, _, _, _, _, _, _, _, _, _, _, _, _, _, _, _, _, _, _, _, _, _, _, _, _, _, _, _, _, _, _, _, _, rfl, HL3⟩
  case pass =>
    clear HL HL2 HO hW0 s0 t0 s1 t1 HU0 HU1 HU2 HH
    rintro a W ⟨x0, x1, x2, x3, x5, x6, x8, x10, x11, x12, x13, x14, x15, x16, x17, x18, x19, x20, x21, x22, x23, x24, x25, x26, x27, x28, x29, x30, x31, x32, r, zz, rfl, HL⟩
    have hn1 : ¬ (w.heap.size = r) := (HL.out.box _ (.head _)).2.2
    have hn2 : ¬ (r = w.heap.size) := fun e => hn1 e.symm
    have r3 := HL.out.cn
    have r4 := HL.out.ce
    obtain ⟨c00, f00⟩ := HL.out.b (.head _) 0
    obtain ⟨c10, f10⟩ := HL.out.b (.tail _ (.head _)) 0
    obtain ⟨c01, f01⟩ := HL.out.b (.head _) 1
    obtain ⟨c11, f11⟩ := HL.out.b (.tail _ (.head _)) 1
    simp at c00 c10 c01 c11
    go_wp2
    go_region
    all_goals
      go_wp2
      rw [jump_ret]
      obtain ⟨HG, HB2⟩ := closeb2 (HL.out.box _ (.head _)).1 HL.out.bel (.int .u64 0) (.int .u16 0)
      clear HL
      generalize ((W.setCell ⟨w.heap.size, 0, none⟩ (.int .u64 0)).setCell ⟨w.heap.size, 1, none⟩ (.int .u16 0)).drew = Wz at HG HB2 ⊢
      exact bodyPost_ret (results_cell_tmp2 rfl _ Wz w.heap.size 96 #[.int .u64 0, .int .u16 0] (0, 0) _ rfl HG Try.underlying96 rfl infoExp) rfl ⟨rfl, HB2⟩
set_option maxHeartbeats 4000000 in
theorem decExport1_short (ao : Option Addr) (cap n : Nat)  (w : World) (h : n < 134) :
    Calls Try.prog 75 #[.slice ao n cap, .bool true] w fun e w' => e = .returned (.tuple #[.agg #[.int .u64 0, .int .u16 0], .int .i64 134, .int .i64 10]) ∧ Below w.heap.size w w' := by
  obtain ⟨W0, hW0⟩ : ∃ W0, W0 = (((w.alloc (.cells #[.int .u64 0, .int .u16 0] 96)).alloc (.cells #[.int .u64 0, .int .u16 0] 96)).alloc (.cells #[.int .u64 0, .int .u16 0] 96)) := ⟨_, rfl⟩
  obtain ⟨W1, hW1⟩ : ∃ W1, W1 = W0.alloc (nhO 134) := ⟨_, rfl⟩
  have HO : Hid (Calls Try.prog 99 #[.slice ao n cap, .int .i64 134] W0 fun e W' => e = .returned (.pointer (some ⟨W0.heap.size, 0, none⟩)) ∧ W' = W1) := by rw [hW1]; exact open_short ao cap n 134 W0 h (by decide)
  have hN : Nh W1 W0.heap.size 134 := ⟨by rw [hW1]; exact heap_new W0 _⟩
  have HL : Hid (Lb w W1 (bx3 w 96 #[.int .u64 0, .int .u16 0] #[.int .u64 0, .int .u16 0] #[.int .u64 0, .int .u16 0]) W0.heap.size 134 10) := by rw [hW1, hW0]; exact lb_short (bx3_bel w _ _ _) (bx3_new w _ _ _ _) 134
  have HH : Hid (∀ W : World, Calls Try.prog 106 #[.bool true] W fun e W' => e = .returned (.int .i64 134) ∧ W' = W) := fun W => by
    go_enter Try.func106, Try.ntmps106
    go_wp2
    go_ret
    exact ⟨rfl, rfl⟩
  have HU0 : Hid (Calls Try.prog 102 #[.pointer (some ⟨W0.heap.size, 0, none⟩)] W1 fun e W' => e = .returned (.int .u64 0) ∧ W' = W1) := nh_u64 hN
  have HU1 : Hid (Calls Try.prog 103 #[.pointer (some ⟨W0.heap.size, 0, none⟩)] W1 fun e W' => e = .returned (.int .u16 0) ∧ W' = W1) := nh_u16 hN
  have HL2 : Hid (Lb w ((W1.setCell ⟨w.heap.size + 1 + 1, 0, none⟩ (.int .u64 0)).setCell ⟨w.heap.size + 1 + 1, 1, none⟩ (.int .u16 0)) (bx3 w 96 #[.int .u64 0, .int .u16 0] #[.int .u64 0, .int .u16 0] #[.int .u64 0, .int .u16 0]) W0.heap.size 134 10) := (HL.out.putS 0 (.int .u64 0) (z' := #[.int .u64 0, .int .u16 0]) rfl).putS 1 (.int .u16 0) rfl
  have hN2 : Nh ((W1.setCell ⟨w.heap.size + 1 + 1, 0, none⟩ (.int .u64 0)).setCell ⟨w.heap.size + 1 + 1, 1, none⟩ (.int .u16 0)) W0.heap.size 134 := ⟨by
    have hne : W0.heap.size ≠ w.heap.size + 1 + 1 := (HL.out.box _ (.tail _ (.tail _ (.head _)))).2.2.symm
    rw [Below.heap_setCell _ _ _ _ hne, Below.heap_setCell _ _ _ _ hne]; exact hN.blk⟩
  have HU2 : Hid (Calls Try.prog 107 #[.pointer (some ⟨W0.heap.size, 0, none⟩)] ((W1.setCell ⟨w.heap.size + 1 + 1, 0, none⟩ (.int .u64 0)).setCell ⟨w.heap.size + 1 + 1, 1, none⟩ (.int .u16 0)) fun e W' => e = .returned (.bool false) ∧ ∃ q, W' = ((W1.setCell ⟨w.heap.size + 1 + 1, 0, none⟩ (.int .u64 0)).setCell ⟨w.heap.size + 1 + 1, 1, none⟩ (.int .u16 0)).drewN q) := nh_zeros hN2
  obtain ⟨s0, t0⟩ := HL.out.b (.tail _ (.tail _ (.head _))) 0
  obtain ⟨s1, t1⟩ := HL.out.b (.tail _ (.tail _ (.head _))) 1
  simp at s0 s1
  clear hN2
  clear hN hW1
  generalize hr : W0.heap.size = r at *
  clear hr
  go_enter Try.func75, Try.ntmps75
  go_wp2
  refine wp_scope_jumps 0 (fun a W => ∃ (x0 x1 x2 x3 x5 x6 x8 x10 x11 x12 x13 x14 x15 x16 x17 x18 x19 x20 x21 x22 x23 x24 x25 x26 x27 x28 x29 x30 x31 x32 : Value) (r : Nat) (zz : Array Value), a = { tmps := #[x0, x1, x2, x3, .pointer (some ⟨w.heap.size, 0, none⟩), x5, x6, .pointer (some ⟨w.heap.size + 1, 0, none⟩), x8, .pointer (some ⟨r, 0, none⟩), x10, x11, x12, x13, x14, x15, x16, x17, x18, x19, x20, x21, x22, x23, x24, x25, x26, x27, x28, x29, x30, x31, x32], defers := [] } ∧ Hid (Lb w W (bx3 w 96 #[.int .u64 0, .int .u16 0] #[.int .u64 0, .int .u16 0] zz) r 134 10)) (fun _ _ => 0) rfl ?first ?pass
  case first =>
    go_wp2_with fail
    refine (HH.out _).mono ?_
    rintro e W9 ⟨rfl, hw⟩
    rw [hw]; clear hw HH
    go_wp2_with fail
    rw [← hW0]
    clear hW0
    refine HO.out.mono ?_
    rintro e W9 ⟨rfl, hw⟩
    rw [hw]; clear hw HO
    go_wp2_with fail
    refine HU0.out.mono ?_
    rintro e W9 ⟨rfl, hw⟩
    rw [hw]; clear hw HU0
    go_wp2_with fail
    refine HU1.out.mono ?_
    rintro e W9 ⟨rfl, hw⟩
    rw [hw]; clear hw HU1
    go_wp2_with fail
    refine HU2.out.mono ?_
    rintro e W9 ⟨rfl, q9, hw⟩
    rw [hw]; clear hw HU2 s0 t0 s1 t1
    have HL3 : Hid _ := HL2.out.drewN q9
    go_wp2
    go_step3
    exact ⟨rfl, _, _, _, _, _, _, _, _, _, _, _, _, _, _, _, _, _, _, _, _, _, _, _, _, _, _, _, _, _, _, _, _, rfl, HL3⟩
  case pass =>
    clear HL HL2 HO hW0 s0 t0 s1 t1 HU0 HU1 HU2 HH
    rintro a W ⟨x0, x1, x2, x3, x5, x6, x8, x10, x11, x12, x13, x14, x15, x16, x17, x18, x19, x20, x21, x22, x23, x24, x25, x26, x27, x28, x29, x30, x31, x32, r, zz, rfl, HL⟩
    have hn1 : ¬ (w.heap.size = r) := (HL.out.box _ (.head _)).2.2
    have hn2 : ¬ (r = w.heap.size) := fun e => hn1 e.symm
    have r3 := HL.out.cn
    have r4 := HL.out.ce
    obtain ⟨c00, f00⟩ := HL.out.b (.head _) 0
    obtain ⟨c10, f10⟩ := HL.out.b (.tail _ (.head _)) 0
    obtain ⟨c01, f01⟩ := HL.out.b (.head _) 1
    obtain ⟨c11, f11⟩ := HL.out.b (.tail _ (.head _)) 1
    simp at c00 c10 c01 c11
    go_wp2
    go_region
    all_goals
      go_wp2
      rw [jump_ret]
      obtain ⟨HG, HB2⟩ := closeb2 (HL.out.box _ (.head _)).1 HL.out.bel (.int .u64 0) (.int .u16 0)
      clear HL
      generalize ((W.setCell ⟨w.heap.size, 0, none⟩ (.int .u64 0)).setCell ⟨w.heap.size, 1, none⟩ (.int .u16 0)).drew = Wz at HG HB2 ⊢
      exact bodyPost_ret (results_cell_tmp2 rfl _ Wz w.heap.size 96 #[.int .u64 0, .int .u16 0] (0, 0) _ rfl HG Try.underlying96 rfl infoExp) rfl ⟨rfl, HB2⟩
end Go.Proofs.Ytckfmpoddmccfaa
namespace Go.Proofs.Ytckfmpoddmccfaa
open Go.RowKit
set_option linter.unusedVariables false
set_option linter.unusedSimpArgs false
set_option maxRecDepth 100000
set_option maxHeartbeats 8000000 in
theorem decExport0_form (b off cap n : Nat) (l : List Nat)  (w : World) (h : CRow w (some ⟨b, off, none⟩) cap l) (HN : Hid (l.length = n)) (hs : 10 ≤ n) (HZ : Hid (∃ x ∈ (l.take 10).drop 10, x ≠ 0)) :
    Calls Try.prog 75 #[.slice (some ⟨b, off, none⟩) n cap, .bool false] w fun e w' => e = .returned (.tuple #[.agg #[.int .u64 0, .int .u16 0], .int .i64 0, .int .i64 81]) ∧ Below w.heap.size w w' := by
  obtain ⟨s, HX0⟩ : ∃ s, Hid (valB ((l.drop 0).take 8) = s) := ⟨_, rfl⟩
  obtain ⟨f, HX1⟩ : ∃ f, Hid (valB ((l.drop 8).take 2) = f) := ⟨_, rfl⟩
  have HXs : Hid (∀ W : World, Calls Try.prog 106 #[.bool false] W fun e W' => e = .returned (.int .i64 10) ∧ W' = W) := fun W => by
    go_enter Try.func106, Try.ntmps106
    go_wp2
    go_ret
    exact ⟨rfl, rfl⟩
  have hnl := h.row.len
  rw [HN.out] at hnl
  have hsl : 10 ≤ l.length := by rw [HN.out]; exact hs
  have HC : Hid (CRow w (some ⟨b, off, none⟩) cap l) := h
  obtain ⟨W0, hW0⟩ : ∃ W0, W0 = (((w.alloc (.cells #[.int .u64 0, .int .u16 0] 96)).alloc (.cells #[.int .u64 0, .int .u16 0] 96)).alloc (.cells #[.int .u64 0, .int .u16 0] 96)) := ⟨_, rfl⟩
  have HO : Hid (Calls Try.prog 99 #[.slice (some ⟨b, off, none⟩) n cap, .int .i64 10] W0 fun e W' => ∃ r hh ao' cap' a2 c2, e = .returned (.pointer (some ⟨r, 0, none⟩)) ∧ Dec w W' (bx3 w 96 #[.int .u64 0, .int .u16 0] #[.int .u64 0, .int .u16 0] #[.int .u64 0, .int .u16 0]) W0.heap.size r hh ao' cap' (l.take 10) 0 (.slice (some a2) (n - 10) c2) 0 10 0 ∧ n - 10 ≤ c2 ∧ c2 ≤ 9223372036854775807 ∧ (n - 10 ≠ 0 → a2 = ⟨b, off + 10, none⟩)) := by
    rw [hW0]; exact open_ok b off cap n 10 l (bx3_bel w _ _ _) (bx3_new w _ _ _ _) (bx3_nd w _ _ _ _) (h.later (bx3_bel w _ _ _)) HN hs (by decide) (by decide)
  clear h
  go_enter Try.func75, Try.ntmps75
  go_wp2
  refine wp_scope_jumps 0 (fun a W => ∃ (x0 x1 x2 x3 x5 x6 x8 x10 x11 x12 x13 x14 x15 x16 x17 x18 x19 x20 x21 x22 x23 x24 x25 x26 x27 x28 x29 x30 x31 x32 : Value) (r : Nat) (zz : Array Value), a = { tmps := #[x0, x1, x2, x3, .pointer (some ⟨w.heap.size, 0, none⟩), x5, x6, .pointer (some ⟨w.heap.size + 1, 0, none⟩), x8, .pointer (some ⟨r, 0, none⟩), x10, x11, x12, x13, x14, x15, x16, x17, x18, x19, x20, x21, x22, x23, x24, x25, x26, x27, x28, x29, x30, x31, x32], defers := [] } ∧ Hid (Lb w W (bx3 w 96 #[.int .u64 0, .int .u16 0] #[.int .u64 0, .int .u16 0] zz) r 0 81)) (fun _ _ => 0) rfl ?first ?pass
  case first =>
    go_wp2_with fail
    refine (HXs.out _).mono ?_
    rintro e W9 ⟨rfl, hw9⟩
    rw [hw9]; clear hw9
    go_wp2_with fail
    rw [← hW0]
    clear hW0
    refine HO.out.mono ?_
    rintro e W1 ⟨r, hh, ao', cap', a2, c2, rfl, h1, hc1, hc2, ha2⟩
    have H1 : Hid _ := h1
    have HA : Hid _ := ha2
    clear h1 HO ha2
    go_wp2_with fail
    refine (rx_u64 H1.out s HX0.out (by decide) hsl).mono ?_
    rintro e W2 ⟨rfl, hx⟩
    have H2 : Hid _ := hx
    clear hx H1
    go_wp2_with fail
    refine (rx_u16 H2.out f HX1.out (by decide) hsl).mono ?_
    rintro e W3 ⟨rfl, hx⟩
    have H3 : Hid _ := hx
    clear hx H2
    obtain ⟨s0, u0⟩ := H3.out.b (.tail _ (.tail _ (.head _))) 0
    simp at s0
    obtain ⟨s1, u1⟩ := H3.out.b (.tail _ (.tail _ (.head _))) 1
    simp at s1
    go_wp2_with fail
    replace H3 : Hid _ := H3.out.putS 0 (.int .u64 (s : Int)) #[.int .u64 (s : Int), .int .u16 0] rfl
    replace H3 : Hid _ := H3.out.putS 1 (.int .u16 (f : Int)) #[.int .u64 (s : Int), .int .u16 (f : Int)] rfl
    refine (zeros_bad H3.out (by rw [List.length_take]; omega) (by rw [List.length_take]; omega) HZ.out).mono ?_
    rintro e W4 ⟨rfl, hx⟩
    have H4 : Hid _ := hx
    clear hx H3 s0 u0 s1 u1
    go_wp2
    go_step3
    exact ⟨rfl, _, _, _, _, _, _, _, _, _, _, _, _, _, _, _, _, _, _, _, _, _, _, _, _, _, _, _, _, _, _, _, _, rfl, H4.out.lb⟩
  case pass =>
    clear HO HC hW0 HXs
    rintro a W ⟨x0, x1, x2, x3, x5, x6, x8, x10, x11, x12, x13, x14, x15, x16, x17, x18, x19, x20, x21, x22, x23, x24, x25, x26, x27, x28, x29, x30, x31, x32, r, zz, rfl, HL⟩
    have hn1 : ¬ (w.heap.size = r) := (HL.out.box _ (.head _)).2.2
    have hn2 : ¬ (r = w.heap.size) := fun e => hn1 e.symm
    have r3 := HL.out.cn
    have r4 := HL.out.ce
    obtain ⟨c00, f00⟩ := HL.out.b (.head _) 0
    obtain ⟨c10, f10⟩ := HL.out.b (.tail _ (.head _)) 0
    obtain ⟨c01, f01⟩ := HL.out.b (.head _) 1
    obtain ⟨c11, f11⟩ := HL.out.b (.tail _ (.head _)) 1
    simp at c00 c10 c01 c11
    go_wp2
    go_region
    all_goals
      go_wp2
      rw [jump_ret]
      obtain ⟨HG, HB2⟩ := closeb2 (HL.out.box _ (.head _)).1 HL.out.bel (.int .u64 0) (.int .u16 0)
      clear HL
      generalize ((W.setCell ⟨w.heap.size, 0, none⟩ (.int .u64 0)).setCell ⟨w.heap.size, 1, none⟩ (.int .u16 0)).drew = Wz at HG HB2 ⊢
      exact bodyPost_ret (results_cell_tmp2 rfl _ Wz w.heap.size 96 #[.int .u64 0, .int .u16 0] (0, 0) _ rfl HG Try.underlying96 rfl infoExp) rfl ⟨rfl, HB2⟩
set_option maxHeartbeats 8000000 in
theorem decExport1_form (b off cap n : Nat) (l : List Nat)  (w : World) (h : CRow w (some ⟨b, off, none⟩) cap l) (HN : Hid (l.length = n)) (hs : 134 ≤ n) (HZ : Hid (∃ x ∈ (l.take 134).drop 10, x ≠ 0)) :
    Calls Try.prog 75 #[.slice (some ⟨b, off, none⟩) n cap, .bool true] w fun e w' => e = .returned (.tuple #[.agg #[.int .u64 0, .int .u16 0], .int .i64 0, .int .i64 81]) ∧ Below w.heap.size w w' := by
  obtain ⟨s, HX0⟩ : ∃ s, Hid (valB ((l.drop 0).take 8) = s) := ⟨_, rfl⟩
  obtain ⟨f, HX1⟩ : ∃ f, Hid (valB ((l.drop 8).take 2) = f) := ⟨_, rfl⟩
  have HXs : Hid (∀ W : World, Calls Try.prog 106 #[.bool true] W fun e W' => e = .returned (.int .i64 134) ∧ W' = W) := fun W => by
    go_enter Try.func106, Try.ntmps106
    go_wp2
    go_ret
    exact ⟨rfl, rfl⟩
  have hnl := h.row.len
  rw [HN.out] at hnl
  have hsl : 134 ≤ l.length := by rw [HN.out]; exact hs
  have HC : Hid (CRow w (some ⟨b, off, none⟩) cap l) := h
  obtain ⟨W0, hW0⟩ : ∃ W0, W0 = (((w.alloc (.cells #[.int .u64 0, .int .u16 0] 96)).alloc (.cells #[.int .u64 0, .int .u16 0] 96)).alloc (.cells #[.int .u64 0, .int .u16 0] 96)) := ⟨_, rfl⟩
  have HO : Hid (Calls Try.prog 99 #[.slice (some ⟨b, off, none⟩) n cap, .int .i64 134] W0 fun e W' => ∃ r hh ao' cap' a2 c2, e = .returned (.pointer (some ⟨r, 0, none⟩)) ∧ Dec w W' (bx3 w 96 #[.int .u64 0, .int .u16 0] #[.int .u64 0, .int .u16 0] #[.int .u64 0, .int .u16 0]) W0.heap.size r hh ao' cap' (l.take 134) 0 (.slice (some a2) (n - 134) c2) 0 134 0 ∧ n - 134 ≤ c2 ∧ c2 ≤ 9223372036854775807 ∧ (n - 134 ≠ 0 → a2 = ⟨b, off + 134, none⟩)) := by
    rw [hW0]; exact open_ok b off cap n 134 l (bx3_bel w _ _ _) (bx3_new w _ _ _ _) (bx3_nd w _ _ _ _) (h.later (bx3_bel w _ _ _)) HN hs (by decide) (by decide)
  clear h
  go_enter Try.func75, Try.ntmps75
  go_wp2
  refine wp_scope_jumps 0 (fun a W => ∃ (x0 x1 x2 x3 x5 x6 x8 x10 x11 x12 x13 x14 x15 x16 x17 x18 x19 x20 x21 x22 x23 x24 x25 x26 x27 x28 x29 x30 x31 x32 : Value) (r : Nat) (zz : Array Value), a = { tmps := #[x0, x1, x2, x3, .pointer (some ⟨w.heap.size, 0, none⟩), x5, x6, .pointer (some ⟨w.heap.size + 1, 0, none⟩), x8, .pointer (some ⟨r, 0, none⟩), x10, x11, x12, x13, x14, x15, x16, x17, x18, x19, x20, x21, x22, x23, x24, x25, x26, x27, x28, x29, x30, x31, x32], defers := [] } ∧ Hid (Lb w W (bx3 w 96 #[.int .u64 0, .int .u16 0] #[.int .u64 0, .int .u16 0] zz) r 0 81)) (fun _ _ => 0) rfl ?first ?pass
  case first =>
    go_wp2_with fail
    refine (HXs.out _).mono ?_
    rintro e W9 ⟨rfl, hw9⟩
    rw [hw9]; clear hw9
    go_wp2_with fail
    rw [← hW0]
    clear hW0
    refine HO.out.mono ?_
    rintro e W1 ⟨r, hh, ao', cap', a2, c2, rfl, h1, hc1, hc2, ha2⟩
    have H1 : Hid _ := h1
    have HA : Hid _ := ha2
    clear h1 HO ha2
    go_wp2_with fail
    refine (rx_u64 H1.out s HX0.out (by decide) hsl).mono ?_
    rintro e W2 ⟨rfl, hx⟩
    have H2 : Hid _ := hx
    clear hx H1
    go_wp2_with fail
    refine (rx_u16 H2.out f HX1.out (by decide) hsl).mono ?_
    rintro e W3 ⟨rfl, hx⟩
    have H3 : Hid _ := hx
    clear hx H2
    obtain ⟨s0, u0⟩ := H3.out.b (.tail _ (.tail _ (.head _))) 0
    simp at s0
    obtain ⟨s1, u1⟩ := H3.out.b (.tail _ (.tail _ (.head _))) 1
    simp at s1
    go_wp2_with fail
    replace H3 : Hid _ := H3.out.putS 0 (.int .u64 (s : Int)) #[.int .u64 (s : Int), .int .u16 0] rfl
    replace H3 : Hid _ := H3.out.putS 1 (.int .u16 (f : Int)) #[.int .u64 (s : Int), .int .u16 (f : Int)] rfl
    refine (zeros_bad H3.out (by rw [List.length_take]; omega) (by rw [List.length_take]; omega) HZ.out).mono ?_
    rintro e W4 ⟨rfl, hx⟩
    have H4 : Hid _ := hx
    clear hx H3 s0 u0 s1 u1
    go_wp2
    go_step3
    exact ⟨rfl, _, _, _, _, _, _, _, _, _, _, _, _, _, _, _, _, _, _, _, _, _, _, _, _, _, _, _, _, _, _, _, _, rfl, H4.out.lb⟩
  case pass =>
    clear HO HC hW0 HXs
    rintro a W ⟨x0, x1, x2, x3, x5, x6, x8, x10, x11, x12, x13, x14, x15, x16, x17, x18, x19, x20, x21, x22, x23, x24, x25, x26, x27, x28, x29, x30, x31, x32, r, zz, rfl, HL⟩
    have hn1 : ¬ (w.heap.size = r) := (HL.out.box _ (.head _)).2.2
    have hn2 : ¬ (r = w.heap.size) := fun e => hn1 e.symm
    have r3 := HL.out.cn
    have r4 := HL.out.ce
    obtain ⟨c00, f00⟩ := HL.out.b (.head _) 0
    obtain ⟨c10, f10⟩ := HL.out.b (.tail _ (.head _)) 0
    obtain ⟨c01, f01⟩ := HL.out.b (.head _) 1
    obtain ⟨c11, f11⟩ := HL.out.b (.tail _ (.head _)) 1
    simp at c00 c10 c01 c11
    go_wp2
    go_region
    all_goals
      go_wp2
      rw [jump_ret]
      obtain ⟨HG, HB2⟩ := closeb2 (HL.out.box _ (.head _)).1 HL.out.bel (.int .u64 0) (.int .u16 0)
      clear HL
      generalize ((W.setCell ⟨w.heap.size, 0, none⟩ (.int .u64 0)).setCell ⟨w.heap.size, 1, none⟩ (.int .u16 0)).drew = Wz at HG HB2 ⊢
      exact bodyPost_ret (results_cell_tmp2 rfl _ Wz w.heap.size 96 #[.int .u64 0, .int .u16 0] (0, 0) _ rfl HG Try.underlying96 rfl infoExp) rfl ⟨rfl, HB2⟩
end Go.Proofs.Ytckfmpoddmccfaa
