import Derived.Test.YtpchllepboolhabDS
import Derived.Test.YtpchllepboolhabENIA
import Derived.Test.YtpchllepboolhabENIF
namespace Go.Proofs.Ytpchllepboolhab.D
open Go.RowKit Go.Proofs.Ytpchllepboolhab.I
attribute [local go_sem] Oper.semAt_some
attribute [local go_sem ↓] Go.wp_at_zero Go.wp_at_succ
set_option linter.unusedVariables false
set_option linter.unusedSimpArgs false
set_option maxRecDepth 100000

abbrev Un (p : Option Addr) (W : World) : Prop := A.Un p W
theorem un_Add (p : Option Addr) (k : Int) (W : World) (h : Un p W) : Calls Try.prog 10 #[.pointer p, .int .i64 k] W fun r w' => r = .returned (.bool false) ∧ w' = W := by
  have hf := find_no p (.int .i64 k) W h
  go_enter Try.func10, Try.ntmps10
  go_wp2_with (go_at_call 39; refine hf.mono ?_; rintro e w9 ⟨rfl, hw9⟩; rw [hw9]; clear hw9)
  go_ret
  exact ⟨rfl, rfl⟩
theorem un_Touch (p : Option Addr) (k : Int) (W : World) (h : Un p W) : Calls Try.prog 12 #[.pointer p, .int .i64 k] W fun r w' => r = .returned (.bool false) ∧ w' = W := by
  have hf := find_no p (.int .i64 k) W h
  go_enter Try.func12, Try.ntmps12
  go_wp2_with (go_at_call 39; refine hf.mono ?_; rintro e w9 ⟨rfl, hw9⟩; rw [hw9]; clear hw9)
  go_ret
  exact ⟨rfl, rfl⟩
theorem un_Drop (p : Option Addr) (k : Int) (W : World) (h : Un p W) : Calls Try.prog 14 #[.pointer p, .int .i64 k] W fun r w' => r = .returned (.bool false) ∧ w' = W := by
  have hf := find_no p (.int .i64 k) W h
  go_enter Try.func14, Try.ntmps14
  go_wp2_with (go_at_call 39; refine hf.mono ?_; rintro e w9 ⟨rfl, hw9⟩; rw [hw9]; clear hw9)
  go_ret
  exact ⟨rfl, rfl⟩
theorem un_Pin (p : Option Addr) (k : Int) (W : World) (h : Un p W) : Calls Try.prog 16 #[.pointer p, .int .i64 k] W fun r w' => r = .returned (.bool false) ∧ w' = W := by
  have hf := find_no p (.int .i64 k) W h
  go_enter Try.func16, Try.ntmps16
  go_wp2_with (go_at_call 39; refine hf.mono ?_; rintro e w9 ⟨rfl, hw9⟩; rw [hw9]; clear hw9)
  go_ret
  exact ⟨rfl, rfl⟩
theorem un_Unpin (p : Option Addr) (k : Int) (W : World) (h : Un p W) : Calls Try.prog 18 #[.pointer p, .int .i64 k] W fun r w' => r = .returned (.bool false) ∧ w' = W := by
  have hf := find_no p (.int .i64 k) W h
  go_enter Try.func18, Try.ntmps18
  go_wp2_with (go_at_call 39; refine hf.mono ?_; rintro e w9 ⟨rfl, hw9⟩; rw [hw9]; clear hw9)
  go_ret
  exact ⟨rfl, rfl⟩
theorem un_Has (p : Option Addr) (k : Int) (W : World) (h : Un p W) : Calls Try.prog 24 #[.pointer p, .int .i64 k] W fun r w' => r = .returned (.bool false) ∧ w' = W := by
  have hf := find_no p (.int .i64 k) W h
  go_enter Try.func24, Try.ntmps24
  go_wp2_with (go_at_call 39; refine hf.mono ?_; rintro e w9 ⟨rfl, hw9⟩; rw [hw9]; clear hw9)
  go_ret
  exact ⟨rfl, rfl⟩
theorem un_Pins (p : Option Addr) (k : Int) (W : World) (h : Un p W) : Calls Try.prog 22 #[.pointer p, .int .i64 k] W fun r w' => r = .returned (.int .i64 0) ∧ w' = W := by
  have hf := find_no p (.int .i64 k) W h
  go_enter Try.func22, Try.ntmps22
  go_wp2_with (go_at_call 39; refine hf.mono ?_; rintro e w9 ⟨rfl, hw9⟩; rw [hw9]; clear hw9)
  go_ret
  exact ⟨rfl, rfl⟩
theorem un_Len (p : Option Addr) (W : World) (h : Un p W) : Calls Try.prog 9 #[.pointer p] W fun r w' => r = .returned (.int .i64 0) ∧ w' = W := by
  have hf : Calls Try.prog 38 #[.pointer p] W fun e w' => e = .returned (.bool false) ∧ w' = W := h
  go_enter Try.func9, Try.ntmps9
  go_wp2_with (go_at_call 38; refine hf.mono ?_; rintro e w9 ⟨rfl, hw9⟩; rw [hw9]; clear hw9)
  go_ret
  exact ⟨rfl, rfl⟩
theorem un_Oldest (p : Option Addr) (W : World) (h : ∀ X, Below W.heap.size W X → Un p X) : Calls Try.prog 20 #[.pointer p] W fun r w' => r = .returned (.tuple #[.int .i64 0, .bool false]) ∧ Below W.heap.size W w' := by
  have hmf : ∀ (fn : Fn) (first cap : Array Value) (w : World), (Instr.makeFunc fn first cap).run Try.prog w = .ok (.func fn first cap) w := fun _ _ _ _ => rfl
  have HW : Hid (∀ W0, W0 = (W.alloc (.cells #[.int .i64 0] 3)).alloc (.cells #[.bool false] 4) → ∀ fn fa fb, Calls Try.prog 45 #[.pointer p, .func fn fa fb] W0 fun r w' => r = .returned (.tuple #[]) ∧ w'.cell? ⟨W.heap.size, 0, none⟩ = some (.int .i64 0) ∧ w'.cell? ⟨W.heap.size + 1, 0, none⟩ = some (.bool false) ∧ Below W.heap.size W w') := by
    rintro W0 hW0 fn fa fb
    have hB : Below W.heap.size W W0 := by rw [hW0]; exact ((Below.refl _ W).alloc (Nat.le_refl _) _).alloc (by rw [World.size_alloc]; omega) _
    have s1 : (W.alloc (.cells #[.int .i64 0] 3)).heap.size = W.heap.size + 1 := World.size_alloc _ _
    have b1 : W0.heap[W.heap.size]? = some (.cells #[.int .i64 0] 3 (0, 0)) := by rw [hW0, Below.heap_alloc _ _ _ (by omega), heap_alloc_new]
    have b2 : W0.heap[W.heap.size + 1]? = some (.cells #[.bool false] 4 (0, 0)) := by rw [hW0, ← s1, heap_alloc_new]
    refine (A.walk_no p fn fa fb W0 (h W0 hB)).mono ?_
    rintro r w' ⟨rfl, rfl⟩
    exact ⟨rfl, (cell_of b1).trans rfl, (cell_of b2).trans rfl, hB⟩
  clear h
  go_enter Try.func20, Try.ntmps20
  go_wp2_with (go_at_call 45; refine (HW.out _ rfl _ _ _).mono ?_; rintro r w1 ⟨rfl, hc1, hc2, hb⟩)
  go_region
  all_goals go_wp2
  all_goals go_ret2
  all_goals exact ⟨rfl, hb.trans ⟨rfl, rfl, rfl, Nat.le_refl _, fun _ _ => rfl⟩⟩

set_option maxHeartbeats 16000000 in
theorem told_no {W : World} (p : Option Addr) {bd : Nat} (HU : ∀ X, Below W.heap.size W X → Un p X) (hd : RD W bd false (.slice none 0 0) []) (k : Int) :
    Calls Try.prog 7 #[.pointer p, .pointer (some ⟨bd, 0, none⟩), .int .i64 k] W fun r W' => r = .returned (.bool true) ∧ Below W.heap.size W W' := by
  have bq : ∀ (w : World) (b : Bool), (binOp .eql 4 (.bool b) (.bool b)).run Try.prog w = .ok (.bool true) w := fun w b => by cases b <;> rfl
  have HC : Hid (∀ X, Below W.heap.size W X → X.cell? ⟨bd, 1, none⟩ = some (.slice none 0 0)) := fun X hX => (hd.later hX).c1
  have HOo : Hid (∀ X, Below W.heap.size W X → Calls Try.prog 20 #[.pointer p] X fun r w' => r = .returned (.tuple #[.int .i64 0, .bool false]) ∧ Below X.heap.size X w') := fun X hX => un_Oldest p X fun Y hY => HU Y (hX.trans (hY.mono hX.size))
  have HOd : Hid (∀ X, Below W.heap.size W X → Calls Try.prog 21 #[.pointer (some ⟨bd, 0, none⟩)] X fun r w' => r = .returned (.tuple #[.int .i64 0, .bool false]) ∧ Below X.heap.size X w') := fun X hX => oldest_any (hd.later hX)
  have HPo : Hid (∀ X, Below W.heap.size W X → Calls Try.prog 22 #[.pointer p, .int .i64 k] X fun r w' => r = .returned (.int .i64 0) ∧ w' = X) := fun X hX => un_Pins p k X (HU X hX)
  have HPd : Hid (∀ X, Below W.heap.size W X → Calls Try.prog 23 #[.pointer (some ⟨bd, 0, none⟩), .int .i64 k] X fun r w' => r = .returned (.int .i64 0) ∧ w' = X) := fun X hX => d_pins (hd.later hX) k
  have HHo : Hid (∀ X, Below W.heap.size W X → Calls Try.prog 24 #[.pointer p, .int .i64 k] X fun r w' => r = .returned (.bool false) ∧ w' = X) := fun X hX => un_Has p k X (HU X hX)
  have HHd : Hid (∀ X, Below W.heap.size W X → Calls Try.prog 25 #[.pointer (some ⟨bd, 0, none⟩), .int .i64 k] X fun r w' => r = .returned (.bool false) ∧ w' = X) := fun X hX => d_has (hd.later hX) k
  have HLo : Hid (∀ X, Below W.heap.size W X → Calls Try.prog 9 #[.pointer p] X fun r w' => r = .returned (.int .i64 0) ∧ w' = X) := fun X hX => un_Len p X (HU X hX)
  have HAo : Hid (∀ X, Below W.heap.size W X → Calls Try.prog 27 #[.pointer p] X fun r w' => ∃ a c, r = .returned (.slice a 0 c) ∧ IRow w' a [] ∧ Below X.heap.size X w') := fun X hX => (A.law_none p fun Y hY => HU Y (hX.trans (hY.mono hX.size))).mono fun r w' ⟨h1, h2⟩ => ⟨none, 0, h1, IRow.nil _ _, h2⟩
  have HFo : Hid (∀ X, Below W.heap.size W X → Calls Try.prog 29 #[.pointer p] X fun r w' => ∃ a c, r = .returned (.slice a 0 c) ∧ IRow w' a [] ∧ Below X.heap.size X w') := fun X hX => (F.law_none p fun Y hY => HU Y (hX.trans (hY.mono hX.size))).mono fun r w' ⟨h1, h2⟩ => ⟨none, 0, h1, IRow.nil _ _, h2⟩
  have HAd : Hid (∀ X, Below W.heap.size W X → Calls Try.prog 28 #[.pointer (some ⟨bd, 0, none⟩)] X fun r w' => ∃ a c, r = .returned (.slice a 0 c) ∧ IRow w' a [] ∧ Below X.heap.size X w') := fun X hX => by
    refine (all_any (hd.later hX)).mono ?_
    rintro r w' ⟨v, rfl, ho, hb⟩
    obtain ⟨a, c, rfl, hi⟩ := irow_of (ks := []) ho
    exact ⟨a, c, rfl, hi, hb⟩
  have HFd : Hid (∀ X, Below W.heap.size W X → Calls Try.prog 30 #[.pointer (some ⟨bd, 0, none⟩)] X fun r w' => ∃ a c, r = .returned (.slice a 0 c) ∧ IRow w' a [] ∧ Below X.heap.size X w') := fun X hX => by
    refine (free_any (hd.later hX)).mono ?_
    rintro r w' ⟨v, rfl, ho, hb⟩
    obtain ⟨a, c, rfl, hi⟩ := irow_of (ks := []) ho
    exact ⟨a, c, rfl, hi, hb⟩
  have HSk : Hid (∀ (X : World) (a a' : Option Addr) (c c' : Nat), IRow X a [] → IRow X a' [] → Calls Try.prog 26 #[.slice a 0 c, .slice a' 0 c'] X fun r w' => r = .returned (.bool true) ∧ Below X.heap.size X w') := fun X a a' c c' h1 h2 => by
    refine (same_any a a' c c' [] [] X (by simp) (by simp) h1 h2).mono ?_
    rintro r w' ⟨rfl, q, rfl⟩
    exact ⟨by simp, below_drewN X q⟩
  have HSf := HSk
  have HB0 : Hid (Below W.heap.size W W) := Below.refl _ _
  clear hd HU
  go_enter Try.func7, Try.ntmps7
  go_wp2_with (first | (go_at_call 20; refine (HOo.out _ HB0.out).mono ?_; rintro e w1 ⟨rfl, hb1⟩; have HB1 : Hid (Below W.heap.size W w1) := hb1; clear hb1) | (go_at_call 21; refine (HOd.out _ HB1.out).mono ?_; rintro e w2 ⟨rfl, hb2⟩; have HB2 : Hid (Below W.heap.size W w2.drew) := (by have := HB1.out.trans (hb2.mono HB1.out.size); exact ⟨this.os, this.tape, this.output, this.size, this.block⟩); clear hb2))
  have hcw : w2.cell? ⟨bd, 1, none⟩ = some (.slice none 0 0) := HC.out w2.drew HB2.out
  go_region_held3 (fun w' => w'.cell? ⟨bd, 1, none⟩ = some (.slice none 0 0)) (first | go_keep | exact HC.out _ HB8.out | exact HC.out _ HB7.out | exact HC.out _ HB6.out | exact HC.out _ HB5.out | exact HC.out _ HB4.out | exact HC.out _ HB3.out) (first | (go_at_call 22; refine (HPo.out _ HB2.out).mono ?_; rintro e w9 ⟨rfl, hw9⟩; rw [hw9]; clear hw9) | (go_at_call 23; refine (HPd.out _ HB2.out).mono ?_; rintro e w9 ⟨rfl, hw9⟩; rw [hw9]; clear hw9) | (go_at_call 24; refine (HHo.out _ HB2.out).mono ?_; rintro e w9 ⟨rfl, hw9⟩; rw [hw9]; clear hw9) | (go_at_call 25; refine (HHd.out _ HB2.out).mono ?_; rintro e w9 ⟨rfl, hw9⟩; rw [hw9]; clear hw9) | (go_at_call 9; refine (HLo.out _ HB2.out).mono ?_; rintro e w9 ⟨rfl, hw9⟩; rw [hw9]; clear hw9) | (go_at_call 27; refine (HAo.out _ HB2.out).mono ?_; rintro e w3 ⟨a3, c3, rfl, hi3, hb3⟩; have HB3 : Hid (Below W.heap.size W w3) := HB2.out.trans (hb3.mono HB2.out.size); clear hb3) | (go_at_call 28; refine (HAd.out _ HB3.out).mono ?_; rintro e w4 ⟨a4, c4, rfl, hi4, hb4⟩; have HB4 : Hid (Below W.heap.size W w4) := HB3.out.trans (hb4.mono HB3.out.size); have hs1 := HSk.out w4 a3 a4 c3 c4 (hi3.later hb4) hi4; clear hb4 hi3 hi4) | (go_at_call 26; refine hs2.mono ?_; rintro e w8 ⟨rfl, hb8⟩; have HB8 : Hid (Below W.heap.size W w8) := HB7.out.trans (hb8.mono HB7.out.size); clear hb8) | (go_at_call 26; refine hs1.mono ?_; clear hs1; rintro e w5 ⟨rfl, hb5⟩; have HB5 : Hid (Below W.heap.size W w5) := HB4.out.trans (hb5.mono HB4.out.size); clear hb5) | (go_at_call 29; refine (HFo.out _ HB5.out).mono ?_; rintro e w6 ⟨a6, c6, rfl, hi6, hb6⟩; have HB6 : Hid (Below W.heap.size W w6) := HB5.out.trans (hb6.mono HB5.out.size); clear hb6) | (go_at_call 30; refine (HFd.out _ HB6.out).mono ?_; rintro e w7 ⟨a7, c7, rfl, hi7, hb7⟩; have HB7 : Hid (Below W.heap.size W w7) := HB6.out.trans (hb7.mono HB6.out.size); have hs2 := HSf.out w7 a6 a7 c6 c7 (hi6.later hb7) hi7; clear hb7 hi6 hi7))
  go_wp2
  go_ret
  exact ⟨rfl, HB8.out⟩

set_option maxHeartbeats 8000000 in
theorem play_no {W : World} (p : Option Addr) {bd : Nat} (HU : ∀ X, Below W.heap.size W X → Un p X) (hd : RD W bd false (.slice none 0 0) []) (kind k : Int) :
    Calls Try.prog 6 #[.pointer p, .pointer (some ⟨bd, 0, none⟩), .agg #[.int .i64 kind, .int .i64 k]] W fun r W' => r = .returned (.bool true) ∧ Below W.heap.size W W' := by
  have hbx := heap_alloc_new W (.cells #[.int .i64 kind, .int .i64 k] TAc)
  have hB1 : Below W.heap.size W (W.alloc (.cells #[.int .i64 kind, .int .i64 k] TAc)) := (Below.refl _ W).alloc (Nat.le_refl _) _
  have hB2 : Below W.heap.size W (W.alloc (.cells #[.int .i64 kind, .int .i64 k] TAc)).drew := ⟨hB1.os, hB1.tape, hB1.output, hB1.size, hB1.block⟩
  have x0 : (W.alloc (.cells #[.int .i64 kind, .int .i64 k] TAc)).cell? ⟨W.heap.size, 0, none⟩ = some (.int .i64 kind) := (cell_of hbx).trans rfl
  have x1 : (W.alloc (.cells #[.int .i64 kind, .int .i64 k] TAc)).cell? ⟨W.heap.size, 1, none⟩ = some (.int .i64 k) := (cell_of hbx).trans rfl
  have U := HU _ hB2
  have R := hd.later hB2
  have O1 := un_Add p k _ U
  have O2 := un_Touch p k _ U
  have O3 := un_Drop p k _ U
  have O4 := un_Pin p k _ U
  have O5 := un_Unpin p k _ U
  have D1 := add_unmade R k
  have D2 := touch_no R k (by simp)
  have D3 := drop_no R k (by simp)
  have D4 := pin_no R k (by simp)
  have D5 := unpin_no R k (by simp)
  have HB1 : Hid (Below W.heap.size W (W.alloc (.cells #[.int .i64 kind, .int .i64 k] TAc))) := hB1
  have HB2 : Hid (Below W.heap.size W (W.alloc (.cells #[.int .i64 kind, .int .i64 k] TAc)).drew) := hB2
  clear hd HU U R hB1 hB2 hbx
  by_cases e1 : kind = 1
  · subst e1
    clear O2 D2 O3 D3 O4 D4 O5 D5
    go_enter Try.func6, Try.ntmps6
    go_wp2
    go_region_held3 (fun w' => w'.cell? ⟨W.heap.size, 1, none⟩ = some (.int .i64 k)) (first | go_keep) (first | (go_at_call 10; refine O1.mono ?_; rintro r w2 ⟨rfl, hw2⟩; rw [hw2]; clear hw2) | (go_at_call 11; refine D1.mono ?_; rintro r w3 ⟨rfl, hw3⟩; rw [hw3]; clear hw3))
    go_wp2
    go_ret
    exact ⟨rfl, HB2.out⟩
  by_cases e2 : kind = 2
  · subst e2
    clear O1 D1 O3 D3 O4 D4 O5 D5
    go_enter Try.func6, Try.ntmps6
    go_wp2
    go_region_held3 (fun w' => w'.cell? ⟨W.heap.size, 1, none⟩ = some (.int .i64 k)) (first | go_keep) (first | (go_at_call 12; refine O2.mono ?_; rintro r w2 ⟨rfl, hw2⟩; rw [hw2]; clear hw2) | (go_at_call 13; refine D2.mono ?_; rintro r w3 ⟨rfl, hw3⟩; rw [hw3]; clear hw3))
    go_wp2
    go_ret
    exact ⟨rfl, HB2.out⟩
  by_cases e3 : kind = 3
  · subst e3
    clear O1 D1 O2 D2 O4 D4 O5 D5
    go_enter Try.func6, Try.ntmps6
    go_wp2
    go_region_held3 (fun w' => w'.cell? ⟨W.heap.size, 1, none⟩ = some (.int .i64 k)) (first | go_keep) (first | (go_at_call 14; refine O3.mono ?_; rintro r w2 ⟨rfl, hw2⟩; rw [hw2]; clear hw2) | (go_at_call 15; refine D3.mono ?_; rintro r w3 ⟨rfl, hw3⟩; rw [hw3]; clear hw3))
    go_wp2
    go_ret
    exact ⟨rfl, HB2.out⟩
  by_cases e4 : kind = 4
  · subst e4
    clear O1 D1 O2 D2 O3 D3 O5 D5
    go_enter Try.func6, Try.ntmps6
    go_wp2
    go_region_held3 (fun w' => w'.cell? ⟨W.heap.size, 1, none⟩ = some (.int .i64 k)) (first | go_keep) (first | (go_at_call 16; refine O4.mono ?_; rintro r w2 ⟨rfl, hw2⟩; rw [hw2]; clear hw2) | (go_at_call 17; refine D4.mono ?_; rintro r w3 ⟨rfl, hw3⟩; rw [hw3]; clear hw3))
    go_wp2
    go_ret
    exact ⟨rfl, HB2.out⟩
  by_cases e5 : kind = 5
  · subst e5
    clear O1 D1 O2 D2 O3 D3 O4 D4
    go_enter Try.func6, Try.ntmps6
    go_wp2
    go_region_held3 (fun w' => w'.cell? ⟨W.heap.size, 1, none⟩ = some (.int .i64 k)) (first | go_keep) (first | (go_at_call 18; refine O5.mono ?_; rintro r w2 ⟨rfl, hw2⟩; rw [hw2]; clear hw2) | (go_at_call 19; refine D5.mono ?_; rintro r w3 ⟨rfl, hw3⟩; rw [hw3]; clear hw3))
    go_wp2
    go_ret
    exact ⟨rfl, HB2.out⟩
  have f1 : (kind == 1) = false := by simpa using e1
  have f2 : (kind == 2) = false := by simpa using e2
  have f3 : (kind == 3) = false := by simpa using e3
  have f4 : (kind == 4) = false := by simpa using e4
  have f5 : (kind == 5) = false := by simpa using e5
  clear O1 O2 O3 O4 O5 D1 D2 D3 D4 D5 e1 e2 e3 e4 e5
  go_enter Try.func6, Try.ntmps6
  go_wp2
  go_ret
  exact ⟨rfl, HB1.out⟩

/-- the state of the law -/
def Nb (w W : World) (p : Option Addr) (bd : Nat) : Prop := Below w.heap.size w W ∧ (∀ X, Below W.heap.size W X → Un p X) ∧ RD W bd false (.slice none 0 0) []
theorem Nb.later {w W W' : World} {p : Option Addr} {bd : Nat} (h : Nb w W p bd) (hb : Below W.heap.size W W') : Nb w W' p bd := ⟨h.1.trans (hb.mono h.1.size), fun X hX => h.2.1 X (hb.trans (hX.mono hb.size)), h.2.2.later hb⟩
theorem Nb.play {w W : World} {p : Option Addr} {bd : Nat} (h : Nb w W p bd) (kind k : Int) :
    Calls Try.prog 6 #[.pointer p, .pointer (some ⟨bd, 0, none⟩), .agg #[.int .i64 kind, .int .i64 k]] W fun r W' => r = .returned (.bool true) ∧ Nb w W' p bd :=
  (play_no p h.2.1 h.2.2 kind k).mono fun r W' ⟨h1, h2⟩ => ⟨h1, h.later h2⟩
theorem Nb.told {w W : World} {p : Option Addr} {bd : Nat} (h : Nb w W p bd) (k : Int) :
    Calls Try.prog 7 #[.pointer p, .pointer (some ⟨bd, 0, none⟩), .int .i64 k] W fun r W' => r = .returned (.bool true) ∧ Nb w W' p bd :=
  (told_no p h.2.1 h.2.2 k).mono fun r W' ⟨h1, h2⟩ => ⟨h1, h.later h2⟩
theorem Nb.len {w W : World} {p : Option Addr} {bd : Nat} (h : Nb w W p bd) : Calls Try.prog 9 #[.pointer p] W fun r w' => r = .returned (.int .i64 0) ∧ w' = W := un_Len p W (h.2.1 W (Below.refl _ _))
theorem Nb.nil (w : World) : Nb w (w.alloc (.cells #[.bool false, .slice none 0 0] TDo)) none w.heap.size :=
  ⟨(Below.refl _ w).alloc (Nat.le_refl _) _, fun X _ => usable_nil X, ⟨heap_alloc_new w _, World.ownsRow_nil _ _ _ _, by simp, by simp⟩⟩
theorem Nb.plain (w : World) : Nb w ((w.alloc (.cells #[.map none, .pointer none] TOrd)).alloc (.cells #[.bool false, .slice none 0 0] TDo)) (some ⟨w.heap.size, 0, none⟩) (w.heap.size + 1) := by
  have s1 : (w.alloc (.cells #[.map none, .pointer none] TOrd)).heap.size = w.heap.size + 1 := World.size_alloc _ _
  refine ⟨((Below.refl _ w).alloc (Nat.le_refl _) _).alloc (by omega) _, fun X hX => ?_, ⟨by rw [← s1]; exact heap_alloc_new _ _, World.ownsRow_nil _ _ _ _, by simp, by simp⟩⟩
  have e1 : ((w.alloc (.cells #[.map none, .pointer none] TOrd)).alloc (.cells #[.bool false, .slice none 0 0] TDo)).heap[w.heap.size]? = some (.cells #[.map none, .pointer none] TOrd (0, 0)) := by rw [Below.heap_alloc _ _ _ (by omega), heap_alloc_new]
  have e2 : X.heap[w.heap.size]? = some (.cells #[.map none, .pointer none] TOrd (0, 0)) := (hX.block _ (Array.getElem?_eq_some_iff.1 e1).1).trans e1
  exact usable_plain w.heap.size X ((cell_of e2).trans rfl)

set_option maxHeartbeats 8000000 in
theorem lawNobody_any (ao : Option Addr) (c m : Nat) (l : List Ac) (plain : Bool) (w : World) (HM : Hid (m = l.length)) (hl : m ≤ 8796093022208) (HA : Hid (ARow w ao l)) :
    Calls Try.prog 4 #[.slice ao m c, .bool plain] w fun e w' => e = .returned (.bool true) ∧ Below w.heap.size w w' := by
  cases plain
  · have H0 : Hid (Nb w (w.alloc (.cells #[.bool false, .slice none 0 0] TDo)) none w.heap.size) := Nb.nil w
    go_enter Try.func4, Try.ntmps4
    go_wp2
    go_loopw [7] (fun i wr => ∃ (k : Nat), k ≤ m ∧ i = .int .i64 k ∧ Hid (Nb w wr none w.heap.size)) (fun i _ => m - (intOf i).toNat)
    case atStart => exact ⟨0, Nat.zero_le _, rfl, H0⟩
    case round =>
      obtain ⟨k, hk, rfl, HK⟩ := hrel
      by_cases hlt : k < m
      · obtain ⟨x, hx⟩ : ∃ x, l[k]? = some x := ⟨_, List.getElem?_eq_getElem (by have := HM.out; omega)⟩
        obtain ⟨b, off, rfl, c0, c1⟩ := HA.out.c _ _ hx
        have HC : Hid (∀ W, Below w.heap.size w W → W.cell? ⟨b, off + k * 2, none⟩ = some (.int .i64 x.1) ∧ W.cell? ⟨b, off + k * 2 + 1, none⟩ = some (.int .i64 x.2)) := fun W hW => ⟨cell_later hW c0, cell_later hW c1⟩
        have hcr := HC.out wr HK.out.1
        have hcr0 := hcr.1
        have hcr1 := hcr.2
        have d1 : (k : Int) < (m : Int) := by omega
        have hpl := HK.out.play x.1 x.2
        clear c0 c1 hx hcr
        go_wp2_with (first | (go_at_call 6; refine hpl.mono ?_; rintro e w1 ⟨rfl, h1⟩; have hcw1 := (HC.out w1 h1.1).2; have hto := h1.told x.2; clear h1) | (go_at_call 7; refine hto.mono ?_; rintro e w2 ⟨rfl, h2⟩; have H3 : Hid (Nb w w2 none w.heap.size) := h2; clear h2))
        go_roundw
        case rel => exact ⟨k + 1, by omega, by go_num, H3⟩
        case measure => simp [intOf]; omega
      · have e : k = m := by omega
        subst e
        have hln := HK.out.len
        have HB : Hid (Below w.heap.size w wr) := HK.out.1
        clear HK
        go_wp2_with (first | (go_at_call 9; refine hln.mono ?_; rintro e w9 ⟨rfl, hw9⟩; rw [hw9]; clear hw9) | (go_at_call 8; refine (S.alive_any _).mono ?_; rintro e w4 ⟨rfl, hb4⟩))
        go_ret
        exact ⟨rfl, HB.out.trans (hb4.mono HB.out.size)⟩
  · have H0 : Hid (Nb w ((w.alloc (.cells #[.map none, .pointer none] TOrd)).alloc (.cells #[.bool false, .slice none 0 0] TDo)) (some ⟨w.heap.size, 0, none⟩) (w.heap.size + 1)) := Nb.plain w
    go_enter Try.func4, Try.ntmps4
    go_wp2
    go_loopw [7] (fun i wr => ∃ (k : Nat), k ≤ m ∧ i = .int .i64 k ∧ Hid (Nb w wr (some ⟨w.heap.size, 0, none⟩) (w.heap.size + 1))) (fun i _ => m - (intOf i).toNat)
    case atStart => exact ⟨0, Nat.zero_le _, rfl, H0⟩
    case round =>
      obtain ⟨k, hk, rfl, HK⟩ := hrel
      by_cases hlt : k < m
      · obtain ⟨x, hx⟩ : ∃ x, l[k]? = some x := ⟨_, List.getElem?_eq_getElem (by have := HM.out; omega)⟩
        obtain ⟨b, off, rfl, c0, c1⟩ := HA.out.c _ _ hx
        have HC : Hid (∀ W, Below w.heap.size w W → W.cell? ⟨b, off + k * 2, none⟩ = some (.int .i64 x.1) ∧ W.cell? ⟨b, off + k * 2 + 1, none⟩ = some (.int .i64 x.2)) := fun W hW => ⟨cell_later hW c0, cell_later hW c1⟩
        have hcr := HC.out wr HK.out.1
        have hcr0 := hcr.1
        have hcr1 := hcr.2
        have d1 : (k : Int) < (m : Int) := by omega
        have hpl := HK.out.play x.1 x.2
        clear c0 c1 hx hcr
        go_wp2_with (first | (go_at_call 6; refine hpl.mono ?_; rintro e w1 ⟨rfl, h1⟩; have hcw1 := (HC.out w1 h1.1).2; have hto := h1.told x.2; clear h1) | (go_at_call 7; refine hto.mono ?_; rintro e w2 ⟨rfl, h2⟩; have H3 : Hid (Nb w w2 (some ⟨w.heap.size, 0, none⟩) (w.heap.size + 1)) := h2; clear h2))
        go_roundw
        case rel => exact ⟨k + 1, by omega, by go_num, H3⟩
        case measure => simp [intOf]; omega
      · have e : k = m := by omega
        subst e
        have hln := HK.out.len
        have HB : Hid (Below w.heap.size w wr) := HK.out.1
        clear HK
        go_wp2_with (first | (go_at_call 9; refine hln.mono ?_; rintro e w9 ⟨rfl, hw9⟩; rw [hw9]; clear hw9) | (go_at_call 8; refine (S.alive_any _).mono ?_; rintro e w4 ⟨rfl, hb4⟩))
        go_ret
        exact ⟨rfl, HB.out.trans (hb4.mono HB.out.size)⟩
end Go.Proofs.Ytpchllepboolhab.D
