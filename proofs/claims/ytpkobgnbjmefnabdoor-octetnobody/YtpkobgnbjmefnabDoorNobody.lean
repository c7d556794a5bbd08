import Derived.Test.YtpkobgnbjmefnabDoorNobodyW
namespace Go.Proofs.YtpkobgnbjmefnabDoor
open Go.RowKit
set_option linter.unusedVariables false
set_option maxRecDepth 100000

/-- the two boxes of the law's arguments -/
structure Boxes (w : World) (b : Nat) (c0 c1 c2 c3 c4 d0 d1 : Value) : Prop where
  a0 : w.cell? ⟨b, 0, none⟩ = some c0
  a1 : w.cell? ⟨b, 1, none⟩ = some c1
  a2 : w.cell? ⟨b, 2, none⟩ = some c2
  a3 : w.cell? ⟨b, 3, none⟩ = some c3
  a4 : w.cell? ⟨b, 4, none⟩ = some c4
  b0 : w.cell? ⟨b + 1, 0, none⟩ = some d0
  b1 : w.cell? ⟨b + 1, 1, none⟩ = some d1
theorem Boxes.later {w w' : World} {b : Nat} {c0 c1 c2 c3 c4 d0 d1 : Value} (h : Boxes w b c0 c1 c2 c3 c4 d0 d1) (hb : Below w.heap.size w w') : Boxes w' b c0 c1 c2 c3 c4 d0 d1 :=
  ⟨cell_later hb h.a0, cell_later hb h.a1, cell_later hb h.a2, cell_later hb h.a3, cell_later hb h.a4, cell_later hb h.b0, cell_later hb h.b1⟩
theorem boxes_new (w : World) (c0 c1 c2 c3 c4 d0 d1 : Value) (t u : TypeId) : Boxes ((w.alloc (.cells #[c0, c1, c2, c3, c4] t)).alloc (.cells #[d0, d1] u)) w.heap.size c0 c1 c2 c3 c4 d0 d1 := by
  have h1 : ∀ j, (w.alloc (.cells #[c0, c1, c2, c3, c4] t)).cell? ⟨w.heap.size, j, none⟩ = #[c0, c1, c2, c3, c4][j]? := fun j => World.cell?_alloc_mark w _ t (0, 0) j
  have h2 : ∀ j, ((w.alloc (.cells #[c0, c1, c2, c3, c4] t)).alloc (.cells #[d0, d1] u)).cell? ⟨w.heap.size + 1, j, none⟩ = #[d0, d1][j]? := fun j => by
    have := World.cell?_alloc_mark (w.alloc (.cells #[c0, c1, c2, c3, c4] t)) #[d0, d1] u (0, 0) j
    rwa [World.size_alloc] at this
  have hb : Below (w.alloc (.cells #[c0, c1, c2, c3, c4] t)).heap.size (w.alloc (.cells #[c0, c1, c2, c3, c4] t)) ((w.alloc (.cells #[c0, c1, c2, c3, c4] t)).alloc (.cells #[d0, d1] u)) := (Below.refl _ _).alloc (Nat.le_refl _) _
  exact ⟨cell_later hb (h1 0), cell_later hb (h1 1), cell_later hb (h1 2), cell_later hb (h1 3), cell_later hb (h1 4), h2 0, h2 1⟩

set_option maxHeartbeats 4000000 in
theorem nobody_any (c0 c3 d0 : Value) (v : Nat) (n m : Int) (s : ByteArray) (w : World) (hv : v < 18446744073709551616) (hT : Tabs w) :
    Calls Tryd.prog 7 #[.agg #[c0, .int .u64 (v : Int), .int .i64 n, c3, .string s], .agg #[d0, .int .i64 m]] w fun e w' => e = .returned (.bool true) ∧ Below w.heap.size w w' := by
  have HT : Hid (Tabs w) := hT
  clear hT
  have HX : Hid (Boxes (((w.alloc (.cells #[c0, .int .u64 (v : Int), .int .i64 n, c3, .string s] 52)).alloc (.cells #[d0, .int .i64 m] 55)).alloc (.cells #[.bool false, .slice none 0 0] 61)) w.heap.size c0 (.int .u64 (v : Int)) (.int .i64 n) c3 (.string s) d0 (.int .i64 m)) := (boxes_new w _ _ _ _ _ _ _ _ _).later ((Below.refl _ _).alloc (Nat.le_refl _) _)
  have HZ : Hid ((((w.alloc (.cells #[c0, .int .u64 (v : Int), .int .i64 n, c3, .string s] 52)).alloc (.cells #[d0, .int .i64 m] 55)).alloc (.cells #[.bool false, .slice none 0 0] 61)).cell? ⟨w.heap.size + 1 + 1, 0, none⟩ = some (.bool false)) := by
    have := World.cell?_alloc_mark ((w.alloc (.cells #[c0, .int .u64 (v : Int), .int .i64 n, c3, .string s] 52)).alloc (.cells #[d0, .int .i64 m] 55)) #[.bool false, .slice none 0 0] 61 (0, 0) 0
    simp only [World.size_alloc] at this
    exact this
  have HB0 : Hid (Below w.heap.size w (((w.alloc (.cells #[c0, .int .u64 (v : Int), .int .i64 n, c3, .string s] 52)).alloc (.cells #[d0, .int .i64 m] 55)).alloc (.cells #[.bool false, .slice none 0 0] 61))) := (((Below.refl _ _).alloc (Nat.le_refl _) _).alloc (by simp) _).alloc (by simp; omega) _
  have HC1 : Hid (∀ W, Calls Tryd.prog 24 #[.pointer none, .agg #[c0, .int .u64 (v : Int), .int .i64 n, c3, .string s]] W fun e w' => e = .returned (.bool true) ∧ Below W.heap.size W w') := fun W => nobW_any _ c0 c3 v n s W hv (fun o => usable_nil _)
  have HC2 : Hid (∀ W p, W.cell? ⟨p, 0, none⟩ = some (.bool false) → Calls Tryd.prog 24 #[.pointer (some ⟨p, 0, none⟩), .agg #[c0, .int .u64 (v : Int), .int .i64 n, c3, .string s]] W fun e w' => e = .returned (.bool true) ∧ Below W.heap.size W w') := fun W p hp => nobW_any _ c0 c3 v n s W hv (fun o => usable_zero p _ (cell_later ((Below.refl _ _).alloc (Nat.le_refl _) o) hp))
  have HC3 : Hid (∀ W, Calls Tryd.prog 25 #[.pointer none, .agg #[d0, .int .i64 m]] W fun e w' => e = .returned (.bool true) ∧ Below W.heap.size W w') := fun W => nobR_any _ d0 m W (fun o => rusable_nil _)
  have HC4 : Hid (∀ W p, W.cell? ⟨p, 0, none⟩ = some (.bool false) → Calls Tryd.prog 25 #[.pointer (some ⟨p, 0, none⟩), .agg #[d0, .int .i64 m]] W fun e w' => e = .returned (.bool true) ∧ Below W.heap.size W w') := fun W p hp => nobR_any _ d0 m W (fun o => rusable_zero p _ (cell_later ((Below.refl _ _).alloc (Nat.le_refl _) o) hp))
  go_enter Tryd.func7, Tryd.ntmps7
  go_wp2_with fail
  refine (HC1.out _).mono ?_
  rintro e w1 ⟨rfl, hb1⟩
  have HX1 : Hid (Boxes w1 w.heap.size c0 (.int .u64 (v : Int)) (.int .i64 n) c3 (.string s) d0 (.int .i64 m)) := HX.out.later hb1
  have HZ1 : Hid (w1.cell? ⟨w.heap.size + 1 + 1, 0, none⟩ = some (.bool false)) := cell_later hb1 HZ.out
  have HB1 : Hid (Below w.heap.size w w1) := HB0.out.trans (hb1.mono HB0.out.size)
  clear hb1 HX HZ HB0
  have a0 := HX1.out.a0
  have a1 := HX1.out.a1
  have a2 := HX1.out.a2
  have a3 := HX1.out.a3
  have a4 := HX1.out.a4
  go_wp2_with fail
  refine (HC2.out _ _ HZ1.out).mono ?_
  rintro e w2 ⟨rfl, hb2⟩
  have HX2 : Hid (Boxes w2 w.heap.size c0 (.int .u64 (v : Int)) (.int .i64 n) c3 (.string s) d0 (.int .i64 m)) := HX1.out.later hb2
  have HB2 : Hid (Below w.heap.size w w2) := HB1.out.trans (hb2.mono HB1.out.size)
  clear hb2 HX1 HZ1 HB1 a0 a1 a2 a3 a4
  have b0 := HX2.out.b0
  have b1 := HX2.out.b1
  have b0a : ∀ o, (w2.alloc o).cell? ⟨w.heap.size + 1, 0, none⟩ = some d0 := fun o => cell_later ((Below.refl _ _).alloc (Nat.le_refl _) o) b0
  have b1a : ∀ o, (w2.alloc o).cell? ⟨w.heap.size + 1, 1, none⟩ = some (.int .i64 m) := fun o => cell_later ((Below.refl _ _).alloc (Nat.le_refl _) o) b1
  go_wp2_with fail
  refine (HC3.out _).mono ?_
  rintro e w3 ⟨rfl, hb3⟩
  have HX3 : Hid (Boxes w3 w.heap.size c0 (.int .u64 (v : Int)) (.int .i64 n) c3 (.string s) d0 (.int .i64 m)) := (HX2.out.later ((Below.refl _ _).alloc (Nat.le_refl _) _)).later hb3
  have HZ3 : Hid (w3.cell? ⟨w2.heap.size, 0, none⟩ = some (.bool false)) := cell_later hb3 (World.cell?_alloc_mark w2 #[.bool false, .slice none 0 0, .int .i64 0] 64 (0, 0) 0)
  have HB3 : Hid (Below w.heap.size w w3) := (HB2.out.alloc HB2.out.size _).trans (hb3.mono (by have := HB2.out.size; simp; omega))
  clear hb3 b0 b1 b0a b1a HX2
  have b0 := HX3.out.b0
  have b1 := HX3.out.b1
  go_wp2_with fail
  refine (HC4.out _ _ HZ3.out).mono ?_
  rintro e w4 ⟨rfl, hb4⟩
  have HB4 : Hid (Below w.heap.size w w4) := HB3.out.trans (hb4.mono HB3.out.size)
  clear hb4 b0 b1
  go_wp2_with fail
  refine (heads_any w4 (HT.out.later HB4.out)).mono ?_
  rintro e w5 ⟨rfl, hb5⟩
  have HB5 : Hid (Below w.heap.size w w5) := HB4.out.trans (hb5.mono HB4.out.size)
  clear hb5
  go_wp2
  go_ret
  exact ⟨rfl, HB5.out⟩
end Go.Proofs.YtpkobgnbjmefnabDoor
