import Derived.Test.YtfifaaopdhcaaaaGreatDoorY10
namespace Go.Proofs.YtfifaaopdhcaaaaGreatDoor
open Go.RowKit
set_option linter.unusedVariables false
set_option linter.unusedSimpArgs false
set_option maxRecDepth 100000

set_option maxHeartbeats 400000 in
/-- of a head that is not there -/
theorem nh_magic {W : World} {r : Nat} {n : Int} (H : Nh W r n) (x m : Int) : Calls Tryz.prog 83 #[.pointer (some ⟨r, 0, none⟩), .int .u64 x, .int .u64 m] W fun e W' => e = .returned (.bool false) ∧ W' = W := by
  have c4 := H.c 4
  simp at c4
  clear H
  go_enter Tryz.func83, Tryz.ntmps83
  go_wp2
  go_ret
  exact ⟨rfl, rfl⟩
set_option maxHeartbeats 400000 in
theorem measure_long {w W : World} {bs : List (Nat × Obj)} {c r h : Nat} {ao : Option Addr} {cap : Nat} {hl : List Nat} {at_ : Nat} {bh : Value} {ln n : Int} (H : Dec w W bs c r h ao cap hl at_ bh ln n 0) (len most : Nat) (hm4 : most < 4294967296) (hl4 : most < len) (hl64 : len < 18446744073709551616) :
    Calls Tryz.prog 86 #[.pointer (some ⟨r, 0, none⟩), .int .u64 (len : Int), .int .u32 (most : Int)] W fun e W' => e = .returned (.bool true) ∧ Dec w W' bs c r h ao cap hl at_ bh ln n 12 := by
  have c4 := H.c 4
  have f4 := H.f 4
  simp at c4
  have t0 : decide ((most : Int) < (len : Int)) = true := by simp; omega
  have H1 : Hid _ := H.turn 4 (.int .i64 12) (er' := 12) rfl
  have c4' := H1.out.c 4
  simp at c4'
  clear H
  go_enter Tryz.func86, Tryz.ntmps86
  go_wp2
  go_ret
  exact ⟨rfl, H1.out⟩
set_option maxHeartbeats 1000000 in
theorem measure_rest {w W : World} {bs : List (Nat × Obj)} {c r h : Nat} {ao : Option Addr} {cap : Nat} {hl : List Nat} {at_ : Nat} {bo : Option Addr} {bn bc : Nat} {ln : Int} {n : Nat} (H : Dec w W bs c r h ao cap hl at_ (.slice bo bn bc) ln (n : Int) 0) (hn : n ≤ 1000) (hbn : bn ≤ 140737488351232) (len most : Nat) (hm4 : most < 4294967296) (hl4 : len ≤ most) (N : Nat) (hN : n + len = N) :
    Calls Tryz.prog 86 #[.pointer (some ⟨r, 0, none⟩), .int .u64 (len : Int), .int .u32 (most : Int)] W fun e W' => (bn < len ∧ e = .returned (.bool false) ∧ Dec w W' bs c r h ao cap hl at_ (.slice bo bn bc) (len : Int) (N : Int) 10) ∨ (len ≤ bn ∧ e = .returned (.bool true) ∧ Dec w W' bs c r h ao cap hl at_ (.slice bo bn bc) (len : Int) (N : Int) 0) := by
  have t0 : decide ((most : Int) < (len : Int)) = false := by simp; omega
  have hwb : IntKind.u64.wrap (bn : Int) = (bn : Int) := by rw [IntKind.wrap_u64]; omega
  have hwl : IntKind.i64.wrap (len : Int) = (len : Int) := by rw [IntKind.wrap_i64]; omega
  have hws : IntKind.i64.wrap ((n : Int) + (len : Int)) = (N : Int) := by rw [IntKind.wrap_i64]; omega
  have c1 := H.c 1
  simp at c1
  by_cases hlt : bn < len
  · have t1 : decide ((bn : Int) < (len : Int)) = true := by simp; omega
    have c4 := H.c 4
    have f4 := H.f 4
    simp at c4
    have H1 := H.turn 4 (.int .i64 10) (er' := 10) rfl
    have c3 := H1.c 3
    have f3 := H1.f 3
    simp at c3
    have H2 := H1.turn 3 (.int .i64 (N : Int)) (n' := (N : Int)) rfl
    have c2 := H2.c 2
    have f2 := H2.f 2
    simp at c2
    have H3 : Hid _ := H2.turn 2 (.int .i64 (len : Int)) (ln' := (len : Int)) rfl
    have c4' := H3.out.c 4
    simp at c4'
    clear H H1 H2
    go_enter Tryz.func86, Tryz.ntmps86
    go_wp2
    go_ret
    exact .inl ⟨hlt, rfl, H3.out⟩
  · have t1 : decide ((bn : Int) < (len : Int)) = false := by simp; omega
    have c3 := H.c 3
    have f3 := H.f 3
    simp at c3
    have H2 := H.turn 3 (.int .i64 (N : Int)) (n' := (N : Int)) rfl
    have c2 := H2.c 2
    have f2 := H2.f 2
    simp at c2
    have H3 : Hid _ := H2.turn 2 (.int .i64 (len : Int)) (ln' := (len : Int)) rfl
    have c4' := H3.out.c 4
    simp at c4'
    clear H H2
    go_enter Tryz.func86, Tryz.ntmps86
    go_wp2
    go_ret
    exact .inr ⟨by omega, rfl, H3.out⟩

set_option maxHeartbeats 1000000 in
theorem data_any {w W : World} {bs : List (Nat × Obj)} {c r h : Nat} {ao : Option Addr} {cap : Nat} {hl : List Nat} {at_ : Nat} {a2 : Addr} {bn bc len : Nat} {n er : Int} (H : Dec w W bs c r h ao cap hl at_ (.slice (some a2) bn bc) (len : Int) n er) (m : List Nat) (hm : m.length = len) (hlt : ∀ x ∈ m, x < 256) (hnews : ∀ j u, (m.map bv)[j]? = some u → W.cell? (a2.add j) = some u) (hlb : len ≤ bn) (hbc : bn ≤ bc) (hbn : bn ≤ 140737488351232) (hbc2 : bc ≤ 9223372036854775807) :
    Calls Tryz.prog 87 #[.pointer (some ⟨r, 0, none⟩)] W fun e W' => ∃ ao' cap', e = .returned (.slice ao' len cap') ∧ W'.ownsRow W.heap.size 5 1 (.slice ao' len cap') len (m.map bv) ∧ Below W.heap.size W W' ∧ Dec w W' bs c r h ao cap hl at_ (.slice (some a2) bn bc) (len : Int) n er := by
  obtain ⟨i0, hi, hz0, hz1, hz2⟩ := info_parts Tryz.info5
  have c1 := H.c 1
  have c2 := H.c 2
  simp at c1 c2
  have HH : Hid _ := H
  have HNw : Hid (∀ j u, (m.map bv)[j]? = some u → W.cell? (a2.add j) = some u) := hnews
  have HM : Hid (m.length = len) := hm
  clear H hnews hlt hm
  have e1 : (len : Int) ≤ (bc : Int) := by omega
  go_enter Tryz.func87, Tryz.ntmps87
  go_wp2
  go_region_law (refine step_append_two rfl (.const (.slice none 0 0)) (.tmp 11) 22 rfl W.heap.size 5 i0 (.int .u8 0) 1 Tryz.underlying22 hi hz0 hz1 hz2 rfl (.slice none 0 0) 0 [] (by simp [Act.eval]) (World.ownsRow_nil _ _ _ _) a2 len bc (m.map bv) (by first | (simp [Act.eval]; done) | simp [Act.eval, Act.put]) (by rw [List.length_map]; exact HM.out) HNw.out (bv_one m) (by unfold maxLen; omega) (by omega) (by simp) ?_; intro ao' cap' w1 ho hg hf)
  all_goals
    have hb0 : Below W.heap.size W W.drew := ⟨rfl, rfl, rfl, Nat.le_refl _, fun _ _ => rfl⟩
    have hb : Below W.heap.size W w1 := hb0.grown hg (by simp) (by intro k hk; simp [Value.ownBlock] at hk)
    clear hg hf
    rw [Nat.zero_add] at ho
    have HO : Hid _ := ho
    have HB : Hid _ := hb
    clear ho hb
    go_wp2
    go_ret
    exact ⟨_, _, rfl, HO.out, HB.out, HH.out.later HB.out⟩
end Go.Proofs.YtfifaaopdhcaaaaGreatDoor
