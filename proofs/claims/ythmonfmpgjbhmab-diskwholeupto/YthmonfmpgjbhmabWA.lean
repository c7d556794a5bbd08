import Derived.Test.YthmonfmpgjbhmabLQb
import Derived.Deep.RegionHeld3
namespace Go.Proofs.Ythmonfmpgjbhmab.K
open Go.RowKit Go.Maps Go.Proofs.Ythmonfmpgjbhmab
attribute [local go_sem] Oper.semAt_some
set_option linter.unusedVariables false
set_option linter.unusedSimpArgs false
set_option maxRecDepth 100000

theorem w_wrap {z : Int} (h0 : -9223372036854775808 ≤ z) (h1 : z ≤ 9223372036854775807) : IntKind.i64.wrap z = z := by rw [IntKind.wrap_i64]; omega
theorem w_drewN (X : World) (q : Nat) : Below X.heap.size X (X.drewN q) := ⟨rfl, rfl, rfl, Nat.le_refl _, fun _ _ => rfl⟩
/-- an image in memory -/
structure Img (W : World) (g cap n : Nat) (F : Nat → Bl) : Prop where
  row : W.ownsRow 0 5 1 (.slice (some ⟨g, 0, none⟩) (n * 512) cap) (n * 512) ((imgL n F).map bv)
  ok : ∀ s, s < n → OkB (F s)
  n0 : 1 ≤ n
  n1 : n ≤ 65536
theorem Img.later {W W' : World} {g cap n : Nat} {F : Nat → Bl} (h : Img W g cap n F) (hb : Below W.heap.size W W') : Img W' g cap n F :=
  ⟨ownsRow_block h.row (fun x e => hb.block x (row_lt h.row x e).1), h.ok, h.n0, h.n1⟩
theorem Img.cap_le {W : World} {g cap n : Nat} {F : Nat → Bl} (h : Img W g cap n F) : n * 512 ≤ cap := by
  rcases h.row.2 with ⟨e, _⟩ | ⟨g', cap', cur, e, _, _, hc, _⟩
  · cases e
  · simp at e; omega
theorem Img.sec {W : World} {g cap n : Nat} {F : Nat → Bl} (h : Img W g cap n F) {s : Nat} (hs : s < n) (c : Nat) : BRow W (some ⟨g, s * 512, none⟩) c (F s) := by
  have hl : ∀ t, t < n → (F t).length = 512 := fun t ht => (h.ok t ht).len
  refine ⟨(h.ok s hs).lt, by rw [hl s hs]; decide, (fun e => by cases e), fun _ => ⟨g, s * 512, rfl, fun k hk => ?_⟩⟩
  have hk' : k < 512 := by rw [hl s hs] at hk; exact hk
  rw [h.row.cellAt (s * 512 + k) (by omega), List.getElem?_map, imgL_get hl hs hk', List.getElem?_eq_getElem hk]
  rfl
set_option maxHeartbeats 2000000 in
theorem sector_any {W : World} {g cap n : Nat} {F : Nat → Bl} (h : Img W g cap n F) {s : Nat} (hs : s < n) :
    Calls Try.prog 35 #[.slice (some ⟨g, 0, none⟩) (n * 512) cap, .int .i64 s] W fun r W' => r = .returned (.slice (some ⟨g, s * 512, none⟩) 512 (cap - s * 512)) ∧ W' = W := by
  have hc := h.cap_le
  have hn1 := h.n1
  have e0 : ¬ ((s : Int) < 0) := by omega
  have w1 : IntKind.i64.wrap ((s : Int) + 1) = (s : Int) + 1 := w_wrap (by omega) (by omega)
  have w2 : IntKind.i64.wrap (((s : Int) + 1) * 512) = ((s : Int) + 1) * 512 := w_wrap (by omega) (by omega)
  have w3 : IntKind.i64.wrap ((s : Int) * 512) = (s : Int) * 512 := w_wrap (by omega) (by omega)
  have e1 : ¬ (((n * 512 : Nat) : Int) < ((s : Int) + 1) * 512) := by omega
  have e2 : ((s : Int) * 512).toNat = s * 512 := by omega
  have e3 : (((s : Int) + 1) * 512).toNat = s * 512 + 512 := by omega
  have e4 : s * 512 + 512 - s * 512 = 512 := by omega
  have e5 : (0 : Int) ≤ (s : Int) * 512 := by omega
  have e6 : (s : Int) * 512 ≤ ((s : Int) + 1) * 512 := by omega
  have e7 : ((s : Int) + 1) * 512 ≤ (cap : Int) := by omega
  have e8 : ¬ (cap = s * 512) := by omega
  have e9 : ¬ ((n : Int) * 512 < ((s : Int) + 1) * 512) := by omega
  clear h
  go_enter Try.func35, Try.ntmps35
  go_wp2
  go_ret
  exact ⟨rfl, rfl⟩
end Go.Proofs.Ythmonfmpgjbhmab.K
