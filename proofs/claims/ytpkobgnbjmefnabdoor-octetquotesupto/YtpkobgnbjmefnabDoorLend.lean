import Derived.Test.YtpkobgnbjmefnabDoorSame
import Derived.Test.YtpkobgnbjmefnabDoorOwn
namespace Go.Proofs.YtpkobgnbjmefnabDoor
open Go.RowKit
set_option linter.unusedVariables false
set_option maxRecDepth 100000

def marksTo (k : Nat) : List Nat := (List.range k).map (170 + ·)
theorem marksTo_succ (k : Nat) : marksTo (k + 1) = marksTo k ++ [170 + k] := by simp [marksTo, List.range_succ]
theorem marksTo_length (k : Nat) : (marksTo k).length = k := by simp [marksTo]
theorem BRow.news {w : World} {ao : Option Addr} {cap : Nat} {l : List Nat} (h : BRow w ao cap l) : ∀ ad, ao = some ad → ∀ j u, (l.map bv)[j]? = some u → w.cell? (ad.add j) = some u := by
  intro ad e j u hu
  subst e
  rw [List.getElem?_map] at hu
  by_cases hj : j < l.length
  · rw [List.getElem?_eq_getElem hj] at hu
    obtain ⟨b, off, e, hc⟩ := h.at_ (by rintro rfl; simp at hj)
    cases e
    simp only [Option.map_some, Option.some.injEq] at hu
    subst hu
    rw [add_plain]; exact hc j hj
  · rw [List.getElem?_eq_none (by omega)] at hu; simp at hu
theorem bv_one (l : List Nat) : ∀ u ∈ l.map bv, u.oneCell' = true := by
  intro u hu
  obtain ⟨x, _, rfl⟩ := List.mem_map.1 hu
  rfl
theorem BRow.nil' {w : World} {ao : Option Addr} {cap : Nat} {l : List Nat} (h : BRow w ao cap l) : ao = none → l.length = 0 ∧ cap = 0 := fun e => ⟨by rw [(h.nil e).1]; rfl, (h.nil e).2⟩

theorem news_one (W : World) (v : Value) (e : TypeId) : ∀ ad, some (⟨W.heap.size, 0, none⟩ : Addr) = some ad → ∀ j u, [v][j]? = some u → (W.alloc (.cells #[v] e)).cell? (ad.add j) = some u := by
  intro ad had j u hu
  cases had
  cases j with
  | zero => simp at hu; subst hu; rw [add_plain]; exact World.cell?_alloc_mark W #[v] e (0, 0) 0
  | succ j => simp at hu
/-- a row that fills its block -/
theorem own_block {w : World} {base e g n : Nat} {xs : List Value} (h : w.ownsRow base e 1 (.slice (some ⟨g, 0, none⟩) n n) n xs) (hx : xs.length = n) : w.heap[g]? = some (.cells xs.toArray e (0, 0)) := by
  rcases h.2 with ⟨h', _⟩ | ⟨g', cap, cur, h', _, hg, _, _, hs, ht⟩
  · simp at h'
  · simp only [Value.slice.injEq, Option.some.injEq, Addr.mk.injEq, and_true, true_and] at h'
    obtain ⟨rfl, rfl⟩ := h'
    rw [hg, ← ht, List.take_of_length_le (by rw [Array.length_toList]; omega)]
/-- what was lent: the bytes and the marks behind them, a block of its own -/
structure Lent (w w' : World) (g : Nat) (l : List Nat) : Prop where
  new : w.heap.size ≤ g
  blk : w'.heap[g]? = some (.cells ((l ++ marksTo 70).map bv).toArray 5 (0, 0))
  bel : Below w.heap.size w w'

set_option maxHeartbeats 400000 in
theorem lend_any (ao : Option Addr) (cap n : Nat) (l : List Nat) (w : World) (h : BRow w ao cap l) (HN : Hid (l.length = n)) (hn : n ≤ 140737488351232) :
    Calls Tryd.prog 46 #[.slice ao n cap] w fun e w' => ∃ g, e = .returned (.slice (some ⟨g, 0, none⟩) n (n + 70)) ∧ Lent w w' g l := by
  obtain ⟨i0, hi, hz0, hz1, hz2⟩ := info_parts Tryd.info5
  have H : Hid (BRow w ao cap l) := h
  clear h
  go_enter Tryd.func46, Tryd.ntmps46
  go_wp2_with (first | (at_make; refine wpList_make_own _ rfl (.const (.int .i64 0)) (.tmp 7) 37 rfl w.heap.size 5 i0 (.int .u8 0) 1 Tryd.underlying37 hi hz0 hz1 .i64 .i64 _ (n + 70) rfl rfl (by omega) (by rw [hz2]; omega) (by unfold maxLen; omega) (Nat.le_refl _) ?_; intro w1 hown1 hgrow1; have hb1 := (Below.refl w.heap.size w).grown hgrow1 (Nat.le_refl _) (by simp); have H1 := H.out.later hb1) | (at_builtin; refine wpList_append_room _ rfl (.tmp 9) (.tmp 10) 37 rfl w.heap.size 5 i0 Tryd.underlying37 hi hz1 w.heap.size 0 (n + 70) [] rfl hown1 ao n cap (l.map bv) rfl (by have := H.out.nil'; rwa [HN.out] at this) (by rw [List.length_map]; exact HN.out) H1.news (bv_one l) (by omega) ?_; intro w2 hown2 hgrow2))
  have hb2 : Below w.heap.size w w2 := hb1.grown hgrow2 hb1.size (by intro k hk; cases hk; exact Nat.le_refl _)
  simp only [Nat.zero_add, List.nil_append] at hown2
  have HM : Hid ((l ++ marksTo 0).map bv = l.map bv) := by simp [Hid, marksTo]
  clear hown1 hgrow1 hgrow2 hb1 H1 H
  go_wp2
  go_loopw [3, 4] (fun v i wr => ∃ k : Nat, k ≤ 70 ∧ i = .int .i64 k ∧ v = .slice (some ⟨w.heap.size, 0, none⟩) (n + k) (n + 70) ∧ wr.ownsRow w.heap.size 5 1 (.slice (some ⟨w.heap.size, 0, none⟩) (n + k) (n + 70)) (n + k) ((l ++ marksTo k).map bv) ∧ Below w.heap.size w wr) (fun _ i _ => 70 - (intOf i).toNat)
  case atStart => exact ⟨0, Nat.zero_le _, rfl, rfl, by rw [HM.out]; exact hown2, hb2⟩
  case round =>
    obtain ⟨k, hk, rfl, rfl, hown, hb⟩ := hrel
    by_cases hlt : k < 70
    · go_wp2_with (at_builtin; refine wpList_append_room _ rfl (.tmp 16) (.tmp 20) 37 rfl w.heap.size 5 i0 Tryd.underlying37 hi hz1 w.heap.size (n + k) (n + 70) ((l ++ marksTo k).map bv) rfl (hown.alloc _) (some ⟨wr.heap.size, 0, none⟩) 1 1 [bv (170 + k)] rfl (by simp) rfl ?c1 (by simp [bv, Value.oneCell']) (by omega) ?_)
      case c1 => rw [show bv (170 + k) = .int .u8 (170 + (k : Int)) by simp [bv]]; exact news_one _ _ _
      intro w3 hown3 hgrow3
      have hb3 : Below w.heap.size w w3 := (hb.alloc hb.size _).grown hgrow3 (by have := hb.size; simp; omega) (by intro j hj; cases hj; exact Nat.le_refl _)
      have H3 : Hid (w3.ownsRow w.heap.size 5 1 (.slice (some ⟨w.heap.size, 0, none⟩) (n + (k + 1)) (n + 70)) (n + (k + 1)) ((l ++ marksTo (k + 1)).map bv)) := by
        rw [marksTo_succ]; simpa [Hid, Nat.add_assoc] using hown3
      clear hown3 hgrow3 hown hown2 hb2 hb
      go_wp2
      go_roundw
      case rel => exact ⟨k + 1, by omega, by go_num, rfl, H3.out, hb3⟩
      case measure => simp [intOf]; omega
    · have e70 : k = 70 := by omega
      subst e70
      have HL : Hid (Lent w wr w.heap.size l) := ⟨Nat.le_refl _, own_block hown (by simp [marksTo_length]; have := HN.out; omega), hb⟩
      clear hown2 hb2 hown hb
      go_wp2
      go_ret
      exact ⟨_, rfl, HL.out⟩

theorem blk_cell {W : World} {g : Nat} {xs : List Value} {e : TypeId} {fr : Nat × Nat} (h : W.heap[g]? = some (.cells xs.toArray e fr)) (j : Nat) : W.cell? ⟨g, j, none⟩ = xs[j]? := by
  unfold World.cell?; rw [h]; simp
theorem lent_brow {W : World} {g : Nat} {l : List Nat} (h : W.heap[g]? = some (.cells ((l ++ marksTo 70).map bv).toArray 5 (0, 0))) (hlt : ∀ x ∈ l, x < 256) (hlen : l.length ≤ 140737488351232) (cap : Nat) : BRow W (some ⟨g, 0, none⟩) cap l := by
  refine ⟨hlt, hlen, fun h => by simp at h, fun _ => ⟨g, 0, rfl, fun k hk => ?_⟩⟩
  rw [Nat.zero_add, blk_cell h, List.getElem?_map, List.getElem?_append_left hk, List.getElem?_eq_getElem hk]; rfl
theorem lent_mark {W : World} {g : Nat} {l : List Nat} (h : W.heap[g]? = some (.cells ((l ++ marksTo 70).map bv).toArray 5 (0, 0))) (k : Nat) (hk : k < 70) : W.cell? ⟨g, l.length + k, none⟩ = some (.int .u8 (170 + (k : Int))) := by
  rw [blk_cell h, List.getElem?_map, List.getElem?_append_right (by omega), Nat.add_sub_cancel_left]
  simp [marksTo, hk, bv]

set_option maxHeartbeats 400000 in
theorem kept_true (g : Nat) (ao : Option Addr) (cap n : Nat) (l : List Nat) (W : World) (hblk : W.heap[g]? = some (.cells ((l ++ marksTo 70).map bv).toArray 5 (0, 0))) (h : BRow W ao cap l) (HN : Hid (l.length = n)) (hn : n ≤ 140737488351232) :
    Calls Tryd.prog 48 #[.slice (some ⟨g, 0, none⟩) n (n + 70), .slice ao n cap] W fun e w' => e = .returned (.bool true) ∧ ∃ q, w' = W.drewN q := by
  have HS : Hid (Calls Tryd.prog 22 #[.slice (some ⟨g, 0, none⟩) n (n + 70), .slice ao n cap] W fun e w' => e = .returned (.bool true) ∧ ∃ q, w' = W.drewN q) := by
    have := same_any (some ⟨g, 0, none⟩) ao (n + 70) cap l l W (lent_brow hblk h.lt h.len _) h
    rw [HN.out] at this
    simpa [Hid] using this
  have HM : Hid (∀ k, k < 70 → W.cell? ⟨g, n + k, none⟩ = some (.int .u8 (170 + (k : Int)))) := fun k hk => by
    have := lent_mark hblk k hk
    rwa [HN.out] at this
  clear hblk h
  go_enter Tryd.func48, Tryd.ntmps48
  go_wp2_with fail
  refine HS.out.mono ?_
  rintro e w1 ⟨rfl, q, rfl⟩
  go_wp2
  go_loop [7] (fun i => ∃ k : Nat, k ≤ 70 ∧ i = .int .i64 k) (fun i => 70 - (intOf i).toNat)
  case atStart => exact ⟨0, Nat.zero_le _, rfl⟩
  case round =>
    obtain ⟨k, hk, rfl⟩ := hrel
    by_cases hlt : k < 70
    · have hm := HM.out k hlt
      go_wp2
      go_round
      case rel => exact ⟨k + 1, by omega, by go_num⟩
      case measure => simp [intOf]; omega
    · go_wp2
      go_ret
      exact ⟨rfl, q, rfl⟩
end Go.Proofs.YtpkobgnbjmefnabDoor
