import Derived.Test.YtjhickfjagalfaaDoorV47
namespace Go.Proofs.YtjhickfjagalfaaDoor
open Go.RowKit
set_option linter.unusedVariables false
set_option linter.unusedSimpArgs false
set_option maxRecDepth 100000

set_option maxHeartbeats 4000000 in
theorem kept_any (g : Nat) (ao : Option Addr) (cap n : Nat) (l : List Nat) (W : World) (hblk : W.heap[g]? = some (.cells ((tw l).map bv).toArray 5 (0, 0))) (h : BRow W ao cap l) (HN : Hid (l.length = n)) (hn : n ≤ 1099511627776) :
    Calls Tryd.prog 37 #[.slice (some ⟨g, 0, none⟩) n (n + 4), .slice ao n cap] W fun e w' => e = .returned (.bool true) ∧ Below W.heap.size W w' := by
  have HC : Hid (∀ k, k < n → W.cell? ⟨g, k, none⟩ = some (.int .u8 ((l[k]?.getD 0 : Nat) : Int)) ∧ ∃ b off, ao = some ⟨b, off, none⟩ ∧ W.cell? ⟨b, off + k, none⟩ = some (.int .u8 ((l[k]?.getD 0 : Nat) : Int))) := fun k hk => by
    have hl := HN.out
    have hkl : k < l.length := by omega
    refine ⟨?_, ?_⟩
    · rw [blk_cell hblk, List.getElem?_map, tw, List.getElem?_append_left hkl]; simp [bv, hkl]
    · obtain ⟨b, off, e, hc⟩ := h.at_ (by rintro rfl; simp at hkl)
      exact ⟨b, off, e, by rw [hc k hkl]; simp [bv, hkl]⟩
  have HM : Hid (∀ k, n ≤ k → k < n + 4 → W.cell? ⟨g, k, none⟩ = some (.int .u8 171)) := fun k h1 h2 => by
    have hl := HN.out
    rw [blk_cell hblk, List.getElem?_map, tw, List.getElem?_append_right (by omega), List.getElem?_replicate, if_pos (by omega)]; rfl
  have hw4 : IntKind.i64.wrap ((n : Int) + 4) = (n : Int) + 4 := by rw [IntKind.wrap_i64]; omega
  have hc4 : ((n + 4 : Nat) : Int) = (n : Int) + 4 := by omega
  clear hblk h
  go_enter Tryd.func37, Tryd.ntmps37
  go_wp2
  go_loopw [6] (fun i wr => ∃ k q : Nat, k ≤ n + 4 ∧ i = .int .i64 (k : Int) ∧ wr = W.drewN q) (fun i _ => n + 4 - (intOf i).toNat)
  case atStart => exact ⟨0, 0, Nat.zero_le _, rfl, rfl⟩
  case round =>
    obtain ⟨k, q, hk, rfl, rfl⟩ := hrel
    by_cases hlt : k < n + 4
    · have hkz : (k : Int) < (n : Int) + 4 := by omega
      have hkz2 : (k : Int) < ((n + 4 : Nat) : Int) := by omega
      by_cases hkn : k < n
      · obtain ⟨z0, b, off, rfl, z1⟩ := HC.out k hkn
        have h1 : (k : Int) < (n : Int) := by omega
        have h2 : decide ((n : Int) ≤ (k : Int)) = false := by simp; omega
        have h3 : ¬ ((n : Int) ≤ (k : Int)) := by omega
        have h4 : decide ((k : Int) < (n : Int)) = true := by simp; omega
        have h5 : decide (n ≤ k) = false := by simp; omega
        generalize l[k]?.getD 0 = x at *
        go_wp2
        go_quiet (fail)
        go_wp2
        go_roundw
        case rel => exact ⟨k + 1, q + nq, by omega, by go_num, by first | rfl | rw [World.drewN_drewN]⟩
        case measure => simp [intOf]; omega
      · have z0 := HM.out k (by omega) hlt
        have h1 : decide ((k : Int) < (n : Int)) = false := by simp; omega
        have h2 : (n : Int) ≤ (k : Int) := by omega
        go_wp2
        go_quiet (fail)
        go_wp2
        go_roundw
        case rel => exact ⟨k + 1, q + nq, by omega, by go_num, by first | rfl | rw [World.drewN_drewN]⟩
        case measure => simp [intOf]; omega
    · obtain rfl : k = n + 4 := by omega
      have hd : ¬ (((n + 4 : Nat) : Int) < (n : Int) + 4) := by omega
      go_wp2
      go_ret
      exact ⟨rfl, ⟨rfl, rfl, rfl, Nat.le_refl _, fun _ _ => rfl⟩⟩
theorem twin_brow {W : World} {g : Nat} {l : List Nat} (h : W.heap[g]? = some (.cells ((tw l).map bv).toArray 5 (0, 0))) (hlt : ∀ x ∈ l, x < 256) (hlen : l.length ≤ 140737488351232) (cap : Nat) : BRow W (some ⟨g, 0, none⟩) cap l := by
  refine ⟨hlt, hlen, fun h => by simp at h, fun _ => ⟨g, 0, rfl, fun k hk => ?_⟩⟩
  rw [Nat.zero_add, blk_cell h, List.getElem?_map, tw, List.getElem?_append_left hk, List.getElem?_eq_getElem hk]; rfl
end Go.Proofs.YtjhickfjagalfaaDoor
