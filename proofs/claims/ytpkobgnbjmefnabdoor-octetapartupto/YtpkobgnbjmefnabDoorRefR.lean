import Derived.Test.YtpkobgnbjmefnabDoorReaderR
import Derived.Test.YtpkobgnbjmefnabDoorCopyW
namespace Go.Proofs.YtpkobgnbjmefnabDoor
open Go.RowKit
set_option linter.unusedVariables false
set_option maxRecDepth 100000

/-- the answer's reader at block p -/
structure POk (w : World) (B p : Nat) (ao : Option Addr) (cap : Nat) (l : List Nat) (at_ : Nat) : Prop where
  blk : w.heap[p]? = some (.cells #[.slice ao l.length cap, .int .i64 (at_ : Int)] 48 (0, 0))
  own : w.ownsRow B 5 1 (.slice ao l.length cap) l.length (l.map bv)
  lt : ∀ x ∈ l, x < 256
  len : l.length ≤ 140737488351232
  le : at_ ≤ l.length
  hp : B ≤ p
theorem POk.c0 {w : World} {B p : Nat} {ao : Option Addr} {cap : Nat} {l : List Nat} {at_ : Nat} (h : POk w B p ao cap l at_) : w.cell? ⟨p, 0, none⟩ = some (.slice ao l.length cap) := by rw [blk_at h.blk]; rfl
theorem POk.c1 {w : World} {B p : Nat} {ao : Option Addr} {cap : Nat} {l : List Nat} {at_ : Nat} (h : POk w B p ao cap l at_) : w.cell? ⟨p, 1, none⟩ = some (.int .i64 (at_ : Int)) := by rw [blk_at h.blk]; rfl
theorem POk.apart {w : World} {B p : Nat} {ao : Option Addr} {cap : Nat} {l : List Nat} {at_ : Nat} (h : POk w B p ao cap l at_) : (Value.slice ao l.length cap).ownBlock ≠ some p := by
  intro e
  obtain ⟨cur, hc⟩ := owns_type h.own p e
  rw [h.blk] at hc; simp at hc
theorem POk.cap_ge {w : World} {B p : Nat} {ao : Option Addr} {cap : Nat} {l : List Nat} {at_ : Nat} (h : POk w B p ao cap l at_) : l.length ≤ cap ∧ cap ≤ 9223372036854775807 := by
  rcases h.own.2 with ⟨hv, hn⟩ | ⟨g, c, cur, hv, _, _, hnc, hcm, _⟩
  · simp only [Value.slice.injEq] at hv; omega
  · simp only [Value.slice.injEq] at hv
    unfold maxLen at hcm
    omega
theorem POk.later {w w' : World} {B p : Nat} {ao : Option Addr} {cap : Nat} {l : List Nat} {at_ : Nat} (h : POk w B p ao cap l at_) {S : Nat → Prop} (k : KeptIn S w w') (hp : ¬ S p) (hv : ∀ g, (Value.slice ao l.length cap).ownBlock = some g → ¬ S g) : POk w' B p ao cap l at_ :=
  ⟨by rw [k.block p (block_lt h.blk) hp]; exact h.blk, owns_same h.own fun g hg => k.block g (owns_lt h.own g hg).1 (hv g hg), h.lt, h.len, h.le, h.hp⟩
theorem POk.move {w : World} {B p : Nat} {ao : Option Addr} {cap : Nat} {l : List Nat} {at_ : Nat} (h : POk w B p ao cap l at_) (k : Nat) (hk : k ≤ l.length) :
    POk (w.setCell ⟨p, 1, none⟩ (.int .i64 (k : Int))) B p ao cap l k ∧ KeptIn (fun g => g = p) w (w.setCell ⟨p, 1, none⟩ (.int .i64 (k : Int))) := by
  refine ⟨⟨?_, ?_, h.lt, h.len, hk, h.hp⟩, ⟨rfl, rfl, rfl, by simp, fun g hg hS => Below.heap_setCell _ _ _ _ (fun e => hS e)⟩⟩
  · have := heap_setCell_same w p 1 #[.slice ao l.length cap, .int .i64 (at_ : Int)] 48 (.int .i64 (k : Int)) h.blk
    simpa using this
  · exact owns_same h.own fun g hg => Below.heap_setCell _ _ _ _ (fun e => h.apart (by rw [hg, e]))
theorem POk.drewN {w : World} {B p : Nat} {ao : Option Addr} {cap : Nat} {l : List Nat} {at_ : Nat} (h : POk w B p ao cap l at_) (q : Nat) : POk (w.drewN q) B p ao cap l at_ := ⟨h.blk, owns_same h.own (fun _ _ => rfl), h.lt, h.len, h.le, h.hp⟩
theorem POk.form {w : World} {B p : Nat} {ao : Option Addr} {cap : Nat} {l : List Nat} {a : Nat} (h : POk w B p ao cap l a) : (ao = none ∧ cap = 0 ∧ l = []) ∨ ∃ g, ao = some ⟨g, 0, none⟩ := by
  rcases h.own.2 with ⟨hv, hn⟩ | ⟨g, c, cur, hv, _⟩
  · simp only [Value.slice.injEq] at hv
    exact .inl ⟨hv.1, hv.2.2, List.eq_nil_of_length_eq_zero hn⟩
  · simp only [Value.slice.injEq] at hv
    exact .inr ⟨g, hv.1⟩
structure PPost (w w' : World) (B p : Nat) (ao : Option Addr) (cap : Nat) (l : List Nat) (at' : Nat) : Prop where
  ok : POk w' B p ao cap l at'
  kept : KeptIn (fun g => g = p) w w'
theorem POk.same {w : World} {B p : Nat} {ao : Option Addr} {cap : Nat} {l : List Nat} {at_ : Nat} (h : POk w B p ao cap l at_) (q : Nat) : PPost w (w.drewN q) B p ao cap l at_ := ⟨h.drewN q, keptIn_drewN (KeptIn.refl _ _) q⟩


set_option maxHeartbeats 1000000 in
theorem value_some (g off cap n : Nat) (m : List Nat) (w : World) (hn : n ≤ 8) (HM : Hid (m.length = n)) (H256 : Hid (∀ x ∈ m, x < 256)) (HC : Hid (∀ k, k < n → w.cell? ⟨g, off + k, none⟩ = some (.int .u8 ((m[k]?.getD 0 : Nat) : Int)))) :
    Calls Tryd.prog 82 #[.slice (some ⟨g, off, none⟩) n cap] w fun e w' => e = .returned (.int .u64 (valB m : Nat)) ∧ ∃ q, w' = w.drewN q := by
  go_enter Tryd.func82, Tryd.ntmps82
  go_wp2
  go_loopw [3, 4] (fun v i wr => ∃ k q : Nat, k ≤ n ∧ i = .int .i64 k ∧ v = .int .u64 (valB (m.take k) : Nat) ∧ wr = w.drewN q) (fun _ i _ => n - (intOf i).toNat)
  case atStart => exact ⟨0, 0, Nat.zero_le _, rfl, rfl, rfl⟩
  case round =>
    obtain ⟨k, q, hk, rfl, rfl, rfl⟩ := hrel
    by_cases hlt : k < n
    · have hc := HC.out k hlt
      have hx : m[k]?.getD 0 < 256 := getD_lt m H256.out _
      have hv : valB (m.take k) < 256 ^ k := by
        have := valB_lt (m.take k) (fun x hx => H256.out x (List.mem_of_mem_take hx))
        have hln := HM.out
        rwa [List.length_take, Nat.min_eq_left (by omega)] at this
      have hv7 : valB (m.take k) < 72057594037927936 := Nat.lt_of_lt_of_le hv (Nat.pow_le_pow_right (n := 256) (by decide) (by omega : k ≤ 7))
      have HS : Hid (valB (m.take (k + 1)) = valB (m.take k) * 256 + m[k]?.getD 0) := by
        have hln := HM.out
        show valB (m.take (k + 1)) = _
        rw [List.take_succ_eq_append_getElem (by omega), valB_snoc]
        simp [show k < m.length by omega]
      generalize valB (m.take k) = v at *
      generalize m[k]?.getD 0 = x at *
      have hor := or_join v x hv7 hx
      clear hv
      go_wp2
      go_roundw
      case rel => exact ⟨k + 1, q, by omega, by go_num, congrArg (Value.int .u64) (by rw [HS.out]; omega), rfl⟩
      case measure => simp [intOf]; omega
    · have ek : n = k := by omega
      subst ek
      have HE : Hid (m.take n = m) := by
        have := HM.out
        show m.take n = m
        exact List.take_of_length_le (by omega)
      go_wp2
      go_ret
      exact ⟨by rw [HE.out]; rfl, q, rfl⟩
end Go.Proofs.YtpkobgnbjmefnabDoor
