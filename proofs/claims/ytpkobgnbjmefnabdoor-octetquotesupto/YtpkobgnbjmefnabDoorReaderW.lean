import Derived.Test.YtpkobgnbjmefnabDoorWriterY
namespace Go.Proofs.YtpkobgnbjmefnabDoor
open Go.RowKit
set_option linter.unusedVariables false
set_option maxRecDepth 100000

/-- a reader at block r: its bytes l, of which 'at_' were read -/
structure ROk (w : World) (B r : Nat) (ao : Option Addr) (cap : Nat) (l : List Nat) (at_ : Nat) : Prop where
  blk : w.heap[r]? = some (.cells #[.bool true, .slice ao l.length cap, .int .i64 (at_ : Int)] 64 (0, 0))
  own : w.ownsRow B 5 1 (.slice ao l.length cap) l.length (l.map bv)
  lt : ∀ x ∈ l, x < 256
  len : l.length ≤ 140737488351232
  le : at_ ≤ l.length
  hr : B ≤ r
theorem ROk.c0 {w : World} {B r : Nat} {ao : Option Addr} {cap : Nat} {l : List Nat} {at_ : Nat} (h : ROk w B r ao cap l at_) : w.cell? ⟨r, 0, none⟩ = some (.bool true) := by rw [blk_at h.blk]; rfl
theorem ROk.c1 {w : World} {B r : Nat} {ao : Option Addr} {cap : Nat} {l : List Nat} {at_ : Nat} (h : ROk w B r ao cap l at_) : w.cell? ⟨r, 1, none⟩ = some (.slice ao l.length cap) := by rw [blk_at h.blk]; rfl
theorem ROk.c2 {w : World} {B r : Nat} {ao : Option Addr} {cap : Nat} {l : List Nat} {at_ : Nat} (h : ROk w B r ao cap l at_) : w.cell? ⟨r, 2, none⟩ = some (.int .i64 (at_ : Int)) := by rw [blk_at h.blk]; rfl
theorem ROk.brow {w : World} {B r : Nat} {ao : Option Addr} {cap : Nat} {l : List Nat} {at_ : Nat} (h : ROk w B r ao cap l at_) : BRow w ao cap l := by
  obtain ⟨ao', cap', hv, hb⟩ := BRow.own h.own h.lt h.len
  simp only [Value.slice.injEq] at hv
  obtain ⟨rfl, _, rfl⟩ := hv
  exact hb
theorem ROk.apart {w : World} {B r : Nat} {ao : Option Addr} {cap : Nat} {l : List Nat} {at_ : Nat} (h : ROk w B r ao cap l at_) : (Value.slice ao l.length cap).ownBlock ≠ some r := by
  intro e
  obtain ⟨cur, hc⟩ := owns_type h.own r e
  rw [h.blk] at hc; simp at hc
theorem ROk.cap_ge {w : World} {B r : Nat} {ao : Option Addr} {cap : Nat} {l : List Nat} {at_ : Nat} (h : ROk w B r ao cap l at_) : l.length ≤ cap ∧ cap ≤ 9223372036854775807 := by
  rcases h.own.2 with ⟨hv, hn⟩ | ⟨g, c, cur, hv, _, _, hnc, hcm, _⟩
  · simp only [Value.slice.injEq] at hv; omega
  · simp only [Value.slice.injEq] at hv
    unfold maxLen at hcm
    omega
theorem ROk.later {w w' : World} {B r : Nat} {ao : Option Addr} {cap : Nat} {l : List Nat} {at_ : Nat} (h : ROk w B r ao cap l at_) {S : Nat → Prop} (k : KeptIn S w w') (hr : ¬ S r) (hv : ∀ g, (Value.slice ao l.length cap).ownBlock = some g → ¬ S g) : ROk w' B r ao cap l at_ :=
  ⟨by rw [k.block r (block_lt h.blk) hr]; exact h.blk, owns_same h.own fun g hg => k.block g (owns_lt h.own g hg).1 (hv g hg), h.lt, h.len, h.le, h.hr⟩
/-- behind the store of the place -/
theorem ROk.move {w : World} {B r : Nat} {ao : Option Addr} {cap : Nat} {l : List Nat} {at_ : Nat} (h : ROk w B r ao cap l at_) (k : Nat) (hk : k ≤ l.length) :
    ROk (w.setCell ⟨r, 2, none⟩ (.int .i64 (k : Int))) B r ao cap l k ∧ KeptIn (fun g => g = r) w (w.setCell ⟨r, 2, none⟩ (.int .i64 (k : Int))) := by
  refine ⟨⟨?_, ?_, h.lt, h.len, hk, h.hr⟩, ⟨rfl, rfl, rfl, by simp [World.setCell], fun g _ hg => Below.heap_setCell _ _ _ _ hg⟩⟩
  · have := heap_setCell_same w r 2 #[.bool true, .slice ao l.length cap, .int .i64 (at_ : Int)] 64 (.int .i64 (k : Int)) h.blk
    simpa using this
  · exact owns_same h.own fun g hg => Below.heap_setCell _ _ _ _ (fun e => h.apart (by rw [hg, e]))
theorem ROk.drewN {w : World} {B r : Nat} {ao : Option Addr} {cap : Nat} {l : List Nat} {at_ : Nat} (h : ROk w B r ao cap l at_) (q : Nat) : ROk (w.drewN q) B r ao cap l at_ := ⟨h.blk, owns_same h.own (fun _ _ => rfl), h.lt, h.len, h.le, h.hr⟩
theorem keptIn_drewN {S : Nat → Prop} {w w' : World} (h : KeptIn S w w') (q : Nat) : KeptIn S w (w'.drewN q) := ⟨h.os, h.tape, h.output, h.size, h.block⟩

set_option maxHeartbeats 400000 in
theorem rusable_true (r : Nat) (w : World) (h0 : w.cell? ⟨r, 0, none⟩ = some (.bool true)) :
    Calls Tryd.prog 83 #[.pointer (some ⟨r, 0, none⟩)] w fun e w' => e = .returned (.bool true) ∧ w' = w := by
  go_enter Tryd.func83, Tryd.ntmps83
  go_wp2
  go_ret
  exact ⟨rfl, rfl⟩
set_option maxHeartbeats 400000 in
theorem rleft_any (B r : Nat) (ao : Option Addr) (cap : Nat) (l : List Nat) (at_ n : Nat) (w : World) (h : ROk w B r ao cap l at_) (HN : Hid (l.length = n)) :
    Calls Tryd.prog 64 #[.pointer (some ⟨r, 0, none⟩)] w fun e w' => e = .returned (.int .i64 ((n : Int) - (at_ : Int))) ∧ ∃ q, w' = w.drewN q := by
  have HU : Hid (Calls Tryd.prog 83 #[.pointer (some ⟨r, 0, none⟩)] w fun e w' => e = .returned (.bool true) ∧ w' = w) := rusable_true r w h.c0
  have c1 := h.c1
  have c2 := h.c2
  have hle := h.le
  have hlen := h.len
  rw [HN.out] at c1 hle hlen
  have hw : IntKind.i64.wrap ((n : Int) - (at_ : Int)) = (n : Int) - (at_ : Int) := by rw [IntKind.wrap_i64]; omega
  clear h
  go_enter Tryd.func64, Tryd.ntmps64
  go_wp2_with fail
  refine HU.out.mono ?_
  rintro e w1 ⟨rfl, hw1⟩
  rw [hw1]; clear hw1
  go_wp2
  go_quiet (fail)
  go_wp2
  go_ret
  exact ⟨ret_i64 (by first | rfl | simp [hw]), _, rfl⟩

/-- the number that bytes say -/
def valB (l : List Nat) : Nat := l.foldl (fun v b => v * 256 + b) 0
theorem valB_snoc (l : List Nat) (b : Nat) : valB (l ++ [b]) = valB l * 256 + b := by unfold valB; rw [List.foldl_append]; rfl
theorem valB_lt (l : List Nat) (h : ∀ x ∈ l, x < 256) : valB l < 256 ^ l.length := by
  have : ∀ (m : List Nat) (a : Nat) (k : Nat), a < 256 ^ k → (∀ x ∈ m, x < 256) → m.foldl (fun v b => v * 256 + b) a < 256 ^ (k + m.length) := by
    intro m
    induction m with
    | nil => intro a k ha _; simpa using ha
    | cons b m ih =>
      intro a k ha hm
      have hb := hm b (by simp)
      have := ih (a * 256 + b) (k + 1) (by rw [Nat.pow_succ]; omega) (fun x hx => hm x (by simp [hx]))
      simpa [Nat.add_assoc, Nat.add_comm 1] using this
  simpa [valB] using this l 0 0 (by decide) h
theorem getD_lt (c : List Nat) (h : ∀ x ∈ c, x < 256) (j : Nat) : c[j]?.getD 0 < 256 := by
  by_cases hj : j < c.length
  · rw [List.getElem?_eq_getElem hj]; exact h _ (List.getElem_mem hj)
  · rw [List.getElem?_eq_none (by omega)]; decide
theorem or_join (v b : Nat) (hv : v < 72057594037927936) (hb : b < 256) : bits .or .u64 ((v : Int) * 256) (b : Int) = ((v * 256 + b : Nat) : Int) := by
  have h1 := u64_or_nat (v * 256) b (by omega) (by omega)
  rw [nat_join 8 (v * 256) b (by omega) (by omega)] at h1
  rw [← h1]; simp

set_option maxRecDepth 100000 in
set_option maxHeartbeats 1000000 in
theorem rnumber_short (B r : Nat) (ao : Option Addr) (cap : Nat) (l : List Nat) (at_ n size : Nat) (w : World) (h : ROk w B r ao cap l at_) (HN : Hid (l.length = n)) (hs : size ≤ 8) (hsh : n - at_ < size) :
    Calls Tryd.prog 81 #[.pointer (some ⟨r, 0, none⟩), .int .i64 (size : Int)] w fun e w' => e = .returned (.tuple #[.int .u64 0, .int .i64 10]) ∧ ∃ q, w' = w.drewN q := by
  have HU : Hid (Calls Tryd.prog 83 #[.pointer (some ⟨r, 0, none⟩)] w fun e w' => e = .returned (.bool true) ∧ w' = w) := rusable_true r w h.c0
  have HL : Hid (Calls Tryd.prog 64 #[.pointer (some ⟨r, 0, none⟩)] w fun e w' => e = .returned (.int .i64 ((n : Int) - (at_ : Int))) ∧ ∃ q, w' = w.drewN q) := rleft_any B r ao cap l at_ n w h HN
  have hle := h.le
  rw [HN.out] at hle
  have ht : decide ((n : Int) - (at_ : Int) < (size : Int)) = true := by simp; omega
  clear h
  go_enter Tryd.func81, Tryd.ntmps81
  go_wp2_with fail
  refine HU.out.mono ?_
  rintro e w1 ⟨rfl, hw⟩
  rw [hw]; clear hw
  go_wp2_with fail
  refine HL.out.mono ?_
  rintro e w1 ⟨rfl, q, hw⟩
  rw [hw]; clear hw
  go_wp2
  go_ret2
  exact ⟨rfl, _, rfl⟩

set_option maxRecDepth 100000 in
set_option maxHeartbeats 2000000 in
theorem rnumber_ok (B r g cap : Nat) (l : List Nat) (at_ n size : Nat) (w : World) (h : ROk w B r (some ⟨g, 0, none⟩) cap l at_) (HN : Hid (l.length = n)) (hs : size ≤ 8) (hs1 : 1 ≤ size) (hsh : at_ + size ≤ n) :
    Calls Tryd.prog 81 #[.pointer (some ⟨r, 0, none⟩), .int .i64 (size : Int)] w fun e w' => e = .returned (.tuple #[.int .u64 (valB ((l.drop at_).take size) : Nat), .int .i64 0]) ∧ ∃ q, w' = (w.setCell ⟨r, 2, none⟩ (.int .i64 ((at_ + size : Nat) : Int))).drewN q := by
  have HU : Hid (Calls Tryd.prog 83 #[.pointer (some ⟨r, 0, none⟩)] w fun e w' => e = .returned (.bool true) ∧ w' = w) := rusable_true r w h.c0
  have HL : Hid (Calls Tryd.prog 64 #[.pointer (some ⟨r, 0, none⟩)] w fun e w' => e = .returned (.int .i64 ((n : Int) - (at_ : Int))) ∧ ∃ q, w' = w.drewN q) := rleft_any B r _ cap l at_ n w h HN
  have hlen := h.len
  have hcap := h.cap_ge
  have c1 := h.c1
  have c2 := h.c2
  have f2 := blk_free h.blk 2
  rw [HN.out] at hlen hcap c1
  obtain ⟨hcap1, hcap2⟩ := hcap
  have HC : Hid (∀ k, k < n → w.cell? ⟨g, k, none⟩ = some (.int .u8 ((l[k]?.getD 0 : Nat) : Int))) := fun k hk => by
    have := h.own.cellAt k (by rw [HN.out]; omega)
    rw [this]; simp [bv, show k < l.length by have := HN.out; omega]
  have H256 : Hid (∀ x ∈ l, x < 256) := h.lt
  have ht : decide ((n : Int) - (at_ : Int) < (size : Int)) = false := by simp; omega
  have hwr : IntKind.i64.wrap ((at_ : Int) + (size : Int)) = (at_ : Int) + (size : Int) := by rw [IntKind.wrap_i64]; omega
  clear h
  go_enter Tryd.func81, Tryd.ntmps81
  go_wp2_with fail
  refine HU.out.mono ?_
  rintro e w1 ⟨rfl, hw⟩
  rw [hw]; clear hw
  go_wp2_with fail
  refine HL.out.mono ?_
  rintro e w1 ⟨rfl, q, hw⟩
  rw [hw]; clear hw
  go_wp2
  go_quiet (fail)
  go_wp2
  rw [World.drewN_drewN, Nat.add_sub_cancel_left]
  generalize q + nq = q1
  have HD : Hid (((l.drop at_).take size).length = size) := by
    show ((l.drop at_).take size).length = size
    have := HN.out
    rw [List.length_take, List.length_drop]; omega
  go_loop [6, 34] (fun v i => ∃ k : Nat, k ≤ size ∧ i = .int .i64 k ∧ v = .int .u64 (valB ((l.drop at_).take k) : Nat)) (fun _ i => size - (intOf i).toNat)
  case atStart => exact ⟨0, Nat.zero_le _, rfl, rfl⟩
  case round =>
    obtain ⟨k, hk, rfl, rfl⟩ := hrel
    by_cases hlt : k < size
    · have hc := HC.out (at_ + k) (by omega)
      have hx : l[at_ + k]?.getD 0 < 256 := getD_lt l H256.out _
      have hv : valB ((l.drop at_).take k) < 256 ^ k := by
        have := valB_lt ((l.drop at_).take k) (fun x hx => H256.out x (List.mem_of_mem_drop (List.mem_of_mem_take hx)))
        have hln := HN.out
        rwa [List.length_take, List.length_drop, Nat.min_eq_left (by omega)] at this
      have hv7 : valB ((l.drop at_).take k) < 72057594037927936 := Nat.lt_of_lt_of_le hv (Nat.pow_le_pow_right (n := 256) (by decide) (by omega : k ≤ 7))
      have HS : Hid (valB ((l.drop at_).take (k + 1)) = valB ((l.drop at_).take k) * 256 + l[at_ + k]?.getD 0) := by
        have hln := HN.out
        show valB ((l.drop at_).take (k + 1)) = _
        rw [List.take_succ_eq_append_getElem (by rw [List.length_drop]; omega), valB_snoc, List.getElem_drop]
        simp [show at_ + k < l.length by omega]
      generalize valB ((l.drop at_).take k) = v at *
      generalize l[at_ + k]?.getD 0 = x at *
      have hor := or_join v x hv7 hx
      clear hv
      go_wp2
      go_round
      case rel => exact ⟨k + 1, by omega, by go_num, congrArg (Value.int .u64) (by rw [HS.out]; omega)⟩
      case measure => simp [intOf]; omega
    · have ek : k = size := by omega
      subst ek
      go_wp2
      go_ret2
      exact ⟨rfl, q1, rfl⟩
end Go.Proofs.YtpkobgnbjmefnabDoor
