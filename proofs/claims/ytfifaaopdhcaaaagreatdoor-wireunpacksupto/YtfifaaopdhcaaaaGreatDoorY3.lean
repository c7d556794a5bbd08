import Derived.Test.YtfifaaopdhcaaaaGreatDoorY2
namespace Go.Proofs.YtfifaaopdhcaaaaGreatDoor
open Go.RowKit
set_option linter.unusedVariables false
set_option maxRecDepth 100000

/-- a reader at block r: its bytes l, of which 'at_' were read -/
structure ROk (w : World) (B r : Nat) (ao : Option Addr) (cap : Nat) (l : List Nat) (at_ : Nat) : Prop where
  blk : w.heap[r]? = some (.cells #[.bool true, .slice ao l.length cap, .int .i64 (at_ : Int)] 170 (0, 0))
  own : w.ownsRow B 5 1 (.slice ao l.length cap) l.length (l.map bv)
  lt : ∀ x ∈ l, x < 256
  len : l.length ≤ 140737488351232
  le : at_ ≤ l.length
  hr : B ≤ r
theorem ROk.c0 {w : World} {B r : Nat} {ao : Option Addr} {cap : Nat} {l : List Nat} {at_ : Nat} (h : ROk w B r ao cap l at_) : w.cell? ⟨r, 0, none⟩ = some (.bool true) := by rw [blk_at h.blk]; rfl
theorem ROk.c1 {w : World} {B r : Nat} {ao : Option Addr} {cap : Nat} {l : List Nat} {at_ : Nat} (h : ROk w B r ao cap l at_) : w.cell? ⟨r, 1, none⟩ = some (.slice ao l.length cap) := by rw [blk_at h.blk]; rfl
theorem ROk.c2 {w : World} {B r : Nat} {ao : Option Addr} {cap : Nat} {l : List Nat} {at_ : Nat} (h : ROk w B r ao cap l at_) : w.cell? ⟨r, 2, none⟩ = some (.int .i64 (at_ : Int)) := by rw [blk_at h.blk]; rfl
theorem ROk.brow {w : World} {B r : Nat} {ao : Option Addr} {cap : Nat} {l : List Nat} {at_ : Nat} (h : ROk w B r ao cap l at_) : BRow w ao cap l := by
  obtain ⟨ao', cap', hv, hb⟩ := BRow.own h.own h.lt h.len
  simp only [Value.slice.injEq] at hv
  obtain ⟨rfl, _, rfl⟩ := hv
  exact hb
theorem ROk.apart {w : World} {B r : Nat} {ao : Option Addr} {cap : Nat} {l : List Nat} {at_ : Nat} (h : ROk w B r ao cap l at_) : (Value.slice ao l.length cap).ownBlock ≠ some r := by
  intro e
  obtain ⟨cur, hc⟩ := owns_type h.own r e
  rw [h.blk] at hc; simp at hc
theorem ROk.cap_ge {w : World} {B r : Nat} {ao : Option Addr} {cap : Nat} {l : List Nat} {at_ : Nat} (h : ROk w B r ao cap l at_) : l.length ≤ cap ∧ cap ≤ 9223372036854775807 := by
  rcases h.own.2 with ⟨hv, hn⟩ | ⟨g, c, cur, hv, _, _, hnc, hcm, _⟩
  · simp only [Value.slice.injEq] at hv; omega
  · simp only [Value.slice.injEq] at hv
    unfold maxLen at hcm
    omega
theorem ROk.later {w w' : World} {B r : Nat} {ao : Option Addr} {cap : Nat} {l : List Nat} {at_ : Nat} (h : ROk w B r ao cap l at_) {S : Nat → Prop} (k : KeptIn S w w') (hr : ¬ S r) (hv : ∀ g, (Value.slice ao l.length cap).ownBlock = some g → ¬ S g) : ROk w' B r ao cap l at_ :=
  ⟨by rw [k.block r (block_lt h.blk) hr]; exact h.blk, owns_same h.own fun g hg => k.block g (owns_lt h.own g hg).1 (hv g hg), h.lt, h.len, h.le, h.hr⟩
/-- behind the store of the place -/
theorem ROk.move {w : World} {B r : Nat} {ao : Option Addr} {cap : Nat} {l : List Nat} {at_ : Nat} (h : ROk w B r ao cap l at_) (k : Nat) (hk : k ≤ l.length) :
    ROk (w.setCell ⟨r, 2, none⟩ (.int .i64 (k : Int))) B r ao cap l k ∧ KeptIn (fun g => g = r) w (w.setCell ⟨r, 2, none⟩ (.int .i64 (k : Int))) := by
  refine ⟨⟨?_, ?_, h.lt, h.len, hk, h.hr⟩, ⟨rfl, rfl, rfl, by simp [World.setCell], fun g _ hg => Below.heap_setCell _ _ _ _ hg⟩⟩
  · have := heap_setCell_same w r 2 #[.bool true, .slice ao l.length cap, .int .i64 (at_ : Int)] 170 (.int .i64 (k : Int)) h.blk
    simpa using this
  · exact owns_same h.own fun g hg => Below.heap_setCell _ _ _ _ (fun e => h.apart (by rw [hg, e]))
theorem ROk.drewN {w : World} {B r : Nat} {ao : Option Addr} {cap : Nat} {l : List Nat} {at_ : Nat} (h : ROk w B r ao cap l at_) (q : Nat) : ROk (w.drewN q) B r ao cap l at_ := ⟨h.blk, owns_same h.own (fun _ _ => rfl), h.lt, h.len, h.le, h.hr⟩
theorem keptIn_drewN {S : Nat → Prop} {w w' : World} (h : KeptIn S w w') (q : Nat) : KeptIn S w (w'.drewN q) := ⟨h.os, h.tape, h.output, h.size, h.block⟩

set_option maxHeartbeats 400000 in
theorem rusable_true (r : Nat) (w : World) (h0 : w.cell? ⟨r, 0, none⟩ = some (.bool true)) :
    Calls Tryz.prog 93 #[.pointer (some ⟨r, 0, none⟩)] w fun e w' => e = .returned (.bool true) ∧ w' = w := by
  go_enter Tryz.func93, Tryz.ntmps93
  go_wp2
  go_ret
  exact ⟨rfl, rfl⟩
set_option maxHeartbeats 400000 in
theorem rleft_any (B r : Nat) (ao : Option Addr) (cap : Nat) (l : List Nat) (at_ n : Nat) (w : World) (h : ROk w B r ao cap l at_) (HN : Hid (l.length = n)) :
    Calls Tryz.prog 66 #[.pointer (some ⟨r, 0, none⟩)] w fun e w' => e = .returned (.int .i64 ((n : Int) - (at_ : Int))) ∧ ∃ q, w' = w.drewN q := by
  have HU : Hid (Calls Tryz.prog 93 #[.pointer (some ⟨r, 0, none⟩)] w fun e w' => e = .returned (.bool true) ∧ w' = w) := rusable_true r w h.c0
  have c1 := h.c1
  have c2 := h.c2
  have hle := h.le
  have hlen := h.len
  rw [HN.out] at c1 hle hlen
  have hw : IntKind.i64.wrap ((n : Int) - (at_ : Int)) = (n : Int) - (at_ : Int) := by rw [IntKind.wrap_i64]; omega
  clear h
  go_enter Tryz.func66, Tryz.ntmps66
  go_wp2_with fail
  refine HU.out.mono ?_
  rintro e w1 ⟨rfl, hw1⟩
  rw [hw1]; clear hw1
  go_wp2
  go_quiet (fail)
  go_wp2
  go_ret
  exact ⟨ret_i64 (by first | rfl | simp [hw]), _, rfl⟩

/-- the number that bytes say -/
def valB (l : List Nat) : Nat := l.foldl (fun v b => v * 256 + b) 0
theorem valB_snoc (l : List Nat) (b : Nat) : valB (l ++ [b]) = valB l * 256 + b := by unfold valB; rw [List.foldl_append]; rfl
theorem valB_lt (l : List Nat) (h : ∀ x ∈ l, x < 256) : valB l < 256 ^ l.length := by
  have : ∀ (m : List Nat) (a : Nat) (k : Nat), a < 256 ^ k → (∀ x ∈ m, x < 256) → m.foldl (fun v b => v * 256 + b) a < 256 ^ (k + m.length) := by
    intro m
    induction m with
    | nil => intro a k ha _; simpa using ha
    | cons b m ih =>
      intro a k ha hm
      have hb := hm b (by simp)
      have := ih (a * 256 + b) (k + 1) (by rw [Nat.pow_succ]; omega) (fun x hx => hm x (by simp [hx]))
      simpa [Nat.add_assoc, Nat.add_comm 1] using this
  simpa [valB] using this l 0 0 (by decide) h
theorem getD_lt (c : List Nat) (h : ∀ x ∈ c, x < 256) (j : Nat) : c[j]?.getD 0 < 256 := by
  by_cases hj : j < c.length
  · rw [List.getElem?_eq_getElem hj]; exact h _ (List.getElem_mem hj)
  · rw [List.getElem?_eq_none (by omega)]; decide
theorem or_join (v b : Nat) (hv : v < 72057594037927936) (hb : b < 256) : bits .or .u64 ((v : Int) * 256) (b : Int) = ((v * 256 + b : Nat) : Int) := by
  have h1 := u64_or_nat (v * 256) b (by omega) (by omega)
  rw [nat_join 8 (v * 256) b (by omega) (by omega)] at h1
  rw [← h1]; simp

set_option maxRecDepth 100000 in
set_option maxHeartbeats 1000000 in
theorem rnumber_short (B r : Nat) (ao : Option Addr) (cap : Nat) (l : List Nat) (at_ n size : Nat) (w : World) (h : ROk w B r ao cap l at_) (HN : Hid (l.length = n)) (hs : size ≤ 8) (hsh : n - at_ < size) :
    Calls Tryz.prog 91 #[.pointer (some ⟨r, 0, none⟩), .int .i64 (size : Int)] w fun e w' => e = .returned (.tuple #[.int .u64 0, .int .i64 10]) ∧ ∃ q, w' = w.drewN q := by
  have HU : Hid (Calls Tryz.prog 93 #[.pointer (some ⟨r, 0, none⟩)] w fun e w' => e = .returned (.bool true) ∧ w' = w) := rusable_true r w h.c0
  have HL : Hid (Calls Tryz.prog 66 #[.pointer (some ⟨r, 0, none⟩)] w fun e w' => e = .returned (.int .i64 ((n : Int) - (at_ : Int))) ∧ ∃ q, w' = w.drewN q) := rleft_any B r ao cap l at_ n w h HN
  have hle := h.le
  rw [HN.out] at hle
  have ht : decide ((n : Int) - (at_ : Int) < (size : Int)) = true := by simp; omega
  clear h
  go_enter Tryz.func91, Tryz.ntmps91
  go_wp2_with fail
  refine HU.out.mono ?_
  rintro e w1 ⟨rfl, hw⟩
  rw [hw]; clear hw
  go_wp2_with fail
  refine HL.out.mono ?_
  rintro e w1 ⟨rfl, q, hw⟩
  rw [hw]; clear hw
  go_wp2
  go_ret2
  exact ⟨rfl, _, rfl⟩

set_option maxRecDepth 100000 in
set_option maxHeartbeats 2000000 in
theorem rnumber_ok (B r g cap : Nat) (l : List Nat) (at_ n size : Nat) (w : World) (h : ROk w B r (some ⟨g, 0, none⟩) cap l at_) (HN : Hid (l.length = n)) (hs : size ≤ 8) (hs1 : 1 ≤ size) (hsh : at_ + size ≤ n) :
    Calls Tryz.prog 91 #[.pointer (some ⟨r, 0, none⟩), .int .i64 (size : Int)] w fun e w' => e = .returned (.tuple #[.int .u64 (valB ((l.drop at_).take size) : Nat), .int .i64 0]) ∧ ∃ q, w' = (w.setCell ⟨r, 2, none⟩ (.int .i64 ((at_ + size : Nat) : Int))).drewN q := by
  have HU : Hid (Calls Tryz.prog 93 #[.pointer (some ⟨r, 0, none⟩)] w fun e w' => e = .returned (.bool true) ∧ w' = w) := rusable_true r w h.c0
  have HL : Hid (Calls Tryz.prog 66 #[.pointer (some ⟨r, 0, none⟩)] w fun e w' => e = .returned (.int .i64 ((n : Int) - (at_ : Int))) ∧ ∃ q, w' = w.drewN q) := rleft_any B r _ cap l at_ n w h HN
  have hlen := h.len
  have hcap := h.cap_ge
  have c1 := h.c1
  have c2 := h.c2
  have f2 := blk_free h.blk 2
  rw [HN.out] at hlen hcap c1
  obtain ⟨hcap1, hcap2⟩ := hcap
  have HC : Hid (∀ k, k < n → w.cell? ⟨g, k, none⟩ = some (.int .u8 ((l[k]?.getD 0 : Nat) : Int))) := fun k hk => by
    have := h.own.cellAt k (by rw [HN.out]; omega)
    rw [this]; simp [bv, show k < l.length by have := HN.out; omega]
  have H256 : Hid (∀ x ∈ l, x < 256) := h.lt
  have ht : decide ((n : Int) - (at_ : Int) < (size : Int)) = false := by simp; omega
  have hwr : IntKind.i64.wrap ((at_ : Int) + (size : Int)) = (at_ : Int) + (size : Int) := by rw [IntKind.wrap_i64]; omega
  clear h
  go_enter Tryz.func91, Tryz.ntmps91
  go_wp2_with fail
  refine HU.out.mono ?_
  rintro e w1 ⟨rfl, hw⟩
  rw [hw]; clear hw
  go_wp2_with fail
  refine HL.out.mono ?_
  rintro e w1 ⟨rfl, q, hw⟩
  rw [hw]; clear hw
  go_wp2
  go_quiet (fail)
  go_wp2
  rw [World.drewN_drewN, Nat.add_sub_cancel_left]
  generalize q + nq = q1
  have HD : Hid (((l.drop at_).take size).length = size) := by
    show ((l.drop at_).take size).length = size
    have := HN.out
    rw [List.length_take, List.length_drop]; omega
  go_loop [6, 34] (fun v i => ∃ k : Nat, k ≤ size ∧ i = .int .i64 k ∧ v = .int .u64 (valB ((l.drop at_).take k) : Nat)) (fun _ i => size - (intOf i).toNat)
  case atStart => exact ⟨0, Nat.zero_le _, rfl, rfl⟩
  case round =>
    obtain ⟨k, hk, rfl, rfl⟩ := hrel
    by_cases hlt : k < size
    · have hc := HC.out (at_ + k) (by omega)
      have hx : l[at_ + k]?.getD 0 < 256 := getD_lt l H256.out _
      have hv : valB ((l.drop at_).take k) < 256 ^ k := by
        have := valB_lt ((l.drop at_).take k) (fun x hx => H256.out x (List.mem_of_mem_drop (List.mem_of_mem_take hx)))
        have hln := HN.out
        rwa [List.length_take, List.length_drop, Nat.min_eq_left (by omega)] at this
      have hv7 : valB ((l.drop at_).take k) < 72057594037927936 := Nat.lt_of_lt_of_le hv (Nat.pow_le_pow_right (n := 256) (by decide) (by omega : k ≤ 7))
      have HS : Hid (valB ((l.drop at_).take (k + 1)) = valB ((l.drop at_).take k) * 256 + l[at_ + k]?.getD 0) := by
        have hln := HN.out
        show valB ((l.drop at_).take (k + 1)) = _
        rw [List.take_succ_eq_append_getElem (by rw [List.length_drop]; omega), valB_snoc, List.getElem_drop]
        simp [show at_ + k < l.length by omega]
      generalize valB ((l.drop at_).take k) = v at *
      generalize l[at_ + k]?.getD 0 = x at *
      have hor := or_join v x hv7 hx
      clear hv
      go_wp2
      go_round
      case rel => exact ⟨k + 1, by omega, by go_num, congrArg (Value.int .u64) (by rw [HS.out]; omega)⟩
      case measure => simp [intOf]; omega
    · have ek : k = size := by omega
      subst ek
      go_wp2
      go_ret2
      exact ⟨rfl, q1, rfl⟩

/-- the reader behind a call that read up to place k -/
structure RPost (w w' : World) (B r : Nat) (ao : Option Addr) (cap : Nat) (l : List Nat) (k : Nat) : Prop where
  ok : ROk w' B r ao cap l k
  kept : KeptIn (fun g => g = r) w w'
theorem RPost.same {w : World} {B r : Nat} {ao : Option Addr} {cap : Nat} {l : List Nat} {k : Nat} (h : ROk w B r ao cap l k) (q : Nat) : RPost w (w.drewN q) B r ao cap l k :=
  ⟨h.drewN q, keptIn_drewN (KeptIn.refl _ _) q⟩
theorem RPost.moved {w : World} {B r : Nat} {ao : Option Addr} {cap : Nat} {l : List Nat} {a k : Nat} (h : ROk w B r ao cap l a) (hk : k ≤ l.length) (q : Nat) : RPost w ((w.setCell ⟨r, 2, none⟩ (.int .i64 (k : Int))).drewN q) B r ao cap l k :=
  ⟨(h.move k hk).1.drewN q, keptIn_drewN (h.move k hk).2 q⟩
theorem RPost.trans {w w1 w2 : World} {B r : Nat} {ao : Option Addr} {cap : Nat} {l : List Nat} {a b : Nat} (h : RPost w w1 B r ao cap l a) (k : RPost w1 w2 B r ao cap l b) : RPost w w2 B r ao cap l b :=
  ⟨k.ok, h.kept.trans k.kept (fun _ _ h => h)⟩
theorem some_of_len {w : World} {B r : Nat} {ao : Option Addr} {cap : Nat} {l : List Nat} {a : Nat} (h : ROk w B r ao cap l a) (hl : 0 < l.length) : ∃ g, ao = some ⟨g, 0, none⟩ := by
  rcases h.own.2 with ⟨hv, hn⟩ | ⟨g, c, cur, hv, _⟩
  · omega
  · simp only [Value.slice.injEq] at hv; exact ⟨g, hv.1⟩
theorem rnumber_any (B r : Nat) (ao : Option Addr) (cap : Nat) (l : List Nat) (at_ size : Nat) (w : World) (h : ROk w B r ao cap l at_) (hs : size ≤ 8) (hs1 : 1 ≤ size) :
    Calls Tryz.prog 91 #[.pointer (some ⟨r, 0, none⟩), .int .i64 (size : Int)] w fun e w' =>
      (l.length - at_ < size ∧ e = .returned (.tuple #[.int .u64 0, .int .i64 10]) ∧ RPost w w' B r ao cap l at_) ∨
      (at_ + size ≤ l.length ∧ e = .returned (.tuple #[.int .u64 (valB ((l.drop at_).take size) : Nat), .int .i64 0]) ∧ RPost w w' B r ao cap l (at_ + size)) := by
  by_cases hsh : l.length - at_ < size
  · exact (rnumber_short B r ao cap l at_ l.length size w h rfl hs hsh).mono fun e w' ⟨he, q, hw⟩ => .inl ⟨hsh, he, by rw [hw]; exact RPost.same h q⟩
  · have hle := h.le
    obtain ⟨g, rfl⟩ := some_of_len h (by omega)
    exact (rnumber_ok B r g cap l at_ l.length size w h rfl hs hs1 (by omega)).mono fun e w' ⟨he, q, hw⟩ => .inr ⟨by omega, he, by rw [hw]; exact RPost.moved h (by omega) q⟩
theorem valB_bound (l : List Nat) (a size : Nat) (h : ∀ x ∈ l, x < 256) : valB ((l.drop a).take size) < 256 ^ size :=
  Nat.lt_of_lt_of_le (valB_lt _ (fun x hx => h x (List.mem_of_mem_drop (List.mem_of_mem_take hx)))) (Nat.pow_le_pow_right (n := 256) (by decide) (by rw [List.length_take]; omega))

set_option maxHeartbeats 1000000 in
theorem ru16_any (B r : Nat) (ao : Option Addr) (cap : Nat) (l : List Nat) (at_ : Nat) (w : World) (h : ROk w B r ao cap l at_) :
    Calls Tryz.prog 63 #[.pointer (some ⟨r, 0, none⟩)] w fun e w' =>
      (l.length - at_ < 2 ∧ e = .returned (.tuple #[.int .u16 0, .int .i64 10]) ∧ RPost w w' B r ao cap l at_) ∨
      (at_ + 2 ≤ l.length ∧ e = .returned (.tuple #[.int .u16 (valB ((l.drop at_).take 2) : Nat), .int .i64 0]) ∧ RPost w w' B r ao cap l (at_ + 2)) := by
  have HNm : Hid (Calls Tryz.prog 91 #[.pointer (some ⟨r, 0, none⟩), .int .i64 2] w fun e w' =>
      (l.length - at_ < 2 ∧ e = .returned (.tuple #[.int .u64 0, .int .i64 10]) ∧ RPost w w' B r ao cap l at_) ∨
      (at_ + 2 ≤ l.length ∧ e = .returned (.tuple #[.int .u64 (valB ((l.drop at_).take 2) : Nat), .int .i64 0]) ∧ RPost w w' B r ao cap l (at_ + 2))) := rnumber_any B r ao cap l at_ 2 w h (by decide) (by decide)
  have hb : valB ((l.drop at_).take 2) < 65536 := valB_bound l at_ 2 h.lt
  clear h
  generalize valB ((l.drop at_).take 2) = x at *
  go_enter Tryz.func63, Tryz.ntmps63
  go_wp2_with fail
  refine HNm.out.mono ?_
  rintro e w1 hh
  have HH : Hid _ := hh
  clear hh
  rcases HH.out with ⟨h1, rfl, h3⟩ | ⟨h1, rfl, h3⟩
  · have H3 : Hid (RPost w w1 B r ao cap l at_) := h3
    clear h3
    go_wp2
    go_ret2
    exact .inl ⟨h1, rfl, H3.out⟩
  · have H3 : Hid (RPost w w1 B r ao cap l (at_ + 2)) := h3
    clear h3
    go_wp2
    go_ret2
    exact .inr ⟨h1, rfl, H3.out⟩

set_option maxHeartbeats 1000000 in
theorem ru32_any (B r : Nat) (ao : Option Addr) (cap : Nat) (l : List Nat) (at_ : Nat) (w : World) (h : ROk w B r ao cap l at_) :
    Calls Tryz.prog 67 #[.pointer (some ⟨r, 0, none⟩)] w fun e w' =>
      (l.length - at_ < 4 ∧ e = .returned (.tuple #[.int .u32 0, .int .i64 10]) ∧ RPost w w' B r ao cap l at_) ∨
      (at_ + 4 ≤ l.length ∧ e = .returned (.tuple #[.int .u32 (valB ((l.drop at_).take 4) : Nat), .int .i64 0]) ∧ RPost w w' B r ao cap l (at_ + 4)) := by
  have HNm : Hid (Calls Tryz.prog 91 #[.pointer (some ⟨r, 0, none⟩), .int .i64 4] w fun e w' =>
      (l.length - at_ < 4 ∧ e = .returned (.tuple #[.int .u64 0, .int .i64 10]) ∧ RPost w w' B r ao cap l at_) ∨
      (at_ + 4 ≤ l.length ∧ e = .returned (.tuple #[.int .u64 (valB ((l.drop at_).take 4) : Nat), .int .i64 0]) ∧ RPost w w' B r ao cap l (at_ + 4))) := rnumber_any B r ao cap l at_ 4 w h (by decide) (by decide)
  have hb : valB ((l.drop at_).take 4) < 4294967296 := valB_bound l at_ 4 h.lt
  clear h
  generalize valB ((l.drop at_).take 4) = x at *
  go_enter Tryz.func67, Tryz.ntmps67
  go_wp2_with fail
  refine HNm.out.mono ?_
  rintro e w1 hh
  have HH : Hid _ := hh
  clear hh
  rcases HH.out with ⟨h1, rfl, h3⟩ | ⟨h1, rfl, h3⟩
  · have H3 : Hid (RPost w w1 B r ao cap l at_) := h3
    clear h3
    go_wp2
    go_ret2
    exact .inl ⟨h1, rfl, H3.out⟩
  · have H3 : Hid (RPost w w1 B r ao cap l (at_ + 4)) := h3
    clear h3
    go_wp2
    go_ret2
    exact .inr ⟨h1, rfl, H3.out⟩

set_option maxHeartbeats 1000000 in
theorem ru64_any (B r : Nat) (ao : Option Addr) (cap : Nat) (l : List Nat) (at_ : Nat) (w : World) (h : ROk w B r ao cap l at_) :
    Calls Tryz.prog 64 #[.pointer (some ⟨r, 0, none⟩)] w fun e w' =>
      (l.length - at_ < 8 ∧ e = .returned (.tuple #[.int .u64 0, .int .i64 10]) ∧ RPost w w' B r ao cap l at_) ∨
      (at_ + 8 ≤ l.length ∧ e = .returned (.tuple #[.int .u64 (valB ((l.drop at_).take 8) : Nat), .int .i64 0]) ∧ RPost w w' B r ao cap l (at_ + 8)) := by
  have HNm : Hid (Calls Tryz.prog 91 #[.pointer (some ⟨r, 0, none⟩), .int .i64 8] w fun e w' =>
      (l.length - at_ < 8 ∧ e = .returned (.tuple #[.int .u64 0, .int .i64 10]) ∧ RPost w w' B r ao cap l at_) ∨
      (at_ + 8 ≤ l.length ∧ e = .returned (.tuple #[.int .u64 (valB ((l.drop at_).take 8) : Nat), .int .i64 0]) ∧ RPost w w' B r ao cap l (at_ + 8))) := rnumber_any B r ao cap l at_ 8 w h (by decide) (by decide)
  have hb : valB ((l.drop at_).take 8) < 18446744073709551616 := valB_bound l at_ 8 h.lt
  clear h
  generalize valB ((l.drop at_).take 8) = x at *
  go_enter Tryz.func64, Tryz.ntmps64
  go_wp2_with fail
  refine HNm.out.mono ?_
  rintro e w1 hh
  have HH : Hid _ := hh
  clear hh
  rcases HH.out with ⟨h1, rfl, h3⟩ | ⟨h1, rfl, h3⟩
  · have H3 : Hid (RPost w w1 B r ao cap l at_) := h3
    clear h3
    go_wp2
    go_ret2
    exact .inl ⟨h1, rfl, H3.out⟩
  · have H3 : Hid (RPost w w1 B r ao cap l (at_ + 8)) := h3
    clear h3
    go_wp2
    go_ret2
    exact .inr ⟨h1, rfl, H3.out⟩

/-- bytes as a string -/
def bstr (m : List Nat) : ByteArray := ⟨(m.map UInt8.ofNat).toArray⟩
theorem sbytes_bstr (m : List Nat) (h : ∀ x ∈ m, x < 256) : sbytes (bstr m) = m := by
  unfold sbytes bstr
  rw [List.toList_toArray, List.map_map]
  conv => rhs; rw [← List.map_id m]
  apply List.map_congr_left
  intro x hx
  show (UInt8.ofNat x).toNat = x
  rw [UInt8.toNat_ofNat']; exact Nat.mod_eq_of_lt (h x hx)
theorem bstr_sbytes (s : ByteArray) : bstr (sbytes s) = s := by
  have : (sbytes s).map UInt8.ofNat = s.data.toList := by
    unfold sbytes
    rw [List.map_map]
    conv => rhs; rw [← List.map_id s.data.toList]
    apply List.map_congr_left
    intro x _
    show UInt8.ofNat x.toNat = x
    simp
  unfold bstr
  rw [this]
theorem bstr_size (m : List Nat) : (bstr m).size = m.length := by show (m.map UInt8.ofNat).toArray.size = _; simp
set_option maxHeartbeats 1000000 in
theorem newReader_any (ao : Option Addr) (cap n : Nat) (l : List Nat) (w : World) (h : BRow w ao cap l) (HN : Hid (l.length = n)) :
    Calls Tryz.prog 62 #[.slice ao n cap] w fun e w' => ∃ r ao' cap', e = .returned (.pointer (some ⟨r, 0, none⟩)) ∧ ROk w' w.heap.size r ao' cap' l 0 ∧ Below w.heap.size w w' := by
  have HC : Hid (Calls Tryz.prog 90 #[.slice ao n cap] w fun e w' => ∃ ao' cap', e = .returned (.slice ao' n cap') ∧ w'.ownsRow w.heap.size 5 1 (.slice ao' n cap') n (l.map bv) ∧ Below w.heap.size w w') := by
    have := clone_any ao cap l w h
    rw [HN.out] at this; exact this
  have HL : Hid ((∀ x ∈ l, x < 256) ∧ l.length ≤ 140737488351232) := ⟨h.lt, h.len⟩
  clear h
  go_enter Tryz.func62, Tryz.ntmps62
  go_wp2_with fail
  refine HC.out.mono ?_
  rintro e w1 ⟨ao', cap', rfl, ho, hb⟩
  have HO : Hid (w1.ownsRow w.heap.size 5 1 (.slice ao' n cap') n (l.map bv)) := ho
  have HB : Hid (Below w.heap.size w w1) := hb
  clear ho hb
  go_wp2
  go_ret
  have hn := HN.out
  subst hn
  exact ⟨_, _, _, rfl, ⟨heap_new w1 _, HO.out.alloc _, HL.out.1, HL.out.2, Nat.zero_le _, HB.out.size⟩, HB.out.alloc HB.out.size _⟩

theorem drop_take_row {w : World} {B r g cap : Nat} {l : List Nat} {a : Nat} (h : ROk w B r (some ⟨g, 0, none⟩) cap l a) (k m : Nat) (hk : k + m ≤ l.length) :
    ∀ j u, (((l.drop k).take m).map bv)[j]? = some u → w.cell? ((⟨g, k, none⟩ : Addr).add j) = some u := by
  intro j u hu
  have hj : j < m := by
    have := (List.getElem?_eq_some_iff.1 hu).1
    simp at this; omega
  rw [WideShapes.add_plain, h.own.cellAt (k + j) (by omega), ← hu]
  simp [hj]
end Go.Proofs.YtfifaaopdhcaaaaGreatDoor
