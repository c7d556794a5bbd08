import Derived.Test.YtpkobgnbjmefnabDoorReaderW
namespace Go.Proofs.YtpkobgnbjmefnabDoor
open Go.RowKit
set_option linter.unusedVariables false
set_option maxRecDepth 100000

/-- the reader behind a call that read up to place k -/
structure RPost (w w' : World) (B r : Nat) (ao : Option Addr) (cap : Nat) (l : List Nat) (k : Nat) : Prop where
  ok : ROk w' B r ao cap l k
  kept : KeptIn (fun g => g = r) w w'
theorem RPost.same {w : World} {B r : Nat} {ao : Option Addr} {cap : Nat} {l : List Nat} {k : Nat} (h : ROk w B r ao cap l k) (q : Nat) : RPost w (w.drewN q) B r ao cap l k :=
  ⟨h.drewN q, keptIn_drewN (KeptIn.refl _ _) q⟩
theorem RPost.moved {w : World} {B r : Nat} {ao : Option Addr} {cap : Nat} {l : List Nat} {a k : Nat} (h : ROk w B r ao cap l a) (hk : k ≤ l.length) (q : Nat) : RPost w ((w.setCell ⟨r, 2, none⟩ (.int .i64 (k : Int))).drewN q) B r ao cap l k :=
  ⟨(h.move k hk).1.drewN q, keptIn_drewN (h.move k hk).2 q⟩
theorem RPost.trans {w w1 w2 : World} {B r : Nat} {ao : Option Addr} {cap : Nat} {l : List Nat} {a b : Nat} (h : RPost w w1 B r ao cap l a) (k : RPost w1 w2 B r ao cap l b) : RPost w w2 B r ao cap l b :=
  ⟨k.ok, h.kept.trans k.kept (fun _ _ h => h)⟩
theorem some_of_len {w : World} {B r : Nat} {ao : Option Addr} {cap : Nat} {l : List Nat} {a : Nat} (h : ROk w B r ao cap l a) (hl : 0 < l.length) : ∃ g, ao = some ⟨g, 0, none⟩ := by
  rcases h.own.2 with ⟨hv, hn⟩ | ⟨g, c, cur, hv, _⟩
  · omega
  · simp only [Value.slice.injEq] at hv; exact ⟨g, hv.1⟩
theorem rnumber_any (B r : Nat) (ao : Option Addr) (cap : Nat) (l : List Nat) (at_ size : Nat) (w : World) (h : ROk w B r ao cap l at_) (hs : size ≤ 8) (hs1 : 1 ≤ size) :
    Calls Tryd.prog 81 #[.pointer (some ⟨r, 0, none⟩), .int .i64 (size : Int)] w fun e w' =>
      (l.length - at_ < size ∧ e = .returned (.tuple #[.int .u64 0, .int .i64 10]) ∧ RPost w w' B r ao cap l at_) ∨
      (at_ + size ≤ l.length ∧ e = .returned (.tuple #[.int .u64 (valB ((l.drop at_).take size) : Nat), .int .i64 0]) ∧ RPost w w' B r ao cap l (at_ + size)) := by
  by_cases hsh : l.length - at_ < size
  · exact (rnumber_short B r ao cap l at_ l.length size w h rfl hs hsh).mono fun e w' ⟨he, q, hw⟩ => .inl ⟨hsh, he, by rw [hw]; exact RPost.same h q⟩
  · have hle := h.le
    obtain ⟨g, rfl⟩ := some_of_len h (by omega)
    exact (rnumber_ok B r g cap l at_ l.length size w h rfl hs hs1 (by omega)).mono fun e w' ⟨he, q, hw⟩ => .inr ⟨by omega, he, by rw [hw]; exact RPost.moved h (by omega) q⟩
theorem valB_bound (l : List Nat) (a size : Nat) (h : ∀ x ∈ l, x < 256) : valB ((l.drop a).take size) < 256 ^ size :=
  Nat.lt_of_lt_of_le (valB_lt _ (fun x hx => h x (List.mem_of_mem_drop (List.mem_of_mem_take hx)))) (Nat.pow_le_pow_right (n := 256) (by decide) (by rw [List.length_take]; omega))

set_option maxHeartbeats 1000000 in
theorem ru8_any (B r : Nat) (ao : Option Addr) (cap : Nat) (l : List Nat) (at_ : Nat) (w : World) (h : ROk w B r ao cap l at_) :
    Calls Tryd.prog 53 #[.pointer (some ⟨r, 0, none⟩)] w fun e w' =>
      (l.length - at_ < 1 ∧ e = .returned (.tuple #[.int .u8 0, .int .i64 10]) ∧ RPost w w' B r ao cap l at_) ∨
      (at_ + 1 ≤ l.length ∧ e = .returned (.tuple #[.int .u8 (valB ((l.drop at_).take 1) : Nat), .int .i64 0]) ∧ RPost w w' B r ao cap l (at_ + 1)) := by
  have HNm : Hid (Calls Tryd.prog 81 #[.pointer (some ⟨r, 0, none⟩), .int .i64 1] w fun e w' =>
      (l.length - at_ < 1 ∧ e = .returned (.tuple #[.int .u64 0, .int .i64 10]) ∧ RPost w w' B r ao cap l at_) ∨
      (at_ + 1 ≤ l.length ∧ e = .returned (.tuple #[.int .u64 (valB ((l.drop at_).take 1) : Nat), .int .i64 0]) ∧ RPost w w' B r ao cap l (at_ + 1))) := rnumber_any B r ao cap l at_ 1 w h (by decide) (by decide)
  have hb : valB ((l.drop at_).take 1) < 256 := valB_bound l at_ 1 h.lt
  clear h
  generalize valB ((l.drop at_).take 1) = x at *
  go_enter Tryd.func53, Tryd.ntmps53
  go_wp2_with fail
  refine HNm.out.mono ?_
  rintro e w1 hh
  have HH : Hid _ := hh
  clear hh
  rcases HH.out with ⟨h1, rfl, h3⟩ | ⟨h1, rfl, h3⟩
  · have H3 : Hid (RPost w w1 B r ao cap l at_) := h3
    clear h3
    go_wp2
    go_ret2
    exact .inl ⟨h1, rfl, H3.out⟩
  · have H3 : Hid (RPost w w1 B r ao cap l (at_ + 1)) := h3
    clear h3
    go_wp2
    go_ret2
    exact .inr ⟨h1, rfl, H3.out⟩

set_option maxHeartbeats 1000000 in
theorem ru16_any (B r : Nat) (ao : Option Addr) (cap : Nat) (l : List Nat) (at_ : Nat) (w : World) (h : ROk w B r ao cap l at_) :
    Calls Tryd.prog 55 #[.pointer (some ⟨r, 0, none⟩)] w fun e w' =>
      (l.length - at_ < 2 ∧ e = .returned (.tuple #[.int .u16 0, .int .i64 10]) ∧ RPost w w' B r ao cap l at_) ∨
      (at_ + 2 ≤ l.length ∧ e = .returned (.tuple #[.int .u16 (valB ((l.drop at_).take 2) : Nat), .int .i64 0]) ∧ RPost w w' B r ao cap l (at_ + 2)) := by
  have HNm : Hid (Calls Tryd.prog 81 #[.pointer (some ⟨r, 0, none⟩), .int .i64 2] w fun e w' =>
      (l.length - at_ < 2 ∧ e = .returned (.tuple #[.int .u64 0, .int .i64 10]) ∧ RPost w w' B r ao cap l at_) ∨
      (at_ + 2 ≤ l.length ∧ e = .returned (.tuple #[.int .u64 (valB ((l.drop at_).take 2) : Nat), .int .i64 0]) ∧ RPost w w' B r ao cap l (at_ + 2))) := rnumber_any B r ao cap l at_ 2 w h (by decide) (by decide)
  have hb : valB ((l.drop at_).take 2) < 65536 := valB_bound l at_ 2 h.lt
  clear h
  generalize valB ((l.drop at_).take 2) = x at *
  go_enter Tryd.func55, Tryd.ntmps55
  go_wp2_with fail
  refine HNm.out.mono ?_
  rintro e w1 hh
  have HH : Hid _ := hh
  clear hh
  rcases HH.out with ⟨h1, rfl, h3⟩ | ⟨h1, rfl, h3⟩
  · have H3 : Hid (RPost w w1 B r ao cap l at_) := h3
    clear h3
    go_wp2
    go_ret2
    exact .inl ⟨h1, rfl, H3.out⟩
  · have H3 : Hid (RPost w w1 B r ao cap l (at_ + 2)) := h3
    clear h3
    go_wp2
    go_ret2
    exact .inr ⟨h1, rfl, H3.out⟩

set_option maxHeartbeats 1000000 in
theorem ru32_any (B r : Nat) (ao : Option Addr) (cap : Nat) (l : List Nat) (at_ : Nat) (w : World) (h : ROk w B r ao cap l at_) :
    Calls Tryd.prog 56 #[.pointer (some ⟨r, 0, none⟩)] w fun e w' =>
      (l.length - at_ < 4 ∧ e = .returned (.tuple #[.int .u32 0, .int .i64 10]) ∧ RPost w w' B r ao cap l at_) ∨
      (at_ + 4 ≤ l.length ∧ e = .returned (.tuple #[.int .u32 (valB ((l.drop at_).take 4) : Nat), .int .i64 0]) ∧ RPost w w' B r ao cap l (at_ + 4)) := by
  have HNm : Hid (Calls Tryd.prog 81 #[.pointer (some ⟨r, 0, none⟩), .int .i64 4] w fun e w' =>
      (l.length - at_ < 4 ∧ e = .returned (.tuple #[.int .u64 0, .int .i64 10]) ∧ RPost w w' B r ao cap l at_) ∨
      (at_ + 4 ≤ l.length ∧ e = .returned (.tuple #[.int .u64 (valB ((l.drop at_).take 4) : Nat), .int .i64 0]) ∧ RPost w w' B r ao cap l (at_ + 4))) := rnumber_any B r ao cap l at_ 4 w h (by decide) (by decide)
  have hb : valB ((l.drop at_).take 4) < 4294967296 := valB_bound l at_ 4 h.lt
  clear h
  generalize valB ((l.drop at_).take 4) = x at *
  go_enter Tryd.func56, Tryd.ntmps56
  go_wp2_with fail
  refine HNm.out.mono ?_
  rintro e w1 hh
  have HH : Hid _ := hh
  clear hh
  rcases HH.out with ⟨h1, rfl, h3⟩ | ⟨h1, rfl, h3⟩
  · have H3 : Hid (RPost w w1 B r ao cap l at_) := h3
    clear h3
    go_wp2
    go_ret2
    exact .inl ⟨h1, rfl, H3.out⟩
  · have H3 : Hid (RPost w w1 B r ao cap l (at_ + 4)) := h3
    clear h3
    go_wp2
    go_ret2
    exact .inr ⟨h1, rfl, H3.out⟩

set_option maxHeartbeats 1000000 in
theorem ru64_any (B r : Nat) (ao : Option Addr) (cap : Nat) (l : List Nat) (at_ : Nat) (w : World) (h : ROk w B r ao cap l at_) :
    Calls Tryd.prog 57 #[.pointer (some ⟨r, 0, none⟩)] w fun e w' =>
      (l.length - at_ < 8 ∧ e = .returned (.tuple #[.int .u64 0, .int .i64 10]) ∧ RPost w w' B r ao cap l at_) ∨
      (at_ + 8 ≤ l.length ∧ e = .returned (.tuple #[.int .u64 (valB ((l.drop at_).take 8) : Nat), .int .i64 0]) ∧ RPost w w' B r ao cap l (at_ + 8)) := by
  have HNm : Hid (Calls Tryd.prog 81 #[.pointer (some ⟨r, 0, none⟩), .int .i64 8] w fun e w' =>
      (l.length - at_ < 8 ∧ e = .returned (.tuple #[.int .u64 0, .int .i64 10]) ∧ RPost w w' B r ao cap l at_) ∨
      (at_ + 8 ≤ l.length ∧ e = .returned (.tuple #[.int .u64 (valB ((l.drop at_).take 8) : Nat), .int .i64 0]) ∧ RPost w w' B r ao cap l (at_ + 8))) := rnumber_any B r ao cap l at_ 8 w h (by decide) (by decide)
  have hb : valB ((l.drop at_).take 8) < 18446744073709551616 := valB_bound l at_ 8 h.lt
  clear h
  generalize valB ((l.drop at_).take 8) = x at *
  go_enter Tryd.func57, Tryd.ntmps57
  go_wp2_with fail
  refine HNm.out.mono ?_
  rintro e w1 hh
  have HH : Hid _ := hh
  clear hh
  rcases HH.out with ⟨h1, rfl, h3⟩ | ⟨h1, rfl, h3⟩
  · have H3 : Hid (RPost w w1 B r ao cap l at_) := h3
    clear h3
    go_wp2
    go_ret2
    exact .inl ⟨h1, rfl, H3.out⟩
  · have H3 : Hid (RPost w w1 B r ao cap l (at_ + 8)) := h3
    clear h3
    go_wp2
    go_ret2
    exact .inr ⟨h1, rfl, H3.out⟩
end Go.Proofs.YtpkobgnbjmefnabDoor
