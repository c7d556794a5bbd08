import Derived.Test.YtpkobgnbjmefnabDoorRefR
namespace Go.Proofs.YtpkobgnbjmefnabDoor
open Go.RowKit
set_option linter.unusedVariables false
set_option maxRecDepth 100000

set_option maxHeartbeats 1000000 in
theorem puint_short (B p : Nat) (ao : Option Addr) (cap : Nat) (l : List Nat) (at_ n size : Nat) (w : World) (h : POk w B p ao cap l at_) (HN : Hid (l.length = n)) (hs : size ≤ 8) (hsh : n - at_ < size) :
    Calls Tryd.prog 54 #[.pointer (some ⟨p, 0, none⟩), .int .i64 (size : Int)] w fun e w' => e = .returned (.tuple #[.int .u64 0, .int .i64 10]) ∧ ∃ q, w' = w.drewN q := by
  have c0 := h.c0
  have c1 := h.c1
  have hle := h.le
  have hlen := h.len
  rw [HN.out] at c0 hle hlen
  have ht : decide ((n : Int) - (at_ : Int) < (size : Int)) = true := by simp; omega
  clear h
  go_enter Tryd.func54, Tryd.ntmps54
  go_wp2
  go_quiet (fail)
  go_wp2
  go_ret2
  exact ⟨rfl, _, rfl⟩

set_option maxHeartbeats 2000000 in
theorem puint_ok (B p g cap : Nat) (l : List Nat) (at_ n size : Nat) (w : World) (h : POk w B p (some ⟨g, 0, none⟩) cap l at_) (HN : Hid (l.length = n)) (hs : size ≤ 8) (hs1 : 1 ≤ size) (hsh : at_ + size ≤ n) :
    Calls Tryd.prog 54 #[.pointer (some ⟨p, 0, none⟩), .int .i64 (size : Int)] w fun e w' => e = .returned (.tuple #[.int .u64 (valB ((l.drop at_).take size) : Nat), .int .i64 0]) ∧ PPost w w' B p (some ⟨g, 0, none⟩) cap l (at_ + size) := by
  have c0 := h.c0
  have c1 := h.c1
  have hlen := h.len
  have hcap := h.cap_ge
  have f1 := blk_free h.blk 1
  rw [HN.out] at c0 hlen hcap
  obtain ⟨hcap1, hcap2⟩ := hcap
  have ht : decide ((n : Int) - (at_ : Int) < (size : Int)) = false := by simp; omega
  have hwr : IntKind.i64.wrap ((at_ : Int) + (size : Int)) = (at_ : Int) + (size : Int) := by rw [IntKind.wrap_i64]; omega
  have HV : Hid (∀ q c, Calls Tryd.prog 82 #[.slice (some ⟨g, at_, none⟩) size c] (w.drewN q) fun e w' => e = .returned (.int .u64 (valB ((l.drop at_).take size) : Nat)) ∧ ∃ q', w' = (w.drewN q).drewN q') := fun q c => by
    have hn := HN.out
    refine value_some g at_ c size ((l.drop at_).take size) (w.drewN q) hs (by show _ = _; rw [List.length_take, List.length_drop]; omega) (fun x hx => h.lt x (List.mem_of_mem_drop (List.mem_of_mem_take hx))) (fun k hk => ?_)
    have := (h.drewN q).own.cellAt (at_ + k) (by omega)
    rw [this]; simp [bv, hk, show at_ + k < l.length by omega]
  have HF : Hid (∀ q, PPost w ((w.drewN q).setCell ⟨p, 1, none⟩ (.int .i64 ((at_ + size : Nat) : Int))) B p (some ⟨g, 0, none⟩) cap l (at_ + size)) := fun q => by
    have hmv := (h.drewN q).move (at_ + size) (by have := HN.out; omega)
    exact ⟨hmv.1, (keptIn_drewN (KeptIn.refl _ _) q).trans hmv.2 (fun _ _ h => h)⟩
  clear h
  generalize valB ((l.drop at_).take size) = x at *
  go_enter Tryd.func54, Tryd.ntmps54
  go_wp2
  go_quiet (fail)
  go_wp2
  go_region_with (go_at_call 82; refine (HV.out _ _).mono ?_; rintro e w4 ⟨rfl, q', hw⟩; rw [hw]; clear hw)
  all_goals
    go_wp2
    go_ret2
    exact ⟨rfl, HF.out _⟩
theorem puint_any (B p : Nat) (ao : Option Addr) (cap : Nat) (l : List Nat) (at_ size : Nat) (w : World) (h : POk w B p ao cap l at_) (hs : size ≤ 8) (hs1 : 1 ≤ size) :
    Calls Tryd.prog 54 #[.pointer (some ⟨p, 0, none⟩), .int .i64 (size : Int)] w fun e w' =>
      (l.length - at_ < size ∧ e = .returned (.tuple #[.int .u64 0, .int .i64 10]) ∧ PPost w w' B p ao cap l at_) ∨
      (at_ + size ≤ l.length ∧ e = .returned (.tuple #[.int .u64 (valB ((l.drop at_).take size) : Nat), .int .i64 0]) ∧ PPost w w' B p ao cap l (at_ + size)) := by
  have hle := h.le
  by_cases hsh : l.length - at_ < size
  · refine (puint_short B p ao cap l at_ _ size w h rfl hs hsh).mono fun e w' hh => ?_
    obtain ⟨he, q, hw⟩ := hh
    subst hw
    exact .inl ⟨hsh, he, h.same q⟩
  · rcases h.form with ⟨rfl, rfl, rfl⟩ | ⟨g, rfl⟩
    · simp at hsh; omega
    · exact (puint_ok B p g cap l at_ _ size w h rfl hs hs1 (by omega)).mono fun e w' hh => .inr ⟨by omega, hh⟩

end Go.Proofs.YtpkobgnbjmefnabDoor
