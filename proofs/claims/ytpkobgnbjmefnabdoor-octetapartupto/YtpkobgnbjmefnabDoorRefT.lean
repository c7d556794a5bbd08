import Derived.Test.YtpkobgnbjmefnabDoorRefU
namespace Go.Proofs.YtpkobgnbjmefnabDoor
open Go.RowKit
set_option linter.unusedVariables false
set_option maxRecDepth 100000

set_option maxHeartbeats 1000000 in
theorem pend_any (B p : Nat) (ao : Option Addr) (cap : Nat) (l : List Nat) (at_ n : Nat) (w : World) (h : POk w B p ao cap l at_) (HN : Hid (l.length = n)) :
    Calls Tryd.prog 66 #[.pointer (some ⟨p, 0, none⟩)] w fun e w' => e = .returned (.int .i64 (if at_ < n then 11 else 0)) ∧ ∃ q, w' = w.drewN q := by
  have c0 := h.c0
  have c1 := h.c1
  rw [HN.out] at c0
  clear h
  by_cases hlt : at_ < n
  · rw [if_pos hlt]
    go_enter Tryd.func66, Tryd.ntmps66
    go_wp2
    go_quiet (fail)
    go_wp2
    go_ret
    exact ⟨rfl, _, rfl⟩
  · rw [if_neg hlt]
    go_enter Tryd.func66, Tryd.ntmps66
    go_wp2
    go_quiet (fail)
    go_wp2
    go_ret
    exact ⟨rfl, _, rfl⟩

set_option maxHeartbeats 1000000 in
theorem ptext_none (B p : Nat) (ao : Option Addr) (cap : Nat) (l : List Nat) (at_ n : Nat) (most : Int) (w : World) (h : POk w B p ao cap l at_) (HN : Hid (l.length = n)) (h4 : n - at_ < 4) :
    Calls Tryd.prog 62 #[.pointer (some ⟨p, 0, none⟩), .int .i64 most] w fun e w' => e = .returned (.tuple #[.string ⟨#[]⟩, .int .i64 10]) ∧ ∃ q, w' = w.drewN q := by
  have c0 := h.c0
  have c1 := h.c1
  have hle := h.le
  have hlen := h.len
  rw [HN.out] at c0 hle hlen
  have ht : decide ((n : Int) - (at_ : Int) < 4) = true := by simp; omega
  clear h
  go_enter Tryd.func62, Tryd.ntmps62
  go_wp2
  go_quiet (fail)
  go_wp2
  go_ret2
  exact ⟨rfl, _, rfl⟩

set_option maxHeartbeats 2000000 in
theorem ptext_negm (B p g cap : Nat) (l : List Nat) (at_ n N : Nat) (most : Int) (w : World) (h : POk w B p (some ⟨g, 0, none⟩) cap l at_) (HN : Hid (l.length = n)) (HV4 : Hid (valB ((l.drop at_).take 4) = N)) (h4 : at_ + 4 ≤ n) (hm : most < 0) :
    Calls Tryd.prog 62 #[.pointer (some ⟨p, 0, none⟩), .int .i64 most] w fun e w' => e = .returned (.tuple #[.string ⟨#[]⟩, .int .i64 12]) ∧ ∃ q, w' = w.drewN q := by
  have c0 := h.c0
  have c1 := h.c1
  have hlen := h.len
  have hcap := h.cap_ge
  rw [HN.out] at c0 hlen hcap
  obtain ⟨hcap1, hcap2⟩ := hcap
  have ht : decide ((n : Int) - (at_ : Int) < 4) = false := by simp; omega
  have hwr : IntKind.i64.wrap ((at_ : Int) + 4) = (at_ : Int) + 4 := by rw [IntKind.wrap_i64]; omega
  have HV : Hid (∀ q c, Calls Tryd.prog 82 #[.slice (some ⟨g, at_, none⟩) 4 c] (w.drewN q) fun e w' => e = .returned (.int .u64 (N : Int)) ∧ ∃ q', w' = (w.drewN q).drewN q') := fun q c => by
    have hn := HN.out
    have := value_some g at_ c 4 ((l.drop at_).take 4) (w.drewN q) (by decide) (by show _ = _; rw [List.length_take, List.length_drop]; omega) (fun x hx => h.lt x (List.mem_of_mem_drop (List.mem_of_mem_take hx))) (fun k hk => by
      have := (h.drewN q).own.cellAt (at_ + k) (by omega)
      rw [this]; simp [bv, hk, show at_ + k < l.length by omega])
    rwa [HV4.out] at this
  have t0 : decide (most < 0) = true := by simp; omega
  clear h
  go_enter Tryd.func62, Tryd.ntmps62
  go_wp2
  go_quiet (fail)
  go_wp2
  go_region_with (go_at_call 82; refine (HV.out _ _).mono ?_; rintro e w4 ⟨rfl, q', hw⟩; rw [hw]; clear hw)
  all_goals
    go_wp2
    go_ret2
    exact ⟨rfl, _, rfl⟩
end Go.Proofs.YtpkobgnbjmefnabDoor
