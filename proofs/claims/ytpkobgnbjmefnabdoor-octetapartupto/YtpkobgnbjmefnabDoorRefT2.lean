import Derived.Test.YtpkobgnbjmefnabDoorRefT
namespace Go.Proofs.YtpkobgnbjmefnabDoor
open Go.RowKit
set_option linter.unusedVariables false
set_option maxRecDepth 100000

set_option maxHeartbeats 2000000 in
theorem ptext_big (B p g cap : Nat) (l : List Nat) (at_ n N most : Nat) (w : World) (h : POk w B p (some ⟨g, 0, none⟩) cap l at_) (HN : Hid (l.length = n)) (HV4 : Hid (valB ((l.drop at_).take 4) = N)) (h4 : at_ + 4 ≤ n) (hN32 : N < 4294967296) (hm2 : most ≤ 9223372036854775807) (hm : most < N) :
    Calls Tryd.prog 62 #[.pointer (some ⟨p, 0, none⟩), .int .i64 (most : Int)] w fun e w' => e = .returned (.tuple #[.string ⟨#[]⟩, .int .i64 12]) ∧ ∃ q, w' = w.drewN q := by
  have c0 := h.c0
  have c1 := h.c1
  have hlen := h.len
  have hcap := h.cap_ge
  rw [HN.out] at c0 hlen hcap
  obtain ⟨hcap1, hcap2⟩ := hcap
  have ht : decide ((n : Int) - (at_ : Int) < 4) = false := by simp; omega
  have hwr : IntKind.i64.wrap ((at_ : Int) + 4) = (at_ : Int) + 4 := by rw [IntKind.wrap_i64]; omega
  have HV : Hid (∀ q c, Calls Tryd.prog 82 #[.slice (some ⟨g, at_, none⟩) 4 c] (w.drewN q) fun e w' => e = .returned (.int .u64 (N : Int)) ∧ ∃ q', w' = (w.drewN q).drewN q') := fun q c => by
    have hn := HN.out
    have := value_some g at_ c 4 ((l.drop at_).take 4) (w.drewN q) (by decide) (by show _ = _; rw [List.length_take, List.length_drop]; omega) (fun x hx => h.lt x (List.mem_of_mem_drop (List.mem_of_mem_take hx))) (fun k hk => by
      have := (h.drewN q).own.cellAt (at_ + k) (by omega)
      rw [this]; simp [bv, hk, show at_ + k < l.length by omega])
    rwa [HV4.out] at this
  have t0 : decide ((most : Int) < 0) = false := by simp
  have t1 : decide ((most : Int) < (N : Int)) = true := by simp; omega
  clear h
  go_enter Tryd.func62, Tryd.ntmps62
  go_wp2
  go_quiet (fail)
  go_wp2
  go_region_with (go_at_call 82; refine (HV.out _ _).mono ?_; rintro e w4 ⟨rfl, q', hw⟩; rw [hw]; clear hw)
  all_goals
    go_wp2
    go_ret2
    exact ⟨rfl, _, rfl⟩
set_option maxHeartbeats 2000000 in
theorem ptext_past (B p g cap : Nat) (l : List Nat) (at_ n N most : Nat) (w : World) (h : POk w B p (some ⟨g, 0, none⟩) cap l at_) (HN : Hid (l.length = n)) (HV4 : Hid (valB ((l.drop at_).take 4) = N)) (h4 : at_ + 4 ≤ n) (hN32 : N < 4294967296) (hm2 : most ≤ 9223372036854775807) (hm : N ≤ most) (hend : n < at_ + 4 + N) :
    Calls Tryd.prog 62 #[.pointer (some ⟨p, 0, none⟩), .int .i64 (most : Int)] w fun e w' => e = .returned (.tuple #[.string ⟨#[]⟩, .int .i64 10]) ∧ ∃ q, w' = w.drewN q := by
  have c0 := h.c0
  have c1 := h.c1
  have hlen := h.len
  have hcap := h.cap_ge
  rw [HN.out] at c0 hlen hcap
  obtain ⟨hcap1, hcap2⟩ := hcap
  have ht : decide ((n : Int) - (at_ : Int) < 4) = false := by simp; omega
  have hwr : IntKind.i64.wrap ((at_ : Int) + 4) = (at_ : Int) + 4 := by rw [IntKind.wrap_i64]; omega
  have HV : Hid (∀ q c, Calls Tryd.prog 82 #[.slice (some ⟨g, at_, none⟩) 4 c] (w.drewN q) fun e w' => e = .returned (.int .u64 (N : Int)) ∧ ∃ q', w' = (w.drewN q).drewN q') := fun q c => by
    have hn := HN.out
    have := value_some g at_ c 4 ((l.drop at_).take 4) (w.drewN q) (by decide) (by show _ = _; rw [List.length_take, List.length_drop]; omega) (fun x hx => h.lt x (List.mem_of_mem_drop (List.mem_of_mem_take hx))) (fun k hk => by
      have := (h.drewN q).own.cellAt (at_ + k) (by omega)
      rw [this]; simp [bv, hk, show at_ + k < l.length by omega])
    rwa [HV4.out] at this
  have t0 : decide ((most : Int) < 0) = false := by simp
  have t1 : decide ((most : Int) < (N : Int)) = false := by simp; omega
  have hwu : IntKind.u64.wrap ((n : Int) - (at_ : Int) - 4) = (n : Int) - (at_ : Int) - 4 := by rw [IntKind.wrap_u64]; omega
  have t2 : decide ((n : Int) - (at_ : Int) - 4 < (N : Int)) = true := by simp; omega
  clear h
  go_enter Tryd.func62, Tryd.ntmps62
  go_wp2
  go_quiet (fail)
  go_wp2
  go_region_with (go_at_call 82; refine (HV.out _ _).mono ?_; rintro e w4 ⟨rfl, q', hw⟩; rw [hw]; clear hw)
  all_goals
    go_wp2
    go_quiet (fail)
    go_wp2
    go_ret2
    exact ⟨rfl, _, by first | rfl | exact World.drewN_drewN _ _ _⟩
end Go.Proofs.YtpkobgnbjmefnabDoor
