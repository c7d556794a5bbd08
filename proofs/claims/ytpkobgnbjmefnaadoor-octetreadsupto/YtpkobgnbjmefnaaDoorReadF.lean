import Derived.Test.YtpkobgnbjmefnaaDoorReadB
namespace Go.Proofs.YtpkobgnbjmefnaaDoor
open Go.RowKit
set_option linter.unusedVariables false
set_option maxRecDepth 100000

set_option maxHeartbeats 2000000 in
theorem reads_7 (w0 w : World) (r : Nat) (ao1 : Option Addr) (cap1 p : Nat) (ao2 : Option Addr) (cap2 : Nat) (l : List Nat) (a : Nat) (kind n : Int) (h : Both w0 w r ao1 cap1 p ao2 cap2 l a a) (hk : kind = 7) :
    Calls Tryd.prog 18 #[.pointer (some ⟨r, 0, none⟩), .pointer (some ⟨p, 0, none⟩), .agg #[.int .i64 kind, .int .i64 n]] w fun e w' => e = .returned (.bool true) ∧ ∃ a', Both w0 w' r ao1 cap1 p ao2 cap2 l a' a' := by
  have hA : Both w0 (w.alloc (.cells #[.int .i64 kind, .int .i64 n] 47)) r ao1 cap1 p ao2 cap2 l a a := h.below ((Below.refl _ _).alloc (Nat.le_refl _) _)
  have HAt : Hid (∀ q, Calls Tryd.prog 19 #[.pointer (some ⟨r, 0, none⟩)] (((w.alloc (.cells #[.int .i64 kind, .int .i64 n] 47))).drewN q) fun e w' => e = .returned (.int .i64 (a : Int)) ∧ w' = ((w.alloc (.cells #[.int .i64 kind, .int .i64 n] 47))).drewN q) := fun q => rat_any _ r ao1 cap1 l a _ (hA.drewN q).r
  have HL : Hid (∀ q, Calls Tryd.prog 20 #[.pointer (some ⟨r, 0, none⟩)] (((w.alloc (.cells #[.int .i64 kind, .int .i64 n] 47))).drewN q) fun e w' => e = .returned (.int .i64 ((l.length : Int) - (a : Int))) ∧ ∃ q', w' = (((w.alloc (.cells #[.int .i64 kind, .int .i64 n] 47))).drewN q).drewN q') := fun q => rleft_any _ r ao1 cap1 l a _ _ (hA.drewN q).r rfl
  have H0 : Hid (∀ q, Both w0 (((w.alloc (.cells #[.int .i64 kind, .int .i64 n] 47))).drewN q) r ao1 cap1 p ao2 cap2 l a a) := fun q => hA.drewN q
  have c0 := hA.p.c0
  have c1 := hA.p.c1
  have hlen := hA.p.len
  have hle := hA.p.le
  clear h hA
  generalize l.length = m at *
  have t1 : (kind == 1) = false := by rw [beq_eq_false_iff_ne]; omega
  have t2 : (kind == 2) = false := by rw [beq_eq_false_iff_ne]; omega
  have t3 : (kind == 3) = false := by rw [beq_eq_false_iff_ne]; omega
  have t4 : (kind == 4) = false := by rw [beq_eq_false_iff_ne]; omega
  have t5 : (kind == 5) = false := by rw [beq_eq_false_iff_ne]; omega
  have t6 : (kind == 6) = false := by rw [beq_eq_false_iff_ne]; omega
  have t7 : (kind == 7) = true := by rw [beq_iff_eq]; omega
  clear hk
  go_enter Tryd.func18, Tryd.ntmps18
  go_wp2
  go_quiet (first | (go_at_call 19; exact Calls.quiet_of_same (HAt.out _)) | (go_at_call 20; exact Calls.quiet_of (HL.out _)))
  go_wp2
  go_ret
  exact ⟨rfl, a, H0.out _⟩
end Go.Proofs.YtpkobgnbjmefnaaDoor
