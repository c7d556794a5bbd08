import Derived.Test.YtpkobgnbjmefnaaDoorReadB
namespace Go.Proofs.YtpkobgnbjmefnaaDoor
open Go.RowKit
set_option linter.unusedVariables false
set_option maxRecDepth 100000

set_option maxHeartbeats 2000000 in
theorem reads_1 (w0 w : World) (r : Nat) (ao1 : Option Addr) (cap1 p : Nat) (ao2 : Option Addr) (cap2 : Nat) (l : List Nat) (a : Nat) (kind n : Int) (h : Both w0 w r ao1 cap1 p ao2 cap2 l a a) (hk : kind = 1) :
    Calls Tryd.prog 18 #[.pointer (some ⟨r, 0, none⟩), .pointer (some ⟨p, 0, none⟩), .agg #[.int .i64 kind, .int .i64 n]] w fun e w' => e = .returned (.bool true) ∧ ∃ a', Both w0 w' r ao1 cap1 p ao2 cap2 l a' a' := by
  have hA : Both w0 (w.alloc (.cells #[.int .i64 kind, .int .i64 n] 47)) r ao1 cap1 p ao2 cap2 l a a := h.below ((Below.refl _ _).alloc (Nat.le_refl _) _)
  have HR : Hid (Calls Tryd.prog 29 #[.pointer (some ⟨r, 0, none⟩)] (w.alloc (.cells #[.int .i64 kind, .int .i64 n] 47)) fun e w' => e = .returned (.tuple #[.int .u8 (numV l a 1 : Nat), .int .i64 (numE l a 1 : Nat)]) ∧ Both w0 w' r ao1 cap1 p ao2 cap2 l (numA l a 1) a) :=
    (ru8_any _ r ao1 cap1 l a _ hA.r).mono fun e w' hh => ⟨(num_r hA.r.le hh).1, hA.afterR (num_r hA.r.le hh).2⟩
  have HP : Hid (∀ W, Both w0 W r ao1 cap1 p ao2 cap2 l (numA l a 1) a → Calls Tryd.prog 44 #[.pointer (some ⟨p, 0, none⟩), .int .i64 1] W fun e w' => e = .returned (.tuple #[.int .u64 (numV l a 1 : Nat), .int .i64 (numE l a 1 : Nat)]) ∧ Both w0 w' r ao1 cap1 p ao2 cap2 l (numA l a 1) (numA l a 1)) := fun W hW =>
    (puint_any _ p ao2 cap2 l a 1 W hW.p (by decide) (by decide)).mono fun e w' hh => ⟨(num_p hW.p.le hh).1, hW.afterP (num_p hW.p.le hh).2⟩
  have hv : numV l a 1 < 256 := numV_lt l a 1 h.r.lt
  have he := numE_le l a 1
  clear h hA
  generalize numV l a 1 = v at *
  generalize numE l a 1 = c at *
  generalize numA l a 1 = a' at *
  have t1 : (kind == 1) = true := by rw [beq_iff_eq]; omega
  clear hk
  go_enter Tryd.func18, Tryd.ntmps18
  go_wp2_with fail
  refine HR.out.mono ?_
  rintro e w1 ⟨rfl, h1⟩
  have H1 : Hid (Both w0 w1 r ao1 cap1 p ao2 cap2 l a' a) := h1
  clear h1
  go_wp2_with fail
  refine (HP.out w1 H1.out).mono ?_
  rintro e w2 ⟨rfl, h2⟩
  have H2 : Hid (Both w0 w2 r ao1 cap1 p ao2 cap2 l a' a') := h2
  clear h2
  go_wp2
  go_ret
  exact ⟨rfl, a', H2.out⟩

set_option maxHeartbeats 2000000 in
theorem reads_2 (w0 w : World) (r : Nat) (ao1 : Option Addr) (cap1 p : Nat) (ao2 : Option Addr) (cap2 : Nat) (l : List Nat) (a : Nat) (kind n : Int) (h : Both w0 w r ao1 cap1 p ao2 cap2 l a a) (hk : kind = 2) :
    Calls Tryd.prog 18 #[.pointer (some ⟨r, 0, none⟩), .pointer (some ⟨p, 0, none⟩), .agg #[.int .i64 kind, .int .i64 n]] w fun e w' => e = .returned (.bool true) ∧ ∃ a', Both w0 w' r ao1 cap1 p ao2 cap2 l a' a' := by
  have hA : Both w0 (w.alloc (.cells #[.int .i64 kind, .int .i64 n] 47)) r ao1 cap1 p ao2 cap2 l a a := h.below ((Below.refl _ _).alloc (Nat.le_refl _) _)
  have HR : Hid (Calls Tryd.prog 30 #[.pointer (some ⟨r, 0, none⟩)] (w.alloc (.cells #[.int .i64 kind, .int .i64 n] 47)) fun e w' => e = .returned (.tuple #[.int .u16 (numV l a 2 : Nat), .int .i64 (numE l a 2 : Nat)]) ∧ Both w0 w' r ao1 cap1 p ao2 cap2 l (numA l a 2) a) :=
    (ru16_any _ r ao1 cap1 l a _ hA.r).mono fun e w' hh => ⟨(num_r hA.r.le hh).1, hA.afterR (num_r hA.r.le hh).2⟩
  have HP : Hid (∀ W, Both w0 W r ao1 cap1 p ao2 cap2 l (numA l a 2) a → Calls Tryd.prog 44 #[.pointer (some ⟨p, 0, none⟩), .int .i64 2] W fun e w' => e = .returned (.tuple #[.int .u64 (numV l a 2 : Nat), .int .i64 (numE l a 2 : Nat)]) ∧ Both w0 w' r ao1 cap1 p ao2 cap2 l (numA l a 2) (numA l a 2)) := fun W hW =>
    (puint_any _ p ao2 cap2 l a 2 W hW.p (by decide) (by decide)).mono fun e w' hh => ⟨(num_p hW.p.le hh).1, hW.afterP (num_p hW.p.le hh).2⟩
  have hv : numV l a 2 < 65536 := numV_lt l a 2 h.r.lt
  have he := numE_le l a 2
  clear h hA
  generalize numV l a 2 = v at *
  generalize numE l a 2 = c at *
  generalize numA l a 2 = a' at *
  have t1 : (kind == 1) = false := by rw [beq_eq_false_iff_ne]; omega
  have t2 : (kind == 2) = true := by rw [beq_iff_eq]; omega
  clear hk
  go_enter Tryd.func18, Tryd.ntmps18
  go_wp2_with fail
  refine HR.out.mono ?_
  rintro e w1 ⟨rfl, h1⟩
  have H1 : Hid (Both w0 w1 r ao1 cap1 p ao2 cap2 l a' a) := h1
  clear h1
  go_wp2_with fail
  refine (HP.out w1 H1.out).mono ?_
  rintro e w2 ⟨rfl, h2⟩
  have H2 : Hid (Both w0 w2 r ao1 cap1 p ao2 cap2 l a' a') := h2
  clear h2
  go_wp2
  go_ret
  exact ⟨rfl, a', H2.out⟩

set_option maxHeartbeats 2000000 in
theorem reads_3 (w0 w : World) (r : Nat) (ao1 : Option Addr) (cap1 p : Nat) (ao2 : Option Addr) (cap2 : Nat) (l : List Nat) (a : Nat) (kind n : Int) (h : Both w0 w r ao1 cap1 p ao2 cap2 l a a) (hk : kind = 3) :
    Calls Tryd.prog 18 #[.pointer (some ⟨r, 0, none⟩), .pointer (some ⟨p, 0, none⟩), .agg #[.int .i64 kind, .int .i64 n]] w fun e w' => e = .returned (.bool true) ∧ ∃ a', Both w0 w' r ao1 cap1 p ao2 cap2 l a' a' := by
  have hA : Both w0 (w.alloc (.cells #[.int .i64 kind, .int .i64 n] 47)) r ao1 cap1 p ao2 cap2 l a a := h.below ((Below.refl _ _).alloc (Nat.le_refl _) _)
  have HR : Hid (Calls Tryd.prog 31 #[.pointer (some ⟨r, 0, none⟩)] (w.alloc (.cells #[.int .i64 kind, .int .i64 n] 47)) fun e w' => e = .returned (.tuple #[.int .u32 (numV l a 4 : Nat), .int .i64 (numE l a 4 : Nat)]) ∧ Both w0 w' r ao1 cap1 p ao2 cap2 l (numA l a 4) a) :=
    (ru32_any _ r ao1 cap1 l a _ hA.r).mono fun e w' hh => ⟨(num_r hA.r.le hh).1, hA.afterR (num_r hA.r.le hh).2⟩
  have HP : Hid (∀ W, Both w0 W r ao1 cap1 p ao2 cap2 l (numA l a 4) a → Calls Tryd.prog 44 #[.pointer (some ⟨p, 0, none⟩), .int .i64 4] W fun e w' => e = .returned (.tuple #[.int .u64 (numV l a 4 : Nat), .int .i64 (numE l a 4 : Nat)]) ∧ Both w0 w' r ao1 cap1 p ao2 cap2 l (numA l a 4) (numA l a 4)) := fun W hW =>
    (puint_any _ p ao2 cap2 l a 4 W hW.p (by decide) (by decide)).mono fun e w' hh => ⟨(num_p hW.p.le hh).1, hW.afterP (num_p hW.p.le hh).2⟩
  have hv : numV l a 4 < 4294967296 := numV_lt l a 4 h.r.lt
  have he := numE_le l a 4
  clear h hA
  generalize numV l a 4 = v at *
  generalize numE l a 4 = c at *
  generalize numA l a 4 = a' at *
  have t1 : (kind == 1) = false := by rw [beq_eq_false_iff_ne]; omega
  have t2 : (kind == 2) = false := by rw [beq_eq_false_iff_ne]; omega
  have t3 : (kind == 3) = true := by rw [beq_iff_eq]; omega
  clear hk
  go_enter Tryd.func18, Tryd.ntmps18
  go_wp2_with fail
  refine HR.out.mono ?_
  rintro e w1 ⟨rfl, h1⟩
  have H1 : Hid (Both w0 w1 r ao1 cap1 p ao2 cap2 l a' a) := h1
  clear h1
  go_wp2_with fail
  refine (HP.out w1 H1.out).mono ?_
  rintro e w2 ⟨rfl, h2⟩
  have H2 : Hid (Both w0 w2 r ao1 cap1 p ao2 cap2 l a' a') := h2
  clear h2
  go_wp2
  go_ret
  exact ⟨rfl, a', H2.out⟩

set_option maxHeartbeats 2000000 in
theorem reads_4 (w0 w : World) (r : Nat) (ao1 : Option Addr) (cap1 p : Nat) (ao2 : Option Addr) (cap2 : Nat) (l : List Nat) (a : Nat) (kind n : Int) (h : Both w0 w r ao1 cap1 p ao2 cap2 l a a) (hk : kind = 4) :
    Calls Tryd.prog 18 #[.pointer (some ⟨r, 0, none⟩), .pointer (some ⟨p, 0, none⟩), .agg #[.int .i64 kind, .int .i64 n]] w fun e w' => e = .returned (.bool true) ∧ ∃ a', Both w0 w' r ao1 cap1 p ao2 cap2 l a' a' := by
  have hA : Both w0 (w.alloc (.cells #[.int .i64 kind, .int .i64 n] 47)) r ao1 cap1 p ao2 cap2 l a a := h.below ((Below.refl _ _).alloc (Nat.le_refl _) _)
  have HR : Hid (Calls Tryd.prog 32 #[.pointer (some ⟨r, 0, none⟩)] (w.alloc (.cells #[.int .i64 kind, .int .i64 n] 47)) fun e w' => e = .returned (.tuple #[.int .u64 (numV l a 8 : Nat), .int .i64 (numE l a 8 : Nat)]) ∧ Both w0 w' r ao1 cap1 p ao2 cap2 l (numA l a 8) a) :=
    (ru64_any _ r ao1 cap1 l a _ hA.r).mono fun e w' hh => ⟨(num_r hA.r.le hh).1, hA.afterR (num_r hA.r.le hh).2⟩
  have HP : Hid (∀ W, Both w0 W r ao1 cap1 p ao2 cap2 l (numA l a 8) a → Calls Tryd.prog 44 #[.pointer (some ⟨p, 0, none⟩), .int .i64 8] W fun e w' => e = .returned (.tuple #[.int .u64 (numV l a 8 : Nat), .int .i64 (numE l a 8 : Nat)]) ∧ Both w0 w' r ao1 cap1 p ao2 cap2 l (numA l a 8) (numA l a 8)) := fun W hW =>
    (puint_any _ p ao2 cap2 l a 8 W hW.p (by decide) (by decide)).mono fun e w' hh => ⟨(num_p hW.p.le hh).1, hW.afterP (num_p hW.p.le hh).2⟩
  have hv : numV l a 8 < 18446744073709551616 := numV_lt l a 8 h.r.lt
  have he := numE_le l a 8
  clear h hA
  generalize numV l a 8 = v at *
  generalize numE l a 8 = c at *
  generalize numA l a 8 = a' at *
  have t1 : (kind == 1) = false := by rw [beq_eq_false_iff_ne]; omega
  have t2 : (kind == 2) = false := by rw [beq_eq_false_iff_ne]; omega
  have t3 : (kind == 3) = false := by rw [beq_eq_false_iff_ne]; omega
  have t4 : (kind == 4) = true := by rw [beq_iff_eq]; omega
  clear hk
  go_enter Tryd.func18, Tryd.ntmps18
  go_wp2_with fail
  refine HR.out.mono ?_
  rintro e w1 ⟨rfl, h1⟩
  have H1 : Hid (Both w0 w1 r ao1 cap1 p ao2 cap2 l a' a) := h1
  clear h1
  go_wp2_with fail
  refine (HP.out w1 H1.out).mono ?_
  rintro e w2 ⟨rfl, h2⟩
  have H2 : Hid (Both w0 w2 r ao1 cap1 p ao2 cap2 l a' a') := h2
  clear h2
  go_wp2
  go_ret
  exact ⟨rfl, a', H2.out⟩
end Go.Proofs.YtpkobgnbjmefnaaDoor
