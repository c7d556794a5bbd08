import Derived.Test.YtpkobgnbjmefnaaDoorReadB
namespace Go.Proofs.YtpkobgnbjmefnaaDoor
open Go.RowKit
set_option linter.unusedVariables false
set_option maxRecDepth 100000

set_option maxHeartbeats 2000000 in
theorem reads_6 (w0 w : World) (r : Nat) (ao1 : Option Addr) (cap1 p : Nat) (ao2 : Option Addr) (cap2 : Nat) (l : List Nat) (a : Nat) (kind n : Int) (h : Both w0 w r ao1 cap1 p ao2 cap2 l a a) (hT : Tabs w0) (hk : kind = 6) (hn63 : n ≤ 9223372036854775807) :
    Calls Tryd.prog 18 #[.pointer (some ⟨r, 0, none⟩), .pointer (some ⟨p, 0, none⟩), .agg #[.int .i64 kind, .int .i64 n]] w fun e w' => e = .returned (.bool true) ∧ ∃ a', Both w0 w' r ao1 cap1 p ao2 cap2 l a' a' := by
  have hA : Both w0 (w.alloc (.cells #[.int .i64 kind, .int .i64 n] 47)) r ao1 cap1 p ao2 cap2 l a a := h.below ((Below.refl _ _).alloc (Nat.le_refl _) _)
  have HR : Hid (Calls Tryd.prog 34 #[.pointer (some ⟨r, 0, none⟩), .int .i64 n] (w.alloc (.cells #[.int .i64 kind, .int .i64 n] 47)) fun e w' => e = .returned (.tuple #[.string (txt l a n).1, .int .i64 ((txt l a n).2.1 : Nat)]) ∧ Both w0 w' r ao1 cap1 p ao2 cap2 l (txt l a n).2.2 a ∧ w'.cell? ⟨w.heap.size, 1, none⟩ = some (.int .i64 n)) :=
    (rtext_any _ r ao1 cap1 l a n _ hA.r (hT.later hA.bel) hA.bel.size hn63).mono fun e w' hh => ⟨hh.1, hA.afterR hh.2, by rw [blk_at (h.locR hh.2)]; rfl⟩
  have HP : Hid (∀ W, Both w0 W r ao1 cap1 p ao2 cap2 l (txt l a n).2.2 a → Calls Tryd.prog 46 #[.pointer (some ⟨p, 0, none⟩), .int .i64 n] W fun e w' => e = .returned (.tuple #[.string (txt l a n).1, .int .i64 ((txt l a n).2.1 : Nat)]) ∧ Both w0 w' r ao1 cap1 p ao2 cap2 l (txt l a n).2.2 (txt l a n).2.2) := fun W hW =>
    (ptext_any _ p ao2 cap2 l a n W hW.p hn63).mono fun e w' hh => ⟨hh.1, hW.afterP hh.2⟩
  have he := txt_le l a n
  clear h hT hA
  generalize (txt l a n).1 = s at *
  generalize (txt l a n).2.1 = c at *
  generalize (txt l a n).2.2 = a' at *
  have t1 : (kind == 1) = false := by rw [beq_eq_false_iff_ne]; omega
  have t2 : (kind == 2) = false := by rw [beq_eq_false_iff_ne]; omega
  have t3 : (kind == 3) = false := by rw [beq_eq_false_iff_ne]; omega
  have t4 : (kind == 4) = false := by rw [beq_eq_false_iff_ne]; omega
  have t5 : (kind == 5) = false := by rw [beq_eq_false_iff_ne]; omega
  have t6 : (kind == 6) = true := by rw [beq_iff_eq]; omega
  clear hk
  go_enter Tryd.func18, Tryd.ntmps18
  go_wp2_with fail
  refine HR.out.mono ?_
  rintro e w1 ⟨rfl, h1, y1⟩
  have H1 : Hid (Both w0 w1 r ao1 cap1 p ao2 cap2 l a' a) := h1
  clear h1
  go_wp2_with fail
  refine (HP.out w1 H1.out).mono ?_
  rintro e w2 ⟨rfl, h2⟩
  have H2 : Hid (Both w0 w2 r ao1 cap1 p ao2 cap2 l a' a') := h2
  clear h2
  go_wp2
  go_ret
  exact ⟨rfl, a', H2.out⟩

set_option maxHeartbeats 2000000 in
theorem reads_8 (w0 w : World) (r : Nat) (ao1 : Option Addr) (cap1 p : Nat) (ao2 : Option Addr) (cap2 : Nat) (l : List Nat) (a : Nat) (kind n : Int) (h : Both w0 w r ao1 cap1 p ao2 cap2 l a a) (hk : kind = 8) :
    Calls Tryd.prog 18 #[.pointer (some ⟨r, 0, none⟩), .pointer (some ⟨p, 0, none⟩), .agg #[.int .i64 kind, .int .i64 n]] w fun e w' => e = .returned (.bool true) ∧ ∃ a', Both w0 w' r ao1 cap1 p ao2 cap2 l a' a' := by
  have hA : Both w0 (w.alloc (.cells #[.int .i64 kind, .int .i64 n] 47)) r ao1 cap1 p ao2 cap2 l a a := h.below ((Below.refl _ _).alloc (Nat.le_refl _) _)
  have HR : Hid (Calls Tryd.prog 21 #[.pointer (some ⟨r, 0, none⟩)] (w.alloc (.cells #[.int .i64 kind, .int .i64 n] 47)) fun e w' => e = .returned (.int .i64 (endE l a : Nat)) ∧ Both w0 w' r ao1 cap1 p ao2 cap2 l a a) :=
    (rendA_any _ r ao1 cap1 l a _ hA.r).mono fun e w' hh => ⟨hh.1, by obtain ⟨q, hq⟩ := hh.2; rw [hq]; exact hA.drewN q⟩
  have HP : Hid (∀ W, Both w0 W r ao1 cap1 p ao2 cap2 l a a → Calls Tryd.prog 22 #[.pointer (some ⟨p, 0, none⟩)] W fun e w' => e = .returned (.int .i64 (endE l a : Nat)) ∧ Both w0 w' r ao1 cap1 p ao2 cap2 l a a) := fun W hW =>
    (pendA_any _ p ao2 cap2 l a W hW.p).mono fun e w' hh => ⟨hh.1, by obtain ⟨q, hq⟩ := hh.2; rw [hq]; exact hW.drewN q⟩
  have he := endE_le l a
  clear h hA
  generalize endE l a = c at *
  have t1 : (kind == 1) = false := by rw [beq_eq_false_iff_ne]; omega
  have t2 : (kind == 2) = false := by rw [beq_eq_false_iff_ne]; omega
  have t3 : (kind == 3) = false := by rw [beq_eq_false_iff_ne]; omega
  have t4 : (kind == 4) = false := by rw [beq_eq_false_iff_ne]; omega
  have t5 : (kind == 5) = false := by rw [beq_eq_false_iff_ne]; omega
  have t6 : (kind == 6) = false := by rw [beq_eq_false_iff_ne]; omega
  have t7 : (kind == 7) = false := by rw [beq_eq_false_iff_ne]; omega
  have t8 : (kind == 8) = true := by rw [beq_iff_eq]; omega
  clear hk
  go_enter Tryd.func18, Tryd.ntmps18
  go_wp2_with fail
  refine HR.out.mono ?_
  rintro e w1 ⟨rfl, h1⟩
  have H1 : Hid (Both w0 w1 r ao1 cap1 p ao2 cap2 l a a) := h1
  clear h1
  go_wp2_with fail
  refine (HP.out w1 H1.out).mono ?_
  rintro e w2 ⟨rfl, h2⟩
  have H2 : Hid (Both w0 w2 r ao1 cap1 p ao2 cap2 l a a) := h2
  clear h2
  go_wp2
  go_ret
  exact ⟨rfl, a, H2.out⟩
set_option maxHeartbeats 2000000 in
theorem reads_0 (w0 w : World) (r : Nat) (ao1 : Option Addr) (cap1 p : Nat) (ao2 : Option Addr) (cap2 : Nat) (l : List Nat) (a : Nat) (kind n : Int) (h : Both w0 w r ao1 cap1 p ao2 cap2 l a a) (h1 : kind ≠ 1) (h2 : kind ≠ 2) (h3 : kind ≠ 3) (h4 : kind ≠ 4) (h5 : kind ≠ 5) (h6 : kind ≠ 6) (h7 : kind ≠ 7) (h8 : kind ≠ 8) :
    Calls Tryd.prog 18 #[.pointer (some ⟨r, 0, none⟩), .pointer (some ⟨p, 0, none⟩), .agg #[.int .i64 kind, .int .i64 n]] w fun e w' => e = .returned (.bool true) ∧ ∃ a', Both w0 w' r ao1 cap1 p ao2 cap2 l a' a' := by
  have H0 : Hid (Both w0 (w.alloc (.cells #[.int .i64 kind, .int .i64 n] 47)) r ao1 cap1 p ao2 cap2 l a a) := h.below ((Below.refl _ _).alloc (Nat.le_refl _) _)
  clear h
  have t1 : (kind == 1) = false := by rw [beq_eq_false_iff_ne]; omega
  have t2 : (kind == 2) = false := by rw [beq_eq_false_iff_ne]; omega
  have t3 : (kind == 3) = false := by rw [beq_eq_false_iff_ne]; omega
  have t4 : (kind == 4) = false := by rw [beq_eq_false_iff_ne]; omega
  have t5 : (kind == 5) = false := by rw [beq_eq_false_iff_ne]; omega
  have t6 : (kind == 6) = false := by rw [beq_eq_false_iff_ne]; omega
  have t7 : (kind == 7) = false := by rw [beq_eq_false_iff_ne]; omega
  have t8 : (kind == 8) = false := by rw [beq_eq_false_iff_ne]; omega
  clear h1 h2 h3 h4 h5 h6 h7 h8
  go_enter Tryd.func18, Tryd.ntmps18
  go_wp2
  go_ret
  exact ⟨rfl, a, H0.out⟩
end Go.Proofs.YtpkobgnbjmefnaaDoor
