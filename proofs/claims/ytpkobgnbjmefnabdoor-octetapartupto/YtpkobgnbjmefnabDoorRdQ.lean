import Derived.Test.YtpkobgnbjmefnabDoorRdB
namespace Go.Proofs.YtpkobgnbjmefnabDoor
open Go.RowKit
set_option linter.unusedVariables false
set_option maxRecDepth 100000

set_option maxHeartbeats 2000000 in
theorem reads_1 (B : Nat) (w0 w : World) (r : Nat) (ao1 : Option Addr) (cap1 p : Nat) (ao2 : Option Addr) (cap2 : Nat) (l : List Nat) (a : Nat) (kind n : Int) (h : Bth B w0 w r ao1 cap1 p ao2 cap2 l a a) (hk : kind = 1) :
    Calls Tryd.prog 20 #[.pointer (some ⟨r, 0, none⟩), .pointer (some ⟨p, 0, none⟩), .agg #[.int .i64 kind, .int .i64 n]] w fun e w' => e = .returned (.bool true) ∧ ∃ a', Bth B w0 w' r ao1 cap1 p ao2 cap2 l a' a' := by
  have hA : Bth B w0 (w.alloc (.cells #[.int .i64 kind, .int .i64 n] 55)) r ao1 cap1 p ao2 cap2 l a a := h.below ((Below.refl _ _).alloc (Nat.le_refl _) _)
  have HR : Hid (Calls Tryd.prog 53 #[.pointer (some ⟨r, 0, none⟩)] (w.alloc (.cells #[.int .i64 kind, .int .i64 n] 55)) fun e w' => e = .returned (.tuple #[.int .u8 (numV l a 1 : Nat), .int .i64 (numE l a 1 : Nat)]) ∧ Bth B w0 w' r ao1 cap1 p ao2 cap2 l (numA l a 1) a) :=
    (ru8_any _ r ao1 cap1 l a _ hA.r).mono fun e w' hh => ⟨(num_r hA.r.le hh).1, hA.afterR (num_r hA.r.le hh).2⟩
  have HP : Hid (∀ W, Bth B w0 W r ao1 cap1 p ao2 cap2 l (numA l a 1) a → Calls Tryd.prog 54 #[.pointer (some ⟨p, 0, none⟩), .int .i64 1] W fun e w' => e = .returned (.tuple #[.int .u64 (numV l a 1 : Nat), .int .i64 (numE l a 1 : Nat)]) ∧ Bth B w0 w' r ao1 cap1 p ao2 cap2 l (numA l a 1) (numA l a 1)) := fun W hW =>
    (puint_any _ p ao2 cap2 l a 1 W hW.p (by decide) (by decide)).mono fun e w' hh => ⟨(num_p hW.p.le hh).1, hW.afterP (num_p hW.p.le hh).2⟩
  have hv : numV l a 1 < 256 := numV_lt l a 1 h.r.lt
  have he := numE_le l a 1
  clear h hA
  generalize numV l a 1 = v at *
  generalize numE l a 1 = c at *
  generalize numA l a 1 = a' at *
  have t1 : (kind == 1) = true := by rw [beq_iff_eq]; omega
  clear hk
  go_enter Tryd.func20, Tryd.ntmps20
  go_wp2_with fail
  refine HR.out.mono ?_
  rintro e w1 ⟨rfl, h1⟩
  have H1 : Hid (Bth B w0 w1 r ao1 cap1 p ao2 cap2 l a' a) := h1
  clear h1
  go_wp2_with fail
  refine (HP.out w1 H1.out).mono ?_
  rintro e w2 ⟨rfl, h2⟩
  have H2 : Hid (Bth B w0 w2 r ao1 cap1 p ao2 cap2 l a' a') := h2
  clear h2
  go_wp2
  go_ret
  exact ⟨rfl, a', H2.out⟩

set_option maxHeartbeats 2000000 in
theorem reads_2 (B : Nat) (w0 w : World) (r : Nat) (ao1 : Option Addr) (cap1 p : Nat) (ao2 : Option Addr) (cap2 : Nat) (l : List Nat) (a : Nat) (kind n : Int) (h : Bth B w0 w r ao1 cap1 p ao2 cap2 l a a) (hk : kind = 2) :
    Calls Tryd.prog 20 #[.pointer (some ⟨r, 0, none⟩), .pointer (some ⟨p, 0, none⟩), .agg #[.int .i64 kind, .int .i64 n]] w fun e w' => e = .returned (.bool true) ∧ ∃ a', Bth B w0 w' r ao1 cap1 p ao2 cap2 l a' a' := by
  have hA : Bth B w0 (w.alloc (.cells #[.int .i64 kind, .int .i64 n] 55)) r ao1 cap1 p ao2 cap2 l a a := h.below ((Below.refl _ _).alloc (Nat.le_refl _) _)
  have HR : Hid (Calls Tryd.prog 55 #[.pointer (some ⟨r, 0, none⟩)] (w.alloc (.cells #[.int .i64 kind, .int .i64 n] 55)) fun e w' => e = .returned (.tuple #[.int .u16 (numV l a 2 : Nat), .int .i64 (numE l a 2 : Nat)]) ∧ Bth B w0 w' r ao1 cap1 p ao2 cap2 l (numA l a 2) a) :=
    (ru16_any _ r ao1 cap1 l a _ hA.r).mono fun e w' hh => ⟨(num_r hA.r.le hh).1, hA.afterR (num_r hA.r.le hh).2⟩
  have HP : Hid (∀ W, Bth B w0 W r ao1 cap1 p ao2 cap2 l (numA l a 2) a → Calls Tryd.prog 54 #[.pointer (some ⟨p, 0, none⟩), .int .i64 2] W fun e w' => e = .returned (.tuple #[.int .u64 (numV l a 2 : Nat), .int .i64 (numE l a 2 : Nat)]) ∧ Bth B w0 w' r ao1 cap1 p ao2 cap2 l (numA l a 2) (numA l a 2)) := fun W hW =>
    (puint_any _ p ao2 cap2 l a 2 W hW.p (by decide) (by decide)).mono fun e w' hh => ⟨(num_p hW.p.le hh).1, hW.afterP (num_p hW.p.le hh).2⟩
  have hv : numV l a 2 < 65536 := numV_lt l a 2 h.r.lt
  have he := numE_le l a 2
  clear h hA
  generalize numV l a 2 = v at *
  generalize numE l a 2 = c at *
  generalize numA l a 2 = a' at *
  have t1 : (kind == 1) = false := by rw [beq_eq_false_iff_ne]; omega
  have t2 : (kind == 2) = true := by rw [beq_iff_eq]; omega
  clear hk
  go_enter Tryd.func20, Tryd.ntmps20
  go_wp2_with fail
  refine HR.out.mono ?_
  rintro e w1 ⟨rfl, h1⟩
  have H1 : Hid (Bth B w0 w1 r ao1 cap1 p ao2 cap2 l a' a) := h1
  clear h1
  go_wp2_with fail
  refine (HP.out w1 H1.out).mono ?_
  rintro e w2 ⟨rfl, h2⟩
  have H2 : Hid (Bth B w0 w2 r ao1 cap1 p ao2 cap2 l a' a') := h2
  clear h2
  go_wp2
  go_ret
  exact ⟨rfl, a', H2.out⟩

set_option maxHeartbeats 2000000 in
theorem reads_3 (B : Nat) (w0 w : World) (r : Nat) (ao1 : Option Addr) (cap1 p : Nat) (ao2 : Option Addr) (cap2 : Nat) (l : List Nat) (a : Nat) (kind n : Int) (h : Bth B w0 w r ao1 cap1 p ao2 cap2 l a a) (hk : kind = 3) :
    Calls Tryd.prog 20 #[.pointer (some ⟨r, 0, none⟩), .pointer (some ⟨p, 0, none⟩), .agg #[.int .i64 kind, .int .i64 n]] w fun e w' => e = .returned (.bool true) ∧ ∃ a', Bth B w0 w' r ao1 cap1 p ao2 cap2 l a' a' := by
  have hA : Bth B w0 (w.alloc (.cells #[.int .i64 kind, .int .i64 n] 55)) r ao1 cap1 p ao2 cap2 l a a := h.below ((Below.refl _ _).alloc (Nat.le_refl _) _)
  have HR : Hid (Calls Tryd.prog 56 #[.pointer (some ⟨r, 0, none⟩)] (w.alloc (.cells #[.int .i64 kind, .int .i64 n] 55)) fun e w' => e = .returned (.tuple #[.int .u32 (numV l a 4 : Nat), .int .i64 (numE l a 4 : Nat)]) ∧ Bth B w0 w' r ao1 cap1 p ao2 cap2 l (numA l a 4) a) :=
    (ru32_any _ r ao1 cap1 l a _ hA.r).mono fun e w' hh => ⟨(num_r hA.r.le hh).1, hA.afterR (num_r hA.r.le hh).2⟩
  have HP : Hid (∀ W, Bth B w0 W r ao1 cap1 p ao2 cap2 l (numA l a 4) a → Calls Tryd.prog 54 #[.pointer (some ⟨p, 0, none⟩), .int .i64 4] W fun e w' => e = .returned (.tuple #[.int .u64 (numV l a 4 : Nat), .int .i64 (numE l a 4 : Nat)]) ∧ Bth B w0 w' r ao1 cap1 p ao2 cap2 l (numA l a 4) (numA l a 4)) := fun W hW =>
    (puint_any _ p ao2 cap2 l a 4 W hW.p (by decide) (by decide)).mono fun e w' hh => ⟨(num_p hW.p.le hh).1, hW.afterP (num_p hW.p.le hh).2⟩
  have hv : numV l a 4 < 4294967296 := numV_lt l a 4 h.r.lt
  have he := numE_le l a 4
  clear h hA
  generalize numV l a 4 = v at *
  generalize numE l a 4 = c at *
  generalize numA l a 4 = a' at *
  have t1 : (kind == 1) = false := by rw [beq_eq_false_iff_ne]; omega
  have t2 : (kind == 2) = false := by rw [beq_eq_false_iff_ne]; omega
  have t3 : (kind == 3) = true := by rw [beq_iff_eq]; omega
  clear hk
  go_enter Tryd.func20, Tryd.ntmps20
  go_wp2_with fail
  refine HR.out.mono ?_
  rintro e w1 ⟨rfl, h1⟩
  have H1 : Hid (Bth B w0 w1 r ao1 cap1 p ao2 cap2 l a' a) := h1
  clear h1
  go_wp2_with fail
  refine (HP.out w1 H1.out).mono ?_
  rintro e w2 ⟨rfl, h2⟩
  have H2 : Hid (Bth B w0 w2 r ao1 cap1 p ao2 cap2 l a' a') := h2
  clear h2
  go_wp2
  go_ret
  exact ⟨rfl, a', H2.out⟩

set_option maxHeartbeats 2000000 in
theorem reads_4 (B : Nat) (w0 w : World) (r : Nat) (ao1 : Option Addr) (cap1 p : Nat) (ao2 : Option Addr) (cap2 : Nat) (l : List Nat) (a : Nat) (kind n : Int) (h : Bth B w0 w r ao1 cap1 p ao2 cap2 l a a) (hk : kind = 4) :
    Calls Tryd.prog 20 #[.pointer (some ⟨r, 0, none⟩), .pointer (some ⟨p, 0, none⟩), .agg #[.int .i64 kind, .int .i64 n]] w fun e w' => e = .returned (.bool true) ∧ ∃ a', Bth B w0 w' r ao1 cap1 p ao2 cap2 l a' a' := by
  have hA : Bth B w0 (w.alloc (.cells #[.int .i64 kind, .int .i64 n] 55)) r ao1 cap1 p ao2 cap2 l a a := h.below ((Below.refl _ _).alloc (Nat.le_refl _) _)
  have HR : Hid (Calls Tryd.prog 57 #[.pointer (some ⟨r, 0, none⟩)] (w.alloc (.cells #[.int .i64 kind, .int .i64 n] 55)) fun e w' => e = .returned (.tuple #[.int .u64 (numV l a 8 : Nat), .int .i64 (numE l a 8 : Nat)]) ∧ Bth B w0 w' r ao1 cap1 p ao2 cap2 l (numA l a 8) a) :=
    (ru64_any _ r ao1 cap1 l a _ hA.r).mono fun e w' hh => ⟨(num_r hA.r.le hh).1, hA.afterR (num_r hA.r.le hh).2⟩
  have HP : Hid (∀ W, Bth B w0 W r ao1 cap1 p ao2 cap2 l (numA l a 8) a → Calls Tryd.prog 54 #[.pointer (some ⟨p, 0, none⟩), .int .i64 8] W fun e w' => e = .returned (.tuple #[.int .u64 (numV l a 8 : Nat), .int .i64 (numE l a 8 : Nat)]) ∧ Bth B w0 w' r ao1 cap1 p ao2 cap2 l (numA l a 8) (numA l a 8)) := fun W hW =>
    (puint_any _ p ao2 cap2 l a 8 W hW.p (by decide) (by decide)).mono fun e w' hh => ⟨(num_p hW.p.le hh).1, hW.afterP (num_p hW.p.le hh).2⟩
  have hv : numV l a 8 < 18446744073709551616 := numV_lt l a 8 h.r.lt
  have he := numE_le l a 8
  clear h hA
  generalize numV l a 8 = v at *
  generalize numE l a 8 = c at *
  generalize numA l a 8 = a' at *
  have t1 : (kind == 1) = false := by rw [beq_eq_false_iff_ne]; omega
  have t2 : (kind == 2) = false := by rw [beq_eq_false_iff_ne]; omega
  have t3 : (kind == 3) = false := by rw [beq_eq_false_iff_ne]; omega
  have t4 : (kind == 4) = true := by rw [beq_iff_eq]; omega
  clear hk
  go_enter Tryd.func20, Tryd.ntmps20
  go_wp2_with fail
  refine HR.out.mono ?_
  rintro e w1 ⟨rfl, h1⟩
  have H1 : Hid (Bth B w0 w1 r ao1 cap1 p ao2 cap2 l a' a) := h1
  clear h1
  go_wp2_with fail
  refine (HP.out w1 H1.out).mono ?_
  rintro e w2 ⟨rfl, h2⟩
  have H2 : Hid (Bth B w0 w2 r ao1 cap1 p ao2 cap2 l a' a') := h2
  clear h2
  go_wp2
  go_ret
  exact ⟨rfl, a', H2.out⟩

theorem lists_one {w : World} {B : Nat} {x : Value} {lx : List Nat} (hx : w.ownsRow B 5 1 x lx.length (lx.map bv)) (hB : B ≤ w.heap.size) (s1 : lx.length ≤ 16777216) (t : TypeId) :
    Lists (w.alloc (.cells #[x] t)) B w.heap.size 0 1 (fun _ => x) (fun _ => lx.length) := by
  refine ⟨fun i hi => ?_, fun i hi => ⟨lx, hx.alloc _⟩, fun i j hi hj hne => by omega, fun i hi e => ?_, fun i hi => Nat.le_trans s1 (by decide), by simp; omega⟩
  · obtain rfl : i = 0 := by omega
    rw [World.cell?_alloc_mark]; rfl
  · have := (owns_lt hx _ e).1; omega
set_option maxHeartbeats 4000000 in
theorem reads_5 (B : Nat) (w0 w : World) (r : Nat) (ao1 : Option Addr) (cap1 p : Nat) (ao2 : Option Addr) (cap2 : Nat) (l : List Nat) (a : Nat) (kind n : Int) (h : Bth B w0 w r ao1 cap1 p ao2 cap2 l a a) (hk : kind = 5) (hl : l.length ≤ 1048576) (hn63 : n ≤ 9223372036854775807) :
    Calls Tryd.prog 20 #[.pointer (some ⟨r, 0, none⟩), .pointer (some ⟨p, 0, none⟩), .agg #[.int .i64 kind, .int .i64 n]] w fun e w' => e = .returned (.bool true) ∧ ∃ a', Bth B w0 w' r ao1 cap1 p ao2 cap2 l a' a' := by
  have hA : Bth B w0 (w.alloc (.cells #[.int .i64 kind, .int .i64 n] 55)) r ao1 cap1 p ao2 cap2 l a a := h.below ((Below.refl _ _).alloc (Nat.le_refl _) _)
  have HR : Hid (Calls Tryd.prog 58 #[.pointer (some ⟨r, 0, none⟩), .int .i64 n] (w.alloc (.cells #[.int .i64 kind, .int .i64 n] 55)) fun e w' => ∃ ao' cap', e = .returned (.tuple #[.slice ao' (rawM l a n).length cap', .int .i64 (rawE l a n : Nat)]) ∧ w'.ownsRow (w.heap.size + 1) 5 1 (.slice ao' (rawM l a n).length cap') (rawM l a n).length ((rawM l a n).map bv) ∧ Bth B w0 w' r ao1 cap1 p ao2 cap2 l (rawA l a n) a ∧ w.heap.size + 1 ≤ w'.heap.size ∧ w'.cell? ⟨w.heap.size, 1, none⟩ = some (.int .i64 n)) :=
    (rraw_any _ r ao1 cap1 l a n _ hA.r).mono fun e w' hh => by
      obtain ⟨ao', cap', h1, h2, h3⟩ := hh
      rw [World.size_alloc] at h2
      exact ⟨ao', cap', h1, h2, hA.afterR h3, by have := h3.kept.size; rwa [World.size_alloc] at this, by rw [blk_at (h.locR h3)]; rfl⟩
  have HP : Hid (∀ W, Bth B w0 W r ao1 cap1 p ao2 cap2 l (rawA l a n) a → Calls Tryd.prog 59 #[.pointer (some ⟨p, 0, none⟩), .int .i64 n] W fun e w' => ∃ ao' cap', e = .returned (.tuple #[.slice ao' (rawM l a n).length cap', .int .i64 (rawE l a n : Nat)]) ∧ w'.ownsRow W.heap.size 5 1 (.slice ao' (rawM l a n).length cap') (rawM l a n).length ((rawM l a n).map bv) ∧ Bth B w0 w' r ao1 cap1 p ao2 cap2 l (rawA l a n) (rawA l a n) ∧ KeptIn (fun g => g = p) W w') := fun W hW =>
    (praw_any _ p ao2 cap2 l a n W hW.p hn63).mono fun e w' hh => by
      obtain ⟨ao', cap', h1, h2, h3⟩ := hh
      exact ⟨ao', cap', h1, h2, hW.afterP h3, h3.kept⟩
  have he := rawE_le l a n
  have HM : Hid ((rawM l a n).length ≤ 1048576 ∧ ∀ x ∈ rawM l a n, x < 256) := ⟨Nat.le_trans (rawM_len l a n) hl, rawM_lt l a n h.r.lt⟩
  have H0 : Hid (Bth B w0 w r ao1 cap1 p ao2 cap2 l a a) := h
  clear h hA
  generalize rawM l a n = M at *
  generalize rawE l a n = c at *
  generalize rawA l a n = a' at *
  generalize hm : M.length = m at *
  have HN : Hid (M.length = m) := hm
  clear hm
  have t1 : (kind == 1) = false := by rw [beq_eq_false_iff_ne]; omega
  have t2 : (kind == 2) = false := by rw [beq_eq_false_iff_ne]; omega
  have t3 : (kind == 3) = false := by rw [beq_eq_false_iff_ne]; omega
  have t4 : (kind == 4) = false := by rw [beq_eq_false_iff_ne]; omega
  have t5 : (kind == 5) = true := by rw [beq_iff_eq]; omega
  clear hk
  go_enter Tryd.func20, Tryd.ntmps20
  go_wp2_with fail
  refine HR.out.mono ?_
  rintro e w1 ⟨ax, cx, rfl, ho1, h1, hz1, y1⟩
  have HZ1 : Hid (w.heap.size + 1 ≤ w1.heap.size) := hz1
  have H1 : Hid (Bth B w0 w1 r ao1 cap1 p ao2 cap2 l a' a) := h1
  have HO1 : Hid (w1.ownsRow (w.heap.size + 1) 5 1 (.slice ax m cx) m (M.map bv)) := ho1
  clear h1 ho1 hz1
  go_wp2_with fail
  refine (HP.out w1 H1.out).mono ?_
  rintro e w2 ⟨ay, cy, rfl, ho2, h2, hk2⟩
  have H2 : Hid (Bth B w0 w2 r ao1 cap1 p ao2 cap2 l a' a') := h2
  have HO2 : Hid (w2.ownsRow w1.heap.size 5 1 (.slice ay m cy) m (M.map bv)) := ho2
  have HO3 : Hid (w2.ownsRow (w.heap.size + 1) 5 1 (.slice ax m cx) m (M.map bv)) := owns_same HO1.out fun g hg => hk2.block g (owns_lt HO1.out g hg).1 (fun e => by
    have := (owns_lt HO1.out g hg).2
    have := block_lt H0.out.p.blk
    omega)
  have HZ : Hid (w.heap.size + 1 ≤ w2.heap.size) := Nat.le_trans HZ1.out hk2.size
  clear h2 ho2 hk2
  have HSm : Hid (Calls Tryd.prog 22 #[.slice ax m cx, .slice ay m cy] w2 fun e w' => e = .returned (.bool true) ∧ ∃ q, w' = w2.drewN q) := by
    have hm := HN.out
    subst hm
    obtain ⟨a1, c1, e1, r1⟩ := BRow.own HO3.out HM.out.2 (by have := HM.out.1; omega)
    obtain ⟨a2, c2, e2, r2⟩ := BRow.own HO2.out HM.out.2 (by have := HM.out.1; omega)
    simp only [Value.slice.injEq] at e1 e2
    obtain ⟨rfl, _, rfl⟩ := e1
    obtain ⟨rfl, _, rfl⟩ := e2
    have := same_any _ _ _ _ M M w2 r1 r2
    rwa [decide_eq_true rfl] at this
  have HOw : Hid (∀ q, Calls Tryd.prog 60 #[.slice (some ⟨w2.heap.size, 0, none⟩) 1 1] ((w2.drewN q).alloc (.cells #[.slice ax m cx] 37)) fun e w' => e = .returned (.bool true) ∧ Bth B w0 w' r ao1 cap1 p ao2 cap2 l a' a') := fun q => by
    have hn' := HN.out
    subst hn'
    have hb : Below w2.heap.size w2 ((w2.drewN q).alloc (.cells #[.slice ax M.length cx] 37)) := (below_drew0 w2 q).alloc (Nat.le_refl _) _
    have hli := lists_one (w := w2.drewN q) (t := 37) (owns_same HO3.out (fun _ _ => rfl)) HZ.out (by have := HM.out.1; omega)
    refine (own_some (w.heap.size + 1) w2.heap.size 0 1 1 _ _ _ (by decide) hli).mono fun e w' hh => ⟨hh.1, ?_⟩
    refine H0.out.later (H2.out.below hb) hh.2 (fun g hg => ?_)
    obtain ⟨i, _, hi⟩ := hg
    have := (owns_lt HO3.out g hi).2
    omega
  go_wp2_with fail
  refine HSm.out.mono ?_
  rintro e w3 ⟨rfl, q, hw⟩
  rw [hw]; clear hw
  go_wp2_with fail
  refine (HOw.out q).mono ?_
  rintro e w4 ⟨rfl, h4⟩
  have H4 : Hid (Bth B w0 w4 r ao1 cap1 p ao2 cap2 l a' a') := h4
  clear h4
  go_wp2
  go_ret
  exact ⟨rfl, a', H4.out⟩

set_option maxHeartbeats 2000000 in
theorem reads_6 (B : Nat) (w0 w : World) (r : Nat) (ao1 : Option Addr) (cap1 p : Nat) (ao2 : Option Addr) (cap2 : Nat) (l : List Nat) (a : Nat) (kind n : Int) (h : Bth B w0 w r ao1 cap1 p ao2 cap2 l a a) (hT : Tabs w) (hk : kind = 6) (hn63 : n ≤ 9223372036854775807) :
    Calls Tryd.prog 20 #[.pointer (some ⟨r, 0, none⟩), .pointer (some ⟨p, 0, none⟩), .agg #[.int .i64 kind, .int .i64 n]] w fun e w' => e = .returned (.bool true) ∧ ∃ a', Bth B w0 w' r ao1 cap1 p ao2 cap2 l a' a' := by
  have hA : Bth B w0 (w.alloc (.cells #[.int .i64 kind, .int .i64 n] 55)) r ao1 cap1 p ao2 cap2 l a a := h.below ((Below.refl _ _).alloc (Nat.le_refl _) _)
  have HR : Hid (Calls Tryd.prog 61 #[.pointer (some ⟨r, 0, none⟩), .int .i64 n] (w.alloc (.cells #[.int .i64 kind, .int .i64 n] 55)) fun e w' => e = .returned (.tuple #[.string (txt l a n).1, .int .i64 ((txt l a n).2.1 : Nat)]) ∧ Bth B w0 w' r ao1 cap1 p ao2 cap2 l (txt l a n).2.2 a ∧ w'.cell? ⟨w.heap.size, 1, none⟩ = some (.int .i64 n)) :=
    (rtext_any _ r ao1 cap1 l a n _ hA.r (hT.later ((Below.refl _ _).alloc (Nat.le_refl _) _)) (Nat.le_trans hA.base hA.bel.size) hn63).mono fun e w' hh => ⟨hh.1, hA.afterR hh.2, by rw [blk_at (h.locR hh.2)]; rfl⟩
  have HP : Hid (∀ W, Bth B w0 W r ao1 cap1 p ao2 cap2 l (txt l a n).2.2 a → Calls Tryd.prog 62 #[.pointer (some ⟨p, 0, none⟩), .int .i64 n] W fun e w' => e = .returned (.tuple #[.string (txt l a n).1, .int .i64 ((txt l a n).2.1 : Nat)]) ∧ Bth B w0 w' r ao1 cap1 p ao2 cap2 l (txt l a n).2.2 (txt l a n).2.2) := fun W hW =>
    (ptext_any _ p ao2 cap2 l a n W hW.p hn63).mono fun e w' hh => ⟨hh.1, hW.afterP hh.2⟩
  have he := txt_le l a n
  clear h hT hA
  generalize (txt l a n).1 = s at *
  generalize (txt l a n).2.1 = c at *
  generalize (txt l a n).2.2 = a' at *
  have t1 : (kind == 1) = false := by rw [beq_eq_false_iff_ne]; omega
  have t2 : (kind == 2) = false := by rw [beq_eq_false_iff_ne]; omega
  have t3 : (kind == 3) = false := by rw [beq_eq_false_iff_ne]; omega
  have t4 : (kind == 4) = false := by rw [beq_eq_false_iff_ne]; omega
  have t5 : (kind == 5) = false := by rw [beq_eq_false_iff_ne]; omega
  have t6 : (kind == 6) = true := by rw [beq_iff_eq]; omega
  clear hk
  go_enter Tryd.func20, Tryd.ntmps20
  go_wp2_with fail
  refine HR.out.mono ?_
  rintro e w1 ⟨rfl, h1, y1⟩
  have H1 : Hid (Bth B w0 w1 r ao1 cap1 p ao2 cap2 l a' a) := h1
  clear h1
  go_wp2_with fail
  refine (HP.out w1 H1.out).mono ?_
  rintro e w2 ⟨rfl, h2⟩
  have H2 : Hid (Bth B w0 w2 r ao1 cap1 p ao2 cap2 l a' a') := h2
  clear h2
  go_wp2
  go_ret
  exact ⟨rfl, a', H2.out⟩

set_option maxHeartbeats 2000000 in
theorem reads_8 (B : Nat) (w0 w : World) (r : Nat) (ao1 : Option Addr) (cap1 p : Nat) (ao2 : Option Addr) (cap2 : Nat) (l : List Nat) (a : Nat) (kind n : Int) (h : Bth B w0 w r ao1 cap1 p ao2 cap2 l a a) (hk : kind = 8) :
    Calls Tryd.prog 20 #[.pointer (some ⟨r, 0, none⟩), .pointer (some ⟨p, 0, none⟩), .agg #[.int .i64 kind, .int .i64 n]] w fun e w' => e = .returned (.bool true) ∧ ∃ a', Bth B w0 w' r ao1 cap1 p ao2 cap2 l a' a' := by
  have hA : Bth B w0 (w.alloc (.cells #[.int .i64 kind, .int .i64 n] 55)) r ao1 cap1 p ao2 cap2 l a a := h.below ((Below.refl _ _).alloc (Nat.le_refl _) _)
  have HR : Hid (Calls Tryd.prog 65 #[.pointer (some ⟨r, 0, none⟩)] (w.alloc (.cells #[.int .i64 kind, .int .i64 n] 55)) fun e w' => e = .returned (.int .i64 (endE l a : Nat)) ∧ Bth B w0 w' r ao1 cap1 p ao2 cap2 l a a) :=
    (rendA_any _ r ao1 cap1 l a _ hA.r).mono fun e w' hh => ⟨hh.1, by obtain ⟨q, hq⟩ := hh.2; rw [hq]; exact hA.drewN q⟩
  have HP : Hid (∀ W, Bth B w0 W r ao1 cap1 p ao2 cap2 l a a → Calls Tryd.prog 66 #[.pointer (some ⟨p, 0, none⟩)] W fun e w' => e = .returned (.int .i64 (endE l a : Nat)) ∧ Bth B w0 w' r ao1 cap1 p ao2 cap2 l a a) := fun W hW =>
    (pendA_any _ p ao2 cap2 l a W hW.p).mono fun e w' hh => ⟨hh.1, by obtain ⟨q, hq⟩ := hh.2; rw [hq]; exact hW.drewN q⟩
  have he := endE_le l a
  clear h hA
  generalize endE l a = c at *
  have t1 : (kind == 1) = false := by rw [beq_eq_false_iff_ne]; omega
  have t2 : (kind == 2) = false := by rw [beq_eq_false_iff_ne]; omega
  have t3 : (kind == 3) = false := by rw [beq_eq_false_iff_ne]; omega
  have t4 : (kind == 4) = false := by rw [beq_eq_false_iff_ne]; omega
  have t5 : (kind == 5) = false := by rw [beq_eq_false_iff_ne]; omega
  have t6 : (kind == 6) = false := by rw [beq_eq_false_iff_ne]; omega
  have t7 : (kind == 7) = false := by rw [beq_eq_false_iff_ne]; omega
  have t8 : (kind == 8) = true := by rw [beq_iff_eq]; omega
  clear hk
  go_enter Tryd.func20, Tryd.ntmps20
  go_wp2_with fail
  refine HR.out.mono ?_
  rintro e w1 ⟨rfl, h1⟩
  have H1 : Hid (Bth B w0 w1 r ao1 cap1 p ao2 cap2 l a a) := h1
  clear h1
  go_wp2_with fail
  refine (HP.out w1 H1.out).mono ?_
  rintro e w2 ⟨rfl, h2⟩
  have H2 : Hid (Bth B w0 w2 r ao1 cap1 p ao2 cap2 l a a) := h2
  clear h2
  go_wp2
  go_ret
  exact ⟨rfl, a, H2.out⟩
set_option maxHeartbeats 2000000 in
theorem reads_0 (B : Nat) (w0 w : World) (r : Nat) (ao1 : Option Addr) (cap1 p : Nat) (ao2 : Option Addr) (cap2 : Nat) (l : List Nat) (a : Nat) (kind n : Int) (h : Bth B w0 w r ao1 cap1 p ao2 cap2 l a a) (h1 : kind ≠ 1) (h2 : kind ≠ 2) (h3 : kind ≠ 3) (h4 : kind ≠ 4) (h5 : kind ≠ 5) (h6 : kind ≠ 6) (h7 : kind ≠ 7) (h8 : kind ≠ 8) :
    Calls Tryd.prog 20 #[.pointer (some ⟨r, 0, none⟩), .pointer (some ⟨p, 0, none⟩), .agg #[.int .i64 kind, .int .i64 n]] w fun e w' => e = .returned (.bool true) ∧ ∃ a', Bth B w0 w' r ao1 cap1 p ao2 cap2 l a' a' := by
  have H0 : Hid (Bth B w0 (w.alloc (.cells #[.int .i64 kind, .int .i64 n] 55)) r ao1 cap1 p ao2 cap2 l a a) := h.below ((Below.refl _ _).alloc (Nat.le_refl _) _)
  clear h
  have t1 : (kind == 1) = false := by rw [beq_eq_false_iff_ne]; omega
  have t2 : (kind == 2) = false := by rw [beq_eq_false_iff_ne]; omega
  have t3 : (kind == 3) = false := by rw [beq_eq_false_iff_ne]; omega
  have t4 : (kind == 4) = false := by rw [beq_eq_false_iff_ne]; omega
  have t5 : (kind == 5) = false := by rw [beq_eq_false_iff_ne]; omega
  have t6 : (kind == 6) = false := by rw [beq_eq_false_iff_ne]; omega
  have t7 : (kind == 7) = false := by rw [beq_eq_false_iff_ne]; omega
  have t8 : (kind == 8) = false := by rw [beq_eq_false_iff_ne]; omega
  clear h1 h2 h3 h4 h5 h6 h7 h8
  go_enter Tryd.func20, Tryd.ntmps20
  go_wp2
  go_ret
  exact ⟨rfl, a, H0.out⟩

set_option maxHeartbeats 2000000 in
theorem reads_7 (B : Nat) (w0 w : World) (r : Nat) (ao1 : Option Addr) (cap1 p : Nat) (ao2 : Option Addr) (cap2 : Nat) (l : List Nat) (a : Nat) (kind n : Int) (h : Bth B w0 w r ao1 cap1 p ao2 cap2 l a a) (hk : kind = 7) :
    Calls Tryd.prog 20 #[.pointer (some ⟨r, 0, none⟩), .pointer (some ⟨p, 0, none⟩), .agg #[.int .i64 kind, .int .i64 n]] w fun e w' => e = .returned (.bool true) ∧ ∃ a', Bth B w0 w' r ao1 cap1 p ao2 cap2 l a' a' := by
  have hA : Bth B w0 (w.alloc (.cells #[.int .i64 kind, .int .i64 n] 55)) r ao1 cap1 p ao2 cap2 l a a := h.below ((Below.refl _ _).alloc (Nat.le_refl _) _)
  have HAt : Hid (∀ q, Calls Tryd.prog 63 #[.pointer (some ⟨r, 0, none⟩)] (((w.alloc (.cells #[.int .i64 kind, .int .i64 n] 55))).drewN q) fun e w' => e = .returned (.int .i64 (a : Int)) ∧ w' = ((w.alloc (.cells #[.int .i64 kind, .int .i64 n] 55))).drewN q) := fun q => rat_any _ r ao1 cap1 l a _ (hA.drewN q).r
  have HL : Hid (∀ q, Calls Tryd.prog 64 #[.pointer (some ⟨r, 0, none⟩)] (((w.alloc (.cells #[.int .i64 kind, .int .i64 n] 55))).drewN q) fun e w' => e = .returned (.int .i64 ((l.length : Int) - (a : Int))) ∧ ∃ q', w' = (((w.alloc (.cells #[.int .i64 kind, .int .i64 n] 55))).drewN q).drewN q') := fun q => rleft_any _ r ao1 cap1 l a _ _ (hA.drewN q).r rfl
  have H0 : Hid (∀ q, Bth B w0 (((w.alloc (.cells #[.int .i64 kind, .int .i64 n] 55))).drewN q) r ao1 cap1 p ao2 cap2 l a a) := fun q => hA.drewN q
  have c0 := hA.p.c0
  have c1 := hA.p.c1
  have hlen := hA.p.len
  have hle := hA.p.le
  clear h hA
  generalize l.length = m at *
  have t1 : (kind == 1) = false := by rw [beq_eq_false_iff_ne]; omega
  have t2 : (kind == 2) = false := by rw [beq_eq_false_iff_ne]; omega
  have t3 : (kind == 3) = false := by rw [beq_eq_false_iff_ne]; omega
  have t4 : (kind == 4) = false := by rw [beq_eq_false_iff_ne]; omega
  have t5 : (kind == 5) = false := by rw [beq_eq_false_iff_ne]; omega
  have t6 : (kind == 6) = false := by rw [beq_eq_false_iff_ne]; omega
  have t7 : (kind == 7) = true := by rw [beq_iff_eq]; omega
  clear hk
  go_enter Tryd.func20, Tryd.ntmps20
  go_wp2
  go_quiet (first | (go_at_call 63; exact Calls.quiet_of_same (HAt.out _)) | (go_at_call 64; exact Calls.quiet_of (HL.out _)))
  go_wp2
  go_ret
  exact ⟨rfl, a, H0.out _⟩

theorem readsB_any (B : Nat) (w0 w : World) (r : Nat) (ao1 : Option Addr) (cap1 p : Nat) (ao2 : Option Addr) (cap2 : Nat) (l : List Nat) (a : Nat) (kind n : Int) (h : Bth B w0 w r ao1 cap1 p ao2 cap2 l a a) (hT : Tabs w) (hl : l.length ≤ 1048576) (hn63 : n ≤ 9223372036854775807) :
    Calls Tryd.prog 20 #[.pointer (some ⟨r, 0, none⟩), .pointer (some ⟨p, 0, none⟩), .agg #[.int .i64 kind, .int .i64 n]] w fun e w' => e = .returned (.bool true) ∧ ∃ a', Bth B w0 w' r ao1 cap1 p ao2 cap2 l a' a' := by
  by_cases h1 : kind = 1
  · exact reads_1 B w0 w r ao1 cap1 p ao2 cap2 l a kind n h h1
  by_cases h2 : kind = 2
  · exact reads_2 B w0 w r ao1 cap1 p ao2 cap2 l a kind n h h2
  by_cases h3 : kind = 3
  · exact reads_3 B w0 w r ao1 cap1 p ao2 cap2 l a kind n h h3
  by_cases h4 : kind = 4
  · exact reads_4 B w0 w r ao1 cap1 p ao2 cap2 l a kind n h h4
  by_cases h5 : kind = 5
  · exact reads_5 B w0 w r ao1 cap1 p ao2 cap2 l a kind n h h5 hl hn63
  by_cases h6 : kind = 6
  · exact reads_6 B w0 w r ao1 cap1 p ao2 cap2 l a kind n h hT h6 hn63
  by_cases h7 : kind = 7
  · exact reads_7 B w0 w r ao1 cap1 p ao2 cap2 l a kind n h h7
  by_cases h8 : kind = 8
  · exact reads_8 B w0 w r ao1 cap1 p ao2 cap2 l a kind n h h8
  exact reads_0 B w0 w r ao1 cap1 p ao2 cap2 l a kind n h h1 h2 h3 h4 h5 h6 h7 h8
end Go.Proofs.YtpkobgnbjmefnabDoor
