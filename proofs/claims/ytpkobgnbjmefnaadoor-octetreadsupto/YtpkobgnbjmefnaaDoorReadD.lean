import Derived.Test.YtpkobgnbjmefnaaDoorReadB
namespace Go.Proofs.YtpkobgnbjmefnaaDoor
open Go.RowKit
set_option linter.unusedVariables false
set_option maxRecDepth 100000

theorem lists_one {w : World} {B : Nat} {x : Value} {lx : List Nat} (hx : w.ownsRow B 5 1 x lx.length (lx.map bv)) (hB : B ≤ w.heap.size) (s1 : lx.length ≤ 16777216) (t : TypeId) :
    Lists (w.alloc (.cells #[x] t)) B w.heap.size 0 1 (fun _ => x) (fun _ => lx.length) := by
  refine ⟨fun i hi => ?_, fun i hi => ⟨lx, hx.alloc _⟩, fun i j hi hj hne => by omega, fun i hi e => ?_, fun i hi => Nat.le_trans s1 (by decide), by simp; omega⟩
  · obtain rfl : i = 0 := by omega
    rw [World.cell?_alloc_mark]; rfl
  · have := (owns_lt hx _ e).1; omega
set_option maxHeartbeats 4000000 in
theorem reads_5 (w0 w : World) (r : Nat) (ao1 : Option Addr) (cap1 p : Nat) (ao2 : Option Addr) (cap2 : Nat) (l : List Nat) (a : Nat) (kind n : Int) (h : Both w0 w r ao1 cap1 p ao2 cap2 l a a) (hk : kind = 5) (hl : l.length ≤ 1048576) (hn63 : n ≤ 9223372036854775807) :
    Calls Tryd.prog 18 #[.pointer (some ⟨r, 0, none⟩), .pointer (some ⟨p, 0, none⟩), .agg #[.int .i64 kind, .int .i64 n]] w fun e w' => e = .returned (.bool true) ∧ ∃ a', Both w0 w' r ao1 cap1 p ao2 cap2 l a' a' := by
  have hA : Both w0 (w.alloc (.cells #[.int .i64 kind, .int .i64 n] 47)) r ao1 cap1 p ao2 cap2 l a a := h.below ((Below.refl _ _).alloc (Nat.le_refl _) _)
  have HR : Hid (Calls Tryd.prog 33 #[.pointer (some ⟨r, 0, none⟩), .int .i64 n] (w.alloc (.cells #[.int .i64 kind, .int .i64 n] 47)) fun e w' => ∃ ao' cap', e = .returned (.tuple #[.slice ao' (rawM l a n).length cap', .int .i64 (rawE l a n : Nat)]) ∧ w'.ownsRow (w.heap.size + 1) 5 1 (.slice ao' (rawM l a n).length cap') (rawM l a n).length ((rawM l a n).map bv) ∧ Both w0 w' r ao1 cap1 p ao2 cap2 l (rawA l a n) a ∧ w.heap.size + 1 ≤ w'.heap.size ∧ w'.cell? ⟨w.heap.size, 1, none⟩ = some (.int .i64 n)) :=
    (rraw_any _ r ao1 cap1 l a n _ hA.r).mono fun e w' hh => by
      obtain ⟨ao', cap', h1, h2, h3⟩ := hh
      rw [World.size_alloc] at h2
      exact ⟨ao', cap', h1, h2, hA.afterR h3, by have := h3.kept.size; rwa [World.size_alloc] at this, by rw [blk_at (h.locR h3)]; rfl⟩
  have HP : Hid (∀ W, Both w0 W r ao1 cap1 p ao2 cap2 l (rawA l a n) a → Calls Tryd.prog 45 #[.pointer (some ⟨p, 0, none⟩), .int .i64 n] W fun e w' => ∃ ao' cap', e = .returned (.tuple #[.slice ao' (rawM l a n).length cap', .int .i64 (rawE l a n : Nat)]) ∧ w'.ownsRow W.heap.size 5 1 (.slice ao' (rawM l a n).length cap') (rawM l a n).length ((rawM l a n).map bv) ∧ Both w0 w' r ao1 cap1 p ao2 cap2 l (rawA l a n) (rawA l a n) ∧ KeptIn (fun g => g = p) W w') := fun W hW =>
    (praw_any _ p ao2 cap2 l a n W hW.p hn63).mono fun e w' hh => by
      obtain ⟨ao', cap', h1, h2, h3⟩ := hh
      exact ⟨ao', cap', h1, h2, hW.afterP h3, h3.kept⟩
  have he := rawE_le l a n
  have HM : Hid ((rawM l a n).length ≤ 1048576 ∧ ∀ x ∈ rawM l a n, x < 256) := ⟨Nat.le_trans (rawM_len l a n) hl, rawM_lt l a n h.r.lt⟩
  have H0 : Hid (Both w0 w r ao1 cap1 p ao2 cap2 l a a) := h
  clear h hA
  generalize rawM l a n = M at *
  generalize rawE l a n = c at *
  generalize rawA l a n = a' at *
  generalize hm : M.length = m at *
  have HN : Hid (M.length = m) := hm
  clear hm
  have t1 : (kind == 1) = false := by rw [beq_eq_false_iff_ne]; omega
  have t2 : (kind == 2) = false := by rw [beq_eq_false_iff_ne]; omega
  have t3 : (kind == 3) = false := by rw [beq_eq_false_iff_ne]; omega
  have t4 : (kind == 4) = false := by rw [beq_eq_false_iff_ne]; omega
  have t5 : (kind == 5) = true := by rw [beq_iff_eq]; omega
  clear hk
  go_enter Tryd.func18, Tryd.ntmps18
  go_wp2_with fail
  refine HR.out.mono ?_
  rintro e w1 ⟨ax, cx, rfl, ho1, h1, hz1, y1⟩
  have HZ1 : Hid (w.heap.size + 1 ≤ w1.heap.size) := hz1
  have H1 : Hid (Both w0 w1 r ao1 cap1 p ao2 cap2 l a' a) := h1
  have HO1 : Hid (w1.ownsRow (w.heap.size + 1) 5 1 (.slice ax m cx) m (M.map bv)) := ho1
  clear h1 ho1 hz1
  go_wp2_with fail
  refine (HP.out w1 H1.out).mono ?_
  rintro e w2 ⟨ay, cy, rfl, ho2, h2, hk2⟩
  have H2 : Hid (Both w0 w2 r ao1 cap1 p ao2 cap2 l a' a') := h2
  have HO2 : Hid (w2.ownsRow w1.heap.size 5 1 (.slice ay m cy) m (M.map bv)) := ho2
  have HO3 : Hid (w2.ownsRow (w.heap.size + 1) 5 1 (.slice ax m cx) m (M.map bv)) := owns_same HO1.out fun g hg => hk2.block g (owns_lt HO1.out g hg).1 (fun e => by
    have := (owns_lt HO1.out g hg).2
    have := block_lt H0.out.p.blk
    omega)
  have HZ : Hid (w.heap.size + 1 ≤ w2.heap.size) := Nat.le_trans HZ1.out hk2.size
  clear h2 ho2 hk2
  have HSm : Hid (Calls Tryd.prog 11 #[.slice ax m cx, .slice ay m cy] w2 fun e w' => e = .returned (.bool true) ∧ ∃ q, w' = w2.drewN q) := by
    have hm := HN.out
    subst hm
    obtain ⟨a1, c1, e1, r1⟩ := BRow.own HO3.out HM.out.2 (by have := HM.out.1; omega)
    obtain ⟨a2, c2, e2, r2⟩ := BRow.own HO2.out HM.out.2 (by have := HM.out.1; omega)
    simp only [Value.slice.injEq] at e1 e2
    obtain ⟨rfl, _, rfl⟩ := e1
    obtain ⟨rfl, _, rfl⟩ := e2
    have := same_any _ _ _ _ M M w2 r1 r2
    rwa [decide_eq_true rfl] at this
  have HOw : Hid (∀ q, Calls Tryd.prog 12 #[.slice (some ⟨w2.heap.size, 0, none⟩) 1 1] ((w2.drewN q).alloc (.cells #[.slice ax m cx] 25)) fun e w' => e = .returned (.bool true) ∧ Both w0 w' r ao1 cap1 p ao2 cap2 l a' a') := fun q => by
    have hn' := HN.out
    subst hn'
    have hb : Below w2.heap.size w2 ((w2.drewN q).alloc (.cells #[.slice ax M.length cx] 25)) := (below_drew0 w2 q).alloc (Nat.le_refl _) _
    have hli := lists_one (w := w2.drewN q) (t := 25) (owns_same HO3.out (fun _ _ => rfl)) HZ.out (by have := HM.out.1; omega)
    refine (own_some (w.heap.size + 1) w2.heap.size 0 1 1 _ _ _ (by decide) hli).mono fun e w' hh => ⟨hh.1, ?_⟩
    refine H0.out.later (H2.out.below hb) hh.2 (fun g hg => ?_)
    obtain ⟨i, _, hi⟩ := hg
    have := (owns_lt HO3.out g hi).2
    omega
  go_wp2_with fail
  refine HSm.out.mono ?_
  rintro e w3 ⟨rfl, q, hw⟩
  rw [hw]; clear hw
  go_wp2_with fail
  refine (HOw.out q).mono ?_
  rintro e w4 ⟨rfl, h4⟩
  have H4 : Hid (Both w0 w4 r ao1 cap1 p ao2 cap2 l a' a') := h4
  clear h4
  go_wp2
  go_ret
  exact ⟨rfl, a', H4.out⟩
end Go.Proofs.YtpkobgnbjmefnaaDoor
