import Derived.Test.YthmonfmpgjbhmaaKU
namespace Go.Proofs.Ythmonfmpgjbhmaa.K
open Go.RowKit Go.Maps Go.Proofs.Ythmonfmpgjbhmaa
attribute [local go_sem] Oper.semAt_some
set_option linter.unusedVariables false
set_option linter.unusedSimpArgs false
set_option maxRecDepth 100000

set_option maxHeartbeats 8000000 in
theorem lawMakes_bn (w : World) (ns : Int) (hns : ns < 1 ∨ 65536 < ns) (s : Int) :
    Calls Try.prog 3 #[.int .i64 ns, .slice none 0 0, .int .i64 s] w fun r w' => r = .returned (.bool true) ∧ Below w.heap.size w w' := by
  have h1 := made_bad w ns hns
  clear hns
  obtain ⟨i0, hi, hz0, hz1, hz2⟩ := info_parts info5x
  go_enter Try.func3, Try.ntmps3
  go_wp2_with fail
  refine h1.mono ?_
  clear h1
  rintro e w9 ⟨rfl, hw9⟩
  rw [hw9]
  clear hw9
  go_wp2_with fail
  refine (heads_any w).mono ?_
  rintro e w1 ⟨rfl, hb1⟩
  have HB1 : Hid (Below w.heap.size w w1) := hb1
  clear hb1
  go_wp2_with fail
  go_quiet (fail)
  have HB2 : Hid (Below w.heap.size w (w1.drewN nq)) := HB1.out.trans ⟨rfl, rfl, rfl, Nat.le_refl _, fun _ _ => rfl⟩
  clear HB1
  generalize w1.drewN nq = w3 at *
  have HB4 : Hid (Below w3.heap.size w3 (w3.alloc (.cells #[] 5))) := (Below.refl _ w3).alloc (Nat.le_refl _) _
  have HN2 : Hid (∀ j x, [Value.int .u8 90, .int .u8 91][j]? = some x → ((w3.alloc (.cells #[] 5)).alloc (.cells #[.int .u8 90, .int .u8 91] 5)).cell? ((⟨w3.heap.size + 1, 0, none⟩ : Addr).add j) = some x) := by
    have := news_two (w3.alloc (.cells #[] 5)) (.int .u8 90) (.int .u8 91)
    rw [World.size_alloc] at this
    exact this
  have HO4 : Hid ((w3.alloc (.cells #[] 5)).ownsRow w3.heap.size 5 1 (.slice (some ⟨w3.heap.size, 0, none⟩) 0 0) 0 []) := World.ownsRow_made w3 #[] 0 (Nat.le_refl _) (Nat.zero_le _) rfl
  go_wp2_with (first | (at_builtin; refine wpList_append_own_none rfl _ _ TBs rfl w3.heap.size 5 i0 1 Try.underlying22 hi _ 0 [] rfl (World.ownsRow_made w3 #[] 0 (Nat.le_refl _) (Nat.zero_le _) rfl) rfl ?_) | (at_builtin; refine wpList_append_own _ rfl _ _ TBs rfl w3.heap.size 5 i0 (.int .u8 0) 1 1 Try.underlying22 hi hz0 hz1 hz2 rfl (by decide) (.slice (some ⟨w3.heap.size, 0, none⟩) 0 0) 0 [] rfl (HO4.out.alloc _) ⟨w3.heap.size + 1, 0, none⟩ 2 2 [.int .u8 90, .int .u8 91] rfl rfl HN2.out (by simp [Value.oneCell']) (by decide) (by decide) (by simp; omega) ?_; intro v5 w5 ho5 hg5 _; have HB5 : Hid (Below w3.heap.size w3 w5) := (HB4.out.alloc HB4.out.size _).grown hg5 (by simp; omega) (fun k hk => (HO4.out.lt k hk).1); obtain ⟨g, c, hv5, hful⟩ := full_of (m := 0) (l := []) rfl ho5; have HFu : Hid (Full w3 w5 g c 0 []) := hful; have hmc : (0 : Int) ≤ (c : Int) := (by omega); subst hv5; clear ho5 hg5 hful))
  refine (load_bad w5 _ c 0 (by decide) (.inr (.inl (by decide)))).mono ?_
  rintro e w8 ⟨rfl, hw8⟩
  rw [hw8]
  clear hw8
  go_wp2_with fail
  refine (rload_bad w5 _ 0 0 (by decide) (.inr (.inl (by decide)))).mono ?_
  rintro e w8 ⟨rfl, hw8⟩
  rw [hw8]
  clear hw8
  obtain ⟨k90, k91⟩ := HFu.out.marks rfl
  go_wp2
  go_ret
  exact ⟨rfl, HB2.out.trans (HB5.out.mono HB2.out.size)⟩
set_option maxHeartbeats 8000000 in
theorem lawMakes_an (w : World) (n : Nat) (h0 : 1 ≤ n) (h1 : n ≤ 65536) (s : Int) :
    Calls Try.prog 3 #[.int .i64 n, .slice none 0 0, .int .i64 s] w fun r w' => r = .returned (.bool true) ∧ Below w.heap.size w w' := by
  have h1 := made_any w n h0 h1
  clear h0
  obtain ⟨i0, hi, hz0, hz1, hz2⟩ := info_parts info5x
  go_enter Try.func3, Try.ntmps3
  go_wp2_with fail
  refine h1.mono ?_
  clear h1
  rintro e w1 ⟨b, p, rfl, ms, ml, hs1, hr1, hp1, hp2⟩
  have HS1 : Hid (Hs w w1 b ms ml (.slice none 0 0) (.slice none 0 0) (newDk n)) := hs1
  have HP1 : Hid (RRf w1 p n (.slice none 0 0) 0) := hr1
  have HN : Hid (p ∉ fp b ms ml (.slice none 0 0) (.slice none 0 0)) := hp2
  clear hs1 hr1 hp1 hp2
  go_wp2_with fail
  refine (heads_any w1).mono ?_
  rintro e w2 ⟨rfl, hb2⟩
  have HS2 : Hid (Hs w w2 b ms ml (.slice none 0 0) (.slice none 0 0) (newDk n)) := HS1.out.later hb2
  have HP2 : Hid (RRf w2 p n (.slice none 0 0) 0) := (hb2.block p (Array.getElem?_eq_some_iff.1 HP1.out).1).trans HP1.out
  have c0 : w2.cell? ⟨p, 0, none⟩ = some (.int .i64 n) := HP2.out.c 0
  clear hb2 HS1 HP1
  have HSec : Hid (Calls Try.prog 11 #[.pointer (some ⟨b, 0, none⟩)] w2.drew fun r w' => r = .returned (.int .i64 n) ∧ DAct w2.drew w' 0 b ms ml ms ml (.slice none 0 0) (.slice none 0 0) (.slice none 0 0) (.slice none 0 0) (newDk n)) := sectors_any (w := w2.drew) (S := newDk n) (HS2.out.rk.later (w' := w2.drew) ⟨rfl, rfl, rfl, Nat.le_refl _, fun _ _ => rfl⟩)
  go_wp2_with fail
  go_region_held3 (fun w' => w'.cell? ⟨p, 0, none⟩ = some (.int .i64 n)) (first | exact c3 | go_keep) (first | (go_at_call 11; refine HSec.out.mono ?_; clear HSec; rintro e w3 ⟨rfl, hd3⟩; have HB2 : Hid (Below w.heap.size w w3) := ((HS2.out.later (⟨rfl, rfl, rfl, Nat.le_refl _, fun _ _ => rfl⟩ : Below w2.heap.size w2 w2.drew)).step hd3).bl; have c3 : w3.cell? ⟨p, 0, none⟩ = some (.int .i64 n) := (cell_of ((hd3.kp.block p (Array.getElem?_eq_some_iff.1 HP2.out).1 HN.out).trans HP2.out)).trans rfl; clear hd3))
  have HB4 : Hid (Below w3.heap.size w3 (w3.alloc (.cells #[] 5))) := (Below.refl _ w3).alloc (Nat.le_refl _) _
  have HN2 : Hid (∀ j x, [Value.int .u8 90, .int .u8 91][j]? = some x → ((w3.alloc (.cells #[] 5)).alloc (.cells #[.int .u8 90, .int .u8 91] 5)).cell? ((⟨w3.heap.size + 1, 0, none⟩ : Addr).add j) = some x) := by
    have := news_two (w3.alloc (.cells #[] 5)) (.int .u8 90) (.int .u8 91)
    rw [World.size_alloc] at this
    exact this
  have HO4 : Hid ((w3.alloc (.cells #[] 5)).ownsRow w3.heap.size 5 1 (.slice (some ⟨w3.heap.size, 0, none⟩) 0 0) 0 []) := World.ownsRow_made w3 #[] 0 (Nat.le_refl _) (Nat.zero_le _) rfl
  go_wp2_with (first | (at_builtin; refine wpList_append_own_none rfl _ _ TBs rfl w3.heap.size 5 i0 1 Try.underlying22 hi _ 0 [] rfl (World.ownsRow_made w3 #[] 0 (Nat.le_refl _) (Nat.zero_le _) rfl) rfl ?_) | (at_builtin; refine wpList_append_own _ rfl _ _ TBs rfl w3.heap.size 5 i0 (.int .u8 0) 1 1 Try.underlying22 hi hz0 hz1 hz2 rfl (by decide) (.slice (some ⟨w3.heap.size, 0, none⟩) 0 0) 0 [] rfl (HO4.out.alloc _) ⟨w3.heap.size + 1, 0, none⟩ 2 2 [.int .u8 90, .int .u8 91] rfl rfl HN2.out (by simp [Value.oneCell']) (by decide) (by decide) (by simp; omega) ?_; intro v5 w5 ho5 hg5 _; have HB5 : Hid (Below w3.heap.size w3 w5) := (HB4.out.alloc HB4.out.size _).grown hg5 (by simp; omega) (fun k hk => (HO4.out.lt k hk).1); obtain ⟨g, c, hv5, hful⟩ := full_of (m := 0) (l := []) rfl ho5; have HFu : Hid (Full w3 w5 g c 0 []) := hful; have hmc : (0 : Int) ≤ (c : Int) := (by omega); subst hv5; clear ho5 hg5 hful))
  refine (load_bad w5 _ c 0 (by decide) (.inr (.inl (by decide)))).mono ?_
  rintro e w8 ⟨rfl, hw8⟩
  rw [hw8]
  clear hw8
  go_wp2_with fail
  refine (rload_bad w5 _ 0 0 (by decide) (.inr (.inl (by decide)))).mono ?_
  rintro e w8 ⟨rfl, hw8⟩
  rw [hw8]
  clear hw8
  obtain ⟨k90, k91⟩ := HFu.out.marks rfl
  go_wp2
  go_ret
  exact ⟨rfl, HB2.out.trans (HB5.out.mono HB2.out.size)⟩
end Go.Proofs.Ythmonfmpgjbhmaa.K
