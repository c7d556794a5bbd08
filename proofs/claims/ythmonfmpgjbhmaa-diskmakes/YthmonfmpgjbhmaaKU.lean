import Derived.Test.YthmonfmpgjbhmaaKO
import Derived.Deep.RegionHeld3
namespace Go.Proofs.Ythmonfmpgjbhmaa.K
open Go.RowKit Go.Maps Go.Proofs.Ythmonfmpgjbhmaa
attribute [local go_sem] Oper.semAt_some
set_option linter.unusedVariables false
set_option linter.unusedSimpArgs false
set_option maxRecDepth 100000

theorem news_two (W : World) (v u : Value) : ∀ j x, [v, u][j]? = some x → (W.alloc (.cells #[v, u] 5)).cell? ((⟨W.heap.size, 0, none⟩ : Addr).add j) = some x := by
  intro j x hx
  rw [add_plain, Nat.zero_add, cell_of (heap_alloc_new W _)]
  simpa using hx
/-- the bytes with two marks behind them -/
structure Full (W w' : World) (g c m : Nat) (l : List Nat) : Prop where
  new : W.heap.size ≤ g
  blk : ∃ cur, w'.heap[g]? = some (.cells cur 5) ∧ ∀ (j x : Nat), (l ++ [90, 91])[j]? = some x → cur[j]? = some (bv x)
  cp : m + 2 ≤ c
theorem Full.brow {W w' : World} {g c m : Nat} {l : List Nat} (h : Full W w' g c m l) (hlt : ∀ x ∈ l, x < 256) (hlen : l.length ≤ 140737488351232) : BRow w' (some ⟨g, 0, none⟩) c l := by
  obtain ⟨cur, hb, hc⟩ := h.blk
  refine ⟨hlt, hlen, (fun e => by cases e), fun _ => ⟨g, 0, rfl, fun k hk => ?_⟩⟩
  rw [Nat.zero_add, cell_of hb]
  exact hc k _ (by rw [List.getElem?_append_left hk, List.getElem?_eq_getElem hk])
theorem Full.marks {W w' : World} {g c m : Nat} {l : List Nat} (h : Full W w' g c m l) (hm : l.length = m) : w'.cell? ⟨g, m, none⟩ = some (.int .u8 90) ∧ w'.cell? ⟨g, m + 1, none⟩ = some (.int .u8 91) := by
  obtain ⟨cur, hb, hc⟩ := h.blk
  subst hm
  exact ⟨(cell_of hb).trans (hc _ 90 (by simp)), (cell_of hb).trans (hc _ 91 (by simp))⟩
theorem full_of {W w' : World} {v : Value} {m : Nat} {l : List Nat} (hm : l.length = m) (ho : w'.ownsRow W.heap.size 5 1 v (m + 2) (l.map bv ++ [.int .u8 90, .int .u8 91])) : ∃ g c, v = .slice (some ⟨g, 0, none⟩) (m + 2) c ∧ Full W w' g c m l := by
  have e : l.map bv ++ [.int .u8 90, .int .u8 91] = (l ++ [90, 91]).map bv := by simp [bv]
  rw [e] at ho
  obtain ⟨g, c, cur, hv, hg, hk, hc⟩ := own_form ho (by omega)
  refine ⟨g, c, hv, hg, ⟨cur, hk, hc⟩, ?_⟩
  rcases ho.2 with ⟨_, h0'⟩ | ⟨g', cap', cur', hv', _, _, h3⟩
  · omega
  · rw [hv] at hv'; cases hv'; exact h3.1

set_option maxHeartbeats 8000000 in
theorem lawMakes_bb (w : World) (ns : Int) (hns : ns < 1 ∨ 65536 < ns) (ad : Addr) (ci m : Nat) (l : List Nat) (s : Int) (h : BRow w (some ad) ci l) (hm : l.length = m) (hbad : m % 512 ≠ 0 ∨ m / 512 < 1 ∨ 65536 < m / 512) :
    Calls Try.prog 3 #[.int .i64 ns, .slice (some ad) m ci, .int .i64 s] w fun r w' => r = .returned (.bool true) ∧ Below w.heap.size w w' := by
  have h1 := made_bad w ns hns
  have HR : Hid (BRow w (some ad) ci l) := h
  have hml : m ≤ 140737488351232 := by rw [← hm]; exact h.len
  have HM : Hid (l.length = m) := hm
  have HBad : Hid (m % 512 ≠ 0 ∨ m / 512 < 1 ∨ 65536 < m / 512) := hbad
  clear hbad h hns hm
  obtain ⟨i0, hi, hz0, hz1, hz2⟩ := info_parts info5x
  go_enter Try.func3, Try.ntmps3
  go_wp2_with fail
  refine h1.mono ?_
  clear h1
  rintro e w9 ⟨rfl, hw9⟩
  rw [hw9]
  clear hw9
  go_wp2_with fail
  refine (heads_any w).mono ?_
  rintro e w1 ⟨rfl, hb1⟩
  have HB1 : Hid (Below w.heap.size w w1) := hb1
  clear hb1
  go_wp2_with fail
  go_quiet (fail)
  have HB2 : Hid (Below w.heap.size w (w1.drewN nq)) := HB1.out.trans ⟨rfl, rfl, rfl, Nat.le_refl _, fun _ _ => rfl⟩
  clear HB1
  generalize w1.drewN nq = w3 at *
  have H1 : Hid (∀ u ∈ l.map bv, u.oneCell' = true) := Lc_one' l
  have HR3 : Hid (BRow w3 (some ad) ci l) := HR.out.later HB2.out
  have HNw : Hid (∀ j u, (l.map bv)[j]? = some u → (w3.alloc (.cells #[] 5)).cell? (ad.add j) = some u) := fun j u hu => by
    refine cell_later ((Below.refl _ w3).alloc (Nat.le_refl _) _) ?_
    rw [List.getElem?_map] at hu
    by_cases hj : j < l.length
    · rw [List.getElem?_eq_getElem hj] at hu
      obtain ⟨b', off, e, hc⟩ := HR3.out.at_ (by rintro rfl; simp at hj)
      cases e
      simp only [Option.map_some, Option.some.injEq] at hu
      subst hu
      rw [add_plain]; exact hc j hj
    · rw [List.getElem?_eq_none (by omega)] at hu; simp at hu
  go_wp2_with (first | (at_builtin; refine wpList_append_own _ rfl _ _ TBs rfl w3.heap.size 5 i0 (.int .u8 0) 1 1 Try.underlying22 hi hz0 hz1 hz2 rfl (by decide) _ _ _ rfl (World.ownsRow_made w3 #[] 0 (Nat.le_refl _) (Nat.zero_le _) rfl) ad m ci (l.map bv) rfl (by simp; exact HM.out) HNw.out H1.out (by unfold maxLen; omega) (by omega) (by simp) ?_; intro v4 w4 ho4 hg4 _; have HB4 : Hid (Below w3.heap.size w3 w4) := ((Below.refl w3.heap.size w3).alloc (Nat.le_refl _) _).grown hg4 (by simp) (by intro k hk; cases hk; exact Nat.le_refl _); have HO4 : Hid (w4.ownsRow w3.heap.size 5 1 v4 m (l.map bv)) := (by simpa [Hid] using ho4); clear ho4 hg4) | (at_builtin; refine wpList_append_own _ rfl _ _ TBs rfl w3.heap.size 5 i0 (.int .u8 0) 1 1 Try.underlying22 hi hz0 hz1 hz2 rfl (by decide) v4 m (l.map bv) rfl (HO4.out.alloc _) ⟨w4.heap.size, 0, none⟩ 2 2 [.int .u8 90, .int .u8 91] rfl rfl (news_two _ _ _) (by simp [Value.oneCell']) (by unfold maxLen; omega) (by omega) (by have := HB4.out.size; simp; omega) ?_; intro v5 w5 ho5 hg5 _; have HB5 : Hid (Below w3.heap.size w3 w5) := (HB4.out.alloc HB4.out.size _).grown hg5 (by have := HB4.out.size; simp; omega) (fun k hk => (HO4.out.lt k hk).1); obtain ⟨g, c, hv5, hful⟩ := full_of HM.out ho5; have HFu : Hid (Full w3 w5 g c m l) := hful; have hmc : (m : Int) ≤ (c : Int) := (by have := hful.cp; omega); subst hv5; clear ho5 hg5 hful))
  refine (load_bad w5 _ c m hml HBad.out).mono ?_
  rintro e w8 ⟨rfl, hw8⟩
  rw [hw8]
  clear hw8
  go_wp2_with fail
  refine (rload_bad w5 _ ci m hml HBad.out).mono ?_
  rintro e w8 ⟨rfl, hw8⟩
  rw [hw8]
  clear hw8
  obtain ⟨k90, k91⟩ := HFu.out.marks HM.out
  have t1 : ((m : Int) + 1).toNat = m + 1 := by omega
  have t2 : (m : Int) < (m : Int) + 2 := by omega
  have t3 : (m : Int) + 1 < (m : Int) + 2 := by omega
  have t4 : (0 : Int) ≤ (m : Int) + 1 := by omega
  go_wp2
  go_ret
  exact ⟨rfl, HB2.out.trans (HB5.out.mono HB2.out.size)⟩
set_option maxHeartbeats 8000000 in
theorem lawMakes_ab (w : World) (n : Nat) (h0 : 1 ≤ n) (h1 : n ≤ 65536) (ad : Addr) (ci m : Nat) (l : List Nat) (s : Int) (h : BRow w (some ad) ci l) (hm : l.length = m) (hbad : m % 512 ≠ 0 ∨ m / 512 < 1 ∨ 65536 < m / 512) :
    Calls Try.prog 3 #[.int .i64 n, .slice (some ad) m ci, .int .i64 s] w fun r w' => r = .returned (.bool true) ∧ Below w.heap.size w w' := by
  have h1 := made_any w n h0 h1
  have HR : Hid (BRow w (some ad) ci l) := h
  have hml : m ≤ 140737488351232 := by rw [← hm]; exact h.len
  have HM : Hid (l.length = m) := hm
  have HBad : Hid (m % 512 ≠ 0 ∨ m / 512 < 1 ∨ 65536 < m / 512) := hbad
  clear hbad h hm h0
  obtain ⟨i0, hi, hz0, hz1, hz2⟩ := info_parts info5x
  go_enter Try.func3, Try.ntmps3
  go_wp2_with fail
  refine h1.mono ?_
  clear h1
  rintro e w1 ⟨b, p, rfl, ms, ml, hs1, hr1, hp1, hp2⟩
  have HS1 : Hid (Hs w w1 b ms ml (.slice none 0 0) (.slice none 0 0) (newDk n)) := hs1
  have HP1 : Hid (RRf w1 p n (.slice none 0 0) 0) := hr1
  have HN : Hid (p ∉ fp b ms ml (.slice none 0 0) (.slice none 0 0)) := hp2
  clear hs1 hr1 hp1 hp2
  go_wp2_with fail
  refine (heads_any w1).mono ?_
  rintro e w2 ⟨rfl, hb2⟩
  have HS2 : Hid (Hs w w2 b ms ml (.slice none 0 0) (.slice none 0 0) (newDk n)) := HS1.out.later hb2
  have HP2 : Hid (RRf w2 p n (.slice none 0 0) 0) := (hb2.block p (Array.getElem?_eq_some_iff.1 HP1.out).1).trans HP1.out
  have c0 : w2.cell? ⟨p, 0, none⟩ = some (.int .i64 n) := HP2.out.c 0
  clear hb2 HS1 HP1
  have HSec : Hid (Calls Try.prog 11 #[.pointer (some ⟨b, 0, none⟩)] w2.drew fun r w' => r = .returned (.int .i64 n) ∧ DAct w2.drew w' 0 b ms ml ms ml (.slice none 0 0) (.slice none 0 0) (.slice none 0 0) (.slice none 0 0) (newDk n)) := sectors_any (w := w2.drew) (S := newDk n) (HS2.out.rk.later (w' := w2.drew) ⟨rfl, rfl, rfl, Nat.le_refl _, fun _ _ => rfl⟩)
  go_wp2_with fail
  go_region_held3 (fun w' => w'.cell? ⟨p, 0, none⟩ = some (.int .i64 n)) (first | exact c3 | go_keep) (first | (go_at_call 11; refine HSec.out.mono ?_; clear HSec; rintro e w3 ⟨rfl, hd3⟩; have HB2 : Hid (Below w.heap.size w w3) := ((HS2.out.later (⟨rfl, rfl, rfl, Nat.le_refl _, fun _ _ => rfl⟩ : Below w2.heap.size w2 w2.drew)).step hd3).bl; have c3 : w3.cell? ⟨p, 0, none⟩ = some (.int .i64 n) := (cell_of ((hd3.kp.block p (Array.getElem?_eq_some_iff.1 HP2.out).1 HN.out).trans HP2.out)).trans rfl; clear hd3))
  have H1 : Hid (∀ u ∈ l.map bv, u.oneCell' = true) := Lc_one' l
  have HR3 : Hid (BRow w3 (some ad) ci l) := HR.out.later HB2.out
  have HNw : Hid (∀ j u, (l.map bv)[j]? = some u → (w3.alloc (.cells #[] 5)).cell? (ad.add j) = some u) := fun j u hu => by
    refine cell_later ((Below.refl _ w3).alloc (Nat.le_refl _) _) ?_
    rw [List.getElem?_map] at hu
    by_cases hj : j < l.length
    · rw [List.getElem?_eq_getElem hj] at hu
      obtain ⟨b', off, e, hc⟩ := HR3.out.at_ (by rintro rfl; simp at hj)
      cases e
      simp only [Option.map_some, Option.some.injEq] at hu
      subst hu
      rw [add_plain]; exact hc j hj
    · rw [List.getElem?_eq_none (by omega)] at hu; simp at hu
  go_wp2_with (first | (at_builtin; refine wpList_append_own _ rfl _ _ TBs rfl w3.heap.size 5 i0 (.int .u8 0) 1 1 Try.underlying22 hi hz0 hz1 hz2 rfl (by decide) _ _ _ rfl (World.ownsRow_made w3 #[] 0 (Nat.le_refl _) (Nat.zero_le _) rfl) ad m ci (l.map bv) rfl (by simp; exact HM.out) HNw.out H1.out (by unfold maxLen; omega) (by omega) (by simp) ?_; intro v4 w4 ho4 hg4 _; have HB4 : Hid (Below w3.heap.size w3 w4) := ((Below.refl w3.heap.size w3).alloc (Nat.le_refl _) _).grown hg4 (by simp) (by intro k hk; cases hk; exact Nat.le_refl _); have HO4 : Hid (w4.ownsRow w3.heap.size 5 1 v4 m (l.map bv)) := (by simpa [Hid] using ho4); clear ho4 hg4) | (at_builtin; refine wpList_append_own _ rfl _ _ TBs rfl w3.heap.size 5 i0 (.int .u8 0) 1 1 Try.underlying22 hi hz0 hz1 hz2 rfl (by decide) v4 m (l.map bv) rfl (HO4.out.alloc _) ⟨w4.heap.size, 0, none⟩ 2 2 [.int .u8 90, .int .u8 91] rfl rfl (news_two _ _ _) (by simp [Value.oneCell']) (by unfold maxLen; omega) (by omega) (by have := HB4.out.size; simp; omega) ?_; intro v5 w5 ho5 hg5 _; have HB5 : Hid (Below w3.heap.size w3 w5) := (HB4.out.alloc HB4.out.size _).grown hg5 (by have := HB4.out.size; simp; omega) (fun k hk => (HO4.out.lt k hk).1); obtain ⟨g, c, hv5, hful⟩ := full_of HM.out ho5; have HFu : Hid (Full w3 w5 g c m l) := hful; have hmc : (m : Int) ≤ (c : Int) := (by have := hful.cp; omega); subst hv5; clear ho5 hg5 hful))
  refine (load_bad w5 _ c m hml HBad.out).mono ?_
  rintro e w8 ⟨rfl, hw8⟩
  rw [hw8]
  clear hw8
  go_wp2_with fail
  refine (rload_bad w5 _ ci m hml HBad.out).mono ?_
  rintro e w8 ⟨rfl, hw8⟩
  rw [hw8]
  clear hw8
  obtain ⟨k90, k91⟩ := HFu.out.marks HM.out
  have t1 : ((m : Int) + 1).toNat = m + 1 := by omega
  have t2 : (m : Int) < (m : Int) + 2 := by omega
  have t3 : (m : Int) + 1 < (m : Int) + 2 := by omega
  have t4 : (0 : Int) ≤ (m : Int) + 1 := by omega
  go_wp2
  go_ret
  exact ⟨rfl, HB2.out.trans (HB5.out.mono HB2.out.size)⟩
end Go.Proofs.Ythmonfmpgjbhmaa.K
