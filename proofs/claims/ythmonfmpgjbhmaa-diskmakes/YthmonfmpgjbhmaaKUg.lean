import Derived.Test.YthmonfmpgjbhmaaKU
namespace Go.Proofs.Ythmonfmpgjbhmaa.K
open Go.RowKit Go.Maps Go.Proofs.Ythmonfmpgjbhmaa
attribute [local go_sem] Oper.semAt_some
set_option linter.unusedVariables false
set_option linter.unusedSimpArgs false
set_option maxRecDepth 100000

theorem Full.later {W w' w'' : World} {g c m : Nat} {l : List Nat} (h : Full W w' g c m l) (hb : Below w'.heap.size w' w'') : Full W w'' g c m l := by
  obtain ⟨cur, h1, h2⟩ := h.blk
  exact ⟨h.new, ⟨cur, (hb.block g (Array.getElem?_eq_some_iff.1 h1).1).trans h1, h2⟩, h.cp⟩
theorem Full.lt {W w' : World} {g c m : Nat} {l : List Nat} (h : Full W w' g c m l) : g < w'.heap.size := by
  obtain ⟨cur, h1, h2⟩ := h.blk
  exact (Array.getElem?_eq_some_iff.1 h1).1
/-- a row of bytes, whichever -/
def U8s (w : World) (g n : Nat) : Prop := ∃ cur, w.heap[g]? = some (.cells cur 5) ∧ ∀ j, j < n → ∃ x : Nat, cur[j]? = some (bv x)
theorem Full.u8s {W w' : World} {g c m : Nat} {l : List Nat} (h : Full W w' g c m l) (hm : l.length = m) : U8s w' g (m + 2) := by
  obtain ⟨cur, h1, h2⟩ := h.blk
  refine ⟨cur, h1, fun j hj => ?_⟩
  have hl : j < (l ++ [90, 91]).length := by simp; omega
  exact ⟨_, h2 j _ (List.getElem?_eq_getElem hl)⟩
theorem U8s.at_ {w : World} {g n j : Nat} (h : U8s w g n) (hj : j < n) : ∃ x : Nat, w.cell? ⟨g, j, none⟩ = some (.int .u8 x) ∧ w.frozen? ⟨g, j, none⟩ = false ∧ ∀ y : Nat, U8s (w.setCell ⟨g, j, none⟩ (.int .u8 y)) g n := by
  obtain ⟨cur, h1, h2⟩ := h
  obtain ⟨x, hx⟩ := h2 j hj
  refine ⟨x, (cell_of h1).trans hx, frozen_of h1, fun y => ⟨_, blk_set h1 j _, fun i hi => ?_⟩⟩
  by_cases he : i = j
  · subst he
    have hs : i < cur.size := (Array.getElem?_eq_some_iff.1 hx).1
    exact ⟨y, by simp [Array.getElem?_setIfInBounds, hs, bv]⟩
  · obtain ⟨z, hz⟩ := h2 i hi
    exact ⟨z, by rw [Array.getElem?_setIfInBounds_ne (Ne.symm he)]; exact hz⟩
theorem hs_turned {w3 w5 w7 wr : World} {b ms ml g : Nat} {qv fv : Value} {S : Dk} (hb : Below w3.heap.size w3 w5) (hs : Hs w5 w7 b ms ml qv fv S) (hk : Kp w7 wr [g]) (hg : w3.heap.size ≤ g) (hg5 : g < w5.heap.size) : Hs w3 wr b ms ml qv fv S := by
  refine ⟨hs.rk.kept hk (fun i hi hm => ?_), (hb.trans (hs.bl.mono hb.size)).trans (hk.below (fun i hi => ?_) (Nat.le_trans hb.size hs.bl.size)), fun i hi => Nat.le_trans hb.size (hs.own i hi)⟩
  · have h1 := hs.own i hi
    simp at hm
    omega
  · simp at hi
    omega
theorem RL.kept {w w' : World} {p n g cap x : Nat} {l : List Nat} {r : Int} (h : RL w p n g cap l r) (hk : Kp w w' [x]) (hp : p ≠ x) (hg : g ≠ x) : RL w' p n g cap l r := by
  have hne : l ≠ [] := fun e => by have := h.len; rw [e] at this; simp at this; have := h.n0; omega
  have hplt := (Array.getElem?_eq_some_iff.1 h.rf).1
  refine ⟨(hk.block p hplt (by simpa using hp)).trans h.rf, ⟨h.bs.lt, h.bs.len, h.bs.nil, fun _ => ?_⟩, h.len, h.n0, h.n1, h.cp⟩
  obtain ⟨b, off, e, hc⟩ := h.bs.at_ hne
  cases e
  refine ⟨g, 0, rfl, fun k hk' => ?_⟩
  have h1 := hc k hk'
  have hglt : g < w.heap.size := by
    rcases Nat.lt_or_ge g w.heap.size with h0 | h0
    · exact h0
    · unfold World.cell? at h1; rw [Array.getElem?_eq_none h0] at h1; cases h1
  unfold World.cell? at h1 ⊢
  rw [hk.block g hglt (by simpa using hg)]
  exact h1

theorem RL.keptF {w w' : World} {p n g cap : Nat} {F : List Nat} {l : List Nat} {r : Int} (h : RL w p n g cap l r) (hk : Kp w w' F) (hp : p ∉ F) (hg : g ∉ F) : RL w' p n g cap l r := by
  have hne : l ≠ [] := fun e => by have := h.len; rw [e] at this; simp at this; have := h.n0; omega
  have hplt := (Array.getElem?_eq_some_iff.1 h.rf).1
  refine ⟨(hk.block p hplt hp).trans h.rf, ⟨h.bs.lt, h.bs.len, h.bs.nil, fun _ => ?_⟩, h.len, h.n0, h.n1, h.cp⟩
  obtain ⟨b, off, e, hc⟩ := h.bs.at_ hne
  cases e
  refine ⟨g, 0, rfl, fun k hk' => ?_⟩
  have h1 := hc k hk'
  have hglt : g < w.heap.size := by
    rcases Nat.lt_or_ge g w.heap.size with h0 | h0
    · exact h0
    · unfold World.cell? at h1; rw [Array.getElem?_eq_none h0] at h1; cases h1
  unfold World.cell? at h1 ⊢
  rw [hk.block g hglt hg]
  exact h1
theorem look_load {k s : Nat} (l : List Nat) (hs : s < k) : look (loadDk k k l) s = secL l s := by
  unfold look loadDk newDk
  simp [lastQ, loadF, hs]
theorem img_load {k : Nat} {l : List Nat} (hl : l.length = k * 512) (hlt : ∀ x ∈ l, x < 256) : imgL k (loadF l k) = l := by
  symm
  refine imgL_ext (fun s hs => ?_) hl (fun s j hs hj => ?_)
  · unfold loadF; rw [if_pos hs]; exact (secL_ok hl hs hlt).len
  · unfold loadF; rw [if_pos hs, secL_get hj]
/-- the loaded disks behind a read -/
def rdDk (k : Nat) (l : List Nat) (r : Int) : Dk := { loadDk k k l with st := ⟨r, 0, 0, 0, 0⟩ }

theorem brow_kept {w w' : World} {a : Option Addr} {c : Nat} {F l : List Nat} (h : BRow w a c l) (hk : Kp w w' F) (hF : ∀ ao, a = some ao → ao.block ∉ F) : BRow w' a c l := by
  refine ⟨h.lt, h.len, h.nil, fun hne => ?_⟩
  obtain ⟨b, off, e, hc⟩ := h.at_ hne
  subst e
  refine ⟨b, off, rfl, fun k hk' => ?_⟩
  have h1 := hc k hk'
  have hblt : b < w.heap.size := by
    rcases Nat.lt_or_ge b w.heap.size with h0 | h0
    · exact h0
    · unfold World.cell? at h1; rw [Array.getElem?_eq_none h0] at h1; cases h1
  unfold World.cell? at h1 ⊢
  rw [hk.block b hblt (hF _ rfl)]
  exact h1
/-- the two loaded disks -/
structure Two (w W : World) (b ms ml p g c k : Nat) (l : List Nat) (r : Int) : Prop where
  rk : RK W 0 b ms ml (.slice none 0 0) (.slice none 0 0) (rdDk k l r)
  rl : RL W p k g c l r
  bl : Below w.heap.size w W
  own : ∀ i ∈ fp b ms ml (.slice none 0 0) (.slice none 0 0), w.heap.size ≤ i
  ap : p ∉ fp b ms ml (.slice none 0 0) (.slice none 0 0) ∧ g ∉ fp b ms ml (.slice none 0 0) (.slice none 0 0)
section
variable {w W W' : World} {b ms ml p g c k : Nat} {l : List Nat} {r : Int}
theorem Two.later (h : Two w W b ms ml p g c k l r) (hb : Below W.heap.size W W') : Two w W' b ms ml p g c k l r := ⟨h.rk.later hb, h.rl.later hb, h.bl.trans (hb.mono h.bl.size), h.own, h.ap⟩
theorem Two.drewN (h : Two w W b ms ml p g c k l r) (q : Nat) : Two w (W.drewN q) b ms ml p g c k l r := h.later ⟨rfl, rfl, rfl, Nat.le_refl _, fun _ _ => rfl⟩
theorem Two.step (h : Two w W b ms ml p g c k l r) (hd : DAct W W' 0 b ms ml ms ml (.slice none 0 0) (.slice none 0 0) (.slice none 0 0) (.slice none 0 0) (rdDk k l r)) : Two w W' b ms ml p g c k l r :=
  ⟨hd.rk, h.rl.keptF hd.kp h.ap.1 h.ap.2, h.bl.trans (hd.kp.below h.own h.bl.size), h.own, h.ap⟩
theorem Two.cells (h : Two w W b ms ml p g c k l r) : W.cell? ⟨p, 0, none⟩ = some (.int .i64 k) ∧ W.cell? ⟨p, 5, none⟩ = some (.int .u64 r) ∧ W.cell? ⟨p, 6, none⟩ = some (.int .u64 0) ∧ W.cell? ⟨p, 7, none⟩ = some (.int .u64 0) ∧ W.cell? ⟨p, 8, none⟩ = some (.int .u64 0) ∧ W.cell? ⟨p, 9, none⟩ = some (.int .u64 0) :=
  ⟨h.rl.rf.c 0, h.rl.rf.c 5, h.rl.rf.c 6, h.rl.rf.c 7, h.rl.rf.c 8, h.rl.rf.c 9⟩
theorem image_two {m : Nat} (h : Two w W b ms ml p g c k l r) (hm : m = k * 512) :
    Calls Try.prog 17 #[.pointer (some ⟨b, 0, none⟩)] W fun r' w' => ∃ a2 c2, r' = .returned (.slice a2 m c2) ∧ BRow w' a2 c2 l ∧ Two w w' b ms ml p g c k l r := by
  refine (image_any h.rk).mono ?_
  rintro e w' ⟨v, rfl, ho, hd⟩
  have e1 : imgL (rdDk k l r).n (rdDk k l r).safe = l := img_load h.rl.len h.rl.bs.lt
  rw [e1] at ho
  have e2 : (rdDk k l r).n * 512 = m := hm.symm
  rw [e2] at ho
  obtain ⟨a2, c2, hv, hr⟩ := own_brow ho (h.rl.len.trans hm.symm) h.rl.bs.lt (by rw [hm]; have := h.rl.n1; omega)
  exact ⟨a2, c2, by rw [hv], hr, h.step hd⟩
theorem stats_two (h : Two w W b ms ml p g c k l r) : Calls Try.prog 18 #[.pointer (some ⟨b, 0, none⟩)] W fun r' w' => r' = .returned (.agg #[.int .u64 r, .int .u64 0, .int .u64 0, .int .u64 0, .int .u64 0]) ∧ Two w w' b ms ml p g c k l r :=
  (stats_any h.rk).mono fun e w' ⟨h1, h2⟩ => ⟨h1, h.step h2⟩
theorem sectors_two (h : Two w W b ms ml p g c k l r) : Calls Try.prog 11 #[.pointer (some ⟨b, 0, none⟩)] W fun r' w' => r' = .returned (.int .i64 k) ∧ Two w w' b ms ml p g c k l r :=
  (sectors_any h.rk).mono fun e w' ⟨h1, h2⟩ => ⟨h1, h.step h2⟩
theorem queue_two (h : Two w W b ms ml p g c k l r) : Calls Try.prog 19 #[.pointer (some ⟨b, 0, none⟩)] W fun r' w' => r' = .returned (.slice none 0 0) ∧ Two w w' b ms ml p g c k l r :=
  (queue_none h.rk).mono fun e w' ⟨h1, h2⟩ => ⟨h1, h.step h2⟩
theorem same_two {a a' : Option Addr} {c c' m : Nat} (h : BRow W a c l) (h' : BRow W a' c' l) (hm : l.length = m) : Calls Try.prog 16 #[.slice a m c, .slice a' m c'] W fun e w' => e = .returned (.bool true) ∧ ∃ q, w' = W.drewN q := by
  have h1 := same_any a a' c c' l l W h h'
  rw [decide_eq_true rfl, hm] at h1
  exact h1
end

set_option maxHeartbeats 8000000 in
theorem lawMakes_bg (w : World) (ns : Int) (hns : ns < 1 ∨ 65536 < ns) (gi oi ci m k : Nat) (l : List Nat) (s : Int) (h : BRow w (some ⟨gi, oi, none⟩) ci l) (hm : l.length = m) (hmk : m = k * 512) (hk0 : 1 ≤ k) (hk1 : k ≤ 65536) :
    Calls Try.prog 3 #[.int .i64 ns, .slice (some ⟨gi, oi, none⟩) m ci, .int .i64 s] w fun r w' => r = .returned (.bool true) ∧ Below w.heap.size w w' := by
  have h1 := made_bad w ns hns
  have HR : Hid (BRow w (some ⟨gi, oi, none⟩) ci l) := h
  have hml : m ≤ 140737488351232 := by rw [← hm]; exact h.len
  have HM : Hid (l.length = m) := hm
  have HMk : Hid (m = k * 512) := hmk
  have HK0 : Hid (1 ≤ k) := hk0
  have HK1 : Hid (k ≤ 65536) := hk1
  clear hmk hk0 hk1 h hns hm
  obtain ⟨i0, hi, hz0, hz1, hz2⟩ := info_parts info5x
  go_enter Try.func3, Try.ntmps3
  go_wp2_with fail
  refine h1.mono ?_
  clear h1
  rintro e w9 ⟨rfl, hw9⟩
  rw [hw9]
  clear hw9
  go_wp2_with fail
  refine (heads_any w).mono ?_
  rintro e w1 ⟨rfl, hb1⟩
  have HB1 : Hid (Below w.heap.size w w1) := hb1
  clear hb1
  go_wp2_with fail
  go_quiet (fail)
  have HB2 : Hid (Below w.heap.size w (w1.drewN nq)) := HB1.out.trans ⟨rfl, rfl, rfl, Nat.le_refl _, fun _ _ => rfl⟩
  clear HB1
  generalize w1.drewN nq = w3 at *
  have H1 : Hid (∀ u ∈ l.map bv, u.oneCell' = true) := Lc_one' l
  have HR3 : Hid (BRow w3 (some ⟨gi, oi, none⟩) ci l) := HR.out.later HB2.out
  have HNw : Hid (∀ j u, (l.map bv)[j]? = some u → (w3.alloc (.cells #[] 5)).cell? ((⟨gi, oi, none⟩ : Addr).add j) = some u) := fun j u hu => by
    refine cell_later ((Below.refl _ w3).alloc (Nat.le_refl _) _) ?_
    rw [List.getElem?_map] at hu
    by_cases hj : j < l.length
    · rw [List.getElem?_eq_getElem hj] at hu
      obtain ⟨b', off, e, hc⟩ := HR3.out.at_ (by rintro rfl; simp at hj)
      cases e
      simp only [Option.map_some, Option.some.injEq] at hu
      subst hu
      rw [add_plain]; exact hc j hj
    · rw [List.getElem?_eq_none (by omega)] at hu; simp at hu
  go_wp2_with (first | (at_builtin; refine wpList_append_own _ rfl _ _ TBs rfl w3.heap.size 5 i0 (.int .u8 0) 1 1 Try.underlying22 hi hz0 hz1 hz2 rfl (by decide) _ _ _ rfl (World.ownsRow_made w3 #[] 0 (Nat.le_refl _) (Nat.zero_le _) rfl) ⟨gi, oi, none⟩ m ci (l.map bv) rfl (by simp; exact HM.out) HNw.out H1.out (by unfold maxLen; omega) (by omega) (by simp) ?_; intro v4 w4 ho4 hg4 _; have HB4 : Hid (Below w3.heap.size w3 w4) := ((Below.refl w3.heap.size w3).alloc (Nat.le_refl _) _).grown hg4 (by simp) (by intro k hk; cases hk; exact Nat.le_refl _); have HO4 : Hid (w4.ownsRow w3.heap.size 5 1 v4 m (l.map bv)) := (by simpa [Hid] using ho4); clear ho4 hg4) | (at_builtin; refine wpList_append_own _ rfl _ _ TBs rfl w3.heap.size 5 i0 (.int .u8 0) 1 1 Try.underlying22 hi hz0 hz1 hz2 rfl (by decide) v4 m (l.map bv) rfl (HO4.out.alloc _) ⟨w4.heap.size, 0, none⟩ 2 2 [.int .u8 90, .int .u8 91] rfl rfl (news_two _ _ _) (by simp [Value.oneCell']) (by unfold maxLen; omega) (by omega) (by have := HB4.out.size; simp; omega) ?_; intro v5 w5 ho5 hg5 _; have HB5 : Hid (Below w3.heap.size w3 w5) := (HB4.out.alloc HB4.out.size _).grown hg5 (by have := HB4.out.size; simp; omega) (fun k hk => (HO4.out.lt k hk).1); obtain ⟨g, c, hv5, hful⟩ := full_of HM.out ho5; have HFu : Hid (Full w3 w5 g c m l) := hful; have hmc : (m : Int) ≤ (c : Int) := (by have := hful.cp; omega); subst hv5; clear ho5 hg5 hful))
  have hbr5 : BRow w5 (some ⟨g, 0, none⟩) c l := HFu.out.brow HR.out.lt HR.out.len
  have hld := load_any hbr5 (n := k) (HM.out.trans HMk.out) HK0.out HK1.out (by have := HFu.out.cp; have := HMk.out; omega)
  rw [← HMk.out] at hld
  refine hld.mono ?_
  clear hld hbr5
  rintro e w6 ⟨b6, rfl, ms6, ml6, hs6⟩
  have HS6 : Hid (Hs w5 w6 b6 ms6 ml6 (.slice none 0 0) (.slice none 0 0) (loadDk k k l)) := hs6
  clear hs6
  go_wp2_with fail
  have hrl := rload_any (w := w6) (HR3.out.later (HB5.out.trans (HS6.out.bl.mono HB5.out.size))) (n := k) (HM.out.trans HMk.out) HK0.out HK1.out
  rw [← HMk.out] at hrl
  refine hrl.mono ?_
  clear hrl
  rintro e w7 ⟨p7, rfl, g7, c7, hrl7, hp7, hg7, hb7⟩
  have HRL7 : Hid (RL w7 p7 k g7 c7 l 0) := hrl7
  have HP7 : Hid (w6.heap.size ≤ p7 ∧ w6.heap.size ≤ g7) := ⟨hp7, hg7⟩
  have HS7 : Hid (Hs w5 w7 b6 ms6 ml6 (.slice none 0 0) (.slice none 0 0) (loadDk k k l)) := HS6.out.later hb7
  have HF7 : Hid (Full w3 w7 g c m l) := HFu.out.later HS7.out.bl
  have HPN : Hid (p7 ∉ fp b6 ms6 ml6 (.slice none 0 0) (.slice none 0 0)) := fun hm => by have := HS6.out.rk.lt _ hm; omega
  clear hrl7 hp7 hg7 hb7
  obtain ⟨k90, k91⟩ := HF7.out.marks HM.out
  have t1 : ((m : Int) + 1).toNat = m + 1 := by omega
  have t2 : (m : Int) < (m : Int) + 2 := by omega
  have t3 : (m : Int) + 1 < (m : Int) + 2 := by omega
  have t4 : (0 : Int) ≤ (m : Int) + 1 := by omega
  go_wp2
  go_loopw [15] (fun i wr => ∃ (j : Nat), j ≤ m + 2 ∧ i = .int .i64 j ∧ Hid (Kp w7 wr [g]) ∧ Hid (U8s wr g (m + 2))) (fun i _ => m + 2 - (intOf i).toNat)
  case atStart => exact ⟨0, Nat.zero_le _, rfl, Kp.refl _ _, HF7.out.u8s HM.out⟩
  case round =>
    obtain ⟨j, hj, rfl, HK, HU⟩ := hrel
    clear k90 k91 t1 t2 t3 t4
    by_cases hlt : j < m + 2
    · have hjm : (j : Int) < (m : Int) + 2 := by omega
      obtain ⟨x, cx, fx, hset⟩ := HU.out.at_ hlt
      obtain ⟨y, hy⟩ : ∃ y : Nat, IntKind.u8.wrap ((x : Int) + 1) = (y : Int) := ⟨(x + 1) % 256, by rw [IntKind.wrap_u8]; omega⟩
      have HSet : Hid (U8s (wr.setCell ⟨g, j, none⟩ (.int .u8 y)) g (m + 2)) := hset y
      have HK2 : Hid (Kp w7 (wr.setCell ⟨g, j, none⟩ (.int .u8 y)) [g]) := HK.out.set (.inl (by simp)) _ _
      clear hset
      go_wp2
      go_roundw
      case rel => exact ⟨j + 1, by omega, by go_num, HK2, HSet⟩
      case measure => simp [intOf]; omega
    · have hjm : ¬ ((j : Int) < (m : Int) + 2) := by omega
      have HS8 : Hid (Hs w3 wr b6 ms6 ml6 (.slice none 0 0) (.slice none 0 0) (loadDk k k l)) := hs_turned HB5.out HS7.out HK.out HFu.out.new (HFu.out.lt)
      have HR8 : Hid (RL wr p7 k g7 c7 l 0) := HRL7.out.kept HK.out (by have := HP7.out.1; have := HS6.out.bl.size; have := HFu.out.lt; omega) (by have := HP7.out.2; have := HS6.out.bl.size; have := HFu.out.lt; omega)
      clear HK HU
      have HPG : Hid (g7 ∉ fp b6 ms6 ml6 (.slice none 0 0) (.slice none 0 0)) := fun hm => by have := HS6.out.rk.lt _ hm; have := HP7.out.2; omega
      have HB8 : Hid (Below w.heap.size w wr) := HB2.out.trans (HS8.out.bl.mono HB2.out.size)
      by_cases hsk : 0 ≤ s ∧ s < k
      · obtain ⟨sn, rfl⟩ := Int.eq_ofNat_of_zero_le hsk.1
        have hsn : sn < k := by omega
        have hrd := read_none HS8.out.rk rfl (s := sn) hsn
        rw [look_load l hsn] at hrd
        go_wp2_with fail
        refine hrd.mono ?_
        clear hrd
        rintro e wa ⟨va, rfl, hoa, hda⟩
        have hok := secL_ok (HM.out.trans HMk.out) hsn HR.out.lt
        obtain ⟨aa, ca, rfl, hra⟩ := own_brow hoa hok.len hok.lt (by decide)
        have HSa : Hid (Hs w3 wa b6 ms6 ml6 (.slice none 0 0) (.slice none 0 0) (rdDk k l 1)) := HS8.out.step hda
        have HRa : Hid (RL wa p7 k g7 c7 l 0) := HR8.out.keptF hda.kp HPN.out HPG.out
        have HAa : Hid (BRow wa aa ca (secL l sn)) := hra
        have HOa : Hid (∀ ao, aa = some ao → wr.heap.size ≤ ao.block) := fun ao e => by subst e; exact (hoa.lt ao.block rfl).1
        clear hoa hda hra
        have hre := rread_any HRa.out hsn
        go_wp2_with fail
        refine hre.mono ?_
        clear hre
        rintro e wb ⟨vb, rfl, hob, hrb, hkb⟩
        obtain ⟨ab, cb, rfl, hbb⟩ := own_brow hob hok.len hok.lt (by decide)
        have HBb : Hid (BRow wb ab cb (secL l sn)) := hbb
        have HRb : Hid (RL wb p7 k g7 c7 l 1) := hrb
        have HSb : Hid (Hs w3 wb b6 ms6 ml6 (.slice none 0 0) (.slice none 0 0) (rdDk k l 1)) := ⟨HSa.out.rk.kept hkb (fun i hi hm => by simp at hm; subst hm; exact HPN.out hi), HSa.out.bl.trans (hkb.below (fun i hi => by simp at hi; subst hi; have := HP7.out.1; have := HS6.out.bl.size; have := HB5.out.size; omega) HSa.out.bl.size), HSa.out.own⟩
        have HAb : Hid (BRow wb aa ca (secL l sn)) := brow_kept HAa.out hkb (fun ao e hm => by simp at hm; have := HOa.out ao e; have := (Array.getElem?_eq_some_iff.1 HR8.out.rf).1; omega)
        clear hob hrb hkb hbb
        have HT0 : Hid (Two w wb.drew b6 ms6 ml6 p7 g7 c7 k l 1) := (show Two w wb b6 ms6 ml6 p7 g7 c7 k l 1 from ⟨HSb.out.rk, HRb.out, HB2.out.trans (HSb.out.bl.mono HB2.out.size), fun i hi => Nat.le_trans HB2.out.size (HSb.out.own i hi), HPN.out, HPG.out⟩).drewN 1
        have HSm : Hid (Calls Try.prog 16 #[.slice aa 512 ca, .slice ab 512 cb] wb.drew fun e w' => e = .returned (.bool true) ∧ ∃ q, w' = wb.drew.drewN q) := same_two (l := secL l sn) (HAb.out.drewN 1) (HBb.out.drewN 1) hok.len
        obtain ⟨kc0, kc5, kc6, kc7, kc8, kc9⟩ := (show Two w wb b6 ms6 ml6 p7 g7 c7 k l 1 from ⟨HSb.out.rk, HRb.out, HB2.out.trans (HSb.out.bl.mono HB2.out.size), fun i hi => Nat.le_trans HB2.out.size (HSb.out.own i hi), HPN.out, HPG.out⟩).cells
        clear HAb HBb HSb HRb HAa HOa HSa HRa HS8 HR8 HS7 HS6 HRL7 HF7 HFu
        go_wp2_with fail
        go_region_held3 (fun w' => w'.cell? ⟨p7, 0, none⟩ = some (.int .i64 k) ∧ w'.cell? ⟨p7, 5, none⟩ = some (.int .u64 1) ∧ w'.cell? ⟨p7, 6, none⟩ = some (.int .u64 0) ∧ w'.cell? ⟨p7, 7, none⟩ = some (.int .u64 0) ∧ w'.cell? ⟨p7, 8, none⟩ = some (.int .u64 0) ∧ w'.cell? ⟨p7, 9, none⟩ = some (.int .u64 0)) (first | exact HT6.out.cells | exact HT5.out.cells | exact HT4.out.cells | exact HT3.out.cells | exact HT2.out.cells | exact HT1.out.cells | exact HT0.out.cells | go_keep) (first | (go_at_call 16; refine HSm.out.mono ?_; clear HSm; rintro e w9 ⟨rfl, q1, hw9⟩; have HT1 : Hid (Two w w9 b6 ms6 ml6 p7 g7 c7 k l 1) := (by rw [hw9]; exact HT0.out.drewN q1); clear hw9) | (go_at_call 17; refine (image_two HT1.out HMk.out).mono ?_; rintro e w10 ⟨a2, c2, rfl, hr2, ht2⟩; have HT2 : Hid (Two w w10 b6 ms6 ml6 p7 g7 c7 k l 1) := ht2; have HSn : Hid (Calls Try.prog 16 #[.slice a2 m c2, .slice (some ⟨gi, oi, none⟩) m ci] w10 fun e w' => e = .returned (.bool true) ∧ ∃ q, w' = w10.drewN q) := same_two hr2 (HR.out.later ht2.bl) HM.out; clear hr2 ht2) | (go_at_call 16; refine HSn.out.mono ?_; clear HSn; rintro e w14 ⟨rfl, q2, hw14⟩; have HT3 : Hid (Two w w14 b6 ms6 ml6 p7 g7 c7 k l 1) := (by rw [hw14]; exact HT2.out.drewN q2); clear hw14) | (go_at_call 18; refine (stats_two HT3.out).mono ?_; rintro e w11 ⟨rfl, ht4⟩; have HT4 : Hid (Two w w11 b6 ms6 ml6 p7 g7 c7 k l 1) := ht4; clear ht4) | (go_at_call 11; refine (sectors_two HT4.out).mono ?_; rintro e w12 ⟨rfl, ht5⟩; have HT5 : Hid (Two w w12 b6 ms6 ml6 p7 g7 c7 k l 1) := ht5; clear ht5) | (go_at_call 19; refine (queue_two HT5.out).mono ?_; rintro e w13 ⟨rfl, ht6⟩; have HT6 : Hid (Two w w13 b6 ms6 ml6 p7 g7 c7 k l 1) := ht6; clear ht6))
        go_wp2
        go_ret
        exact ⟨rfl, HT6.out.bl⟩
      · have hrd := read_out HS8.out.rk (s := s) hsk
        go_wp2_with fail
        refine hrd.mono ?_
        clear hrd
        rintro e wa ⟨rfl, hda⟩
        have HSa : Hid (Hs w3 wa b6 ms6 ml6 (.slice none 0 0) (.slice none 0 0) (rdDk k l 0)) := HS8.out.step hda
        have HRa : Hid (RL wa p7 k g7 c7 l 0) := HR8.out.keptF hda.kp HPN.out HPG.out
        clear hda
        have hre := rread_out HRa.out (s := s) hsk
        go_wp2_with fail
        refine hre.mono ?_
        clear hre
        rintro e wb ⟨rfl, hwb⟩
        have HSb : Hid (Hs w3 wb b6 ms6 ml6 (.slice none 0 0) (.slice none 0 0) (rdDk k l 0)) := (by rw [hwb]; exact HSa.out)
        have HRb : Hid (RL wb p7 k g7 c7 l 0) := (by rw [hwb]; exact HRa.out)
        clear hwb
        have HAb : Hid (BRow wb none 0 []) := ⟨(by simp), (by simp), fun _ => ⟨rfl, rfl⟩, fun h => absurd rfl h⟩
        have HBb := HAb
        have HAa : True := trivial
        have HOa : True := trivial
        have HT0 : Hid (Two w wb.drew b6 ms6 ml6 p7 g7 c7 k l 0) := (show Two w wb b6 ms6 ml6 p7 g7 c7 k l 0 from ⟨HSb.out.rk, HRb.out, HB2.out.trans (HSb.out.bl.mono HB2.out.size), fun i hi => Nat.le_trans HB2.out.size (HSb.out.own i hi), HPN.out, HPG.out⟩).drewN 1
        have HSm : Hid (Calls Try.prog 16 #[.slice none 0 0, .slice none 0 0] wb.drew fun e w' => e = .returned (.bool true) ∧ ∃ q, w' = wb.drew.drewN q) := same_two (l := ([] : List Nat)) (HAb.out.drewN 1) (HBb.out.drewN 1) rfl
        obtain ⟨kc0, kc5, kc6, kc7, kc8, kc9⟩ := (show Two w wb b6 ms6 ml6 p7 g7 c7 k l 0 from ⟨HSb.out.rk, HRb.out, HB2.out.trans (HSb.out.bl.mono HB2.out.size), fun i hi => Nat.le_trans HB2.out.size (HSb.out.own i hi), HPN.out, HPG.out⟩).cells
        clear HAb HBb HSb HRb HAa HOa HSa HRa HS8 HR8 HS7 HS6 HRL7 HF7 HFu
        go_wp2_with fail
        go_region_held3 (fun w' => w'.cell? ⟨p7, 0, none⟩ = some (.int .i64 k) ∧ w'.cell? ⟨p7, 5, none⟩ = some (.int .u64 0) ∧ w'.cell? ⟨p7, 6, none⟩ = some (.int .u64 0) ∧ w'.cell? ⟨p7, 7, none⟩ = some (.int .u64 0) ∧ w'.cell? ⟨p7, 8, none⟩ = some (.int .u64 0) ∧ w'.cell? ⟨p7, 9, none⟩ = some (.int .u64 0)) (first | exact HT6.out.cells | exact HT5.out.cells | exact HT4.out.cells | exact HT3.out.cells | exact HT2.out.cells | exact HT1.out.cells | exact HT0.out.cells | go_keep) (first | (go_at_call 16; refine HSm.out.mono ?_; clear HSm; rintro e w9 ⟨rfl, q1, hw9⟩; have HT1 : Hid (Two w w9 b6 ms6 ml6 p7 g7 c7 k l 0) := (by rw [hw9]; exact HT0.out.drewN q1); clear hw9) | (go_at_call 17; refine (image_two HT1.out HMk.out).mono ?_; rintro e w10 ⟨a2, c2, rfl, hr2, ht2⟩; have HT2 : Hid (Two w w10 b6 ms6 ml6 p7 g7 c7 k l 0) := ht2; have HSn : Hid (Calls Try.prog 16 #[.slice a2 m c2, .slice (some ⟨gi, oi, none⟩) m ci] w10 fun e w' => e = .returned (.bool true) ∧ ∃ q, w' = w10.drewN q) := same_two hr2 (HR.out.later ht2.bl) HM.out; clear hr2 ht2) | (go_at_call 16; refine HSn.out.mono ?_; clear HSn; rintro e w14 ⟨rfl, q2, hw14⟩; have HT3 : Hid (Two w w14 b6 ms6 ml6 p7 g7 c7 k l 0) := (by rw [hw14]; exact HT2.out.drewN q2); clear hw14) | (go_at_call 18; refine (stats_two HT3.out).mono ?_; rintro e w11 ⟨rfl, ht4⟩; have HT4 : Hid (Two w w11 b6 ms6 ml6 p7 g7 c7 k l 0) := ht4; clear ht4) | (go_at_call 11; refine (sectors_two HT4.out).mono ?_; rintro e w12 ⟨rfl, ht5⟩; have HT5 : Hid (Two w w12 b6 ms6 ml6 p7 g7 c7 k l 0) := ht5; clear ht5) | (go_at_call 19; refine (queue_two HT5.out).mono ?_; rintro e w13 ⟨rfl, ht6⟩; have HT6 : Hid (Two w w13 b6 ms6 ml6 p7 g7 c7 k l 0) := ht6; clear ht6))
        go_wp2
        go_ret
        exact ⟨rfl, HT6.out.bl⟩
end Go.Proofs.Ythmonfmpgjbhmaa.K
