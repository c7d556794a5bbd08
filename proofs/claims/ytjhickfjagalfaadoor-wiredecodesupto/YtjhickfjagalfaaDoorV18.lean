import Derived.Test.YtjhickfjagalfaaDoorV14
namespace Go.Proofs.YtjhickfjagalfaaDoor
open Go.RowKit
set_option linter.unusedVariables false
set_option linter.unusedSimpArgs false
set_option maxRecDepth 100000
set_option maxHeartbeats 8000000 in
theorem decGreeting_ok (b off cap n : Nat) (l : List Nat) (f : Nat) (w : World) (h : CRow w (some ⟨b, off, none⟩) cap l) (HN : Hid (l.length = n)) (hs : 18 ≤ n) (HX0 : Hid (valB ((l.drop 0).take 8) = mInit)) (HX1 : Hid (valB ((l.drop 8).take 8) = mHave)) (HX2 : Hid (valB ((l.drop 16).take 2) = f)) :
    Calls Tryd.prog 23 #[.slice (some ⟨b, off, none⟩) n cap] w fun e w' => e = .returned (.tuple #[.agg #[.int .u16 (f : Int)], .int .i64 18, .int .i64 0]) ∧ Below w.heap.size w w' := by
  have hnl := h.row.len
  rw [HN.out] at hnl
  have hsl : 18 ≤ l.length := by rw [HN.out]; exact hs
  have HC : Hid (CRow w (some ⟨b, off, none⟩) cap l) := h
  obtain ⟨W0, hW0⟩ : ∃ W0, W0 = ((w.alloc (.cells #[.int .u16 0] 31)).alloc (.cells #[.int .u16 0] 31)) := ⟨_, rfl⟩
  have HO : Hid (Calls Tryd.prog 67 #[.slice (some ⟨b, off, none⟩) n cap, .int .i64 18] W0 fun e W' => ∃ r hh ao' cap' a2 c2, e = .returned (.pointer (some ⟨r, 0, none⟩)) ∧ Dec w W' (bx2 w 31 #[.int .u16 0] #[.int .u16 0]) W0.heap.size r hh ao' cap' (l.take 18) 0 (.slice (some a2) (n - 18) c2) 0 18 0 ∧ n - 18 ≤ c2 ∧ c2 ≤ 9223372036854775807 ∧ (n - 18 ≠ 0 → a2 = ⟨b, off + 18, none⟩)) := by
    rw [hW0]; exact open_ok b off cap n 18 l (bx2_bel w _ _) (bx2_new w _ _ _) (bx2_nd w _ _ _) (h.later (bx2_bel w _ _)) HN hs (by decide) (by decide)
  clear h
  go_enter Tryd.func23, Tryd.ntmps23
  go_wp2
  refine wp_scope_jumps 0 (fun _ _ => False) (fun _ _ => 0) rfl ?first ?pass
  case first =>
    go_wp2_with fail
    rw [← hW0]
    clear hW0
    refine HO.out.mono ?_
    rintro e W1 ⟨r, hh, ao', cap', a2, c2, rfl, h1, hc1, hc2, ha2⟩
    have H1 : Hid _ := h1
    have HA : Hid _ := ha2
    clear h1 HO ha2
    go_wp2_with fail
    refine (rx_u64 H1.out mInit HX0.out (by decide) hsl).mono ?_
    rintro e W2 ⟨rfl, hx⟩
    have H2 : Hid _ := hx
    clear hx H1
    go_wp2_with fail
    refine (magic_ok H2.out mInit).mono ?_
    rintro e W3 ⟨rfl, hx⟩
    have H3 : Hid _ := hx
    clear hx H2
    go_wp2_with fail
    refine (rx_u64 H3.out mHave HX1.out (by decide) hsl).mono ?_
    rintro e W4 ⟨rfl, hx⟩
    have H4 : Hid _ := hx
    clear hx H3
    go_wp2_with fail
    refine (magic_ok H4.out mHave).mono ?_
    rintro e W5 ⟨rfl, hx⟩
    have H5 : Hid _ := hx
    clear hx H4
    go_wp2_with fail
    refine (rx_u16 H5.out f HX2.out (by decide) hsl).mono ?_
    rintro e W6 ⟨rfl, hx⟩
    have H6 : Hid _ := hx
    clear hx H5
    obtain ⟨s0, u0⟩ := H6.out.b (.tail _ (.head _)) 0
    simp at s0
    go_wp2
    go_step3
    have HF : Hid _ := (H6.out.putO2 0 (.int .u16 (f : Int)) #[.int .u16 (f : Int)] rfl)
    clear H6 s0 u0
    generalize (W6.setCell ⟨w.heap.size + 1, 0, none⟩ (.int .u16 (f : Int))) = Wx at *
    have hn1 : ¬ (w.heap.size = r) := (HF.out.lb.box _ (.head _)).2.2
    have hn2 : ¬ (r = w.heap.size) := fun e => hn1 e.symm
    have r3 := HF.out.lb.cn
    have r4 := HF.out.lb.ce
    obtain ⟨c00, f00⟩ := HF.out.b (.head _) 0
    obtain ⟨c10, f10⟩ := HF.out.b (.tail _ (.head _)) 0
    simp at c00 c10
    go_wp2
    go_region
    all_goals
      go_wp2
      rw [jump_ret]
      exact bodyPost_ret (results_cell_tmp2 rfl _ _ w.heap.size 31 #[.int .u16 (f : Int)] (0, 0) _ rfl (put_box (HF.out.box _ (.head _)).1 0 (.int .u16 (f : Int)) rfl) Tryd.underlying31 rfl infoGre) rfl ⟨rfl, below_drew (setAll_below [(w.heap.size, 0, .int .u16 (f : Int))] Wx HF.out.bel (by simp))⟩
  case pass =>
    rintro a W hf
    exact hf.elim
set_option maxHeartbeats 8000000 in
theorem decSimple_ok (b off cap n : Nat) (l : List Nat) (c k : Nat) (w : World) (h : CRow w (some ⟨b, off, none⟩) cap l) (HN : Hid (l.length = n)) (hs : 16 ≤ n) (HX0 : Hid (valB ((l.drop 0).take 4) = mSimple)) (HX1 : Hid (valB ((l.drop 4).take 4) = c)) (HX2 : Hid (valB ((l.drop 8).take 8) = k)) :
    Calls Tryd.prog 26 #[.slice (some ⟨b, off, none⟩) n cap] w fun e w' => e = .returned (.tuple #[.agg #[.int .u32 (c : Int), .int .u64 (k : Int)], .int .i64 16, .int .i64 0]) ∧ Below w.heap.size w w' := by
  have hnl := h.row.len
  rw [HN.out] at hnl
  have hsl : 16 ≤ l.length := by rw [HN.out]; exact hs
  have HC : Hid (CRow w (some ⟨b, off, none⟩) cap l) := h
  obtain ⟨W0, hW0⟩ : ∃ W0, W0 = ((w.alloc (.cells #[.int .u32 0, .int .u64 0] 36)).alloc (.cells #[.int .u32 0, .int .u64 0] 36)) := ⟨_, rfl⟩
  have HO : Hid (Calls Tryd.prog 67 #[.slice (some ⟨b, off, none⟩) n cap, .int .i64 16] W0 fun e W' => ∃ r hh ao' cap' a2 c2, e = .returned (.pointer (some ⟨r, 0, none⟩)) ∧ Dec w W' (bx2 w 36 #[.int .u32 0, .int .u64 0] #[.int .u32 0, .int .u64 0]) W0.heap.size r hh ao' cap' (l.take 16) 0 (.slice (some a2) (n - 16) c2) 0 16 0 ∧ n - 16 ≤ c2 ∧ c2 ≤ 9223372036854775807 ∧ (n - 16 ≠ 0 → a2 = ⟨b, off + 16, none⟩)) := by
    rw [hW0]; exact open_ok b off cap n 16 l (bx2_bel w _ _) (bx2_new w _ _ _) (bx2_nd w _ _ _) (h.later (bx2_bel w _ _)) HN hs (by decide) (by decide)
  clear h
  go_enter Tryd.func26, Tryd.ntmps26
  go_wp2
  refine wp_scope_jumps 0 (fun _ _ => False) (fun _ _ => 0) rfl ?first ?pass
  case first =>
    go_wp2_with fail
    rw [← hW0]
    clear hW0
    refine HO.out.mono ?_
    rintro e W1 ⟨r, hh, ao', cap', a2, c2, rfl, h1, hc1, hc2, ha2⟩
    have H1 : Hid _ := h1
    have HA : Hid _ := ha2
    clear h1 HO ha2
    go_wp2_with fail
    refine (magic32_ok H1.out (by rw [List.length_take]; omega) mSimple (by rw [tk _ _ _ _ (by decide)]; exact HX0.out)).mono ?_
    rintro e W2 ⟨rfl, hx⟩
    have H2 : Hid _ := hx
    clear hx H1
    go_wp2_with fail
    refine (rx_u32 H2.out c HX1.out (by decide) hsl).mono ?_
    rintro e W3 ⟨rfl, hx⟩
    have H3 : Hid _ := hx
    clear hx H2
    go_wp2_with fail
    refine (rx_u64 H3.out k HX2.out (by decide) hsl).mono ?_
    rintro e W4 ⟨rfl, hx⟩
    have H4 : Hid _ := hx
    clear hx H3
    obtain ⟨s0, u0⟩ := H4.out.b (.tail _ (.head _)) 0
    simp at s0
    obtain ⟨s1, u1⟩ := H4.out.b (.tail _ (.head _)) 1
    simp at s1
    go_wp2
    go_step3
    have HF : Hid _ := ((H4.out.putO2 0 (.int .u32 (c : Int)) #[.int .u32 (c : Int), .int .u64 0] rfl).putO2 1 (.int .u64 (k : Int)) #[.int .u32 (c : Int), .int .u64 (k : Int)] rfl)
    clear H4 s0 u0 s1 u1
    generalize ((W4.setCell ⟨w.heap.size + 1, 0, none⟩ (.int .u32 (c : Int))).setCell ⟨w.heap.size + 1, 1, none⟩ (.int .u64 (k : Int))) = Wx at *
    have hn1 : ¬ (w.heap.size = r) := (HF.out.lb.box _ (.head _)).2.2
    have hn2 : ¬ (r = w.heap.size) := fun e => hn1 e.symm
    have r3 := HF.out.lb.cn
    have r4 := HF.out.lb.ce
    obtain ⟨c00, f00⟩ := HF.out.b (.head _) 0
    obtain ⟨c10, f10⟩ := HF.out.b (.tail _ (.head _)) 0
    obtain ⟨c01, f01⟩ := HF.out.b (.head _) 1
    obtain ⟨c11, f11⟩ := HF.out.b (.tail _ (.head _)) 1
    simp at c00 c10 c01 c11
    go_wp2
    go_region
    all_goals
      go_wp2
      rw [jump_ret]
      exact bodyPost_ret (results_cell_tmp2 rfl _ _ w.heap.size 36 #[.int .u32 (c : Int), .int .u64 (k : Int)] (0, 0) _ rfl (put_box (put_box (HF.out.box _ (.head _)).1 0 (.int .u32 (c : Int)) rfl) 1 (.int .u64 (k : Int)) rfl) Tryd.underlying36 rfl infoSim) rfl ⟨rfl, below_drew (setAll_below [(w.heap.size, 0, .int .u32 (c : Int)), (w.heap.size, 1, .int .u64 (k : Int))] Wx HF.out.bel (by simp))⟩
  case pass =>
    rintro a W hf
    exact hf.elim
end Go.Proofs.YtjhickfjagalfaaDoor

namespace Go.Proofs.YtjhickfjagalfaaDoor
open Go.RowKit
set_option linter.unusedVariables false
set_option linter.unusedSimpArgs false
set_option maxRecDepth 100000
set_option maxHeartbeats 4000000 in
theorem decFlags_ok (b off cap n : Nat) (l : List Nat) (f : Nat) (w : World) (h : CRow w (some ⟨b, off, none⟩) cap l) (HN : Hid (l.length = n)) (hs : 4 ≤ n) (HX0 : Hid (valB ((l.drop 0).take 4) = f)) :
    Calls Tryd.prog 24 #[.slice (some ⟨b, off, none⟩) n cap] w fun e w' => e = .returned (.tuple #[.int .u32 (f : Int), .int .i64 4, .int .i64 0]) ∧ Below w.heap.size w w' := by
  have hsl : 4 ≤ l.length := by rw [HN.out]; exact hs
  have HO : Hid (Calls Tryd.prog 67 #[.slice (some ⟨b, off, none⟩) n cap, .int .i64 4] w fun e W' => ∃ r hh ao' cap' a2 c2, e = .returned (.pointer (some ⟨r, 0, none⟩)) ∧ Dec w W' [] w.heap.size r hh ao' cap' (l.take 4) 0 (.slice (some a2) (n - 4) c2) 0 4 0 ∧ n - 4 ≤ c2 ∧ c2 ≤ 9223372036854775807 ∧ (n - 4 ≠ 0 → a2 = ⟨b, off + 4, none⟩)) := open_ok (bs := []) b off cap n 4 l (Below.refl _ _) (by simp) (by simp) h HN hs (by decide) (by decide)
  clear h
  go_enter Tryd.func24, Tryd.ntmps24
  go_wp2_with fail
  refine HO.out.mono ?_
  rintro e W1 ⟨r, hh, ao', cap', a2, c2, rfl, h1, _, _, _⟩
  have r3 := h1.lb.cn
  have r4 := h1.lb.ce
  have HU : Hid (∀ q, Calls Tryd.prog 71 #[.pointer (some ⟨r, 0, none⟩)] (W1.drewN q) fun e W' => e = .returned (.int .u32 (f : Int)) ∧ Dec w W' [] w.heap.size r hh ao' cap' (l.take 4) (0 + 4) (.slice (some a2) (n - 4) c2) 0 4 0) := fun q => rx_u32 (h1.drewN q) f HX0.out (by decide) hsl
  clear h1 HO HX0
  go_wp2
  go_region_with (go_at_call 71; refine (HU.out _).mono ?_; rintro e W2 ⟨rfl, h2⟩; have H2 : Hid _ := h2; have r3' := h2.lb.cn; have r4' := h2.lb.ce; clear h2)
  all_goals
    go_wp2
    go_ret3
    exact ⟨rfl, H2.out.bel⟩
set_option maxHeartbeats 1000000 in
theorem encFlags (f : Nat) (w : World) (hf : f < 4294967296) :
    Calls Tryd.prog 15 #[.int .u32 (f : Int)] w fun e w' => ∃ ao cap, e = .returned (.slice ao 4 cap) ∧ Row w w' ao cap (bigTo f 4 4) := by
  have h0 := wok_new w
  have hb0 : Below w.heap.size w (w.alloc (.cells #[.bool true, .slice none 0 0] 149)) := (Below.refl _ _).alloc (Nat.le_refl _) _
  go_enter Tryd.func15, Tryd.ntmps15
  go_wp2_with fail
  refine (newWriter_any w).mono ?_
  rintro e w1 ⟨rfl, rfl⟩
  generalize w.alloc (.cells #[.bool true, .slice none 0 0] 149) = W1 at *
  have H1 : Hid _ := h0
  have B1 : Hid (Below w.heap.size w W1) := hb0
  clear h0 hb0
  go_wp2_with fail
  refine (wu32_any w.heap.size w.heap.size f _ [] W1 H1.out hf (by simp) B1.out.size).mono ?_
  rintro e W2 ⟨rfl, v2, hp⟩
  have B2 : Hid (Below w.heap.size w W2) := B1.out.trans (hp.kept.below B1.out.size (by
    rintro g hg (e | e)
    · omega
    · simp [Value.ownBlock] at e))
  have H2 : Hid (WOk W2 w.heap.size w.heap.size v2 (bigTo f 4 4)) := hp.ok
  clear hp H1 B1
  go_wp2_with fail
  refine (wout_any w.heap.size w.heap.size v2 _ W2 H2.out (by simp [bigTo_length])).mono ?_
  rintro e W3 ⟨ao, cap, rfl, ho, hb⟩
  have H3 : Hid (Row w W3 ao cap (bigTo f 4 4)) := ⟨owns_mono ho B2.out.size, H2.out.lt, B2.out.trans (hb.mono B2.out.size)⟩
  clear ho hb H2
  rw [bigTo_length]
  go_wp2
  go_ret
  exact ⟨_, _, rfl, H3.out⟩
end Go.Proofs.YtjhickfjagalfaaDoor
