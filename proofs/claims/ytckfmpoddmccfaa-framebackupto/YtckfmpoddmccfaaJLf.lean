import Derived.Test.YtckfmpoddmccfaaJK
namespace Go.Proofs.Ytckfmpoddmccfaa
open Go.RowKit
set_option linter.unusedVariables false
set_option linter.unusedSimpArgs false
set_option maxRecDepth 100000
set_option maxHeartbeats 4000000 in
theorem decFlags_ok (b off cap n : Nat) (l : List Nat) (f : Nat) (w : World) (h : CRow w (some ⟨b, off, none⟩) cap l) (HN : Hid (l.length = n)) (hs : 4 ≤ n) (HX0 : Hid (valB ((l.drop 0).take 4) = f)) :
    Calls Try.prog 65 #[.slice (some ⟨b, off, none⟩) n cap] w fun e w' => e = .returned (.tuple #[.int .u32 (f : Int), .int .i64 4, .int .i64 0]) ∧ Below w.heap.size w w' := by
  have hsl : 4 ≤ l.length := by rw [HN.out]; exact hs
  have HO : Hid (Calls Try.prog 99 #[.slice (some ⟨b, off, none⟩) n cap, .int .i64 4] w fun e W' => ∃ r hh ao' cap' a2 c2, e = .returned (.pointer (some ⟨r, 0, none⟩)) ∧ Dec w W' [] w.heap.size r hh ao' cap' (l.take 4) 0 (.slice (some a2) (n - 4) c2) 0 4 0 ∧ n - 4 ≤ c2 ∧ c2 ≤ 9223372036854775807 ∧ (n - 4 ≠ 0 → a2 = ⟨b, off + 4, none⟩)) := open_ok (bs := []) b off cap n 4 l (Below.refl _ _) (by simp) (by simp) h HN hs (by decide) (by decide)
  clear h
  go_enter Try.func65, Try.ntmps65
  go_wp2_with fail
  refine HO.out.mono ?_
  rintro e W1 ⟨r, hh, ao', cap', a2, c2, rfl, h1, _, _, _⟩
  have r3 := h1.lb.cn
  have r4 := h1.lb.ce
  have HU : Hid (∀ q, Calls Try.prog 100 #[.pointer (some ⟨r, 0, none⟩)] (W1.drewN q) fun e W' => e = .returned (.int .u32 (f : Int)) ∧ Dec w W' [] w.heap.size r hh ao' cap' (l.take 4) (0 + 4) (.slice (some a2) (n - 4) c2) 0 4 0) := fun q => rx_u32 (h1.drewN q) f HX0.out (by decide) hsl
  clear h1 HO HX0
  go_wp2
  go_region_with (go_at_call 100; refine (HU.out _).mono ?_; rintro e W2 ⟨rfl, h2⟩; have H2 : Hid _ := h2; have r3' := h2.lb.cn; have r4' := h2.lb.ce; clear h2)
  all_goals
    go_wp2
    go_ret3
    exact ⟨rfl, H2.out.bel⟩
set_option maxHeartbeats 1000000 in
theorem encFlags (f : Nat) (w : World) (hf : f < 4294967296) :
    Calls Try.prog 23 #[.int .u32 (f : Int)] w fun e w' => ∃ ao cap, e = .returned (.slice ao 4 cap) ∧ Row w w' ao cap (bigTo f 4 4) := by
  have h0 := wok_new w
  have hb0 : Below w.heap.size w (w.alloc (.cells #[.bool true, .slice none 0 0] 191)) := (Below.refl _ _).alloc (Nat.le_refl _) _
  go_enter Try.func23, Try.ntmps23
  go_wp2_with fail
  refine (newWriter_any w).mono ?_
  rintro e w1 ⟨rfl, rfl⟩
  generalize w.alloc (.cells #[.bool true, .slice none 0 0] 191) = W1 at *
  have H1 : Hid _ := h0
  have B1 : Hid (Below w.heap.size w W1) := hb0
  clear h0 hb0
  go_wp2_with fail
  refine (wu32_any w.heap.size w.heap.size f _ [] W1 H1.out hf (by simp) B1.out.size).mono ?_
  rintro e W2 ⟨rfl, v2, hp⟩
  have B2 : Hid (Below w.heap.size w W2) := B1.out.trans (hp.kept.below B1.out.size (by
    rintro g hg (e | e)
    · omega
    · simp [Value.ownBlock] at e))
  have H2 : Hid (WOk W2 w.heap.size w.heap.size v2 (bigTo f 4 4)) := hp.ok
  clear hp H1 B1
  go_wp2_with fail
  refine (wout_any w.heap.size w.heap.size v2 _ W2 H2.out (by simp [bigTo_length])).mono ?_
  rintro e W3 ⟨ao, cap, rfl, ho, hb⟩
  have H3 : Hid (Row w W3 ao cap (bigTo f 4 4)) := ⟨owns_mono ho B2.out.size, H2.out.lt, B2.out.trans (hb.mono B2.out.size)⟩
  clear ho hb H2
  rw [bigTo_length]
  go_wp2
  go_ret
  exact ⟨_, _, rfl, H3.out⟩
end Go.Proofs.Ytckfmpoddmccfaa
