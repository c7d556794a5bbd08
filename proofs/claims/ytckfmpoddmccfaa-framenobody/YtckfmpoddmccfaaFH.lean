import Derived.Test.YtckfmpoddmccfaaFF
import Derived.Test.YtckfmpoddmccfaaFG
import Derived.Great.BuildSlice
namespace Go.Proofs.Ytckfmpoddmccfaa
open Go.RowKit
set_option linter.unusedVariables false
set_option linter.unusedSimpArgs false
set_option maxRecDepth 100000

/-- the option of heads -/
def hb17 : List Nat := [73, 72, 65, 86, 69, 79, 80, 84, 0, 0, 0, 3, 0, 0, 0, 1, 7]
theorem optC_9 : optC 64 0 (hb17.take 9) = ((0, 0, false, []), 0, 0, hb17.take 9) := by decide
theorem optC_17 : optC 64 0 hb17 = ((3, 1, false, [7]), 1, 0, []) := by decide
theorem blk_crow {W : World} {g : Nat} {l : List Nat} (hg : W.heap[g]? = some (.cells (l.map bv).toArray 5 (0, 0))) (hlt : ∀ x ∈ l, x < 256) (a k c : Nat) (h1 : a + k ≤ l.length) (h2 : k ≤ c) (h3 : c ≤ 9223372036854775807) (h4 : l.length ≤ 140737488351232) : CRow W (some ⟨g, a, none⟩) c ((l.drop a).take k) := by
  have hlen : ((l.drop a).take k).length = k := by rw [List.length_take, List.length_drop]; omega
  refine ⟨⟨fun x hx => hlt x (List.mem_of_mem_drop (List.mem_of_mem_take hx)), by omega, fun h => by simp at h, fun _ => ⟨_, _, rfl, fun j hj => ?_⟩⟩, by omega, h3⟩
  rw [hlen] at hj
  rw [blk_cell hg, List.getElem?_map, List.getElem?_eq_getElem (by omega)]
  simp
set_option maxHeartbeats 8000000 in
theorem heads_any (w : World) : Calls Try.prog 10 #[] w fun e w' => e = .returned (.bool true) ∧ Below w.heap.size w w' := by
  have HN : Hid (Calls Try.prog 18 #[.int .i64 60] w fun e w' => e = .returned (.tuple #[.pointer (some ⟨w.heap.size, 0, none⟩), .int .i64 0]) ∧ Inb w' w.heap.size w.heap.size (.slice none 0 0) 60 0 [] ∧ Below w.heap.size w w') := newI 60 (by decide) (by decide) w
  go_enter Try.func10, Try.ntmps10
  go_wp2_with fail
  refine HN.out.mono ?_
  rintro e W1 ⟨rfl, hI1, hB1⟩
  have HI1 : Hid _ := hI1
  have HB1 : Hid _ := hB1
  clear hI1 hB1 HN
  obtain ⟨W2, hW2⟩ : ∃ W2, W2 = W1.alloc (.cells #[.int .u8 73, .int .u8 72, .int .u8 65, .int .u8 86, .int .u8 69, .int .u8 79, .int .u8 80, .int .u8 84, .int .u8 0, .int .u8 0, .int .u8 0, .int .u8 3, .int .u8 0, .int .u8 0, .int .u8 0, .int .u8 1, .int .u8 7] 5) := ⟨_, rfl⟩
  have hb2 : Below W1.heap.size W1 W2 := by rw [hW2]; exact (Below.refl _ _).alloc (Nat.le_refl _) _
  have hg2 : W2.heap[W1.heap.size]? = some (.cells (hb17.map bv).toArray 5 (0, 0)) := by rw [hW2]; exact heap_new W1 _
  have hlo : w.heap.size < W1.heap.size := block_lt HI1.out.blk
  have hI2 : Inb W2 w.heap.size w.heap.size (.slice none 0 0) 60 0 [] := HI1.out.later hb2
  have HB2 : Hid (Below w.heap.size w W2) := HB1.out.trans (hb2.mono HB1.out.size)
  have HRow : Hid (∀ W : World, W.heap[W1.heap.size]? = some (.cells (hb17.map bv).toArray 5 (0, 0)) → CRow W (some ⟨W1.heap.size, 0, none⟩) 17 ((hb17.drop 0).take 9) ∧ CRow W (some ⟨W1.heap.size, 9, none⟩) 8 ((hb17.drop 9).take 8)) := fun W hg => by
    exact ⟨blk_crow hg (by decide) 0 9 17 (by decide) (by decide) (by decide) (by decide), blk_crow hg (by decide) 9 8 8 (by decide) (by decide) (by decide) (by decide)⟩
  have HFd : Hid _ := feedI hI2 (some ⟨W1.heap.size, 0, none⟩) 17 9 ((hb17.drop 0).take 9) (HRow.out W2 hg2).1 (by show _ = _; rfl) (by decide) 0 9 rfl rfl
  have HG2 : Hid _ := hg2
  clear hb2 hg2 HI1 HB1
  have HI2 : Hid _ := hI2
  clear hI2
  go_wp2_with fail
  rw [← hW2]
  clear hW2
  refine Calls.mono HFd.out ?_
  rintro e W3 ⟨rfl, v3, hI3, hA3⟩
  have el3 : ([] : List Nat) ++ (((hb17.drop 0).take 9).drop 0).take 9 = hb17.take 9 := by decide
  rw [el3] at hI3
  have HG3 : Hid (W3.heap[W1.heap.size]? = some (.cells (hb17.map bv).toArray 5 (0, 0))) := (hA3.kept.block _ (block_lt HG2.out) (by rintro (e | e) <;> first | omega | simp [Value.ownBlock] at e)).trans HG2.out
  have HB3 : Hid (Below w.heap.size w W3) := HB2.out.trans (hA3.below HI2.out)
  have HOp : Hid (Calls Try.prog 24 #[.pointer (some ⟨w.heap.size, 0, none⟩), .int .u32 64] W3 fun e w' => OptI W3 w.heap.size w.heap.size v3 60 (optC 64 0 (hb17.take 9)) e w') := optionI hI3 64 (by decide)
  rw [optC_9] at HOp
  have HI3 : Hid _ := hI3
  have hv3 : ∀ g, v3.ownBlock = some g → g ≠ W1.heap.size := fun g hg e => by
    have h2 := block_lt HG2.out
    rcases hA3.fresh with f | ⟨g', f, hlt⟩
    · rw [f] at hg; simp [Value.ownBlock] at hg
    · rw [hg] at f; simp at f; omega
  have HV3 : Hid _ := hv3
  clear HFd hI3 hA3 el3 hv3 HG2 HB2 HI2
  go_wp2_with fail
  refine HOp.out.mono ?_
  rintro e W4 ⟨c, k, lg, d, cu, ov', l', v4, ao4, cap4, rfl, hx, hI4, hA4, hr4, hn4⟩
  simp only [Prod.mk.injEq] at hx
  obtain ⟨⟨rfl, rfl, rfl, rfl⟩, rfl, rfl, rfl⟩ := hx
  have HG4 : Hid (W4.heap[W1.heap.size]? = some (.cells (hb17.map bv).toArray 5 (0, 0))) := (hA4.kept.block _ (block_lt HG3.out) (by rintro (e | e); (· omega); exact HV3.out _ e rfl)).trans HG3.out
  have hv4 : ∀ g, v4.ownBlock = some g → g ≠ W1.heap.size := fun g hg e => by
    have h2 := block_lt HG3.out
    rcases hA4.fresh with f | ⟨g', f, hlt⟩
    · exact HV3.out g (f ▸ hg) e
    · rw [hg] at f; simp at f; omega
  have HB4 : Hid (Below w.heap.size w W4) := HB3.out.trans (hA4.below HI3.out)
  obtain ⟨W5, hW5⟩ : ∃ W5, W5 = W4.alloc (.cells #[.int .u32 0, .int .u32 0, .bool false, .slice ao4 0 cap4] 57) := ⟨_, rfl⟩
  have hb5 : Below W4.heap.size W4 W5 := by rw [hW5]; exact (Below.refl _ _).alloc (Nat.le_refl _) _
  have hI5 := hI4.later hb5
  have HI5 : Hid _ := hI5
  have HG5 : Hid (W5.heap[W1.heap.size]? = some (.cells (hb17.map bv).toArray 5 (0, 0))) := (hb5.block _ (block_lt HG4.out)).trans HG4.out
  have HB5 : Hid (Below w.heap.size w W5) := HB4.out.trans (hb5.mono HB4.out.size)
  have HFd : Hid _ := feedI hI5 (some ⟨W1.heap.size, 9, none⟩) 8 8 ((hb17.drop 9).take 8) (HRow.out W5 HG5.out).2 (by show _ = _; rfl) (by decide) 0 8 rfl rfl
  clear HOp HI3 HV3 HG3 HB3 hI4 hA4 hr4 hn4 hv4 HG4 HB4 hb5 hI5 HRow
  go_wp2_with fail
  rw [← hW5]
  clear hW5
  refine Calls.mono HFd.out ?_
  rintro e W6 ⟨rfl, v6, hI6, hA6⟩
  have el6 : (hb17.take 9) ++ (((hb17.drop 9).take 8).drop 0).take 8 = hb17 := by decide
  rw [el6] at hI6
  have HB6 : Hid (Below w.heap.size w W6) := HB5.out.trans (hA6.below HI5.out)
  have HOp : Hid (Calls Try.prog 24 #[.pointer (some ⟨w.heap.size, 0, none⟩), .int .u32 64] W6 fun e w' => OptI W6 w.heap.size w.heap.size v6 60 (optC 64 0 hb17) e w') := optionI hI6 64 (by decide)
  rw [optC_17] at HOp
  have HI6 : Hid _ := hI6
  clear HFd hI6 hA6 el6 HI5 HG5 HB5
  go_wp2_with fail
  refine HOp.out.mono ?_
  rintro e W7 ⟨c, k, lg, d, cu, ov', l', v7, ao7, cap7, rfl, hx, hI7, hA7, hr7, hn7⟩
  simp only [Prod.mk.injEq] at hx
  obtain ⟨⟨rfl, rfl, rfl, rfl⟩, rfl, rfl, rfl⟩ := hx
  have HB7 : Hid (Below w.heap.size w W7) := HB6.out.trans (hA7.below HI6.out)
  obtain ⟨W8, hW8⟩ : ∃ W8, W8 = W7.alloc (.cells #[.int .u32 3, .int .u32 1, .bool false, .slice ao7 1 cap7] 57) := ⟨_, rfl⟩
  have hb8 : Below W7.heap.size W7 W8 := by rw [hW8]; exact (Below.refl _ _).alloc (Nat.le_refl _) _
  have HB8 : Hid (Below w.heap.size w W8) := HB7.out.trans (hb8.mono HB7.out.size)
  have hI8 := hI7.later hb8
  have hr8 : W8.ownsRow W6.heap.size 5 1 (.slice ao7 1 cap7) 1 [bv 7] := owns_same hr7 fun g hg => hb8.block g (owns_lt hr7 g hg).1
  obtain ⟨g7, hao⟩ : ∃ g7, ao7 = some ⟨g7, 0, none⟩ := by
    rcases hr8.2 with ⟨hv, hn⟩ | ⟨g, c', cur, hv, _⟩
    · simp at hn
    · simp only [Value.slice.injEq] at hv; exact ⟨g, hv.1⟩
  subst hao
  have x7 : W8.cell? ⟨g7, 0, none⟩ = some (.int .u8 7) := by
    have := hr8.cellAt 0 (by decide)
    simpa [bv] using this
  have HH : Hid _ := heldI hI8
  have HRm : Hid _ := roomI hI8
  clear HOp hI7 hA7 hr7 hn7 hb8 HI6 HB6 HB7 hr8 hI8
  have x8 := x7
  rw [hW8] at x8
  go_wp2_with fail
  rw [← hW8]
  clear hW8 x8
  refine Calls.mono HH.out ?_
  rintro e W9 ⟨rfl, hw9⟩
  rw [hw9]; clear hw9
  go_wp2_with fail
  refine Calls.mono HRm.out ?_
  rintro e W9 ⟨rfl, q, hw9⟩
  have HB9 : Hid (Below w.heap.size w W9) := by
    show Below _ _ _
    rw [hw9]; exact HB8.out.trans ⟨rfl, rfl, rfl, Nat.le_refl _, fun _ _ => rfl⟩
  clear hw9
  go_wp2
  go_ret
  exact ⟨rfl, HB9.out⟩
end Go.Proofs.Ytckfmpoddmccfaa
