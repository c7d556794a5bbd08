import Derived.Test.YtijafckdbhklmaaYA
import Derived.BigFrame
import Derived.BigGuard
namespace Go.Proofs.Ytijafckdbhklmaa.I
open Go.RowKit Go.Sort Go.Lib Go.Shelf Classical
attribute [local go_sem] Oper.semAt_some
attribute [local go_sem ↓] Go.wp_at_zero Go.wp_at_succ
set_option linter.unusedVariables false
set_option linter.unusedSimpArgs false
set_option maxRecDepth 100000

set_option maxHeartbeats 8000000 in
theorem lawApart_bad (size first : Int) (l : List Put) (x y : Put) (va : Value) (w : World) (gA : PutsA w va l) (hl : l.length ≤ 1048576) (hs : size < 0 ∨ 1099511627776 < size) :
    Calls Try.prog 6 #[.int .i64 size, .int .i64 first, va, .agg #[.int .i64 x.1, .int .i64 x.2.1, .int .i64 x.2.2], .agg #[.int .i64 y.1, .int .i64 y.2.1, .int .i64 y.2.2]] w fun e w' => e = .returned (.bool true) ∧ Below w.heap.size w w' := by
  have HLB : Hid (∀ (v : Value) (W : World), Calls Try.prog 19 #[.int .i64 size, .int .i64 first, v] W fun e w' => e = .returned (.pointer none) ∧ w' = W) := fun v W => laid_bad size first v W hs
  clear hs
  obtain ⟨W0, hW0⟩ : ∃ W0, W0 = (w.alloc (.cells #[.int .i64 x.1, .int .i64 x.2.1, .int .i64 x.2.2] TPut)).alloc (.cells #[.int .i64 y.1, .int .i64 y.2.1, .int .i64 y.2.2] TPut) := ⟨_, rfl⟩
  have hB0 : Below w.heap.size w W0 := by rw [hW0]; exact ((Below.refl _ w).alloc (Nat.le_refl _) _).alloc (by simp) _
  have hs0 : W0.heap.size = w.heap.size + 1 + 1 := by rw [hW0]; simp
  have kx : W0.heap[w.heap.size]? = some (.cells #[.int .i64 x.1, .int .i64 x.2.1, .int .i64 x.2.2] TPut (0, 0)) := by
    rw [hW0]; exact (Below.heap_alloc _ _ _ (by simp)).trans (heap_alloc_new w _)
  have ky : W0.heap[w.heap.size + 1]? = some (.cells #[.int .i64 y.1, .int .i64 y.2.1, .int .i64 y.2.2] TPut (0, 0)) := by
    have := heap_alloc_new (w.alloc (.cells #[.int .i64 x.1, .int .i64 x.2.1, .int .i64 x.2.2] TPut)) (.cells #[.int .i64 y.1, .int .i64 y.2.1, .int .i64 y.2.2] TPut)
    rw [World.size_alloc] at this
    rw [hW0]; exact this
  have HC1 : Hid (∀ W, Below W0.heap.size W0 W → W.cell? ⟨w.heap.size, 0, none⟩ = some (.int .i64 x.1) ∧ W.cell? ⟨w.heap.size, 1, none⟩ = some (.int .i64 x.2.1) ∧ W.cell? ⟨w.heap.size, 2, none⟩ = some (.int .i64 x.2.2) ∧ W.cell? ⟨w.heap.size + 1, 0, none⟩ = some (.int .i64 y.1) ∧ W.cell? ⟨w.heap.size + 1, 1, none⟩ = some (.int .i64 y.2.1) ∧ W.cell? ⟨w.heap.size + 1, 2, none⟩ = some (.int .i64 y.2.2)) := fun W hW => by
    have k1 := (hW.block _ (Array.getElem?_eq_some_iff.1 kx).1).trans kx
    have k2 := (hW.block _ (Array.getElem?_eq_some_iff.1 ky).1).trans ky
    unfold World.cell?
    simp only [k1, k2]
    exact ⟨rfl, rfl, rfl, rfl, rfl, rfl⟩
  have HPA1 : Hid (∀ W, Below W0.heap.size W0 W → PutsA W va l) := fun W hW => (gA.later hB0).later hW
  have HB0 : Hid (Below w.heap.size w W0) := hB0
  have hw00 : Below W0.heap.size W0 W0 := Below.refl _ _
  obtain ⟨x0, x1, x2, y0, y1, y2⟩ := HC1.out W0 hw00
  clear kx ky gA hB0
  go_enter Try.func6, Try.ntmps6
  go_big_wp2_with (first | (go_at_call 19; fail) | (go_at_call 25; fail))
  rw [← hW0]
  have HS0 : Hid (W0.heap.size = w.heap.size + 1 + 1) := hs0
  clear hW0 hs0
  have bS1 : Below W0.heap.size W0 W0 := Below.refl _ _
  go_region_held3 (fun w' => w'.cell? ⟨w.heap.size, 0, none⟩ = some (.int .i64 x.1) ∧ w'.cell? ⟨w.heap.size, 1, none⟩ = some (.int .i64 x.2.1) ∧ w'.cell? ⟨w.heap.size, 2, none⟩ = some (.int .i64 x.2.2) ∧ w'.cell? ⟨w.heap.size + 1, 0, none⟩ = some (.int .i64 y.1) ∧ w'.cell? ⟨w.heap.size + 1, 1, none⟩ = some (.int .i64 y.2.1) ∧ w'.cell? ⟨w.heap.size + 1, 2, none⟩ = some (.int .i64 y.2.2)) (first | go_keep | exact HC1.out _ bB1 | exact HC1.out _ bA1 | exact HC1.out _ (bA1.alloc bA1.size _) | exact HC1.out _ (below_drew (bS1.alloc bS1.size _)) | exact HC1.out _ (bS1.alloc bS1.size _) | exact HC1.out _ (below_drew bS1)) ((first | (go_at_call 19; refine (HLB.out _ _).mono ?_; rintro e w9 ⟨rfl, hw9⟩; rw [hw9]; clear hw9) | (refine step_append_puts (by rfl) (.tmp 22) (.tmp 25) (by rfl) W0.heap.size vA1 _ _ (by rfl) (hoA1.alloc _) (.slice (some ⟨wA1.heap.size, 0, none⟩) 2 2) [x, y] (by rfl) (puts2 _ _ (heap_alloc_new wA1 _)) (by first | omega | (simp <;> omega)) (by have := bA1.size; first | omega | (simp <;> omega)) ?_; intro vB1 wB1 hoB1 hgB1; have bB1 : Below W0.heap.size W0 wB1 := (bA1.alloc bA1.size _).grown hgB1 (by have := bA1.size; first | omega | (simp <;> omega)) (fun q e => (hoA1.lt q e).1)) | (refine step_append_puts (by rfl) (.tmp 22) (.tmp 25) (by rfl) W0.heap.size vA1 _ _ (by rfl) hoA1 (.slice (some ⟨W0.heap.size, 0, none⟩) 2 2) [x, y] (by rfl) (puts2 _ _ ((hgA1.block _ (by simp) (by simp [Value.ownBlock])).trans (heap_alloc_new W0 _))) (by first | omega | (simp <;> omega)) (by have := bA1.size; first | omega | (simp <;> omega)) ?_; intro vB1 wB1 hoB1 hgB1; have bB1 : Below W0.heap.size W0 wB1 := bA1.grown hgB1 bA1.size (fun q e => (hoA1.lt q e).1)) | (refine step_append_puts (by rfl) (.const (.slice none 0 0)) (.tmp 21) (by rfl) W0.heap.size (.slice none 0 0) 0 [] (by rfl) (World.ownsRow_nil _ _ _ _) va l (by rfl) (HPA1.out _ (by first | exact below_drew bS1 | exact below_drew (bS1.alloc bS1.size _))) (by omega) (by simp) ?_; intro vA1 wA1 hoA1 hgA1; have bA1 : Below W0.heap.size W0 wA1 := (by first | exact (below_drew bS1).grown hgA1 bS1.size (fun q e => none_own e) | exact (below_drew (bS1.alloc bS1.size _)).grown hgA1 (by first | omega | (simp <;> omega)) (fun q e => none_own e))) | fail))
  all_goals
    have HPA2 : Hid (∀ W, Below wB1.heap.size wB1 W → PutsA W va l) := fun W hW => HPA1.out W (bB1.trans (hW.mono bB1.size))
    have HC2 : Hid (∀ W, Below wB1.heap.size wB1 W → W.cell? ⟨w.heap.size, 0, none⟩ = some (.int .i64 x.1) ∧ W.cell? ⟨w.heap.size, 1, none⟩ = some (.int .i64 x.2.1) ∧ W.cell? ⟨w.heap.size, 2, none⟩ = some (.int .i64 x.2.2) ∧ W.cell? ⟨w.heap.size + 1, 0, none⟩ = some (.int .i64 y.1) ∧ W.cell? ⟨w.heap.size + 1, 1, none⟩ = some (.int .i64 y.2.1) ∧ W.cell? ⟨w.heap.size + 1, 2, none⟩ = some (.int .i64 y.2.2)) := fun W hW => HC1.out W (bB1.trans (hW.mono bB1.size))
    have HB1 : Hid (Below w.heap.size w wB1) := HB0.out.trans (bB1.mono HB0.out.size)
    obtain ⟨x0, x1, x2, y0, y1, y2⟩ := HC2.out wB1 (Below.refl _ _)
    clear hoA1 hgA1 hoB1 hgB1 bA1 bB1 HPA1 HC1 bS1 hw00
    go_wp2_with (first | (go_at_call 19; fail) | (go_at_call 25; fail))
    have bS2 : Below wB1.heap.size wB1 wB1 := Below.refl _ _
    go_region_held3 (fun w' => w'.cell? ⟨w.heap.size, 0, none⟩ = some (.int .i64 x.1) ∧ w'.cell? ⟨w.heap.size, 1, none⟩ = some (.int .i64 x.2.1) ∧ w'.cell? ⟨w.heap.size, 2, none⟩ = some (.int .i64 x.2.2) ∧ w'.cell? ⟨w.heap.size + 1, 0, none⟩ = some (.int .i64 y.1) ∧ w'.cell? ⟨w.heap.size + 1, 1, none⟩ = some (.int .i64 y.2.1) ∧ w'.cell? ⟨w.heap.size + 1, 2, none⟩ = some (.int .i64 y.2.2)) (first | go_keep | exact HC2.out _ bB2 | exact HC2.out _ bA2 | exact HC2.out _ (bA2.alloc bA2.size _) | exact HC2.out _ (below_drew (bS2.alloc bS2.size _)) | exact HC2.out _ (bS2.alloc bS2.size _) | exact HC2.out _ (below_drew bS2)) ((first | (go_at_call 19; refine (HLB.out _ _).mono ?_; rintro e w9 ⟨rfl, hw9⟩; rw [hw9]; clear hw9) | (refine step_append_puts (by rfl) (.tmp 31) (.tmp 34) (by rfl) wB1.heap.size vA2 _ _ (by rfl) (hoA2.alloc _) (.slice (some ⟨wA2.heap.size, 0, none⟩) 2 2) [y, x] (by rfl) (puts2 _ _ (heap_alloc_new wA2 _)) (by first | omega | (simp <;> omega)) (by have := bA2.size; first | omega | (simp <;> omega)) ?_; intro vB2 wB2 hoB2 hgB2; have bB2 : Below wB1.heap.size wB1 wB2 := (bA2.alloc bA2.size _).grown hgB2 (by have := bA2.size; first | omega | (simp <;> omega)) (fun q e => (hoA2.lt q e).1)) | (refine step_append_puts (by rfl) (.tmp 31) (.tmp 34) (by rfl) wB1.heap.size vA2 _ _ (by rfl) hoA2 (.slice (some ⟨wB1.heap.size, 0, none⟩) 2 2) [y, x] (by rfl) (puts2 _ _ ((hgA2.block _ (by simp) (by simp [Value.ownBlock])).trans (heap_alloc_new wB1 _))) (by first | omega | (simp <;> omega)) (by have := bA2.size; first | omega | (simp <;> omega)) ?_; intro vB2 wB2 hoB2 hgB2; have bB2 : Below wB1.heap.size wB1 wB2 := bA2.grown hgB2 bA2.size (fun q e => (hoA2.lt q e).1)) | (refine step_append_puts (by rfl) (.const (.slice none 0 0)) (.tmp 30) (by rfl) wB1.heap.size (.slice none 0 0) 0 [] (by rfl) (World.ownsRow_nil _ _ _ _) va l (by rfl) (HPA2.out _ (by first | exact below_drew bS2 | exact below_drew (bS2.alloc bS2.size _))) (by omega) (by simp) ?_; intro vA2 wA2 hoA2 hgA2; have bA2 : Below wB1.heap.size wB1 wA2 := (by first | exact (below_drew bS2).grown hgA2 bS2.size (fun q e => none_own e) | exact (below_drew (bS2.alloc bS2.size _)).grown hgA2 (by first | omega | (simp <;> omega)) (fun q e => none_own e))) | fail))
  all_goals
    have hwz : Below w.heap.size w wB2 := HB1.out.trans (bB2.mono HB1.out.size)
    clear hoA2 hgA2 hoB2 hgB2 bA2 bB2 HPA2 HC2 bS2
    go_wp2_with (first | (go_at_call 18; refine (alive_any _).mono ?_; rintro e wz ⟨rfl, hbz⟩) | fail)
    go_ret
    exact ⟨rfl, hwz.trans (hbz.mono hwz.size)⟩
theorem lawApart_any (size first : Int) (l : List Put) (x y : Put) (va : Value) (w : World) (gA : PutsA w va l) (hl : l.length ≤ 1048576) :
    Calls Try.prog 6 #[.int .i64 size, .int .i64 first, va, .agg #[.int .i64 x.1, .int .i64 x.2.1, .int .i64 x.2.2], .agg #[.int .i64 y.1, .int .i64 y.2.1, .int .i64 y.2.2]] w fun e w' => e = .returned (.bool true) ∧ Below w.heap.size w w' := by
  by_cases hs : 0 ≤ size ∧ size ≤ 1099511627776
  · exact lawApart_good size first l x y va w gA hl hs.1 hs.2
  · exact lawApart_bad size first l x y va w gA hl (by omega)
end Go.Proofs.Ytijafckdbhklmaa.I
