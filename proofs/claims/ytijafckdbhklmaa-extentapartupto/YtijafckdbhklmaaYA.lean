import Derived.Test.YtijafckdbhklmaaYPu
import Derived.BigFrame
import Derived.BigGuard
namespace Go.Proofs.Ytijafckdbhklmaa.I
open Go.RowKit Go.Sort Go.Lib Go.Shelf Classical
attribute [local go_sem] Oper.semAt_some
attribute [local go_sem ↓] Go.wp_at_zero Go.wp_at_succ
set_option linter.unusedVariables false
set_option linter.unusedSimpArgs false
set_option maxRecDepth 100000

theorem laid_row (size first : Int) {W : World} {B : Nat} {v : Value} {L : List Put} (ho : W.ownsRow B TPut 3 v L.length (qcells L)) (hl : L.length ≤ 9223372036854775807) (h0 : 0 ≤ size) (h1 : size ≤ 1099511627776) :
    Calls Try.prog 19 #[.int .i64 size, .int .i64 first, v] W fun e w' => ∃ bm vm, e = .returned (.pointer (some ⟨bm, 0, none⟩)) ∧ MO w' W.heap.size bm vm size (runsL size first L) ∧ Below W.heap.size W w' := by
  obtain ⟨ao, cap, rfl, hp⟩ := puts_row ho
  exact laid_any size first ao _ cap L W rfl hl hp h0 h1
theorem none_own {n q : Nat} (e : (Value.slice none 0 0).ownBlock = some q) : n ≤ q := by cases e
theorem puts2 {W : World} {H : Nat} (x y : Put) (h : W.heap[H]? = some (.cells #[.int .i64 x.1, .int .i64 x.2.1, .int .i64 x.2.2, .int .i64 y.1, .int .i64 y.2.1, .int .i64 y.2.2] TPut (0, 0))) : PutsA W (.slice (some ⟨H, 0, none⟩) 2 2) [x, y] := by
  refine .inr ⟨⟨H, 0, none⟩, 2, rfl, fun k q hk => ⟨H, 0, rfl, ?_⟩⟩
  unfold World.cell?
  simp only [h]
  match k, hk with
  | 0, hk => simp at hk; subst hk; exact ⟨rfl, rfl, rfl⟩
  | 1, hk => simp at hk; subst hk; exact ⟨rfl, rfl, rfl⟩
  | k + 2, hk => simp at hk
theorem MO.low {w : World} {B B' bm : Nat} {v : Value} {size : Int} {rs : List (Rn Int)} (h : MO w B bm v size rs) (hb : B' ≤ B) : MO w B' bm v size rs :=
  ⟨h.blk, owns_mono h.row hb, Nat.le_trans hb h.base, h.tiles, h.alt, h.le⟩
theorem last_two (size first : Int) (l : List Put) (x y : Put) (i : Int) : lastV size first (l ++ [x, y]) i = if may size y.1 y.2.1 ∧ y.1 ≤ i ∧ i < y.2.1 then y.2.2 else if may size x.1 x.2.1 ∧ x.1 ≤ i ∧ i < x.2.1 then x.2.2 else lastV size first l i := by
  rw [show l ++ [x, y] = (l ++ [x]) ++ [y] by simp, lastV_snoc, lastV_snoc]
theorem apart_eq {size first : Int} (h0 : 0 ≤ size) (l : List Put) {x y : Put} (hx : may size x.1 x.2.1) (hy : may size y.1 y.2.1) (h : ∀ i, x.1 ≤ i → i < x.2.1 → y.1 ≤ i → i < y.2.1 → x.2.2 = y.2.2) : runsL size first (l ++ [x, y]) = runsL size first (l ++ [y, x]) := by
  obtain ⟨t1, a1, e1⟩ := runsL_spec size first h0 (l ++ [x, y])
  obtain ⟨t2, a2, e2⟩ := runsL_spec size first h0 (l ++ [y, x])
  refine runs_unique t1 a1 t2 a2 (fun i v => ?_)
  rw [e1, e2, last_two, last_two]
  by_cases k1 : x.1 ≤ i ∧ i < x.2.1
  · rw [if_pos (c := may size x.1 x.2.1 ∧ x.1 ≤ i ∧ i < x.2.1) ⟨hx, k1⟩, if_pos (c := may size x.1 x.2.1 ∧ x.1 ≤ i ∧ i < x.2.1) ⟨hx, k1⟩]
    by_cases k2 : y.1 ≤ i ∧ i < y.2.1
    · rw [if_pos ⟨hy, k2⟩, h i k1.1 k1.2 k2.1 k2.2]
    · rw [if_neg (fun g => k2 g.2)]
  · rw [if_neg (c := may size x.1 x.2.1 ∧ x.1 ≤ i ∧ i < x.2.1) (fun g => k1 g.2), if_neg (c := may size x.1 x.2.1 ∧ x.1 ≤ i ∧ i < x.2.1) (fun g => k1 g.2)]
theorem apart_at {size first : Int} (h0 : 0 ≤ size) (l : List Put) {x y : Put} (hy : may size y.1 y.2.1) {i : Int} (k1 : y.1 ≤ i) (k2 : i < y.2.1) : Has (runsL size first (l ++ [x, y])) i y.2.2 := by
  obtain ⟨t1, a1, e1⟩ := runsL_spec size first h0 (l ++ [x, y])
  rw [e1, last_two, if_pos ⟨hy, k1, k2⟩]
  exact ⟨by omega, by omega, rfl⟩
set_option maxHeartbeats 8000000 in
theorem lawApart_good (size first : Int) (l : List Put) (x y : Put) (va : Value) (w : World) (gA : PutsA w va l) (hl : l.length ≤ 1048576) (h0 : 0 ≤ size) (h1 : size ≤ 1099511627776) :
    Calls Try.prog 6 #[.int .i64 size, .int .i64 first, va, .agg #[.int .i64 x.1, .int .i64 x.2.1, .int .i64 x.2.2], .agg #[.int .i64 y.1, .int .i64 y.2.1, .int .i64 y.2.2]] w fun e w' => e = .returned (.bool true) ∧ Below w.heap.size w w' := by
  obtain ⟨W0, hW0⟩ : ∃ W0, W0 = (w.alloc (.cells #[.int .i64 x.1, .int .i64 x.2.1, .int .i64 x.2.2] TPut)).alloc (.cells #[.int .i64 y.1, .int .i64 y.2.1, .int .i64 y.2.2] TPut) := ⟨_, rfl⟩
  have hB0 : Below w.heap.size w W0 := by rw [hW0]; exact ((Below.refl _ w).alloc (Nat.le_refl _) _).alloc (by simp) _
  have hs0 : W0.heap.size = w.heap.size + 1 + 1 := by rw [hW0]; simp
  have kx : W0.heap[w.heap.size]? = some (.cells #[.int .i64 x.1, .int .i64 x.2.1, .int .i64 x.2.2] TPut (0, 0)) := by
    rw [hW0]; exact (Below.heap_alloc _ _ _ (by simp)).trans (heap_alloc_new w _)
  have ky : W0.heap[w.heap.size + 1]? = some (.cells #[.int .i64 y.1, .int .i64 y.2.1, .int .i64 y.2.2] TPut (0, 0)) := by
    have := heap_alloc_new (w.alloc (.cells #[.int .i64 x.1, .int .i64 x.2.1, .int .i64 x.2.2] TPut)) (.cells #[.int .i64 y.1, .int .i64 y.2.1, .int .i64 y.2.2] TPut)
    rw [World.size_alloc] at this
    rw [hW0]; exact this
  have HC1 : Hid (∀ W, Below W0.heap.size W0 W → W.cell? ⟨w.heap.size, 0, none⟩ = some (.int .i64 x.1) ∧ W.cell? ⟨w.heap.size, 1, none⟩ = some (.int .i64 x.2.1) ∧ W.cell? ⟨w.heap.size, 2, none⟩ = some (.int .i64 x.2.2) ∧ W.cell? ⟨w.heap.size + 1, 0, none⟩ = some (.int .i64 y.1) ∧ W.cell? ⟨w.heap.size + 1, 1, none⟩ = some (.int .i64 y.2.1) ∧ W.cell? ⟨w.heap.size + 1, 2, none⟩ = some (.int .i64 y.2.2)) := fun W hW => by
    have k1 := (hW.block _ (Array.getElem?_eq_some_iff.1 kx).1).trans kx
    have k2 := (hW.block _ (Array.getElem?_eq_some_iff.1 ky).1).trans ky
    unfold World.cell?
    simp only [k1, k2]
    exact ⟨rfl, rfl, rfl, rfl, rfl, rfl⟩
  have HPA1 : Hid (∀ W, Below W0.heap.size W0 W → PutsA W va l) := fun W hW => (gA.later hB0).later hW
  have HB0 : Hid (Below w.heap.size w W0) := hB0
  have hw00 : Below W0.heap.size W0 W0 := Below.refl _ _
  obtain ⟨x0, x1, x2, y0, y1, y2⟩ := HC1.out W0 hw00
  clear kx ky gA hB0
  go_enter Try.func6, Try.ntmps6
  go_big_wp2_with (first | (go_at_call 19; fail) | (go_at_call 25; fail))
  rw [← hW0]
  have HS0 : Hid (W0.heap.size = w.heap.size + 1 + 1) := hs0
  clear hW0 hs0
  have bS1 : Below W0.heap.size W0 W0 := Below.refl _ _
  go_region_held3 (fun w' => w'.cell? ⟨w.heap.size, 0, none⟩ = some (.int .i64 x.1) ∧ w'.cell? ⟨w.heap.size, 1, none⟩ = some (.int .i64 x.2.1) ∧ w'.cell? ⟨w.heap.size, 2, none⟩ = some (.int .i64 x.2.2) ∧ w'.cell? ⟨w.heap.size + 1, 0, none⟩ = some (.int .i64 y.1) ∧ w'.cell? ⟨w.heap.size + 1, 1, none⟩ = some (.int .i64 y.2.1) ∧ w'.cell? ⟨w.heap.size + 1, 2, none⟩ = some (.int .i64 y.2.2)) (first | go_keep | exact HC1.out _ bsC1 | exact HC1.out _ bB1 | exact HC1.out _ bA1 | exact HC1.out _ (bA1.alloc bA1.size _) | exact HC1.out _ (below_drew (bS1.alloc bS1.size _)) | exact HC1.out _ (bS1.alloc bS1.size _) | exact HC1.out _ (below_drew bS1)) ((first | (go_at_call 19; refine (laid_row size first hoC1 (by first | omega | (simp <;> omega)) h0 h1).mono ?_; rintro e wC1 ⟨bC1, vmC1, rfl, mC1, blC1⟩; have bsC1 : Below W0.heap.size W0 wC1 := bB1.trans (blC1.mono bB1.size)) | (refine step_append_puts (by rfl) (.tmp 22) (.tmp 25) (by rfl) W0.heap.size vA1 _ _ (by rfl) (hoA1.alloc _) (.slice (some ⟨wA1.heap.size, 0, none⟩) 2 2) [x, y] (by rfl) (puts2 _ _ (heap_alloc_new wA1 _)) (by first | omega | (simp <;> omega)) (by have := bA1.size; first | omega | (simp <;> omega)) ?_; intro vB1 wB1 hoB1 hgB1; have bB1 : Below W0.heap.size W0 wB1 := (bA1.alloc bA1.size _).grown hgB1 (by have := bA1.size; first | omega | (simp <;> omega)) (fun q e => (hoA1.lt q e).1); have hoC1 : wB1.ownsRow W0.heap.size TPut 3 vB1 (l ++ [x, y]).length (qcells (l ++ [x, y])) := (by simpa [qcells_append, Nat.add_assoc] using hoB1)) | (refine step_append_puts (by rfl) (.tmp 22) (.tmp 25) (by rfl) W0.heap.size vA1 _ _ (by rfl) hoA1 (.slice (some ⟨W0.heap.size, 0, none⟩) 2 2) [x, y] (by rfl) (puts2 _ _ ((hgA1.block _ (by simp) (by simp [Value.ownBlock])).trans (heap_alloc_new W0 _))) (by first | omega | (simp <;> omega)) (by have := bA1.size; first | omega | (simp <;> omega)) ?_; intro vB1 wB1 hoB1 hgB1; have bB1 : Below W0.heap.size W0 wB1 := bA1.grown hgB1 bA1.size (fun q e => (hoA1.lt q e).1); have hoC1 : wB1.ownsRow W0.heap.size TPut 3 vB1 (l ++ [x, y]).length (qcells (l ++ [x, y])) := (by simpa [qcells_append, Nat.add_assoc] using hoB1)) | (refine step_append_puts (by rfl) (.const (.slice none 0 0)) (.tmp 21) (by rfl) W0.heap.size (.slice none 0 0) 0 [] (by rfl) (World.ownsRow_nil _ _ _ _) va l (by rfl) (HPA1.out _ (by first | exact below_drew bS1 | exact below_drew (bS1.alloc bS1.size _))) (by omega) (by simp) ?_; intro vA1 wA1 hoA1 hgA1; have bA1 : Below W0.heap.size W0 wA1 := (by first | exact (below_drew bS1).grown hgA1 bS1.size (fun q e => none_own e) | exact (below_drew (bS1.alloc bS1.size _)).grown hgA1 (by first | omega | (simp <;> omega)) (fun q e => none_own e))) | fail))
  all_goals
    have HPA2 : Hid (∀ W, Below wC1.heap.size wC1 W → PutsA W va l) := fun W hW => HPA1.out W (bsC1.trans (hW.mono bsC1.size))
    have HC2 : Hid (∀ W, Below wC1.heap.size wC1 W → W.cell? ⟨w.heap.size, 0, none⟩ = some (.int .i64 x.1) ∧ W.cell? ⟨w.heap.size, 1, none⟩ = some (.int .i64 x.2.1) ∧ W.cell? ⟨w.heap.size, 2, none⟩ = some (.int .i64 x.2.2) ∧ W.cell? ⟨w.heap.size + 1, 0, none⟩ = some (.int .i64 y.1) ∧ W.cell? ⟨w.heap.size + 1, 1, none⟩ = some (.int .i64 y.2.1) ∧ W.cell? ⟨w.heap.size + 1, 2, none⟩ = some (.int .i64 y.2.2)) := fun W hW => HC1.out W (bsC1.trans (hW.mono bsC1.size))
    have HB1 : Hid (Below w.heap.size w wC1) := HB0.out.trans (bsC1.mono HB0.out.size)
    have HM1 : Hid (MO wC1 wB1.heap.size bC1 vmC1 size (runsL size first (l ++ [x, y]))) := mC1
    have HL1 : Hid (w.heap.size ≤ wB1.heap.size) := Nat.le_trans HB0.out.size bB1.size
    obtain ⟨x0, x1, x2, y0, y1, y2⟩ := HC2.out wC1 (Below.refl _ _)
    clear mC1 hoA1 hgA1 hoB1 hgB1 hoC1 bA1 bB1 blC1 HPA1 HC1 bsC1 bS1 hw00
    go_wp2_with (first | (go_at_call 19; fail) | (go_at_call 25; fail))
    have bS2 : Below wC1.heap.size wC1 wC1 := Below.refl _ _
    go_region_held3 (fun w' => w'.cell? ⟨w.heap.size, 0, none⟩ = some (.int .i64 x.1) ∧ w'.cell? ⟨w.heap.size, 1, none⟩ = some (.int .i64 x.2.1) ∧ w'.cell? ⟨w.heap.size, 2, none⟩ = some (.int .i64 x.2.2) ∧ w'.cell? ⟨w.heap.size + 1, 0, none⟩ = some (.int .i64 y.1) ∧ w'.cell? ⟨w.heap.size + 1, 1, none⟩ = some (.int .i64 y.2.1) ∧ w'.cell? ⟨w.heap.size + 1, 2, none⟩ = some (.int .i64 y.2.2)) (first | go_keep | exact HC2.out _ bsC2 | exact HC2.out _ bB2 | exact HC2.out _ bA2 | exact HC2.out _ (bA2.alloc bA2.size _) | exact HC2.out _ (below_drew (bS2.alloc bS2.size _)) | exact HC2.out _ (bS2.alloc bS2.size _) | exact HC2.out _ (below_drew bS2)) ((first | (go_at_call 19; refine (laid_row size first hoC2 (by first | omega | (simp <;> omega)) h0 h1).mono ?_; rintro e wC2 ⟨bC2, vmC2, rfl, mC2, blC2⟩; have bsC2 : Below wC1.heap.size wC1 wC2 := bB2.trans (blC2.mono bB2.size)) | (refine step_append_puts (by rfl) (.tmp 31) (.tmp 34) (by rfl) wC1.heap.size vA2 _ _ (by rfl) (hoA2.alloc _) (.slice (some ⟨wA2.heap.size, 0, none⟩) 2 2) [y, x] (by rfl) (puts2 _ _ (heap_alloc_new wA2 _)) (by first | omega | (simp <;> omega)) (by have := bA2.size; first | omega | (simp <;> omega)) ?_; intro vB2 wB2 hoB2 hgB2; have bB2 : Below wC1.heap.size wC1 wB2 := (bA2.alloc bA2.size _).grown hgB2 (by have := bA2.size; first | omega | (simp <;> omega)) (fun q e => (hoA2.lt q e).1); have hoC2 : wB2.ownsRow wC1.heap.size TPut 3 vB2 (l ++ [y, x]).length (qcells (l ++ [y, x])) := (by simpa [qcells_append, Nat.add_assoc] using hoB2)) | (refine step_append_puts (by rfl) (.tmp 31) (.tmp 34) (by rfl) wC1.heap.size vA2 _ _ (by rfl) hoA2 (.slice (some ⟨wC1.heap.size, 0, none⟩) 2 2) [y, x] (by rfl) (puts2 _ _ ((hgA2.block _ (by simp) (by simp [Value.ownBlock])).trans (heap_alloc_new wC1 _))) (by first | omega | (simp <;> omega)) (by have := bA2.size; first | omega | (simp <;> omega)) ?_; intro vB2 wB2 hoB2 hgB2; have bB2 : Below wC1.heap.size wC1 wB2 := bA2.grown hgB2 bA2.size (fun q e => (hoA2.lt q e).1); have hoC2 : wB2.ownsRow wC1.heap.size TPut 3 vB2 (l ++ [y, x]).length (qcells (l ++ [y, x])) := (by simpa [qcells_append, Nat.add_assoc] using hoB2)) | (refine step_append_puts (by rfl) (.const (.slice none 0 0)) (.tmp 30) (by rfl) wC1.heap.size (.slice none 0 0) 0 [] (by rfl) (World.ownsRow_nil _ _ _ _) va l (by rfl) (HPA2.out _ (by first | exact below_drew bS2 | exact below_drew (bS2.alloc bS2.size _))) (by omega) (by simp) ?_; intro vA2 wA2 hoA2 hgA2; have bA2 : Below wC1.heap.size wC1 wA2 := (by first | exact (below_drew bS2).grown hgA2 bS2.size (fun q e => none_own e) | exact (below_drew (bS2.alloc bS2.size _)).grown hgA2 (by first | omega | (simp <;> omega)) (fun q e => none_own e))) | fail))
  all_goals
    have HTw : Hid (∀ W, Below wC2.heap.size wC2 W → Two w W wB1.heap.size bC1 vmC1 wC1.heap.size bC2 vmC2 size (runsL size first (l ++ [x, y])) (runsL size first (l ++ [y, x]))) := fun W hW => (Two.new HM1.out (mC2.low bB2.size) HB1.out bsC2 HL1.out).later hW
    have HAl : Hid (∀ W, Below w.heap.size w W → Calls Try.prog 18 #[] W fun e w' => e = .returned (.bool true) ∧ Below w.heap.size w w') := fun W hW => (alive_any W).mono fun e w' ⟨he, hb⟩ => ⟨he, hW.trans (hb.mono hW.size)⟩
    obtain ⟨x0, x1, x2, y0, y1, y2⟩ := HC2.out wC2 bsC2
    have hbw2 : Below w.heap.size w wC2 := (HTw.out _ (Below.refl _ _)).bel
    clear mC2 hoA2 hgA2 hoB2 hgB2 hoC2 bA2 bB2 blC2 HPA2 HC2 bsC2 bS2 HM1 HB1 HL1
    by_cases mx : may size x.1 x.2.1
    · have HM1 : Hid (∀ W, Calls Try.prog 26 #[.int .i64 size, .int .i64 x.1, .int .i64 x.2.1] W fun e w' => e = .returned (.bool true) ∧ w' = W) := fun W => may_yes size x.1 x.2.1 W mx
      by_cases my : may size y.1 y.2.1
      · have HM2 : Hid (∀ W, Calls Try.prog 26 #[.int .i64 size, .int .i64 y.1, .int .i64 y.2.1] W fun e w' => e = .returned (.bool true) ∧ w' = W) := fun W => may_yes size y.1 y.2.1 W my
        go_wp2_with (first | (go_at_call 26; refine (HM1.out _).mono ?_; rintro e w9 ⟨rfl, hw9⟩; rw [hw9]; clear hw9 HM1) | (go_at_call 26; refine (HM2.out _).mono ?_; rintro e w9 ⟨rfl, hw9⟩; rw [hw9]; clear hw9 HM2) | fail)
        go_quiet (fail)
        by_cases g1 : x.1 < y.1
        · by_cases g2 : y.2.1 < x.2.1
          · skip
            have a1 : decide (x.1 < y.1) = true := decide_eq_true g1
            have a2 : decide (y.2.1 < x.2.1) = true := decide_eq_true g2
            by_cases g3 : y.2.1 ≤ y.1
            · have a3 : decide (y.2.1 ≤ y.1) = true := decide_eq_true g3
              have HEQ : Hid (decide (runsL size first (l ++ [x, y]) = runsL size first (l ++ [y, x])) = true) := decide_eq_true (apart_eq h0 l mx my (fun i k1 k2 k3 k4 => absurd g3 (by omega)))
              have HEQ2 : Hid (decide (runsL size first (l ++ [y, x]) = runsL size first (l ++ [x, y])) = true) := decide_eq_true (apart_eq h0 l mx my (fun i k1 k2 k3 k4 => absurd g3 (by omega))).symm
              clear mx my g1 g2 g3
              go_wp2_with (first | (go_at_call 25; have hk := HEQ.out; clear hk; refine ((HTw.out _ (by first | exact Below.refl _ _ | exact below_drewW _ _ | exact below_drew' _)).same).mono ?_; rw [HEQ.out]; rintro e ws ⟨rfl, ts⟩; clear HEQ) | (go_at_call 25; refine (ts.swap.same).mono ?_; rw [HEQ2.out]; rintro e wt ⟨rfl, tt⟩; have hbt := tt.bel) | (go_at_call 18; refine (HAl.out _ (by first | assumption | exact (HTw.out _ (by first | exact Below.refl _ _ | exact below_drewW _ _ | exact below_drew' _)).bel)).mono ?_; rintro e wz ⟨rfl, hbz⟩) | fail)
              go_ret
              exact ⟨rfl, hbz⟩
            · have a3 : decide (y.2.1 ≤ y.1) = false := decide_eq_false g3
              by_cases g4 : x.2.2 = y.2.2
              · have a4 : (x.2.2 == y.2.2) = true := by simp [g4]
                have HEQ : Hid (decide (runsL size first (l ++ [x, y]) = runsL size first (l ++ [y, x])) = true) := decide_eq_true (apart_eq h0 l mx my (fun _ _ _ _ _ => g4))
                have HEQ2 : Hid (decide (runsL size first (l ++ [y, x]) = runsL size first (l ++ [x, y])) = true) := decide_eq_true (apart_eq h0 l mx my (fun _ _ _ _ _ => g4)).symm
                clear mx my g1 g2 g3 g4
                go_wp2_with (first | (go_at_call 25; have hk := HEQ.out; clear hk; refine ((HTw.out _ (by first | exact Below.refl _ _ | exact below_drewW _ _ | exact below_drew' _)).same).mono ?_; rw [HEQ.out]; rintro e ws ⟨rfl, ts⟩; clear HEQ) | (go_at_call 25; refine (ts.swap.same).mono ?_; rw [HEQ2.out]; rintro e wt ⟨rfl, tt⟩; have hbt := tt.bel) | (go_at_call 18; refine (HAl.out _ (by first | assumption | exact (HTw.out _ (by first | exact Below.refl _ _ | exact below_drewW _ _ | exact below_drew' _)).bel)).mono ?_; rintro e wz ⟨rfl, hbz⟩) | fail)
                go_ret
                exact ⟨rfl, hbz⟩
              · have a4 : (x.2.2 == y.2.2) = false := by simp [g4]
                have HV1 : Hid (Has (runsL size first (l ++ [x, y])) y.1 y.2.2) := apart_at h0 l my (by omega) (by omega)
                have HV2 : Hid (Has (runsL size first (l ++ [y, x])) y.1 x.2.2) := apart_at h0 l mx (by omega) (by omega)
                have HNE : Hid (decide (runsL size first (l ++ [x, y]) = runsL size first (l ++ [y, x])) = false) := decide_eq_false (fun e => g4 (by
                  have h2 := HV2.out
                  rw [← e] at h2
                  exact (runsL_spec size first h0 (l ++ [x, y])).1.one h2 HV1.out))
                have b5 : (y.2.2 == y.2.2) = true := by simp
                have b6 : (x.2.2 == x.2.2) = true := by simp
                have HKC : Hid (∀ W, Below wC2.heap.size wC2 W → W.cell? ⟨w.heap.size, 2, none⟩ = some (.int .i64 x.2.2) ∧ W.cell? ⟨w.heap.size + 1, 2, none⟩ = some (.int .i64 y.2.2)) := fun W hW => ⟨cell_later hW x2, cell_later hW y2⟩
                clear mx my g1 g2 g3 g4
                go_wp2_with (first | (go_at_call 23; refine (at_val (HTw.out _ (by first | exact Below.refl _ _ | exact below_drewW _ _ | exact below_drew' _)).a _ _ HV1.out).mono ?_; rintro e wp ⟨rfl, bp⟩; clear HV1; have bp2 : Below wC2.heap.size wC2 wp := (by first | exact bp | exact (below_drewW _ _).trans (bp.mono (Nat.le_refl _)) | exact (below_drew' _).trans (bp.mono (Nat.le_refl _)))) | (go_at_call 23; refine (at_val (HTw.out _ bp2).b _ _ HV2.out).mono ?_; rintro e wq ⟨rfl, bq⟩; clear HV2; have bq2 : Below wC2.heap.size wC2 wq := bp2.trans (bq.mono bp2.size); obtain ⟨cx2, cy2⟩ := HKC.out _ bq2) | (go_at_call 25; refine ((HTw.out _ bq2).same).mono ?_; rw [HNE.out]; rintro e wt ⟨rfl, tt⟩; have hbt := tt.bel) | (go_at_call 18; refine (HAl.out _ (by first | assumption | exact (HTw.out _ (by first | exact Below.refl _ _ | exact below_drewW _ _ | exact below_drew' _)).bel)).mono ?_; rintro e wz ⟨rfl, hbz⟩) | fail)
                go_ret
                exact ⟨rfl, hbz⟩
          · skip
            have a1 : decide (x.1 < y.1) = true := decide_eq_true g1
            have a2 : decide (y.2.1 < x.2.1) = false := decide_eq_false g2
            by_cases g3 : x.2.1 ≤ y.1
            · have a3 : decide (x.2.1 ≤ y.1) = true := decide_eq_true g3
              have HEQ : Hid (decide (runsL size first (l ++ [x, y]) = runsL size first (l ++ [y, x])) = true) := decide_eq_true (apart_eq h0 l mx my (fun i k1 k2 k3 k4 => absurd g3 (by omega)))
              have HEQ2 : Hid (decide (runsL size first (l ++ [y, x]) = runsL size first (l ++ [x, y])) = true) := decide_eq_true (apart_eq h0 l mx my (fun i k1 k2 k3 k4 => absurd g3 (by omega))).symm
              clear mx my g1 g2 g3
              go_wp2_with (first | (go_at_call 25; have hk := HEQ.out; clear hk; refine ((HTw.out _ (by first | exact Below.refl _ _ | exact below_drewW _ _ | exact below_drew' _)).same).mono ?_; rw [HEQ.out]; rintro e ws ⟨rfl, ts⟩; clear HEQ) | (go_at_call 25; refine (ts.swap.same).mono ?_; rw [HEQ2.out]; rintro e wt ⟨rfl, tt⟩; have hbt := tt.bel) | (go_at_call 18; refine (HAl.out _ (by first | assumption | exact (HTw.out _ (by first | exact Below.refl _ _ | exact below_drewW _ _ | exact below_drew' _)).bel)).mono ?_; rintro e wz ⟨rfl, hbz⟩) | fail)
              go_ret
              exact ⟨rfl, hbz⟩
            · have a3 : decide (x.2.1 ≤ y.1) = false := decide_eq_false g3
              by_cases g4 : x.2.2 = y.2.2
              · have a4 : (x.2.2 == y.2.2) = true := by simp [g4]
                have HEQ : Hid (decide (runsL size first (l ++ [x, y]) = runsL size first (l ++ [y, x])) = true) := decide_eq_true (apart_eq h0 l mx my (fun _ _ _ _ _ => g4))
                have HEQ2 : Hid (decide (runsL size first (l ++ [y, x]) = runsL size first (l ++ [x, y])) = true) := decide_eq_true (apart_eq h0 l mx my (fun _ _ _ _ _ => g4)).symm
                clear mx my g1 g2 g3 g4
                go_wp2_with (first | (go_at_call 25; have hk := HEQ.out; clear hk; refine ((HTw.out _ (by first | exact Below.refl _ _ | exact below_drewW _ _ | exact below_drew' _)).same).mono ?_; rw [HEQ.out]; rintro e ws ⟨rfl, ts⟩; clear HEQ) | (go_at_call 25; refine (ts.swap.same).mono ?_; rw [HEQ2.out]; rintro e wt ⟨rfl, tt⟩; have hbt := tt.bel) | (go_at_call 18; refine (HAl.out _ (by first | assumption | exact (HTw.out _ (by first | exact Below.refl _ _ | exact below_drewW _ _ | exact below_drew' _)).bel)).mono ?_; rintro e wz ⟨rfl, hbz⟩) | fail)
                go_ret
                exact ⟨rfl, hbz⟩
              · have a4 : (x.2.2 == y.2.2) = false := by simp [g4]
                have HV1 : Hid (Has (runsL size first (l ++ [x, y])) y.1 y.2.2) := apart_at h0 l my (by omega) (by omega)
                have HV2 : Hid (Has (runsL size first (l ++ [y, x])) y.1 x.2.2) := apart_at h0 l mx (by omega) (by omega)
                have HNE : Hid (decide (runsL size first (l ++ [x, y]) = runsL size first (l ++ [y, x])) = false) := decide_eq_false (fun e => g4 (by
                  have h2 := HV2.out
                  rw [← e] at h2
                  exact (runsL_spec size first h0 (l ++ [x, y])).1.one h2 HV1.out))
                have b5 : (y.2.2 == y.2.2) = true := by simp
                have b6 : (x.2.2 == x.2.2) = true := by simp
                have HKC : Hid (∀ W, Below wC2.heap.size wC2 W → W.cell? ⟨w.heap.size, 2, none⟩ = some (.int .i64 x.2.2) ∧ W.cell? ⟨w.heap.size + 1, 2, none⟩ = some (.int .i64 y.2.2)) := fun W hW => ⟨cell_later hW x2, cell_later hW y2⟩
                clear mx my g1 g2 g3 g4
                go_wp2_with (first | (go_at_call 23; refine (at_val (HTw.out _ (by first | exact Below.refl _ _ | exact below_drewW _ _ | exact below_drew' _)).a _ _ HV1.out).mono ?_; rintro e wp ⟨rfl, bp⟩; clear HV1; have bp2 : Below wC2.heap.size wC2 wp := (by first | exact bp | exact (below_drewW _ _).trans (bp.mono (Nat.le_refl _)) | exact (below_drew' _).trans (bp.mono (Nat.le_refl _)))) | (go_at_call 23; refine (at_val (HTw.out _ bp2).b _ _ HV2.out).mono ?_; rintro e wq ⟨rfl, bq⟩; clear HV2; have bq2 : Below wC2.heap.size wC2 wq := bp2.trans (bq.mono bp2.size); obtain ⟨cx2, cy2⟩ := HKC.out _ bq2) | (go_at_call 25; refine ((HTw.out _ bq2).same).mono ?_; rw [HNE.out]; rintro e wt ⟨rfl, tt⟩; have hbt := tt.bel) | (go_at_call 18; refine (HAl.out _ (by first | assumption | exact (HTw.out _ (by first | exact Below.refl _ _ | exact below_drewW _ _ | exact below_drew' _)).bel)).mono ?_; rintro e wz ⟨rfl, hbz⟩) | fail)
                go_ret
                exact ⟨rfl, hbz⟩
        · by_cases g2 : y.2.1 < x.2.1
          · skip
            have a1 : decide (x.1 < y.1) = false := decide_eq_false g1
            have a2 : decide (y.2.1 < x.2.1) = true := decide_eq_true g2
            by_cases g3 : y.2.1 ≤ x.1
            · have a3 : decide (y.2.1 ≤ x.1) = true := decide_eq_true g3
              have HEQ : Hid (decide (runsL size first (l ++ [x, y]) = runsL size first (l ++ [y, x])) = true) := decide_eq_true (apart_eq h0 l mx my (fun i k1 k2 k3 k4 => absurd g3 (by omega)))
              have HEQ2 : Hid (decide (runsL size first (l ++ [y, x]) = runsL size first (l ++ [x, y])) = true) := decide_eq_true (apart_eq h0 l mx my (fun i k1 k2 k3 k4 => absurd g3 (by omega))).symm
              clear mx my g1 g2 g3
              go_wp2_with (first | (go_at_call 25; have hk := HEQ.out; clear hk; refine ((HTw.out _ (by first | exact Below.refl _ _ | exact below_drewW _ _ | exact below_drew' _)).same).mono ?_; rw [HEQ.out]; rintro e ws ⟨rfl, ts⟩; clear HEQ) | (go_at_call 25; refine (ts.swap.same).mono ?_; rw [HEQ2.out]; rintro e wt ⟨rfl, tt⟩; have hbt := tt.bel) | (go_at_call 18; refine (HAl.out _ (by first | assumption | exact (HTw.out _ (by first | exact Below.refl _ _ | exact below_drewW _ _ | exact below_drew' _)).bel)).mono ?_; rintro e wz ⟨rfl, hbz⟩) | fail)
              go_ret
              exact ⟨rfl, hbz⟩
            · have a3 : decide (y.2.1 ≤ x.1) = false := decide_eq_false g3
              by_cases g4 : x.2.2 = y.2.2
              · have a4 : (x.2.2 == y.2.2) = true := by simp [g4]
                have HEQ : Hid (decide (runsL size first (l ++ [x, y]) = runsL size first (l ++ [y, x])) = true) := decide_eq_true (apart_eq h0 l mx my (fun _ _ _ _ _ => g4))
                have HEQ2 : Hid (decide (runsL size first (l ++ [y, x]) = runsL size first (l ++ [x, y])) = true) := decide_eq_true (apart_eq h0 l mx my (fun _ _ _ _ _ => g4)).symm
                clear mx my g1 g2 g3 g4
                go_wp2_with (first | (go_at_call 25; have hk := HEQ.out; clear hk; refine ((HTw.out _ (by first | exact Below.refl _ _ | exact below_drewW _ _ | exact below_drew' _)).same).mono ?_; rw [HEQ.out]; rintro e ws ⟨rfl, ts⟩; clear HEQ) | (go_at_call 25; refine (ts.swap.same).mono ?_; rw [HEQ2.out]; rintro e wt ⟨rfl, tt⟩; have hbt := tt.bel) | (go_at_call 18; refine (HAl.out _ (by first | assumption | exact (HTw.out _ (by first | exact Below.refl _ _ | exact below_drewW _ _ | exact below_drew' _)).bel)).mono ?_; rintro e wz ⟨rfl, hbz⟩) | fail)
                go_ret
                exact ⟨rfl, hbz⟩
              · have a4 : (x.2.2 == y.2.2) = false := by simp [g4]
                have HV1 : Hid (Has (runsL size first (l ++ [x, y])) x.1 y.2.2) := apart_at h0 l my (by omega) (by omega)
                have HV2 : Hid (Has (runsL size first (l ++ [y, x])) x.1 x.2.2) := apart_at h0 l mx (by omega) (by omega)
                have HNE : Hid (decide (runsL size first (l ++ [x, y]) = runsL size first (l ++ [y, x])) = false) := decide_eq_false (fun e => g4 (by
                  have h2 := HV2.out
                  rw [← e] at h2
                  exact (runsL_spec size first h0 (l ++ [x, y])).1.one h2 HV1.out))
                have b5 : (y.2.2 == y.2.2) = true := by simp
                have b6 : (x.2.2 == x.2.2) = true := by simp
                have HKC : Hid (∀ W, Below wC2.heap.size wC2 W → W.cell? ⟨w.heap.size, 2, none⟩ = some (.int .i64 x.2.2) ∧ W.cell? ⟨w.heap.size + 1, 2, none⟩ = some (.int .i64 y.2.2)) := fun W hW => ⟨cell_later hW x2, cell_later hW y2⟩
                clear mx my g1 g2 g3 g4
                go_wp2_with (first | (go_at_call 23; refine (at_val (HTw.out _ (by first | exact Below.refl _ _ | exact below_drewW _ _ | exact below_drew' _)).a _ _ HV1.out).mono ?_; rintro e wp ⟨rfl, bp⟩; clear HV1; have bp2 : Below wC2.heap.size wC2 wp := (by first | exact bp | exact (below_drewW _ _).trans (bp.mono (Nat.le_refl _)) | exact (below_drew' _).trans (bp.mono (Nat.le_refl _)))) | (go_at_call 23; refine (at_val (HTw.out _ bp2).b _ _ HV2.out).mono ?_; rintro e wq ⟨rfl, bq⟩; clear HV2; have bq2 : Below wC2.heap.size wC2 wq := bp2.trans (bq.mono bp2.size); obtain ⟨cx2, cy2⟩ := HKC.out _ bq2) | (go_at_call 25; refine ((HTw.out _ bq2).same).mono ?_; rw [HNE.out]; rintro e wt ⟨rfl, tt⟩; have hbt := tt.bel) | (go_at_call 18; refine (HAl.out _ (by first | assumption | exact (HTw.out _ (by first | exact Below.refl _ _ | exact below_drewW _ _ | exact below_drew' _)).bel)).mono ?_; rintro e wz ⟨rfl, hbz⟩) | fail)
                go_ret
                exact ⟨rfl, hbz⟩
          · skip
            have a1 : decide (x.1 < y.1) = false := decide_eq_false g1
            have a2 : decide (y.2.1 < x.2.1) = false := decide_eq_false g2
            by_cases g3 : x.2.1 ≤ x.1
            · have a3 : decide (x.2.1 ≤ x.1) = true := decide_eq_true g3
              have HEQ : Hid (decide (runsL size first (l ++ [x, y]) = runsL size first (l ++ [y, x])) = true) := decide_eq_true (apart_eq h0 l mx my (fun i k1 k2 k3 k4 => absurd g3 (by omega)))
              have HEQ2 : Hid (decide (runsL size first (l ++ [y, x]) = runsL size first (l ++ [x, y])) = true) := decide_eq_true (apart_eq h0 l mx my (fun i k1 k2 k3 k4 => absurd g3 (by omega))).symm
              clear mx my g1 g2 g3
              go_wp2_with (first | (go_at_call 25; have hk := HEQ.out; clear hk; refine ((HTw.out _ (by first | exact Below.refl _ _ | exact below_drewW _ _ | exact below_drew' _)).same).mono ?_; rw [HEQ.out]; rintro e ws ⟨rfl, ts⟩; clear HEQ) | (go_at_call 25; refine (ts.swap.same).mono ?_; rw [HEQ2.out]; rintro e wt ⟨rfl, tt⟩; have hbt := tt.bel) | (go_at_call 18; refine (HAl.out _ (by first | assumption | exact (HTw.out _ (by first | exact Below.refl _ _ | exact below_drewW _ _ | exact below_drew' _)).bel)).mono ?_; rintro e wz ⟨rfl, hbz⟩) | fail)
              go_ret
              exact ⟨rfl, hbz⟩
            · have a3 : decide (x.2.1 ≤ x.1) = false := decide_eq_false g3
              by_cases g4 : x.2.2 = y.2.2
              · have a4 : (x.2.2 == y.2.2) = true := by simp [g4]
                have HEQ : Hid (decide (runsL size first (l ++ [x, y]) = runsL size first (l ++ [y, x])) = true) := decide_eq_true (apart_eq h0 l mx my (fun _ _ _ _ _ => g4))
                have HEQ2 : Hid (decide (runsL size first (l ++ [y, x]) = runsL size first (l ++ [x, y])) = true) := decide_eq_true (apart_eq h0 l mx my (fun _ _ _ _ _ => g4)).symm
                clear mx my g1 g2 g3 g4
                go_wp2_with (first | (go_at_call 25; have hk := HEQ.out; clear hk; refine ((HTw.out _ (by first | exact Below.refl _ _ | exact below_drewW _ _ | exact below_drew' _)).same).mono ?_; rw [HEQ.out]; rintro e ws ⟨rfl, ts⟩; clear HEQ) | (go_at_call 25; refine (ts.swap.same).mono ?_; rw [HEQ2.out]; rintro e wt ⟨rfl, tt⟩; have hbt := tt.bel) | (go_at_call 18; refine (HAl.out _ (by first | assumption | exact (HTw.out _ (by first | exact Below.refl _ _ | exact below_drewW _ _ | exact below_drew' _)).bel)).mono ?_; rintro e wz ⟨rfl, hbz⟩) | fail)
                go_ret
                exact ⟨rfl, hbz⟩
              · have a4 : (x.2.2 == y.2.2) = false := by simp [g4]
                have HV1 : Hid (Has (runsL size first (l ++ [x, y])) x.1 y.2.2) := apart_at h0 l my (by omega) (by omega)
                have HV2 : Hid (Has (runsL size first (l ++ [y, x])) x.1 x.2.2) := apart_at h0 l mx (by omega) (by omega)
                have HNE : Hid (decide (runsL size first (l ++ [x, y]) = runsL size first (l ++ [y, x])) = false) := decide_eq_false (fun e => g4 (by
                  have h2 := HV2.out
                  rw [← e] at h2
                  exact (runsL_spec size first h0 (l ++ [x, y])).1.one h2 HV1.out))
                have b5 : (y.2.2 == y.2.2) = true := by simp
                have b6 : (x.2.2 == x.2.2) = true := by simp
                have HKC : Hid (∀ W, Below wC2.heap.size wC2 W → W.cell? ⟨w.heap.size, 2, none⟩ = some (.int .i64 x.2.2) ∧ W.cell? ⟨w.heap.size + 1, 2, none⟩ = some (.int .i64 y.2.2)) := fun W hW => ⟨cell_later hW x2, cell_later hW y2⟩
                clear mx my g1 g2 g3 g4
                go_wp2_with (first | (go_at_call 23; refine (at_val (HTw.out _ (by first | exact Below.refl _ _ | exact below_drewW _ _ | exact below_drew' _)).a _ _ HV1.out).mono ?_; rintro e wp ⟨rfl, bp⟩; clear HV1; have bp2 : Below wC2.heap.size wC2 wp := (by first | exact bp | exact (below_drewW _ _).trans (bp.mono (Nat.le_refl _)) | exact (below_drew' _).trans (bp.mono (Nat.le_refl _)))) | (go_at_call 23; refine (at_val (HTw.out _ bp2).b _ _ HV2.out).mono ?_; rintro e wq ⟨rfl, bq⟩; clear HV2; have bq2 : Below wC2.heap.size wC2 wq := bp2.trans (bq.mono bp2.size); obtain ⟨cx2, cy2⟩ := HKC.out _ bq2) | (go_at_call 25; refine ((HTw.out _ bq2).same).mono ?_; rw [HNE.out]; rintro e wt ⟨rfl, tt⟩; have hbt := tt.bel) | (go_at_call 18; refine (HAl.out _ (by first | assumption | exact (HTw.out _ (by first | exact Below.refl _ _ | exact below_drewW _ _ | exact below_drew' _)).bel)).mono ?_; rintro e wz ⟨rfl, hbz⟩) | fail)
                go_ret
                exact ⟨rfl, hbz⟩
      · have HM2 : Hid (∀ W, Calls Try.prog 26 #[.int .i64 size, .int .i64 y.1, .int .i64 y.2.1] W fun e w' => e = .returned (.bool false) ∧ w' = W) := fun W => may_no size y.1 y.2.1 W my
        clear mx my
        go_wp2_with (first | (go_at_call 26; refine (HM1.out _).mono ?_; rintro e w9 ⟨rfl, hw9⟩; rw [hw9]; clear hw9 HM1) | (go_at_call 26; refine (HM2.out _).mono ?_; rintro e w9 ⟨rfl, hw9⟩; rw [hw9]; clear hw9 HM2) | (go_at_call 18; refine (HAl.out _ (by first | assumption | exact (HTw.out _ (by first | exact Below.refl _ _ | exact below_drewW _ _ | exact below_drew' _)).bel)).mono ?_; rintro e wz ⟨rfl, hbz⟩) | fail)
        go_ret
        exact ⟨rfl, hbz⟩
    · have HM1 : Hid (∀ W, Calls Try.prog 26 #[.int .i64 size, .int .i64 x.1, .int .i64 x.2.1] W fun e w' => e = .returned (.bool false) ∧ w' = W) := fun W => may_no size x.1 x.2.1 W mx
      clear mx
      go_wp2_with (first | (go_at_call 26; refine (HM1.out _).mono ?_; rintro e w9 ⟨rfl, hw9⟩; rw [hw9]; clear hw9 HM1) | (go_at_call 18; refine (HAl.out _ (by first | assumption | exact (HTw.out _ (by first | exact Below.refl _ _ | exact below_drewW _ _ | exact below_drew' _)).bel)).mono ?_; rintro e wz ⟨rfl, hbz⟩) | fail)
      go_ret
      exact ⟨rfl, hbz⟩
end Go.Proofs.Ytijafckdbhklmaa.I
