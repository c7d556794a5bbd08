import Derived.Test.YtpchllepboolhaaV18
import Derived.Test.YtpchllepboolhaazRH
import Derived.Deep.RegionLaw
namespace Go.Proofs.Ytpchllepboolhaa.D
open Go.RowKit Go.Proofs.Ytpchllepboolhaa.I
attribute [local go_sem] Oper.semAt_some
attribute [local go_sem ↓] Go.wp_at_zero Go.wp_at_succ
set_option linter.unusedVariables false
set_option linter.unusedSimpArgs false
set_option maxRecDepth 100000

theorem touch_no {w : World} {bd : Nat} {md : Bool} {v : Value} {A : List It} (h : RD w bd md v A) (k : Int) (hn : ∀ x ∈ A, x.1 ≠ k) :
    Calls Try.prog 18 #[.pointer (some ⟨bd, 0, none⟩), .int .i64 k] w fun r w' => r = .returned (.bool false) ∧ w' = w := by
  have hat := at_no h k hn
  clear h
  go_enter Try.func18, Try.ntmps18
  go_wp2_with (go_at_call 58; refine hat.mono ?_; rintro e w9 ⟨rfl, hw9⟩; rw [hw9]; clear hw9)
  go_ret
  exact ⟨rfl, rfl⟩
theorem pins_no {w : World} {bd : Nat} {md : Bool} {v : Value} {A : List It} (h : RD w bd md v A) (k : Int) (hn : ∀ x ∈ A, x.1 ≠ k) :
    Calls Try.prog 48 #[.pointer (some ⟨bd, 0, none⟩), .int .i64 k] w fun r w' => r = .returned (.int .i64 0) ∧ w' = w := by
  have hat := at_no h k hn
  clear h
  go_enter Try.func48, Try.ntmps48
  go_wp2_with (go_at_call 58; refine hat.mono ?_; rintro e w9 ⟨rfl, hw9⟩; rw [hw9]; clear hw9)
  go_ret
  exact ⟨rfl, rfl⟩
theorem pins_any {w : World} {bd : Nat} {md : Bool} {v : Value} {A1 A2 : List It} {k : Int} {p : Nat} (h : RD w bd md v (A1 ++ (k, p) :: A2)) (hn : ∀ x ∈ A1, x.1 ≠ k) :
    Calls Try.prog 48 #[.pointer (some ⟨bd, 0, none⟩), .int .i64 k] w fun r w' => r = .returned (.int .i64 p) ∧ w' = w := by
  have hat := at_in h hn
  have hc1 := h.c1
  obtain ⟨ao, cap, rfl, ht⟩ := trow_of h.row
  obtain ⟨b, rfl, c0, c1, _⟩ := ht.c _ _ mid_get
  have hq : (A1.length : Int) < ((A1 ++ (k, p) :: A2).length : Int) := by simp; omega
  have hq0 : (0 : Int) ≤ (A1.length : Int) := by omega
  have c1' : w.cell? ⟨b, A1.length * 2 + 1, none⟩ = some (.int .i64 p) := c1
  generalize (A1 ++ (k, p) :: A2).length = m at *
  generalize A1.length = q at *
  clear h hn ht c1
  go_enter Try.func48, Try.ntmps48
  go_wp2_with (go_at_call 58; refine hat.mono ?_; rintro e w9 ⟨rfl, hw9⟩; rw [hw9]; clear hw9)
  go_ret
  exact ⟨rfl, rfl⟩
theorem has_no {w : World} {bd : Nat} {md : Bool} {v : Value} {A : List It} (h : RD w bd md v A) (k : Int) (hn : ∀ x ∈ A, x.1 ≠ k) :
    Calls Try.prog 26 #[.pointer (some ⟨bd, 0, none⟩), .int .i64 k] w fun r w' => r = .returned (.bool false) ∧ w' = w := by
  have hat := at_no h k hn
  clear h
  go_enter Try.func26, Try.ntmps26
  go_wp2_with (go_at_call 58; refine hat.mono ?_; rintro e w9 ⟨rfl, hw9⟩; rw [hw9]; clear hw9)
  go_ret
  exact ⟨rfl, rfl⟩
theorem has_any {w : World} {bd : Nat} {md : Bool} {v : Value} {A1 A2 : List It} {k : Int} {p : Nat} (h : RD w bd md v (A1 ++ (k, p) :: A2)) (hn : ∀ x ∈ A1, x.1 ≠ k) :
    Calls Try.prog 26 #[.pointer (some ⟨bd, 0, none⟩), .int .i64 k] w fun r w' => r = .returned (.bool true) ∧ w' = w := by
  have hat := at_in h hn
  have hq0 : (0 : Int) ≤ (A1.length : Int) := by omega
  have hd : decide ((0 : Int) ≤ (A1.length : Int)) = true := decide_eq_true hq0
  generalize A1.length = q at *
  clear h hn
  go_enter Try.func26, Try.ntmps26
  go_wp2_with (go_at_call 58; refine hat.mono ?_; rintro e w9 ⟨rfl, hw9⟩; rw [hw9]; clear hw9)
  go_ret
  refine ⟨?_, rfl⟩
  simp [hq0]

set_option maxHeartbeats 4000000 in
theorem touch_any {w : World} {bd : Nat} {md : Bool} {v : Value} {A1 A2 : List It} {k : Int} {p : Nat} (h : RD w bd md v (A1 ++ (k, p) :: A2)) (hn : ∀ x ∈ A1, x.1 ≠ k) :
    Calls Try.prog 18 #[.pointer (some ⟨bd, 0, none⟩), .int .i64 k] w fun r w' => r = .returned (.bool true) ∧ ∃ v', DAct w w' bd md v v' (A1 ++ A2 ++ [(k, p)]) := by
  obtain ⟨i0, hi0, hz0, hz1, hz2⟩ := info_parts infoIt
  have hat := at_in h hn
  have hc1 := h.c1
  obtain ⟨ao, cap, hv, ht⟩ := trow_of h.row
  subst hv
  obtain ⟨b, rfl, c0, c1, _⟩ := ht.c _ _ mid_get
  have hq : (A1.length : Int) < ((A1 ++ (k, p) :: A2).length : Int) := by simp; omega
  have hq0 : (0 : Int) ≤ (A1.length : Int) := by omega
  have c0' : w.cell? ⟨b, A1.length * 2, none⟩ = some (.int .i64 k) := c0
  have c1' : w.cell? ⟨b, A1.length * 2 + 1, none⟩ = some (.int .i64 p) := c1
  clear c0 c1
  obtain ⟨W1, hW1⟩ : ∃ W1, W1 = w.alloc (.cells #[.int .i64 k, .int .i64 p] TIt) := ⟨_, rfl⟩
  have hB1 : Below w.heap.size w W1 := by rw [hW1]; exact (Below.refl _ w).alloc (Nat.le_refl _) _
  have hs1 : W1.heap.size = w.heap.size + 1 := by rw [hW1]; exact World.size_alloc _ _
  have hbx : W1.heap[w.heap.size]? = some (.cells #[.int .i64 k, .int .i64 p] TIt (0, 0)) := by rw [hW1]; exact heap_alloc_new w _
  have x0 : W1.cell? ⟨w.heap.size, 0, none⟩ = some (.int .i64 k) := (cell_of hbx).trans rfl
  have x1 : W1.cell? ⟨w.heap.size, 1, none⟩ = some (.int .i64 p) := (cell_of hbx).trans rfl
  have q1 := cell_later hB1 hc1
  have HBa : Hid (Below W1.heap.size W1 (W1.alloc (.cells #[.int .i64 k, .int .i64 p] TIt))) := (Below.refl _ W1).alloc (Nat.le_refl _) _
  have q2 := cell_later HBa.out q1
  obtain ⟨m2, hm2⟩ : ∃ m2, m2 = (A1 ++ A2).length := ⟨_, rfl⟩
  have HM2 : Hid (m2 = (A1 ++ A2).length) := hm2
  have HWo : Hid (∀ W, Below W1.heap.size W1 W → Calls Try.prog 60 #[.slice (some ⟨b, 0, none⟩) (A1 ++ (k, p) :: A2).length cap, .int .i64 A1.length] W fun r w' => ∃ a2 c2, r = .returned (.slice a2 m2 c2) ∧ w'.ownsRow w.heap.size TIt 2 (.slice a2 m2 c2) m2 (icells (A1 ++ A2)) ∧ Below W1.heap.size W1 w' ∧ ∀ i, W1.heap.size ≤ i → i < W.heap.size → w'.heap[i]? = W.heap[i]?) := fun W hW => by
    have h2 := (h.later (hB1.trans (hW.mono hB1.size)))
    obtain ⟨ao', cap', hv', ht'⟩ := trow_of h2.row
    simp only [Value.slice.injEq] at hv'
    obtain ⟨rfl, _, rfl⟩ := hv'
    refine (without_any _ cap A1.length _ _ W rfl (by simp) h.len ht').mono ?_
    rintro r w' ⟨v, rfl, ho, hb⟩
    rw [cut_at] at ho
    obtain ⟨a2, c2, rfl, _⟩ := trow_of ho
    rw [← HM2.out] at ho
    refine ⟨a2, c2, by rw [HM2.out], ?_⟩
    exact ⟨ownsRow_base ho (by have := hW.size; omega), hW.trans (hb.mono hW.size), fun i _ hi2 => hb.block i hi2⟩
  have HFin : Hid (∀ (w3 : World) (v' : Value), w3.ownsRow w.heap.size TIt 2 v' (A1 ++ A2 ++ [(k, p)]).length (icells (A1 ++ A2 ++ [(k, p)])) → Below w.heap.size w w3 → w3.cell? ⟨bd, 1, none⟩ = some (.slice (some ⟨b, 0, none⟩) (A1 ++ (k, p) :: A2).length cap) ∧ w3.frozen? ⟨bd, 1, none⟩ = false ∧ DAct w (w3.setCell ⟨bd, 1, none⟩ v') bd md (.slice (some ⟨b, 0, none⟩) (A1 ++ (k, p) :: A2).length cap) v' (A1 ++ A2 ++ [(k, p)])) := fun w3 v' h1 h2 => rd_new h h1 h2 (fun x hx => h.pm x (by
      simp only [List.mem_append, List.mem_cons, List.not_mem_nil, or_false] at hx ⊢
      rcases hx with (hx | hx) | hx
      · exact .inl hx
      · exact .inr (.inr hx)
      · exact .inr (.inl hx))) (by have := h.len; simp at this ⊢; omega)
  have HB1 : Hid (Below w.heap.size w W1) := hB1
  have HN1 : Hid ((W1.alloc (.cells #[.int .i64 k, .int .i64 p] TIt)).heap[w.heap.size + 1]? = some (.cells #[.int .i64 k, .int .i64 p] TIt (0, 0))) := by rw [← hs1]; exact heap_alloc_new W1 _
  have HX : Hid (W1.heap[w.heap.size]? = some (.cells #[.int .i64 k, .int .i64 p] TIt (0, 0))) := hbx
  have hl2 : m2 + 1 ≤ 8796093022208 := by have := h.len; rw [hm2]; simp at this ⊢; omega
  have HL3 : Hid ((A1 ++ A2 ++ [(k, p)]).length = m2 + 1 ∧ icells (A1 ++ A2 ++ [(k, p)]) = icells (A1 ++ A2) ++ [.int .i64 k, .int .i64 p]) := ⟨by rw [hm2]; simp; omega, by rw [icells_append]; simp [icells, icell]⟩
  generalize (A1 ++ (k, p) :: A2).length = m at *
  generalize A1.length = q at *
  clear h hn ht hB1 hbx hm2
  go_enter Try.func18, Try.ntmps18
  go_wp2_with (go_at_call 58; refine hat.mono ?_; rintro e w9 ⟨rfl, hw9⟩; rw [hw9]; clear hw9)
  rw [← hW1]
  clear hW1 hat
  go_region_law (first | (refine step_append_lies _ (by rfl) _ _ TIts (by rfl) w.heap.size TIt i0 _ 2 16 Try.underlying26 hi0 hz0 hz1 hz2 rfl (by decide) (.slice a2 m2 c2) m2 (icells (A1 ++ A2)) (by rfl) (ho2.alloc _) ⟨w2.heap.size, 0, none⟩ 1 1 [.int .i64 k, .int .i64 p] (by rfl) rfl (World.news_of_block (heap_alloc_new w2 _)) (by simp [Value.oneCell']) (by decide) (by unfold maxLen; omega) (by omega) (by show w.heap.size ≤ (w2.alloc _).heap.size; rw [World.size_alloc]; have := (HB1.out.trans (hb2.mono HB1.out.size)).size; omega) _ rfl ?_; intro g' cap' w3 hown' hgrow hat' hlt'; have HB3 : Below w.heap.size w w3 := ((HB1.out.trans (hb2.mono HB1.out.size)).alloc (HB1.out.trans (hb2.mono HB1.out.size)).size _).grown ⟨hgrow.os, hgrow.tape, hgrow.output, hgrow.size, hgrow.block⟩ (by rw [World.size_alloc]; have := (HB1.out.trans (hb2.mono HB1.out.size)).size; omega) (fun i e => (ho2.lt i e).1); have hown2 : w3.ownsRow w.heap.size TIt 2 (.slice (some ⟨g', 0, none⟩) (m2 + 1) cap') (A1 ++ A2 ++ [(k, p)]).length (icells (A1 ++ A2 ++ [(k, p)])) := (by rw [HL3.out.1, HL3.out.2]; exact hown'); have hs := HFin.out w3 _ hown2 HB3; have hcs := hs.1; have hfs := hs.2.1; have HA : Hid (DAct w (w3.setCell ⟨bd, 1, none⟩ (.slice (some ⟨g', 0, none⟩) (m2 + 1) cap')) bd md (.slice (some ⟨b, 0, none⟩) m cap) (.slice (some ⟨g', 0, none⟩) (m2 + 1) cap') (A1 ++ A2 ++ [(k, p)])) := hs.2.2; clear hs hown2 hown' hgrow hat' hlt' HB3) | (refine step_append_lies _ (by rfl) _ _ TIts (by rfl) w.heap.size TIt i0 _ 2 16 Try.underlying26 hi0 hz0 hz1 hz2 rfl (by decide) (.slice a2 m2 c2) m2 (icells (A1 ++ A2)) (by rfl) ho2 ⟨w.heap.size + 1, 0, none⟩ 1 1 [.int .i64 k, .int .i64 p] (by rfl) rfl (World.news_of_block ((hblk (w.heap.size + 1) (by omega) (by show w.heap.size + 1 < (W1.alloc _).heap.size; rw [World.size_alloc]; omega)).trans HN1.out)) (by simp [Value.oneCell']) (by decide) (by unfold maxLen; omega) (by omega) (HB1.out.trans (hb2.mono HB1.out.size)).size _ rfl ?_; intro g' cap' w3 hown' hgrow hat' hlt'; have HB3 : Below w.heap.size w w3 := (HB1.out.trans (hb2.mono HB1.out.size)).grown hgrow (HB1.out.trans (hb2.mono HB1.out.size)).size (fun i e => (ho2.lt i e).1); have hown2 : w3.ownsRow w.heap.size TIt 2 (.slice (some ⟨g', 0, none⟩) (m2 + 1) cap') (A1 ++ A2 ++ [(k, p)]).length (icells (A1 ++ A2 ++ [(k, p)])) := (by rw [HL3.out.1, HL3.out.2]; exact hown'); have hs := HFin.out w3 _ hown2 HB3; have hcs := hs.1; have hfs := hs.2.1; have HA : Hid (DAct w (w3.setCell ⟨bd, 1, none⟩ (.slice (some ⟨g', 0, none⟩) (m2 + 1) cap')) bd md (.slice (some ⟨b, 0, none⟩) m cap) (.slice (some ⟨g', 0, none⟩) (m2 + 1) cap') (A1 ++ A2 ++ [(k, p)])) := hs.2.2; clear hs hown2 hown' hgrow hat' hlt' HB3) | (go_simp; go_at_call 60; refine (HWo.out _ (by first | exact ⟨rfl, rfl, rfl, Nat.le_refl _, fun _ _ => rfl⟩ | exact ⟨HBa.out.os, HBa.out.tape, HBa.out.output, HBa.out.size, HBa.out.block⟩)).mono ?_; rintro e w2 ⟨a2, c2, rfl, ho2, hb2, hblk⟩; have x20 := cell_later hb2 x0; have x21 := cell_later hb2 x1; dsimp only) | fail)
  all_goals go_wp2
  all_goals go_ret
  all_goals exact ⟨rfl, _, HA.out⟩
end Go.Proofs.Ytpchllepboolhaa.D
