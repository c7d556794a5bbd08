import Derived.Test.YtpchllepboolhabDS
namespace Go.Proofs.Ytpchllepboolhab.D
open Go.RowKit Go.Proofs.Ytpchllepboolhab.I
attribute [local go_sem] Oper.semAt_some
set_option linter.unusedVariables false
set_option linter.unusedSimpArgs false
set_option maxRecDepth 100000

/-- two pairs of orders that share nothing -/
def Pr (w W : World) (bo bm g bd n bo' bm' g' bd' n' : Nat) : Prop := ∃ L v L' v', St W bo bm g L bd v ∧ St W bo' bm' g' L' bd' v' ∧ L.length ≤ n ∧ L'.length ≤ n' ∧ Below w.heap.size w W ∧ (∀ i ∈ fp bo bm g L ++ fpd bd v, w.heap.size ≤ i) ∧ (∀ i ∈ fp bo' bm' g' L' ++ fpd bd' v', w.heap.size ≤ i) ∧ ∀ i ∈ fp bo bm g L ++ fpd bd v, i ∉ fp bo' bm' g' L' ++ fpd bd' v'
theorem Pr.below {w W : World} {bo bm g bd n bo' bm' g' bd' n' : Nat} (h : Pr w W bo bm g bd n bo' bm' g' bd' n') : Below w.heap.size w W := by obtain ⟨_, _, _, _, _, _, _, _, h, _⟩ := h; exact h
theorem Pr.symm {w W : World} {bo bm g bd n bo' bm' g' bd' n' : Nat} (h : Pr w W bo bm g bd n bo' bm' g' bd' n') : Pr w W bo' bm' g' bd' n' bo bm g bd n := by
  obtain ⟨L, v, L', v', h1, h2, h3, h4, h5, h6, h7, h8⟩ := h
  exact ⟨L', v', L, v, h2, h1, h4, h3, h5, h7, h6, fun i hi hj => h8 i hj hi⟩
theorem Pr.later {w W W' : World} {bo bm g bd n bo' bm' g' bd' n' : Nat} (h : Pr w W bo bm g bd n bo' bm' g' bd' n') (hb : Below W.heap.size W W') : Pr w W' bo bm g bd n bo' bm' g' bd' n' := by
  obtain ⟨L, v, L', v', h1, h2, h3, h4, h5, h6, h7, h8⟩ := h
  exact ⟨L, v, L', v', h1.later hb, h2.later hb, h3, h4, h5.trans (hb.mono h5.size), h6, h7, h8⟩
theorem Pr.play {w W : World} {bo bm g bd n bo' bm' g' bd' n' : Nat} (h : Pr w W bo bm g bd n bo' bm' g' bd' n') (kind k : Int) (hk : wfK k) (hn : n < 8796093022208) :
    Calls Try.prog 6 #[.pointer (some ⟨bo, 0, none⟩), .pointer (some ⟨bd, 0, none⟩), .agg #[.int .i64 kind, .int .i64 k]] W fun r W' => r = .returned (.bool true) ∧ Pr w W' bo bm g bd (n + 1) bo' bm' g' bd' n' := by
  obtain ⟨L, v, L', v', h1, h2, h3, h4, h5, h6, h7, h8⟩ := h
  refine (play_any h1 kind k hk (by omega)).mono ?_
  rintro r W' ⟨rfl, L2, v2, ha, hA⟩
  obtain ⟨b1, b2⟩ := ha.below h5 h6
  have hle := stp_len hA
  have hst2 : St W' bo' bm' g' L' bd' v' := ⟨h2.o.kept ha.kp fun i hi hf => h8 i hf (List.mem_append_left _ hi), h2.d.kept ha.kp fun i hi hf => h8 i hf (List.mem_append_right _ hi)⟩
  refine ⟨rfl, L2, v2, L', v', ha.st, hst2, by omega, h4, b1, b2, h7, fun i hi hj => ?_⟩
  rcases ha.sub i hi with h | h
  · exact h8 i h hj
  · have := h2.lt i hj; omega
theorem Pr.told {w W : World} {bo bm g bd n bo' bm' g' bd' n' : Nat} (h : Pr w W bo bm g bd n bo' bm' g' bd' n') (k : Int) (hk : wfK k) (hn : n ≤ 8796093022208) :
    Calls Try.prog 7 #[.pointer (some ⟨bo, 0, none⟩), .pointer (some ⟨bd, 0, none⟩), .int .i64 k] W fun r W' => r = .returned (.bool true) ∧ Pr w W' bo bm g bd n bo' bm' g' bd' n' := by
  have h0 := h
  obtain ⟨L, v, L', v', h1, h2, h3, h4, h5, h6, h7, h8⟩ := h
  refine (told_any h1 k hk (by omega)).mono ?_
  rintro r W' ⟨rfl, hb⟩
  exact ⟨rfl, h0.later hb⟩
theorem Pr.mono {w W : World} {bo bm g bd n bo' bm' g' bd' n' m m' : Nat} (h : Pr w W bo bm g bd n bo' bm' g' bd' n') (h1 : n ≤ m) (h2 : n' ≤ m') : Pr w W bo bm g bd m bo' bm' g' bd' m' := by
  obtain ⟨L, v, L', v', a1, a2, a3, a4, a5⟩ := h
  exact ⟨L, v, L', v', a1, a2, by omega, by omega, a5⟩
theorem Pr.start {w w0 w1 : World} {bo bm g bo' bm' g' : Nat} (h0 : RO w0 bo bm g []) (hb0 : Below w.heap.size w w0) (hf0 : ∀ i ∈ fp bo bm g [], w.heap.size ≤ i) (h1 : RO w1 bo' bm' g' []) (hb1 : Below w0.heap.size w0 w1) (hf1 : ∀ i ∈ fp bo' bm' g' [], w0.heap.size ≤ i) :
    Pr w ((w1.alloc (.cells #[.bool true, .slice none 0 0] TDo)).alloc (.cells #[.bool true, .slice none 0 0] TDo)) bo bm g w1.heap.size 0 bo' bm' g' (w1.heap.size + 1) 0 := by
  have hB1 : Below w1.heap.size w1 (w1.alloc (.cells #[.bool true, .slice none 0 0] TDo)) := (Below.refl _ w1).alloc (Nat.le_refl _) _
  have s1 : (w1.alloc (.cells #[.bool true, .slice none 0 0] TDo)).heap.size = w1.heap.size + 1 := World.size_alloc _ _
  have hB2 : Below (w1.heap.size + 1) (w1.alloc (.cells #[.bool true, .slice none 0 0] TDo)) ((w1.alloc (.cells #[.bool true, .slice none 0 0] TDo)).alloc (.cells #[.bool true, .slice none 0 0] TDo)) := (Below.refl _ _).alloc (by omega) _
  have hB : Below w1.heap.size w1 ((w1.alloc (.cells #[.bool true, .slice none 0 0] TDo)).alloc (.cells #[.bool true, .slice none 0 0] TDo)) := hB1.trans (hB2.mono (by omega))
  have e1 : ((w1.alloc (.cells #[.bool true, .slice none 0 0] TDo)).alloc (.cells #[.bool true, .slice none 0 0] TDo)).heap[w1.heap.size]? = some (.cells #[.bool true, .slice none 0 0] TDo (0, 0)) := by rw [Below.heap_alloc _ _ _ (by omega), heap_alloc_new]
  have e2 : ((w1.alloc (.cells #[.bool true, .slice none 0 0] TDo)).alloc (.cells #[.bool true, .slice none 0 0] TDo)).heap[w1.heap.size + 1]? = some (.cells #[.bool true, .slice none 0 0] TDo (0, 0)) := by rw [← s1, heap_alloc_new]
  have z0 := hb0.size
  have z1 := hb1.size
  refine ⟨[], .slice none 0 0, [], .slice none 0 0, ⟨(h0.later hb1).later (hB.mono (Nat.le_refl _)), ⟨e1, World.ownsRow_nil _ _ _ _, by simp, by simp⟩⟩, ⟨h1.later hB, ⟨e2, World.ownsRow_nil _ _ _ _, by simp, by simp⟩⟩, Nat.le_refl _, Nat.le_refl _, (hb0.trans (hb1.mono z0)).trans (hB.mono (by omega)), ?_, ?_, ?_⟩
  · intro i hi
    rcases List.mem_append.1 hi with hi | hi
    · exact hf0 i hi
    · simp [fpd, Value.ownBlock] at hi; omega
  · intro i hi
    rcases List.mem_append.1 hi with hi | hi
    · have := hf1 i hi; omega
    · simp [fpd, Value.ownBlock] at hi; omega
  · intro i hi hj
    rcases List.mem_append.1 hi with hi | hi <;> rcases List.mem_append.1 hj with hj | hj
    · have := h0.lt i hi; have := hf1 i hj; omega
    · have := h0.lt i hi; simp [fpd, Value.ownBlock] at hj; omega
    · have := h1.lt i hj; simp [fpd, Value.ownBlock] at hi; omega
    · simp [fpd, Value.ownBlock] at hi hj; omega

set_option maxHeartbeats 16000000 in
theorem lawApart_any (ao ao' : Option Addr) (c c' m m' : Nat) (l l' : List Ac) (w : World) (HM : Hid (m = l.length)) (hl : m ≤ 8796093021952) (HA : Hid (ARow w ao l)) (HW : Hid (∀ x ∈ l, wfK x.2)) (HM' : Hid (m' = l'.length)) (hl' : m' ≤ 8796093021952) (HA' : Hid (ARow w ao' l')) (HW' : Hid (∀ x ∈ l', wfK x.2)) :
    Calls Try.prog 3 #[.slice ao m c, .slice ao' m' c'] w fun e w' => e = .returned (.bool true) ∧ Below w.heap.size w w' := by
  go_enter Try.func3, Try.ntmps3
  go_wp2_with (first | (go_at_call 5; refine (new_any w0).mono ?_; rintro e w1 ⟨bo', bm', g', rfl, h1, hb1, hf1⟩; have H0 := Pr.start h0 hb0 hf0 h1 hb1 hf1; clear h0 hb0 hf0 h1 hb1 hf1) | (go_at_call 5; refine (new_any w).mono ?_; rintro e w0 ⟨bo, bm, g, rfl, h0, hb0, hf0⟩))
  have H0' : Hid (Pr w ((w1.alloc (.cells #[.bool true, .slice none 0 0] TDo)).alloc (.cells #[.bool true, .slice none 0 0] TDo)) bo bm g w1.heap.size 0 bo' bm' g' (w1.heap.size + 1) 0) := H0
  clear H0
  go_loopw [9] (fun i wr => ∃ (k : Nat), k ≤ max m m' ∧ i = .int .i64 k ∧ Hid (Pr w wr bo bm g w1.heap.size k bo' bm' g' (w1.heap.size + 1) k)) (fun i _ => max m m' - (intOf i).toNat)
  case atStart => exact ⟨0, Nat.zero_le _, rfl, H0'⟩
  case round =>
    obtain ⟨k, hk, rfl, HK⟩ := hrel
    by_cases hlt : k < m
    · obtain ⟨x, hx⟩ : ∃ x, l[k]? = some x := ⟨_, List.getElem?_eq_getElem (by have := HM.out; omega)⟩
      obtain ⟨b, off, rfl, c0, c1⟩ := HA.out.c _ _ hx
      have HC : Hid (∀ W, Below w.heap.size w W → W.cell? ⟨b, off + k * 2, none⟩ = some (.int .i64 x.1) ∧ W.cell? ⟨b, off + k * 2 + 1, none⟩ = some (.int .i64 x.2)) := fun W hW => ⟨cell_later hW c0, cell_later hW c1⟩
      have hcr := HC.out wr HK.out.below
      have hcr0 := hcr.1
      have hcr1 := hcr.2
      have hwf : Hid (wfK x.2) := HW.out x (List.mem_of_getElem? hx)
      have d1 : (k : Int) < (m : Int) := by omega
      have hpl := HK.out.play x.1 x.2 hwf.out (by omega)
      clear c0 c1 hx hcr
      by_cases hlt' : k < m'
      · obtain ⟨y, hy⟩ : ∃ y, l'[k]? = some y := ⟨_, List.getElem?_eq_getElem (by have := HM'.out; omega)⟩
        obtain ⟨b', off', rfl, c0, c1⟩ := HA'.out.c _ _ hy
        have HC' : Hid (∀ W, Below w.heap.size w W → W.cell? ⟨b', off' + k * 2, none⟩ = some (.int .i64 y.1) ∧ W.cell? ⟨b', off' + k * 2 + 1, none⟩ = some (.int .i64 y.2)) := fun W hW => ⟨cell_later hW c0, cell_later hW c1⟩
        have hwf' : Hid (wfK y.2) := HW'.out y (List.mem_of_getElem? hy)
        have d1' : (k : Int) < (m' : Int) := by omega
        clear c0 c1 hy
        go_wp2_with (first | (go_at_call 6; refine hpl2.mono ?_; clear hpl2; rintro e w4 ⟨rfl, h4⟩; have hcw4 := (HC'.out w4 h4.below).2; have hto2 := h4.symm.told y.2 hwf'.out (by omega); clear h4) | (go_at_call 6; refine hpl.mono ?_; clear hpl; rintro e w2 ⟨rfl, h2⟩; have hcw2 := (HC.out w2 h2.below).2; have hto := h2.symm.told x.2 hwf.out (by omega); clear h2) | (go_at_call 7; refine hto2.mono ?_; clear hto2; rintro e w5 ⟨rfl, h5⟩; have H5 : Hid (Pr w w5 bo bm g w1.heap.size (k + 1) bo' bm' g' (w1.heap.size + 1) (k + 1)) := h5; clear h5) | (go_at_call 7; refine hto.mono ?_; clear hto; rintro e w3 ⟨rfl, h3⟩; have hcw3 := HC'.out w3 h3.below; have hcw30 := hcw3.1; have hcw31 := hcw3.2; clear hcw3; have hpl2 := h3.play y.1 y.2 hwf'.out (by omega); clear h3))
        go_roundw
        case rel => exact ⟨k + 1, by omega, by go_num, H5⟩
        case measure => simp [intOf]; omega
      · have d1' : ¬ ((k : Int) < (m' : Int)) := by omega
        go_wp2_with (first | (go_at_call 6; refine hpl.mono ?_; clear hpl; rintro e w2 ⟨rfl, h2⟩; have hcw2 := (HC.out w2 h2.below).2; have hto := h2.symm.told x.2 hwf.out (by omega); clear h2) | (go_at_call 7; refine hto.mono ?_; clear hto; rintro e w3 ⟨rfl, h3⟩; have H5 : Hid (Pr w w3 bo bm g w1.heap.size (k + 1) bo' bm' g' (w1.heap.size + 1) (k + 1)) := h3.symm.mono (Nat.le_refl _) (by omega); clear h3))
        go_roundw
        case rel => exact ⟨k + 1, by omega, by go_num, H5⟩
        case measure => simp [intOf]; omega
    · have d1 : ¬ ((k : Int) < (m : Int)) := by omega
      by_cases hlt' : k < m'
      · obtain ⟨y, hy⟩ : ∃ y, l'[k]? = some y := ⟨_, List.getElem?_eq_getElem (by have := HM'.out; omega)⟩
        obtain ⟨b', off', rfl, c0, c1⟩ := HA'.out.c _ _ hy
        have HC' : Hid (∀ W, Below w.heap.size w W → W.cell? ⟨b', off' + k * 2, none⟩ = some (.int .i64 y.1) ∧ W.cell? ⟨b', off' + k * 2 + 1, none⟩ = some (.int .i64 y.2)) := fun W hW => ⟨cell_later hW c0, cell_later hW c1⟩
        have hcr := HC'.out wr HK.out.below
        have hcr0 := hcr.1
        have hcr1 := hcr.2
        have hwf' : Hid (wfK y.2) := HW'.out y (List.mem_of_getElem? hy)
        have d1' : (k : Int) < (m' : Int) := by omega
        have hpl2 := HK.out.symm.play y.1 y.2 hwf'.out (by omega)
        clear c0 c1 hy hcr
        go_wp2_with (first | (go_at_call 6; refine hpl2.mono ?_; clear hpl2; rintro e w4 ⟨rfl, h4⟩; have hcw4 := (HC'.out w4 h4.below).2; have hto2 := h4.symm.told y.2 hwf'.out (by omega); clear h4) | (go_at_call 7; refine hto2.mono ?_; clear hto2; rintro e w5 ⟨rfl, h5⟩; have H5 : Hid (Pr w w5 bo bm g w1.heap.size (k + 1) bo' bm' g' (w1.heap.size + 1) (k + 1)) := h5.mono (by omega) (Nat.le_refl _); clear h5))
        go_roundw
        case rel => exact ⟨k + 1, by omega, by go_num, H5⟩
        case measure => simp [intOf]; omega
      · have d1' : ¬ ((k : Int) < (m' : Int)) := by omega
        have HB : Hid (Below w.heap.size w wr) := HK.out.below
        clear HK
        go_wp2_with (go_at_call 8; refine (S.alive_any _).mono ?_; rintro e w4 ⟨rfl, hb4⟩)
        go_ret
        exact ⟨rfl, HB.out.trans (hb4.mono HB.out.size)⟩
end Go.Proofs.Ytpchllepboolhab.D
