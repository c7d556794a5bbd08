import Derived.Test.YtckfmpoddmccfaaV27
import Derived.Test.YtckfmpoddmccfaaV25
import Derived.Great.BuildSlice
import Derived.Test.YtckfmpoddmccfaaV23
import Derived.Test.YtckfmpoddmccfaaV4
namespace Go.Proofs.Ytckfmpoddmccfaa
open Go.RowKit
set_option linter.unusedVariables false
set_option linter.unusedSimpArgs false
set_option maxRecDepth 100000

/-- the option of heads -/
def hb17 : List Nat := [73, 72, 65, 86, 69, 79, 80, 84, 0, 0, 0, 3, 0, 0, 0, 1, 7]
theorem optC_9 : optC 64 0 (hb17.take 9) = ((0, 0, false, []), 0, 0, hb17.take 9) := by decide
theorem optC_17 : optC 64 0 hb17 = ((3, 1, false, [7]), 1, 0, []) := by decide
theorem blk_crow {W : World} {g : Nat} {l : List Nat} (hg : W.heap[g]? = some (.cells (l.map bv).toArray 5 (0, 0))) (hlt : ∀ x ∈ l, x < 256) (a k c : Nat) (h1 : a + k ≤ l.length) (h2 : k ≤ c) (h3 : c ≤ 9223372036854775807) (h4 : l.length ≤ 140737488351232) : CRow W (some ⟨g, a, none⟩) c ((l.drop a).take k) := by
  have hlen : ((l.drop a).take k).length = k := by rw [List.length_take, List.length_drop]; omega
  refine ⟨⟨fun x hx => hlt x (List.mem_of_mem_drop (List.mem_of_mem_take hx)), by omega, fun h => by simp at h, fun _ => ⟨_, _, rfl, fun j hj => ?_⟩⟩, by omega, h3⟩
  rw [hlen] at hj
  rw [blk_cell hg, List.getElem?_map, List.getElem?_eq_getElem (by omega)]
  simp
set_option maxHeartbeats 8000000 in
theorem heads_any (w : World) : Calls Try.prog 10 #[] w fun e w' => e = .returned (.bool true) ∧ Below w.heap.size w w' := by
  have HN : Hid (Calls Try.prog 18 #[.int .i64 60] w fun e w' => e = .returned (.tuple #[.pointer (some ⟨w.heap.size, 0, none⟩), .int .i64 0]) ∧ Inb w' w.heap.size w.heap.size (.slice none 0 0) 60 0 [] ∧ Below w.heap.size w w') := newI 60 (by decide) (by decide) w
  go_enter Try.func10, Try.ntmps10
  go_wp2_with fail
  refine HN.out.mono ?_
  rintro e W1 ⟨rfl, hI1, hB1⟩
  have HI1 : Hid _ := hI1
  have HB1 : Hid _ := hB1
  clear hI1 hB1 HN
  obtain ⟨W2, hW2⟩ : ∃ W2, W2 = W1.alloc (.cells #[.int .u8 73, .int .u8 72, .int .u8 65, .int .u8 86, .int .u8 69, .int .u8 79, .int .u8 80, .int .u8 84, .int .u8 0, .int .u8 0, .int .u8 0, .int .u8 3, .int .u8 0, .int .u8 0, .int .u8 0, .int .u8 1, .int .u8 7] 5) := ⟨_, rfl⟩
  have hb2 : Below W1.heap.size W1 W2 := by rw [hW2]; exact (Below.refl _ _).alloc (Nat.le_refl _) _
  have hg2 : W2.heap[W1.heap.size]? = some (.cells (hb17.map bv).toArray 5 (0, 0)) := by rw [hW2]; exact heap_new W1 _
  have hlo : w.heap.size < W1.heap.size := block_lt HI1.out.blk
  have hI2 : Inb W2 w.heap.size w.heap.size (.slice none 0 0) 60 0 [] := HI1.out.later hb2
  have HB2 : Hid (Below w.heap.size w W2) := HB1.out.trans (hb2.mono HB1.out.size)
  have HRow : Hid (∀ W : World, W.heap[W1.heap.size]? = some (.cells (hb17.map bv).toArray 5 (0, 0)) → CRow W (some ⟨W1.heap.size, 0, none⟩) 17 ((hb17.drop 0).take 9) ∧ CRow W (some ⟨W1.heap.size, 9, none⟩) 8 ((hb17.drop 9).take 8)) := fun W hg => by
    exact ⟨blk_crow hg (by decide) 0 9 17 (by decide) (by decide) (by decide) (by decide), blk_crow hg (by decide) 9 8 8 (by decide) (by decide) (by decide) (by decide)⟩
  have HFd : Hid _ := feedI hI2 (some ⟨W1.heap.size, 0, none⟩) 17 9 ((hb17.drop 0).take 9) (HRow.out W2 hg2).1 (by show _ = _; rfl) (by decide) 0 9 rfl rfl
  have HG2 : Hid _ := hg2
  clear hb2 hg2 HI1 HB1
  have HI2 : Hid _ := hI2
  clear hI2
  go_wp2_with fail
  rw [← hW2]
  clear hW2
  refine Calls.mono HFd.out ?_
  rintro e W3 ⟨rfl, v3, hI3, hA3⟩
  have el3 : ([] : List Nat) ++ (((hb17.drop 0).take 9).drop 0).take 9 = hb17.take 9 := by decide
  rw [el3] at hI3
  have HG3 : Hid (W3.heap[W1.heap.size]? = some (.cells (hb17.map bv).toArray 5 (0, 0))) := (hA3.kept.block _ (block_lt HG2.out) (by rintro (e | e) <;> first | omega | simp [Value.ownBlock] at e)).trans HG2.out
  have HB3 : Hid (Below w.heap.size w W3) := HB2.out.trans (hA3.below HI2.out)
  have HOp : Hid (Calls Try.prog 24 #[.pointer (some ⟨w.heap.size, 0, none⟩), .int .u32 64] W3 fun e w' => OptI W3 w.heap.size w.heap.size v3 60 (optC 64 0 (hb17.take 9)) e w') := optionI hI3 64 (by decide)
  rw [optC_9] at HOp
  have HI3 : Hid _ := hI3
  have hv3 : ∀ g, v3.ownBlock = some g → g ≠ W1.heap.size := fun g hg e => by
    have h2 := block_lt HG2.out
    rcases hA3.fresh with f | ⟨g', f, hlt⟩
    · rw [f] at hg; simp [Value.ownBlock] at hg
    · rw [hg] at f; simp at f; omega
  have HV3 : Hid _ := hv3
  clear HFd hI3 hA3 el3 hv3 HG2 HB2 HI2
  go_wp2_with fail
  refine HOp.out.mono ?_
  rintro e W4 ⟨c, k, lg, d, cu, ov', l', v4, ao4, cap4, rfl, hx, hI4, hA4, hr4, hn4⟩
  simp only [Prod.mk.injEq] at hx
  obtain ⟨⟨rfl, rfl, rfl, rfl⟩, rfl, rfl, rfl⟩ := hx
  have HG4 : Hid (W4.heap[W1.heap.size]? = some (.cells (hb17.map bv).toArray 5 (0, 0))) := (hA4.kept.block _ (block_lt HG3.out) (by rintro (e | e); (· omega); exact HV3.out _ e rfl)).trans HG3.out
  have hv4 : ∀ g, v4.ownBlock = some g → g ≠ W1.heap.size := fun g hg e => by
    have h2 := block_lt HG3.out
    rcases hA4.fresh with f | ⟨g', f, hlt⟩
    · exact HV3.out g (f ▸ hg) e
    · rw [hg] at f; simp at f; omega
  have HB4 : Hid (Below w.heap.size w W4) := HB3.out.trans (hA4.below HI3.out)
  obtain ⟨W5, hW5⟩ : ∃ W5, W5 = W4.alloc (.cells #[.int .u32 0, .int .u32 0, .bool false, .slice ao4 0 cap4] 57) := ⟨_, rfl⟩
  have hb5 : Below W4.heap.size W4 W5 := by rw [hW5]; exact (Below.refl _ _).alloc (Nat.le_refl _) _
  have hI5 := hI4.later hb5
  have HI5 : Hid _ := hI5
  have HG5 : Hid (W5.heap[W1.heap.size]? = some (.cells (hb17.map bv).toArray 5 (0, 0))) := (hb5.block _ (block_lt HG4.out)).trans HG4.out
  have HB5 : Hid (Below w.heap.size w W5) := HB4.out.trans (hb5.mono HB4.out.size)
  have HFd : Hid _ := feedI hI5 (some ⟨W1.heap.size, 9, none⟩) 8 8 ((hb17.drop 9).take 8) (HRow.out W5 HG5.out).2 (by show _ = _; rfl) (by decide) 0 8 rfl rfl
  clear HOp HI3 HV3 HG3 HB3 hI4 hA4 hr4 hn4 hv4 HG4 HB4 hb5 hI5 HRow
  go_wp2_with fail
  rw [← hW5]
  clear hW5
  refine Calls.mono HFd.out ?_
  rintro e W6 ⟨rfl, v6, hI6, hA6⟩
  have el6 : (hb17.take 9) ++ (((hb17.drop 9).take 8).drop 0).take 8 = hb17 := by decide
  rw [el6] at hI6
  have HB6 : Hid (Below w.heap.size w W6) := HB5.out.trans (hA6.below HI5.out)
  have HOp : Hid (Calls Try.prog 24 #[.pointer (some ⟨w.heap.size, 0, none⟩), .int .u32 64] W6 fun e w' => OptI W6 w.heap.size w.heap.size v6 60 (optC 64 0 hb17) e w') := optionI hI6 64 (by decide)
  rw [optC_17] at HOp
  have HI6 : Hid _ := hI6
  clear HFd hI6 hA6 el6 HI5 HG5 HB5
  go_wp2_with fail
  refine HOp.out.mono ?_
  rintro e W7 ⟨c, k, lg, d, cu, ov', l', v7, ao7, cap7, rfl, hx, hI7, hA7, hr7, hn7⟩
  simp only [Prod.mk.injEq] at hx
  obtain ⟨⟨rfl, rfl, rfl, rfl⟩, rfl, rfl, rfl⟩ := hx
  have HB7 : Hid (Below w.heap.size w W7) := HB6.out.trans (hA7.below HI6.out)
  obtain ⟨W8, hW8⟩ : ∃ W8, W8 = W7.alloc (.cells #[.int .u32 3, .int .u32 1, .bool false, .slice ao7 1 cap7] 57) := ⟨_, rfl⟩
  have hb8 : Below W7.heap.size W7 W8 := by rw [hW8]; exact (Below.refl _ _).alloc (Nat.le_refl _) _
  have HB8 : Hid (Below w.heap.size w W8) := HB7.out.trans (hb8.mono HB7.out.size)
  have hI8 := hI7.later hb8
  have hr8 : W8.ownsRow W6.heap.size 5 1 (.slice ao7 1 cap7) 1 [bv 7] := owns_same hr7 fun g hg => hb8.block g (owns_lt hr7 g hg).1
  obtain ⟨g7, hao⟩ : ∃ g7, ao7 = some ⟨g7, 0, none⟩ := by
    rcases hr8.2 with ⟨hv, hn⟩ | ⟨g, c', cur, hv, _⟩
    · simp at hn
    · simp only [Value.slice.injEq] at hv; exact ⟨g, hv.1⟩
  subst hao
  have x7 : W8.cell? ⟨g7, 0, none⟩ = some (.int .u8 7) := by
    have := hr8.cellAt 0 (by decide)
    simpa [bv] using this
  have HH : Hid _ := heldI hI8
  have HRm : Hid _ := roomI hI8
  clear HOp hI7 hA7 hr7 hn7 hb8 HI6 HB6 HB7 hr8 hI8
  have x8 := x7
  rw [hW8] at x8
  go_wp2_with fail
  rw [← hW8]
  clear hW8 x8
  refine Calls.mono HH.out ?_
  rintro e W9 ⟨rfl, hw9⟩
  rw [hw9]; clear hw9
  go_wp2_with fail
  refine Calls.mono HRm.out ?_
  rintro e W9 ⟨rfl, q, hw9⟩
  have HB9 : Hid (Below w.heap.size w W9) := by
    show Below _ _ _
    rw [hw9]; exact HB8.out.trans ⟨rfl, rfl, rfl, Nat.le_refl _, fun _ _ => rfl⟩
  clear hw9
  go_wp2
  go_ret
  exact ⟨rfl, HB9.out⟩
end Go.Proofs.Ytckfmpoddmccfaa

namespace Go.Proofs.Ytckfmpoddmccfaa
open Go.RowKit
set_option linter.unusedVariables false
set_option linter.unusedSimpArgs false
set_option maxRecDepth 100000

theorem copyA (ao : Option Addr) (cap : Nat) (l : List Nat) (w : World) (h : BRow w ao cap l) :
    Calls Try.prog 67 #[.slice ao l.length cap] w fun e w' => ∃ v, e = .returned v ∧ w'.ownsRow w.heap.size 5 1 v l.length (l.map bv) ∧ Below w.heap.size w w' := by
  cases ao with
  | none =>
    obtain ⟨rfl, rfl⟩ := h.nil rfl
    refine (copy_none w).mono ?_
    rintro e w' ⟨rfl, rfl⟩
    exact ⟨_, rfl, World.ownsRow_nil _ _ _ _, Below.refl _ _⟩
  | some ad => exact copy_some ad cap l w h
set_option maxHeartbeats 2000000 in
theorem lendA (ao : Option Addr) (cap n : Nat) (l : List Nat) (w : World) (h : BRow w ao cap l) (HN : Hid (l.length = n)) (hn : n ≤ 1099511627776) :
    Calls Try.prog 28 #[.slice ao n cap] w fun e w' => ∃ g cp, e = .returned (.slice (some ⟨g, 0, none⟩) n cp) ∧ w'.ownsRow w.heap.size 5 1 (.slice (some ⟨g, 0, none⟩) (n + 3) cp) (n + 3) ((l ++ [90, 91, 92]).map bv) ∧ Below w.heap.size w w' := by
  obtain ⟨i0, hi, hz0, hz1, hz2⟩ := info_parts Try.info5
  have HC : Hid (Calls Try.prog 67 #[.slice ao n cap] w fun e w' => ∃ v, e = .returned v ∧ w'.ownsRow w.heap.size 5 1 v n (l.map bv) ∧ Below w.heap.size w w') := by
    have := copyA ao cap l w h
    rw [HN.out] at this
    exact this
  clear h
  go_enter Try.func28, Try.ntmps28
  go_wp2_with fail
  refine HC.out.mono ?_
  rintro e w1 ⟨v, rfl, ho, hb⟩
  have hsz := hb.size
  have ho1 := ho.alloc (.cells #[.int .u8 90, .int .u8 91, .int .u8 92] 5)
  have hb1 : Below w.heap.size w (w1.alloc (.cells #[.int .u8 90, .int .u8 91, .int .u8 92] 5)) := hb.alloc hsz _
  have HNw : Hid (∀ j u, ([bv 90, bv 91, bv 92] : List Value)[j]? = some u → (w1.alloc (.cells #[.int .u8 90, .int .u8 91, .int .u8 92] 5)).cell? ((⟨w1.heap.size, 0, none⟩ : Addr).add j) = some u) := fun j u hu => by
    rw [add_plain, Nat.zero_add, blk_at (heap_new w1 _)]
    simpa [bv] using hu
  have HO1 : Hid _ := ho1
  have HB1 : Hid _ := hb1
  obtain ⟨vo, vc, hv⟩ := owns_form ho
  subst hv
  clear ho hb ho1 hb1 HC
  go_wp2_with (at_builtin; refine wpList_append_two _ rfl (.tmp 5) (.tmp 6) 22 rfl w.heap.size 5 i0 (.int .u8 0) 1 Try.underlying22 hi hz0 hz1 hz2 rfl (.slice vo n vc) n (l.map bv) rfl HO1.out (some ⟨w1.heap.size, 0, none⟩) 3 3 [bv 90, bv 91, bv 92] rfl (fun e => by simp at e) rfl (fun ad e => by cases e; exact HNw.out) (by simp [bv, Value.oneCell']) (by unfold maxLen; omega) (by omega) (by simp; omega) ?_)
  intro v2 w2 ho2 hg2 hf2
  have HB2 : Hid (Below w.heap.size w w2) := HB1.out.grown hg2 HB1.out.size (fun g hg => (owns_lt HO1.out g hg).2)
  rcases ho2.2 with ⟨hv, hn0⟩ | ⟨g, cp, cur, hv, hbg, hgg, hnc, hcm, hs, htk⟩
  · omega
  · subst hv
    have HO2 : Hid (w2.ownsRow w.heap.size 5 1 (.slice (some ⟨g, 0, none⟩) (n + 3) cp) (n + 3) ((l ++ [90, 91, 92]).map bv)) := by
      show World.ownsRow _ _ _ _ _ _ _
      rw [List.map_append]; exact ho2
    have hcm2 : cp ≤ 9223372036854775807 := by unfold maxLen at hcm; omega
    have h1 : (n : Int) ≤ (cp : Int) := by omega
    clear ho2 hg2 hf2 HO1 HB1 HNw hgg hs htk hbg
    go_wp2
    go_ret
    exact ⟨g, cp, rfl, HO2.out, HB2.out⟩
/-- both inboxes share no block -/
def Apt (b : Nat) (v : Value) (b' : Nat) (v' : Value) : Prop := ∀ g, ifp b v g → ¬ ifp b' v' g
def FedP (w : World) (B b : Nat) (v : Value) (B' b' : Nat) (v' : Value) (rm ov : Nat) (l m : List Nat) (e : Ending) (w' : World) : Prop :=
  e = .returned (.bool true) ∧ ∃ v1 v1', Inb w' B b v1 rm (ov - min m.length ov) (l ++ (m.drop (min m.length ov)).take (min (m.length - min m.length ov) (rm - l.length))) ∧ RIn w' B' b' v1' rm (ov - min m.length ov) (l ++ (m.drop (min m.length ov)).take (min (m.length - min m.length ov) (rm - l.length))) ∧ Apt b v1 b' v1' ∧ KeptIn (fun g => ifp b v g ∨ ifp b' v' g) w w' ∧ Fresh w v v1 ∧ Fresh w v' v1'
theorem Fresh.not {w : World} {v v1 : Value} {g : Nat} (h : Fresh w v v1) (hg : g < w.heap.size) (hn : v.ownBlock ≠ some g) : v1.ownBlock ≠ some g := fun e => by
  rcases h with f | ⟨g', f, hlt⟩
  · exact hn (f ▸ e)
  · rw [e] at f; simp at f; omega
set_option maxHeartbeats 8000000 in
theorem fedA {w : World} {B b B' b' : Nat} {v v' : Value} {rm ov : Nat} {l : List Nat} (h : Inb w B b v rm ov l) (h' : RIn w B' b' v' rm ov l) (hap : Apt b v b' v') (ao : Option Addr) (cap : Nat) (m : List Nat) (hmk : ∀ W, KeptIn (fun g => ifp b v g ∨ ifp b' v' g) w W → CRow W ao cap m) (hn : m.length ≤ 1099511627776) :
    Calls Try.prog 13 #[.pointer (some ⟨b, 0, none⟩), .pointer (some ⟨b', 0, none⟩), .slice ao m.length cap] w fun e w' => FedP w B b v B' b' v' rm ov l m e w' := by
  have hm : CRow w ao cap m := hmk w (KeptIn.refl _ _)
  have HMk : Hid _ := hmk
  clear hmk
  obtain ⟨p, hp⟩ : ∃ p, min m.length ov = p := ⟨_, rfl⟩
  obtain ⟨k, hk⟩ : ∃ k, min (m.length - p) (rm - l.length) = k := ⟨_, rfl⟩
  obtain ⟨n, hN⟩ : ∃ n, m.length = n := ⟨_, rfl⟩
  have HL : Hid _ := lendA ao cap n m w hm.row hN (by omega)
  have HI : Hid (Inb w B b v rm ov l) := h
  have HR : Hid (RIn w B' b' v' rm ov l) := h'
  have HAp : Hid (Apt b v b' v') := hap
  have HM : Hid (CRow w ao cap m) := hm
  have HN : Hid (m.length = n) := hN
  have HPk : Hid (min m.length ov = p ∧ min (m.length - p) (rm - l.length) = k) := ⟨hp, hk⟩
  rw [hN] at hp hk hn
  rw [hN]
  clear h h' hap hm hN
  go_enter Try.func13, Try.ntmps13
  go_wp2_with fail
  refine Calls.mono HL.out ?_
  rintro e w1 ⟨g, cp, rfl, ho1, hb1⟩
  have hg1 := owns_lt ho1 g rfl
  have hcpA : n + 3 ≤ cp ∧ cp ≤ 9223372036854775807 := by
    rcases ho1.2 with ⟨hv, hn0⟩ | ⟨g', c', cur, hv, _, _, hnc, hcm, _⟩
    · omega
    · simp only [Value.slice.injEq] at hv; unfold maxLen at hcm; omega
  have hI1 := HI.out.later hb1
  have hR1 := HR.out.later hb1
  have hl3 : ∀ x ∈ m ++ [90, 91, 92], x < 256 := fun x hx => by
    rcases List.mem_append.1 hx with hx | hx
    · exact HM.out.row.lt x hx
    · simp at hx; omega
  have hLr : CRow w1 (some ⟨g, 0, none⟩) cp m := by
    have hb := BRow.own (l := m ++ [90, 91, 92]) (w := w1) (base := w.heap.size) (v := .slice (some ⟨g, 0, none⟩) (n + 3) cp) (by rw [List.length_append, HN.out]; exact ho1) hl3 (by rw [List.length_append, HN.out]; simp; omega)
    obtain ⟨ao2, c2, hv, hbr⟩ := hb
    rw [List.length_append, HN.out] at hv
    simp only [Value.slice.injEq] at hv
    obtain ⟨rfl, _, rfl⟩ := hv
    refine ⟨⟨HM.out.row.lt, HM.out.row.len, fun e => by simp at e, fun hne => ?_⟩, by rw [HN.out]; omega, hcpA.2⟩
    obtain ⟨b2, off, e, hc⟩ := hbr.at_ (by simp)
    refine ⟨b2, off, e, fun j hj => ?_⟩
    rw [hc j (by rw [List.length_append]; omega), List.getElem_append_left hj]
  have HF : Hid _ := feedI hI1 (some ⟨g, 0, none⟩) cp n m hLr HN (by omega) p k hp hk
  have HO1 : Hid _ := ho1
  have HB1 : Hid _ := hb1
  have HI1 : Hid _ := hI1
  have HR1 : Hid _ := hR1
  have HM1 : Hid (CRow w1 ao cap m) := HM.out.later hb1
  have hgI : ¬ ifp b v g := fun hf => by have := (HI.out.lt g hf).2; omega
  have hgR : ¬ ifp b' v' g := fun hf => by
    have h9 := (HR.out.lt g hf).2; omega
  have HCp : Hid _ := hcpA
  have HL3 : Hid _ := hl3
  clear HL ho1 hb1 hI1 hR1 hLr hcpA hl3
  go_wp2_with fail
  refine Calls.mono HF.out ?_
  rintro e w2 ⟨rfl, v1, hI2, hA2⟩
  have hb2 := hA2.kept
  have hR2 : RIn w2 B' b' v' rm ov l := HR1.out.keep hA2.kept (fun x hx hf => HAp.out x hf hx)
  have hK2 : KeptIn (fun g => ifp b v g ∨ ifp b' v' g) w w2 := (KeptIn.ofBelow HB1.out).trans hA2.kept (fun x _ hn hf => hn (.inl hf))
  have HK2 : Hid _ := hK2
  have hM2 : CRow w2 ao cap m := HMk.out w2 hK2
  have hO2 : w2.ownsRow w.heap.size 5 1 (.slice (some ⟨g, 0, none⟩) (n + 3) cp) (n + 3) ((m ++ [90, 91, 92]).map bv) := owns_same HO1.out fun x hx => by
    simp [Value.ownBlock] at hx
    subst hx
    exact hA2.kept.block _ hg1.1 hgI
  have HRf : Hid _ := rfeedI hR2 ao cap n m hM2 HN (by omega) p k hp hk
  have HI2 : Hid _ := hI2
  have HA2 : Hid _ := hA2
  have HR2 : Hid _ := hR2
  have HM2 : Hid _ := hM2
  have HO2 : Hid _ := hO2
  clear HF hI2 hA2 hR2 hM2 hO2 HI1 HR1 HM1 hb2 hK2
  go_wp2_with fail
  refine Calls.mono HRf.out ?_
  rintro e w3 ⟨rfl, v1', hR3, hA3⟩
  have hszw := HB1.out.size
  have hA2f := HA2.out.fresh
  have hapI : ∀ x, ifp b v1 x → ¬ ifp b' v' x := fun x hx hf => by
    rcases hx with rfl | hx
    · exact HAp.out _ (.inl rfl) hf
    · have hlt := (HR.out.lt x hf).2
      rcases hA2f with f | ⟨g', f, hge⟩
      · exact HAp.out x (.inr (f ▸ hx)) hf
      · rw [hx] at f; simp at f; omega
  have hI3 := HI2.out.keep hA3.kept hapI
  have hK3 : KeptIn (fun g => ifp b v g ∨ ifp b' v' g) w w3 := HK2.out.trans hA3.kept (fun x _ hn hf => hn (.inr hf))
  have hgI3 : ¬ ifp b v1 g := fun hx => by
    rcases hx with rfl | hx
    · exact hgI (.inl rfl)
    · exact Fresh.not hA2f hg1.1 (fun e => hgI (.inr e)) hx
  have hg2 : g < w2.heap.size := Nat.lt_of_lt_of_le hg1.1 HA2.out.kept.size
  have hO3 : w3.ownsRow w.heap.size 5 1 (.slice (some ⟨g, 0, none⟩) (n + 3) cp) (n + 3) ((m ++ [90, 91, 92]).map bv) := owns_same HO2.out fun x hx => by
    simp [Value.ownBlock] at hx
    subst hx
    exact hA3.kept.block _ hg2 hgR
  have hgR3 : ¬ ifp b' v1' g := fun hx => by
    rcases hx with rfl | hx
    · exact hgR (.inl rfl)
    · exact Fresh.not hA3.fresh hg2 (fun e => hgR (.inr e)) hx
  have hap3 : Apt b v1 b' v1' := fun x hx hf => by
    have hlt := (HI2.out.lt x hx).2
    rcases hf with rfl | hf
    · exact hapI _ hx (.inl rfl)
    · exact Fresh.not hA3.fresh hlt (fun e => hapI x hx (.inr e)) hf
  have hF1 : Fresh w v v1 := by
    rcases hA2f with f | ⟨g', f, hge⟩
    · exact .inl f
    · exact .inr ⟨g', f, by omega⟩
  have hF2 : Fresh w v' v1' := by
    rcases hA3.fresh with f | ⟨g', f, hge⟩
    · exact .inl f
    · exact .inr ⟨g', f, by have := HA2.out.kept.size; omega⟩
  have HMw : Hid (∀ W, KeptIn (fun x => x = g) w3 W → CRow W ao cap m) := fun W hW => HMk.out W (hK3.trans hW (fun x hx _ e => by omega))
  have HFin : Hid (∀ W, KeptIn (fun x => x = g) w3 W → Inb W B b v1 rm (ov - p) (l ++ (m.drop p).take k) ∧ RIn W B' b' v1' rm (ov - p) (l ++ (m.drop p).take k) ∧ Apt b v1 b' v1' ∧ KeptIn (fun g => ifp b v g ∨ ifp b' v' g) w W ∧ Fresh w v v1 ∧ Fresh w v' v1') := fun W hW =>
    ⟨hI3.keep hW (fun x hx e => hgI3 (by subst e; exact hx)), hR3.keep hW (fun x hx e => hgR3 (by subst e; exact hx)), hap3, hK3.trans hW (fun x hx _ e => by omega), hF1, hF2⟩
  have HO3 : Hid _ := hO3
  have hM3 : CRow w3 ao cap m := HMw.out w3 (KeptIn.refl _ _)
  have hrow3 : BRow w3 (some ⟨g, 0, none⟩) cp m := by
    have hb := BRow.own (l := m ++ [90, 91, 92]) (w := w3) (base := w.heap.size) (v := .slice (some ⟨g, 0, none⟩) (n + 3) cp) (by rw [List.length_append, HN.out]; exact hO3) HL3.out (by rw [List.length_append, HN.out]; simp; omega)
    obtain ⟨ao2, c2, hv, hbr⟩ := hb
    rw [List.length_append, HN.out] at hv
    simp only [Value.slice.injEq] at hv
    obtain ⟨rfl, _, rfl⟩ := hv
    refine ⟨HM.out.row.lt, HM.out.row.len, fun e => by simp at e, fun hne => ?_⟩
    obtain ⟨b2, off, e, hc⟩ := hbr.at_ (by simp)
    refine ⟨b2, off, e, fun j hj => ?_⟩
    rw [hc j (by rw [List.length_append]; omega), List.getElem_append_left hj]
  have HSm : Hid (Calls Try.prog 30 #[.slice (some ⟨g, 0, none⟩) n cp, .slice ao n cap] w3 fun e w' => e = .returned (.bool true) ∧ ∃ q, w' = w3.drewN q) := by
    have := same_any (some ⟨g, 0, none⟩) ao cp cap m m w3 hrow3 hM3.row
    rw [HN.out] at this
    simp at this
    exact this
  have hc1 := HCp.out.1
  have hc2 := HCp.out.2
  have z0 : w3.cell? ⟨g, n, none⟩ = some (.int .u8 90) := by
    rw [hO3.cellAt n (by omega)]; simp [bv, HN.out]
  have z1 : w3.cell? ⟨g, n + 1, none⟩ = some (.int .u8 91) := by
    rw [hO3.cellAt (n + 1) (by omega)]; simp [bv, HN.out]
  have z2 : w3.cell? ⟨g, n + 2, none⟩ = some (.int .u8 92) := by
    rw [hO3.cellAt (n + 2) (by omega)]; simp [bv, HN.out]
  clear HRf hR3 hA3 hI3 hK3 hO3 hap3 hapI hgI3 hgR3 hF1 hF2 HI2 HA2 HR2 HM2 HO2 HK2 hA2f HMk hM3 hrow3 HI HR HAp HB1 hg2
  have s3 : IntKind.i64.wrap ((n : Int) + 3) = (n : Int) + 3 := by rw [IntKind.wrap_i64]; omega
  have s1 : IntKind.i64.wrap ((n : Int) + 1) = (n : Int) + 1 := by rw [IntKind.wrap_i64]; omega
  have s2 : IntKind.i64.wrap ((n : Int) + 2) = (n : Int) + 2 := by rw [IntKind.wrap_i64]; omega
  have t3 : (n : Int) + 3 ≤ (cp : Int) := by omega
  have t3n : ((n : Int) + 3).toNat = n + 3 := by omega
  have t1n : ((n : Int) + 1).toNat = n + 1 := by omega
  have t2n : ((n : Int) + 2).toNat = n + 2 := by omega
  have t0 : (0 : Int) ≤ (n : Int) + 3 := by omega
  have t4 : (0 : Int) ≤ (n : Int) + 1 := by omega
  have t5 : (0 : Int) ≤ (n : Int) + 2 := by omega
  have t6 : (n : Int) < (n : Int) + 3 := by omega
  have t7 : (n : Int) + 1 < (n : Int) + 3 := by omega
  have t8 : (n : Int) + 2 < (n : Int) + 3 := by omega
  go_wp2_with fail
  refine HSm.out.mono ?_
  rintro e w4 ⟨rfl, q, hw4⟩
  have HO4 : Hid (w4.ownsRow w.heap.size 5 1 (.slice (some ⟨g, 0, none⟩) (n + 3) cp) (n + 3) ((m ++ [90, 91, 92]).map bv)) := by
    show World.ownsRow _ _ _ _ _ _ _
    rw [hw4]; exact owns_same HO3.out fun _ _ => rfl
  have HK4 : Hid (KeptIn (fun x => x = g) w3 w4) := by
    show KeptIn _ _ _
    rw [hw4]; exact keptIn_drewN (KeptIn.refl _ _) q
  have y0 : w4.cell? ⟨g, n, none⟩ = some (.int .u8 90) := by rw [hw4]; exact z0
  have y1 : w4.cell? ⟨g, n + 1, none⟩ = some (.int .u8 91) := by rw [hw4]; exact z1
  have y2 : w4.cell? ⟨g, n + 2, none⟩ = some (.int .u8 92) := by rw [hw4]; exact z2
  clear hw4 z0 z1 z2 HSm HO3
  go_wp2
  go_loopw [13] (fun i wr => ∃ j : Nat, j ≤ n + 3 ∧ i = .int .i64 (j : Int) ∧ ∃ C : List Nat, Hid (C.length = n + 3 ∧ wr.ownsRow w.heap.size 5 1 (.slice (some ⟨g, 0, none⟩) (n + 3) cp) (n + 3) (C.map bv) ∧ (∀ x ∈ C, x < 256) ∧ KeptIn (fun x => x = g) w3 wr)) (fun i _ => n + 3 - (intOf i).toNat)
  case atStart => exact ⟨0, Nat.zero_le _, rfl, m ++ [90, 91, 92], by rw [List.length_append, HN.out]; rfl, HO4.out, HL3.out, HK4.out⟩
  case round =>
    obtain ⟨j, hj, rfl, C, HC⟩ := hrel
    by_cases hlt : j < n + 3
    · have hC := HC.out.1
      have ho := HC.out.2.1
      have hjz : (j : Int) < (n : Int) + 3 := by omega
      obtain ⟨x, hx⟩ : ∃ x, C[j]?.getD 0 = x := ⟨_, rfl⟩
      have hx256 : x < 256 := by
        rw [← hx, List.getElem?_eq_getElem (by omega)]; exact HC.out.2.2.1 _ (List.getElem_mem _)
      have hc0 : wr.cell? ⟨g, j, none⟩ = some (.int .u8 (x : Int)) := by
        rw [ho.cellAt j (by omega)]; simp [bv, hC, hlt, ← hx]
      have hf0 := ho.frozenAt j
      have hwr : IntKind.u8.wrap ((x : Int) + 1) = (((x + 1) % 256 : Nat) : Int) := by rw [IntKind.wrap_u8]; omega
      obtain ⟨hs1, hg1'⟩ := ho.stored j (bv ((x + 1) % 256))
      obtain ⟨y, hy⟩ : ∃ y, (x + 1) % 256 = y := ⟨_, rfl⟩
      rw [hy] at hs1 hg1' hwr
      have H2 : Hid ((C.set j y).length = n + 3 ∧ (wr.setCell ⟨g, j, none⟩ (.int .u8 (y : Int))).ownsRow w.heap.size 5 1 (.slice (some ⟨g, 0, none⟩) (n + 3) cp) (n + 3) ((C.set j y).map bv) ∧ (∀ x ∈ C.set j y, x < 256) ∧ KeptIn (fun x => x = g) w3 (wr.setCell ⟨g, j, none⟩ (.int .u8 (y : Int)))) := by
        refine ⟨by simp [hC], by rw [List.map_set]; exact hs1, fun z hz => ?_, HC.out.2.2.2.trans (T := fun x => x = g) ⟨rfl, rfl, rfl, by simp [World.setCell], fun k _ hn => Below.heap_setCell _ _ _ _ hn⟩ (fun _ _ hn => hn)⟩
        rcases List.mem_or_eq_of_mem_set hz with h9 | h9
        · exact HC.out.2.2.1 z h9
        · omega
      clear hs1 hg1' ho HC hC hx hy
      go_wp2
      go_roundw
      case rel => exact ⟨j + 1, by omega, by go_num, _, H2⟩
      case measure => simp [intOf]; omega
    · obtain rfl : j = n + 3 := by omega
      have hd : ¬ (((n + 3 : Nat) : Int) < (n : Int) + 3) := by omega
      have HE : Hid _ := HFin.out wr HC.out.2.2.2
      clear HC HO4 HK4 HFin HMw
      go_wp2
      go_ret
      refine ⟨rfl, v1, v1', ?_⟩
      rw [HPk.out.1, HPk.out.2]
      exact HE.out
end Go.Proofs.Ytckfmpoddmccfaa

namespace Go.Proofs.Ytckfmpoddmccfaa
open Go.RowKit
set_option linter.unusedVariables false
structure IRow (w : World) (po : Option Addr) (pn pc : Nat) : Prop where
  pos : 0 < pn → ∃ b off, po = some ⟨b, off, none⟩ ∧ ∀ i, i < pn → ∃ z : Int, w.cell? ⟨b, off + i, none⟩ = some (.int .i64 z)
  len : pn ≤ 1099511627776
theorem IRow.later {w w' : World} {po : Option Addr} {pn pc : Nat} (h : IRow w po pn pc) (hb : Below w.heap.size w w') : IRow w' po pn pc :=
  ⟨fun hp => by
    obtain ⟨b, off, e, hc⟩ := h.pos hp
    exact ⟨b, off, e, fun i hi => by obtain ⟨z, hz⟩ := hc i hi; exact ⟨z, cell_later hb hz⟩⟩, h.len⟩
theorem tmod_cast (k pn : Nat) : (k : Int).tmod (pn : Int) = ((k % pn : Nat) : Int) := by
  rw [Int.tmod_eq_emod_of_nonneg (by omega)]; simp
theorem wrap_small (r : Nat) (h : r < 40) : wrap64 (r : Int) = (r : Int) ∧ IntKind.i64.wrap (r : Int) = (r : Int) ∧ IntKind.i64.wrap (1 + (r : Int)) = ((1 + r : Nat) : Int) := by
  refine ⟨?_, ?_, ?_⟩
  · unfold wrap64; omega
  · rw [IntKind.wrap_i64]; omega
  · rw [IntKind.wrap_i64]; omega
theorem wrapT {a m T : Nat} (h : a + m = T) (hT : T ≤ 2000000) : IntKind.i64.wrap ((a : Int) + (m : Int)) = (T : Int) := by
  rw [IntKind.wrap_i64]; omega
end Go.Proofs.Ytckfmpoddmccfaa
