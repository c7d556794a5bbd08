import Derived.Test.YtckfmpoddmccfaaU26
import Derived.Test.YtckfmpoddmccfaaU25
import Derived.Great.BuildSlice
import Derived.Test.YtckfmpoddmccfaaU15
import Derived.Test.YtckfmpoddmccfaaU4
import Derived.Test.YtckfmpoddmccfaaU14
import Derived.Test.YtckfmpoddmccfaaU13
import Derived.Test.YtckfmpoddmccfaaU27
import Derived.Test.YtckfmpoddmccfaaU28
import Derived.Test.YtckfmpoddmccfaaU29
import Derived.Test.YtckfmpoddmccfaaU30
namespace Go.Proofs.Ytckfmpoddmccfaa
open Go.RowKit
set_option linter.unusedVariables false
set_option linter.unusedSimpArgs false
set_option maxRecDepth 100000
/-- the option of heads -/
def hb17 : List Nat := [73, 72, 65, 86, 69, 79, 80, 84, 0, 0, 0, 3, 0, 0, 0, 1, 7]
theorem optC_9 : optC 64 0 (hb17.take 9) = ((0, 0, false, []), 0, 0, hb17.take 9) := by decide
theorem optC_17 : optC 64 0 hb17 = ((3, 1, false, [7]), 1, 0, []) := by decide
theorem blk_crow {W : World} {g : Nat} {l : List Nat} (hg : W.heap[g]? = some (.cells (l.map bv).toArray 5 (0, 0))) (hlt : ∀ x ∈ l, x < 256) (a k c : Nat) (h1 : a + k ≤ l.length) (h2 : k ≤ c) (h3 : c ≤ 9223372036854775807) (h4 : l.length ≤ 140737488351232) : CRow W (some ⟨g, a, none⟩) c ((l.drop a).take k) := by
  have hlen : ((l.drop a).take k).length = k := by rw [List.length_take, List.length_drop]; omega
  refine ⟨⟨fun x hx => hlt x (List.mem_of_mem_drop (List.mem_of_mem_take hx)), by omega, fun h => by simp at h, fun _ => ⟨_, _, rfl, fun j hj => ?_⟩⟩, by omega, h3⟩
  rw [hlen] at hj
  rw [blk_cell hg, List.getElem?_map, List.getElem?_eq_getElem (by omega)]
  simp
set_option maxHeartbeats 8000000 in
theorem heads_any (w : World) : Calls Try.prog 10 #[] w fun e w' => e = .returned (.bool true) ∧ Below w.heap.size w w' := by
  have HN : Hid (Calls Try.prog 18 #[.int .i64 60] w fun e w' => e = .returned (.tuple #[.pointer (some ⟨w.heap.size, 0, none⟩), .int .i64 0]) ∧ Inb w' w.heap.size w.heap.size (.slice none 0 0) 60 0 [] ∧ Below w.heap.size w w') := newI 60 (by decide) (by decide) w
  go_enter Try.func10, Try.ntmps10
  go_wp2_with fail
  refine HN.out.mono ?_
  rintro e W1 ⟨rfl, hI1, hB1⟩
  have HI1 : Hid _ := hI1
  have HB1 : Hid _ := hB1
  clear hI1 hB1 HN
  obtain ⟨W2, hW2⟩ : ∃ W2, W2 = W1.alloc (.cells #[.int .u8 73, .int .u8 72, .int .u8 65, .int .u8 86, .int .u8 69, .int .u8 79, .int .u8 80, .int .u8 84, .int .u8 0, .int .u8 0, .int .u8 0, .int .u8 3, .int .u8 0, .int .u8 0, .int .u8 0, .int .u8 1, .int .u8 7] 5) := ⟨_, rfl⟩
  have hb2 : Below W1.heap.size W1 W2 := by rw [hW2]; exact (Below.refl _ _).alloc (Nat.le_refl _) _
  have hg2 : W2.heap[W1.heap.size]? = some (.cells (hb17.map bv).toArray 5 (0, 0)) := by rw [hW2]; exact heap_new W1 _
  have hlo : w.heap.size < W1.heap.size := block_lt HI1.out.blk
  have hI2 : Inb W2 w.heap.size w.heap.size (.slice none 0 0) 60 0 [] := HI1.out.later hb2
  have HB2 : Hid (Below w.heap.size w W2) := HB1.out.trans (hb2.mono HB1.out.size)
  have HRow : Hid (∀ W : World, W.heap[W1.heap.size]? = some (.cells (hb17.map bv).toArray 5 (0, 0)) → CRow W (some ⟨W1.heap.size, 0, none⟩) 17 ((hb17.drop 0).take 9) ∧ CRow W (some ⟨W1.heap.size, 9, none⟩) 8 ((hb17.drop 9).take 8)) := fun W hg => by
    exact ⟨blk_crow hg (by decide) 0 9 17 (by decide) (by decide) (by decide) (by decide), blk_crow hg (by decide) 9 8 8 (by decide) (by decide) (by decide) (by decide)⟩
  have HFd : Hid _ := feedI hI2 (some ⟨W1.heap.size, 0, none⟩) 17 9 ((hb17.drop 0).take 9) (HRow.out W2 hg2).1 (by show _ = _; rfl) (by decide) 0 9 rfl rfl
  have HG2 : Hid _ := hg2
  clear hb2 hg2 HI1 HB1
  have HI2 : Hid _ := hI2
  clear hI2
  go_wp2_with fail
  rw [← hW2]
  clear hW2
  refine Calls.mono HFd.out ?_
  rintro e W3 ⟨rfl, v3, hI3, hA3⟩
  have el3 : ([] : List Nat) ++ (((hb17.drop 0).take 9).drop 0).take 9 = hb17.take 9 := by decide
  rw [el3] at hI3
  have HG3 : Hid (W3.heap[W1.heap.size]? = some (.cells (hb17.map bv).toArray 5 (0, 0))) := (hA3.kept.block _ (block_lt HG2.out) (by rintro (e | e) <;> first | omega | simp [Value.ownBlock] at e)).trans HG2.out
  have HB3 : Hid (Below w.heap.size w W3) := HB2.out.trans (hA3.below HI2.out)
  have HOp : Hid (Calls Try.prog 24 #[.pointer (some ⟨w.heap.size, 0, none⟩), .int .u32 64] W3 fun e w' => OptI W3 w.heap.size w.heap.size v3 60 (optC 64 0 (hb17.take 9)) e w') := optionI hI3 64 (by decide)
  rw [optC_9] at HOp
  have HI3 : Hid _ := hI3
  have hv3 : ∀ g, v3.ownBlock = some g → g ≠ W1.heap.size := fun g hg e => by
    have h2 := block_lt HG2.out
    rcases hA3.fresh with f | ⟨g', f, hlt⟩
    · rw [f] at hg; simp [Value.ownBlock] at hg
    · rw [hg] at f; simp at f; omega
  have HV3 : Hid _ := hv3
  clear HFd hI3 hA3 el3 hv3 HG2 HB2 HI2
  go_wp2_with fail
  refine HOp.out.mono ?_
  rintro e W4 ⟨c, k, lg, d, cu, ov', l', v4, ao4, cap4, rfl, hx, hI4, hA4, hr4, hn4⟩
  simp only [Prod.mk.injEq] at hx
  obtain ⟨⟨rfl, rfl, rfl, rfl⟩, rfl, rfl, rfl⟩ := hx
  have HG4 : Hid (W4.heap[W1.heap.size]? = some (.cells (hb17.map bv).toArray 5 (0, 0))) := (hA4.kept.block _ (block_lt HG3.out) (by rintro (e | e); (· omega); exact HV3.out _ e rfl)).trans HG3.out
  have hv4 : ∀ g, v4.ownBlock = some g → g ≠ W1.heap.size := fun g hg e => by
    have h2 := block_lt HG3.out
    rcases hA4.fresh with f | ⟨g', f, hlt⟩
    · exact HV3.out g (f ▸ hg) e
    · rw [hg] at f; simp at f; omega
  have HB4 : Hid (Below w.heap.size w W4) := HB3.out.trans (hA4.below HI3.out)
  obtain ⟨W5, hW5⟩ : ∃ W5, W5 = W4.alloc (.cells #[.int .u32 0, .int .u32 0, .bool false, .slice ao4 0 cap4] 57) := ⟨_, rfl⟩
  have hb5 : Below W4.heap.size W4 W5 := by rw [hW5]; exact (Below.refl _ _).alloc (Nat.le_refl _) _
  have hI5 := hI4.later hb5
  have HI5 : Hid _ := hI5
  have HG5 : Hid (W5.heap[W1.heap.size]? = some (.cells (hb17.map bv).toArray 5 (0, 0))) := (hb5.block _ (block_lt HG4.out)).trans HG4.out
  have HB5 : Hid (Below w.heap.size w W5) := HB4.out.trans (hb5.mono HB4.out.size)
  have HFd : Hid _ := feedI hI5 (some ⟨W1.heap.size, 9, none⟩) 8 8 ((hb17.drop 9).take 8) (HRow.out W5 HG5.out).2 (by show _ = _; rfl) (by decide) 0 8 rfl rfl
  clear HOp HI3 HV3 HG3 HB3 hI4 hA4 hr4 hn4 hv4 HG4 HB4 hb5 hI5 HRow
  go_wp2_with fail
  rw [← hW5]
  clear hW5
  refine Calls.mono HFd.out ?_
  rintro e W6 ⟨rfl, v6, hI6, hA6⟩
  have el6 : (hb17.take 9) ++ (((hb17.drop 9).take 8).drop 0).take 8 = hb17 := by decide
  rw [el6] at hI6
  have HB6 : Hid (Below w.heap.size w W6) := HB5.out.trans (hA6.below HI5.out)
  have HOp : Hid (Calls Try.prog 24 #[.pointer (some ⟨w.heap.size, 0, none⟩), .int .u32 64] W6 fun e w' => OptI W6 w.heap.size w.heap.size v6 60 (optC 64 0 hb17) e w') := optionI hI6 64 (by decide)
  rw [optC_17] at HOp
  have HI6 : Hid _ := hI6
  clear HFd hI6 hA6 el6 HI5 HG5 HB5
  go_wp2_with fail
  refine HOp.out.mono ?_
  rintro e W7 ⟨c, k, lg, d, cu, ov', l', v7, ao7, cap7, rfl, hx, hI7, hA7, hr7, hn7⟩
  simp only [Prod.mk.injEq] at hx
  obtain ⟨⟨rfl, rfl, rfl, rfl⟩, rfl, rfl, rfl⟩ := hx
  have HB7 : Hid (Below w.heap.size w W7) := HB6.out.trans (hA7.below HI6.out)
  obtain ⟨W8, hW8⟩ : ∃ W8, W8 = W7.alloc (.cells #[.int .u32 3, .int .u32 1, .bool false, .slice ao7 1 cap7] 57) := ⟨_, rfl⟩
  have hb8 : Below W7.heap.size W7 W8 := by rw [hW8]; exact (Below.refl _ _).alloc (Nat.le_refl _) _
  have HB8 : Hid (Below w.heap.size w W8) := HB7.out.trans (hb8.mono HB7.out.size)
  have hI8 := hI7.later hb8
  have hr8 : W8.ownsRow W6.heap.size 5 1 (.slice ao7 1 cap7) 1 [bv 7] := owns_same hr7 fun g hg => hb8.block g (owns_lt hr7 g hg).1
  obtain ⟨g7, hao⟩ : ∃ g7, ao7 = some ⟨g7, 0, none⟩ := by
    rcases hr8.2 with ⟨hv, hn⟩ | ⟨g, c', cur, hv, _⟩
    · simp at hn
    · simp only [Value.slice.injEq] at hv; exact ⟨g, hv.1⟩
  subst hao
  have x7 : W8.cell? ⟨g7, 0, none⟩ = some (.int .u8 7) := by
    have := hr8.cellAt 0 (by decide)
    simpa [bv] using this
  have HH : Hid _ := heldI hI8
  have HRm : Hid _ := roomI hI8
  clear HOp hI7 hA7 hr7 hn7 hb8 HI6 HB6 HB7 hr8 hI8
  have x8 := x7
  rw [hW8] at x8
  go_wp2_with fail
  rw [← hW8]
  clear hW8 x8
  refine Calls.mono HH.out ?_
  rintro e W9 ⟨rfl, hw9⟩
  rw [hw9]; clear hw9
  go_wp2_with fail
  refine Calls.mono HRm.out ?_
  rintro e W9 ⟨rfl, q, hw9⟩
  have HB9 : Hid (Below w.heap.size w W9) := by
    show Below _ _ _
    rw [hw9]; exact HB8.out.trans ⟨rfl, rfl, rfl, Nat.le_refl _, fun _ _ => rfl⟩
  clear hw9
  go_wp2
  go_ret
  exact ⟨rfl, HB9.out⟩
end Go.Proofs.Ytckfmpoddmccfaa
namespace Go.Proofs.Ytckfmpoddmccfaa
open Go.RowKit
set_option linter.unusedVariables false
set_option linter.unusedSimpArgs false
set_option maxRecDepth 100000
theorem copyA (ao : Option Addr) (cap : Nat) (l : List Nat) (w : World) (h : BRow w ao cap l) :
    Calls Try.prog 67 #[.slice ao l.length cap] w fun e w' => ∃ v, e = .returned v ∧ w'.ownsRow w.heap.size 5 1 v l.length (l.map bv) ∧ Below w.heap.size w w' := by
  cases ao with
  | none =>
    obtain ⟨rfl, rfl⟩ := h.nil rfl
    refine (copy_none w).mono ?_
    rintro e w' ⟨rfl, rfl⟩
    exact ⟨_, rfl, World.ownsRow_nil _ _ _ _, Below.refl _ _⟩
  | some ad => exact copy_some ad cap l w h
set_option maxHeartbeats 2000000 in
theorem lendA (ao : Option Addr) (cap n : Nat) (l : List Nat) (w : World) (h : BRow w ao cap l) (HN : Hid (l.length = n)) (hn : n ≤ 1099511627776) :
    Calls Try.prog 28 #[.slice ao n cap] w fun e w' => ∃ g cp, e = .returned (.slice (some ⟨g, 0, none⟩) n cp) ∧ w'.ownsRow w.heap.size 5 1 (.slice (some ⟨g, 0, none⟩) (n + 3) cp) (n + 3) ((l ++ [90, 91, 92]).map bv) ∧ Below w.heap.size w w' := by
  obtain ⟨i0, hi, hz0, hz1, hz2⟩ := info_parts Try.info5
  have HC : Hid (Calls Try.prog 67 #[.slice ao n cap] w fun e w' => ∃ v, e = .returned v ∧ w'.ownsRow w.heap.size 5 1 v n (l.map bv) ∧ Below w.heap.size w w') := by
    have := copyA ao cap l w h
    rw [HN.out] at this
    exact this
  clear h
  go_enter Try.func28, Try.ntmps28
  go_wp2_with fail
  refine HC.out.mono ?_
  rintro e w1 ⟨v, rfl, ho, hb⟩
  have hsz := hb.size
  have ho1 := ho.alloc (.cells #[.int .u8 90, .int .u8 91, .int .u8 92] 5)
  have hb1 : Below w.heap.size w (w1.alloc (.cells #[.int .u8 90, .int .u8 91, .int .u8 92] 5)) := hb.alloc hsz _
  have HNw : Hid (∀ j u, ([bv 90, bv 91, bv 92] : List Value)[j]? = some u → (w1.alloc (.cells #[.int .u8 90, .int .u8 91, .int .u8 92] 5)).cell? ((⟨w1.heap.size, 0, none⟩ : Addr).add j) = some u) := fun j u hu => by
    rw [add_plain, Nat.zero_add, blk_at (heap_new w1 _)]
    simpa [bv] using hu
  have HO1 : Hid _ := ho1
  have HB1 : Hid _ := hb1
  obtain ⟨vo, vc, hv⟩ := owns_form ho
  subst hv
  clear ho hb ho1 hb1 HC
  go_wp2_with (at_builtin; refine wpList_append_two _ rfl (.tmp 5) (.tmp 6) 22 rfl w.heap.size 5 i0 (.int .u8 0) 1 Try.underlying22 hi hz0 hz1 hz2 rfl (.slice vo n vc) n (l.map bv) rfl HO1.out (some ⟨w1.heap.size, 0, none⟩) 3 3 [bv 90, bv 91, bv 92] rfl (fun e => by simp at e) rfl (fun ad e => by cases e; exact HNw.out) (by simp [bv, Value.oneCell']) (by unfold maxLen; omega) (by omega) (by simp; omega) ?_)
  intro v2 w2 ho2 hg2 hf2
  have HB2 : Hid (Below w.heap.size w w2) := HB1.out.grown hg2 HB1.out.size (fun g hg => (owns_lt HO1.out g hg).2)
  rcases ho2.2 with ⟨hv, hn0⟩ | ⟨g, cp, cur, hv, hbg, hgg, hnc, hcm, hs, htk⟩
  · omega
  · subst hv
    have HO2 : Hid (w2.ownsRow w.heap.size 5 1 (.slice (some ⟨g, 0, none⟩) (n + 3) cp) (n + 3) ((l ++ [90, 91, 92]).map bv)) := by
      show World.ownsRow _ _ _ _ _ _ _
      rw [List.map_append]; exact ho2
    have hcm2 : cp ≤ 9223372036854775807 := by unfold maxLen at hcm; omega
    have h1 : (n : Int) ≤ (cp : Int) := by omega
    clear ho2 hg2 hf2 HO1 HB1 HNw hgg hs htk hbg
    go_wp2
    go_ret
    exact ⟨g, cp, rfl, HO2.out, HB2.out⟩
/-- both inboxes share no block -/
def Apt (b : Nat) (v : Value) (b' : Nat) (v' : Value) : Prop := ∀ g, ifp b v g → ¬ ifp b' v' g
def FedP (w : World) (B b : Nat) (v : Value) (B' b' : Nat) (v' : Value) (rm ov : Nat) (l m : List Nat) (e : Ending) (w' : World) : Prop :=
  e = .returned (.bool true) ∧ ∃ v1 v1', Inb w' B b v1 rm (ov - min m.length ov) (l ++ (m.drop (min m.length ov)).take (min (m.length - min m.length ov) (rm - l.length))) ∧ RIn w' B' b' v1' rm (ov - min m.length ov) (l ++ (m.drop (min m.length ov)).take (min (m.length - min m.length ov) (rm - l.length))) ∧ Apt b v1 b' v1' ∧ KeptIn (fun g => ifp b v g ∨ ifp b' v' g) w w' ∧ Fresh w v v1 ∧ Fresh w v' v1'
theorem Fresh.not {w : World} {v v1 : Value} {g : Nat} (h : Fresh w v v1) (hg : g < w.heap.size) (hn : v.ownBlock ≠ some g) : v1.ownBlock ≠ some g := fun e => by
  rcases h with f | ⟨g', f, hlt⟩
  · exact hn (f ▸ e)
  · rw [e] at f; simp at f; omega
set_option maxHeartbeats 8000000 in
theorem fedA {w : World} {B b B' b' : Nat} {v v' : Value} {rm ov : Nat} {l : List Nat} (h : Inb w B b v rm ov l) (h' : RIn w B' b' v' rm ov l) (hap : Apt b v b' v') (ao : Option Addr) (cap : Nat) (m : List Nat) (hmk : ∀ W, KeptIn (fun g => ifp b v g ∨ ifp b' v' g) w W → CRow W ao cap m) (hn : m.length ≤ 1099511627776) :
    Calls Try.prog 13 #[.pointer (some ⟨b, 0, none⟩), .pointer (some ⟨b', 0, none⟩), .slice ao m.length cap] w fun e w' => FedP w B b v B' b' v' rm ov l m e w' := by
  have hm : CRow w ao cap m := hmk w (KeptIn.refl _ _)
  have HMk : Hid _ := hmk
  clear hmk
  obtain ⟨p, hp⟩ : ∃ p, min m.length ov = p := ⟨_, rfl⟩
  obtain ⟨k, hk⟩ : ∃ k, min (m.length - p) (rm - l.length) = k := ⟨_, rfl⟩
  obtain ⟨n, hN⟩ : ∃ n, m.length = n := ⟨_, rfl⟩
  have HL : Hid _ := lendA ao cap n m w hm.row hN (by omega)
  have HI : Hid (Inb w B b v rm ov l) := h
  have HR : Hid (RIn w B' b' v' rm ov l) := h'
  have HAp : Hid (Apt b v b' v') := hap
  have HM : Hid (CRow w ao cap m) := hm
  have HN : Hid (m.length = n) := hN
  have HPk : Hid (min m.length ov = p ∧ min (m.length - p) (rm - l.length) = k) := ⟨hp, hk⟩
  rw [hN] at hp hk hn
  rw [hN]
  clear h h' hap hm hN
  go_enter Try.func13, Try.ntmps13
  go_wp2_with fail
  refine Calls.mono HL.out ?_
  rintro e w1 ⟨g, cp, rfl, ho1, hb1⟩
  have hg1 := owns_lt ho1 g rfl
  have hcpA : n + 3 ≤ cp ∧ cp ≤ 9223372036854775807 := by
    rcases ho1.2 with ⟨hv, hn0⟩ | ⟨g', c', cur, hv, _, _, hnc, hcm, _⟩
    · omega
    · simp only [Value.slice.injEq] at hv; unfold maxLen at hcm; omega
  have hI1 := HI.out.later hb1
  have hR1 := HR.out.later hb1
  have hl3 : ∀ x ∈ m ++ [90, 91, 92], x < 256 := fun x hx => by
    rcases List.mem_append.1 hx with hx | hx
    · exact HM.out.row.lt x hx
    · simp at hx; omega
  have hLr : CRow w1 (some ⟨g, 0, none⟩) cp m := by
    have hb := BRow.own (l := m ++ [90, 91, 92]) (w := w1) (base := w.heap.size) (v := .slice (some ⟨g, 0, none⟩) (n + 3) cp) (by rw [List.length_append, HN.out]; exact ho1) hl3 (by rw [List.length_append, HN.out]; simp; omega)
    obtain ⟨ao2, c2, hv, hbr⟩ := hb
    rw [List.length_append, HN.out] at hv
    simp only [Value.slice.injEq] at hv
    obtain ⟨rfl, _, rfl⟩ := hv
    refine ⟨⟨HM.out.row.lt, HM.out.row.len, fun e => by simp at e, fun hne => ?_⟩, by rw [HN.out]; omega, hcpA.2⟩
    obtain ⟨b2, off, e, hc⟩ := hbr.at_ (by simp)
    refine ⟨b2, off, e, fun j hj => ?_⟩
    rw [hc j (by rw [List.length_append]; omega), List.getElem_append_left hj]
  have HF : Hid _ := feedI hI1 (some ⟨g, 0, none⟩) cp n m hLr HN (by omega) p k hp hk
  have HO1 : Hid _ := ho1
  have HB1 : Hid _ := hb1
  have HI1 : Hid _ := hI1
  have HR1 : Hid _ := hR1
  have HM1 : Hid (CRow w1 ao cap m) := HM.out.later hb1
  have hgI : ¬ ifp b v g := fun hf => by have := (HI.out.lt g hf).2; omega
  have hgR : ¬ ifp b' v' g := fun hf => by
    have h9 := (HR.out.lt g hf).2; omega
  have HCp : Hid _ := hcpA
  have HL3 : Hid _ := hl3
  clear HL ho1 hb1 hI1 hR1 hLr hcpA hl3
  go_wp2_with fail
  refine Calls.mono HF.out ?_
  rintro e w2 ⟨rfl, v1, hI2, hA2⟩
  have hb2 := hA2.kept
  have hR2 : RIn w2 B' b' v' rm ov l := HR1.out.keep hA2.kept (fun x hx hf => HAp.out x hf hx)
  have hK2 : KeptIn (fun g => ifp b v g ∨ ifp b' v' g) w w2 := (KeptIn.ofBelow HB1.out).trans hA2.kept (fun x _ hn hf => hn (.inl hf))
  have HK2 : Hid _ := hK2
  have hM2 : CRow w2 ao cap m := HMk.out w2 hK2
  have hO2 : w2.ownsRow w.heap.size 5 1 (.slice (some ⟨g, 0, none⟩) (n + 3) cp) (n + 3) ((m ++ [90, 91, 92]).map bv) := owns_same HO1.out fun x hx => by
    simp [Value.ownBlock] at hx
    subst hx
    exact hA2.kept.block _ hg1.1 hgI
  have HRf : Hid _ := rfeedI hR2 ao cap n m hM2 HN (by omega) p k hp hk
  have HI2 : Hid _ := hI2
  have HA2 : Hid _ := hA2
  have HR2 : Hid _ := hR2
  have HM2 : Hid _ := hM2
  have HO2 : Hid _ := hO2
  clear HF hI2 hA2 hR2 hM2 hO2 HI1 HR1 HM1 hb2 hK2
  go_wp2_with fail
  refine Calls.mono HRf.out ?_
  rintro e w3 ⟨rfl, v1', hR3, hA3⟩
  have hszw := HB1.out.size
  have hA2f := HA2.out.fresh
  have hapI : ∀ x, ifp b v1 x → ¬ ifp b' v' x := fun x hx hf => by
    rcases hx with rfl | hx
    · exact HAp.out _ (.inl rfl) hf
    · have hlt := (HR.out.lt x hf).2
      rcases hA2f with f | ⟨g', f, hge⟩
      · exact HAp.out x (.inr (f ▸ hx)) hf
      · rw [hx] at f; simp at f; omega
  have hI3 := HI2.out.keep hA3.kept hapI
  have hK3 : KeptIn (fun g => ifp b v g ∨ ifp b' v' g) w w3 := HK2.out.trans hA3.kept (fun x _ hn hf => hn (.inr hf))
  have hgI3 : ¬ ifp b v1 g := fun hx => by
    rcases hx with rfl | hx
    · exact hgI (.inl rfl)
    · exact Fresh.not hA2f hg1.1 (fun e => hgI (.inr e)) hx
  have hg2 : g < w2.heap.size := Nat.lt_of_lt_of_le hg1.1 HA2.out.kept.size
  have hO3 : w3.ownsRow w.heap.size 5 1 (.slice (some ⟨g, 0, none⟩) (n + 3) cp) (n + 3) ((m ++ [90, 91, 92]).map bv) := owns_same HO2.out fun x hx => by
    simp [Value.ownBlock] at hx
    subst hx
    exact hA3.kept.block _ hg2 hgR
  have hgR3 : ¬ ifp b' v1' g := fun hx => by
    rcases hx with rfl | hx
    · exact hgR (.inl rfl)
    · exact Fresh.not hA3.fresh hg2 (fun e => hgR (.inr e)) hx
  have hap3 : Apt b v1 b' v1' := fun x hx hf => by
    have hlt := (HI2.out.lt x hx).2
    rcases hf with rfl | hf
    · exact hapI _ hx (.inl rfl)
    · exact Fresh.not hA3.fresh hlt (fun e => hapI x hx (.inr e)) hf
  have hF1 : Fresh w v v1 := by
    rcases hA2f with f | ⟨g', f, hge⟩
    · exact .inl f
    · exact .inr ⟨g', f, by omega⟩
  have hF2 : Fresh w v' v1' := by
    rcases hA3.fresh with f | ⟨g', f, hge⟩
    · exact .inl f
    · exact .inr ⟨g', f, by have := HA2.out.kept.size; omega⟩
  have HMw : Hid (∀ W, KeptIn (fun x => x = g) w3 W → CRow W ao cap m) := fun W hW => HMk.out W (hK3.trans hW (fun x hx _ e => by omega))
  have HFin : Hid (∀ W, KeptIn (fun x => x = g) w3 W → Inb W B b v1 rm (ov - p) (l ++ (m.drop p).take k) ∧ RIn W B' b' v1' rm (ov - p) (l ++ (m.drop p).take k) ∧ Apt b v1 b' v1' ∧ KeptIn (fun g => ifp b v g ∨ ifp b' v' g) w W ∧ Fresh w v v1 ∧ Fresh w v' v1') := fun W hW =>
    ⟨hI3.keep hW (fun x hx e => hgI3 (by subst e; exact hx)), hR3.keep hW (fun x hx e => hgR3 (by subst e; exact hx)), hap3, hK3.trans hW (fun x hx _ e => by omega), hF1, hF2⟩
  have HO3 : Hid _ := hO3
  have hM3 : CRow w3 ao cap m := HMw.out w3 (KeptIn.refl _ _)
  have hrow3 : BRow w3 (some ⟨g, 0, none⟩) cp m := by
    have hb := BRow.own (l := m ++ [90, 91, 92]) (w := w3) (base := w.heap.size) (v := .slice (some ⟨g, 0, none⟩) (n + 3) cp) (by rw [List.length_append, HN.out]; exact hO3) HL3.out (by rw [List.length_append, HN.out]; simp; omega)
    obtain ⟨ao2, c2, hv, hbr⟩ := hb
    rw [List.length_append, HN.out] at hv
    simp only [Value.slice.injEq] at hv
    obtain ⟨rfl, _, rfl⟩ := hv
    refine ⟨HM.out.row.lt, HM.out.row.len, fun e => by simp at e, fun hne => ?_⟩
    obtain ⟨b2, off, e, hc⟩ := hbr.at_ (by simp)
    refine ⟨b2, off, e, fun j hj => ?_⟩
    rw [hc j (by rw [List.length_append]; omega), List.getElem_append_left hj]
  have HSm : Hid (Calls Try.prog 30 #[.slice (some ⟨g, 0, none⟩) n cp, .slice ao n cap] w3 fun e w' => e = .returned (.bool true) ∧ ∃ q, w' = w3.drewN q) := by
    have := same_any (some ⟨g, 0, none⟩) ao cp cap m m w3 hrow3 hM3.row
    rw [HN.out] at this
    simp at this
    exact this
  have hc1 := HCp.out.1
  have hc2 := HCp.out.2
  have z0 : w3.cell? ⟨g, n, none⟩ = some (.int .u8 90) := by
    rw [hO3.cellAt n (by omega)]; simp [bv, HN.out]
  have z1 : w3.cell? ⟨g, n + 1, none⟩ = some (.int .u8 91) := by
    rw [hO3.cellAt (n + 1) (by omega)]; simp [bv, HN.out]
  have z2 : w3.cell? ⟨g, n + 2, none⟩ = some (.int .u8 92) := by
    rw [hO3.cellAt (n + 2) (by omega)]; simp [bv, HN.out]
  clear HRf hR3 hA3 hI3 hK3 hO3 hap3 hapI hgI3 hgR3 hF1 hF2 HI2 HA2 HR2 HM2 HO2 HK2 hA2f HMk hM3 hrow3 HI HR HAp HB1 hg2
  have s3 : IntKind.i64.wrap ((n : Int) + 3) = (n : Int) + 3 := by rw [IntKind.wrap_i64]; omega
  have s1 : IntKind.i64.wrap ((n : Int) + 1) = (n : Int) + 1 := by rw [IntKind.wrap_i64]; omega
  have s2 : IntKind.i64.wrap ((n : Int) + 2) = (n : Int) + 2 := by rw [IntKind.wrap_i64]; omega
  have t3 : (n : Int) + 3 ≤ (cp : Int) := by omega
  have t3n : ((n : Int) + 3).toNat = n + 3 := by omega
  have t1n : ((n : Int) + 1).toNat = n + 1 := by omega
  have t2n : ((n : Int) + 2).toNat = n + 2 := by omega
  have t0 : (0 : Int) ≤ (n : Int) + 3 := by omega
  have t4 : (0 : Int) ≤ (n : Int) + 1 := by omega
  have t5 : (0 : Int) ≤ (n : Int) + 2 := by omega
  have t6 : (n : Int) < (n : Int) + 3 := by omega
  have t7 : (n : Int) + 1 < (n : Int) + 3 := by omega
  have t8 : (n : Int) + 2 < (n : Int) + 3 := by omega
  go_wp2_with fail
  refine HSm.out.mono ?_
  rintro e w4 ⟨rfl, q, hw4⟩
  have HO4 : Hid (w4.ownsRow w.heap.size 5 1 (.slice (some ⟨g, 0, none⟩) (n + 3) cp) (n + 3) ((m ++ [90, 91, 92]).map bv)) := by
    show World.ownsRow _ _ _ _ _ _ _
    rw [hw4]; exact owns_same HO3.out fun _ _ => rfl
  have HK4 : Hid (KeptIn (fun x => x = g) w3 w4) := by
    show KeptIn _ _ _
    rw [hw4]; exact keptIn_drewN (KeptIn.refl _ _) q
  have y0 : w4.cell? ⟨g, n, none⟩ = some (.int .u8 90) := by rw [hw4]; exact z0
  have y1 : w4.cell? ⟨g, n + 1, none⟩ = some (.int .u8 91) := by rw [hw4]; exact z1
  have y2 : w4.cell? ⟨g, n + 2, none⟩ = some (.int .u8 92) := by rw [hw4]; exact z2
  clear hw4 z0 z1 z2 HSm HO3
  go_wp2
  go_loopw [13] (fun i wr => ∃ j : Nat, j ≤ n + 3 ∧ i = .int .i64 (j : Int) ∧ ∃ C : List Nat, Hid (C.length = n + 3 ∧ wr.ownsRow w.heap.size 5 1 (.slice (some ⟨g, 0, none⟩) (n + 3) cp) (n + 3) (C.map bv) ∧ (∀ x ∈ C, x < 256) ∧ KeptIn (fun x => x = g) w3 wr)) (fun i _ => n + 3 - (intOf i).toNat)
  case atStart => exact ⟨0, Nat.zero_le _, rfl, m ++ [90, 91, 92], by rw [List.length_append, HN.out]; rfl, HO4.out, HL3.out, HK4.out⟩
  case round =>
    obtain ⟨j, hj, rfl, C, HC⟩ := hrel
    by_cases hlt : j < n + 3
    · have hC := HC.out.1
      have ho := HC.out.2.1
      have hjz : (j : Int) < (n : Int) + 3 := by omega
      obtain ⟨x, hx⟩ : ∃ x, C[j]?.getD 0 = x := ⟨_, rfl⟩
      have hx256 : x < 256 := by
        rw [← hx, List.getElem?_eq_getElem (by omega)]; exact HC.out.2.2.1 _ (List.getElem_mem _)
      have hc0 : wr.cell? ⟨g, j, none⟩ = some (.int .u8 (x : Int)) := by
        rw [ho.cellAt j (by omega)]; simp [bv, hC, hlt, ← hx]
      have hf0 := ho.frozenAt j
      have hwr : IntKind.u8.wrap ((x : Int) + 1) = (((x + 1) % 256 : Nat) : Int) := by rw [IntKind.wrap_u8]; omega
      obtain ⟨hs1, hg1'⟩ := ho.stored j (bv ((x + 1) % 256))
      obtain ⟨y, hy⟩ : ∃ y, (x + 1) % 256 = y := ⟨_, rfl⟩
      rw [hy] at hs1 hg1' hwr
      have H2 : Hid ((C.set j y).length = n + 3 ∧ (wr.setCell ⟨g, j, none⟩ (.int .u8 (y : Int))).ownsRow w.heap.size 5 1 (.slice (some ⟨g, 0, none⟩) (n + 3) cp) (n + 3) ((C.set j y).map bv) ∧ (∀ x ∈ C.set j y, x < 256) ∧ KeptIn (fun x => x = g) w3 (wr.setCell ⟨g, j, none⟩ (.int .u8 (y : Int)))) := by
        refine ⟨by simp [hC], by rw [List.map_set]; exact hs1, fun z hz => ?_, HC.out.2.2.2.trans (T := fun x => x = g) ⟨rfl, rfl, rfl, by simp [World.setCell], fun k _ hn => Below.heap_setCell _ _ _ _ hn⟩ (fun _ _ hn => hn)⟩
        rcases List.mem_or_eq_of_mem_set hz with h9 | h9
        · exact HC.out.2.2.1 z h9
        · omega
      clear hs1 hg1' ho HC hC hx hy
      go_wp2
      go_roundw
      case rel => exact ⟨j + 1, by omega, by go_num, _, H2⟩
      case measure => simp [intOf]; omega
    · obtain rfl : j = n + 3 := by omega
      have hd : ¬ (((n + 3 : Nat) : Int) < (n : Int) + 3) := by omega
      have HE : Hid _ := HFin.out wr HC.out.2.2.2
      clear HC HO4 HK4 HFin HMw
      go_wp2
      go_ret
      refine ⟨rfl, v1, v1', ?_⟩
      rw [HPk.out.1, HPk.out.2]
      exact HE.out
end Go.Proofs.Ytckfmpoddmccfaa
namespace Go.Proofs.Ytckfmpoddmccfaa
open Go.RowKit
set_option linter.unusedVariables false
set_option linter.unusedSimpArgs false
set_option maxRecDepth 100000
/-- what is held lies in the old block, in a new one or nowhere -/
structure RAct (w w' : World) (b : Nat) (v v' : Value) : Prop where
  kept : KeptIn (ifp b v) w w'
  fresh : ∀ g, v'.ownBlock = some g → v.ownBlock = some g ∨ w.heap.size ≤ g
theorem RAct.ofI {w w' : World} {b : Nat} {v v' : Value} (h : IAct w w' b v v') : RAct w w' b v v' := ⟨h.kept, fun g hg => by
  rcases h.fresh with f | ⟨g', f, hlt⟩
  · exact .inl (f ▸ hg)
  · rw [hg] at f; simp at f; subst f; exact .inr hlt⟩
theorem RAct.ofBelow {w w' : World} {b : Nat} {v : Value} (h : Below w.heap.size w w') : RAct w w' b v v := .ofI (IAct.ofBelow h)
theorem RAct.trans {a c d : World} {b : Nat} {v v' v'' : Value} (h : RAct a c b v v') (k : RAct c d b v' v'') : RAct a d b v v'' := by
  refine ⟨h.kept.trans k.kept ?_, fun g hg => ?_⟩
  · rintro g hg hn (rfl | he)
    · exact hn (.inl rfl)
    · rcases h.fresh g he with e | e
      · exact hn (.inr e)
      · omega
  · rcases k.fresh g hg with e | e
    · exact h.fresh g e
    · exact .inr (Nat.le_trans h.kept.size e)
theorem RAct.below {w w' : World} {B b : Nat} {v v' : Value} {rm ov : Nat} {l : List Nat} (h : RAct w w' b v v') (hi : RIn w B b v rm ov l) : Below B w w' :=
  h.kept.below (Nat.le_trans hi.hb (Nat.le_of_lt (block_lt hi.blk))) (fun g hg hf => by have := (hi.lt g hf).1; omega)
/-- other bytes are held -/
theorem RIn.putR {w w1 : World} {B b : Nat} {v v' : Value} {rm ov : Nat} {l l' : List Nat} (h : RIn w B b v rm ov l) (hb : Below w.heap.size w w1) (hr : HRow w1 B v' l') (hf : ∀ g, v'.ownBlock = some g → v.ownBlock = some g ∨ w.heap.size ≤ g) (hle : l'.length ≤ rm) :
    (w1.cell? ⟨b, 1, none⟩ = some v ∧ w1.frozen? ⟨b, 1, none⟩ = false) ∧ RIn (w1.setCell ⟨b, 1, none⟩ v') B b v' rm ov l' ∧ RAct w (w1.setCell ⟨b, 1, none⟩ v') b v v' := by
  have hb1 : w1.heap[b]? = some (.cells #[.int .i64 (rm : Int), v, .int .u64 (ov : Int)] TRi (0, 0)) := (hb.block b (block_lt h.blk)).trans h.blk
  have hne : ∀ g, v'.ownBlock = some g → g ≠ b := fun g hg' e => by
    subst e
    obtain ⟨_, _, cur, hc⟩ := hr.lo g hg'
    have := hb1.symm.trans hc
    simp at this
    exact absurd this.2 (by decide)
  refine ⟨⟨by rw [blk_at hb1]; rfl, blk_free hb1 1⟩, ⟨?_, hr.same fun g hg' => Below.heap_setCell _ _ _ _ (hne g hg'), h.hb, h.r1, h.r2, hle, h.ov4⟩, ⟨hb.os, hb.tape, hb.output, ?_, fun g hg' hn => ?_⟩, hf⟩
  · have := heap_setCell_same w1 b 1 _ TRi v' hb1
    rw [this]; rfl
  · have := hb.size; simpa [World.setCell] using this
  · rw [Below.heap_setCell _ _ _ _ (fun e => hn (.inl e))]
    exact hb.block g hg'
/-- an inbox, boxes and a row of bytes, while a cut is made -/
structure Cr (w W : World) (B b : Nat) (v v' : Value) (rm ov : Nat) (l : List Nat) (bs : List (Nat × Array Value × TypeId)) (dv : Value) (d : List Nat) : Prop where
  inb : RIn W B b v' rm ov l
  act : RAct w W b v v'
  bw : b < w.heap.size
  box : ∀ x ∈ bs, W.heap[x.1]? = some (.cells x.2.1 x.2.2 (0, 0)) ∧ w.heap.size ≤ x.1 ∧ x.2.2 ≠ 5
  nd : (bs.map (·.1)).Nodup
  row : W.ownsRow w.heap.size 5 1 dv d.length (d.map bv)
  rn : ∀ g, dv.ownBlock = some g → v'.ownBlock ≠ some g
section
variable {w W W' : World} {B b : Nat} {v v' : Value} {rm ov : Nat} {l : List Nat} {bs : List (Nat × Array Value × TypeId)} {dv : Value} {d : List Nat}
theorem Cr.later (h : Cr w W B b v v' rm ov l bs dv d) (hb : Below W.heap.size W W') : Cr w W' B b v v' rm ov l bs dv d :=
  ⟨h.inb.later hb, h.act.trans (RAct.ofBelow hb), h.bw, fun x hx => ⟨(hb.block _ (block_lt (h.box x hx).1)).trans (h.box x hx).1, (h.box x hx).2⟩, h.nd, owns_same h.row fun g hg => hb.block g (owns_lt h.row g hg).1, h.rn⟩
theorem Cr.ne5 (h : Cr w W B b v v' rm ov l bs dv d) {x : Nat × Array Value × TypeId} (hx : x ∈ bs) : ¬ ifp b v' x.1 ∧ dv.ownBlock ≠ some x.1 := by
  obtain ⟨h1, h2, h3⟩ := h.box x hx
  have hbw := h.bw
  refine ⟨?_, fun e => ?_⟩
  · rintro (e | e)
    · omega
    · obtain ⟨_, _, cur, hc⟩ := h.inb.row.lo _ e
      have := h1.symm.trans hc
      simp at this
      exact h3 this.2
  · obtain ⟨cur, hc⟩ := owns_type h.row _ e
    have := h1.symm.trans hc
    simp at this
    exact h3 this.2
theorem Cr.put {pre post : List (Nat × Array Value × TypeId)} {g : Nat} {cs : Array Value} {t : TypeId} (h : Cr w W B b v v' rm ov l (pre ++ (g, cs, t) :: post) dv d) (j : Nat) (u : Value) {cs' : Array Value} (hcs : cs.setIfInBounds j u = cs') : Cr w (W.setCell ⟨g, j, none⟩ u) B b v v' rm ov l (pre ++ (g, cs', t) :: post) dv d := by
  have hg : (g, cs, t) ∈ pre ++ (g, cs, t) :: post := by simp
  obtain ⟨h1, h2, h3⟩ := h.box _ hg
  obtain ⟨n1, n2⟩ := h.ne5 hg
  have hk : KeptIn (fun k => k = g) W (W.setCell ⟨g, j, none⟩ u) := ⟨rfl, rfl, rfl, by simp [World.setCell], fun k _ hn => Below.heap_setCell _ _ _ _ hn⟩
  have hnd := h.nd
  rw [List.map_append, List.map_cons, List.nodup_append, List.nodup_cons] at hnd
  obtain ⟨hn1, ⟨hn2, hn3⟩, hn4⟩ := hnd
  have hoth : ∀ x, x ∈ pre ∨ x ∈ post → x.1 ≠ g := by
    rintro x (hx | hx) e
    · exact hn4 x.1 (List.mem_map_of_mem hx) g (by simp) e
    · exact hn2 (List.mem_map.2 ⟨x, hx, e⟩)
  refine ⟨h.inb.keep hk (fun k hf e => n1 (by subst e; exact hf)), ⟨h.act.kept.trans hk (fun k hk2 _ e => by have h2' : w.heap.size ≤ g := h2; omega), h.act.fresh⟩, h.bw, fun x hx => ?_, by simpa using h.nd, owns_same h.row fun k hk2 => Below.heap_setCell _ _ _ _ (fun e => n2 (by rw [hk2, e])), h.rn⟩
  have key : ∀ x, x ∈ pre ∨ x ∈ post → (W.setCell ⟨g, j, none⟩ u).heap[x.1]? = some (.cells x.2.1 x.2.2 (0, 0)) ∧ w.heap.size ≤ x.1 ∧ x.2.2 ≠ 5 := fun x hx' => by
    obtain ⟨k1, k2⟩ := h.box x (by rcases hx' with e | e <;> simp [e])
    exact ⟨(Below.heap_setCell _ _ _ _ (hoth x hx')).trans k1, k2⟩
  rcases List.mem_append.1 hx with hx' | hx'
  · exact key x (.inl hx')
  · rcases List.mem_cons.1 hx' with rfl | hx'
    · refine ⟨?_, h2, h3⟩
      have := heap_setCell_same W g j cs t u h1
      rw [this, hcs]
    · exact key x (.inr hx')
theorem Cr.alloc (h : Cr w W B b v v' rm ov l bs dv d) (cs : Array Value) (t : TypeId) (ht : t ≠ 5) : Cr w (W.alloc (.cells cs t)) B b v v' rm ov l ((W.heap.size, cs, t) :: bs) dv d := by
  have h2 := h.later (W' := W.alloc (.cells cs t)) ((Below.refl _ _).alloc (Nat.le_refl _) _)
  refine ⟨h2.inb, h2.act, h2.bw, fun x hx => ?_, ?_, h2.row, h2.rn⟩
  · rcases List.mem_cons.1 hx with rfl | hx
    · exact ⟨heap_new W _, h.act.kept.size, ht⟩
    · exact h2.box x hx
  · rw [List.map_cons, List.nodup_cons]
    refine ⟨fun hm => ?_, h.nd⟩
    obtain ⟨x, hx, e⟩ := List.mem_map.1 hm
    have e' : x.1 = W.heap.size := e
    have := block_lt (h.box x hx).1
    omega
theorem Cr.told (h : Cr w W B b v v' rm ov l bs dv d) {ao : Option Addr} {cap : Nat} {d' : List Nat} (hr : Row W W' ao cap d') : Cr w W' B b v v' rm ov l bs (.slice ao d'.length cap) d' := by
  have h2 := h.later hr.bel
  refine ⟨h2.inb, h2.act, h2.bw, h2.box, h2.nd, owns_mono hr.own h.act.kept.size, fun g hg e => ?_⟩
  have h1 := (owns_lt hr.own g hg).2
  have h3 := (h.inb.row.lo g e).2.1
  omega
theorem Cr.acts {v'' : Value} {ov' : Nat} {l' : List Nat} (h : Cr w W B b v v' rm ov l bs dv d) (hi : RIn W' B b v'' rm ov' l') (ha : RAct W W' b v' v'') : Cr w W' B b v v'' rm ov' l' bs dv d := by
  refine ⟨hi, h.act.trans ha, h.bw, fun x hx => ?_, h.nd, owns_same h.row fun g hg => ha.kept.block g (owns_lt h.row g hg).1 ?_, fun g hg e => ?_⟩
  · exact ⟨(ha.kept.block _ (block_lt (h.box x hx).1) (h.ne5 hx).1).trans (h.box x hx).1, (h.box x hx).2⟩
  · rintro (e | e)
    · have h1 := (owns_lt h.row g hg).2
      have := h.bw
      omega
    · exact h.rn g hg e
  · rcases ha.fresh g e with f | f
    · exact h.rn g hg f
    · have := (owns_lt h.row g hg).1
      omega
theorem Cr.c (h : Cr w W B b v v' rm ov l bs dv d) {g : Nat} {cs : Array Value} {t : TypeId} (hg : (g, cs, t) ∈ bs) (j : Nat) : W.cell? ⟨g, j, none⟩ = cs[j]? ∧ W.frozen? ⟨g, j, none⟩ = false :=
  ⟨blk_at (h.box _ hg).1 j, blk_free (h.box _ hg).1 j⟩
theorem Cr.start (h : RIn w B b v rm ov l) : Cr w w B b v v rm ov l [] (.slice none 0 0) [] :=
  ⟨h, ⟨KeptIn.refl _ _, fun _ h => .inl h⟩, block_lt h.blk, by simp, by simp, World.ownsRow_nil _ _ _ _, by simp [Value.ownBlock]⟩
theorem Cr.drew (h : Cr w W B b v v' rm ov l bs dv d) : Cr w W.drew B b v v' rm ov l bs dv d := h.later ⟨rfl, rfl, rfl, Nat.le_refl _, fun _ _ => rfl⟩
end
section
variable {w : World} {B b : Nat} {v : Value} {rm ov : Nat} {l : List Nat}
theorem hasR (h : RIn w B b v rm ov l) (n : Nat) : Calls Try.prog 86 #[.pointer (some ⟨b, 0, none⟩), .int .i64 (n : Int)] w fun e w' => e = .returned (.bool (decide (ov = 0) && decide (n ≤ l.length))) ∧ w' = w := by
  obtain ⟨ao, cap, rfl, hcr⟩ := h.row.crow
  have c1 : w.cell? ⟨b, 1, none⟩ = some (.slice ao l.length cap) := h.c 1
  have c2 : w.cell? ⟨b, 2, none⟩ = some (.int .u64 (ov : Int)) := h.c 2
  by_cases h0 : ov = 0
  · subst h0
    have HE : Hid (decide ((n : Int) ≤ (l.length : Int)) = (decide ((0 : Nat) = 0) && decide (n ≤ l.length))) := by show _ = _; simp
    go_enter Try.func86, Try.ntmps86
    go_wp2
    go_ret
    refine ⟨?_, rfl⟩
    simp
  · have h0' : ((ov : Int) == 0) = false := by simp [h0]
    go_enter Try.func86, Try.ntmps86
    go_wp2
    go_ret
    refine ⟨?_, rfl⟩
    simp [h0]
theorem uR (h : RIn w B b v rm ov l) (a k : Nat) (hak : a + k ≤ l.length) (hk : k ≤ 8) (hk0 : 1 ≤ k) :
    Calls Try.prog 87 #[.pointer (some ⟨b, 0, none⟩), .int .i64 (a : Int), .int .i64 (k : Int)] w fun e w' => e = .returned (.int .u64 (vl l a k : Int)) ∧ Below w.heap.size w w' := by
  obtain ⟨ao, cap, rfl, hcr⟩ := h.row.crow
  have hlen := h.row.len
  have hne : l ≠ [] := by rintro rfl; simp at hak; omega
  obtain ⟨g, off, rfl, _⟩ := hcr.row.at_ hne
  have c1 : w.cell? ⟨b, 1, none⟩ = some (.slice (some ⟨g, off, none⟩) l.length cap) := h.c 1
  have hcap1 := hcr.cap1
  have hcap2 := hcr.cap2
  obtain ⟨n, hn⟩ : ∃ n, l.length = n := ⟨_, rfl⟩
  have hp := hcr.part a k hak _ rfl
  rw [if_neg (by omega)] at hp
  have hlk : ((l.drop a).take k).length = k := by rw [List.length_take, List.length_drop]; omega
  have HV : Hid (Calls Try.prog 114 #[.slice (some ⟨g, off + a, none⟩) k (cap - a)] w fun e w' => e = .returned (.int .u64 (vl l a k : Int)) ∧ Below w.heap.size w w') := by
    refine Calls.mono (value_some g (off + a) (cap - a) k ((l.drop a).take k) w hk hlk hp.lt (fun j hj => ?_)) ?_
    · obtain ⟨b', off', e, hc⟩ := hp.at_ (by rintro e; rw [e] at hlk; simp at hlk; omega)
      cases e
      have := hc j (by omega)
      rw [this, List.getElem?_eq_getElem (by omega)]; rfl
    · rintro e w' ⟨rfl, q, rfl⟩
      exact ⟨rfl, ⟨rfl, rfl, rfl, Nat.le_refl _, fun _ _ => rfl⟩⟩
  rw [hn] at hcap1 hlen c1 hak
  generalize vl l a k = x at *
  have h2 : ¬ cap = a := by omega
  have h1 : (a : Int) + (k : Int) ≤ (cap : Int) := by omega
  have h3 : (a : Int) ≤ (a : Int) + (k : Int) := by omega
  have h4 : ((a : Int) + (k : Int) - (a : Int)).toNat = k := by omega
  clear h hp hlk hcr hne hn
  go_enter Try.func87, Try.ntmps87
  go_wp2_with fail
  refine HV.out.mono ?_
  rintro e w1 ⟨rfl, hb⟩
  have HB : Hid _ := hb
  clear hb HV
  go_wp2
  go_ret
  exact ⟨rfl, HB.out⟩
theorem Cr.told2 {W W' : World} {v' v'' : Value} {ov' : Nat} {l' : List Nat} {bs : List (Nat × Array Value × TypeId)} {dv dv' : Value} {d d' : List Nat} (h : Cr w W B b v v' rm ov l bs dv d) (hi : RIn W' B b v'' rm ov' l') (ha : RAct W W' b v' v'') (hr : W'.ownsRow W.heap.size 5 1 dv' d'.length (d'.map bv)) (hn : ∀ g, dv'.ownBlock = some g → v''.ownBlock ≠ some g) : Cr w W' B b v v'' rm ov' l' bs dv' d' := by
  have h2 := h.acts hi ha
  exact ⟨h2.inb, h2.act, h2.bw, h2.box, h2.nd, owns_mono hr h.act.kept.size, hn⟩
theorem cut_end {W1 W2 : World} {n m : Nat} {ao2 : Option Addr} {cap2 : Nat} {u2 : Value} (h : RIn w B b v rm ov l) (hb1 : Below w.heap.size w W1) (ho1 : W1.ownsRow w.heap.size 5 1 (.slice ao2 n cap2) n ((l.take n).map bv)) (ho2 : W2.ownsRow W1.heap.size 5 1 u2 (m - n) ((l.drop n).map bv)) (hb2 : Below W1.heap.size W1 W2) (hm : l.length = m) :
    (W2.cell? ⟨b, 1, none⟩ = some v ∧ W2.frozen? ⟨b, 1, none⟩ = false) ∧ RIn (W2.setCell ⟨b, 1, none⟩ u2) B b u2 rm ov (l.drop n) ∧ RAct w (W2.setCell ⟨b, 1, none⟩ u2) b v u2 ∧ (W2.setCell ⟨b, 1, none⟩ u2).ownsRow w.heap.size 5 1 (.slice ao2 n cap2) n ((l.take n).map bv) ∧ ∀ g, (Value.slice ao2 n cap2).ownBlock = some g → u2.ownBlock ≠ some g := by
  have hbb : Below w.heap.size w W2 := hb1.trans (hb2.mono hb1.size)
  have hB : B ≤ W1.heap.size := Nat.le_trans (Nat.le_trans h.hb (Nat.le_of_lt (block_lt h.blk))) hb1.size
  have hld : (l.drop n).length = m - n := by rw [List.length_drop, hm]
  have hrow : HRow W2 B u2 (l.drop n) := ⟨fun x hx => h.row.lt x (List.mem_of_mem_drop hx), by have := h.row.len; rw [hld]; omega, .inl (by rw [hld]; exact owns_mono ho2 hB)⟩
  obtain ⟨c, hI, hA⟩ := h.putR hbb hrow (fun g hg => .inr (Nat.le_trans hb1.size (owns_lt ho2 g hg).2)) (by have := h.le; rw [hld]; omega)
  refine ⟨c, hI, hA, ?_, fun g hg e => ?_⟩
  · have h2 := owns_same ho1 fun g hg => hb2.block g (owns_lt ho1 g hg).1
    refine owns_same h2 fun g hg => Below.heap_setCell _ _ _ _ (fun e => ?_)
    have e' : g = b := e
    have h3 := (owns_lt ho1 g hg).2
    have h4 := block_lt h.blk
    omega
  · have h3 := (owns_lt ho1 g hg).1
    have h4 := (owns_lt ho2 g e).2
    omega
theorem cutR (h : RIn w B b v rm ov l) (n : Nat) (hn : n ≤ l.length) :
    Calls Try.prog 88 #[.pointer (some ⟨b, 0, none⟩), .int .i64 (n : Int)] w fun e w' => ∃ (ao2 : Option Addr) (cap2 : Nat) (v' : Value), e = .returned (.slice ao2 n cap2) ∧ RIn w' B b v' rm ov (l.drop n) ∧ RAct w w' b v v' ∧ w'.ownsRow w.heap.size 5 1 (.slice ao2 n cap2) n ((l.take n).map bv) ∧ ∀ g, (Value.slice ao2 n cap2).ownBlock = some g → v'.ownBlock ≠ some g := by
  obtain ⟨ao, cap, hv, hcr⟩ := h.row.crow
  have HR : Hid _ := h
  have hlen := h.row.len
  have hcap1 := hcr.cap1
  have hcap2 := hcr.cap2
  obtain ⟨m, hm⟩ : ∃ m, l.length = m := ⟨_, rfl⟩
  have hlt : (l.take n).length = n := by rw [List.length_take]; omega
  have hld : (l.drop n).length = m - n := by rw [List.length_drop, hm]
  have hc1 : w.cell? ⟨b, 1, none⟩ = some (.slice ao m cap) := by rw [← hm, ← hv]; exact h.c 1
  have hB : B ≤ w.heap.size := Nat.le_trans h.hb (Nat.le_of_lt (block_lt h.blk))
  have HC1 : Hid (Calls Try.prog 67 #[.slice ao n cap] w fun e w' => ∃ u, e = .returned u ∧ w'.ownsRow w.heap.size 5 1 u n ((l.take n).map bv) ∧ Below w.heap.size w w') := by
    have hb : BRow w ao cap (l.take n) := by
      refine ⟨fun x hx => hcr.row.lt x (List.mem_of_mem_take hx), by rw [hlt]; omega, fun e => ⟨by rw [(hcr.row.nil e).1]; simp, (hcr.row.nil e).2⟩, fun hne => ?_⟩
      obtain ⟨g, off, e, hc⟩ := hcr.row.at_ (by rintro rfl; simp at hne)
      refine ⟨g, off, e, fun k hk => ?_⟩
      rw [hc k (by rw [hlt] at hk; omega), List.getElem_take]
    have := copyA ao cap (l.take n) w hb
    rw [hlt] at this
    exact this
  have hbX : ∀ W, Below w.heap.size w W → BRow W (if cap = n then ao else Option.map (fun x => x.add n) ao) (cap - n) (l.drop n) := fun W hW => by
    have hcW := hcr.later hW
    cases ao with
    | none =>
      have he := (hcr.row.nil rfl)
      have : l.drop n = [] := by rw [he.1]; simp
      rw [this, he.2]
      have e0 : (if 0 = n then (none : Option Addr) else Option.map (fun x : Addr => x.add n) none) = none := by split <;> rfl
      rw [e0]
      exact ⟨by simp, by simp, fun _ => ⟨rfl, by simp⟩, fun h => absurd rfl h⟩
    | some a =>
      by_cases hl0 : l = []
      · subst hl0
        refine ⟨by simp, by simp, fun e => ?_, fun h => by simp at h⟩
        exfalso
        revert e
        split <;> simp
      · obtain ⟨g, off, e, _⟩ := hcr.row.at_ hl0
        cases e
        have hp := hcW.part n (m - n) (by omega) _ rfl
        rw [List.take_of_length_le (by rw [hld]; exact Nat.le_refl _)] at hp
        by_cases hcn : cap = n
        · rw [if_pos hcn] at hp ⊢; exact hp
        · rw [if_neg hcn] at hp ⊢
          simp only [Option.map_some, add_plain]
          exact hp
  have HC2 : Hid (∀ W, Below w.heap.size w W → Calls Try.prog 67 #[.slice (if cap = n then ao else Option.map (fun x => x.add n) ao) (m - n) (cap - n)] W fun e w' => ∃ u, e = .returned u ∧ w'.ownsRow W.heap.size 5 1 u (m - n) ((l.drop n).map bv) ∧ Below W.heap.size W w') := fun W hW => by
    have := copyA _ _ _ W (hbX W hW)
    rw [hld] at this
    exact this
  clear hbX
  rw [hm] at hcap1 hn hlen
  clear h hcr hv
  have k1 : (n : Int) ≤ (cap : Int) := by omega
  have k2 : (n : Int) ≤ (m : Int) := by omega
  have k3 : ((m : Int) - (n : Int)).toNat = m - n := by omega
  go_enter Try.func88, Try.ntmps88
  go_wp2_with fail
  refine HC1.out.mono ?_
  rintro e W1 ⟨u1, rfl, ho1, hb1⟩
  obtain ⟨ao2, cap2, rfl⟩ := owns_form ho1
  have c1 : W1.cell? ⟨b, 1, none⟩ = some (.slice ao m cap) := cell_later hb1 hc1
  have HO1 : Hid (W1.ownsRow w.heap.size 5 1 (.slice ao2 n cap2) n ((l.take n).map bv)) := ho1
  have HB1 : Hid (Below w.heap.size w W1) := hb1
  have hc2 := HC2.out W1 hb1
  clear ho1 hb1 hc1 HC1 HC2
  by_cases hcn : cap = n
  · rw [if_pos hcn] at hc2
    have hz : cap - n = 0 := by omega
    rw [hz] at hc2
    have HC3 : Hid (Calls Try.prog 67 #[.slice ao (m - n) 0] W1 fun e w' => ∃ u, e = .returned u ∧ w'.ownsRow W1.heap.size 5 1 u (m - n) ((l.drop n).map bv) ∧ Below W1.heap.size W1 w') := hc2
    clear hc2
    go_wp2_with fail
    refine HC3.out.mono ?_
    rintro e W2 ⟨u2, rfl, ho2, hb2⟩
    obtain ⟨ao3, cap3, rfl⟩ := owns_form ho2
    obtain ⟨⟨d1, d2⟩, hI, hA, hro, hrn⟩ := cut_end HR.out HB1.out HO1.out ho2 hb2 hm
    have HI : Hid _ := hI
    have HA : Hid _ := hA
    have HO : Hid _ := hro
    have HN : Hid _ := hrn
    clear hI hA hro hrn ho2 hb2 HC3 HO1 HB1 c1
    go_wp2
    go_ret
    exact ⟨ao2, cap2, _, rfl, HI.out, HA.out, HO.out, HN.out⟩
  · rw [if_neg hcn] at hc2
    have HC3 : Hid (Calls Try.prog 67 #[.slice (Option.map (fun x => x.add n) ao) (m - n) (cap - n)] W1 fun e w' => ∃ u, e = .returned u ∧ w'.ownsRow W1.heap.size 5 1 u (m - n) ((l.drop n).map bv) ∧ Below W1.heap.size W1 w') := hc2
    clear hc2
    go_wp2_with fail
    refine HC3.out.mono ?_
    rintro e W2 ⟨u2, rfl, ho2, hb2⟩
    obtain ⟨ao3, cap3, rfl⟩ := owns_form ho2
    obtain ⟨⟨d1, d2⟩, hI, hA, hro, hrn⟩ := cut_end HR.out HB1.out HO1.out ho2 hb2 hm
    have HI : Hid _ := hI
    have HA : Hid _ := hA
    have HO : Hid _ := hro
    have HN : Hid _ := hrn
    clear hI hA hro hrn ho2 hb2 HC3 HO1 HB1 c1
    go_wp2
    go_ret
    exact ⟨ao2, cap2, _, rfl, HI.out, HA.out, HO.out, HN.out⟩
end
end Go.Proofs.Ytckfmpoddmccfaa
namespace Go.Proofs.Ytckfmpoddmccfaa
open Go.RowKit
set_option linter.unusedVariables false
set_option linter.unusedSimpArgs false
set_option maxRecDepth 100000
set_option maxHeartbeats 8000000 in
theorem greetingI {w : World} {B b : Nat} {v : Value} {rm ov : Nat} {l : List Nat} (h : Inb w B b v rm ov l)   :
    Calls Try.prog 31 #[.pointer (some ⟨b, 0, none⟩)] w fun e w' => CutGreeting w B b v rm ov l (greD l) e w' := by
  have h5 : 88 ≠ 5 := by decide
  obtain ⟨ao, cap, hv, hcr⟩ := h.row.crow
  obtain ⟨W0, hW0⟩ : ∃ W0, W0 = w.alloc (.cells #[.int .u16 0] 88) := ⟨_, rfl⟩
  have hC0 := (Cf.start h).alloc #[.int .u16 0] 88 h5
  rw [← hW0] at hC0
  have H0 : Hid _ := hC0
  have hb0 : Below w.heap.size w W0 := by rw [hW0]; exact (Below.refl _ _).alloc (Nat.le_refl _) _
  have HCt : Hid _ := cutGreeting hC0.inb #[] (greD l) (greD_n  l) (fun W hW => by
      have hc : CRow W ao cap l := (hcr.later hb0).later hW
      have := decGreetingA ao cap l  W hc 
      rw [hv]
      refine Calls.mono this ?_
      rintro e W' ⟨f, n, er, rfl, hD, hb⟩
      exact ⟨f, n, er, none, 0, rfl, hD, World.ownsRow_nil _ _ _ _, by simp, hb⟩)
  clear hC0  hb0 hcr hv
  go_enter Try.func31, Try.ntmps31
  go_wp2_with fail
  rw [← hW0]
  clear hW0
  refine Calls.mono HCt.out ?_
  rintro e W1 ⟨f, cu, l', v', ao2, cap2, rfl, hcut, hI, hA, hr, hn⟩
  have HCu : Hid _ := hcut
  have H1 : Hid _ := H0.out.told2 (d' := ([] : List Nat)) hI hA hr hn
  clear HCt hcut hI hA hr hn H0
  obtain ⟨r0, f0⟩ := H1.out.c (.head _) 0
  simp at r0
  have HF : Hid _ := (Cf.put (pre := []) H1.out 0 (.int .u16 (f : Int)) (cs' := #[.int .u16 (f : Int)]) rfl)
  clear H1
  go_wp2
  exact bodyPost_ret (results_cell_tmp1 rfl _ _ (w.heap.size) 88 #[.int .u16 (f : Int)] (0, 0) _ rfl (HF.out.box _ (.head _)).1 Try.underlying88 rfl infoGre) rfl ⟨f, cu, l', v', ao2, cap2, rfl, HCu.out, HF.out.inb, HF.out.act, HF.out.row, HF.out.rn⟩
end Go.Proofs.Ytckfmpoddmccfaa
namespace Go.Proofs.Ytckfmpoddmccfaa
open Go.RowKit
set_option linter.unusedVariables false
set_option linter.unusedSimpArgs false
set_option maxRecDepth 100000
set_option maxHeartbeats 4000000 in
theorem reply1 (ao : Option Addr) (cap : Nat) (l : List Nat) (most : Nat) (pmost : Nat) (w : World) (h : CRow w ao cap l) (hm : most < 4294967296) (hpmost : w.cell? ⟨pmost, 0, none⟩ = some (.int .u32 (most : Int))) :
    Calls Try.prog 71 #[.slice ao l.length cap, .pointer (some ⟨pmost, 0, none⟩)] w fun e w' => ∃ (o : Nat) (k : Nat) (d : List Nat) (n er : Nat) (ao2 : Option Addr) (cap2 : Nat), e = .returned (.tuple #[.agg #[.int .u32 (o : Int), .int .u32 (k : Int), .slice ao2 d.length cap2], .int .i64 (n : Int), .int .i64 (er : Int)]) ∧ repD most l = ((o, k, d), n, er) ∧ Row w w' ao2 cap2 d := by
  have h5 : 62 ≠ 5 := by decide
  obtain ⟨W0, hW0⟩ : ∃ W0, W0 = w.alloc (.cells #[.int .u32 0, .int .u32 0, Value.slice none 0 0] 62) := ⟨_, rfl⟩
  have hB0 := (Bx.start w).alloc #[.int .u32 0, .int .u32 0, Value.slice none 0 0] 62 h5
  rw [← hW0] at hB0
  have H0 : Hid _ := hB0
  have hqmost : W0.cell? ⟨pmost, 0, none⟩ = some (.int .u32 (most : Int)) := cell_later hB0.bel hpmost
  have hrmost := hqmost
  rw [hW0] at hrmost
  have HD : Hid (Calls Try.prog 72 #[.slice ao l.length cap, .int .u32 (most : Int)] W0 fun e w' => ∃ (o : Nat) (k : Nat) (d : List Nat) (n er : Nat) (ao2 : Option Addr) (cap2 : Nat), e = .returned (.tuple #[.agg #[.int .u32 (o : Int), .int .u32 (k : Int), .slice ao2 d.length cap2], .int .i64 (n : Int), .int .i64 (er : Int)]) ∧ repD most l = ((o, k, d), n, er) ∧ Row W0 w' ao2 cap2 d) := decReplyA ao cap l most W0 (h.later hB0.bel) hm
  obtain ⟨ln, hln⟩ : ∃ ln, l.length = ln := ⟨_, rfl⟩
  rw [hln] at HD
  rw [hln]
  clear hB0 h
  go_enter Try.func71, Try.ntmps71
  go_wp2_with fail
  rw [← hW0]
  clear hW0 hrmost
  refine HD.out.mono ?_
  rintro e W1 ⟨o, k, d, n, er, ao2, cap2, rfl, hD, hr⟩
  have HDe : Hid (repD most l = ((o, k, d), n, er)) := hD
  have HR : Hid (∀ x ∈ d, x < 256) := hr.lt
  have H2 : Hid _ := H0.out.told hr
  clear H0 HD hD hr hqmost hpmost
  obtain ⟨r0, f0⟩ := H2.out.c (.head _) 0
  obtain ⟨r1, f1⟩ := H2.out.c (.head _) 1
  obtain ⟨r2, f2⟩ := H2.out.c (.head _) 2
  simp at r0 r1 r2
  have H3 : Hid _ := (Bx.put (pre := []) (Bx.put (pre := []) (Bx.put (pre := []) H2.out 0 (.int .u32 (o : Int)) (cs' := #[.int .u32 (o : Int), .int .u32 0, Value.slice none 0 0]) rfl) 1 (.int .u32 (k : Int)) (cs' := #[.int .u32 (o : Int), .int .u32 (k : Int), Value.slice none 0 0]) rfl) 2 (.slice ao2 d.length cap2) (cs' := #[.int .u32 (o : Int), .int .u32 (k : Int), .slice ao2 d.length cap2]) rfl)
  clear H2
  go_wp2
  exact bodyPost_ret (results_cell_tmp2 rfl _ _ w.heap.size 62 #[.int .u32 (o : Int), .int .u32 (k : Int), .slice ao2 d.length cap2] (0, 0) _ rfl (H3.out.box _ (.head _)).1 Try.underlying62 rfl infoRep) rfl ⟨o, k, d, n, er, ao2, cap2, rfl, HDe.out, H3.out.row, HR.out, H3.out.bel⟩
set_option maxHeartbeats 8000000 in
theorem replyI {w : World} {B b : Nat} {v : Value} {rm ov : Nat} {l : List Nat} (h : Inb w B b v rm ov l) (most : Nat) (hm : most < 4294967296) :
    Calls Try.prog 33 #[.pointer (some ⟨b, 0, none⟩), .int .u32 (most : Int)] w fun e w' => CutReply1 w B b v rm ov l (repD most l) e w' := by
  have h5 : 62 ≠ 5 := by decide
  have g0 : 36 ≠ 5 := by decide
  obtain ⟨ao, cap, hv, hcr⟩ := h.row.crow
  obtain ⟨W0, hW0⟩ : ∃ W0, W0 = (w.alloc (.cells #[.int .u32 (most : Int)] 36)).alloc (.cells #[.int .u32 0, .int .u32 0, Value.slice none 0 0] 62) := ⟨_, rfl⟩
  have hC0 := ((Cf.start h).alloc #[.int .u32 (most : Int)] 36 g0).alloc #[.int .u32 0, .int .u32 0, Value.slice none 0 0] 62 h5
  rw [World.size_alloc, ← hW0] at hC0
  have H0 : Hid _ := hC0
  have hb0 : Below w.heap.size w W0 := by rw [hW0]; exact bx2_bel w _ _
  have hpmost : W0.cell? ⟨w.heap.size, 0, none⟩ = some (.int .u32 (most : Int)) := by
    have := (hC0.c (.tail _ (.head _)) 0).1
    simpa using this
  have HCt : Hid _ := cutReply1 hC0.inb #[.pointer (some ⟨w.heap.size, 0, none⟩)] (repD most l) (repD_n most l) (fun W hW => by
      have hc : CRow W ao cap l := (hcr.later hb0).later hW
      have := reply1 ao cap l most (w.heap.size) W hc hm (cell_later hW hpmost)
      rw [hv]
      exact this)
  clear hC0 hpmost hb0 hcr hv
  go_enter Try.func33, Try.ntmps33
  go_wp2_with fail
  rw [← hW0]
  clear hW0
  refine Calls.mono HCt.out ?_
  rintro e W1 ⟨o, k, d, cu, l', v', ao2, cap2, rfl, hcut, hI, hA, hr, hn⟩
  have HCu : Hid _ := hcut
  have H1 : Hid _ := H0.out.told2 (d' := d) hI hA hr hn
  clear HCt hcut hI hA hr hn H0
  obtain ⟨r0, f0⟩ := H1.out.c (.head _) 0
  obtain ⟨r1, f1⟩ := H1.out.c (.head _) 1
  obtain ⟨r2, f2⟩ := H1.out.c (.head _) 2
  simp at r0 r1 r2
  have HF : Hid _ := (Cf.put (pre := []) (Cf.put (pre := []) (Cf.put (pre := []) H1.out 0 (.int .u32 (o : Int)) (cs' := #[.int .u32 (o : Int), .int .u32 0, Value.slice none 0 0]) rfl) 1 (.int .u32 (k : Int)) (cs' := #[.int .u32 (o : Int), .int .u32 (k : Int), Value.slice none 0 0]) rfl) 2 (.slice ao2 d.length cap2) (cs' := #[.int .u32 (o : Int), .int .u32 (k : Int), .slice ao2 d.length cap2]) rfl)
  clear H1
  go_wp2
  exact bodyPost_ret (results_cell_tmp1 rfl _ _ (w.heap.size + 1) 62 #[.int .u32 (o : Int), .int .u32 (k : Int), .slice ao2 d.length cap2] (0, 0) _ rfl (HF.out.box _ (.head _)).1 Try.underlying62 rfl infoRep) rfl ⟨o, k, d, cu, l', v', ao2, cap2, rfl, HCu.out, HF.out.inb, HF.out.act, HF.out.row, HF.out.rn⟩
end Go.Proofs.Ytckfmpoddmccfaa
namespace Go.Proofs.Ytckfmpoddmccfaa
open Go.RowKit
set_option linter.unusedVariables false
set_option linter.unusedSimpArgs false
set_option maxRecDepth 100000
set_option maxHeartbeats 4000000 in
theorem export1 (ao : Option Addr) (cap : Nat) (l : List Nat) (z : Bool) (pz : Nat) (w : World) (h : CRow w ao cap l)  (hpz : w.cell? ⟨pz, 0, none⟩ = some (.bool z)) :
    Calls Try.prog 74 #[.slice ao l.length cap, .pointer (some ⟨pz, 0, none⟩)] w fun e w' => ∃ (s : Nat) (f : Nat) (n er : Nat) (ao2 : Option Addr) (cap2 : Nat), e = .returned (.tuple #[.agg #[.int .u64 (s : Int), .int .u16 (f : Int)], .int .i64 (n : Int), .int .i64 (er : Int)]) ∧ expD z l = ((s, f), n, er) ∧ Row w w' ao2 cap2 ([] : List Nat) := by
  have h5 : 96 ≠ 5 := by decide
  obtain ⟨W0, hW0⟩ : ∃ W0, W0 = w.alloc (.cells #[.int .u64 0, .int .u16 0] 96) := ⟨_, rfl⟩
  have hB0 := (Bx.start w).alloc #[.int .u64 0, .int .u16 0] 96 h5
  rw [← hW0] at hB0
  have H0 : Hid _ := hB0
  have hqz : W0.cell? ⟨pz, 0, none⟩ = some (.bool z) := cell_later hB0.bel hpz
  have hrz := hqz
  rw [hW0] at hrz
  have HD : Hid (Calls Try.prog 75 #[.slice ao l.length cap, .bool z] W0 fun e w' => ∃ (s : Nat) (f : Nat) (n er : Nat), e = .returned (.tuple #[.agg #[.int .u64 (s : Int), .int .u16 (f : Int)], .int .i64 (n : Int), .int .i64 (er : Int)]) ∧ expD z l = ((s, f), n, er) ∧ Below W0.heap.size W0 w') := decExportA ao cap l z W0 (h.later hB0.bel) 
  obtain ⟨ln, hln⟩ : ∃ ln, l.length = ln := ⟨_, rfl⟩
  rw [hln] at HD
  rw [hln]
  clear hB0 h
  go_enter Try.func74, Try.ntmps74
  go_wp2_with fail
  rw [← hW0]
  clear hW0 hrz
  refine HD.out.mono ?_
  rintro e W1 ⟨s, f, n, er, rfl, hD, hr⟩
  have HDe : Hid (expD z l = ((s, f), n, er)) := hD
  have H2 : Hid _ := H0.out.later hr
  clear H0 HD hD hr hqz hpz
  obtain ⟨r0, f0⟩ := H2.out.c (.head _) 0
  obtain ⟨r1, f1⟩ := H2.out.c (.head _) 1
  simp at r0 r1
  have H3 : Hid _ := (Bx.put (pre := []) (Bx.put (pre := []) H2.out 0 (.int .u64 (s : Int)) (cs' := #[.int .u64 (s : Int), .int .u16 0]) rfl) 1 (.int .u16 (f : Int)) (cs' := #[.int .u64 (s : Int), .int .u16 (f : Int)]) rfl)
  clear H2
  go_wp2
  exact bodyPost_ret (results_cell_tmp2 rfl _ _ w.heap.size 96 #[.int .u64 (s : Int), .int .u16 (f : Int)] (0, 0) _ rfl (H3.out.box _ (.head _)).1 Try.underlying96 rfl infoExp) rfl ⟨s, f, n, er, none, 0, rfl, HDe.out, H3.out.row, by simp, H3.out.bel⟩
set_option maxHeartbeats 8000000 in
theorem exportI {w : World} {B b : Nat} {v : Value} {rm ov : Nat} {l : List Nat} (h : Inb w B b v rm ov l) (z : Bool)  :
    Calls Try.prog 35 #[.pointer (some ⟨b, 0, none⟩), .bool z] w fun e w' => CutExport w B b v rm ov l (expD z l) e w' := by
  have h5 : 96 ≠ 5 := by decide
  have g0 : 4 ≠ 5 := by decide
  obtain ⟨ao, cap, hv, hcr⟩ := h.row.crow
  obtain ⟨W0, hW0⟩ : ∃ W0, W0 = (w.alloc (.cells #[.bool z] 4)).alloc (.cells #[.int .u64 0, .int .u16 0] 96) := ⟨_, rfl⟩
  have hC0 := ((Cf.start h).alloc #[.bool z] 4 g0).alloc #[.int .u64 0, .int .u16 0] 96 h5
  rw [World.size_alloc, ← hW0] at hC0
  have H0 : Hid _ := hC0
  have hb0 : Below w.heap.size w W0 := by rw [hW0]; exact bx2_bel w _ _
  have hpz : W0.cell? ⟨w.heap.size, 0, none⟩ = some (.bool z) := by
    have := (hC0.c (.tail _ (.head _)) 0).1
    simpa using this
  have HCt : Hid _ := cutExport hC0.inb #[.pointer (some ⟨w.heap.size, 0, none⟩)] (expD z l) (expD_n z l) (fun W hW => by
      have hc : CRow W ao cap l := (hcr.later hb0).later hW
      have := export1 ao cap l z (w.heap.size) W hc  (cell_later hW hpz)
      rw [hv]
      exact this)
  clear hC0 hpz hb0 hcr hv
  go_enter Try.func35, Try.ntmps35
  go_wp2_with fail
  rw [← hW0]
  clear hW0
  refine Calls.mono HCt.out ?_
  rintro e W1 ⟨s, f, cu, l', v', ao2, cap2, rfl, hcut, hI, hA, hr, hn⟩
  have HCu : Hid _ := hcut
  have H1 : Hid _ := H0.out.told2 (d' := ([] : List Nat)) hI hA hr hn
  clear HCt hcut hI hA hr hn H0
  obtain ⟨r0, f0⟩ := H1.out.c (.head _) 0
  obtain ⟨r1, f1⟩ := H1.out.c (.head _) 1
  simp at r0 r1
  have HF : Hid _ := (Cf.put (pre := []) (Cf.put (pre := []) H1.out 0 (.int .u64 (s : Int)) (cs' := #[.int .u64 (s : Int), .int .u16 0]) rfl) 1 (.int .u16 (f : Int)) (cs' := #[.int .u64 (s : Int), .int .u16 (f : Int)]) rfl)
  clear H1
  go_wp2
  exact bodyPost_ret (results_cell_tmp1 rfl _ _ (w.heap.size + 1) 96 #[.int .u64 (s : Int), .int .u16 (f : Int)] (0, 0) _ rfl (HF.out.box _ (.head _)).1 Try.underlying96 rfl infoExp) rfl ⟨s, f, cu, l', v', ao2, cap2, rfl, HCu.out, HF.out.inb, HF.out.act, HF.out.row, HF.out.rn⟩
end Go.Proofs.Ytckfmpoddmccfaa
namespace Go.Proofs.Ytckfmpoddmccfaa
open Go.RowKit
set_option linter.unusedVariables false
set_option linter.unusedSimpArgs false
set_option maxRecDepth 100000
set_option maxHeartbeats 4000000 in
theorem request1 (ao : Option Addr) (cap : Nat) (l : List Nat) (most : Nat) (ext : Bool) (pmost pext : Nat) (w : World) (h : CRow w ao cap l) (hm : most < 4294967296) (hpmost : w.cell? ⟨pmost, 0, none⟩ = some (.int .u32 (most : Int))) (hpext : w.cell? ⟨pext, 0, none⟩ = some (.bool ext)) :
    Calls Try.prog 77 #[.slice ao l.length cap, .pointer (some ⟨pmost, 0, none⟩), .pointer (some ⟨pext, 0, none⟩)] w fun e w' => ∃ (f : Nat) (t : Nat) (c : Nat) (o : Nat) (k : Nat) (d : List Nat) (n er : Nat) (ao2 : Option Addr) (cap2 : Nat), e = .returned (.tuple #[.agg #[.int .u16 (f : Int), .int .u16 (t : Int), .int .u64 (c : Int), .int .u64 (o : Int), .int .u64 (k : Int), .slice ao2 d.length cap2], .int .i64 (n : Int), .int .i64 (er : Int)]) ∧ reqD most ext l = ((f, t, c, o, k, d), n, er) ∧ Row w w' ao2 cap2 d := by
  have h5 : 60 ≠ 5 := by decide
  obtain ⟨W0, hW0⟩ : ∃ W0, W0 = w.alloc (.cells #[.int .u16 0, .int .u16 0, .int .u64 0, .int .u64 0, .int .u64 0, Value.slice none 0 0] 60) := ⟨_, rfl⟩
  have hB0 := (Bx.start w).alloc #[.int .u16 0, .int .u16 0, .int .u64 0, .int .u64 0, .int .u64 0, Value.slice none 0 0] 60 h5
  rw [← hW0] at hB0
  have H0 : Hid _ := hB0
  have hqmost : W0.cell? ⟨pmost, 0, none⟩ = some (.int .u32 (most : Int)) := cell_later hB0.bel hpmost
  have hrmost := hqmost
  rw [hW0] at hrmost
  have hqext : W0.cell? ⟨pext, 0, none⟩ = some (.bool ext) := cell_later hB0.bel hpext
  have hrext := hqext
  rw [hW0] at hrext
  have HD : Hid (Calls Try.prog 78 #[.slice ao l.length cap, .int .u32 (most : Int), .bool ext] W0 fun e w' => ∃ (f : Nat) (t : Nat) (c : Nat) (o : Nat) (k : Nat) (d : List Nat) (n er : Nat) (ao2 : Option Addr) (cap2 : Nat), e = .returned (.tuple #[.agg #[.int .u16 (f : Int), .int .u16 (t : Int), .int .u64 (c : Int), .int .u64 (o : Int), .int .u64 (k : Int), .slice ao2 d.length cap2], .int .i64 (n : Int), .int .i64 (er : Int)]) ∧ reqD most ext l = ((f, t, c, o, k, d), n, er) ∧ Row W0 w' ao2 cap2 d) := decRequestA ao cap l most ext W0 (h.later hB0.bel) hm
  obtain ⟨ln, hln⟩ : ∃ ln, l.length = ln := ⟨_, rfl⟩
  rw [hln] at HD
  rw [hln]
  clear hB0 h
  go_enter Try.func77, Try.ntmps77
  go_wp2_with fail
  rw [← hW0]
  clear hW0 hrmost hrext
  refine HD.out.mono ?_
  rintro e W1 ⟨f, t, c, o, k, d, n, er, ao2, cap2, rfl, hD, hr⟩
  have HDe : Hid (reqD most ext l = ((f, t, c, o, k, d), n, er)) := hD
  have HR : Hid (∀ x ∈ d, x < 256) := hr.lt
  have H2 : Hid _ := H0.out.told hr
  clear H0 HD hD hr hqmost hpmost hqext hpext
  obtain ⟨r0, f0⟩ := H2.out.c (.head _) 0
  obtain ⟨r1, f1⟩ := H2.out.c (.head _) 1
  obtain ⟨r2, f2⟩ := H2.out.c (.head _) 2
  obtain ⟨r3, f3⟩ := H2.out.c (.head _) 3
  obtain ⟨r4, f4⟩ := H2.out.c (.head _) 4
  obtain ⟨r5, f5⟩ := H2.out.c (.head _) 5
  simp at r0 r1 r2 r3 r4 r5
  have H3 : Hid _ := (Bx.put (pre := []) (Bx.put (pre := []) (Bx.put (pre := []) (Bx.put (pre := []) (Bx.put (pre := []) (Bx.put (pre := []) H2.out 0 (.int .u16 (f : Int)) (cs' := #[.int .u16 (f : Int), .int .u16 0, .int .u64 0, .int .u64 0, .int .u64 0, Value.slice none 0 0]) rfl) 1 (.int .u16 (t : Int)) (cs' := #[.int .u16 (f : Int), .int .u16 (t : Int), .int .u64 0, .int .u64 0, .int .u64 0, Value.slice none 0 0]) rfl) 2 (.int .u64 (c : Int)) (cs' := #[.int .u16 (f : Int), .int .u16 (t : Int), .int .u64 (c : Int), .int .u64 0, .int .u64 0, Value.slice none 0 0]) rfl) 3 (.int .u64 (o : Int)) (cs' := #[.int .u16 (f : Int), .int .u16 (t : Int), .int .u64 (c : Int), .int .u64 (o : Int), .int .u64 0, Value.slice none 0 0]) rfl) 4 (.int .u64 (k : Int)) (cs' := #[.int .u16 (f : Int), .int .u16 (t : Int), .int .u64 (c : Int), .int .u64 (o : Int), .int .u64 (k : Int), Value.slice none 0 0]) rfl) 5 (.slice ao2 d.length cap2) (cs' := #[.int .u16 (f : Int), .int .u16 (t : Int), .int .u64 (c : Int), .int .u64 (o : Int), .int .u64 (k : Int), .slice ao2 d.length cap2]) rfl)
  clear H2
  go_wp2
  exact bodyPost_ret (results_cell_tmp2 rfl _ _ w.heap.size 60 #[.int .u16 (f : Int), .int .u16 (t : Int), .int .u64 (c : Int), .int .u64 (o : Int), .int .u64 (k : Int), .slice ao2 d.length cap2] (0, 0) _ rfl (H3.out.box _ (.head _)).1 Try.underlying60 rfl infoReq) rfl ⟨f, t, c, o, k, d, n, er, ao2, cap2, rfl, HDe.out, H3.out.row, HR.out, H3.out.bel⟩
set_option maxHeartbeats 8000000 in
theorem requestI {w : World} {B b : Nat} {v : Value} {rm ov : Nat} {l : List Nat} (h : Inb w B b v rm ov l) (most : Nat) (ext : Bool) (hm : most < 4294967296) :
    Calls Try.prog 36 #[.pointer (some ⟨b, 0, none⟩), .int .u32 (most : Int), .bool ext] w fun e w' => CutRequest w B b v rm ov l (reqD most ext l) e w' := by
  have h5 : 60 ≠ 5 := by decide
  have g0 : 36 ≠ 5 := by decide
  have g1 : 4 ≠ 5 := by decide
  obtain ⟨ao, cap, hv, hcr⟩ := h.row.crow
  obtain ⟨W0, hW0⟩ : ∃ W0, W0 = ((w.alloc (.cells #[.int .u32 (most : Int)] 36)).alloc (.cells #[.bool ext] 4)).alloc (.cells #[.int .u16 0, .int .u16 0, .int .u64 0, .int .u64 0, .int .u64 0, Value.slice none 0 0] 60) := ⟨_, rfl⟩
  have hC0 := (((Cf.start h).alloc #[.int .u32 (most : Int)] 36 g0).alloc #[.bool ext] 4 g1).alloc #[.int .u16 0, .int .u16 0, .int .u64 0, .int .u64 0, .int .u64 0, Value.slice none 0 0] 60 h5
  rw [World.size_alloc, World.size_alloc, ← hW0] at hC0
  have H0 : Hid _ := hC0
  have hb0 : Below w.heap.size w W0 := by rw [hW0]; exact bx3_bel w _ _ _
  have hpmost : W0.cell? ⟨w.heap.size, 0, none⟩ = some (.int .u32 (most : Int)) := by
    have := (hC0.c (.tail _ (.tail _ (.head _))) 0).1
    simpa using this
  have hpext : W0.cell? ⟨w.heap.size + 1, 0, none⟩ = some (.bool ext) := by
    have := (hC0.c (.tail _ (.head _)) 0).1
    simpa using this
  have HCt : Hid _ := cutRequest hC0.inb #[.pointer (some ⟨w.heap.size, 0, none⟩), .pointer (some ⟨w.heap.size + 1, 0, none⟩)] (reqD most ext l) (reqD_n most ext l) (fun W hW => by
      have hc : CRow W ao cap l := (hcr.later hb0).later hW
      have := request1 ao cap l most ext (w.heap.size) (w.heap.size + 1) W hc hm (cell_later hW hpmost) (cell_later hW hpext)
      rw [hv]
      exact this)
  clear hC0 hpmost hpext hb0 hcr hv
  go_enter Try.func36, Try.ntmps36
  go_wp2_with fail
  rw [← hW0]
  clear hW0
  refine Calls.mono HCt.out ?_
  rintro e W1 ⟨f, t, c, o, k, d, cu, l', v', ao2, cap2, rfl, hcut, hI, hA, hr, hn⟩
  have HCu : Hid _ := hcut
  have H1 : Hid _ := H0.out.told2 (d' := d) hI hA hr hn
  clear HCt hcut hI hA hr hn H0
  obtain ⟨r0, f0⟩ := H1.out.c (.head _) 0
  obtain ⟨r1, f1⟩ := H1.out.c (.head _) 1
  obtain ⟨r2, f2⟩ := H1.out.c (.head _) 2
  obtain ⟨r3, f3⟩ := H1.out.c (.head _) 3
  obtain ⟨r4, f4⟩ := H1.out.c (.head _) 4
  obtain ⟨r5, f5⟩ := H1.out.c (.head _) 5
  simp at r0 r1 r2 r3 r4 r5
  have HF : Hid _ := (Cf.put (pre := []) (Cf.put (pre := []) (Cf.put (pre := []) (Cf.put (pre := []) (Cf.put (pre := []) (Cf.put (pre := []) H1.out 0 (.int .u16 (f : Int)) (cs' := #[.int .u16 (f : Int), .int .u16 0, .int .u64 0, .int .u64 0, .int .u64 0, Value.slice none 0 0]) rfl) 1 (.int .u16 (t : Int)) (cs' := #[.int .u16 (f : Int), .int .u16 (t : Int), .int .u64 0, .int .u64 0, .int .u64 0, Value.slice none 0 0]) rfl) 2 (.int .u64 (c : Int)) (cs' := #[.int .u16 (f : Int), .int .u16 (t : Int), .int .u64 (c : Int), .int .u64 0, .int .u64 0, Value.slice none 0 0]) rfl) 3 (.int .u64 (o : Int)) (cs' := #[.int .u16 (f : Int), .int .u16 (t : Int), .int .u64 (c : Int), .int .u64 (o : Int), .int .u64 0, Value.slice none 0 0]) rfl) 4 (.int .u64 (k : Int)) (cs' := #[.int .u16 (f : Int), .int .u16 (t : Int), .int .u64 (c : Int), .int .u64 (o : Int), .int .u64 (k : Int), Value.slice none 0 0]) rfl) 5 (.slice ao2 d.length cap2) (cs' := #[.int .u16 (f : Int), .int .u16 (t : Int), .int .u64 (c : Int), .int .u64 (o : Int), .int .u64 (k : Int), .slice ao2 d.length cap2]) rfl)
  clear H1
  go_wp2
  exact bodyPost_ret (results_cell_tmp1 rfl _ _ (w.heap.size + 1 + 1) 60 #[.int .u16 (f : Int), .int .u16 (t : Int), .int .u64 (c : Int), .int .u64 (o : Int), .int .u64 (k : Int), .slice ao2 d.length cap2] (0, 0) _ rfl (HF.out.box _ (.head _)).1 Try.underlying60 rfl infoReq) rfl ⟨f, t, c, o, k, d, cu, l', v', ao2, cap2, rfl, HCu.out, HF.out.inb, HF.out.act, HF.out.row, HF.out.rn⟩
end Go.Proofs.Ytckfmpoddmccfaa
