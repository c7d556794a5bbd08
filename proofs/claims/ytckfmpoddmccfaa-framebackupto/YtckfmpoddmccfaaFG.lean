import Derived.Test.YtckfmpoddmccfaaFC
import Derived.Test.YtckfmpoddmccfaaFD
import Derived.Deep.RegionWith
import Derived.Deep.RegionHeld3
namespace Go.Proofs.Ytckfmpoddmccfaa
open Go.RowKit
set_option linter.unusedVariables false
set_option linter.unusedSimpArgs false
set_option maxRecDepth 100000

def CutFlags (w : World) (B b : Nat) (v : Value) (rm ov : Nat) (l : List Nat) (D : Nat × Nat × Nat) (e : Ending) (w' : World) : Prop :=
  ∃ (f cu : Nat) (l' : List Nat) (v' : Value), e = .returned (.tuple #[.int .u32 (f : Int), .int .i64 (cu : Int)]) ∧ cutOf 0 ov l D = (f, cu, l') ∧ Inb w' B b v' rm ov l' ∧ IAct w w' b v v'
set_option maxHeartbeats 8000000 in
theorem cutFlags {w : World} {B b : Nat} {v : Value} {rm ov : Nat} {l : List Nat} (h : Inb w B b v rm ov l) (caps : Array Value) (D : Nat × Nat × Nat) (hD : D.2.2 = 0 → D.2.1 ≤ l.length)
    (HD : Hid (∀ W : World, Below w.heap.size w W → Calls Try.prog 65 (#[v] ++ caps) W fun e W' => ∃ (f n er : Nat), e = .returned (.tuple #[.int .u32 (f : Int), .int .i64 (n : Int), .int .i64 (er : Int)]) ∧ D = (f, n, er) ∧ Below W.heap.size W W')) :
    Calls Try.prog 66 #[.agg #[.pointer (some ⟨b, 0, none⟩), .func (.func 65) #[] caps]] w fun e w' => CutFlags w B b v rm ov l D e w' := by
  have h6 : 147 ≠ 5 := by decide
  obtain ⟨W0, hW0⟩ : ∃ W0, W0 = w.alloc (.cells #[.pointer (some ⟨b, 0, none⟩), .func (.func 65) #[] caps] 147) := ⟨_, rfl⟩
  have hC0 := (Cf.start h).alloc #[.pointer (some ⟨b, 0, none⟩), .func (.func 65) #[] caps] 147 h6
  rw [← hW0] at hC0
  have H0 : Hid _ := hC0
  have HU : Hid (Calls Try.prog 27 #[.pointer (some ⟨b, 0, none⟩)] W0 fun e w' => e = .returned (.bool true) ∧ w' = W0) := usableI hC0.inb
  have c2 := hC0.inb.c 2
  simp at c2
  obtain ⟨y0, _⟩ := hC0.c (.head _) 0
  obtain ⟨y1, _⟩ := hC0.c (.head _) 1
  simp at y0 y1
  have HBd : Hid (Below w.heap.size w W0.drew) := by
    show Below _ _ _
    rw [hW0]; exact below_drew ((Below.refl _ _).alloc (Nat.le_refl _) _)
  clear hC0 h
  go_enter Try.func66, Try.ntmps66
  go_wp2_with fail
  rw [← hW0]
  clear hW0
  refine HU.out.mono ?_
  rintro e w1 ⟨rfl, hw1⟩
  rw [hw1]; clear hw1 HU
  by_cases hov : 0 < ov
  · have t1 : decide ((0 : Int) < (ov : Int)) = true := by simp; omega
    have t2 : (0 : Int) < (ov : Int) := by omega
    go_wp2
    go_ret2
    exact ⟨0, 0, l, v, rfl, by simp [cutOf, hov], H0.out.inb, H0.out.act⟩
  · obtain rfl : ov = 0 := by omega
    have c1 := H0.out.inb.c 1
    simp at c1
    have H1 : Hid _ := H0.out.drew
    have HDa : Hid _ := HD.out _ HBd.out
    clear HD HBd H0
    go_wp2
    go_region_with (go_at_call 65; refine Calls.mono HDa.out ?_; rintro e W1 ⟨f, n, er, rfl, hDe, hb⟩; have H3 : Hid _ := H1.out.later hb; have HDe : Hid _ := hDe; clear hb hDe)
    all_goals
      have hD' := hD
      rw [HDe.out] at hD'
      obtain ⟨y0', _⟩ := H3.out.c (.head _) 0
      simp at y0'
      by_cases he0 : er = 0
      · subst he0
        have hn : n ≤ l.length := hD' rfl
        have HDr : Hid _ := dropI H3.out.inb n hn
        go_wp2_with fail
        refine Calls.mono HDr.out ?_
        rintro e W2 ⟨rfl, v', hI, hA⟩
        have H4 : Hid _ := H3.out.acts hI hA
        clear H3 hI hA HDr
        go_wp2
        go_ret2
        exact ⟨f, 1, l.drop n, v', rfl, by rw [HDe.out]; simp [cutOf], H4.out.inb, H4.out.act⟩
      · have e0 : ¬ ((er : Int) = 0) := by omega
        by_cases he10 : er = 10
        · subst he10
          go_wp2
          go_ret2
          exact ⟨0, 0, l, v, rfl, by rw [HDe.out]; simp [cutOf], H3.out.inb, H3.out.act⟩
        · have e10 : ¬ ((er : Int) = 10) := by omega
          by_cases he12 : er = 12
          · subst he12
            go_wp2
            go_ret2
            exact ⟨0, 3, l, v, rfl, by rw [HDe.out]; simp [cutOf], H3.out.inb, H3.out.act⟩
          · have e12 : ¬ ((er : Int) = 12) := by omega
            go_wp2
            go_ret2
            exact ⟨0, 2, l, v, rfl, by rw [HDe.out]; simp [cutOf, *], H3.out.inb, H3.out.act⟩
theorem flaD_n (l : List Nat) (h : (flaD l).2.2 = 0) : (flaD l).2.1 ≤ l.length := by
  unfold flaD at h ⊢
  by_cases h1 : l.length < 4
  · rw [if_pos h1] at h; simp at h
  · rw [if_neg h1]; simp only; omega
set_option maxHeartbeats 400000 in
theorem flagsI {w : World} {B b : Nat} {v : Value} {rm ov : Nat} {l : List Nat} (h : Inb w B b v rm ov l) :
    Calls Try.prog 25 #[.pointer (some ⟨b, 0, none⟩)] w fun e w' => CutFlags w B b v rm ov l (flaD l) e w' := by
  obtain ⟨ao, cap, hv, hcr⟩ := h.row.crow
  have HC : Hid (Calls Try.prog 66 #[.agg #[.pointer (some ⟨b, 0, none⟩), .func (.func 65) #[] #[]]] w fun e w' => CutFlags w B b v rm ov l (flaD l) e w') := cutFlags h #[] (flaD l) (flaD_n l) (fun W hW => by
      have := decFlagsA ao cap l W (hcr.later hW)
      rw [hv]
      exact this)
  clear h hcr
  go_enter Try.func25, Try.ntmps25
  go_wp2_with fail
  refine HC.out.mono ?_
  rintro e w1 ⟨f, cu, l', v', rfl, hc, hI, hA⟩
  have HR : Hid _ := And.intro hc (And.intro hI hA)
  clear hc hI hA
  go_wp2
  go_ret2
  exact ⟨f, cu, l', v', rfl, HR.out.1, HR.out.2.1, HR.out.2.2⟩
end Go.Proofs.Ytckfmpoddmccfaa
