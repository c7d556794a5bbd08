import Derived.Test.YtckfmpoddmccfaaFC
import Derived.Deep.RegionWith
import Derived.Deep.RegionHeld3
namespace Go.Proofs.Ytckfmpoddmccfaa
open Go.RowKit
set_option linter.unusedVariables false
set_option linter.unusedSimpArgs false
set_option maxRecDepth 100000

/-- what a cut leaves -/
def CutGreeting (w : World) (B b : Nat) (v : Value) (rm ov : Nat) (l : List Nat) (D : Nat × Nat × Nat) (e : Ending) (w' : World) : Prop :=
  ∃ (f : Nat) (cu : Nat) (l' : List Nat) (v' : Value) (ao2 : Option Addr) (cap2 : Nat), e = .returned (.tuple #[.agg #[.int .u16 (f : Int)], .int .i64 (cu : Int)]) ∧ cutOf 0 ov l D = (f, cu, l') ∧ Inb w' B b v' rm ov l' ∧ IAct w w' b v v' ∧ w'.ownsRow w.heap.size 5 1 (.slice ao2 ([] : List Nat).length cap2) ([] : List Nat).length (([] : List Nat).map bv) ∧ ∀ g, (Value.slice ao2 ([] : List Nat).length cap2).ownBlock = some g → v'.ownBlock ≠ some g
/-- behind the decoder's answer -/
def MidGreeting (w : World) (B b : Nat) (v : Value) (rm : Nat) (l : List Nat) (caps : Array Value) (D : Nat × Nat × Nat) (e : Exit) (a : Act) (W : World) : Prop :=
  e = .normal ∧ ∃ (f : Nat) (n er : Nat) (ao2 : Option Addr) (cap2 : Nat) (g5 : Nat) (x0 x8 x9 x10 x11 x12 x13 x14 x15 x16 x17 x18 x19 x20 x21 x22 x23 x24 x25 x26 x27 x28 x29 x30 x31 x32 x33 x34 x35 x36 x37 x38 x39 x40 x41 x42 x43 x44 x45 x46 x47 : Value), a = { tmps := #[x0, .pointer (some ⟨w.heap.size, 0, none⟩), .pointer (some ⟨w.heap.size + 1, 0, none⟩), .int .i64 0, .pointer (some ⟨w.heap.size + 1 + 1, 0, none⟩), .pointer (some ⟨g5, 0, none⟩), .int .i64 (n : Int), .int .i64 (er : Int), x8, x9, x10, x11, x12, x13, x14, x15, x16, x17, x18, x19, x20, x21, x22, x23, x24, x25, x26, x27, x28, x29, x30, x31, x32, x33, x34, x35, x36, x37, x38, x39, x40, x41, x42, x43, x44, x45, x46, x47], defers := [] } ∧ Hid (D = (f, n, er) ∧ Cf w W B b v v rm 0 l ((g5, #[.int .u16 (f : Int)], 88) :: [(w.heap.size + 1 + 1, #[.int .u16 0], 88), (w.heap.size + 1, #[.int .u16 0], 88), (w.heap.size, #[.pointer (some ⟨b, 0, none⟩), .func (.func 68) #[] caps], 150)]) (.slice ao2 ([] : List Nat).length cap2) ([] : List Nat))
set_option maxHeartbeats 8000000 in
theorem cutGreeting {w : World} {B b : Nat} {v : Value} {rm ov : Nat} {l : List Nat} (h : Inb w B b v rm ov l) (caps : Array Value) (D : Nat × Nat × Nat) (hD : D.2.2 = 0 → D.2.1 ≤ l.length)
    (HD : Hid (∀ W : World, Below w.heap.size w W → Calls Try.prog 68 (#[v] ++ caps) W fun e W' => ∃ (f : Nat) (n er : Nat) (ao2 : Option Addr) (cap2 : Nat), e = .returned (.tuple #[.agg #[.int .u16 (f : Int)], .int .i64 (n : Int), .int .i64 (er : Int)]) ∧ D = (f, n, er) ∧ Row W W' ao2 cap2 ([] : List Nat))) :
    Calls Try.prog 69 #[.agg #[.pointer (some ⟨b, 0, none⟩), .func (.func 68) #[] caps]] w fun e w' => CutGreeting w B b v rm ov l D e w' := by
  obtain ⟨cb, hcb⟩ : ∃ cb : Array Value, cb = #[.pointer (some ⟨b, 0, none⟩), .func (.func 68) #[] caps] := ⟨_, rfl⟩
  have h5 : 88 ≠ 5 := by decide
  have h6 : 150 ≠ 5 := by decide
  obtain ⟨W0, hW0⟩ : ∃ W0, W0 = ((w.alloc (.cells #[.pointer (some ⟨b, 0, none⟩), .func (.func 68) #[] caps] 150)).alloc (.cells #[.int .u16 0] 88)).alloc (.cells #[.int .u16 0] 88) := ⟨_, rfl⟩
  have hC0 := (((Cf.start h).alloc #[.pointer (some ⟨b, 0, none⟩), .func (.func 68) #[] caps] 150 h6).alloc #[.int .u16 0] 88 h5).alloc #[.int .u16 0] 88 h5
  rw [World.size_alloc, World.size_alloc, ← hW0] at hC0
  have H0 : Hid _ := hC0
  have HU : Hid (Calls Try.prog 27 #[.pointer (some ⟨b, 0, none⟩)] W0 fun e w' => e = .returned (.bool true) ∧ w' = W0) := usableI hC0.inb
  have c2 := hC0.inb.c 2
  simp at c2
  have hov4 := h.ov4
  obtain ⟨y0, _⟩ := hC0.c (.tail _ (.tail _ (.head _))) 0
  obtain ⟨y1, _⟩ := hC0.c (.tail _ (.tail _ (.head _))) 1
  obtain ⟨n0, _⟩ := hC0.c (.head _) 0
  obtain ⟨r0, f0⟩ := hC0.c (.tail _ (.head _)) 0
  simp at y0 y1 n0 r0
  have HBd : Hid (Below w.heap.size w W0.drew) := by
    show Below _ _ _
    rw [hW0]; exact below_drew (bx3_bel w _ _ _)
  have HB0 : Hid (Below w.heap.size w W0) := by
    show Below _ _ _
    rw [hW0]; exact bx3_bel w _ _ _
  clear hC0 h hcb
  go_enter Try.func69, Try.ntmps69
  go_wp2_with fail
  rw [← hW0]
  clear hW0
  refine HU.out.mono ?_
  rintro e w1 ⟨rfl, hw1⟩
  rw [hw1]; clear hw1 HU
  have RES : Hid (∀ (W : World) (cs : Array Value) bs v' l' dv d', Cf w W B b v v' rm ov l' bs dv d' → (w.heap.size + 1, cs, 88) ∈ bs → W.heap[w.heap.size + 1]? = some (.cells cs 88 (0, 0))) := fun W cs bs v' l' dv d' hc hm => (hc.box _ hm).1
  by_cases hov : 0 < ov
  · have t1 : decide ((0 : Int) < (ov : Int)) = true := by simp; omega
    have t2 : (0 : Int) < (ov : Int) := by omega
    have HF : Hid _ := (Cf.put (pre := [(w.heap.size + 1 + 1, #[.int .u16 0], 88)]) H0.out 0 (.int .u16 0) (cs' := #[.int .u16 0]) rfl)
    clear H0
    go_wp2
    exact bodyPost_ret (results_cell_tmp1 rfl _ _ (w.heap.size + 1) 88 #[.int .u16 0] (0, 0) _ rfl (RES.out _ _ _ _ _ _ _ HF.out (by simp)) Try.underlying88 rfl infoGre) rfl ⟨0, 0, l, v, none, 0, rfl, by simp [cutOf, hov], HF.out.inb, HF.out.act, World.ownsRow_nil _ _ _ _, by simp [Value.ownBlock]⟩
  · obtain rfl : ov = 0 := by omega
    have c1 := H0.out.inb.c 1
    simp at c1
    have H1 : Hid _ := H0.out.drew
    go_wp2
    have HDa : Hid _ := HD.out _ HBd.out
    have HDb : Hid _ := HD.out (W0.alloc (.cells #[.int .u16 0] 88)).drew (below_drew (HB0.out.alloc HB0.out.size _))
    have H1b : Hid _ := (H0.out.alloc #[.int .u16 0] 88 h5).drew
    have c1b := H1b.out.inb.c 1
    obtain ⟨y0b, _⟩ := H1b.out.c (.tail _ (.tail _ (.tail _ (.head _)))) 0
    obtain ⟨y1b, _⟩ := H1b.out.c (.tail _ (.tail _ (.tail _ (.head _)))) 1
    simp at c1b y0b y1b
    clear HD HBd HB0 H0
    refine Code.wp_mono (Q := MidGreeting w B b v rm l caps D) ?mid ?reg
    case reg =>
      refine Code.wp_mono (Q := NoPanic _) NoPanic.imp ?_
      go_region_with (go_at_call 68; first | (refine Calls.mono HDa.out ?_; rintro e W1 ⟨f, n, er, ao2, cap2, rfl, hDe, hrow⟩; have H3a : Hid _ := (H1.out.told hrow).alloc #[.int .u16 (f : Int)] 88 h5; have HDe : Hid _ := hDe; clear hrow hDe) | (refine Calls.mono HDb.out ?_; rintro e W1 ⟨f, n, er, ao2, cap2, rfl, hDe, hrow⟩; have H3b : Hid _ := H1b.out.told hrow; have HDe : Hid _ := hDe; clear hrow hDe; obtain ⟨a0, b0⟩ := H3b.out.c (.head _) 0; simp at a0))
      all_goals
        first | exact ⟨rfl, _, _, _, _, _, _, _, _, _, _, _, _, _, _, _, _, _, _, _, _, _, _, _, _, _, _, _, _, _, _, _, _, _, _, _, _, _, _, _, _, _, _, _, _, _, _, _, rfl, HDe.out, H3a.out⟩ | exact ⟨rfl, _, _, _, _, _, _, _, _, _, _, _, _, _, _, _, _, _, _, _, _, _, _, _, _, _, _, _, _, _, _, _, _, _, _, _, _, _, _, _, _, _, _, _, _, _, _, _, rfl, HDe.out, (Cf.put (pre := []) H3b.out 0 (.int .u16 (f : Int)) (cs' := #[.int .u16 (f : Int)]) rfl)⟩
    case mid =>
      clear HDa HDb H1 H1b c1 c1b y0b y1b
      rintro e a W ⟨rfl, f, n, er, ao2, cap2, g5, x0, x8, x9, x10, x11, x12, x13, x14, x15, x16, x17, x18, x19, x20, x21, x22, x23, x24, x25, x26, x27, x28, x29, x30, x31, x32, x33, x34, x35, x36, x37, x38, x39, x40, x41, x42, x43, x44, x45, x46, x47, rfl, HH⟩
      have hD' := hD
      rw [HH.out.1] at hD'
      have H3 : Hid _ := HH.out.2
      have HDe : Hid (D = (f, n, er)) := HH.out.1
      clear HH hD y0 y1 n0 r0 f0
      obtain ⟨y0, _⟩ := H3.out.c (.tail _ (.tail _ (.tail _ (.head _)))) 0
      obtain ⟨n0, _⟩ := H3.out.c (.tail _ (.head _)) 0
      obtain ⟨r0, f0⟩ := H3.out.c (.tail _ (.tail _ (.head _))) 0
      simp at y0 n0 r0
      by_cases he0 : er = 0
      · subst he0
        have hn : n ≤ l.length := hD' rfl
        have HDr : Hid _ := dropI H3.out.inb n hn
        go_wp2_with fail
        refine Calls.mono HDr.out ?_
        rintro e W2 ⟨rfl, v', hI, hA⟩
        have H4 : Hid _ := H3.out.acts hI hA
        clear H3 hI hA HDr y0 n0 r0 f0
        obtain ⟨s0, _⟩ := H4.out.c (.head _) 0
        obtain ⟨r0, f0⟩ := H4.out.c (.tail _ (.tail _ (.head _))) 0
        simp at s0 r0
        have HF : Hid _ := (Cf.put (pre := [(g5, #[.int .u16 (f : Int)], 88), (w.heap.size + 1 + 1, #[.int .u16 0], 88)]) H4.out 0 (.int .u16 (f : Int)) (cs' := #[.int .u16 (f : Int)]) rfl)
        clear H4
        go_wp2
        exact bodyPost_ret (results_cell_tmp1 rfl _ _ (w.heap.size + 1) 88 #[.int .u16 (f : Int)] (0, 0) _ rfl (RES.out _ _ _ _ _ _ _ HF.out (by simp)) Try.underlying88 rfl infoGre) rfl ⟨f, 1, l.drop n, v', ao2, cap2, rfl, by rw [HDe.out]; simp [cutOf], HF.out.inb, HF.out.act, HF.out.row, HF.out.rn⟩
      · have e0 : ¬ ((er : Int) = 0) := by omega
        by_cases he10 : er = 10
        · subst he10
          have HF : Hid _ := (Cf.put (pre := [(g5, #[.int .u16 (f : Int)], 88), (w.heap.size + 1 + 1, #[.int .u16 0], 88)]) H3.out 0 (.int .u16 0) (cs' := #[.int .u16 0]) rfl)
          clear H3
          go_wp2
          exact bodyPost_ret (results_cell_tmp1 rfl _ _ (w.heap.size + 1) 88 #[.int .u16 0] (0, 0) _ rfl (RES.out _ _ _ _ _ _ _ HF.out (by simp)) Try.underlying88 rfl infoGre) rfl ⟨0, 0, l, v, none, 0, rfl, by rw [HDe.out]; simp [cutOf, *], HF.out.inb, HF.out.act, World.ownsRow_nil _ _ _ _, by simp [Value.ownBlock]⟩
        · have e10 : ¬ ((er : Int) = 10) := by omega
          by_cases he12 : er = 12
          · subst he12
            have HF : Hid _ := (Cf.put (pre := [(g5, #[.int .u16 (f : Int)], 88), (w.heap.size + 1 + 1, #[.int .u16 0], 88)]) H3.out 0 (.int .u16 0) (cs' := #[.int .u16 0]) rfl)
            clear H3
            go_wp2
            exact bodyPost_ret (results_cell_tmp1 rfl _ _ (w.heap.size + 1) 88 #[.int .u16 0] (0, 0) _ rfl (RES.out _ _ _ _ _ _ _ HF.out (by simp)) Try.underlying88 rfl infoGre) rfl ⟨0, 3, l, v, none, 0, rfl, by rw [HDe.out]; simp [cutOf, *], HF.out.inb, HF.out.act, World.ownsRow_nil _ _ _ _, by simp [Value.ownBlock]⟩
          · have e12 : ¬ ((er : Int) = 12) := by omega
            have HF : Hid _ := (Cf.put (pre := [(g5, #[.int .u16 (f : Int)], 88), (w.heap.size + 1 + 1, #[.int .u16 0], 88)]) H3.out 0 (.int .u16 0) (cs' := #[.int .u16 0]) rfl)
            clear H3
            go_wp2
            exact bodyPost_ret (results_cell_tmp1 rfl _ _ (w.heap.size + 1) 88 #[.int .u16 0] (0, 0) _ rfl (RES.out _ _ _ _ _ _ _ HF.out (by simp)) Try.underlying88 rfl infoGre) rfl ⟨0, 2, l, v, none, 0, rfl, by rw [HDe.out]; simp [cutOf, *], HF.out.inb, HF.out.act, World.ownsRow_nil _ _ _ _, by simp [Value.ownBlock]⟩
end Go.Proofs.Ytckfmpoddmccfaa
