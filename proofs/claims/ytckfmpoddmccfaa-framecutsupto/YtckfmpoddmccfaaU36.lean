import Derived.Test.YtckfmpoddmccfaaU26
import Derived.Deep.RegionWith
import Derived.Deep.RegionHeld3
namespace Go.Proofs.Ytckfmpoddmccfaa
open Go.RowKit
set_option linter.unusedVariables false
set_option linter.unusedSimpArgs false
set_option maxRecDepth 100000
def CutData (w : World) (B b : Nat) (v : Value) (rm ov : Nat) (l : List Nat) (D : List Nat × Nat × Nat) (e : Ending) (w' : World) : Prop :=
  ∃ (d : List Nat) (cu : Nat) (l' : List Nat) (v' : Value) (ao2 : Option Addr) (cap2 : Nat), e = .returned (.tuple #[.slice ao2 d.length cap2, .int .i64 (cu : Int)]) ∧ cutOf [] ov l D = (d, cu, l') ∧ Inb w' B b v' rm ov l' ∧ IAct w w' b v v' ∧ w'.ownsRow w.heap.size 5 1 (.slice ao2 d.length cap2) d.length (d.map bv) ∧ ∀ g, (Value.slice ao2 d.length cap2).ownBlock = some g → v'.ownBlock ≠ some g
set_option maxHeartbeats 8000000 in
theorem cutData {w : World} {B b : Nat} {v : Value} {rm ov : Nat} {l : List Nat} (h : Inb w B b v rm ov l) (caps : Array Value) (D : List Nat × Nat × Nat) (hD : D.2.2 = 0 → D.2.1 ≤ l.length)
    (HD : Hid (∀ W : World, Below w.heap.size w W → Calls Try.prog 83 (#[v] ++ caps) W fun e W' => DatP D W e W')) :
    Calls Try.prog 85 #[.agg #[.pointer (some ⟨b, 0, none⟩), .func (.func 83) #[] caps]] w fun e w' => CutData w B b v rm ov l D e w' := by
  have h6 : 180 ≠ 5 := by decide
  obtain ⟨W0, hW0⟩ : ∃ W0, W0 = w.alloc (.cells #[.pointer (some ⟨b, 0, none⟩), .func (.func 83) #[] caps] 180) := ⟨_, rfl⟩
  have hC0 := (Cf.start h).alloc #[.pointer (some ⟨b, 0, none⟩), .func (.func 83) #[] caps] 180 h6
  rw [← hW0] at hC0
  have H0 : Hid _ := hC0
  have HU : Hid (Calls Try.prog 27 #[.pointer (some ⟨b, 0, none⟩)] W0 fun e w' => e = .returned (.bool true) ∧ w' = W0) := usableI hC0.inb
  have c2 := hC0.inb.c 2
  simp at c2
  obtain ⟨y0, _⟩ := hC0.c (.head _) 0
  obtain ⟨y1, _⟩ := hC0.c (.head _) 1
  simp at y0 y1
  have HBd : Hid (Below w.heap.size w W0.drew) := by
    show Below _ _ _
    rw [hW0]; exact below_drew ((Below.refl _ _).alloc (Nat.le_refl _) _)
  clear hC0 h
  go_enter Try.func85, Try.ntmps85
  go_wp2_with fail
  rw [← hW0]
  clear hW0
  refine HU.out.mono ?_
  rintro e w1 ⟨rfl, hw1⟩
  rw [hw1]; clear hw1 HU
  by_cases hov : 0 < ov
  · have t1 : decide ((0 : Int) < (ov : Int)) = true := by simp; omega
    have t2 : (0 : Int) < (ov : Int) := by omega
    go_wp2
    go_ret2
    exact ⟨[], 0, l, v, none, 0, rfl, by simp [cutOf, hov], H0.out.inb, H0.out.act, World.ownsRow_nil _ _ _ _, by simp [Value.ownBlock]⟩
  · obtain rfl : ov = 0 := by omega
    have c1 := H0.out.inb.c 1
    simp at c1
    have H1 : Hid _ := H0.out.drew
    have HDa : Hid _ := HD.out _ HBd.out
    clear HD HBd H0
    go_wp2
    go_region_with (go_at_call 83; refine Calls.mono HDa.out ?_; rintro e W1 ⟨d, n, er, ao2, cap2, rfl, hDe, hrow⟩; have H3 : Hid _ := H1.out.told hrow; have HDe : Hid _ := hDe; clear hrow hDe)
    all_goals
      have hD' := hD
      rw [HDe.out] at hD'
      obtain ⟨y0', _⟩ := H3.out.c (.head _) 0
      simp at y0'
      by_cases he0 : er = 0
      · subst he0
        have hn : n ≤ l.length := hD' rfl
        have HDr : Hid _ := dropI H3.out.inb n hn
        go_wp2_with fail
        refine Calls.mono HDr.out ?_
        rintro e W2 ⟨rfl, v', hI, hA⟩
        have H4 : Hid _ := H3.out.acts hI hA
        clear H3 hI hA HDr
        go_wp2
        go_ret2
        exact ⟨d, 1, l.drop n, v', ao2, cap2, rfl, by rw [HDe.out]; simp [cutOf], H4.out.inb, H4.out.act, H4.out.row, H4.out.rn⟩
      · have e0 : ¬ ((er : Int) = 0) := by omega
        by_cases he10 : er = 10
        · subst he10
          go_wp2
          go_ret2
          exact ⟨[], 0, l, v, none, 0, rfl, by rw [HDe.out]; simp [cutOf], H3.out.inb, H3.out.act, World.ownsRow_nil _ _ _ _, by simp [Value.ownBlock]⟩
        · have e10 : ¬ ((er : Int) = 10) := by omega
          by_cases he12 : er = 12
          · subst he12
            go_wp2
            go_ret2
            exact ⟨[], 3, l, v, none, 0, rfl, by rw [HDe.out]; simp [cutOf], H3.out.inb, H3.out.act, World.ownsRow_nil _ _ _ _, by simp [Value.ownBlock]⟩
          · have e12 : ¬ ((er : Int) = 12) := by omega
            go_wp2
            go_ret2
            exact ⟨[], 2, l, v, none, 0, rfl, by rw [HDe.out]; simp [cutOf, *], H3.out.inb, H3.out.act, World.ownsRow_nil _ _ _ _, by simp [Value.ownBlock]⟩
end Go.Proofs.Ytckfmpoddmccfaa
namespace Go.Proofs.Ytckfmpoddmccfaa
open Go.RowKit
set_option linter.unusedVariables false
set_option linter.unusedSimpArgs false
set_option maxRecDepth 100000
set_option maxHeartbeats 1000000 in
theorem data1 (ao : Option Addr) (cap : Nat) (l : List Nat) (z : Int) (pz : Nat) (w : World) (h : CRow w ao cap l) (hp : w.cell? ⟨pz, 0, none⟩ = some (.int .i64 z)) :
    Calls Try.prog 83 #[.slice ao l.length cap, .pointer (some ⟨pz, 0, none⟩)] w fun e w' => DatP (datD z l) w e w' := by
  have HD : Hid (Calls Try.prog 84 #[.slice ao l.length cap, .int .i64 z] w fun e w' => DatP (datD z l) w e w') := decDataA ao cap l z w h
  obtain ⟨ln, hln⟩ : ∃ ln, l.length = ln := ⟨_, rfl⟩
  rw [hln] at HD
  rw [hln]
  clear h
  go_enter Try.func83, Try.ntmps83
  go_wp2_with fail
  refine HD.out.mono ?_
  rintro e W1 ⟨d, n, er, ao2, cap2, rfl, hD, hr⟩
  have HDe : Hid _ := hD
  have HR : Hid _ := hr
  clear HD hD hr
  go_wp2
  go_ret3
  exact ⟨d, n, er, ao2, cap2, rfl, HDe.out, HR.out⟩
set_option maxHeartbeats 2000000 in
theorem dataI {w : World} {B b : Nat} {v : Value} {rm ov : Nat} {l : List Nat} (h : Inb w B b v rm ov l) (z : Int) :
    Calls Try.prog 40 #[.pointer (some ⟨b, 0, none⟩), .int .i64 z] w fun e w' => CutData w B b v rm ov l (datD z l) e w' := by
  have g0 : 3 ≠ 5 := by decide
  obtain ⟨ao, cap, hv, hcr⟩ := h.row.crow
  obtain ⟨W0, hW0⟩ : ∃ W0, W0 = w.alloc (.cells #[.int .i64 z] 3) := ⟨_, rfl⟩
  have hC0 := (Cf.start h).alloc #[.int .i64 z] 3 g0
  rw [← hW0] at hC0
  have H0 : Hid _ := hC0
  have hb0 : Below w.heap.size w W0 := by rw [hW0]; exact (Below.refl _ _).alloc (Nat.le_refl _) _
  have hpz : W0.cell? ⟨w.heap.size, 0, none⟩ = some (.int .i64 z) := by
    have := (hC0.c (.head _) 0).1
    simpa using this
  have HCt : Hid _ := cutData hC0.inb #[.pointer (some ⟨w.heap.size, 0, none⟩)] (datD z l) (datD_n z l) (fun W hW => by
      have hc : CRow W ao cap l := (hcr.later hb0).later hW
      have := data1 ao cap l z w.heap.size W hc (cell_later hW hpz)
      rw [hv]
      exact this)
  clear hC0 hpz hb0 hcr hv
  go_enter Try.func40, Try.ntmps40
  go_wp2_with fail
  rw [← hW0]
  clear hW0
  refine Calls.mono HCt.out ?_
  rintro e W1 ⟨d, cu, l', v', ao2, cap2, rfl, hcut, hI, hA, hr, hn⟩
  have HCu : Hid _ := hcut
  have H1 : Hid _ := H0.out.told2 (d' := d) hI hA hr hn
  clear HCt hcut hI hA hr hn H0
  go_wp2
  go_ret2
  exact ⟨d, cu, l', v', ao2, cap2, rfl, HCu.out, H1.out.inb, H1.out.act, H1.out.row, H1.out.rn⟩
end Go.Proofs.Ytckfmpoddmccfaa
