import Derived.Test.YtckfmpoddmccfaaV38
namespace Go.Proofs.Ytckfmpoddmccfaa
open Go.RowKit
set_option linter.unusedVariables false
set_option linter.unusedSimpArgs false
set_option maxRecDepth 100000
set_option maxHeartbeats 1000000 in
theorem data1 (ao : Option Addr) (cap : Nat) (l : List Nat) (z : Int) (pz : Nat) (w : World) (h : CRow w ao cap l) (hp : w.cell? ⟨pz, 0, none⟩ = some (.int .i64 z)) :
    Calls Try.prog 83 #[.slice ao l.length cap, .pointer (some ⟨pz, 0, none⟩)] w fun e w' => DatP (datD z l) w e w' := by
  have HD : Hid (Calls Try.prog 84 #[.slice ao l.length cap, .int .i64 z] w fun e w' => DatP (datD z l) w e w') := decDataA ao cap l z w h
  obtain ⟨ln, hln⟩ : ∃ ln, l.length = ln := ⟨_, rfl⟩
  rw [hln] at HD
  rw [hln]
  clear h
  go_enter Try.func83, Try.ntmps83
  go_wp2_with fail
  refine HD.out.mono ?_
  rintro e W1 ⟨d, n, er, ao2, cap2, rfl, hD, hr⟩
  have HDe : Hid _ := hD
  have HR : Hid _ := hr
  clear HD hD hr
  go_wp2
  go_ret3
  exact ⟨d, n, er, ao2, cap2, rfl, HDe.out, HR.out⟩
set_option maxHeartbeats 2000000 in
theorem dataI {w : World} {B b : Nat} {v : Value} {rm ov : Nat} {l : List Nat} (h : Inb w B b v rm ov l) (z : Int) :
    Calls Try.prog 40 #[.pointer (some ⟨b, 0, none⟩), .int .i64 z] w fun e w' => CutData w B b v rm ov l (datD z l) e w' := by
  have g0 : 3 ≠ 5 := by decide
  obtain ⟨ao, cap, hv, hcr⟩ := h.row.crow
  obtain ⟨W0, hW0⟩ : ∃ W0, W0 = w.alloc (.cells #[.int .i64 z] 3) := ⟨_, rfl⟩
  have hC0 := (Cf.start h).alloc #[.int .i64 z] 3 g0
  rw [← hW0] at hC0
  have H0 : Hid _ := hC0
  have hb0 : Below w.heap.size w W0 := by rw [hW0]; exact (Below.refl _ _).alloc (Nat.le_refl _) _
  have hpz : W0.cell? ⟨w.heap.size, 0, none⟩ = some (.int .i64 z) := by
    have := (hC0.c (.head _) 0).1
    simpa using this
  have HCt : Hid _ := cutData hC0.inb #[.pointer (some ⟨w.heap.size, 0, none⟩)] (datD z l) (datD_n z l) (fun W hW => by
      have hc : CRow W ao cap l := (hcr.later hb0).later hW
      have := data1 ao cap l z w.heap.size W hc (cell_later hW hpz)
      rw [hv]
      exact this)
  clear hC0 hpz hb0 hcr hv
  go_enter Try.func40, Try.ntmps40
  go_wp2_with fail
  rw [← hW0]
  clear hW0
  refine Calls.mono HCt.out ?_
  rintro e W1 ⟨d, cu, l', v', ao2, cap2, rfl, hcut, hI, hA, hr, hn⟩
  have HCu : Hid _ := hcut
  have H1 : Hid _ := H0.out.told2 (d' := d) hI hA hr hn
  clear HCt hcut hI hA hr hn H0
  go_wp2
  go_ret2
  exact ⟨d, cu, l', v', ao2, cap2, rfl, HCu.out, H1.out.inb, H1.out.act, H1.out.row, H1.out.rn⟩
end Go.Proofs.Ytckfmpoddmccfaa
