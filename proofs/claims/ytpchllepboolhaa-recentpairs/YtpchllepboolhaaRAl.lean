import Derived.Test.YtpchllepboolhaaROS
namespace Go.Proofs.Ytpchllepboolhaa.S
open Go.RowKit Go.Maps
attribute [local go_sem] Oper.semAt_some
set_option linter.unusedVariables false
set_option linter.unusedSimpArgs false
set_option maxRecDepth 100000

abbrev kA : ByteArray := ⟨#[97]⟩
abbrev kB : ByteArray := ⟨#[98]⟩
theorem wfA : wfK kA := by decide
theorem wfB : wfK kB := by decide
theorem kAB : kA ≠ kB := by decide
theorem Act.below {w w' : World} {bo bm g : Nat} {L L' : List Ent} (h : Act w w' bo bm g L L') {B : Nat} (hB : ∀ i ∈ fp bo bm g L, B ≤ i) (hw : B ≤ w.heap.size) : Below B w w' ∧ ∀ i ∈ fp bo bm g L', B ≤ i :=
  ⟨h.kp.below hB hw, fun i hi => (h.sub i hi).elim (hB i) (fun h => by omega)⟩

set_option maxHeartbeats 4000000 in
theorem alive_any (w : World) : Calls Try.prog 12 #[] w fun e w' => e = .returned (.bool true) ∧ Below w.heap.size w w' := by
  go_enter Try.func12, Try.ntmps12
  go_wp2_with (first | (go_at_call 49; refine (new_any _).mono ?_; rintro e w0 ⟨bo, bm, g, rfl, h0, hb0, hf0⟩) | (go_at_call 50; fail))
  refine (add_new h0 wfA (by simp) (by decide)).mono ?_
  rintro e w1 ⟨rfl, p, ha1⟩
  obtain ⟨hb1, hf1⟩ := ha1.below hf0 hb0.size
  have h1 := ha1.ro
  clear ha1 h0 hf0
  go_wp2_with (go_at_call 50; fail)
  refine (add_new h1 wfB (by simp [kA, kB]) (by simp [maxLen])).mono ?_
  rintro e w2 ⟨rfl, q, ha2⟩
  obtain ⟨hb2, hf2⟩ := ha2.below hf1 (by have := hb0.size; have := hb1.size; omega)
  have h2 := ha2.ro
  simp only [List.nil_append, List.cons_append] at h2 hf2
  clear ha2 h1 hf1
  go_wp2_with (go_at_call 51; fail)
  refine (touch_any (L1 := []) (e := ⟨kA, 0, p⟩) (L2 := [⟨kB, 0, q⟩]) h2).mono ?_
  rintro e w3 ⟨rfl, ha3⟩
  obtain ⟨hb3, hf3⟩ := ha3.below hf2 (by have := hb0.size; have := hb1.size; have := hb2.size; omega)
  have h3 := ha3.ro
  simp only [List.nil_append, List.cons_append] at h3 hf3
  clear ha3 h2 hf2
  go_wp2_with (go_at_call 52; fail)
  refine (pin_any (L1 := []) (e := ⟨kB, 0, q⟩) (L2 := [⟨kA, 0, p⟩]) h3 (by simp)).mono ?_
  rintro e w4 ⟨rfl, ha4⟩
  obtain ⟨hb4, hf4⟩ := ha4.below hf3 (by have := hb0.size; have := hb1.size; have := hb2.size; have := hb3.size; omega)
  have h4 := ha4.ro
  simp only [List.nil_append] at h4 hf4
  clear ha4 h3 hf3
  have HB4 : Hid (Below w.heap.size w w4) := ((((hb0.trans (hb1.mono (Nat.le_refl _))).trans (hb2.mono (Nat.le_refl _)))).trans (hb3.mono (Nat.le_refl _))).trans (hb4.mono (Nat.le_refl _))
  clear hb0 hb1 hb2 hb3 hb4 hf4
  go_wp2_with (go_at_call 53; fail)
  refine (oldest_any h4).mono ?_
  rintro e w5 ⟨rfl, hb5⟩
  have h5 := h4.later hb5
  have HB5 : Hid (Below w.heap.size w w5) := HB4.out.trans (hb5.mono HB4.out.size)
  have HLn := len_any h5
  have HPn := pins_any h5 (e := ⟨kB, 1, q⟩) (by simp)
  have HAd := add_old h5 (e := ⟨kA, 0, p⟩) (by simp)
  simp only [oldest, List.length_cons, List.length_nil, Nat.zero_add, Nat.reduceAdd] at *
  clear h4 hb5 HB4 h5
  go_wp2_with (first | (go_at_call 54; refine HLn.mono ?_; rintro e w9 ⟨rfl, hw9⟩; rw [hw9]; clear hw9) | (go_at_call 55; refine HPn.mono ?_; rintro e w9 ⟨rfl, hw9⟩; rw [hw9]; clear hw9) | (go_at_call 50; refine HAd.mono ?_; rintro e w9 ⟨rfl, hw9⟩; rw [hw9]; clear hw9))
  go_ret
  exact ⟨rfl, HB5.out⟩
end Go.Proofs.Ytpchllepboolhaa.S
