import Derived.Test.YtckfmpoddmccfaaRows
import Derived.Test.YtckfmpoddmccfaaFNl
import Derived.Test.YtckfmpoddmccfaaFO
import Derived.WalkKit
import Derived.ProofKit
import Derived.OpenShut
namespace Go.Proofs.Ytckfmpoddmccfaa.frameNobody
open Go.ChangeShapes Go.WideShapes Go.ChangeAt Go.RowKit Go.Lib
open Go.Deep
set_option linter.unusedVariables false
set_option linter.unusedSimpArgs false

theorem sixV {l : List Value} (h : l.length = 6) : ∃ a b c d e f, l = [a, b, c, d, e, f] := by
  match l, h with
  | [a, b, c, d, e, f], _ => exact ⟨a, b, c, d, e, f, rfl⟩
set_option maxRecDepth 100000 in
theorem open_op {H : Type} {enc : TypeId × Value → H} {W : World} {base fuel : Nat} {cs : List Value} {x : DataW H × List MemPlace} (hf : DataW.trod enc Try.prog W base (fun _ => true) true fuel 38 cs = some x) :
    ∃ (k : Int) (ao : Option Addr) (n c m : Nat) (z b : Bool) (a : Int), cs = [.int .i64 k, .slice ao n c, .int .u32 (m : Int), .bool z, .bool b, .int .i64 a] := by
  obtain ⟨xs, m, _, _, hl, hxl, hall⟩ := DataW.trod_struct Try.underlying38 hf
  have cI : Try.prog.cellsOf 3 = 1 := by kernel_rfl
  have cS : Try.prog.cellsOf 22 = 1 := by kernel_rfl
  have cU : Try.prog.cellsOf 36 = 1 := by kernel_rfl
  have cB : Try.prog.cellsOf 4 = 1 := by kernel_rfl
  obtain ⟨a, b, c, d, e, f, rfl⟩ := sixV (hl.trans (by kernel_rfl))
  have hx6 : xs.length = 6 := hxl
  have h0 : DataW.trod enc Try.prog W base (fun _ => true) true m 3 (([a, b, c, d, e, f].drop 0).take (Try.prog.cellsOf 3)) = xs[0]? := hall 0 _ rfl
  have h1 : DataW.trod enc Try.prog W base (fun _ => true) true m 22 (([a, b, c, d, e, f].drop 1).take (Try.prog.cellsOf 22)) = xs[1]? := hall 1 _ rfl
  have h2 : DataW.trod enc Try.prog W base (fun _ => true) true m 36 (([a, b, c, d, e, f].drop 2).take (Try.prog.cellsOf 36)) = xs[2]? := hall 2 _ rfl
  have h3 : DataW.trod enc Try.prog W base (fun _ => true) true m 4 (([a, b, c, d, e, f].drop 3).take (Try.prog.cellsOf 4)) = xs[3]? := hall 3 _ rfl
  have h4 : DataW.trod enc Try.prog W base (fun _ => true) true m 4 (([a, b, c, d, e, f].drop 4).take (Try.prog.cellsOf 4)) = xs[4]? := hall 4 _ rfl
  have h5 : DataW.trod enc Try.prog W base (fun _ => true) true m 3 (([a, b, c, d, e, f].drop 5).take (Try.prog.cellsOf 3)) = xs[5]? := hall 5 _ rfl
  rw [List.getElem?_eq_getElem (by omega)] at h0 h1 h2 h3 h4 h5
  rw [cI] at h0 h5
  rw [cS] at h1
  rw [cU] at h2
  rw [cB] at h3 h4
  obtain ⟨z0, e0, _, _⟩ := DataW.trod_int Try.underlying3 h0
  obtain ⟨z2, e2, _, w2⟩ := DataW.trod_int Try.underlying36 h2
  obtain ⟨z3, e3, _⟩ := DataW.trod_bool Try.underlying4 h3
  obtain ⟨z4, e4, _⟩ := DataW.trod_bool Try.underlying4 h4
  obtain ⟨z5, e5, _, _⟩ := DataW.trod_int Try.underlying3 h5
  have h1' : ∃ ao n c, b = .slice ao n c := by
    have hk := h1
    simp at hk
    obtain ⟨y, hy⟩ : ∃ y, y = xs[1] := ⟨_, rfl⟩
    rw [← hy] at hk
    rcases open_slice Try.underlying22 hk with ⟨hcs, _⟩ | ⟨x, len, cap, m, n, D, Pl, hcs, _⟩
    · simp at hcs; exact ⟨_, _, _, hcs⟩
    · simp at hcs; exact ⟨_, _, _, hcs⟩
  obtain ⟨ao, n, cp, rfl⟩ := h1'
  simp at e0 e2 e3 e4 e5
  subst e0; subst e2; subst e3; subst e4; subst e5
  obtain ⟨mm, rfl⟩ := Int.eq_ofNat_of_zero_le (bounds_u32 w2).1
  exact ⟨_, _, _, _, _, _, _, _, rfl⟩

set_option maxRecDepth 100000 in
theorem lifted (os : Os) (started : os.Started) (H : Type) (enc : TypeId × Value → H) :
    ReturnsInHanded {} Try.checked os 8 .any (Rows.frameNobodySpec.pre6 enc Try.prog Try.f8 Rows.frameNobodyRow.domain false) (Rows.frameNobodySpec.post enc Try.prog Try.f8 false true false false) := by
  refine returnsInHanded_of_change_sized (C := Try.checked) own started (by kernel_rfl) Try.func8
    (ChangeSpec.witness6 (enc := enc) (C := Try.checked) false ⟨#[], #[.agg #[.int .i64 0, .slice none 0 0, .int .u32 0, .bool false, .bool false, .int .i64 0]], []⟩ 8 (by kernel_rfl) (by kernel_rfl) (by kernel_rfl) (by kernel_rfl)) ?_
  intro W base args ds gs before hval0 hW hcnd hsz _
  have hval : ∀ (j : Nat) t v, Try.f8.params[j]? = some t → args[j]? = some v → Value.okWide Try.prog W .any base t v := hval0
  have hW' := hW
  obtain ⟨p, q, hA0, hV, rfl, hfz, hnd⟩ := hW
  have hA : DataW.TrodAll enc Try.prog W 0 (fun _ => true) true Try.f8.params.toList args.toList ds p := hA0
  rw [Try.params8] at hA hval
  obtain ⟨v0, vs0, d0, ds0, p0, q0, hargs, rfl, rfl, h0, r0⟩ := trodAll_cons hA
  obtain ⟨rfl, rfl, rfl⟩ := trodAll_nil r0
  obtain rfl : args = #[v0] := by cases args; simp_all
  obtain ⟨rfl, rfl⟩ := trodVars_none hV
  obtain ⟨cs, rfl, _⟩ := okWide_struct Try.underlying38 (hval 0 38 v0 rfl rfl)
  have k0 := h0
  have lt0 : ∀ x ∈ p0, x.block < W.heap.size := by obtain ⟨m, hm⟩ := k0; exact DataW.trod_lt m _ _ _ hm
  have hwalk : Calls Try.prog 8 #[.agg cs] W fun e w' => e = .returned (.bool true) ∧ Below W.heap.size W w' := by
    obtain ⟨fuel, hf⟩ := h0
    obtain ⟨k, ao, n, c, m, z, b, a, e1⟩ := open_op hf
    have e3 : cs = #[.int .i64 k, .slice ao n c, .int .u32 (m : Int), .bool z, .bool b, .int .i64 a] := by
      cases cs; simpa [Value.cells] using e1
    rw [e3]
    exact frameNobody_any W k ao n c m z b a
  clear hA0 hval0
  simp only [List.append_nil] at hW'
  refine hwalk.mono fun e W' ⟨he, bel⟩ => ?_
  subst he
  exact ⟨_, rfl, _, _, _, [], _, [], hW', trodAll_mk1 (shut_bool Try.underlying4 _), trodAll_cons_mk (Below.trod laidOut (by kernel_rfl) (of_decide_eq_true (by kernel_rfl)) k0 bel lt0) trodAll_mk0, rfl, bel.frame _, fun h => by cases h⟩

theorem over : Rows.frameNobodyRow.holds Try.pinned (OpenSpec.ofChange Rows.frameNobodySpec) :=
  OpenClaim.holds_of_wide 8 Try.f8 rfl rfl rfl rfl rfl rfl rfl ⟨rfl, rfl, rfl, rfl, rfl⟩ rfl rfl rfl rfl rfl (by kernel_rfl) Try.func8 (by kernel_rfl)
    (of_decide_eq_true (by kernel_rfl)) (by unfold Func.isWrapper; first | (rw [if_pos (by decide +kernel)]; kernel_rfl) | (rw [if_neg (by decide +kernel)]; exact ⟨rfl, rfl⟩))
    (fun os started H enc _ => lifted os started H enc)
end Go.Proofs.Ytckfmpoddmccfaa.frameNobody
namespace Go.Proofs.Ytckfmpoddmccfaa
theorem frameNobody_proved : Rows.FrameNobodySaid := frameNobody.over
#print axioms frameNobody_proved
end Go.Proofs.Ytckfmpoddmccfaa
