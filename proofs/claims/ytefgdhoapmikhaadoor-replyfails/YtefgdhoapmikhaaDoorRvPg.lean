import Derived.Test.YtefgdhoapmikhaaDoorRpFr
import Derived.Test.YtefgdhoapmikhaaDoorRvFz
namespace Go.Proofs.YtefgdhoapmikhaaDoor.replyFails
open Go.ChangeShapes Go.WideShapes Go.ChangeAt Go.RowKit Go.Lib
open Go.Deep
set_option linter.unusedVariables false
set_option linter.unusedSimpArgs false
set_option maxRecDepth 100000
theorem open_sesV {H : Type} {enc : TypeId × Value → H} {W : World} {base fuel : Nat} {cs : List Value} {d : DataW H} {p : List MemPlace} (h : DataW.trod enc Tryd.prog W base (fun _ => true) true fuel 24 cs = some (d, p)) :
    ∃ (ix : Int) (st ex : Bool) (co : Option Addr) (cn cc : Nat), cs = [.int .i64 ix, .bool st, .bool ex, .slice co cn cc] := by
  obtain ⟨xs, n, rfl, hx, hl, hxl, hall⟩ := DataW.trod_struct Tryd.underlying24 h
  have hl' : cs.length = 4 := hl.trans (by kernel_rfl)
  have h0 := hall 0 _ rfl
  obtain ⟨⟨y0, yp0⟩, hy0⟩ : ∃ y, xs[0]? = some y := ⟨_, List.getElem?_eq_getElem (by rw [hxl]; decide)⟩
  have k0 : Tryd.prog.cellsOf 3 = 1 := by kernel_rfl
  simp only [k0, hy0] at h0
  obtain ⟨z0, e0, _, w0⟩ := DataW.trod_int Tryd.underlying3 h0
  have t0 := take1 e0
  have h1 := hall 1 _ rfl
  obtain ⟨⟨y1, yp1⟩, hy1⟩ : ∃ y, xs[1]? = some y := ⟨_, List.getElem?_eq_getElem (by rw [hxl]; decide)⟩
  have k1 : Tryd.prog.cellsOf 4 = 1 := by kernel_rfl
  simp only [k1, hy1] at h1
  obtain ⟨z1, e1, _⟩ := DataW.trod_bool Tryd.underlying4 h1
  have t1 := take1 e1
  have h2 := hall 2 _ rfl
  obtain ⟨⟨y2, yp2⟩, hy2⟩ : ∃ y, xs[2]? = some y := ⟨_, List.getElem?_eq_getElem (by rw [hxl]; decide)⟩
  have k2 : Tryd.prog.cellsOf 4 = 1 := by kernel_rfl
  simp only [k2, hy2] at h2
  obtain ⟨z2, e2, _⟩ := DataW.trod_bool Tryd.underlying4 h2
  have t2 := take1 e2
  have h3 := hall 3 _ rfl
  obtain ⟨⟨y3, yp3⟩, hy3⟩ : ∃ y, xs[3]? = some y := ⟨_, List.getElem?_eq_getElem (by rw [hxl]; decide)⟩
  have k3 : Tryd.prog.cellsOf 22 = 1 := by kernel_rfl
  simp only [k3, hy3] at h3
  obtain ⟨a3, n3, c3, t3⟩ : ∃ a3 n3 c3, cs[3]? = some (.slice a3 n3 c3) := by
    rcases open_slice Tryd.underlying22 h3 with ⟨hcs, _⟩ | ⟨x, len, cap, m, n, D, Pl, hcs, _⟩
    · exact ⟨_, _, _, take1 hcs⟩
    · exact ⟨_, _, _, take1 hcs⟩
  refine ⟨z0, z1, z2, a3, n3, c3, ?_⟩
  · apply List.ext_getElem?
    intro i
    match i with
    | 0 => exact t0
    | 1 => exact t1
    | 2 => exact t2
    | 3 => exact t3
    | i + 4 => rw [List.getElem?_eq_none (by omega)]; rfl
theorem open_reqV {H : Type} {enc : TypeId × Value → H} {W : World} {base fuel : Nat} {cs : List Value} {d : DataW H} {p : List MemPlace} (h : DataW.trod enc Tryd.prog W base (fun _ => true) true fuel 29 cs = some (d, p)) :
    ∃ (fl ty ck of ln : Nat) (dv : Value), cs = [.int .u16 (fl : Int), .int .u16 (ty : Int), .int .u64 (ck : Int), .int .u64 (of : Int), .int .u64 (ln : Int), dv] ∧ fl < 65536 ∧ ty < 65536 ∧ ck < 18446744073709551616 ∧ of < 18446744073709551616 ∧ ln < 18446744073709551616 := by
  obtain ⟨xs, n, rfl, hx, hl, hxl, hall⟩ := DataW.trod_struct Tryd.underlying29 h
  have hl' : cs.length = 6 := hl.trans (by kernel_rfl)
  have h0 := hall 0 _ rfl
  obtain ⟨⟨y0, yp0⟩, hy0⟩ : ∃ y, xs[0]? = some y := ⟨_, List.getElem?_eq_getElem (by rw [hxl]; decide)⟩
  have k0 : Tryd.prog.cellsOf 25 = 1 := by kernel_rfl
  simp only [k0, hy0] at h0
  obtain ⟨i0, e0, _, w0⟩ := DataW.trod_int Tryd.underlying25 h0
  obtain ⟨z0, rfl⟩ := Int.eq_ofNat_of_zero_le (bounds_u16 w0).1
  have b0 := (bounds_u16 w0).2
  have t0 := take1 e0
  have h1 := hall 1 _ rfl
  obtain ⟨⟨y1, yp1⟩, hy1⟩ : ∃ y, xs[1]? = some y := ⟨_, List.getElem?_eq_getElem (by rw [hxl]; decide)⟩
  have k1 : Tryd.prog.cellsOf 25 = 1 := by kernel_rfl
  simp only [k1, hy1] at h1
  obtain ⟨i1, e1, _, w1⟩ := DataW.trod_int Tryd.underlying25 h1
  obtain ⟨z1, rfl⟩ := Int.eq_ofNat_of_zero_le (bounds_u16 w1).1
  have b1 := (bounds_u16 w1).2
  have t1 := take1 e1
  have h2 := hall 2 _ rfl
  obtain ⟨⟨y2, yp2⟩, hy2⟩ : ∃ y, xs[2]? = some y := ⟨_, List.getElem?_eq_getElem (by rw [hxl]; decide)⟩
  have k2 : Tryd.prog.cellsOf 26 = 1 := by kernel_rfl
  simp only [k2, hy2] at h2
  obtain ⟨i2, e2, _, w2⟩ := DataW.trod_int Tryd.underlying26 h2
  obtain ⟨z2, rfl⟩ := Int.eq_ofNat_of_zero_le (bounds_u64 w2).1
  have b2 := (bounds_u64 w2).2
  have t2 := take1 e2
  have h3 := hall 3 _ rfl
  obtain ⟨⟨y3, yp3⟩, hy3⟩ : ∃ y, xs[3]? = some y := ⟨_, List.getElem?_eq_getElem (by rw [hxl]; decide)⟩
  have k3 : Tryd.prog.cellsOf 26 = 1 := by kernel_rfl
  simp only [k3, hy3] at h3
  obtain ⟨i3, e3, _, w3⟩ := DataW.trod_int Tryd.underlying26 h3
  obtain ⟨z3, rfl⟩ := Int.eq_ofNat_of_zero_le (bounds_u64 w3).1
  have b3 := (bounds_u64 w3).2
  have t3 := take1 e3
  have h4 := hall 4 _ rfl
  obtain ⟨⟨y4, yp4⟩, hy4⟩ : ∃ y, xs[4]? = some y := ⟨_, List.getElem?_eq_getElem (by rw [hxl]; decide)⟩
  have k4 : Tryd.prog.cellsOf 26 = 1 := by kernel_rfl
  simp only [k4, hy4] at h4
  obtain ⟨i4, e4, _, w4⟩ := DataW.trod_int Tryd.underlying26 h4
  obtain ⟨z4, rfl⟩ := Int.eq_ofNat_of_zero_le (bounds_u64 w4).1
  have b4 := (bounds_u64 w4).2
  have t4 := take1 e4
  obtain ⟨v5, t5⟩ : ∃ v5, cs[5]? = some v5 := ⟨_, List.getElem?_eq_getElem (by omega)⟩
  refine ⟨z0, z1, z2, z3, z4, v5, ?_, by omega, by omega, by omega, by omega, by omega⟩
  · apply List.ext_getElem?
    intro i
    match i with
    | 0 => exact t0
    | 1 => exact t1
    | 2 => exact t2
    | 3 => exact t3
    | 4 => exact t4
    | 5 => exact t5
    | i + 6 => rw [List.getElem?_eq_none (by omega)]; rfl
theorem contract (H : Type) (enc : TypeId × Value → H) (W : World) (base : Nat) (args : Array Value) (ds gs : List (DataW H)) (before : List MemPlace)
    (hval : ∀ (j : Nat) t v, Tryd.f6.params[j]? = some t → args[j]? = some v → Value.okWide Tryd.prog W .any base t v)
    (hW : DataW.Whole enc Tryd.prog Tryd.f6.params.toList Rows.replyFailsSpec.vars false W args.toList ds gs before) :
    Calls Tryd.prog 6 args W fun e W' => ∃ v, e = .returned v ∧ Rows.replyFailsSpec.post enc Tryd.prog Tryd.f6 false true false false W args v W' := by
  have hW' := hW
  obtain ⟨p, q, hA0, hV, rfl, hfz, hnd⟩ := hW
  have hA : DataW.TrodAll enc Tryd.prog W 0 (fun _ => true) true Tryd.f6.params.toList args.toList ds p := hA0
  rw [Tryd.params6] at hA hval
  obtain ⟨v0, vs0, d0, ds0, p0, q0, hargs0, rfl, rfl, h0, r0⟩ := trodAll_cons hA
  obtain ⟨v1, vs1, d1, ds1, p1, q1, hargs1, rfl, rfl, h1, r1⟩ := trodAll_cons r0
  obtain ⟨v2, vs2, d2, ds2, p2, q2, hargs2, rfl, rfl, h2, r2⟩ := trodAll_cons r1
  obtain ⟨v3, vs3, d3, ds3, p3, q3, hargs3, rfl, rfl, h3, r3⟩ := trodAll_cons r2
  obtain ⟨v4, vs4, d4, ds4, p4, q4, hargs4, rfl, rfl, h4, r4⟩ := trodAll_cons r3
  obtain ⟨rfl, rfl, rfl⟩ := trodAll_nil r4
  obtain rfl : args = #[v0, v1, v2, v3, v4] := by cases args; simp_all
  obtain ⟨rfl, rfl⟩ := trodVars_none hV
  have k0 := h0
  have lt0 : ∀ x ∈ p0, x.block < W.heap.size := by obtain ⟨m, hm⟩ := k0; exact DataW.trod_lt m _ _ _ hm
  obtain ⟨cs0, rfl, hcs0⟩ := okWide_struct Tryd.underlying24 (hval 0 24 v0 rfl rfl)
  have k1 := h1
  have lt1 : ∀ x ∈ p1, x.block < W.heap.size := by obtain ⟨m, hm⟩ := k1; exact DataW.trod_lt m _ _ _ hm
  obtain ⟨cs1, rfl, hcs1⟩ := okWide_struct Tryd.underlying29 (hval 1 29 v1 rfl rfl)
  have k2 := h2
  have lt2 : ∀ x ∈ p2, x.block < W.heap.size := by obtain ⟨m, hm⟩ := k2; exact DataW.trod_lt m _ _ _ hm
  obtain ⟨zi2, rfl, _, _, hz2⟩ := open_int Tryd.underlying30 (hval 2 30 v2 rfl rfl) h2
  obtain ⟨m2, rfl⟩ := Int.eq_ofNat_of_zero_le (bounds_u32 hz2).1
  have um2 := (bounds_u32 hz2).2
  have k3 := h3
  have lt3 : ∀ x ∈ p3, x.block < W.heap.size := by obtain ⟨m, hm⟩ := k3; exact DataW.trod_lt m _ _ _ hm
  obtain ⟨z3, rfl, _, _⟩ := open_bool Tryd.underlying4 (hval 3 4 v3 rfl rfl) h3
  have k4 := h4
  have lt4 : ∀ x ∈ p4, x.block < W.heap.size := by obtain ⟨m, hm⟩ := k4; exact DataW.trod_lt m _ _ _ hm
  obtain ⟨zi4, rfl, _, _, hz4⟩ := open_int Tryd.underlying30 (hval 4 30 v4 rfl rfl) h4
  obtain ⟨m4, rfl⟩ := Int.eq_ofNat_of_zero_le (bounds_u32 hz4).1
  have um4 := (bounds_u32 hz4).2
  have hwalk : Calls Tryd.prog 6 #[.agg cs0, .agg cs1, .int .u32 (m2 : Int), .bool z3, .int .u32 (m4 : Int)] W fun e w' => e = .returned (.bool true) ∧ Below W.heap.size W w' := by
    obtain ⟨n0, hm0⟩ := h0
    obtain ⟨n1, hm1⟩ := h1
    obtain ⟨ix, st, ex, co, cn, cc, e0⟩ := open_sesV hm0
    obtain ⟨fl, ty, ck, off, len, dv, e1, b1, b2, b3, b4, b5⟩ := open_reqV hm1
    simp [Value.cells] at e0 e1
    obtain rfl : cs0 = #[.int .i64 ix, .bool st, .bool ex, .slice co cn cc] := by rw [← Array.toList_inj]; simpa using e0
    obtain rfl : cs1 = #[.int .u16 (fl : Int), .int .u16 (ty : Int), .int .u64 (ck : Int), .int .u64 (off : Int), .int .u64 (len : Int), dv] := by rw [← Array.toList_inj]; simpa using e1
    exact replyFails_any ix st ex co cn cc fl ty ck off len _ m2 z3 m4 W trivial b2 b3 b4 b5 (by omega) (by omega)
  clear hA0
  refine hwalk.mono fun e W' ⟨he, bel⟩ => ?_
  subst he
  exact ⟨_, rfl, _, _, _, [], _, [], hW', trodAll_mk1 (shut_bool Tryd.underlying4 _), (trodAll_cons_mk (Below.trod laidOut (by kernel_rfl) (of_decide_eq_true (by kernel_rfl)) k0 bel lt0) (trodAll_cons_mk (Below.trod laidOut (by kernel_rfl) (of_decide_eq_true (by kernel_rfl)) k1 bel lt1) (trodAll_cons_mk (Below.trod laidOut (by kernel_rfl) (of_decide_eq_true (by kernel_rfl)) k2 bel lt2) (trodAll_cons_mk (Below.trod laidOut (by kernel_rfl) (of_decide_eq_true (by kernel_rfl)) k3 bel lt3) (trodAll_cons_mk (Below.trod laidOut (by kernel_rfl) (of_decide_eq_true (by kernel_rfl)) k4 bel lt4) trodAll_mk0))))), rfl, bel.frame _, fun h => by cases h⟩
def wit : Array Value := #[.agg #[.int .i64 0, .bool false, .bool false, .slice none 0 0], .agg #[.int .u16 0, .int .u16 0, .int .u64 0, .int .u64 0, .int .u64 0, .slice none 0 0], .int .u32 0, .bool false, .int .u32 0]
theorem reads (os : Os) {H : Type} (enc : TypeId × Value → H) : ∃ places, DataW.whole enc Tryd.prog ((putTabs (World.holding Tryd.prog os ⟨#[], #[], []⟩)).forCall (fun _ _ => 0) ⟨#[], wit, []⟩).memory Tryd.f6.params.toList Rows.replyFailsSpec.vars false wit.toList 8 = some ([.agg [.lit (.int .i64 0), .lit (.bool false), .lit (.bool false), .nil], .agg [.lit (.int .u16 0), .lit (.int .u16 0), .lit (.int .u64 0), .lit (.int .u64 0), .lit (.int .u64 0), .nil], .lit (.int .u32 0), .lit (.bool false), .lit (.int .u32 0)], [], places) :=
  ⟨[], by kernel_rfl⟩
theorem lifted (os : Os) (started : os.Started) (H : Type) (enc : TypeId × Value → H) (F : Stop.Interp) :
    ReturnsInHanded {} Tryd.checked os 6 .any ((OpenSpec.ofChange Rows.replyFailsSpec).preRow enc Tryd.prog Tryd.f6 Rows.replyFailsRow.domain false Rows.replyFailsRow.laid) (((OpenSpec.ofChange Rows.replyFailsSpec).at F).post enc Tryd.prog Tryd.f6 false true false false) := by
  obtain ⟨places, hx⟩ := reads os enc
  refine returnsInHanded_of_row (C := Tryd.checked) (s := OpenSpec.ofChange Rows.replyFailsSpec) own started (by kernel_rfl) Tryd.func6
    (witness_row_atRef (enc := enc) (C := Tryd.checked) false (putTabs (World.holding Tryd.prog os ⟨#[], #[], []⟩)) wit rfl (by kernel_rfl) (by kernel_rfl) (by kernel_rfl)
      (OpenSpec.preRow_of_cond 8 hx (by kernel_rfl) (fun k hk => by cases hk) (by kernel_rfl) (laid_met os _))) ?_
  intro W base args ds gs before hval hW _ _ hsz hL _ _
  exact contract H enc W base args ds gs before hval hW
theorem said : Rows.ReplyFailsSaid :=
  OpenClaim.holds_of_cond 6 Tryd.f6 rfl rfl rfl rfl rfl rfl rfl ⟨rfl, rfl, rfl, rfl, rfl⟩ rfl rfl rfl rfl rfl (by kernel_rfl) Tryd.func6 (by kernel_rfl)
    (of_decide_eq_true (by kernel_rfl)) (by unfold Func.isWrapper; first | (rw [if_pos (by decide +kernel)]; kernel_rfl) | (rw [if_neg (by decide +kernel)]; exact ⟨rfl, rfl⟩))
    (fun os started H enc _ F => by rw [OpenClaim.pre_eq_preRow]; exact lifted os started H enc F)
theorem plain (f : FuncId) (fn : Func) (hf : Tryd.pinned.checked.prog.funcNamed Tryd.f6.name = some f) (hfn : Tryd.pinned.checked.prog.funcs[f]? = some fn) :
    false = Tryd.pinned.checked.prog.looks [] ∧ ∀ (j : Nat) t, fn.params[j]? = some t → Tryd.pinned.checked.prog.wantsStandIn t = false := by
  obtain rfl : f = 6 := Option.some.inj ((show Tryd.prog.funcNamed Tryd.f6.name = some 6 by kernel_rfl).symm.trans hf) |>.symm
  obtain rfl : fn = Tryd.f6 := (Option.some.inj (Tryd.func6.symm.trans hfn)).symm
  refine ⟨by kernel_rfl, fun j t ht => ?_⟩
  rw [Tryd.params6] at ht
  have hm := Array.mem_of_getElem? ht
  have hall : (#[24, 29, 30, 4, 30] : Array TypeId).all (fun t => Tryd.prog.wantsStandIn t == false) = true := by kernel_rfl
  have := Array.all_eq_true_iff_forall_mem.1 hall t hm
  exact (show Tryd.prog.wantsStandIn t = false by simpa using this)
end Go.Proofs.YtefgdhoapmikhaaDoor.replyFails
namespace Go.Proofs.YtefgdhoapmikhaaDoor
theorem replyFails_proved : Rows.ReplyFailsCardSaid :=
  Claim7.holds_tied_plain_at .later [] _ _ _ _ replyFails.said (fun _ h => by cases h) (by kernel_rfl) (fun _ h => by cases h) replyFails_row_tie rfl ⟨rfl, rfl⟩ (by kernel_rfl) rfl replyFails.plain (by kernel_rfl)
#print axioms replyFails_proved
end Go.Proofs.YtefgdhoapmikhaaDoor
