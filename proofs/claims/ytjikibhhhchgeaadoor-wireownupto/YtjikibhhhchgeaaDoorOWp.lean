import Derived.Test.YtjikibhhhchgeaaDoorCards
import Derived.Test.YtjikibhhhchgeaaDoorTie
import Derived.Test.YtjikibhhhchgeaaDoorJFv
import Derived.Test.YtjikibhhhchgeaaDoorOWb
import Derived.ProofKit
import Derived.OpenShut
import Derived.ShutString
import Derived.ChangeOld
import Derived.SizedLaws
import Derived.JoinedCond
import Derived.Deep.DeepHandedRow
import Derived.Deep.DeepWitnessRowRef
namespace Go.Proofs.YtjikibhhhchgeaaDoor
open Go.ChangeShapes Go.WideShapes Go.ChangeAt Go.RowKit Go.Lib
open Go.Deep
set_option linter.unusedVariables false
set_option linter.unusedSimpArgs false
set_option maxRecDepth 100000
theorem open_chk {H : Type} {enc : TypeId × Value → H} {w : World} {base : Nat} {fuel : Nat} {cs : List Value} {d : DataW H} {p : List MemPlace} (h : DataW.trod enc Tryd.prog w base (fun _ => true) true fuel 85 cs = some (d, p)) (hb : Rows.uptoBulk d ≤ 1048576) : ∃ (x0 : Nat) (x1 : Nat) (x2 : Nat) (x3 : Nat) (a4 : Option Addr) (c4 : Nat) (l4 : List Nat), cs = [.int .u16 (x0 : Int), .int .u16 (x1 : Int), .int .u64 (x2 : Int), .int .u64 (x3 : Int), .slice a4 l4.length c4] ∧ x0 < 65536 ∧ x1 < 65536 ∧ x2 < 18446744073709551616 ∧ x3 < 18446744073709551616 ∧ BRow w a4 c4 l4 ∧ l4.length ≤ 1048576 := by
  obtain ⟨xs, n, rfl, hx, hl, hxl, hall⟩ := DataW.trod_struct Tryd.underlying85 h
  have hl' : cs.length = 5 := hl.trans (by kernel_rfl)
  have h0 := hall 0 _ rfl
  obtain ⟨y0, hy0⟩ : ∃ y, xs[0]? = some y := ⟨_, List.getElem?_eq_getElem (by rw [hxl]; decide)⟩
  have c0 : Tryd.prog.cellsOf 22 = 1 := by kernel_rfl
  simp only [c0, hy0] at h0
  obtain ⟨a0, e0, _, w0⟩ := DataW.trod_int Tryd.underlying22 h0
  obtain ⟨n0, rfl⟩ := Int.eq_ofNat_of_zero_le (bounds_u16 w0).1
  have b0 := (bounds_u16 w0).2
  have z0 := take1 e0
  have h1 := hall 1 _ rfl
  obtain ⟨y1, hy1⟩ : ∃ y, xs[1]? = some y := ⟨_, List.getElem?_eq_getElem (by rw [hxl]; decide)⟩
  have c1 : Tryd.prog.cellsOf 22 = 1 := by kernel_rfl
  simp only [c1, hy1] at h1
  obtain ⟨a1, e1, _, w1⟩ := DataW.trod_int Tryd.underlying22 h1
  obtain ⟨n1, rfl⟩ := Int.eq_ofNat_of_zero_le (bounds_u16 w1).1
  have b1 := (bounds_u16 w1).2
  have z1 := take1 e1
  have h2 := hall 2 _ rfl
  obtain ⟨y2, hy2⟩ : ∃ y, xs[2]? = some y := ⟨_, List.getElem?_eq_getElem (by rw [hxl]; decide)⟩
  have c2 : Tryd.prog.cellsOf 23 = 1 := by kernel_rfl
  simp only [c2, hy2] at h2
  obtain ⟨a2, e2, _, w2⟩ := DataW.trod_int Tryd.underlying23 h2
  obtain ⟨n2, rfl⟩ := Int.eq_ofNat_of_zero_le (bounds_u64 w2).1
  have b2 := (bounds_u64 w2).2
  have z2 := take1 e2
  have h3 := hall 3 _ rfl
  obtain ⟨y3, hy3⟩ : ∃ y, xs[3]? = some y := ⟨_, List.getElem?_eq_getElem (by rw [hxl]; decide)⟩
  have c3 : Tryd.prog.cellsOf 23 = 1 := by kernel_rfl
  simp only [c3, hy3] at h3
  obtain ⟨a3, e3, _, w3⟩ := DataW.trod_int Tryd.underlying23 h3
  obtain ⟨n3, rfl⟩ := Int.eq_ofNat_of_zero_le (bounds_u64 w3).1
  have b3 := (bounds_u64 w3).2
  have z3 := take1 e3
  have h4 := hall 4 _ rfl
  obtain ⟨⟨y4, yp4⟩, hy4⟩ : ∃ y, xs[4]? = some y := ⟨_, List.getElem?_eq_getElem (by rw [hxl]; decide)⟩
  have c4 : Tryd.prog.cellsOf 25 = 1 := by kernel_rfl
  simp only [c4, hy4] at h4
  have hbk4 : Rows.uptoBulk y4 ≤ 1048576 := by
    have hd : d = .agg (xs.map (·.1)) := (Prod.mk.inj hx).1
    have hm : y4 ∈ xs.map (·.1) := List.mem_map.2 ⟨_, List.mem_of_getElem? hy4, rfl⟩
    have h1 := bulk_le_all hm
    rw [hd] at hb
    simp only [Rows.uptoBulk] at hb
    omega
  obtain ⟨ao4, cap4, l4, e4, hbr4, hll4⟩ := open_bytes h4 hbk4
  have z4 := take1 e4
  refine ⟨n0, n1, n2, n3, ao4, cap4, l4, ?_, by omega, by omega, by omega, by omega, hbr4, by omega⟩
  apply List.ext_getElem?
  intro i
  match i with
  | 0 => exact z0
  | 1 => exact z1
  | 2 => exact z2
  | 3 => exact z3
  | 4 => exact z4
  | i + 5 => rw [List.getElem?_eq_none (by omega)]; rfl
theorem open_dat {H : Type} {enc : TypeId × Value → H} {w : World} {base : Nat} {fuel : Nat} {cs : List Value} {d : DataW H} {p : List MemPlace} (h : DataW.trod enc Tryd.prog w base (fun _ => true) true fuel 44 cs = some (d, p)) (hb : Rows.uptoBulk d ≤ 1048576) : ∃ (x0 : Nat) (a1 : Option Addr) (c1 : Nat) (l1 : List Nat), cs = [.int .u64 (x0 : Int), .slice a1 l1.length c1] ∧ x0 < 18446744073709551616 ∧ BRow w a1 c1 l1 ∧ l1.length ≤ 1048576 := by
  obtain ⟨xs, n, rfl, hx, hl, hxl, hall⟩ := DataW.trod_struct Tryd.underlying44 h
  have hl' : cs.length = 2 := hl.trans (by kernel_rfl)
  have h0 := hall 0 _ rfl
  obtain ⟨y0, hy0⟩ : ∃ y, xs[0]? = some y := ⟨_, List.getElem?_eq_getElem (by rw [hxl]; decide)⟩
  have c0 : Tryd.prog.cellsOf 23 = 1 := by kernel_rfl
  simp only [c0, hy0] at h0
  obtain ⟨a0, e0, _, w0⟩ := DataW.trod_int Tryd.underlying23 h0
  obtain ⟨n0, rfl⟩ := Int.eq_ofNat_of_zero_le (bounds_u64 w0).1
  have b0 := (bounds_u64 w0).2
  have z0 := take1 e0
  have h1 := hall 1 _ rfl
  obtain ⟨⟨y1, yp1⟩, hy1⟩ : ∃ y, xs[1]? = some y := ⟨_, List.getElem?_eq_getElem (by rw [hxl]; decide)⟩
  have c1 : Tryd.prog.cellsOf 25 = 1 := by kernel_rfl
  simp only [c1, hy1] at h1
  have hbk1 : Rows.uptoBulk y1 ≤ 1048576 := by
    have hd : d = .agg (xs.map (·.1)) := (Prod.mk.inj hx).1
    have hm : y1 ∈ xs.map (·.1) := List.mem_map.2 ⟨_, List.mem_of_getElem? hy1, rfl⟩
    have h1 := bulk_le_all hm
    rw [hd] at hb
    simp only [Rows.uptoBulk] at hb
    omega
  obtain ⟨ao1, cap1, l1, e1, hbr1, hll1⟩ := open_bytes h1 hbk1
  have z1 := take1 e1
  refine ⟨n0, ao1, cap1, l1, ?_, by omega, hbr1, by omega⟩
  apply List.ext_getElem?
  intro i
  match i with
  | 0 => exact z0
  | 1 => exact z1
  | i + 2 => rw [List.getElem?_eq_none (by omega)]; rfl
end Go.Proofs.YtjikibhhhchgeaaDoor
namespace Go.Proofs.YtjikibhhhchgeaaDoor.wireOwn
open Go.ChangeShapes Go.WideShapes Go.ChangeAt Go.RowKit Go.Lib
open Go.Deep
set_option linter.unusedVariables false
set_option maxRecDepth 100000

theorem contract (H : Type) (enc : TypeId × Value → H) (W : World) (base : Nat) (args : Array Value) (ds gs : List (DataW H)) (before : List MemPlace)
    (hval : ∀ (j : Nat) t v, Tryd.f6.params[j]? = some t → args[j]? = some v → Value.okWide Tryd.prog W .any base t v)
    (hW : DataW.Whole enc Tryd.prog Tryd.f6.params.toList Rows.wireOwnSpec.vars false W args.toList ds gs before) (hk : Rows.uptoSmall H (ds ++ gs) = true) (hL : laidMetH Tryd.prog theLaid W) :
    Calls Tryd.prog 6 args W fun e W' => ∃ v, e = .returned v ∧ Rows.wireOwnSpec.post enc Tryd.prog Tryd.f6 false true false false W args v W' := by
  have hW' := hW
  obtain ⟨p, q, hA0, hV, rfl, hfz, hnd⟩ := hW
  have hA : DataW.TrodAll enc Tryd.prog W 0 (fun _ => true) true Tryd.f6.params.toList args.toList ds p := hA0
  rw [Tryd.params6] at hA hval
  obtain ⟨v0, vs0, d0, ds0, p0, q0, hargs0, rfl, rfl, h0, r0⟩ := trodAll_cons hA
  obtain ⟨v1, vs1, d1, ds1, p1, q1, hargs1, rfl, rfl, h1, r1⟩ := trodAll_cons r0
  obtain ⟨v2, vs2, d2, ds2, p2, q2, hargs2, rfl, rfl, h2, r2⟩ := trodAll_cons r1
  obtain ⟨rfl, rfl, rfl⟩ := trodAll_nil r2
  obtain rfl : args = #[v0, v1, v2] := by cases args; simp_all
  obtain ⟨rfl, rfl⟩ := trodVars_none hV
  have k0 := h0
  have lt0 : ∀ x ∈ p0, x.block < W.heap.size := by obtain ⟨m, hm⟩ := k0; exact DataW.trod_lt m _ _ _ hm
  obtain ⟨cs0, rfl, hcs0⟩ := okWide_struct Tryd.underlying85 (hval 0 85 v0 rfl rfl)
  have k1 := h1
  have lt1 : ∀ x ∈ p1, x.block < W.heap.size := by obtain ⟨m, hm⟩ := k1; exact DataW.trod_lt m _ _ _ hm
  obtain ⟨cs1, rfl, hcs1⟩ := okWide_struct Tryd.underlying44 (hval 1 44 v1 rfl rfl)
  have k2 := h2
  have lt2 : ∀ x ∈ p2, x.block < W.heap.size := by obtain ⟨m, hm⟩ := k2; exact DataW.trod_lt m _ _ _ hm
  obtain ⟨z2, rfl, _, _⟩ := open_bool Tryd.underlying4 (hval 2 4 v2 rfl rfl) h2
  have hbd : Rows.uptoBulk d0 ≤ 1048576 ∧ Rows.uptoBulk d1 ≤ 1048576 := by
    have h := bulk_bound hk
    simp only [Rows.uptoBulkAll, List.append_nil] at h
    omega
  have hwalk : Calls Tryd.prog 6 #[.agg cs0, .agg cs1, .bool z2] W fun e w' => e = .returned (.bool true) ∧ Below W.heap.size W w' := by
    obtain ⟨m0, hm0⟩ := h0
    obtain ⟨m1, hm1⟩ := h1
    obtain ⟨f, t, ck, o, da, dcap, d, ee0, u0, u1, u2, u3, hbr, hn⟩ := open_chk hm0 hbd.1
    obtain ⟨x, ea, ecap, el, ee1, u4, hbe, hne⟩ := open_dat hm1 hbd.2
    simp [Value.cells] at ee0 ee1
    obtain rfl : cs0 = #[.int .u16 (f : Int), .int .u16 (t : Int), .int .u64 (ck : Int), .int .u64 (o : Int), .slice da d.length dcap] := by apply Array.toList_inj.1; rw [ee0]
    obtain rfl : cs1 = #[.int .u64 (x : Int), .slice ea el.length ecap] := by apply Array.toList_inj.1; rw [ee1]
    rcases Nat.eq_zero_or_pos el.length with hz | hz
    · obtain rfl : el = [] := List.eq_nil_of_length_eq_zero hz
      exact wireOwn_z f t ck o da dcap d.length d x ea ecap [] z2 W (tb_of hL) u0 u1 u2 u3 u4 hbr rfl hn hbe rfl (by decide)
    · exact wireOwn_p f t ck o da dcap d.length d x ea ecap el.length el z2 W (tb_of hL) u0 u1 u2 u3 u4 hbr rfl hn hbe rfl hne hz
  clear hA0
  refine hwalk.mono fun e W' ⟨he, bel⟩ => ?_
  subst he
  exact ⟨_, rfl, _, _, _, [], _, [], hW', trodAll_mk1 (shut_bool Tryd.underlying4 _), (trodAll_cons_mk (Below.trod laidOut (by kernel_rfl) (of_decide_eq_true (by kernel_rfl)) k0 bel lt0) (trodAll_cons_mk (Below.trod laidOut (by kernel_rfl) (of_decide_eq_true (by kernel_rfl)) k1 bel lt1) (trodAll_cons_mk (Below.trod laidOut (by kernel_rfl) (of_decide_eq_true (by kernel_rfl)) k2 bel lt2) trodAll_mk0))), rfl, bel.frame _, fun h => by cases h⟩
def wit : Array Value := #[.agg #[.int .u16 0, .int .u16 0, .int .u64 0, .int .u64 0, .slice none 0 0], .agg #[.int .u64 0, .slice none 0 0], .bool false]
theorem reads (os : Os) {H : Type} (enc : TypeId × Value → H) : ∃ places, DataW.whole enc Tryd.prog ((putTabs (World.holding Tryd.prog os ⟨#[], #[], []⟩)).forCall (fun _ _ => 0) ⟨#[], wit, []⟩).memory Tryd.f6.params.toList Rows.wireOwnSpec.vars false wit.toList 8 = some ([.agg [.lit (.int .u16 0), .lit (.int .u16 0), .lit (.int .u64 0), .lit (.int .u64 0), .nil], .agg [.lit (.int .u64 0), .nil], .lit (.bool false)], [], places) :=
  ⟨[], by kernel_rfl⟩

theorem lifted (os : Os) (started : os.Started) (H : Type) (enc : TypeId × Value → H) (F : Stop.Interp) :
    ReturnsInHanded {} Tryd.checked os 6 .any ((Rows.OpenSpec.upto Rows.wireOwnSpec).preRow enc Tryd.prog Tryd.f6 Rows.wireOwnUptoRow.domain false Rows.wireOwnUptoRow.laid) (((Rows.OpenSpec.upto Rows.wireOwnSpec).at F).post enc Tryd.prog Tryd.f6 false true false false) := by
  obtain ⟨places, hx⟩ := reads os enc
  refine returnsInHanded_of_row (C := Tryd.checked) (s := Rows.OpenSpec.upto Rows.wireOwnSpec) own started (by kernel_rfl) Tryd.func6
    (witness_row_atRef (enc := enc) (C := Tryd.checked) false (putTabs (World.holding Tryd.prog os ⟨#[], #[], []⟩)) wit rfl (by kernel_rfl) (by kernel_rfl) (by kernel_rfl)
      (OpenSpec.preRow_of_cond 8 hx (by kernel_rfl) (fun k hk => by cases hk; kernel_rfl) (by kernel_rfl) (laid_met os _))) ?_
  intro W base args ds gs before hval hW _ hk _ hL _ _
  exact contract H enc W base args ds gs before hval hW (hk _ rfl) hL

theorem said : Rows.WireOwnUptoSaid :=
  OpenClaim.holds_of_cond 6 Tryd.f6 rfl rfl rfl rfl rfl rfl rfl ⟨rfl, rfl, rfl, rfl, rfl⟩ rfl rfl rfl rfl rfl (by kernel_rfl) Tryd.func6 (by kernel_rfl)
    (of_decide_eq_true (by kernel_rfl)) (by unfold Func.isWrapper; first | (rw [if_pos (by decide +kernel)]; kernel_rfl) | (rw [if_neg (by decide +kernel)]; exact ⟨rfl, rfl⟩))
    (fun os started H enc _ F => by rw [OpenClaim.pre_eq_preRow]; exact lifted os started H enc F)
theorem plain (f : FuncId) (fn : Func) (hf : Tryd.pinned.checked.prog.funcNamed Tryd.f6.name = some f) (hfn : Tryd.pinned.checked.prog.funcs[f]? = some fn) :
    false = Tryd.pinned.checked.prog.looks [] ∧ ∀ (j : Nat) t, fn.params[j]? = some t → Tryd.pinned.checked.prog.wantsStandIn t = false := by
  obtain rfl : f = 6 := Option.some.inj ((show Tryd.prog.funcNamed Tryd.f6.name = some 6 by kernel_rfl).symm.trans hf) |>.symm
  obtain rfl : fn = Tryd.f6 := (Option.some.inj (Tryd.func6.symm.trans hfn)).symm
  refine ⟨by kernel_rfl, fun j t ht => ?_⟩
  rw [Tryd.params6] at ht
  have hm := Array.mem_of_getElem? ht
  have hall : (#[85, 44, 4] : Array TypeId).all (fun t => Tryd.prog.wantsStandIn t == false) = true := by kernel_rfl
  have := Array.all_eq_true_iff_forall_mem.1 hall t hm
  exact (show Tryd.prog.wantsStandIn t = false by simpa using this)
end Go.Proofs.YtjikibhhhchgeaaDoor.wireOwn
namespace Go.Proofs.YtjikibhhhchgeaaDoor
theorem wireOwn_proved : Rows.WireOwnUptoCardSaid :=
  Claim7.holds_tied_plain_at .later [] _ _ _ _ wireOwn.said (fun _ h => by cases h) (by kernel_rfl) (fun _ h => by cases h) wireOwnUpto_row_tie rfl ⟨rfl, rfl⟩ (by kernel_rfl) rfl wireOwn.plain (by kernel_rfl)
#print axioms wireOwn_proved
end Go.Proofs.YtjikibhhhchgeaaDoor
