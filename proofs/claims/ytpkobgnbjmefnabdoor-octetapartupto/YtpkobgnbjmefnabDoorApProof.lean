import Derived.Test.YtpkobgnbjmefnabDoorOpenR
import Derived.Test.YtpkobgnbjmefnabDoorApL
namespace Go.Proofs.YtpkobgnbjmefnabDoor.octetApart
open Go.ChangeShapes Go.WideShapes Go.ChangeAt Go.RowKit Go.Lib
open Go.ChangeMaps (open_string shut_string)
open Go.Deep
set_option linter.unusedVariables false
set_option maxRecDepth 100000

theorem cellsTwo : Tryd.prog.cellsOf 40 = 5 := by kernel_rfl
theorem cellsWS : Tryd.prog.cellsOf 36 = 1 := by kernel_rfl
theorem cellsRS : Tryd.prog.cellsOf 38 = 1 := by kernel_rfl
theorem open_scriptA {H : Type} {enc : TypeId × Value → H} {W : World} {base fuel : Nat} {a0 : Option Addr} {len0 cap0 : Nat} {d : DataW H} {p : List MemPlace} (hf : DataW.trod enc Tryd.prog W base (fun _ => true) true fuel 36 [.slice a0 len0 cap0] = some (d, p)) (hb : Rows.uptoBulk d ≤ 1048576) :
    len0 ≤ 1048576 ∧ ∃ X, ScriptAt W a0 len0 X := by
  rcases open_script hf hb with h | ⟨sb, so, X, rfl, hpos, hlen, hc, hr, hs⟩
  · subst h; exact ⟨by omega, fun _ => ⟨0, 0, 0, none, 0, [], ⟨#[]⟩⟩, fun i hi => by omega⟩
  · exact ⟨hlen, X, fun i hi => ⟨sb, so, rfl, fun i hi => ⟨hc i hi, (hr i hi).1, (hr i hi).2.1, (hr i hi).2.2.1, (hr i hi).2.2.2⟩⟩⟩
theorem slice_form {H : Type} {enc : TypeId × Value → H} {W : World} {base fuel : Nat} {t e : TypeId} (ht : Tryd.prog.underlying t = some (.slice e)) {x : Value} {y : DataW H × List MemPlace} (hf : DataW.trod enc Tryd.prog W base (fun _ => true) true fuel t [x] = some y) : ∃ a l c, x = .slice a l c := by
  obtain ⟨d, p⟩ := y
  rcases open_slice ht hf with ⟨hcs, _⟩ | ⟨x', len, cap, m, n, D, Pl, hcs, _⟩
  · simp at hcs; exact ⟨_, _, _, hcs⟩
  · simp at hcs; exact ⟨_, _, _, hcs⟩
theorem contract (H : Type) (enc : TypeId × Value → H) (W : World) (base : Nat) (args : Array Value) (ds gs : List (DataW H)) (before : List MemPlace)
    (hval : ∀ (j : Nat) t v, Tryd.f6.params[j]? = some t → args[j]? = some v → Value.okWide Tryd.prog W .any base t v)
    (hW : DataW.Whole enc Tryd.prog Tryd.f6.params.toList Rows.octetApartSpec.vars false W args.toList ds gs before) (hk : Rows.uptoSmall H (ds ++ gs) = true) (hL : laidMetH Tryd.prog theLaid W) :
    Calls Tryd.prog 6 args W fun e W' => ∃ v, e = .returned v ∧ Rows.octetApartSpec.post enc Tryd.prog Tryd.f6 false true false false W args v W' := by
  have hW' := hW
  obtain ⟨p, q, hA0, hV, rfl, hfz, hnd⟩ := hW
  have hA : DataW.TrodAll enc Tryd.prog W 0 (fun _ => true) true Tryd.f6.params.toList args.toList ds p := hA0
  rw [Tryd.params6] at hA hval
  obtain ⟨v0, vs0, d0, ds0, p0, q0, hargs, rfl, rfl, h0, r0⟩ := trodAll_cons hA
  obtain ⟨rfl, rfl, rfl⟩ := trodAll_nil r0
  obtain rfl : args = #[v0] := by cases args; simp_all
  obtain ⟨rfl, rfl⟩ := trodVars_none hV
  obtain ⟨cs0, rfl, hsz0⟩ := okWide_struct Tryd.underlying40 (hval 0 40 v0 rfl rfl)
  have k0 := h0
  have lt0 : ∀ x ∈ p0, x.block < W.heap.size := by obtain ⟨m, hm⟩ := k0; exact DataW.trod_lt m _ _ _ hm
  have hbd : Rows.uptoBulk d0 ≤ 1048576 := by
    have h := bulk_bound hk
    simp only [Rows.uptoBulkAll, List.append_nil] at h
    omega
  have hwalk : Calls Tryd.prog 6 #[.agg cs0] W fun e w' => e = .returned (.bool true) ∧ Below W.heap.size W w' := by
    obtain ⟨fuel, hf⟩ := h0
    obtain ⟨xs, m, _, hx, hl, hxl, hall⟩ := DataW.trod_struct Tryd.underlying40 hf
    obtain ⟨c0, c1, c2, c3, c4, hcs⟩ := five (hl.trans cellsTwo)
    obtain ⟨y0, y1, y2, y3, y4, rfl⟩ := fiveD (show xs.length = 5 from hxl)
    have hd : d0 = .agg [y0.1, y1.1, y2.1, y3.1, y4.1] := by
      have := (Prod.mk.inj hx).1; simpa using this
    have hbk : Rows.uptoBulk d0 = Rows.uptoBulk y0.1 + (Rows.uptoBulk y1.1 + (Rows.uptoBulk y2.1 + (Rows.uptoBulk y3.1 + (Rows.uptoBulk y4.1 + 0)))) + 1 := by rw [hd]; simp [Rows.uptoBulk, Rows.uptoBulkAll]
    rw [hcs] at hall
    have h0 : DataW.trod enc Tryd.prog W 0 (fun _ => true) true m 36 (([c0, c1, c2, c3, c4].drop 0).take (Tryd.prog.cellsOf 36)) = some y0 := hall 0 _ rfl
    have h1 : DataW.trod enc Tryd.prog W 0 (fun _ => true) true m 36 (([c0, c1, c2, c3, c4].drop 1).take (Tryd.prog.cellsOf 36)) = some y1 := hall 1 _ rfl
    have h2 : DataW.trod enc Tryd.prog W 0 (fun _ => true) true m 37 (([c0, c1, c2, c3, c4].drop 2).take (Tryd.prog.cellsOf 37)) = some y2 := hall 2 _ rfl
    have h3 : DataW.trod enc Tryd.prog W 0 (fun _ => true) true m 37 (([c0, c1, c2, c3, c4].drop 3).take (Tryd.prog.cellsOf 37)) = some y3 := hall 3 _ rfl
    have h4 : DataW.trod enc Tryd.prog W 0 (fun _ => true) true m 38 (([c0, c1, c2, c3, c4].drop 4).take (Tryd.prog.cellsOf 38)) = some y4 := hall 4 _ rfl
    rw [cellsWS] at h0 h1
    rw [cellsBS] at h2 h3
    rw [cellsRS] at h4
    simp only [List.drop_zero, List.drop_succ_cons, List.take_succ_cons, List.take_zero] at h0 h1 h2 h3 h4
    obtain ⟨s1, m1, k1, rfl⟩ := slice_form Tryd.underlying36 h0
    obtain ⟨s2, m2, k2, rfl⟩ := slice_form Tryd.underlying36 h1
    obtain ⟨s3, m3, k3, rfl⟩ := slice_form Tryd.underlying38 h4
    obtain ⟨hm1, X, hX⟩ := open_scriptA h0 (by omega)
    obtain ⟨hm2, Y, hY⟩ := open_scriptA h1 (by omega)
    obtain ⟨bo, cb, lb, e2, hb, hlb⟩ := open_bytes h2 (by omega)
    obtain ⟨co, cc, lc, e3, hc, hlc⟩ := open_bytes h3 (by omega)
    obtain ⟨hm3, Z, hZ⟩ := open_reads h4 (by omega)
    simp at e2 e3
    subst e2; subst e3
    have ea : cs0 = #[.slice s1 m1 k1, .slice s2 m2 k2, .slice bo lb.length cb, .slice co lc.length cc, .slice s3 m3 k3] := by
      simp [Value.cells] at hcs; apply Array.ext'; simpa using hcs
    subst ea
    exact apart_any s1 s2 s3 bo co m1 m2 m3 k1 k2 k3 _ _ cb cc lb lc X Y Z W hm1 hm2 hm3 hb hc rfl rfl (by omega) (by omega) (tabs_of hL) hX hY hZ
  clear hA0
  refine hwalk.mono fun e W' ⟨he, bel⟩ => ?_
  subst he
  exact ⟨_, rfl, _, _, _, [], _, [], hW', trodAll_mk1 (shut_bool Tryd.underlying4 _), trodAll_cons_mk (Below.trod laidOut (by kernel_rfl) (of_decide_eq_true (by kernel_rfl)) k0 bel lt0) trodAll_mk0, rfl, bel.frame _, fun h => by cases h⟩

abbrev wit : Array Value := #[.agg #[.slice none 0 0, .slice none 0 0, .slice none 0 0, .slice none 0 0, .slice none 0 0]]
theorem reads (os : Os) {H : Type} (enc : TypeId × Value → H) : ∃ places, DataW.whole enc Tryd.prog ((putTabs (World.holding Tryd.prog os ⟨#[], #[], []⟩)).forCall (fun _ _ => 0) ⟨#[], wit, []⟩).memory Tryd.f6.params.toList Rows.octetApartSpec.vars false wit.toList 8 = some ([.agg [.nil, .nil, .nil, .nil, .nil]], [], places) :=
  ⟨[], by kernel_rfl⟩

set_option maxRecDepth 100000 in
theorem lifted (os : Os) (started : os.Started) (H : Type) (enc : TypeId × Value → H) (F : Stop.Interp) :
    ReturnsInHanded {} Tryd.checked os 6 .any ((Rows.OpenSpec.upto Rows.octetApartSpec).preRow enc Tryd.prog Tryd.f6 Rows.octetApartUptoRow.domain false Rows.octetApartUptoRow.laid) (((Rows.OpenSpec.upto Rows.octetApartSpec).at F).post enc Tryd.prog Tryd.f6 false true false false) := by
  obtain ⟨places, hx⟩ := reads os enc
  refine returnsInHanded_of_row (C := Tryd.checked) (s := Rows.OpenSpec.upto Rows.octetApartSpec) own started (by kernel_rfl) Tryd.func6
    (witness_row_atRef (enc := enc) (C := Tryd.checked) false (putTabs (World.holding Tryd.prog os ⟨#[], #[], []⟩)) wit rfl (by kernel_rfl) (by kernel_rfl) (by kernel_rfl)
      (OpenSpec.preRow_of_cond 8 hx (by kernel_rfl) (fun k hk => by cases hk; kernel_rfl) (by kernel_rfl) (laid_met os _))) ?_
  intro W base args ds gs before hval hW _ hk _ hL _ _
  exact contract H enc W base args ds gs before hval hW (hk _ rfl) hL

theorem said : Rows.OctetApartUptoSaid :=
  OpenClaim.holds_of_cond 6 Tryd.f6 rfl rfl rfl rfl rfl rfl rfl ⟨rfl, rfl, rfl, rfl, rfl⟩ rfl rfl rfl rfl rfl (by kernel_rfl) Tryd.func6 (by kernel_rfl)
    (of_decide_eq_true (by kernel_rfl)) (by unfold Func.isWrapper; first | (rw [if_pos (by decide +kernel)]; kernel_rfl) | (rw [if_neg (by decide +kernel)]; exact ⟨rfl, rfl⟩))
    (fun os started H enc _ F => by rw [OpenClaim.pre_eq_preRow]; exact lifted os started H enc F)
theorem plain (f : FuncId) (fn : Func) (hf : Tryd.pinned.checked.prog.funcNamed Tryd.f6.name = some f) (hfn : Tryd.pinned.checked.prog.funcs[f]? = some fn) :
    true = Tryd.pinned.checked.prog.looks [] ∧ ∀ (j : Nat) t, fn.params[j]? = some t → Tryd.pinned.checked.prog.wantsStandIn t = false := by
  obtain rfl : f = 6 := Option.some.inj ((show Tryd.prog.funcNamed Tryd.f6.name = some 6 by kernel_rfl).symm.trans hf) |>.symm
  obtain rfl : fn = Tryd.f6 := (Option.some.inj (Tryd.func6.symm.trans hfn)).symm
  refine ⟨by kernel_rfl, fun j t ht => ?_⟩
  rw [Tryd.params6] at ht
  obtain rfl : t = 40 := by simpa using Array.mem_of_getElem? ht
  exact (show Tryd.prog.wantsStandIn 40 = false by kernel_rfl)
end Go.Proofs.YtpkobgnbjmefnabDoor.octetApart
namespace Go.Proofs.YtpkobgnbjmefnabDoor
theorem octetApart_proved : Rows.OctetApartUptoCardSaid :=
  Claim7.holds_tied_plain_at .later [] _ _ _ _ octetApart.said (fun _ h => by cases h) (by kernel_rfl) (fun _ h => by cases h) octetApartUpto_row_tie rfl ⟨rfl, rfl⟩ (by kernel_rfl) rfl octetApart.plain (by kernel_rfl)
#print axioms octetApart_proved
end Go.Proofs.YtpkobgnbjmefnabDoor
