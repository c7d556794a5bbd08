import Derived.Test.YtckfmpoddmccfaaRows
import Derived.Test.YtckfmpoddmccfaaV55
namespace Go.Proofs.Ytckfmpoddmccfaa.framePieces
open Go.ChangeShapes Go.WideShapes Go.ChangeAt Go.RowKit Go.Lib
open Go.Deep
set_option linter.unusedVariables false
set_option linter.unusedSimpArgs false
set_option maxRecDepth 100000

theorem take1 {cs : List Value} {j : Nat} {v : Value} (h : (cs.drop j).take 1 = [v]) : cs[j]? = some v := by
  have := congrArg (·[0]?) h
  simpa [List.getElem?_take, List.getElem?_drop] using this
/-- a []int that was read -/
theorem open_irow {H : Type} {enc : TypeId × Value → H} {W : World} {base fuel : Nat} {cs : List Value} {d : DataW H} {p : List MemPlace} (hf : DataW.trod enc Try.prog W base (fun _ => true) true fuel 47 cs = some (d, p)) (hb : Rows.uptoBulk d ≤ 1048576) :
    ∃ (ao : Option Addr) (n cap : Nat), cs = [.slice ao n cap] ∧ IRow W ao n cap := by
  rcases open_ints Try.underlying47 Try.underlying3 (by kernel_rfl) hf with ⟨hcs, hx⟩ | ⟨x, l, c, zs, hcs, _, hl, hm, hz, hx, hcell, hwz⟩
  · exact ⟨none, 0, 0, hcs, fun h => by omega, by omega⟩
  · have hd : d = .slice (lits .i64 (zs.take l)) (lits .i64 (zs.drop l)) := (Prod.mk.inj hx).1
    have hz' : zs.length = c := by simpa using hz
    have hsl := bulk_slice (lits (H := H) .i64 (zs.take l)) (lits .i64 (zs.drop l))
    have hs1 := length_le_bulk (lits (H := H) .i64 (zs.take l))
    rw [← hd] at hsl
    simp only [lits, List.length_map, List.length_take, List.length_drop] at hsl hs1
    refine ⟨some x, l, c, hcs, fun hp => ?_, by omega⟩
    obtain ⟨b, off, rfl, hc⟩ := ints_at hcell (by omega)
    refine ⟨b, off, rfl, fun i hi => ⟨zs.getD i 0, ?_⟩⟩
    have h1 := hcell i (by omega)
    rw [add_plain] at h1
    exact h1

theorem open_op {H : Type} {enc : TypeId × Value → H} {w : World} {base : Nat} {fuel : Nat} {cs : List Value} {d : DataW H} {p : List MemPlace} (h : DataW.trod enc Try.prog w base (fun _ => true) true fuel 38 cs = some (d, p)) : ∃ (x0 : Int) (a1 : Option Addr) (n1 c1 : Nat) (x2 : Nat) (x3 : Bool) (x4 : Bool) (x5 : Int), cs = [.int .i64 x0, .slice a1 n1 c1, .int .u32 (x2 : Int), .bool x3, .bool x4, .int .i64 x5] ∧ (Lit.int .i64 x0).wf = true ∧ x2 < 4294967296 ∧ (Lit.int .i64 x5).wf = true := by
  obtain ⟨xs, n, rfl, hx, hl, hxl, hall⟩ := DataW.trod_struct Try.underlying38 h
  have hl' : cs.length = 6 := hl.trans (by kernel_rfl)
  have h0 := hall 0 _ rfl
  obtain ⟨⟨y0, yp0⟩, hy0⟩ : ∃ y, xs[0]? = some y := ⟨_, List.getElem?_eq_getElem (by rw [hxl]; decide)⟩
  have k0 : Try.prog.cellsOf 3 = 1 := by kernel_rfl
  simp only [k0, hy0] at h0
  obtain ⟨z0, e0, _, w0⟩ := DataW.trod_int Try.underlying3 h0
  have t0 := take1 e0
  have h1 := hall 1 _ rfl
  obtain ⟨⟨y1, yp1⟩, hy1⟩ : ∃ y, xs[1]? = some y := ⟨_, List.getElem?_eq_getElem (by rw [hxl]; decide)⟩
  have k1 : Try.prog.cellsOf 22 = 1 := by kernel_rfl
  simp only [k1, hy1] at h1
  obtain ⟨a1, n1, c1, e1⟩ : ∃ a m c, (cs.drop 1).take 1 = [Value.slice a m c] := by
    rcases open_ints Try.underlying22 Try.underlying5 (by kernel_rfl) h1 with ⟨hcs, _⟩ | ⟨x, l, c, zs, hcs, _⟩
    · exact ⟨_, _, _, hcs⟩
    · exact ⟨_, _, _, hcs⟩
  have t1 := take1 e1
  have h2 := hall 2 _ rfl
  obtain ⟨⟨y2, yp2⟩, hy2⟩ : ∃ y, xs[2]? = some y := ⟨_, List.getElem?_eq_getElem (by rw [hxl]; decide)⟩
  have k2 : Try.prog.cellsOf 36 = 1 := by kernel_rfl
  simp only [k2, hy2] at h2
  obtain ⟨i2, e2, _, w2⟩ := DataW.trod_int Try.underlying36 h2
  obtain ⟨z2, rfl⟩ := Int.eq_ofNat_of_zero_le (bounds_u32 w2).1
  have b2 := (bounds_u32 w2).2
  have t2 := take1 e2
  have h3 := hall 3 _ rfl
  obtain ⟨⟨y3, yp3⟩, hy3⟩ : ∃ y, xs[3]? = some y := ⟨_, List.getElem?_eq_getElem (by rw [hxl]; decide)⟩
  have k3 : Try.prog.cellsOf 4 = 1 := by kernel_rfl
  simp only [k3, hy3] at h3
  obtain ⟨z3, e3, _⟩ := DataW.trod_bool Try.underlying4 h3
  have t3 := take1 e3
  have h4 := hall 4 _ rfl
  obtain ⟨⟨y4, yp4⟩, hy4⟩ : ∃ y, xs[4]? = some y := ⟨_, List.getElem?_eq_getElem (by rw [hxl]; decide)⟩
  have k4 : Try.prog.cellsOf 4 = 1 := by kernel_rfl
  simp only [k4, hy4] at h4
  obtain ⟨z4, e4, _⟩ := DataW.trod_bool Try.underlying4 h4
  have t4 := take1 e4
  have h5 := hall 5 _ rfl
  obtain ⟨⟨y5, yp5⟩, hy5⟩ : ∃ y, xs[5]? = some y := ⟨_, List.getElem?_eq_getElem (by rw [hxl]; decide)⟩
  have k5 : Try.prog.cellsOf 3 = 1 := by kernel_rfl
  simp only [k5, hy5] at h5
  obtain ⟨z5, e5, _, w5⟩ := DataW.trod_int Try.underlying3 h5
  have t5 := take1 e5
  refine ⟨z0, a1, n1, c1, z2, z3, z4, z5, ?_, w0, by omega, w5⟩
  · apply List.ext_getElem?
    intro i
    match i with
    | 0 => exact t0
    | 1 => exact t1
    | 2 => exact t2
    | 3 => exact t3
    | 4 => exact t4
    | 5 => exact t5
    | i + 6 => rw [List.getElem?_eq_none (by omega)]; rfl
/-- a script that was handed in -/
theorem open_script {H : Type} {enc : TypeId × Value → H} {W : World} {base fuel : Nat} {cs : List Value} {d : DataW H} {p : List MemPlace} (hf : DataW.trod enc Try.prog W base (fun _ => true) true fuel 34 cs = some (d, p)) (hb : Rows.uptoBulk d ≤ 1048576) :
    ∃ (ao : Option Addr) (cap : Nat) (l : List OpF), cs = [.slice ao l.length cap] ∧ SRow W ao cap l := by
  rcases open_slice Try.underlying34 hf with ⟨hcs, _⟩ | ⟨x, len, cap, m, n, D, Pl, hcs, _, hl, hm, hmm, hx, hel⟩
  · exact ⟨none, 0, [], hcs, ⟨by simp, by simp, fun h => absurd rfl h, fun _ => trivial⟩⟩
  · have hmc : m = cap := by simpa using hmm
    have hd : d = .slice ((List.range len).map D) ((List.range (m - len)).map fun j => D (len + j)) := (Prod.mk.inj hx).1
    have hlen : len ≤ 1048576 := by
      have b1 := bulk_slice ((List.range len).map D) ((List.range (m - len)).map fun j => D (len + j))
      have b2 := length_le_bulk ((List.range len).map D)
      rw [← hd] at b1
      simp at b2
      omega
    have cOp : Try.prog.cellsOf 38 = 6 := by kernel_rfl
    have hel' : ∀ i, ∃ o : OpF, o.m < 4294967296 ∧ (i < len → ∀ j, j < 6 → W.cell? ((x.add (i * 6)).add j) = o.cells[j]?) := by
      intro i
      by_cases hi : i < len
      · obtain ⟨cs', hc1, hc2⟩ := hel i (by omega)
        rw [cOp] at hc1
        obtain ⟨x0, a1, n1, c1, x2, x3, x4, x5, rfl, _, h2, _⟩ := open_op hc2
        refine ⟨⟨x0, a1, n1, c1, x2, x3, x4, x5⟩, h2, fun _ j hj => ?_⟩
        have h1 := (World.cells?_some hc1).2.2 j hj
        rw [h1]
        rcases (show j = 0 ∨ j = 1 ∨ j = 2 ∨ j = 3 ∨ j = 4 ∨ j = 5 by omega) with rfl | rfl | rfl | rfl | rfl | rfl <;> rfl
      · exact ⟨⟨0, none, 0, 0, 0, false, false, 0⟩, by simp, fun h => absurd h hi⟩
    obtain ⟨T, hT⟩ := Classical.axiomOfChoice hel'
    refine ⟨some x, cap, (List.range len).map T, by rw [hcs]; simp, ⟨fun o ho => ?_, by simpa using hlen, fun hne => ?_, fun _ => trivial⟩⟩
    · obtain ⟨i, _, rfl⟩ := List.mem_map.1 ho
      exact (hT i).1
    · have h0 : 0 < len := by
        rcases Nat.eq_zero_or_pos len with h | h
        · subst h; simp at hne
        · exact h
      obtain ⟨pb, po, rfl⟩ : ∃ pb po, x = ⟨pb, po, none⟩ := by
        have h1 := (hT 0).2 h0 0 (by decide)
        have h2 := World.cell?_spot (show W.cell? ((x.add (0 * 6)).add 0) = some (.int .i64 (T 0).kd) from h1)
        obtain ⟨b, off, spot⟩ := x
        have : spot = none := by simpa [Addr.add] using h2
        exact ⟨b, off, by rw [this]⟩
      refine ⟨pb, po, rfl, fun k hk j hj => ?_⟩
      have hk2 : k < len := by simpa using hk
      have h1 := (hT k).2 hk2 j hj
      rw [add_plain, add_plain] at h1
      simpa using h1
set_option maxRecDepth 100000 in
theorem contract (H : Type) (enc : TypeId × Value → H) (W : World) (base : Nat) (args : Array Value) (ds gs : List (DataW H)) (before : List MemPlace)
    (hval : ∀ (j : Nat) t v, Try.f5.params[j]? = some t → args[j]? = some v → Value.okWide Try.prog W .any base t v)
    (hW : DataW.Whole enc Try.prog Try.f5.params.toList Rows.framePiecesSpec.vars false W args.toList ds gs before) (hk : Rows.uptoSmall H (ds ++ gs) = true) :
    Calls Try.prog 5 args W fun e W' => ∃ v, e = .returned v ∧ Rows.framePiecesSpec.post enc Try.prog Try.f5 false true false false W args v W' := by
  have hW' := hW
  obtain ⟨p, q, hA0, hV, rfl, hfz, hnd⟩ := hW
  have hA : DataW.TrodAll enc Try.prog W 0 (fun _ => true) true Try.f5.params.toList args.toList ds p := hA0
  rw [Try.params5] at hA hval
  obtain ⟨v0, vs0, d0, ds0, p0, q0, hargs, rfl, rfl, h0, r0⟩ := trodAll_cons hA
  obtain ⟨v1, vs1, d1, ds1, p1, q1, rfl, rfl, rfl, h1, r1⟩ := trodAll_cons r0
  obtain ⟨v2, vs2, d2, ds2, p2, q2, rfl, rfl, rfl, h2, r2⟩ := trodAll_cons r1
  obtain ⟨rfl, rfl, rfl⟩ := trodAll_nil r2
  obtain rfl : args = #[v0, v1, v2] := by cases args; simp_all
  obtain ⟨rfl, rfl⟩ := trodVars_none hV
  have k0 := h0
  have k1 := h1
  have k2 := h2
  have lt0 : ∀ x ∈ p0, x.block < W.heap.size := by obtain ⟨m, hm⟩ := k0; exact DataW.trod_lt m _ _ _ hm
  have lt1 : ∀ x ∈ p1, x.block < W.heap.size := by obtain ⟨m, hm⟩ := k1; exact DataW.trod_lt m _ _ _ hm
  have lt2 : ∀ x ∈ p2, x.block < W.heap.size := by obtain ⟨m, hm⟩ := k2; exact DataW.trod_lt m _ _ _ hm
  obtain ⟨ao, len0, cap0, rfl⟩ := okWide_slice Try.underlying22 (hval 0 22 v0 rfl rfl)
  obtain ⟨po, len1, cap1, rfl⟩ := okWide_slice Try.underlying47 (hval 1 47 v1 rfl rfl)
  obtain ⟨so, len2, cap2, rfl⟩ := okWide_slice Try.underlying34 (hval 2 34 v2 rfl rfl)
  have hbd := bulk_bound hk
  simp only [Rows.uptoBulkAll, List.append_nil] at hbd
  have hwalk : Calls Try.prog 5 #[.slice ao len0 cap0, .slice po len1 cap1, .slice so len2 cap2] W fun e w' => e = .returned (.bool true) ∧ Below W.heap.size W w' := by
    obtain ⟨f0, hf0⟩ := h0
    obtain ⟨f1, hf1⟩ := h1
    obtain ⟨f2, hf2⟩ := h2
    obtain ⟨ao', cap', l, e0, hcr, hl⟩ := open_bytesC hf0 (by omega)
    obtain ⟨po', n1, c1, e1, hir⟩ := open_irow hf1 (by omega)
    obtain ⟨so', c2, ops, e2, hsr⟩ := open_script hf2 (by omega)
    simp [Value.cells] at e0 e1 e2
    obtain ⟨rfl, rfl, rfl⟩ := e0
    obtain ⟨rfl, rfl, rfl⟩ := e1
    obtain ⟨rfl, rfl, rfl⟩ := e2
    exact framePieces_in ao cap0 l po len1 cap1 so cap2 ops W hcr (by omega) hsr hir
  clear hA0
  refine hwalk.mono fun e W' ⟨he, bel⟩ => ?_
  subst he
  exact ⟨_, rfl, _, _, _, [], _, [], hW', trodAll_mk1 (shut_bool Try.underlying4 _), trodAll_cons_mk (Below.trod laidOut (by kernel_rfl) (of_decide_eq_true (by kernel_rfl)) k0 bel lt0) (trodAll_cons_mk (Below.trod laidOut (by kernel_rfl) (of_decide_eq_true (by kernel_rfl)) k1 bel lt1) (trodAll_cons_mk (Below.trod laidOut (by kernel_rfl) (of_decide_eq_true (by kernel_rfl)) k2 bel lt2) trodAll_mk0)), rfl, bel.frame _, fun h => by cases h⟩

set_option maxRecDepth 100000 in
theorem lifted (os : Os) (started : os.Started) (H : Type) (enc : TypeId × Value → H) (F : Stop.Interp) :
    ReturnsInHanded {} Try.checked os 5 .any ((Rows.OpenSpec.upto Rows.framePiecesSpec).pre6 enc Try.prog Try.f5 Rows.framePiecesUptoRow.domain false) (((Rows.OpenSpec.upto Rows.framePiecesSpec).at F).post enc Try.prog Try.f5 false true false false) := by
  refine returnsInHanded_of_cond (C := Try.checked) (s := Rows.OpenSpec.upto Rows.framePiecesSpec) (k := Rows.uptoSmall) rfl own started (by kernel_rfl) Try.func5
    (OpenSpec.witness (enc := enc) (C := Try.checked) (s := Rows.OpenSpec.upto Rows.framePiecesSpec) (k := Rows.uptoSmall) rfl false ⟨#[], #[.slice none 0 0, .slice none 0 0, .slice none 0 0], []⟩ 8 (by kernel_rfl) (by kernel_rfl) (by kernel_rfl)
      (x := ([.nil, .nil, .nil], [], [])) (by kernel_rfl) rfl (by kernel_rfl)) ?_
  intro W base args ds gs before hval hW _ hk _
  exact contract H enc W base args ds gs before hval hW hk
end Go.Proofs.Ytckfmpoddmccfaa.framePieces
namespace Go.Proofs.Ytckfmpoddmccfaa
theorem framePieces_proved : Rows.FramePiecesUptoSaid :=
  OpenClaim.holds_of_cond 5 Try.f5 rfl rfl rfl rfl rfl rfl rfl ⟨rfl, rfl, rfl, rfl, rfl⟩ rfl rfl rfl rfl rfl (by kernel_rfl) Try.func5 (by kernel_rfl)
    (of_decide_eq_true (by kernel_rfl)) (by unfold Func.isWrapper; first | (rw [if_pos (by decide +kernel)]; kernel_rfl) | (rw [if_neg (by decide +kernel)]; exact ⟨rfl, rfl⟩))
    (fun os started H enc _ F => framePieces.lifted os started H enc F)
#print axioms framePieces_proved
end Go.Proofs.Ytckfmpoddmccfaa
