import Derived.Test.YtckfmpoddmccfaaRows
import Derived.Test.YtckfmpoddmccfaaU55
namespace Go.Proofs.Ytckfmpoddmccfaa.frameCuts
open Go.ChangeShapes Go.WideShapes Go.ChangeAt Go.RowKit Go.Lib
open Go.Deep
set_option linter.unusedVariables false
set_option linter.unusedSimpArgs false
set_option maxRecDepth 100000

theorem take1 {cs : List Value} {j : Nat} {v : Value} (h : (cs.drop j).take 1 = [v]) : cs[j]? = some v := by
  have := congrArg (·[0]?) h
  simpa [List.getElem?_take, List.getElem?_drop] using this
theorem open_op {H : Type} {enc : TypeId × Value → H} {w : World} {base : Nat} {fuel : Nat} {cs : List Value} {d : DataW H} {p : List MemPlace} (h : DataW.trod enc Try.prog w base (fun _ => true) true fuel 38 cs = some (d, p)) (hbd : Rows.uptoBulk d ≤ 1048576) : ∃ (x0 : Int) (a1 : Option Addr) (ms : List Nat) (c1 : Nat) (x2 : Nat) (x3 : Bool) (x4 : Bool) (x5 : Int), cs = [.int .i64 x0, .slice a1 ms.length c1, .int .u32 (x2 : Int), .bool x3, .bool x4, .int .i64 x5] ∧ (Lit.int .i64 x0).wf = true ∧ x2 < 4294967296 ∧ (Lit.int .i64 x5).wf = true ∧ CRow w a1 c1 ms ∧ ms.length ≤ 1048576 := by
  obtain ⟨xs, n, rfl, hx, hl, hxl, hall⟩ := DataW.trod_struct Try.underlying38 h
  have hl' : cs.length = 6 := hl.trans (by kernel_rfl)
  have h0 := hall 0 _ rfl
  obtain ⟨⟨y0, yp0⟩, hy0⟩ : ∃ y, xs[0]? = some y := ⟨_, List.getElem?_eq_getElem (by rw [hxl]; decide)⟩
  have k0 : Try.prog.cellsOf 3 = 1 := by kernel_rfl
  simp only [k0, hy0] at h0
  obtain ⟨z0, e0, _, w0⟩ := DataW.trod_int Try.underlying3 h0
  have t0 := take1 e0
  have h1 := hall 1 _ rfl
  obtain ⟨⟨y1, yp1⟩, hy1⟩ : ∃ y, xs[1]? = some y := ⟨_, List.getElem?_eq_getElem (by rw [hxl]; decide)⟩
  have k1 : Try.prog.cellsOf 22 = 1 := by kernel_rfl
  simp only [k1, hy1] at h1
  have hbd1 : Rows.uptoBulk y1 ≤ 1048576 := by
    have e := (Prod.mk.inj hx).1
    have m1 : y1 ∈ xs.map (·.1) := List.mem_map.2 ⟨(y1, yp1), List.mem_of_getElem? hy1, rfl⟩
    have b := bulk_le_all m1
    rw [e] at hbd
    simp only [Rows.uptoBulk] at hbd
    omega
  obtain ⟨a1, c1, ms, e1, hcr, hml⟩ := open_bytesC h1 hbd1
  have t1 := take1 e1
  have h2 := hall 2 _ rfl
  obtain ⟨⟨y2, yp2⟩, hy2⟩ : ∃ y, xs[2]? = some y := ⟨_, List.getElem?_eq_getElem (by rw [hxl]; decide)⟩
  have k2 : Try.prog.cellsOf 36 = 1 := by kernel_rfl
  simp only [k2, hy2] at h2
  obtain ⟨i2, e2, _, w2⟩ := DataW.trod_int Try.underlying36 h2
  obtain ⟨z2, rfl⟩ := Int.eq_ofNat_of_zero_le (bounds_u32 w2).1
  have b2 := (bounds_u32 w2).2
  have t2 := take1 e2
  have h3 := hall 3 _ rfl
  obtain ⟨⟨y3, yp3⟩, hy3⟩ : ∃ y, xs[3]? = some y := ⟨_, List.getElem?_eq_getElem (by rw [hxl]; decide)⟩
  have k3 : Try.prog.cellsOf 4 = 1 := by kernel_rfl
  simp only [k3, hy3] at h3
  obtain ⟨z3, e3, _⟩ := DataW.trod_bool Try.underlying4 h3
  have t3 := take1 e3
  have h4 := hall 4 _ rfl
  obtain ⟨⟨y4, yp4⟩, hy4⟩ : ∃ y, xs[4]? = some y := ⟨_, List.getElem?_eq_getElem (by rw [hxl]; decide)⟩
  have k4 : Try.prog.cellsOf 4 = 1 := by kernel_rfl
  simp only [k4, hy4] at h4
  obtain ⟨z4, e4, _⟩ := DataW.trod_bool Try.underlying4 h4
  have t4 := take1 e4
  have h5 := hall 5 _ rfl
  obtain ⟨⟨y5, yp5⟩, hy5⟩ : ∃ y, xs[5]? = some y := ⟨_, List.getElem?_eq_getElem (by rw [hxl]; decide)⟩
  have k5 : Try.prog.cellsOf 3 = 1 := by kernel_rfl
  simp only [k5, hy5] at h5
  obtain ⟨z5, e5, _, w5⟩ := DataW.trod_int Try.underlying3 h5
  have t5 := take1 e5
  refine ⟨z0, a1, ms, c1, z2, z3, z4, z5, ?_, w0, by omega, w5, hcr, by omega⟩
  · apply List.ext_getElem?
    intro i
    match i with
    | 0 => exact t0
    | 1 => exact t1
    | 2 => exact t2
    | 3 => exact t3
    | 4 => exact t4
    | 5 => exact t5
    | i + 6 => rw [List.getElem?_eq_none (by omega)]; rfl
/-- a script that was handed in -/
theorem open_script {H : Type} {enc : TypeId × Value → H} {W : World} {base fuel : Nat} {cs : List Value} {d : DataW H} {p : List MemPlace} (hf : DataW.trod enc Try.prog W base (fun _ => true) true fuel 34 cs = some (d, p)) (hb : Rows.uptoBulk d ≤ 1048576) :
    ∃ (ao : Option Addr) (cap : Nat) (l : List OpF), cs = [.slice ao l.length cap] ∧ SRow W ao cap l ∧ ∀ o ∈ l, ∃ m : List Nat, m.length = o.bn ∧ m.length ≤ 1099511627776 ∧ CRow W o.bo o.bc m := by
  rcases open_slice Try.underlying34 hf with ⟨hcs, _⟩ | ⟨x, len, cap, m, n, D, Pl, hcs, _, hl, hm, hmm, hx, hel⟩
  · exact ⟨none, 0, [], hcs, ⟨by simp, by simp, fun h => absurd rfl h, fun _ => trivial⟩, by simp⟩
  · have hmc : m = cap := by simpa using hmm
    have hd : d = .slice ((List.range len).map D) ((List.range (m - len)).map fun j => D (len + j)) := (Prod.mk.inj hx).1
    have hlen : len ≤ 1048576 := by
      have b1 := bulk_slice ((List.range len).map D) ((List.range (m - len)).map fun j => D (len + j))
      have b2 := length_le_bulk ((List.range len).map D)
      rw [← hd] at b1
      simp at b2
      omega
    have cOp : Try.prog.cellsOf 38 = 6 := by kernel_rfl
    have hel' : ∀ i, ∃ o : OpF, (o.m < 4294967296 ∧ ∃ m : List Nat, m.length = o.bn ∧ m.length ≤ 1099511627776 ∧ CRow W o.bo o.bc m) ∧ (i < len → ∀ j, j < 6 → W.cell? ((x.add (i * 6)).add j) = o.cells[j]?) := by
      intro i
      by_cases hi : i < len
      · obtain ⟨cs', hc1, hc2⟩ := hel i (by omega)
        rw [cOp] at hc1
        have hbi : Rows.uptoBulk (D i) ≤ 1048576 := by
          have b1 := bulk_slice ((List.range len).map D) ((List.range (m - len)).map fun j => D (len + j))
          have b2 := bulk_le_all (List.mem_map_of_mem (f := D) (List.mem_range.2 hi))
          rw [← hd] at b1
          omega
        obtain ⟨x0, a1, ms, c1, x2, x3, x4, x5, rfl, _, h2, _, hcr, hml⟩ := open_op hc2 hbi
        refine ⟨⟨x0, a1, ms.length, c1, x2, x3, x4, x5⟩, ⟨h2, ms, rfl, by omega, hcr⟩, fun _ j hj => ?_⟩
        have h1 := (World.cells?_some hc1).2.2 j hj
        rw [h1]
        rcases (show j = 0 ∨ j = 1 ∨ j = 2 ∨ j = 3 ∨ j = 4 ∨ j = 5 by omega) with rfl | rfl | rfl | rfl | rfl | rfl <;> rfl
      · exact ⟨⟨0, none, 0, 0, 0, false, false, 0⟩, ⟨by simp, [], rfl, by simp, ⟨⟨by simp, by simp, fun _ => ⟨rfl, rfl⟩, fun h => absurd rfl h⟩, by simp, by decide⟩⟩, fun h => absurd h hi⟩
    obtain ⟨T, hT⟩ := Classical.axiomOfChoice hel'
    refine ⟨some x, cap, (List.range len).map T, by rw [hcs]; simp, ⟨fun o ho => ?_, by simpa using hlen, fun hne => ?_, fun _ => trivial⟩, fun o ho => ?_⟩
    · obtain ⟨i, _, rfl⟩ := List.mem_map.1 ho
      exact (hT i).1.1
    · have h0 : 0 < len := by
        rcases Nat.eq_zero_or_pos len with h | h
        · subst h; simp at hne
        · exact h
      obtain ⟨pb, po, rfl⟩ : ∃ pb po, x = ⟨pb, po, none⟩ := by
        have h1 := (hT 0).2 h0 0 (by decide)
        have h2 := World.cell?_spot (show W.cell? ((x.add (0 * 6)).add 0) = some (.int .i64 (T 0).kd) from h1)
        obtain ⟨b, off, spot⟩ := x
        have : spot = none := by simpa [Addr.add] using h2
        exact ⟨b, off, by rw [this]⟩
      refine ⟨pb, po, rfl, fun k hk j hj => ?_⟩
      have hk2 : k < len := by simpa using hk
      have h1 := (hT k).2 hk2 j hj
      rw [add_plain, add_plain] at h1
      simpa using h1
    · obtain ⟨i, _, rfl⟩ := List.mem_map.1 ho
      exact (hT i).1.2
set_option maxHeartbeats 4000000 in
theorem frameCuts_bad (r : Int) (h : r < 1 ∨ 2097152 < r) (v : Value) (w : World) : Calls Try.prog 4 #[.int .i64 r, v] w fun e w' => e = .returned (.bool true) ∧ Below w.heap.size w w' := by
  have H1 : Hid (Calls Try.prog 9 #[.int .i64 r] w fun e w' => e = .returned (.tuple #[.pointer none, .pointer none, .bool true]) ∧ w' = w) := madeBad r h w
  have H2 : Hid (Calls Try.prog 10 #[] w fun e w' => e = .returned (.bool true) ∧ Below w.heap.size w w') := heads_any w
  clear h
  go_enter Try.func4, Try.ntmps4
  go_wp2_with fail
  refine H1.out.mono ?_
  rintro e w1 ⟨rfl, hw⟩
  rw [hw]; clear hw
  go_wp2_with fail
  refine H2.out.mono ?_
  rintro e w1 ⟨rfl, hb⟩
  have HB : Hid _ := hb
  clear hb H1 H2
  go_wp2
  go_ret
  exact ⟨rfl, HB.out⟩
set_option maxRecDepth 100000 in
theorem contract (H : Type) (enc : TypeId × Value → H) (W : World) (base : Nat) (args : Array Value) (ds gs : List (DataW H)) (before : List MemPlace)
    (hval : ∀ (j : Nat) t v, Try.f4.params[j]? = some t → args[j]? = some v → Value.okWide Try.prog W .any base t v)
    (hW : DataW.Whole enc Try.prog Try.f4.params.toList Rows.frameCutsSpec.vars false W args.toList ds gs before) (hk : Rows.uptoSmall H (ds ++ gs) = true) :
    Calls Try.prog 4 args W fun e W' => ∃ v, e = .returned v ∧ Rows.frameCutsSpec.post enc Try.prog Try.f4 false true false false W args v W' := by
  have hW' := hW
  obtain ⟨p, q, hA0, hV, rfl, hfz, hnd⟩ := hW
  have hA : DataW.TrodAll enc Try.prog W 0 (fun _ => true) true Try.f4.params.toList args.toList ds p := hA0
  rw [Try.params4] at hA hval
  obtain ⟨v0, vs0, d0, ds0, p0, q0, hargs, rfl, rfl, h0, r0⟩ := trodAll_cons hA
  obtain ⟨v1, vs1, d1, ds1, p1, q1, rfl, rfl, rfl, h1, r1⟩ := trodAll_cons r0
  obtain ⟨rfl, rfl, rfl⟩ := trodAll_nil r1
  obtain rfl : args = #[v0, v1] := by cases args; simp_all
  obtain ⟨rfl, rfl⟩ := trodVars_none hV
  have k0 := h0
  have lt0 : ∀ x ∈ p0, x.block < W.heap.size := by obtain ⟨m, hm⟩ := k0; exact DataW.trod_lt m _ _ _ hm
  obtain ⟨a0, rfl, _, _, w0⟩ := open_int Try.underlying3 (hval 0 3 v0 rfl rfl) h0
  obtain ⟨ao, len1, cap1, rfl⟩ := okWide_slice Try.underlying34 (hval 1 34 v1 rfl rfl)
  have k1 := h1
  have lt1 : ∀ x ∈ p1, x.block < W.heap.size := by obtain ⟨m, hm⟩ := k1; exact DataW.trod_lt m _ _ _ hm
  have hbd := bulk_bound hk
  simp only [Rows.uptoBulkAll, List.append_nil] at hbd
  have hwalk : Calls Try.prog 4 #[.int .i64 a0, .slice ao len1 cap1] W fun e w' => e = .returned (.bool true) ∧ Below W.heap.size W w' := by
    obtain ⟨f1, hf1⟩ := h1
    obtain ⟨ao', cap', ops, e1, hsr, hby⟩ := open_script hf1 (by omega)
    simp [Value.cells] at e1
    obtain ⟨rfl, rfl, rfl⟩ := e1
    by_cases hr : a0 < 1 ∨ 2097152 < a0
    · exact frameCuts_bad a0 hr _ W
    · obtain ⟨r, rfl⟩ := Int.eq_ofNat_of_zero_le (show (0 : Int) ≤ a0 by omega)
      exact frameCuts_good r (by omega) (by omega) ao cap1 ops W hsr hby
  clear hA0
  refine hwalk.mono fun e W' ⟨he, bel⟩ => ?_
  subst he
  exact ⟨_, rfl, _, _, _, [], _, [], hW', trodAll_mk1 (shut_bool Try.underlying4 _), trodAll_cons_mk (Below.trod laidOut (by kernel_rfl) (of_decide_eq_true (by kernel_rfl)) k0 bel lt0) (trodAll_cons_mk (Below.trod laidOut (by kernel_rfl) (of_decide_eq_true (by kernel_rfl)) k1 bel lt1) trodAll_mk0), rfl, bel.frame _, fun h => by cases h⟩

set_option maxRecDepth 100000 in
theorem lifted (os : Os) (started : os.Started) (H : Type) (enc : TypeId × Value → H) (F : Stop.Interp) :
    ReturnsInHanded {} Try.checked os 4 .any ((Rows.OpenSpec.upto Rows.frameCutsSpec).pre6 enc Try.prog Try.f4 Rows.frameCutsUptoRow.domain false) (((Rows.OpenSpec.upto Rows.frameCutsSpec).at F).post enc Try.prog Try.f4 false true false false) := by
  refine returnsInHanded_of_cond (C := Try.checked) (s := Rows.OpenSpec.upto Rows.frameCutsSpec) (k := Rows.uptoSmall) rfl own started (by kernel_rfl) Try.func4
    (OpenSpec.witness (enc := enc) (C := Try.checked) (s := Rows.OpenSpec.upto Rows.frameCutsSpec) (k := Rows.uptoSmall) rfl false ⟨#[], #[.int .i64 0, .slice none 0 0], []⟩ 8 (by kernel_rfl) (by kernel_rfl) (by kernel_rfl)
      (x := ([.lit (.int .i64 0), .nil], [], [])) (by kernel_rfl) rfl (by kernel_rfl)) ?_
  intro W base args ds gs before hval hW _ hk _
  exact contract H enc W base args ds gs before hval hW hk
end Go.Proofs.Ytckfmpoddmccfaa.frameCuts
namespace Go.Proofs.Ytckfmpoddmccfaa
theorem frameCuts_proved : Rows.FrameCutsUptoSaid :=
  OpenClaim.holds_of_cond 4 Try.f4 rfl rfl rfl rfl rfl rfl rfl ⟨rfl, rfl, rfl, rfl, rfl⟩ rfl rfl rfl rfl rfl (by kernel_rfl) Try.func4 (by kernel_rfl)
    (of_decide_eq_true (by kernel_rfl)) (by unfold Func.isWrapper; first | (rw [if_pos (by decide +kernel)]; kernel_rfl) | (rw [if_neg (by decide +kernel)]; exact ⟨rfl, rfl⟩))
    (fun os started H enc _ F => frameCuts.lifted os started H enc F)
#print axioms frameCuts_proved
end Go.Proofs.Ytckfmpoddmccfaa
