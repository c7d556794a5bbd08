import Derived.Test.YtckfmpoddmccfaaU9
import Derived.WalkMore
import Derived.ScopeJumps
import Derived.Test.YtckfmpoddmccfaaU7
namespace Go.Proofs.Ytckfmpoddmccfaa
open Go.RowKit
set_option linter.unusedVariables false
set_option linter.unusedSimpArgs false
set_option maxRecDepth 100000
set_option maxHeartbeats 400000 in
theorem magic32_ok {w W : World} {bs : List (Nat × Obj)} {c r h : Nat} {ao : Option Addr} {cap : Nat} {hl : List Nat} {at_ : Nat} {bh : Value} {ln n : Int} (H : Dec w W bs c r h ao cap hl at_ bh ln n 0) (hb : at_ + 4 ≤ hl.length) (m : Nat) (hm : valB ((hl.drop at_).take 4) = m) :
    Calls Try.prog 108 #[.pointer (some ⟨r, 0, none⟩), .int .u32 (m : Int)] W fun e W' => e = .returned (.bool true) ∧ Dec w W' bs c r h ao cap hl (at_ + 4) bh ln n 0 := by
  have HN : Hid (Calls Try.prog 100 #[.pointer (some ⟨r, 0, none⟩)] W fun e W' => e = .returned (.int .u32 (m : Int)) ∧ Dec w W' bs c r h ao cap hl (at_ + 4) bh ln n 0) := by have := rd_u32 H hb; rw [hm] at this; exact this
  have hx : m < 4294967296 := by rw [← hm]; exact valB_bound hl at_ 4 H.hd.lt
  clear H hm
  go_enter Try.func108, Try.ntmps108
  go_wp2_with fail
  refine HN.out.mono ?_
  rintro e W1 ⟨rfl, H1⟩
  have HM : Hid (Calls Try.prog 101 #[.pointer (some ⟨r, 0, none⟩), .int .u64 (m : Int), .int .u64 (m : Int)] W1 fun e W' => e = .returned (.bool true) ∧ Dec w W' bs c r h ao cap hl (at_ + 4) bh ln n 0) := magic_ok H1 m
  clear H1 HN
  go_wp2_with fail
  refine HM.out.mono ?_
  rintro e W2 ⟨rfl, H2⟩
  have HH : Hid _ := H2
  clear H2
  go_wp2
  go_ret
  exact ⟨rfl, HH.out⟩
set_option maxHeartbeats 400000 in
theorem magic32_bad {w W : World} {bs : List (Nat × Obj)} {c r h : Nat} {ao : Option Addr} {cap : Nat} {hl : List Nat} {at_ : Nat} {bh : Value} {ln n : Int} (H : Dec w W bs c r h ao cap hl at_ bh ln n 0) (hb : at_ + 4 ≤ hl.length) (m : Nat) (hm4 : m < 4294967296) (hm : valB ((hl.drop at_).take 4) ≠ m) :
    Calls Try.prog 108 #[.pointer (some ⟨r, 0, none⟩), .int .u32 (m : Int)] W fun e W' => e = .returned (.bool false) ∧ Dec w W' bs c r h ao cap hl (at_ + 4) bh ln 0 80 := by
  have hx : valB ((hl.drop at_).take 4) < 4294967296 := valB_bound hl at_ 4 H.hd.lt
  have HN : Hid (Calls Try.prog 100 #[.pointer (some ⟨r, 0, none⟩)] W fun e W' => e = .returned (.int .u32 (valB ((hl.drop at_).take 4) : Nat)) ∧ Dec w W' bs c r h ao cap hl (at_ + 4) bh ln n 0) := rd_u32 H hb
  clear H
  generalize valB ((hl.drop at_).take 4) = x at *
  go_enter Try.func108, Try.ntmps108
  go_wp2_with fail
  refine HN.out.mono ?_
  rintro e W1 ⟨rfl, H1⟩
  have HM : Hid (Calls Try.prog 101 #[.pointer (some ⟨r, 0, none⟩), .int .u64 (x : Int), .int .u64 (m : Int)] W1 fun e W' => e = .returned (.bool false) ∧ Dec w W' bs c r h ao cap hl (at_ + 4) bh ln 0 80) := magic_bad H1 x m hm
  clear H1 HN
  go_wp2_with fail
  refine HM.out.mono ?_
  rintro e W2 ⟨rfl, H2⟩
  have HH : Hid _ := H2
  clear H2
  go_wp2
  go_ret
  exact ⟨rfl, HH.out⟩
set_option maxHeartbeats 400000 in
/-- of a head that is not there -/
theorem nh_magic {W : World} {r : Nat} {n : Int} (H : Nh W r n) (x m : Int) : Calls Try.prog 101 #[.pointer (some ⟨r, 0, none⟩), .int .u64 x, .int .u64 m] W fun e W' => e = .returned (.bool false) ∧ W' = W := by
  have c4 := H.c 4
  simp at c4
  clear H
  go_enter Try.func101, Try.ntmps101
  go_wp2
  go_ret
  exact ⟨rfl, rfl⟩
set_option maxHeartbeats 400000 in
theorem nh_magic32 {W : World} {r : Nat} {n : Int} (H : Nh W r n) (m : Nat) (hm4 : m < 4294967296) : Calls Try.prog 108 #[.pointer (some ⟨r, 0, none⟩), .int .u32 (m : Int)] W fun e W' => e = .returned (.bool false) ∧ W' = W := by
  have HN : Hid (Calls Try.prog 100 #[.pointer (some ⟨r, 0, none⟩)] W fun e W' => e = .returned (.int .u32 0) ∧ W' = W) := nh_u32 H
  have HM : Hid (∀ x m : Int, Calls Try.prog 101 #[.pointer (some ⟨r, 0, none⟩), .int .u64 x, .int .u64 m] W fun e W' => e = .returned (.bool false) ∧ W' = W) := nh_magic H
  clear H
  go_enter Try.func108, Try.ntmps108
  go_wp2_with fail
  refine HN.out.mono ?_
  rintro e W1 ⟨rfl, hw⟩
  rw [hw]; clear hw
  go_wp2_with fail
  refine (HM.out _ _).mono ?_
  rintro e W2 ⟨rfl, hw⟩
  rw [hw]; clear hw
  go_wp2
  go_ret
  exact ⟨rfl, rfl⟩
set_option maxHeartbeats 400000 in
theorem number_wide {w W : World} {bs : List (Nat × Obj)} {c r h : Nat} {ao : Option Addr} {cap : Nat} {hl : List Nat} {at_ : Nat} {bh : Value} {ln n er : Int} (H : Dec w W bs c r h ao cap hl at_ bh ln n er) (hb : at_ + 8 ≤ hl.length) :
    Calls Try.prog 109 #[.pointer (some ⟨r, 0, none⟩), .bool true] W fun e W' => e = .returned (.int .u64 (valB ((hl.drop at_).take 8) : Nat)) ∧ Dec w W' bs c r h ao cap hl (at_ + 8) bh ln n er := by
  have HN : Hid (Calls Try.prog 102 #[.pointer (some ⟨r, 0, none⟩)] W fun e W' => e = .returned (.int .u64 (valB ((hl.drop at_).take 8) : Nat)) ∧ Dec w W' bs c r h ao cap hl (at_ + 8) bh ln n er) := rd_u64 H hb
  clear H
  generalize valB ((hl.drop at_).take 8) = x at *
  go_enter Try.func109, Try.ntmps109
  go_wp2_with fail
  refine HN.out.mono ?_
  rintro e W1 ⟨rfl, H1⟩
  have HH : Hid _ := H1
  clear H1 HN
  go_wp2
  go_ret
  exact ⟨rfl, HH.out⟩
set_option maxHeartbeats 400000 in
theorem number_plain {w W : World} {bs : List (Nat × Obj)} {c r h : Nat} {ao : Option Addr} {cap : Nat} {hl : List Nat} {at_ : Nat} {bh : Value} {ln n er : Int} (H : Dec w W bs c r h ao cap hl at_ bh ln n er) (hb : at_ + 4 ≤ hl.length) :
    Calls Try.prog 109 #[.pointer (some ⟨r, 0, none⟩), .bool false] W fun e W' => e = .returned (.int .u64 (valB ((hl.drop at_).take 4) : Nat)) ∧ Dec w W' bs c r h ao cap hl (at_ + 4) bh ln n er := by
  have HN : Hid (Calls Try.prog 100 #[.pointer (some ⟨r, 0, none⟩)] W fun e W' => e = .returned (.int .u32 (valB ((hl.drop at_).take 4) : Nat)) ∧ Dec w W' bs c r h ao cap hl (at_ + 4) bh ln n er) := rd_u32 H hb
  have hx : valB ((hl.drop at_).take 4) < 4294967296 := valB_bound hl at_ 4 H.hd.lt
  clear H
  generalize valB ((hl.drop at_).take 4) = x at *
  go_enter Try.func109, Try.ntmps109
  go_wp2_with fail
  refine HN.out.mono ?_
  rintro e W1 ⟨rfl, H1⟩
  have HH : Hid _ := H1
  clear H1 HN
  go_wp2
  go_ret
  exact ⟨rfl, HH.out⟩
set_option maxHeartbeats 400000 in
theorem measure_long {w W : World} {bs : List (Nat × Obj)} {c r h : Nat} {ao : Option Addr} {cap : Nat} {hl : List Nat} {at_ : Nat} {bh : Value} {ln n : Int} (H : Dec w W bs c r h ao cap hl at_ bh ln n 0) (len most : Nat) (hm4 : most < 4294967296) (hl4 : most < len) (hl64 : len < 18446744073709551616) :
    Calls Try.prog 104 #[.pointer (some ⟨r, 0, none⟩), .int .u64 (len : Int), .int .u32 (most : Int)] W fun e W' => e = .returned (.bool true) ∧ Dec w W' bs c r h ao cap hl at_ bh ln n 12 := by
  have c4 := H.c 4
  have f4 := H.f 4
  simp at c4
  have t0 : decide ((most : Int) < (len : Int)) = true := by simp; omega
  have H1 : Hid _ := H.turn 4 (.int .i64 12) (er' := 12) rfl
  have c4' := H1.out.c 4
  simp at c4'
  clear H
  go_enter Try.func104, Try.ntmps104
  go_wp2
  go_ret
  exact ⟨rfl, H1.out⟩
set_option maxHeartbeats 1000000 in
theorem measure_rest {w W : World} {bs : List (Nat × Obj)} {c r h : Nat} {ao : Option Addr} {cap : Nat} {hl : List Nat} {at_ : Nat} {bo : Option Addr} {bn bc : Nat} {ln : Int} {n : Nat} (H : Dec w W bs c r h ao cap hl at_ (.slice bo bn bc) ln (n : Int) 0) (hn : n ≤ 1000) (hbn : bn ≤ 140737488351232) (len most : Nat) (hm4 : most < 4294967296) (hl4 : len ≤ most) (N : Nat) (hN : n + len = N) :
    Calls Try.prog 104 #[.pointer (some ⟨r, 0, none⟩), .int .u64 (len : Int), .int .u32 (most : Int)] W fun e W' => (bn < len ∧ e = .returned (.bool false) ∧ Dec w W' bs c r h ao cap hl at_ (.slice bo bn bc) (len : Int) (N : Int) 10) ∨ (len ≤ bn ∧ e = .returned (.bool true) ∧ Dec w W' bs c r h ao cap hl at_ (.slice bo bn bc) (len : Int) (N : Int) 0) := by
  have t0 : decide ((most : Int) < (len : Int)) = false := by simp; omega
  have hwb : IntKind.u64.wrap (bn : Int) = (bn : Int) := by rw [IntKind.wrap_u64]; omega
  have hwl : IntKind.i64.wrap (len : Int) = (len : Int) := by rw [IntKind.wrap_i64]; omega
  have hws : IntKind.i64.wrap ((n : Int) + (len : Int)) = (N : Int) := by rw [IntKind.wrap_i64]; omega
  have c1 := H.c 1
  simp at c1
  by_cases hlt : bn < len
  · have t1 : decide ((bn : Int) < (len : Int)) = true := by simp; omega
    have c4 := H.c 4
    have f4 := H.f 4
    simp at c4
    have H1 := H.turn 4 (.int .i64 10) (er' := 10) rfl
    have c3 := H1.c 3
    have f3 := H1.f 3
    simp at c3
    have H2 := H1.turn 3 (.int .i64 (N : Int)) (n' := (N : Int)) rfl
    have c2 := H2.c 2
    have f2 := H2.f 2
    simp at c2
    have H3 : Hid _ := H2.turn 2 (.int .i64 (len : Int)) (ln' := (len : Int)) rfl
    have c4' := H3.out.c 4
    simp at c4'
    clear H H1 H2
    go_enter Try.func104, Try.ntmps104
    go_wp2
    go_ret
    exact .inl ⟨hlt, rfl, H3.out⟩
  · have t1 : decide ((bn : Int) < (len : Int)) = false := by simp; omega
    have c3 := H.c 3
    have f3 := H.f 3
    simp at c3
    have H2 := H.turn 3 (.int .i64 (N : Int)) (n' := (N : Int)) rfl
    have c2 := H2.c 2
    have f2 := H2.f 2
    simp at c2
    have H3 : Hid _ := H2.turn 2 (.int .i64 (len : Int)) (ln' := (len : Int)) rfl
    have c4' := H3.out.c 4
    simp at c4'
    clear H H2
    go_enter Try.func104, Try.ntmps104
    go_wp2
    go_ret
    exact .inr ⟨by omega, rfl, H3.out⟩
set_option maxHeartbeats 1000000 in
theorem data_any {w W : World} {bs : List (Nat × Obj)} {c r h : Nat} {ao : Option Addr} {cap : Nat} {hl : List Nat} {at_ : Nat} {a2 : Addr} {bn bc len : Nat} {n er : Int} (H : Dec w W bs c r h ao cap hl at_ (.slice (some a2) bn bc) (len : Int) n er) (m : List Nat) (hm : m.length = len) (hlt : ∀ x ∈ m, x < 256) (hnews : ∀ j u, (m.map bv)[j]? = some u → W.cell? (a2.add j) = some u) (hlb : len ≤ bn) (hbc : bn ≤ bc) (hbn : bn ≤ 140737488351232) (hbc2 : bc ≤ 9223372036854775807) :
    Calls Try.prog 105 #[.pointer (some ⟨r, 0, none⟩)] W fun e W' => ∃ ao' cap', e = .returned (.slice ao' len cap') ∧ W'.ownsRow W.heap.size 5 1 (.slice ao' len cap') len (m.map bv) ∧ Below W.heap.size W W' ∧ Dec w W' bs c r h ao cap hl at_ (.slice (some a2) bn bc) (len : Int) n er := by
  obtain ⟨i0, hi, hz0, hz1, hz2⟩ := info_parts Try.info5
  have c1 := H.c 1
  have c2 := H.c 2
  simp at c1 c2
  have HH : Hid _ := H
  have HNw : Hid (∀ j u, (m.map bv)[j]? = some u → W.cell? (a2.add j) = some u) := hnews
  have HM : Hid (m.length = len) := hm
  clear H hnews hlt hm
  have e1 : (len : Int) ≤ (bc : Int) := by omega
  go_enter Try.func105, Try.ntmps105
  go_wp2
  go_region_law (refine step_append_two rfl (.const (.slice none 0 0)) (.tmp 11) 22 rfl W.heap.size 5 i0 (.int .u8 0) 1 Try.underlying22 hi hz0 hz1 hz2 rfl (.slice none 0 0) 0 [] (by simp [Act.eval]) (World.ownsRow_nil _ _ _ _) a2 len bc (m.map bv) (by first | (simp [Act.eval]; done) | simp [Act.eval, Act.put]) (by rw [List.length_map]; exact HM.out) HNw.out (bv_one m) (by unfold maxLen; omega) (by omega) (by simp) ?_; intro ao' cap' w1 ho hg hf)
  all_goals
    have hb0 : Below W.heap.size W W.drew := ⟨rfl, rfl, rfl, Nat.le_refl _, fun _ _ => rfl⟩
    have hb : Below W.heap.size W w1 := hb0.grown hg (by simp) (by intro k hk; simp [Value.ownBlock] at hk)
    clear hg hf
    rw [Nat.zero_add] at ho
    have HO : Hid _ := ho
    have HB : Hid _ := hb
    clear ho hb
    go_wp2
    go_ret
    exact ⟨_, _, rfl, HO.out, HB.out, HH.out.later HB.out⟩
end Go.Proofs.Ytckfmpoddmccfaa
namespace Go.Proofs.Ytckfmpoddmccfaa
open Go.RowKit
set_option linter.unusedVariables false
set_option linter.unusedSimpArgs false
set_option maxRecDepth 100000
theorem jump_ret {l : Nat} {J : Act → World → Prop} {Q : Exit → Act → World → Prop} {a : Act} {w : World} : Exit.jump l J Q .ret a w = Q .ret a w := rfl
/-- results in a box and in two slots -/
theorem results_cell_tmp2 {P : Program} {fn : Func} {p u v : Tmp} {ty : TypeId} (h : fn.results = #[.cell p ty, .tmp u, .tmp v]) (tmps : Array Value) (w : World) (g : Nat) (t : TypeId) (cs : Array Value) (fr : Nat × Nat) (d : TypeDesc)
    (hp : tmps.getD p undef = .pointer (some ⟨g, 0, none⟩)) (hg : w.heap[g]? = some (.cells cs t fr))
    (hu : P.underlying ty = some d) (hd : (match d with | .struct _ | .array _ _ => true | _ => false) = true) (hi : (P.info? ty).map (·.size) = some cs.size) :
    (results fn tmps).run P w = .ok (.tuple #[.agg cs, tmps.getD u undef, tmps.getD v undef]) w := by
  have hp' : tmps[p]?.getD undef = .pointer (some ⟨g, 0, none⟩) := by simpa using hp
  simp [results, h, hp', asAddr, Sem.run_bind, Result.andThen, run_loadVar_row w g t ty cs fr d hg hu hd hi]
/-- no bytes -/
abbrev nilV : Value := .slice none 0 0
theorem row_nil (w w' : World) (h : Below w.heap.size w w') : Row w w' none 0 [] := ⟨World.ownsRow_nil _ _ _ _, by simp, h⟩
/-- boxes -/
abbrev bx2 (w : World) (t : TypeId) (x y : Array Value) : List (Nat × Obj) := [(w.heap.size, .cells x t (0, 0)), (w.heap.size + 1, .cells y t (0, 0))]
abbrev bx3 (w : World) (t : TypeId) (x y z : Array Value) : List (Nat × Obj) := [(w.heap.size, .cells x t (0, 0)), (w.heap.size + 1, .cells y t (0, 0)), (w.heap.size + 1 + 1, .cells z t (0, 0))]
theorem bx2_new (w : World) (t : TypeId) (x y : Array Value) : ∀ e ∈ bx2 w t x y, ((w.alloc (.cells x t)).alloc (.cells y t)).heap[e.1]? = some e.2 ∧ w.heap.size ≤ e.1 ∧ e.1 < ((w.alloc (.cells x t)).alloc (.cells y t)).heap.size := by
  intro e he
  have h1 := heap_alloc_new (w.alloc (.cells x t)) (.cells y t)
  rw [World.size_alloc] at h1
  simp only [List.mem_cons, List.not_mem_nil, or_false] at he
  rcases he with rfl | rfl
  · exact ⟨(Below.heap_alloc _ _ _ (by simp)).trans (heap_alloc_new w _), Nat.le_refl _, by simp only [World.size_alloc]; omega⟩
  · exact ⟨h1, by simp, by simp⟩
theorem bx3_new (w : World) (t : TypeId) (x y z : Array Value) : ∀ e ∈ bx3 w t x y z, (((w.alloc (.cells x t)).alloc (.cells y t)).alloc (.cells z t)).heap[e.1]? = some e.2 ∧ w.heap.size ≤ e.1 ∧ e.1 < (((w.alloc (.cells x t)).alloc (.cells y t)).alloc (.cells z t)).heap.size := by
  intro e he
  have h1 := heap_alloc_new (w.alloc (.cells x t)) (.cells y t)
  have h2 := heap_alloc_new ((w.alloc (.cells x t)).alloc (.cells y t)) (.cells z t)
  rw [World.size_alloc] at h1
  rw [World.size_alloc, World.size_alloc] at h2
  simp only [List.mem_cons, List.not_mem_nil, or_false] at he
  rcases he with rfl | rfl | rfl
  · exact ⟨(Below.heap_alloc _ _ _ (by simp only [World.size_alloc]; omega)).trans ((Below.heap_alloc _ _ _ (by simp)).trans (heap_alloc_new w _)), Nat.le_refl _, by simp only [World.size_alloc]; omega⟩
  · exact ⟨(Below.heap_alloc _ _ _ (by simp)).trans h1, by simp, by simp⟩
  · exact ⟨h2, by simp; omega, by simp⟩
theorem bx2_nd (w : World) (t : TypeId) (x y : Array Value) : ((bx2 w t x y).map (·.1)).Nodup := by simp
theorem bx3_nd (w : World) (t : TypeId) (x y z : Array Value) : ((bx3 w t x y z).map (·.1)).Nodup := by simp; omega
theorem bx2_bel (w : World) (a b : Obj) : Below w.heap.size w ((w.alloc a).alloc b) := ((Below.refl _ w).alloc (Nat.le_refl _) _).alloc (by simp) _
theorem bx3_bel (w : World) (a b c : Obj) : Below w.heap.size w (((w.alloc a).alloc b).alloc c) := (bx2_bel w a b).alloc (by simp; omega) _
/-- where a decoder ends -/
structure Lb (w W : World) (bs : List (Nat × Obj)) (r : Nat) (n er : Int) : Prop where
  bel : Below w.heap.size w W
  box : ∀ x ∈ bs, W.heap[x.1]? = some x.2 ∧ w.heap.size ≤ x.1 ∧ x.1 ≠ r
  cn : W.cell? ⟨r, 3, none⟩ = some (.int .i64 n)
  ce : W.cell? ⟨r, 4, none⟩ = some (.int .i64 er)
theorem Dec.lb {w W : World} {bs : List (Nat × Obj)} {c r h : Nat} {ao : Option Addr} {cap : Nat} {hl : List Nat} {at_ : Nat} {bh : Value} {ln n er : Int} (H : Dec w W bs c r h ao cap hl at_ bh ln n er) : Lb w W bs r n er :=
  ⟨H.bel, fun x hx => ⟨(H.box x hx).1, (H.box x hx).2.1, by have := (H.box x hx).2.2; have := H.hr; omega⟩, by rw [H.c]; rfl, by rw [H.c]; rfl⟩
abbrev nhO (size : Nat) : Obj := .cells #[.pointer none, .slice none 0 0, .int .i64 0, .int .i64 (size : Int), .int .i64 10] TRg (0, 0)
theorem lb_short {w W0 : World} {bs : List (Nat × Obj)} (hb : Below w.heap.size w W0) (hbx : ∀ x ∈ bs, W0.heap[x.1]? = some x.2 ∧ w.heap.size ≤ x.1 ∧ x.1 < W0.heap.size) (size : Nat) : Lb w (W0.alloc (nhO size)) bs W0.heap.size size 10 := by
  have hN : Nh (W0.alloc (nhO size)) W0.heap.size size := ⟨heap_new W0 _⟩
  refine ⟨hb.alloc hb.size _, fun x hx => ?_, by rw [hN.c]; rfl, by rw [hN.c]; rfl⟩
  obtain ⟨h1, h2, h3⟩ := hbx x hx
  exact ⟨(Below.heap_alloc _ _ _ h3).trans h1, h2, by omega⟩
theorem Lb.b {w W : World} {bs : List (Nat × Obj)} {r : Nat} {n er : Int} (H : Lb w W bs r n er) {b : Nat} {cs : Array Value} {t : TypeId} (hb : (b, Obj.cells cs t (0, 0)) ∈ bs) (j : Nat) : W.cell? ⟨b, j, none⟩ = cs[j]? ∧ W.frozen? ⟨b, j, none⟩ = false :=
  ⟨blk_at (H.box _ hb).1 j, blk_free (H.box _ hb).1 j⟩
theorem put_box {W : World} {b : Nat} {cs : Array Value} {t : TypeId} (h : W.heap[b]? = some (.cells cs t (0, 0))) (j : Nat) (v : Value) {cs' : Array Value} (hcs : cs.setIfInBounds j v = cs') : (W.setCell ⟨b, j, none⟩ v).heap[b]? = some (.cells cs' t (0, 0)) := by
  rw [heap_setCell_same W b j cs t v h, hcs]
/-- stores, one behind the other -/
def setAll (W : World) : List (Nat × Nat × Value) → World
  | [] => W
  | x :: l => setAll (W.setCell ⟨x.1, x.2.1, none⟩ x.2.2) l
theorem setAll_owns {B e n : Nat} {v : Value} {xs : List Value} : ∀ (l : List (Nat × Nat × Value)) (W : World), W.ownsRow B e 1 v n xs → (∀ x ∈ l, x.1 < B) → (setAll W l).ownsRow B e 1 v n xs
  | [], _, h, _ => h
  | x :: l, W, h, hl => setAll_owns l _ (owns_same h fun g hg => Below.heap_setCell _ _ _ _ (by have := (owns_lt h g hg).2; have := hl x (.head _); show g ≠ x.1; omega)) (fun y hy => hl y (.tail _ hy))
theorem setAll_below {w : World} : ∀ (l : List (Nat × Nat × Value)) (W : World), Below w.heap.size w W → (∀ x ∈ l, w.heap.size ≤ x.1) → Below w.heap.size w (setAll W l)
  | [], _, h, _ => h
  | x :: l, W, h, hl => setAll_below l _ (below_set h (hl x (.head _))) (fun y hy => hl y (.tail _ hy))
theorem below_drew {w W : World} {B : Nat} (h : Below B w W) : Below B w W.drew := ⟨h.os, h.tape, h.output, h.size, h.block⟩
theorem tk (l : List Nat) (s a k : Nat) (h : a + k ≤ s) : ((l.take s).drop a).take k = (l.drop a).take k := by
  rw [List.drop_take, List.take_take, Nat.min_eq_left (by omega)]
/-- the bytes behind a head, in memory -/
theorem tail_news {w W : World} {b off cap : Nat} {l : List Nat} {a2 : Addr} {size len : Nat} (h : CRow w (some ⟨b, off, none⟩) cap l) (hb : Below w.heap.size w W) (ha : l.length - size ≠ 0 → a2 = ⟨b, off + size, none⟩) :
    ∀ j u, (((l.drop size).take len).map bv)[j]? = some u → W.cell? (a2.add j) = some u := by
  intro j u hu
  have hj : j < l.length - size := by
    have := (List.getElem?_eq_some_iff.1 hu).1
    rw [List.length_map, List.length_take, List.length_drop] at this; omega
  rw [ha (by omega), add_plain]
  obtain ⟨b', off', e, hc⟩ := h.row.at_ (by rintro rfl; simp at hj)
  cases e
  have h2 := cell_later hb (hc (size + j) (by omega))
  rw [show off + size + j = off + (size + j) by omega, h2, ← hu, List.getElem?_map, List.getElem?_take]
  have : j < len := by
    have := (List.getElem?_eq_some_iff.1 hu).1
    rw [List.length_map, List.length_take] at this; omega
  rw [if_pos this, List.getElem?_drop, List.getElem?_eq_getElem (by omega)]; rfl
theorem CRow.some {w : World} {ao : Option Addr} {cap : Nat} {l : List Nat} (h : CRow w ao cap l) (hl : 0 < l.length) : ∃ b off, ao = some ⟨b, off, none⟩ := by
  obtain ⟨b, off, e, _⟩ := h.row.at_ (by rintro rfl; simp at hl)
  exact ⟨b, off, e⟩
theorem infoOpt : (Try.prog.info? 57).map (·.size) = some 4 := by kernel_rfl
theorem infoRep : (Try.prog.info? 62).map (·.size) = some 3 := by kernel_rfl
theorem infoReq : (Try.prog.info? 60).map (·.size) = some 6 := by kernel_rfl
theorem infoChk : (Try.prog.info? 64).map (·.size) = some 5 := by kernel_rfl
theorem infoGre : (Try.prog.info? 88).map (·.size) = some 1 := by kernel_rfl
theorem infoExp : (Try.prog.info? 96).map (·.size) = some 2 := by kernel_rfl
theorem infoSim : (Try.prog.info? 66).map (·.size) = some 2 := by kernel_rfl
theorem Dec.putS {w W : World} {t : TypeId} {x y z : Array Value} {c r h : Nat} {ao : Option Addr} {cap : Nat} {hl : List Nat} {at_ : Nat} {bh : Value} {ln n er : Int} (H : Dec w W (bx3 w t x y z) c r h ao cap hl at_ bh ln n er) (j : Nat) (v : Value) (v' : Array Value) (hv : z.setIfInBounds j v = v') : Dec w (W.setCell ⟨w.heap.size + 1 + 1, j, none⟩ v) (bx3 w t x y v') c r h ao cap hl at_ bh ln n er := H.put [_, _] [] _ z t rfl j v hv
theorem Dec.putO {w W : World} {t : TypeId} {x y z : Array Value} {c r h : Nat} {ao : Option Addr} {cap : Nat} {hl : List Nat} {at_ : Nat} {bh : Value} {ln n er : Int} (H : Dec w W (bx3 w t x y z) c r h ao cap hl at_ bh ln n er) (j : Nat) (v : Value) (v' : Array Value) (hv : y.setIfInBounds j v = v') : Dec w (W.setCell ⟨w.heap.size + 1, j, none⟩ v) (bx3 w t x v' z) c r h ao cap hl at_ bh ln n er := H.put [_] [_] _ y t rfl j v hv
theorem Dec.putR {w W : World} {t : TypeId} {x y z : Array Value} {c r h : Nat} {ao : Option Addr} {cap : Nat} {hl : List Nat} {at_ : Nat} {bh : Value} {ln n er : Int} (H : Dec w W (bx3 w t x y z) c r h ao cap hl at_ bh ln n er) (j : Nat) (v : Value) (v' : Array Value) (hv : x.setIfInBounds j v = v') : Dec w (W.setCell ⟨w.heap.size, j, none⟩ v) (bx3 w t v' y z) c r h ao cap hl at_ bh ln n er := H.put [] [_, _] _ x t rfl j v hv
theorem Dec.putO2 {w W : World} {t : TypeId} {x y : Array Value} {c r h : Nat} {ao : Option Addr} {cap : Nat} {hl : List Nat} {at_ : Nat} {bh : Value} {ln n er : Int} (H : Dec w W (bx2 w t x y) c r h ao cap hl at_ bh ln n er) (j : Nat) (v : Value) (v' : Array Value) (hv : y.setIfInBounds j v = v') : Dec w (W.setCell ⟨w.heap.size + 1, j, none⟩ v) (bx2 w t x v') c r h ao cap hl at_ bh ln n er := H.put [_] [] _ y t rfl j v hv
theorem Dec.putR2 {w W : World} {t : TypeId} {x y : Array Value} {c r h : Nat} {ao : Option Addr} {cap : Nat} {hl : List Nat} {at_ : Nat} {bh : Value} {ln n er : Int} (H : Dec w W (bx2 w t x y) c r h ao cap hl at_ bh ln n er) (j : Nat) (v : Value) (v' : Array Value) (hv : x.setIfInBounds j v = v') : Dec w (W.setCell ⟨w.heap.size, j, none⟩ v) (bx2 w t v' y) c r h ao cap hl at_ bh ln n er := H.put [] [_] _ x t rfl j v hv
theorem rx_u16 {w W : World} {bs : List (Nat × Obj)} {c r h : Nat} {ao : Option Addr} {cap : Nat} {l : List Nat} {s at_ : Nat} {bh : Value} {ln n er : Int} (H : Dec w W bs c r h ao cap (l.take s) at_ bh ln n er) (x : Nat) (hx : valB ((l.drop at_).take 2) = x) (h1 : at_ + 2 ≤ s) (h2 : s ≤ l.length) :
    Calls Try.prog 103 #[.pointer (some ⟨r, 0, none⟩)] W fun e W' => e = .returned (.int .u16 (x : Int)) ∧ Dec w W' bs c r h ao cap (l.take s) (at_ + 2) bh ln n er := by
  have := rd_u16 H (by rw [List.length_take]; omega)
  rw [tk _ _ _ _ h1, hx] at this
  exact this
theorem rx_u32 {w W : World} {bs : List (Nat × Obj)} {c r h : Nat} {ao : Option Addr} {cap : Nat} {l : List Nat} {s at_ : Nat} {bh : Value} {ln n er : Int} (H : Dec w W bs c r h ao cap (l.take s) at_ bh ln n er) (x : Nat) (hx : valB ((l.drop at_).take 4) = x) (h1 : at_ + 4 ≤ s) (h2 : s ≤ l.length) :
    Calls Try.prog 100 #[.pointer (some ⟨r, 0, none⟩)] W fun e W' => e = .returned (.int .u32 (x : Int)) ∧ Dec w W' bs c r h ao cap (l.take s) (at_ + 4) bh ln n er := by
  have := rd_u32 H (by rw [List.length_take]; omega)
  rw [tk _ _ _ _ h1, hx] at this
  exact this
theorem rx_u64 {w W : World} {bs : List (Nat × Obj)} {c r h : Nat} {ao : Option Addr} {cap : Nat} {l : List Nat} {s at_ : Nat} {bh : Value} {ln n er : Int} (H : Dec w W bs c r h ao cap (l.take s) at_ bh ln n er) (x : Nat) (hx : valB ((l.drop at_).take 8) = x) (h1 : at_ + 8 ≤ s) (h2 : s ≤ l.length) :
    Calls Try.prog 102 #[.pointer (some ⟨r, 0, none⟩)] W fun e W' => e = .returned (.int .u64 (x : Int)) ∧ Dec w W' bs c r h ao cap (l.take s) (at_ + 8) bh ln n er := by
  have := rd_u64 H (by rw [List.length_take]; omega)
  rw [tk _ _ _ _ h1, hx] at this
  exact this
theorem rx_number_wide {w W : World} {bs : List (Nat × Obj)} {c r h : Nat} {ao : Option Addr} {cap : Nat} {l : List Nat} {s at_ : Nat} {bh : Value} {ln n er : Int} (H : Dec w W bs c r h ao cap (l.take s) at_ bh ln n er) (x : Nat) (hx : valB ((l.drop at_).take 8) = x) (h1 : at_ + 8 ≤ s) (h2 : s ≤ l.length) :
    Calls Try.prog 109 #[.pointer (some ⟨r, 0, none⟩), .bool true] W fun e W' => e = .returned (.int .u64 (x : Int)) ∧ Dec w W' bs c r h ao cap (l.take s) (at_ + 8) bh ln n er := by
  have := number_wide H (by rw [List.length_take]; omega)
  rw [tk _ _ _ _ h1, hx] at this
  exact this
theorem rx_number_plain {w W : World} {bs : List (Nat × Obj)} {c r h : Nat} {ao : Option Addr} {cap : Nat} {l : List Nat} {s at_ : Nat} {bh : Value} {ln n er : Int} (H : Dec w W bs c r h ao cap (l.take s) at_ bh ln n er) (x : Nat) (hx : valB ((l.drop at_).take 4) = x) (h1 : at_ + 4 ≤ s) (h2 : s ≤ l.length) :
    Calls Try.prog 109 #[.pointer (some ⟨r, 0, none⟩), .bool false] W fun e W' => e = .returned (.int .u64 (x : Int)) ∧ Dec w W' bs c r h ao cap (l.take s) (at_ + 4) bh ln n er := by
  have := number_plain H (by rw [List.length_take]; omega)
  rw [tk _ _ _ _ h1, hx] at this
  exact this
end Go.Proofs.Ytckfmpoddmccfaa
namespace Go.Proofs.Ytckfmpoddmccfaa
open Go.RowKit
set_option linter.unusedVariables false
set_option linter.unusedSimpArgs false
set_option maxRecDepth 100000
/-- has a request a payload? -/
def payB (f t : Nat) (ext : Bool) : Bool := if ext = true then (bits .and .u16 (f : Int) 32 != 0) else ((t : Int) == 1)
/-- may a request be laid down? -/
def fitB (f t n k : Nat) (ext : Bool) : Bool := (ext || decide (n ≤ 4294967295)) && (if payB f t ext = true then decide (n = k) else decide (k = 0))
set_option maxHeartbeats 400000 in
theorem pay_true (f t c o n : Nat) (ao : Option Addr) (cap : Nat) (d : List Nat) (w : World) : Calls Try.prog 110 #[.agg #[.int .u16 (f : Int), .int .u16 (t : Int), .int .u64 (c : Int), .int .u64 (o : Int), .int .u64 (n : Int), .slice ao d.length cap], .bool true] w fun e w' => e = .returned (.bool (payB f t true)) ∧ Below w.heap.size w w' := by
  have HB : Hid (Below w.heap.size w (w.alloc (.cells #[.int .u16 (f : Int), .int .u16 (t : Int), .int .u64 (c : Int), .int .u64 (o : Int), .int .u64 (n : Int), .slice ao d.length cap] 60))) := (Below.refl _ _).alloc (Nat.le_refl _) _
  go_enter Try.func110, Try.ntmps110
  go_wp2
  go_ret
  exact ⟨rfl, HB.out⟩
set_option maxHeartbeats 400000 in
theorem pay_false (f t c o n : Nat) (ao : Option Addr) (cap : Nat) (d : List Nat) (w : World) : Calls Try.prog 110 #[.agg #[.int .u16 (f : Int), .int .u16 (t : Int), .int .u64 (c : Int), .int .u64 (o : Int), .int .u64 (n : Int), .slice ao d.length cap], .bool false] w fun e w' => e = .returned (.bool (payB f t false)) ∧ Below w.heap.size w w' := by
  have HB : Hid (Below w.heap.size w (w.alloc (.cells #[.int .u16 (f : Int), .int .u16 (t : Int), .int .u64 (c : Int), .int .u64 (o : Int), .int .u64 (n : Int), .slice ao d.length cap] 60))) := (Below.refl _ _).alloc (Nat.le_refl _) _
  go_enter Try.func110, Try.ntmps110
  go_wp2
  go_ret
  exact ⟨rfl, HB.out⟩
theorem pay_any (f t c o n : Nat) (ao : Option Addr) (cap : Nat) (d : List Nat) (ext : Bool) (w : World) : Calls Try.prog 110 #[.agg #[.int .u16 (f : Int), .int .u16 (t : Int), .int .u64 (c : Int), .int .u64 (o : Int), .int .u64 (n : Int), .slice ao d.length cap], .bool ext] w fun e w' => e = .returned (.bool (payB f t ext)) ∧ Below w.heap.size w w' := by
  cases ext with
  | true => exact pay_true f t c o n ao cap d w
  | false => exact pay_false f t c o n ao cap d w
set_option maxHeartbeats 1000000 in
theorem fits_true (f t c o n : Nat) (ao : Option Addr) (cap : Nat) (d : List Nat) (w : World) (hn : n < 18446744073709551616) (hd : d.length ≤ 1099511627776) : Calls Try.prog 90 #[.agg #[.int .u16 (f : Int), .int .u16 (t : Int), .int .u64 (c : Int), .int .u64 (o : Int), .int .u64 (n : Int), .slice ao d.length cap], .bool true] w fun e w' => e = .returned (.bool (fitB f t n d.length true)) ∧ Below w.heap.size w w' := by
  obtain ⟨W0, hW0⟩ : ∃ W0, W0 = w.alloc (.cells #[.int .u16 (f : Int), .int .u16 (t : Int), .int .u64 (c : Int), .int .u64 (o : Int), .int .u64 (n : Int), .slice ao d.length cap] 60) := ⟨_, rfl⟩
  have hB : Below w.heap.size w W0 := by rw [hW0]; exact (Below.refl _ _).alloc (Nat.le_refl _) _
  have g0 : W0.heap[w.heap.size]? = some (.cells #[.int .u16 (f : Int), .int .u16 (t : Int), .int .u64 (c : Int), .int .u64 (o : Int), .int .u64 (n : Int), .slice ao d.length cap] 60 (0, 0)) := by rw [hW0]; exact heap_new w _
  have HPy : Hid (Calls Try.prog 110 #[.agg #[.int .u16 (f : Int), .int .u16 (t : Int), .int .u64 (c : Int), .int .u64 (o : Int), .int .u64 (n : Int), .slice ao d.length cap], .bool true] W0 fun e w' => e = .returned (.bool (payB f t true)) ∧ Below W0.heap.size W0 w') := pay_any f t c o n ao cap d true W0
  have HC : Hid (∀ W, Below W0.heap.size W0 W → W.heap[w.heap.size]? = some (.cells #[.int .u16 (f : Int), .int .u16 (t : Int), .int .u64 (c : Int), .int .u64 (o : Int), .int .u64 (n : Int), .slice ao d.length cap] 60 (0, 0)) ∧ Below w.heap.size w W) := fun W hb => ⟨(hb.block _ (block_lt g0)).trans g0, hB.trans (hb.mono hB.size)⟩
  have hwl : IntKind.u64.wrap (d.length : Int) = (d.length : Int) := by rw [IntKind.wrap_u64]; omega
  have HBw : Hid (Below w.heap.size w W0) := hB
  have hFit : fitB f t n d.length true = fitB f t n d.length true := rfl
  generalize hp : payB f t true = p at *
  clear hB g0 hFit
  go_enter Try.func90, Try.ntmps90
  go_wp2_with fail
  rw [← hW0]
  clear hW0
  refine HPy.out.mono ?_
  rintro e w1 ⟨rfl, hb⟩
  obtain ⟨g1, hb1⟩ := HC.out w1 hb
  have z4 := blk_at g1 4
  have z5 := blk_at g1 5
  simp at z4 z5
  have HB1 : Hid (Below w.heap.size w w1) := hb1
  clear hb g1 hb1
  cases p
  · have hf : fitB f t n d.length true = decide (d.length = 0) := by simp [fitB, hp]
    have HF : Hid _ := hf
    clear hp hf
    go_wp2
    go_ret
    exact ⟨ret_bool (by rw [HF.out, Bool.eq_iff_iff]; simp <;> omega), HB1.out⟩
  · have hf : fitB f t n d.length true = decide (n = d.length) := by simp [fitB, hp]
    have HF : Hid _ := hf
    clear hp hf
    go_wp2
    go_ret
    exact ⟨ret_bool (by rw [HF.out, Bool.eq_iff_iff]; simp <;> omega), HB1.out⟩
set_option maxHeartbeats 1000000 in
theorem fits_false (f t c o n : Nat) (ao : Option Addr) (cap : Nat) (d : List Nat) (w : World) (hn : n < 18446744073709551616) (hd : d.length ≤ 1099511627776) : Calls Try.prog 90 #[.agg #[.int .u16 (f : Int), .int .u16 (t : Int), .int .u64 (c : Int), .int .u64 (o : Int), .int .u64 (n : Int), .slice ao d.length cap], .bool false] w fun e w' => e = .returned (.bool (fitB f t n d.length false)) ∧ Below w.heap.size w w' := by
  obtain ⟨W0, hW0⟩ : ∃ W0, W0 = w.alloc (.cells #[.int .u16 (f : Int), .int .u16 (t : Int), .int .u64 (c : Int), .int .u64 (o : Int), .int .u64 (n : Int), .slice ao d.length cap] 60) := ⟨_, rfl⟩
  have hB : Below w.heap.size w W0 := by rw [hW0]; exact (Below.refl _ _).alloc (Nat.le_refl _) _
  have g0 : W0.heap[w.heap.size]? = some (.cells #[.int .u16 (f : Int), .int .u16 (t : Int), .int .u64 (c : Int), .int .u64 (o : Int), .int .u64 (n : Int), .slice ao d.length cap] 60 (0, 0)) := by rw [hW0]; exact heap_new w _
  have HPy : Hid (Calls Try.prog 110 #[.agg #[.int .u16 (f : Int), .int .u16 (t : Int), .int .u64 (c : Int), .int .u64 (o : Int), .int .u64 (n : Int), .slice ao d.length cap], .bool false] W0 fun e w' => e = .returned (.bool (payB f t false)) ∧ Below W0.heap.size W0 w') := pay_any f t c o n ao cap d false W0
  have HC : Hid (∀ W, Below W0.heap.size W0 W → W.heap[w.heap.size]? = some (.cells #[.int .u16 (f : Int), .int .u16 (t : Int), .int .u64 (c : Int), .int .u64 (o : Int), .int .u64 (n : Int), .slice ao d.length cap] 60 (0, 0)) ∧ Below w.heap.size w W) := fun W hb => ⟨(hb.block _ (block_lt g0)).trans g0, hB.trans (hb.mono hB.size)⟩
  have hwl : IntKind.u64.wrap (d.length : Int) = (d.length : Int) := by rw [IntKind.wrap_u64]; omega
  have HBw : Hid (Below w.heap.size w W0) := hB
  have hFit : fitB f t n d.length false = fitB f t n d.length false := rfl
  generalize hp : payB f t false = p at *
  clear hB g0 hFit
  go_enter Try.func90, Try.ntmps90
  by_cases hn4 : n ≤ 4294967295
  · have hd4 : decide ((4294967295 : Int) < (n : Int)) = false := by simp; omega
    go_wp2_with fail
    rw [← hW0]
    clear hW0
    refine HPy.out.mono ?_
    rintro e w1 ⟨rfl, hb⟩
    obtain ⟨g1, hb1⟩ := HC.out w1 hb
    have z4 := blk_at g1 4
    have z5 := blk_at g1 5
    simp at z4 z5
    have HB1 : Hid (Below w.heap.size w w1) := hb1
    clear hb g1 hb1
    cases p
    · have hf : fitB f t n d.length false = decide (d.length = 0) := by simp [fitB, hp, hn4]
      have HF : Hid _ := hf
      clear hp hf
      go_wp2
      go_ret
      exact ⟨ret_bool (by rw [HF.out, Bool.eq_iff_iff]; simp <;> omega), HB1.out⟩
    · have hf : fitB f t n d.length false = decide (n = d.length) := by simp [fitB, hp, hn4]
      have HF : Hid _ := hf
      clear hp hf
      go_wp2
      go_ret
      exact ⟨ret_bool (by rw [HF.out, Bool.eq_iff_iff]; simp <;> omega), HB1.out⟩
  · have hd4 : decide ((4294967295 : Int) < (n : Int)) = true := by simp; omega
    have hf : fitB f t n d.length false = false := by simp [fitB, hn4]
    rw [hf]
    go_wp2
    go_ret
    exact ⟨rfl, by rw [← hW0]; exact HBw.out⟩
theorem fits_any (f t c o n : Nat) (ao : Option Addr) (cap : Nat) (d : List Nat) (ext : Bool) (w : World) (hn : n < 18446744073709551616) (hd : d.length ≤ 1099511627776) : Calls Try.prog 90 #[.agg #[.int .u16 (f : Int), .int .u16 (t : Int), .int .u64 (c : Int), .int .u64 (o : Int), .int .u64 (n : Int), .slice ao d.length cap], .bool ext] w fun e w' => e = .returned (.bool (fitB f t n d.length ext)) ∧ Below w.heap.size w w' := by
  cases ext with
  | true => exact fits_true f t c o n ao cap d w hn hd
  | false => exact fits_false f t c o n ao cap d w hn hd
end Go.Proofs.Ytckfmpoddmccfaa
namespace Go.Proofs.Ytckfmpoddmccfaa
open Go.RowKit
set_option linter.unusedVariables false
set_option linter.unusedSimpArgs false
set_option maxRecDepth 100000
theorem close3 {w Wx : World} {t : TypeId} {a0 a1 a2 : Value} {B e n : Nat} {v : Value} {xs : List Value} (hbox : Wx.heap[w.heap.size]? = some (.cells #[a0, a1, a2] t (0, 0))) (hbel : Below w.heap.size w Wx) (how : Wx.ownsRow B e 1 v n xs) (hB : w.heap.size < B) (v0 v1 v2 : Value) :
    ((((Wx.setCell ⟨w.heap.size, 0, none⟩ v0).setCell ⟨w.heap.size, 1, none⟩ v1).setCell ⟨w.heap.size, 2, none⟩ v2).drew).heap[w.heap.size]? = some (.cells #[v0, v1, v2] t (0, 0)) ∧ ((((Wx.setCell ⟨w.heap.size, 0, none⟩ v0).setCell ⟨w.heap.size, 1, none⟩ v1).setCell ⟨w.heap.size, 2, none⟩ v2).drew).ownsRow B e 1 v n xs ∧ Below w.heap.size w ((((Wx.setCell ⟨w.heap.size, 0, none⟩ v0).setCell ⟨w.heap.size, 1, none⟩ v1).setCell ⟨w.heap.size, 2, none⟩ v2).drew) := by
  have h0 := hbox
  have b0 := hbel
  have o0 := how
  have h1 : (Wx.setCell ⟨w.heap.size, 0, none⟩ v0).heap[w.heap.size]? = some (.cells #[v0, a1, a2] t (0, 0)) := put_box h0 0 v0 (by simp)
  have b1 : Below w.heap.size w (Wx.setCell ⟨w.heap.size, 0, none⟩ v0) := below_set b0 (Nat.le_refl _)
  have o1 : (Wx.setCell ⟨w.heap.size, 0, none⟩ v0).ownsRow B e 1 v n xs := owns_same o0 fun g hg => Below.heap_setCell _ _ _ _ (by have := (owns_lt o0 g hg).2; show g ≠ w.heap.size; omega)
  generalize (Wx.setCell ⟨w.heap.size, 0, none⟩ v0) = Y1 at h1 b1 o1 ⊢
  have h2 : (Y1.setCell ⟨w.heap.size, 1, none⟩ v1).heap[w.heap.size]? = some (.cells #[v0, v1, a2] t (0, 0)) := put_box h1 1 v1 (by simp)
  have b2 : Below w.heap.size w (Y1.setCell ⟨w.heap.size, 1, none⟩ v1) := below_set b1 (Nat.le_refl _)
  have o2 : (Y1.setCell ⟨w.heap.size, 1, none⟩ v1).ownsRow B e 1 v n xs := owns_same o1 fun g hg => Below.heap_setCell _ _ _ _ (by have := (owns_lt o1 g hg).2; show g ≠ w.heap.size; omega)
  generalize (Y1.setCell ⟨w.heap.size, 1, none⟩ v1) = Y2 at h2 b2 o2 ⊢
  have h3 : (Y2.setCell ⟨w.heap.size, 2, none⟩ v2).heap[w.heap.size]? = some (.cells #[v0, v1, v2] t (0, 0)) := put_box h2 2 v2 (by simp)
  have b3 : Below w.heap.size w (Y2.setCell ⟨w.heap.size, 2, none⟩ v2) := below_set b2 (Nat.le_refl _)
  have o3 : (Y2.setCell ⟨w.heap.size, 2, none⟩ v2).ownsRow B e 1 v n xs := owns_same o2 fun g hg => Below.heap_setCell _ _ _ _ (by have := (owns_lt o2 g hg).2; show g ≠ w.heap.size; omega)
  generalize (Y2.setCell ⟨w.heap.size, 2, none⟩ v2) = Y3 at h3 b3 o3 ⊢
  exact ⟨h3, owns_same o3 (fun _ _ => rfl), below_drew b3⟩
theorem close4 {w Wx : World} {t : TypeId} {a0 a1 a2 a3 : Value} {B e n : Nat} {v : Value} {xs : List Value} (hbox : Wx.heap[w.heap.size]? = some (.cells #[a0, a1, a2, a3] t (0, 0))) (hbel : Below w.heap.size w Wx) (how : Wx.ownsRow B e 1 v n xs) (hB : w.heap.size < B) (v0 v1 v2 v3 : Value) :
    (((((Wx.setCell ⟨w.heap.size, 0, none⟩ v0).setCell ⟨w.heap.size, 1, none⟩ v1).setCell ⟨w.heap.size, 2, none⟩ v2).setCell ⟨w.heap.size, 3, none⟩ v3).drew).heap[w.heap.size]? = some (.cells #[v0, v1, v2, v3] t (0, 0)) ∧ (((((Wx.setCell ⟨w.heap.size, 0, none⟩ v0).setCell ⟨w.heap.size, 1, none⟩ v1).setCell ⟨w.heap.size, 2, none⟩ v2).setCell ⟨w.heap.size, 3, none⟩ v3).drew).ownsRow B e 1 v n xs ∧ Below w.heap.size w (((((Wx.setCell ⟨w.heap.size, 0, none⟩ v0).setCell ⟨w.heap.size, 1, none⟩ v1).setCell ⟨w.heap.size, 2, none⟩ v2).setCell ⟨w.heap.size, 3, none⟩ v3).drew) := by
  have h0 := hbox
  have b0 := hbel
  have o0 := how
  have h1 : (Wx.setCell ⟨w.heap.size, 0, none⟩ v0).heap[w.heap.size]? = some (.cells #[v0, a1, a2, a3] t (0, 0)) := put_box h0 0 v0 (by simp)
  have b1 : Below w.heap.size w (Wx.setCell ⟨w.heap.size, 0, none⟩ v0) := below_set b0 (Nat.le_refl _)
  have o1 : (Wx.setCell ⟨w.heap.size, 0, none⟩ v0).ownsRow B e 1 v n xs := owns_same o0 fun g hg => Below.heap_setCell _ _ _ _ (by have := (owns_lt o0 g hg).2; show g ≠ w.heap.size; omega)
  generalize (Wx.setCell ⟨w.heap.size, 0, none⟩ v0) = Y1 at h1 b1 o1 ⊢
  have h2 : (Y1.setCell ⟨w.heap.size, 1, none⟩ v1).heap[w.heap.size]? = some (.cells #[v0, v1, a2, a3] t (0, 0)) := put_box h1 1 v1 (by simp)
  have b2 : Below w.heap.size w (Y1.setCell ⟨w.heap.size, 1, none⟩ v1) := below_set b1 (Nat.le_refl _)
  have o2 : (Y1.setCell ⟨w.heap.size, 1, none⟩ v1).ownsRow B e 1 v n xs := owns_same o1 fun g hg => Below.heap_setCell _ _ _ _ (by have := (owns_lt o1 g hg).2; show g ≠ w.heap.size; omega)
  generalize (Y1.setCell ⟨w.heap.size, 1, none⟩ v1) = Y2 at h2 b2 o2 ⊢
  have h3 : (Y2.setCell ⟨w.heap.size, 2, none⟩ v2).heap[w.heap.size]? = some (.cells #[v0, v1, v2, a3] t (0, 0)) := put_box h2 2 v2 (by simp)
  have b3 : Below w.heap.size w (Y2.setCell ⟨w.heap.size, 2, none⟩ v2) := below_set b2 (Nat.le_refl _)
  have o3 : (Y2.setCell ⟨w.heap.size, 2, none⟩ v2).ownsRow B e 1 v n xs := owns_same o2 fun g hg => Below.heap_setCell _ _ _ _ (by have := (owns_lt o2 g hg).2; show g ≠ w.heap.size; omega)
  generalize (Y2.setCell ⟨w.heap.size, 2, none⟩ v2) = Y3 at h3 b3 o3 ⊢
  have h4 : (Y3.setCell ⟨w.heap.size, 3, none⟩ v3).heap[w.heap.size]? = some (.cells #[v0, v1, v2, v3] t (0, 0)) := put_box h3 3 v3 (by simp)
  have b4 : Below w.heap.size w (Y3.setCell ⟨w.heap.size, 3, none⟩ v3) := below_set b3 (Nat.le_refl _)
  have o4 : (Y3.setCell ⟨w.heap.size, 3, none⟩ v3).ownsRow B e 1 v n xs := owns_same o3 fun g hg => Below.heap_setCell _ _ _ _ (by have := (owns_lt o3 g hg).2; show g ≠ w.heap.size; omega)
  generalize (Y3.setCell ⟨w.heap.size, 3, none⟩ v3) = Y4 at h4 b4 o4 ⊢
  exact ⟨h4, owns_same o4 (fun _ _ => rfl), below_drew b4⟩
theorem close5 {w Wx : World} {t : TypeId} {a0 a1 a2 a3 a4 : Value} {B e n : Nat} {v : Value} {xs : List Value} (hbox : Wx.heap[w.heap.size]? = some (.cells #[a0, a1, a2, a3, a4] t (0, 0))) (hbel : Below w.heap.size w Wx) (how : Wx.ownsRow B e 1 v n xs) (hB : w.heap.size < B) (v0 v1 v2 v3 v4 : Value) :
    ((((((Wx.setCell ⟨w.heap.size, 0, none⟩ v0).setCell ⟨w.heap.size, 1, none⟩ v1).setCell ⟨w.heap.size, 2, none⟩ v2).setCell ⟨w.heap.size, 3, none⟩ v3).setCell ⟨w.heap.size, 4, none⟩ v4).drew).heap[w.heap.size]? = some (.cells #[v0, v1, v2, v3, v4] t (0, 0)) ∧ ((((((Wx.setCell ⟨w.heap.size, 0, none⟩ v0).setCell ⟨w.heap.size, 1, none⟩ v1).setCell ⟨w.heap.size, 2, none⟩ v2).setCell ⟨w.heap.size, 3, none⟩ v3).setCell ⟨w.heap.size, 4, none⟩ v4).drew).ownsRow B e 1 v n xs ∧ Below w.heap.size w ((((((Wx.setCell ⟨w.heap.size, 0, none⟩ v0).setCell ⟨w.heap.size, 1, none⟩ v1).setCell ⟨w.heap.size, 2, none⟩ v2).setCell ⟨w.heap.size, 3, none⟩ v3).setCell ⟨w.heap.size, 4, none⟩ v4).drew) := by
  have h0 := hbox
  have b0 := hbel
  have o0 := how
  have h1 : (Wx.setCell ⟨w.heap.size, 0, none⟩ v0).heap[w.heap.size]? = some (.cells #[v0, a1, a2, a3, a4] t (0, 0)) := put_box h0 0 v0 (by simp)
  have b1 : Below w.heap.size w (Wx.setCell ⟨w.heap.size, 0, none⟩ v0) := below_set b0 (Nat.le_refl _)
  have o1 : (Wx.setCell ⟨w.heap.size, 0, none⟩ v0).ownsRow B e 1 v n xs := owns_same o0 fun g hg => Below.heap_setCell _ _ _ _ (by have := (owns_lt o0 g hg).2; show g ≠ w.heap.size; omega)
  generalize (Wx.setCell ⟨w.heap.size, 0, none⟩ v0) = Y1 at h1 b1 o1 ⊢
  have h2 : (Y1.setCell ⟨w.heap.size, 1, none⟩ v1).heap[w.heap.size]? = some (.cells #[v0, v1, a2, a3, a4] t (0, 0)) := put_box h1 1 v1 (by simp)
  have b2 : Below w.heap.size w (Y1.setCell ⟨w.heap.size, 1, none⟩ v1) := below_set b1 (Nat.le_refl _)
  have o2 : (Y1.setCell ⟨w.heap.size, 1, none⟩ v1).ownsRow B e 1 v n xs := owns_same o1 fun g hg => Below.heap_setCell _ _ _ _ (by have := (owns_lt o1 g hg).2; show g ≠ w.heap.size; omega)
  generalize (Y1.setCell ⟨w.heap.size, 1, none⟩ v1) = Y2 at h2 b2 o2 ⊢
  have h3 : (Y2.setCell ⟨w.heap.size, 2, none⟩ v2).heap[w.heap.size]? = some (.cells #[v0, v1, v2, a3, a4] t (0, 0)) := put_box h2 2 v2 (by simp)
  have b3 : Below w.heap.size w (Y2.setCell ⟨w.heap.size, 2, none⟩ v2) := below_set b2 (Nat.le_refl _)
  have o3 : (Y2.setCell ⟨w.heap.size, 2, none⟩ v2).ownsRow B e 1 v n xs := owns_same o2 fun g hg => Below.heap_setCell _ _ _ _ (by have := (owns_lt o2 g hg).2; show g ≠ w.heap.size; omega)
  generalize (Y2.setCell ⟨w.heap.size, 2, none⟩ v2) = Y3 at h3 b3 o3 ⊢
  have h4 : (Y3.setCell ⟨w.heap.size, 3, none⟩ v3).heap[w.heap.size]? = some (.cells #[v0, v1, v2, v3, a4] t (0, 0)) := put_box h3 3 v3 (by simp)
  have b4 : Below w.heap.size w (Y3.setCell ⟨w.heap.size, 3, none⟩ v3) := below_set b3 (Nat.le_refl _)
  have o4 : (Y3.setCell ⟨w.heap.size, 3, none⟩ v3).ownsRow B e 1 v n xs := owns_same o3 fun g hg => Below.heap_setCell _ _ _ _ (by have := (owns_lt o3 g hg).2; show g ≠ w.heap.size; omega)
  generalize (Y3.setCell ⟨w.heap.size, 3, none⟩ v3) = Y4 at h4 b4 o4 ⊢
  have h5 : (Y4.setCell ⟨w.heap.size, 4, none⟩ v4).heap[w.heap.size]? = some (.cells #[v0, v1, v2, v3, v4] t (0, 0)) := put_box h4 4 v4 (by simp)
  have b5 : Below w.heap.size w (Y4.setCell ⟨w.heap.size, 4, none⟩ v4) := below_set b4 (Nat.le_refl _)
  have o5 : (Y4.setCell ⟨w.heap.size, 4, none⟩ v4).ownsRow B e 1 v n xs := owns_same o4 fun g hg => Below.heap_setCell _ _ _ _ (by have := (owns_lt o4 g hg).2; show g ≠ w.heap.size; omega)
  generalize (Y4.setCell ⟨w.heap.size, 4, none⟩ v4) = Y5 at h5 b5 o5 ⊢
  exact ⟨h5, owns_same o5 (fun _ _ => rfl), below_drew b5⟩
theorem close6 {w Wx : World} {t : TypeId} {a0 a1 a2 a3 a4 a5 : Value} {B e n : Nat} {v : Value} {xs : List Value} (hbox : Wx.heap[w.heap.size]? = some (.cells #[a0, a1, a2, a3, a4, a5] t (0, 0))) (hbel : Below w.heap.size w Wx) (how : Wx.ownsRow B e 1 v n xs) (hB : w.heap.size < B) (v0 v1 v2 v3 v4 v5 : Value) :
    (((((((Wx.setCell ⟨w.heap.size, 0, none⟩ v0).setCell ⟨w.heap.size, 1, none⟩ v1).setCell ⟨w.heap.size, 2, none⟩ v2).setCell ⟨w.heap.size, 3, none⟩ v3).setCell ⟨w.heap.size, 4, none⟩ v4).setCell ⟨w.heap.size, 5, none⟩ v5).drew).heap[w.heap.size]? = some (.cells #[v0, v1, v2, v3, v4, v5] t (0, 0)) ∧ (((((((Wx.setCell ⟨w.heap.size, 0, none⟩ v0).setCell ⟨w.heap.size, 1, none⟩ v1).setCell ⟨w.heap.size, 2, none⟩ v2).setCell ⟨w.heap.size, 3, none⟩ v3).setCell ⟨w.heap.size, 4, none⟩ v4).setCell ⟨w.heap.size, 5, none⟩ v5).drew).ownsRow B e 1 v n xs ∧ Below w.heap.size w (((((((Wx.setCell ⟨w.heap.size, 0, none⟩ v0).setCell ⟨w.heap.size, 1, none⟩ v1).setCell ⟨w.heap.size, 2, none⟩ v2).setCell ⟨w.heap.size, 3, none⟩ v3).setCell ⟨w.heap.size, 4, none⟩ v4).setCell ⟨w.heap.size, 5, none⟩ v5).drew) := by
  have h0 := hbox
  have b0 := hbel
  have o0 := how
  have h1 : (Wx.setCell ⟨w.heap.size, 0, none⟩ v0).heap[w.heap.size]? = some (.cells #[v0, a1, a2, a3, a4, a5] t (0, 0)) := put_box h0 0 v0 (by simp)
  have b1 : Below w.heap.size w (Wx.setCell ⟨w.heap.size, 0, none⟩ v0) := below_set b0 (Nat.le_refl _)
  have o1 : (Wx.setCell ⟨w.heap.size, 0, none⟩ v0).ownsRow B e 1 v n xs := owns_same o0 fun g hg => Below.heap_setCell _ _ _ _ (by have := (owns_lt o0 g hg).2; show g ≠ w.heap.size; omega)
  generalize (Wx.setCell ⟨w.heap.size, 0, none⟩ v0) = Y1 at h1 b1 o1 ⊢
  have h2 : (Y1.setCell ⟨w.heap.size, 1, none⟩ v1).heap[w.heap.size]? = some (.cells #[v0, v1, a2, a3, a4, a5] t (0, 0)) := put_box h1 1 v1 (by simp)
  have b2 : Below w.heap.size w (Y1.setCell ⟨w.heap.size, 1, none⟩ v1) := below_set b1 (Nat.le_refl _)
  have o2 : (Y1.setCell ⟨w.heap.size, 1, none⟩ v1).ownsRow B e 1 v n xs := owns_same o1 fun g hg => Below.heap_setCell _ _ _ _ (by have := (owns_lt o1 g hg).2; show g ≠ w.heap.size; omega)
  generalize (Y1.setCell ⟨w.heap.size, 1, none⟩ v1) = Y2 at h2 b2 o2 ⊢
  have h3 : (Y2.setCell ⟨w.heap.size, 2, none⟩ v2).heap[w.heap.size]? = some (.cells #[v0, v1, v2, a3, a4, a5] t (0, 0)) := put_box h2 2 v2 (by simp)
  have b3 : Below w.heap.size w (Y2.setCell ⟨w.heap.size, 2, none⟩ v2) := below_set b2 (Nat.le_refl _)
  have o3 : (Y2.setCell ⟨w.heap.size, 2, none⟩ v2).ownsRow B e 1 v n xs := owns_same o2 fun g hg => Below.heap_setCell _ _ _ _ (by have := (owns_lt o2 g hg).2; show g ≠ w.heap.size; omega)
  generalize (Y2.setCell ⟨w.heap.size, 2, none⟩ v2) = Y3 at h3 b3 o3 ⊢
  have h4 : (Y3.setCell ⟨w.heap.size, 3, none⟩ v3).heap[w.heap.size]? = some (.cells #[v0, v1, v2, v3, a4, a5] t (0, 0)) := put_box h3 3 v3 (by simp)
  have b4 : Below w.heap.size w (Y3.setCell ⟨w.heap.size, 3, none⟩ v3) := below_set b3 (Nat.le_refl _)
  have o4 : (Y3.setCell ⟨w.heap.size, 3, none⟩ v3).ownsRow B e 1 v n xs := owns_same o3 fun g hg => Below.heap_setCell _ _ _ _ (by have := (owns_lt o3 g hg).2; show g ≠ w.heap.size; omega)
  generalize (Y3.setCell ⟨w.heap.size, 3, none⟩ v3) = Y4 at h4 b4 o4 ⊢
  have h5 : (Y4.setCell ⟨w.heap.size, 4, none⟩ v4).heap[w.heap.size]? = some (.cells #[v0, v1, v2, v3, v4, a5] t (0, 0)) := put_box h4 4 v4 (by simp)
  have b5 : Below w.heap.size w (Y4.setCell ⟨w.heap.size, 4, none⟩ v4) := below_set b4 (Nat.le_refl _)
  have o5 : (Y4.setCell ⟨w.heap.size, 4, none⟩ v4).ownsRow B e 1 v n xs := owns_same o4 fun g hg => Below.heap_setCell _ _ _ _ (by have := (owns_lt o4 g hg).2; show g ≠ w.heap.size; omega)
  generalize (Y4.setCell ⟨w.heap.size, 4, none⟩ v4) = Y5 at h5 b5 o5 ⊢
  have h6 : (Y5.setCell ⟨w.heap.size, 5, none⟩ v5).heap[w.heap.size]? = some (.cells #[v0, v1, v2, v3, v4, v5] t (0, 0)) := put_box h5 5 v5 (by simp)
  have b6 : Below w.heap.size w (Y5.setCell ⟨w.heap.size, 5, none⟩ v5) := below_set b5 (Nat.le_refl _)
  have o6 : (Y5.setCell ⟨w.heap.size, 5, none⟩ v5).ownsRow B e 1 v n xs := owns_same o5 fun g hg => Below.heap_setCell _ _ _ _ (by have := (owns_lt o5 g hg).2; show g ≠ w.heap.size; omega)
  generalize (Y5.setCell ⟨w.heap.size, 5, none⟩ v5) = Y6 at h6 b6 o6 ⊢
  exact ⟨h6, owns_same o6 (fun _ _ => rfl), below_drew b6⟩
end Go.Proofs.Ytckfmpoddmccfaa
namespace Go.Proofs.Ytckfmpoddmccfaa
open Go.RowKit
set_option linter.unusedVariables false
set_option linter.unusedSimpArgs false
set_option maxRecDepth 100000
theorem closeb1 {w Wx : World} {t : TypeId} {a0 : Value} (hbox : Wx.heap[w.heap.size]? = some (.cells #[a0] t (0, 0))) (hbel : Below w.heap.size w Wx) (v0 : Value) :
    ((Wx.setCell ⟨w.heap.size, 0, none⟩ v0).drew).heap[w.heap.size]? = some (.cells #[v0] t (0, 0)) ∧ Below w.heap.size w ((Wx.setCell ⟨w.heap.size, 0, none⟩ v0).drew) := by
  have h0 := hbox
  have b0 := hbel
  have h1 : (Wx.setCell ⟨w.heap.size, 0, none⟩ v0).heap[w.heap.size]? = some (.cells #[v0] t (0, 0)) := put_box h0 0 v0 (by simp)
  have b1 : Below w.heap.size w (Wx.setCell ⟨w.heap.size, 0, none⟩ v0) := below_set b0 (Nat.le_refl _)
  generalize (Wx.setCell ⟨w.heap.size, 0, none⟩ v0) = Y1 at h1 b1 ⊢
  exact ⟨h1, below_drew b1⟩
theorem closeb2 {w Wx : World} {t : TypeId} {a0 a1 : Value} (hbox : Wx.heap[w.heap.size]? = some (.cells #[a0, a1] t (0, 0))) (hbel : Below w.heap.size w Wx) (v0 v1 : Value) :
    (((Wx.setCell ⟨w.heap.size, 0, none⟩ v0).setCell ⟨w.heap.size, 1, none⟩ v1).drew).heap[w.heap.size]? = some (.cells #[v0, v1] t (0, 0)) ∧ Below w.heap.size w (((Wx.setCell ⟨w.heap.size, 0, none⟩ v0).setCell ⟨w.heap.size, 1, none⟩ v1).drew) := by
  have h0 := hbox
  have b0 := hbel
  have h1 : (Wx.setCell ⟨w.heap.size, 0, none⟩ v0).heap[w.heap.size]? = some (.cells #[v0, a1] t (0, 0)) := put_box h0 0 v0 (by simp)
  have b1 : Below w.heap.size w (Wx.setCell ⟨w.heap.size, 0, none⟩ v0) := below_set b0 (Nat.le_refl _)
  generalize (Wx.setCell ⟨w.heap.size, 0, none⟩ v0) = Y1 at h1 b1 ⊢
  have h2 : (Y1.setCell ⟨w.heap.size, 1, none⟩ v1).heap[w.heap.size]? = some (.cells #[v0, v1] t (0, 0)) := put_box h1 1 v1 (by simp)
  have b2 : Below w.heap.size w (Y1.setCell ⟨w.heap.size, 1, none⟩ v1) := below_set b1 (Nat.le_refl _)
  generalize (Y1.setCell ⟨w.heap.size, 1, none⟩ v1) = Y2 at h2 b2 ⊢
  exact ⟨h2, below_drew b2⟩
theorem closeb3 {w Wx : World} {t : TypeId} {a0 a1 a2 : Value} (hbox : Wx.heap[w.heap.size]? = some (.cells #[a0, a1, a2] t (0, 0))) (hbel : Below w.heap.size w Wx) (v0 v1 v2 : Value) :
    ((((Wx.setCell ⟨w.heap.size, 0, none⟩ v0).setCell ⟨w.heap.size, 1, none⟩ v1).setCell ⟨w.heap.size, 2, none⟩ v2).drew).heap[w.heap.size]? = some (.cells #[v0, v1, v2] t (0, 0)) ∧ Below w.heap.size w ((((Wx.setCell ⟨w.heap.size, 0, none⟩ v0).setCell ⟨w.heap.size, 1, none⟩ v1).setCell ⟨w.heap.size, 2, none⟩ v2).drew) := by
  have h0 := hbox
  have b0 := hbel
  have h1 : (Wx.setCell ⟨w.heap.size, 0, none⟩ v0).heap[w.heap.size]? = some (.cells #[v0, a1, a2] t (0, 0)) := put_box h0 0 v0 (by simp)
  have b1 : Below w.heap.size w (Wx.setCell ⟨w.heap.size, 0, none⟩ v0) := below_set b0 (Nat.le_refl _)
  generalize (Wx.setCell ⟨w.heap.size, 0, none⟩ v0) = Y1 at h1 b1 ⊢
  have h2 : (Y1.setCell ⟨w.heap.size, 1, none⟩ v1).heap[w.heap.size]? = some (.cells #[v0, v1, a2] t (0, 0)) := put_box h1 1 v1 (by simp)
  have b2 : Below w.heap.size w (Y1.setCell ⟨w.heap.size, 1, none⟩ v1) := below_set b1 (Nat.le_refl _)
  generalize (Y1.setCell ⟨w.heap.size, 1, none⟩ v1) = Y2 at h2 b2 ⊢
  have h3 : (Y2.setCell ⟨w.heap.size, 2, none⟩ v2).heap[w.heap.size]? = some (.cells #[v0, v1, v2] t (0, 0)) := put_box h2 2 v2 (by simp)
  have b3 : Below w.heap.size w (Y2.setCell ⟨w.heap.size, 2, none⟩ v2) := below_set b2 (Nat.le_refl _)
  generalize (Y2.setCell ⟨w.heap.size, 2, none⟩ v2) = Y3 at h3 b3 ⊢
  exact ⟨h3, below_drew b3⟩
theorem closeb4 {w Wx : World} {t : TypeId} {a0 a1 a2 a3 : Value} (hbox : Wx.heap[w.heap.size]? = some (.cells #[a0, a1, a2, a3] t (0, 0))) (hbel : Below w.heap.size w Wx) (v0 v1 v2 v3 : Value) :
    (((((Wx.setCell ⟨w.heap.size, 0, none⟩ v0).setCell ⟨w.heap.size, 1, none⟩ v1).setCell ⟨w.heap.size, 2, none⟩ v2).setCell ⟨w.heap.size, 3, none⟩ v3).drew).heap[w.heap.size]? = some (.cells #[v0, v1, v2, v3] t (0, 0)) ∧ Below w.heap.size w (((((Wx.setCell ⟨w.heap.size, 0, none⟩ v0).setCell ⟨w.heap.size, 1, none⟩ v1).setCell ⟨w.heap.size, 2, none⟩ v2).setCell ⟨w.heap.size, 3, none⟩ v3).drew) := by
  have h0 := hbox
  have b0 := hbel
  have h1 : (Wx.setCell ⟨w.heap.size, 0, none⟩ v0).heap[w.heap.size]? = some (.cells #[v0, a1, a2, a3] t (0, 0)) := put_box h0 0 v0 (by simp)
  have b1 : Below w.heap.size w (Wx.setCell ⟨w.heap.size, 0, none⟩ v0) := below_set b0 (Nat.le_refl _)
  generalize (Wx.setCell ⟨w.heap.size, 0, none⟩ v0) = Y1 at h1 b1 ⊢
  have h2 : (Y1.setCell ⟨w.heap.size, 1, none⟩ v1).heap[w.heap.size]? = some (.cells #[v0, v1, a2, a3] t (0, 0)) := put_box h1 1 v1 (by simp)
  have b2 : Below w.heap.size w (Y1.setCell ⟨w.heap.size, 1, none⟩ v1) := below_set b1 (Nat.le_refl _)
  generalize (Y1.setCell ⟨w.heap.size, 1, none⟩ v1) = Y2 at h2 b2 ⊢
  have h3 : (Y2.setCell ⟨w.heap.size, 2, none⟩ v2).heap[w.heap.size]? = some (.cells #[v0, v1, v2, a3] t (0, 0)) := put_box h2 2 v2 (by simp)
  have b3 : Below w.heap.size w (Y2.setCell ⟨w.heap.size, 2, none⟩ v2) := below_set b2 (Nat.le_refl _)
  generalize (Y2.setCell ⟨w.heap.size, 2, none⟩ v2) = Y3 at h3 b3 ⊢
  have h4 : (Y3.setCell ⟨w.heap.size, 3, none⟩ v3).heap[w.heap.size]? = some (.cells #[v0, v1, v2, v3] t (0, 0)) := put_box h3 3 v3 (by simp)
  have b4 : Below w.heap.size w (Y3.setCell ⟨w.heap.size, 3, none⟩ v3) := below_set b3 (Nat.le_refl _)
  generalize (Y3.setCell ⟨w.heap.size, 3, none⟩ v3) = Y4 at h4 b4 ⊢
  exact ⟨h4, below_drew b4⟩
theorem closeb5 {w Wx : World} {t : TypeId} {a0 a1 a2 a3 a4 : Value} (hbox : Wx.heap[w.heap.size]? = some (.cells #[a0, a1, a2, a3, a4] t (0, 0))) (hbel : Below w.heap.size w Wx) (v0 v1 v2 v3 v4 : Value) :
    ((((((Wx.setCell ⟨w.heap.size, 0, none⟩ v0).setCell ⟨w.heap.size, 1, none⟩ v1).setCell ⟨w.heap.size, 2, none⟩ v2).setCell ⟨w.heap.size, 3, none⟩ v3).setCell ⟨w.heap.size, 4, none⟩ v4).drew).heap[w.heap.size]? = some (.cells #[v0, v1, v2, v3, v4] t (0, 0)) ∧ Below w.heap.size w ((((((Wx.setCell ⟨w.heap.size, 0, none⟩ v0).setCell ⟨w.heap.size, 1, none⟩ v1).setCell ⟨w.heap.size, 2, none⟩ v2).setCell ⟨w.heap.size, 3, none⟩ v3).setCell ⟨w.heap.size, 4, none⟩ v4).drew) := by
  have h0 := hbox
  have b0 := hbel
  have h1 : (Wx.setCell ⟨w.heap.size, 0, none⟩ v0).heap[w.heap.size]? = some (.cells #[v0, a1, a2, a3, a4] t (0, 0)) := put_box h0 0 v0 (by simp)
  have b1 : Below w.heap.size w (Wx.setCell ⟨w.heap.size, 0, none⟩ v0) := below_set b0 (Nat.le_refl _)
  generalize (Wx.setCell ⟨w.heap.size, 0, none⟩ v0) = Y1 at h1 b1 ⊢
  have h2 : (Y1.setCell ⟨w.heap.size, 1, none⟩ v1).heap[w.heap.size]? = some (.cells #[v0, v1, a2, a3, a4] t (0, 0)) := put_box h1 1 v1 (by simp)
  have b2 : Below w.heap.size w (Y1.setCell ⟨w.heap.size, 1, none⟩ v1) := below_set b1 (Nat.le_refl _)
  generalize (Y1.setCell ⟨w.heap.size, 1, none⟩ v1) = Y2 at h2 b2 ⊢
  have h3 : (Y2.setCell ⟨w.heap.size, 2, none⟩ v2).heap[w.heap.size]? = some (.cells #[v0, v1, v2, a3, a4] t (0, 0)) := put_box h2 2 v2 (by simp)
  have b3 : Below w.heap.size w (Y2.setCell ⟨w.heap.size, 2, none⟩ v2) := below_set b2 (Nat.le_refl _)
  generalize (Y2.setCell ⟨w.heap.size, 2, none⟩ v2) = Y3 at h3 b3 ⊢
  have h4 : (Y3.setCell ⟨w.heap.size, 3, none⟩ v3).heap[w.heap.size]? = some (.cells #[v0, v1, v2, v3, a4] t (0, 0)) := put_box h3 3 v3 (by simp)
  have b4 : Below w.heap.size w (Y3.setCell ⟨w.heap.size, 3, none⟩ v3) := below_set b3 (Nat.le_refl _)
  generalize (Y3.setCell ⟨w.heap.size, 3, none⟩ v3) = Y4 at h4 b4 ⊢
  have h5 : (Y4.setCell ⟨w.heap.size, 4, none⟩ v4).heap[w.heap.size]? = some (.cells #[v0, v1, v2, v3, v4] t (0, 0)) := put_box h4 4 v4 (by simp)
  have b5 : Below w.heap.size w (Y4.setCell ⟨w.heap.size, 4, none⟩ v4) := below_set b4 (Nat.le_refl _)
  generalize (Y4.setCell ⟨w.heap.size, 4, none⟩ v4) = Y5 at h5 b5 ⊢
  exact ⟨h5, below_drew b5⟩
theorem closeb6 {w Wx : World} {t : TypeId} {a0 a1 a2 a3 a4 a5 : Value} (hbox : Wx.heap[w.heap.size]? = some (.cells #[a0, a1, a2, a3, a4, a5] t (0, 0))) (hbel : Below w.heap.size w Wx) (v0 v1 v2 v3 v4 v5 : Value) :
    (((((((Wx.setCell ⟨w.heap.size, 0, none⟩ v0).setCell ⟨w.heap.size, 1, none⟩ v1).setCell ⟨w.heap.size, 2, none⟩ v2).setCell ⟨w.heap.size, 3, none⟩ v3).setCell ⟨w.heap.size, 4, none⟩ v4).setCell ⟨w.heap.size, 5, none⟩ v5).drew).heap[w.heap.size]? = some (.cells #[v0, v1, v2, v3, v4, v5] t (0, 0)) ∧ Below w.heap.size w (((((((Wx.setCell ⟨w.heap.size, 0, none⟩ v0).setCell ⟨w.heap.size, 1, none⟩ v1).setCell ⟨w.heap.size, 2, none⟩ v2).setCell ⟨w.heap.size, 3, none⟩ v3).setCell ⟨w.heap.size, 4, none⟩ v4).setCell ⟨w.heap.size, 5, none⟩ v5).drew) := by
  have h0 := hbox
  have b0 := hbel
  have h1 : (Wx.setCell ⟨w.heap.size, 0, none⟩ v0).heap[w.heap.size]? = some (.cells #[v0, a1, a2, a3, a4, a5] t (0, 0)) := put_box h0 0 v0 (by simp)
  have b1 : Below w.heap.size w (Wx.setCell ⟨w.heap.size, 0, none⟩ v0) := below_set b0 (Nat.le_refl _)
  generalize (Wx.setCell ⟨w.heap.size, 0, none⟩ v0) = Y1 at h1 b1 ⊢
  have h2 : (Y1.setCell ⟨w.heap.size, 1, none⟩ v1).heap[w.heap.size]? = some (.cells #[v0, v1, a2, a3, a4, a5] t (0, 0)) := put_box h1 1 v1 (by simp)
  have b2 : Below w.heap.size w (Y1.setCell ⟨w.heap.size, 1, none⟩ v1) := below_set b1 (Nat.le_refl _)
  generalize (Y1.setCell ⟨w.heap.size, 1, none⟩ v1) = Y2 at h2 b2 ⊢
  have h3 : (Y2.setCell ⟨w.heap.size, 2, none⟩ v2).heap[w.heap.size]? = some (.cells #[v0, v1, v2, a3, a4, a5] t (0, 0)) := put_box h2 2 v2 (by simp)
  have b3 : Below w.heap.size w (Y2.setCell ⟨w.heap.size, 2, none⟩ v2) := below_set b2 (Nat.le_refl _)
  generalize (Y2.setCell ⟨w.heap.size, 2, none⟩ v2) = Y3 at h3 b3 ⊢
  have h4 : (Y3.setCell ⟨w.heap.size, 3, none⟩ v3).heap[w.heap.size]? = some (.cells #[v0, v1, v2, v3, a4, a5] t (0, 0)) := put_box h3 3 v3 (by simp)
  have b4 : Below w.heap.size w (Y3.setCell ⟨w.heap.size, 3, none⟩ v3) := below_set b3 (Nat.le_refl _)
  generalize (Y3.setCell ⟨w.heap.size, 3, none⟩ v3) = Y4 at h4 b4 ⊢
  have h5 : (Y4.setCell ⟨w.heap.size, 4, none⟩ v4).heap[w.heap.size]? = some (.cells #[v0, v1, v2, v3, v4, a5] t (0, 0)) := put_box h4 4 v4 (by simp)
  have b5 : Below w.heap.size w (Y4.setCell ⟨w.heap.size, 4, none⟩ v4) := below_set b4 (Nat.le_refl _)
  generalize (Y4.setCell ⟨w.heap.size, 4, none⟩ v4) = Y5 at h5 b5 ⊢
  have h6 : (Y5.setCell ⟨w.heap.size, 5, none⟩ v5).heap[w.heap.size]? = some (.cells #[v0, v1, v2, v3, v4, v5] t (0, 0)) := put_box h5 5 v5 (by simp)
  have b6 : Below w.heap.size w (Y5.setCell ⟨w.heap.size, 5, none⟩ v5) := below_set b5 (Nat.le_refl _)
  generalize (Y5.setCell ⟨w.heap.size, 5, none⟩ v5) = Y6 at h6 b6 ⊢
  exact ⟨h6, below_drew b6⟩
end Go.Proofs.Ytckfmpoddmccfaa
