import Derived.Test.YtncajaihojhkkaaGreatXNS
import Derived.Test.YtncajaihojhkkaaGreatXK
namespace Go.Proofs.YtncajaihojhkkaaGreat.S
open Go.RowKit Go.Sort
set_option linter.unusedVariables false
set_option linter.unusedSimpArgs false
set_option maxRecDepth 100000

theorem zeroRun' : ∀ w, (zeroValue TRun).run Tryz.prog w = .ok (.agg #[.int .i64 0, .int .i64 0, .string ByteArray.empty]) w := Tryz.zeroValue46
/-- what Replace gives -/
def MidRes (w : World) (B g N : Nat) (ys : List Value) (e : Ending) (w' : World) : Prop :=
  ∃ ao cap', e = .returned (.slice ao N cap') ∧ w'.ownsRow B TRun 3 (.slice ao N cap') N ys ∧ w.grownBy w' (some g) ∧ (ao = some ⟨g, 0, none⟩ ∨ ∃ g', ao = some ⟨g', 0, none⟩ ∧ w.heap.size ≤ g')

set_option maxHeartbeats 8000000 in
theorem replace_mid (w : World) (B g n cap i j r m T gv c : Nat) (xs news : List Value) (h : w.ownsRow B TRun 3 (.slice (some ⟨g, 0, none⟩) n cap) n xs) (hij : i < j) (hjn : j < n) (Hr : Hid (n - j = r)) (HT : Hid (T = i + m + r)) (hm : 0 < m) (hn : n ≤ 1099511627776) (hm2 : m ≤ 1000)
    (hv : w.ownsRow B TRun 3 (.slice (some ⟨gv, 0, none⟩) m c) m news) (hne : gv ≠ g) (h1 : ∀ u ∈ news, u.oneCell' = true) (h2 : ∀ u ∈ xs, u.oneCell' = true) (hB : B ≤ w.heap.size) :
    Calls Tryz.prog 36 #[.slice (some ⟨g, 0, none⟩) n cap, .int .i64 i, .int .i64 j, .slice (some ⟨gv, 0, none⟩) m c] w (MidRes w B g T (xs.take (i * 3) ++ news ++ xs.drop (j * 3))) := by
  have mixed : Tryz.prog.follows .mixedOrders = true := by kernel_rfl
  obtain ⟨i0, hi0, hz0, hz1, hz2⟩ := info_parts infoRun
  obtain ⟨k1, k2, k3, k4, k5⟩ := owns_cap h
  have HO : Hid (w.ownsRow B TRun 3 (.slice (some ⟨g, 0, none⟩) n cap) n xs) := h
  have HV : Hid (w.ownsRow B TRun 3 (.slice (some ⟨gv, 0, none⟩) m c) m news) := hv
  have hTr := HT.out
  have hrr := Hr.out
  have e1 : ((i : Int) == (j : Int)) = false := by simp; omega
  have e2 : (i : Int) ≤ (j : Int) := by omega
  have e3 : (j : Int) ≤ (cap : Int) := by omega
  have e4 : (0 : Int) ≤ (i : Int) := by omega
  have e5 : ((j : Int) == (n : Int)) = false := by simp; omega
  have e6 : (i : Int) ≤ (cap : Int) := by omega
  have e7 : (j : Int) ≤ (n : Int) := by omega
  have e8 : ¬ cap = j := by omega
  have e9 : ¬ cap = i := by omega
  have w1 : IntKind.i64.wrap ((i : Int) + (m : Int)) = (i : Int) + (m : Int) := by rw [IntKind.wrap_i64]; omega
  have w2 : IntKind.i64.wrap ((i : Int) + (m : Int) + (r : Int)) = (T : Int) := by rw [IntKind.wrap_i64]; omega
  have hr' : n - j = r := hrr
  clear h hv k5 hrr
  by_cases hroom : T ≤ cap
  · have t1 : ¬ (cap : Int) < (T : Int) := by omega
    have t2 : (T : Int) ≤ (cap : Int) := by omega
    by_cases hfit : i + m ≤ j
    · have t3 : (i : Int) + (m : Int) ≤ (j : Int) := by omega
      have t4 : (i : Int) ≤ (T : Int) := by omega
      have t5 : i ≤ T := by omega
      have t6 : (i : Int) + (m : Int) ≤ (T : Int) := by omega
      have t7 : i + m ≤ T := by omega
      have t8 : (0 : Int) ≤ (i : Int) + (m : Int) := by omega
      have t9 : ¬ cap = i + m := by omega
      have t10 : T - (i + m) = r := by omega
      have t11 : (T : Int) ≤ (n : Int) := by omega
      have t12 : T ≤ n := by omega
      have hx := HO.out.1
      have hnl := HV.out.1
      obtain ⟨W1, hcp1, ho1, hg1⟩ := run_copy_owns (P := Tryz.prog) (w := w.drew) HO.out 50 50 3 i0 Tryz.underlying50 hi0 hz1 i (T - i) ⟨gv, 0, none⟩ m news (by rw [hnl]; congr 1; exact (Nat.min_eq_left (by omega)).symm) (fun a b hab => HV.out.cells (g := gv) rfl a b hab) (by omega) h1
      have hsrc : ∀ a b, (xs.drop (j * 3))[a]? = some b → W1.cell? ((⟨g, j * 3, none⟩ : Addr).add a) = some b := fun a b hab => by
        have hlt := (List.getElem?_eq_some_iff.1 hab).1
        rw [List.length_drop] at hlt
        rw [WideShapes.add_plain, ho1.cellAt (j * 3 + a) (by omega)]
        rw [List.getElem?_append_right (by rw [List.length_append, List.length_take]; omega), List.length_append, List.length_take, List.getElem?_drop]
        rw [List.getElem?_drop] at hab
        rw [← hab]; congr 1; omega
      obtain ⟨W2, hcp2, ho2, hg2⟩ := run_copy_owns (P := Tryz.prog) (w := W1.drew) ho1 50 50 3 i0 Tryz.underlying50 hi0 hz1 (i + m) r ⟨g, j * 3, none⟩ r (xs.drop (j * 3)) (by rw [List.length_drop, show Nat.min r r = r from Nat.min_self r]; omega) hsrc (by rw [List.length_drop]; omega) (fun u hu => h2 u (List.mem_of_mem_drop hu))
      have hfin : ((xs.take (i * 3) ++ news ++ xs.drop (i * 3 + news.length)).take ((i + m) * 3) ++ xs.drop (j * 3) ++ (xs.take (i * 3) ++ news ++ xs.drop (i * 3 + news.length)).drop ((i + m) * 3 + (xs.drop (j * 3)).length)).take (T * 3) = xs.take (i * 3) ++ news ++ xs.drop (j * 3) := by
        have a1 : (xs.take (i * 3) ++ news).length = (i + m) * 3 := by rw [List.length_append, List.length_take]; omega
        rw [List.take_append_of_le_length (l₁ := xs.take (i * 3) ++ news) (by omega), List.take_of_length_le (l := xs.take (i * 3) ++ news) (by omega)]
        rw [List.take_append_of_le_length (l₁ := xs.take (i * 3) ++ news ++ xs.drop (j * 3)) (by rw [List.length_append, a1, List.length_drop]; omega), List.take_of_length_le (by rw [List.length_append, a1, List.length_drop]; omega)]
      have hgr : w.grownBy W2 (some g) := ⟨hg2.os.trans hg1.os, hg2.tape.trans hg1.tape, hg2.output.trans hg1.output, Nat.le_trans hg1.size hg2.size, fun k hk hne => (hg2.block k (Nat.lt_of_lt_of_le hk hg1.size) hne).trans (hg1.block k hk hne)⟩
      have ho3 := owns_shrink ho2 t12
      rw [hfin] at ho3
      have HO3 : Hid (W2.ownsRow B TRun 3 (.slice (some ⟨g, 0, none⟩) T cap) T (xs.take (i * 3) ++ news ++ xs.drop (j * 3)) ∧ w.grownBy W2 (some g)) := ⟨ho3, hgr⟩
      have HTT : Hid (T = i + m + r) := hTr
      by_cases htn : T = n
      · subst htn
        have c3 : ∀ W (a : Option Addr) (cp : Nat), (Builtin.clear_ #[50] 0 #[.slice a 0 cp]).run Tryz.prog W = .ok (.tuple #[]) W := fun W a cp => by
          have hul := Tryz.underlying50
          cases a <;> simp [Builtin.clear_, run_underlying hul]
        clear hTr ho1 ho2 ho3 hg1 hg2 hgr hfin hsrc
        by_cases hct : cap = T
        · subst hct
          go_enter Tryz.func36, Tryz.ntmps36
          go_wp2
          go_region
          go_wp2
          go_region
          go_wp2
          go_ret
          exact ⟨_, _, rfl, HO3.out.1, HO3.out.2, .inl rfl⟩
        · have hct' : ¬ T = cap := fun e => hct e.symm
          go_enter Tryz.func36, Tryz.ntmps36
          go_wp2
          go_region
          go_wp2
          go_region
          go_wp2
          go_ret
          exact ⟨_, _, rfl, HO3.out.1, HO3.out.2, .inl rfl⟩
      · have hlt : T < n := by omega
        obtain ⟨_, _, _, _, q5⟩ := owns_cap ho2
        have HCL := run_clear_many W2 50 TRun 0 (.agg #[.int .i64 0, .int .i64 0, .string ByteArray.empty]) Tryz.underlying50 zeroRun' (by simp [Value.cells, Value.oneCell']) (by simp [Value.cells]) g (T * 3) (n - T) (cap - T) (by omega) (fun a ha => q5 _ (by simp [Value.cells] at ha; omega)) (fun a _ => ho2.frozenAt _)
        have c1 : ¬ cap = T := by omega
        clear hTr ho1 ho2 ho3 hg1 hg2 hgr hfin hsrc q5 htn
        go_enter Tryz.func36, Tryz.ntmps36
        go_wp2
        go_region
        go_wp2
        go_region
        go_wp2
        go_ret
        have hz := owns_setCells (Builtin.zeroCells #[.int .i64 0, .int .i64 0, .string ByteArray.empty] (n - T)).toList (T * 3) HO3.out.1 (Nat.le_refl _)
        refine ⟨_, _, rfl, hz.1, ?_, .inl rfl⟩
        have hgr := HO3.out.2
        exact ⟨hz.2.os.trans hgr.os, hz.2.tape.trans hgr.tape, hz.2.output.trans hgr.output, Nat.le_trans hgr.size hz.2.size, fun k hk hne => (hz.2.block k (Nat.lt_of_lt_of_le hk hgr.size) hne).trans (hgr.block k hk hne)⟩
    · have t3 : ¬ (i : Int) + (m : Int) ≤ (j : Int) := by omega
      have t4 : (i : Int) ≤ (T : Int) := by omega
      have t5 : i ≤ T := by omega
      have t6 : (i : Int) + (m : Int) ≤ (T : Int) := by omega
      have t7 : i + m ≤ T := by omega
      have t8 : (0 : Int) ≤ (i : Int) + (m : Int) := by omega
      have t9 : ¬ cap = i + m := by omega
      have t10 : T - (i + m) = r := by omega
      have hx := HO.out.1
      have hnl := HV.out.1
      obtain ⟨ys, hoy, hys⟩ := owns_more HO.out (m := T) (by omega) hroom
      have hyl := hoy.1
      obtain ⟨W1, hcp1, ho1, hg1⟩ := run_copy_owns (P := Tryz.prog) (w := w.drew.drew) hoy 50 50 3 i0 Tryz.underlying50 hi0 hz1 (i + m) r ⟨g, j * 3, none⟩ r (xs.drop (j * 3)) (by rw [List.length_drop, show Nat.min r r = r from Nat.min_self r]; omega) (fun a b hab => by
        rw [List.getElem?_drop] at hab
        have := HO.out.cells (g := g) rfl (j * 3 + a) b hab
        rw [WideShapes.add_plain, Nat.zero_add] at this
        rw [WideShapes.add_plain]; exact this) (by rw [List.length_drop]; omega) (fun u hu => h2 u (List.mem_of_mem_drop hu))
      have hgvlt : gv < w.heap.size := (HV.out.lt gv rfl).2
      obtain ⟨W2, hcp2, ho2, hg2⟩ := run_copy_owns (P := Tryz.prog) (w := W1) ho1 50 50 3 i0 Tryz.underlying50 hi0 hz1 i (T - i) ⟨gv, 0, none⟩ m news (by rw [hnl]; congr 1; exact (Nat.min_eq_left (by omega)).symm) (fun a b hab => by
        have := HV.out.cells (g := gv) rfl a b hab
        exact hg1.cell (a := (⟨gv, 0, none⟩ : Addr).add a) this (by rw [WideShapes.add_plain]; simpa using hne)) (by omega) h1
      have hfin : (ys.take ((i + m) * 3) ++ xs.drop (j * 3) ++ ys.drop ((i + m) * 3 + (xs.drop (j * 3)).length)).take (i * 3) ++ news ++ (ys.take ((i + m) * 3) ++ xs.drop (j * 3) ++ ys.drop ((i + m) * 3 + (xs.drop (j * 3)).length)).drop (i * 3 + news.length) = xs.take (i * 3) ++ news ++ xs.drop (j * 3) := by
        have a1 : ys.drop ((i + m) * 3 + (xs.drop (j * 3)).length) = [] := List.drop_eq_nil_of_le (by rw [List.length_drop]; omega)
        rw [a1, List.append_nil]
        have a2 : (ys.take ((i + m) * 3)).length = (i + m) * 3 := by rw [List.length_take]; omega
        have a4 : (ys.take ((i + m) * 3)).drop (i * 3 + news.length) = [] := List.drop_eq_nil_of_le (by omega)
        rw [List.take_append_of_le_length (by omega), List.take_take, List.drop_append, a2, a4]
        have a3 : i * 3 + news.length - (i + m) * 3 = 0 := by omega
        rw [a3, List.drop_zero, List.nil_append, ← hys, List.take_take]
        congr 3
        omega
      rw [hfin] at ho2
      have hgr : w.grownBy W2 (some g) := ⟨hg2.os.trans hg1.os, hg2.tape.trans hg1.tape, hg2.output.trans hg1.output, Nat.le_trans hg1.size hg2.size, fun k hk hne => (hg2.block k (Nat.lt_of_lt_of_le hk hg1.size) hne).trans (hg1.block k hk hne)⟩
      have HO3 : Hid (W2.ownsRow B TRun 3 (.slice (some ⟨g, 0, none⟩) T cap) T (xs.take (i * 3) ++ news ++ xs.drop (j * 3)) ∧ w.grownBy W2 (some g)) := ⟨ho2, hgr⟩
      have hov : ∀ q, (callFunc 50 #[.slice (some ⟨g, (i + m) * 3, none⟩) r q, .slice (some ⟨gv, 0, none⟩) m c]).run Tryz.prog w.drew = .ok (.value (.bool false)) w.drew := fun q => by
        obtain ⟨cg, hcg, _, _, _, hcgs, _⟩ := owns_cur HO.out
        obtain ⟨cv, hcv, _, hmc, _, hcvs, _⟩ := owns_cur HV.out
        have s1 : w.drew.shape? g = some (TRun, cg.size) := by unfold World.shape?; rw [show w.drew.heap[g]? = _ from hcg]
        have s2 : w.drew.shape? gv = some (TRun, cv.size) := by unfold World.shape?; rw [show w.drew.heap[gv]? = _ from hcv]
        rw [run_callFunc_extern Tryz.func50 (by kernel_rfl) (by kernel_rfl) (by kernel_rfl) (e := Extern.SlicesOverlaps.overlaps #[50, 50] #[4]) (by kernel_rfl),
          Lib.run_overlaps_apart w.drew 50 4 TRun Tryz.underlying50 3 Tryz.sizeOf46 ⟨g, (i + m) * 3, none⟩ ⟨gv, 0, none⟩ r q m c (fun e => hne e.symm) TRun TRun cg.size cv.size s1 s2 (by omega) (HO.out.frozenAt _) (HO.out.frozenAt _)]
        rfl
      have HTT : Hid (T = i + m + r) := hTr
      clear hTr ho1 ho2 hg1 hg2 hgr hfin hoy hys
      go_enter Tryz.func36, Tryz.ntmps36
      go_wp2
      go_region
      go_wp2
      go_region
      go_wp2
      go_ret
      exact ⟨_, _, rfl, HO3.out.1, HO3.out.2, .inl rfl⟩
  · have t1 : (cap : Int) < (T : Int) := by omega
    have t4 : (i : Int) ≤ (T : Int) := by omega
    have t5 : i ≤ T := by omega
    have t6 : (i : Int) + (m : Int) ≤ (T : Int) := by omega
    have t7 : i + m ≤ T := by omega
    have t8 : (0 : Int) ≤ (i : Int) + (m : Int) := by omega
    have t10 : T - (i + m) = r := by omega
    have hx := HO.out.1
    have hnl := HV.out.1
    obtain ⟨q, hq⟩ : ∃ q, q = m + r := ⟨_, rfl⟩
    have w3 : IntKind.i64.wrap ((T : Int) - (i : Int)) = (q : Int) := by rw [IntKind.wrap_i64]; omega
    have hiq : i + q = T := by omega
    have HS : Hid (∀ (W : World), w.heap = W.heap → ∀ a b, (xs.take (i * 3))[a]? = some b → W.cell? ((⟨g, 0, none⟩ : Addr).add a) = some b) := fun W hW a b hab => by
      rw [List.getElem?_take] at hab
      split at hab
      · have := HO.out.cells (g := g) rfl a b hab
        exact (World.cell?_of_block (w := w) (by rw [hW])).trans this
      · cases hab
    have HP : Hid (∀ cap' W1, W1.ownsRow w.heap.size TRun 3 (.slice (some ⟨w.heap.size, 0, none⟩) T cap') T (xs.take (i * 3) ++ (Builtin.zeroCells #[.int .i64 0, .int .i64 0, .string ByteArray.empty] q).toList) → w.grownBy W1 none →
        T ≤ cap' ∧ ∃ W2 W3, (∀ dc sc, (Builtin.copy_ #[50, 50] 3 #[.slice (some ⟨w.heap.size, i * 3, none⟩) (T - i) dc, .slice (some ⟨gv, 0, none⟩) m sc]).run Tryz.prog W1 = .ok (goInt (Nat.min m (T - i))) W2) ∧
          (∀ dc sc, (Builtin.copy_ #[50, 50] 3 #[.slice (some ⟨w.heap.size, (i + m) * 3, none⟩) r dc, .slice (some ⟨g, j * 3, none⟩) r sc]).run Tryz.prog W2.drew = .ok (goInt (Nat.min r r)) W3) ∧
          W3.ownsRow B TRun 3 (.slice (some ⟨w.heap.size, 0, none⟩) T cap') T (xs.take (i * 3) ++ news ++ xs.drop (j * 3)) ∧ w.grownBy W3 (some g)) := fun cap' W1 ho hg => by
      obtain ⟨q1, q2, q3, q4, q5⟩ := owns_cap ho
      have hzl : (Builtin.zeroCells #[.int .i64 0, .int .i64 0, .string ByteArray.empty] q).toList.length = q * 3 := by rw [Array.length_toList, size_zeroCells]; rfl
      generalize (Builtin.zeroCells #[.int .i64 0, .int .i64 0, .string ByteArray.empty] q).toList = zs at ho hzl
      have hgvlt : gv < w.heap.size := (HV.out.lt gv rfl).2
      obtain ⟨W2, hc1, ho1, hg1⟩ := run_copy_owns (P := Tryz.prog) (w := W1) ho 50 50 3 i0 Tryz.underlying50 hi0 hz1 i (T - i) ⟨gv, 0, none⟩ m news (by rw [hnl]; congr 1; exact (Nat.min_eq_left (by omega)).symm) (fun a b hab => hg.cell (HV.out.cells (g := gv) rfl a b hab) (by simp)) (by omega) h1
      obtain ⟨W3, hc2, ho2, hg2⟩ := run_copy_owns (P := Tryz.prog) (w := W2.drew) ho1 50 50 3 i0 Tryz.underlying50 hi0 hz1 (i + m) r ⟨g, j * 3, none⟩ r (xs.drop (j * 3)) (by rw [List.length_drop, show Nat.min r r = r from Nat.min_self r]; omega) (fun a b hab => by
        rw [List.getElem?_drop] at hab
        have h3 := HO.out.cells (g := g) rfl (j * 3 + a) b hab
        rw [WideShapes.add_plain, Nat.zero_add] at h3
        rw [WideShapes.add_plain]
        have h4 := hg.cell h3 (by simp)
        exact hg1.cell (a := ⟨g, j * 3 + a, none⟩) h4 (by simp; omega)) (by rw [List.length_drop]; omega) (fun u hu => h2 u (List.mem_of_mem_drop hu))
      refine ⟨q1, W2, W3, hc1, hc2, ?_, ?_⟩
      · have hfin : (((xs.take (i * 3) ++ zs).take (i * 3) ++ news ++ (xs.take (i * 3) ++ zs).drop (i * 3 + news.length)).take ((i + m) * 3) ++ xs.drop (j * 3) ++ ((xs.take (i * 3) ++ zs).take (i * 3) ++ news ++ (xs.take (i * 3) ++ zs).drop (i * 3 + news.length)).drop ((i + m) * 3 + (xs.drop (j * 3)).length)) = xs.take (i * 3) ++ news ++ xs.drop (j * 3) := by
          have b1 : (xs.take (i * 3)).length = i * 3 := by rw [List.length_take]; omega
          have b2 : (xs.take (i * 3) ++ zs).take (i * 3) = xs.take (i * 3) := by rw [List.take_append_of_le_length (by omega), List.take_of_length_le (by omega)]
          rw [b2]
          have a1 : (xs.take (i * 3) ++ news).length = (i + m) * 3 := by rw [List.length_append, b1]; omega
          have b3 : (xs.take (i * 3) ++ news ++ (xs.take (i * 3) ++ zs).drop (i * 3 + news.length)).drop ((i + m) * 3 + (xs.drop (j * 3)).length) = [] := by
            apply List.drop_eq_nil_of_le
            rw [List.length_append, a1, List.length_drop, List.length_append, b1, List.length_drop]; omega
          rw [b3, List.append_nil, List.take_append_of_le_length (by omega), List.take_of_length_le (by omega)]
        rw [hfin] at ho2
        exact owns_mono ho2 hB
      · refine ⟨hg2.os.trans (hg1.os.trans hg.os), hg2.tape.trans (hg1.tape.trans hg.tape), hg2.output.trans (hg1.output.trans hg.output), Nat.le_trans hg.size (Nat.le_trans hg1.size hg2.size), fun k hk hne' => ?_⟩
        have s1 := hg.size
        have s2 := hg1.size
        have s3 : W2.drew.heap.size = W2.heap.size := rfl
        have hne2 : some k ≠ some w.heap.size := by simp; omega
        exact (hg2.block k (by omega) hne2).trans ((hg1.block k (by omega) hne2).trans (hg.block k hk (by simp)))
    have HTT : Hid (T = i + m + r) := hTr
    clear hTr hq
    go_enter Tryz.func36, Tryz.ntmps36
    go_wp2
    go_region
    go_wp2_with (at_builtin; refine wpList_append_make _ rfl (.tmp 63) (.tmp 66) 50 3 rfl TRun i0 _ 3 32 Tryz.underlying50 Tryz.underlying3 hi0 hz0 hz1 hz2 rfl (by decide) g i cap (xs.take (i * 3)) rfl (by rw [List.length_take]; omega) (HS.out _ rfl) q rfl (by omega) (by omega) (by omega) (by omega) ?_; rw [hiq]; intro cap' W1 ho1 hg1; obtain ⟨hc1, W2, W3, hcp1, hcp2, HO3⟩ := HP.out cap' W1 ho1 ⟨hg1.os, hg1.tape, hg1.output, hg1.size, hg1.block⟩; have n1 : ¬ cap' = i := (by omega); have n2 : ¬ cap' = i + m := (by omega); clear ho1 hg1)
    go_region
    go_wp2
    go_ret
    exact ⟨_, _, rfl, HO3.1, HO3.2, .inr ⟨_, rfl, Nat.le_refl _⟩⟩
end Go.Proofs.YtncajaihojhkkaaGreat.S
