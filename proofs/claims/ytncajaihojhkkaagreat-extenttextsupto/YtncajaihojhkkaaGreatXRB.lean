import Derived.Test.YtncajaihojhkkaaGreatXNB
import Derived.Test.YtncajaihojhkkaaGreatXG
namespace Go.Proofs.YtncajaihojhkkaaGreat.B
open Go.RowKit Go.Sort
set_option linter.unusedVariables false
set_option linter.unusedSimpArgs false
set_option maxRecDepth 100000

theorem zeroRun : ∀ w, (zeroValue TRun).run Tryz.prog w = .ok (.agg #[.int .i64 0, .int .i64 0, .bool false]) w := Tryz.zeroValue96

/-- what Replace does where all from i on is replaced -/
def EndRes (w : World) (B g i m : Nat) (ys : List Value) (e : Ending) (w' : World) : Prop :=
  ∃ ao cap', e = .returned (.slice ao (i + m) cap') ∧ w'.ownsRow B TRun 3 (.slice ao (i + m) cap') (i + m) ys ∧ w.grownBy w' (some g) ∧ (ao = some ⟨g, 0, none⟩ ∨ ∃ g', ao = some ⟨g', 0, none⟩ ∧ w.heap.size ≤ g')

set_option maxHeartbeats 4000000 in
theorem replace_end (w : World) (B g n cap i m gv c : Nat) (xs news : List Value) (h : w.ownsRow B TRun 3 (.slice (some ⟨g, 0, none⟩) n cap) n xs) (hi : i < n) (hm : 0 < m) (hn : n ≤ 1099511627776) (hm2 : m ≤ 1000)
    (hl : news.length = m * 3) (hnews : ∀ j u, news[j]? = some u → w.cell? ⟨gv, j, none⟩ = some u) (h1 : ∀ u ∈ news, u.oneCell' = true) (hB : B ≤ w.heap.size) :
    Calls Tryz.prog 74 #[.slice (some ⟨g, 0, none⟩) n cap, .int .i64 i, .int .i64 n, .slice (some ⟨gv, 0, none⟩) m c] w (EndRes w B g i m (xs.take (i * 3) ++ news)) := by
  obtain ⟨i0, hi0, hz0, hz1, hz2⟩ := info_parts infoRun
  obtain ⟨k1, k2, k3, k4, k5⟩ := owns_cap h
  have HS := owns_shrink h (Nat.le_of_lt hi)
  have HN : Hid (∀ j u, news[j]? = some u → w.cell? ((⟨gv, 0, none⟩ : Addr).add j) = some u) := fun j u hu => by rw [WideShapes.add_plain, Nat.zero_add]; exact hnews j u hu
  have HO : Hid (w.ownsRow B TRun 3 (.slice (some ⟨g, 0, none⟩) i cap) i (xs.take (i * 3))) := HS
  have HF : Hid (∀ j, j < cap * 3 → (w.cell? ⟨g, j, none⟩).isSome = true) := k5
  clear HS hnews h k5
  have e1 : ¬ (i : Int) = (n : Int) := by omega
  have e2 : (i : Int) ≤ (n : Int) := by omega
  have e3 : (n : Int) ≤ (cap : Int) := by omega
  have e4 : ((i : Int) == (n : Int)) = false := by simpa using e1
  have e5 : (0 : Int) ≤ (i : Int) := by omega
  have e6 : i ≤ n := by omega
  have e7 : (i : Int) ≤ (cap : Int) := by omega
  by_cases hroom : i + m ≤ cap
  · by_cases hlt : i + m < n
    · have l1 : (i : Int) + (m : Int) < (n : Int) := by omega
      have l2 : (i : Int) + (m : Int) ≤ (n : Int) := by omega
      have l3 : (0 : Int) ≤ (i : Int) + (m : Int) := by omega
      have HC : Hid (∀ w1 : World, w1.ownsRow B TRun 3 (.slice (some ⟨g, 0, none⟩) (i + m) cap) (i + m) (xs.take (i * 3) ++ news) →
          (Builtin.clear_ #[92] 0 #[.slice (some ⟨g, (i + m) * 3, none⟩) (n - (i + m)) (cap - (i + m))]).run Tryz.prog w1 = .ok (.tuple #[]) (w1.setCells g ((i + m) * 3) (Builtin.zeroCells #[.int .i64 0, .int .i64 0, .bool false] (n - (i + m))).toList)) := fun w1 ho => by
        obtain ⟨_, _, _, _, q5⟩ := owns_cap ho
        exact run_clear_many w1 92 TRun 0 (.agg #[.int .i64 0, .int .i64 0, .bool false]) Tryz.underlying92 zeroRun (by simp [Value.cells, Value.oneCell']) (by simp [Value.cells]) g _ _ _ (by omega) (fun j hj => q5 _ (by simp [Value.cells] at hj; omega)) (fun j _ => ho.frozenAt _)
      go_enter Tryz.func74, Tryz.ntmps74
      go_wp2_with (at_builtin; refine wpList_append_fits _ rfl (.tmp 32) (.tmp 33) 92 rfl B TRun i0 3 Tryz.underlying92 hi0 hz1 g i cap (xs.take (i * 3)) rfl HO.out ⟨gv, 0, none⟩ m c news rfl hl HN.out h1 hroom ?_; intro w1 hown1 hgrow1; have hcl := HC.out w1 hown1)
      go_ret
      have hz := owns_setCells (Builtin.zeroCells #[.int .i64 0, .int .i64 0, .bool false] (n - (i + m))).toList ((i + m) * 3) hown1 (Nat.le_refl _)
      refine ⟨_, _, rfl, hz.1, ?_, .inl rfl⟩
      exact ⟨hz.2.os.trans hgrow1.os, hz.2.tape.trans hgrow1.tape, hz.2.output.trans hgrow1.output, Nat.le_trans hgrow1.size hz.2.size, fun k hk hne => (hz.2.block k (Nat.lt_of_lt_of_le hk hgrow1.size) hne).trans (hgrow1.block k hk hne)⟩
    · have l1 : (n : Int) ≤ (i : Int) + (m : Int) := by omega
      go_enter Tryz.func74, Tryz.ntmps74
      go_wp2_with (at_builtin; refine wpList_append_fits _ rfl (.tmp 32) (.tmp 33) 92 rfl B TRun i0 3 Tryz.underlying92 hi0 hz1 g i cap (xs.take (i * 3)) rfl HO.out ⟨gv, 0, none⟩ m c news rfl hl HN.out h1 hroom ?_; intro w1 hown1 hgrow1)
      go_ret
      exact ⟨_, _, rfl, hown1, hgrow1, .inl rfl⟩
  · have l1 : (n : Int) ≤ (i : Int) + (m : Int) := by omega
    go_enter Tryz.func74, Tryz.ntmps74
    go_wp2_with (at_builtin; refine wpList_append_grows3 _ rfl (.tmp 32) (.tmp 33) 92 rfl B TRun i0 _ 3 24 Tryz.underlying92 hi0 hz0 hz1 hz2 rfl (by decide) g i cap (xs.take (i * 3)) rfl HO.out ⟨gv, 0, none⟩ m c news rfl hl HN.out (by omega) (by unfold maxLen; omega) (by omega) hB ?_; intro g' cap' w1 hown1 hgrow1 hnew)
    go_ret
    exact ⟨_, _, rfl, hown1, ⟨hgrow1.os, hgrow1.tape, hgrow1.output, hgrow1.size, fun k hk _ => hgrow1.block k hk (by simp)⟩, .inr ⟨g', rfl, hnew⟩⟩
end Go.Proofs.YtncajaihojhkkaaGreat.B
