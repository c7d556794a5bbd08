import Derived.Test.YthmonfmpgjbhmaaG15
import Derived.Deep.RegionLaw
import Derived.Lib.SliceRun
namespace Go.Proofs.Ythmonfmpgjbhmaa.K
open Go.RowKit Go.Maps Go.Proofs.Ythmonfmpgjbhmaa
attribute [local go_sem] Oper.semAt_some
set_option linter.unusedVariables false
set_option linter.unusedSimpArgs false
set_option maxRecDepth 100000

theorem infoFa : (Try.prog.info? TFa).map (fun i => (i.zero, i.size)) = some (some (.agg #[.int .i64 0, .int .i64 0, .int .i64 0, .int .i64 0, .bool false]), 5) := by kernel_rfl
def zf : List Value := [.int .i64 0, .int .i64 0, .int .i64 0, .int .i64 0, .bool false]
theorem blk_setCells {b : Nat} {T : TypeId} : ∀ (vs : List Value) (o : Nat) (w : World) (cur : Array Value), w.heap[b]? = some (.cells cur T (0, 0)) → o + vs.length ≤ cur.size → ∃ cur', (w.setCells b o vs).heap[b]? = some (.cells cur' T (0, 0)) ∧ cur'.toList = cur.toList.take o ++ vs ++ cur.toList.drop (o + vs.length) ∧ Kp w (w.setCells b o vs) [b]
  | [], o, w, cur, h, _ => ⟨cur, h, by simp, Kp.refl _ _⟩
  | v :: vs, o, w, cur, h, hl => by
    have h1 := blk_set h o v
    simp only [List.length_cons] at hl
    obtain ⟨cur', h2, h3, h4⟩ := blk_setCells vs (o + 1) (w.setCell ⟨b, o, none⟩ v) _ h1 (by simp; omega)
    refine ⟨cur', h2, ?_, ((Kp.refl w [b]).set (.inl (by simp)) o v).trans h4 (fun i hi => .inl hi)⟩
    rw [h3, Array.toList_setIfInBounds]
    have ho : o < cur.toList.length := by simp; omega
    rw [take_set ho, List.drop_set_of_lt (by omega)]
    simp [Nat.add_assoc, Nat.add_comm 1]
theorem run_clear_one (W : World) (ty : TypeId) (g o c : Nat) {cur : Array Value} {T : TypeId} (h : W.heap[g]? = some (.cells cur T (0, 0))) (hl : o + 5 ≤ cur.size) :
    (Builtin.clear_ #[TFas] ty #[.slice (some ⟨g, o, none⟩) 1 c]).run Try.prog W = .ok (.tuple #[]) (W.setCells g o zf) := by
  have hv := (zero_of_info infoFa).1
  have hzc : (Builtin.zeroCells (Value.agg #[.int .i64 0, .int .i64 0, .int .i64 0, .int .i64 0, .bool false]).cells 1).toList = zf := by
    simp [Builtin.zeroCells, Value.cells, zf]
    rfl
  have hst := run_storeCells_cells (P := Try.prog) g o zf 0 W (fun j hj => by
    have h5 : zf.length = 5 := rfl
    rw [cell_of h, Array.getElem?_eq_getElem (by omega)]; rfl) (fun j hj => frozen_of h) (by decide)
  simp only [Nat.add_zero] at hst
  simp [Builtin.clear_, run_underlying Try.underlying30, hv, hzc, hst]
set_option maxHeartbeats 2000000 in
theorem delete_one {w : World} {g cap n i : Nat} {xs : List Value} (h : w.ownsRow 0 TFa 5 (.slice (some ⟨g, 0, none⟩) n cap) n xs) (hi : i < n) (h1 : ∀ u ∈ xs, u.oneCell' = true) (hn : n ≤ 64) :
    Calls Try.prog 49 #[.slice (some ⟨g, 0, none⟩) n cap, .int .i64 i, .int .i64 (i + 1)] w fun r w' => r = .returned (.slice (some ⟨g, 0, none⟩) (n - 1) cap) ∧ w'.ownsRow 0 TFa 5 (.slice (some ⟨g, 0, none⟩) (n - 1) cap) (n - 1) (xs.take (i * 5) ++ xs.drop ((i + 1) * 5)) ∧ Kp w w' [g] := by
  have hlen := h.1
  obtain ⟨cur, hg, hnc, hcm, hcs, htake⟩ : ∃ cur, w.heap[g]? = some (.cells cur TFa (0, 0)) ∧ n ≤ cap ∧ cap ≤ maxLen ∧ cur.size = cap * 5 ∧ cur.toList.take (n * 5) = xs := by
    rcases h.2 with ⟨h0, _⟩ | ⟨g', cap', cur, hv, hbg, hg, hnc, hcm, hcs, htake⟩
    · cases h0
    · cases hv; exact ⟨cur, hg, hnc, hcm, hcs, htake⟩
  obtain ⟨i0, hi0, hz0, hz1⟩ : ∃ i0, Try.prog.info? TFa = some i0 ∧ i0.zero = some (.agg #[.int .i64 0, .int .i64 0, .int .i64 0, .int .i64 0, .bool false]) ∧ i0.size = 5 := by
    have h0 := infoFa
    cases hx : Try.prog.info? TFa with
    | none => rw [hx] at h0; cases h0
    | some i0 => rw [hx] at h0; simp at h0; exact ⟨i0, rfl, h0.1, h0.2⟩
  obtain ⟨news, hnews⟩ : ∃ news, news = xs.drop ((i + 1) * 5) := ⟨_, rfl⟩
  have hnl : news.length = (n - (i + 1)) * 5 := by rw [hnews, List.length_drop, hlen]; omega
  have hgw : w.drew.heap[g]? = some (.cells cur TFa (0, 0)) := hg
  obtain ⟨A, hA, hsrc⟩ : ∃ A : Addr, (if cap = i + 1 then some (⟨g, 0, none⟩ : Addr) else some ⟨g, (i + 1) * 5, none⟩) = some A ∧ Hid (∀ t u, news[t]? = some u → w.drew.cell? (A.add t) = some u) := by
    by_cases hc : cap = i + 1
    · refine ⟨⟨g, 0, none⟩, by simp [hc], fun t u hu => ?_⟩
      have h0 : news.length = 0 := by rw [hnl]; omega
      rw [List.length_eq_zero_iff.1 h0] at hu
      simp at hu
    · refine ⟨⟨g, (i + 1) * 5, none⟩, by simp [hc], fun t u hu => ?_⟩
      rw [hnews, List.getElem?_drop, ← htake, List.getElem?_take] at hu
      split at hu
      · rw [add_plain, cell_of hgw]; simpa using hu
      · cases hu
  have s1 : Hid (news.length = (n - (i + 1)) * 5) := hnl
  have s2 : Hid (∀ u ∈ news, u.oneCell' = true) := fun u hu => by rw [hnews] at hu; exact h1 u (List.mem_of_mem_drop hu)
  have s3 : Hid (∀ t, t < news.length → (w.drew.cell? ⟨g, 0 + i * 5 + t, none⟩).isSome = true ∧ w.drew.frozen? ⟨g, 0 + i * 5 + t, none⟩ = false) := fun t ht => by
    refine ⟨?_, frozen_of hgw⟩
    rw [cell_of hgw, Array.getElem?_eq_getElem (by omega)]; rfl
  obtain ⟨W1, hW1⟩ : ∃ W1, W1 = w.drew.setCells g (0 + i * 5) news := ⟨_, rfl⟩
  obtain ⟨cur1, hg1, hl1, hk1⟩ := blk_setCells news (0 + i * 5) w.drew cur hgw (by omega)
  rw [← hW1] at hg1 hk1
  have hsz1 : cur1.size = cap * 5 := by
    have := congrArg List.length hl1
    simp only [Array.length_toList, List.length_append, List.length_take, List.length_drop] at this
    omega
  obtain ⟨cur2, hg2, hl2, hk2⟩ := blk_setCells zf ((n - 1) * 5) W1 cur1 hg1 (by rw [hsz1, show zf.length = 5 from rfl]; omega)
  have hcl := fun ty => run_clear_one W1 ty g ((n - 1) * 5) (cap - (n - 1)) hg1 (by omega)
  have HFin : Hid ((W1.setCells g ((n - 1) * 5) zf).ownsRow 0 TFa 5 (.slice (some ⟨g, 0, none⟩) (n - 1) cap) (n - 1) (xs.take (i * 5) ++ news) ∧ Kp w (W1.setCells g ((n - 1) * 5) zf) [g]) := by
    have hk0 : Kp w w.drew [g] := ⟨rfl, rfl, rfl, Nat.le_refl _, fun _ _ _ => rfl⟩
    refine ⟨⟨?_, .inr ⟨g, cap, cur2, rfl, Nat.zero_le _, hg2, by omega, hcm, ?_, ?_⟩⟩, (hk0.trans hk1 (fun j hj => .inl hj)).trans hk2 (fun j hj => .inl hj)⟩
    · rw [List.length_append, List.length_take, hlen, hnl]; omega
    · have := congrArg List.length hl2
      simp only [Array.length_toList, List.length_append, List.length_take, List.length_drop, show zf.length = 5 from rfl] at this
      omega
    · have e1 : cur1.toList.take ((n - 1) * 5) = xs.take (i * 5) ++ news := by
        rw [hl1, List.take_append_of_le_length (by simp [hnl]; omega)]
        rw [List.take_of_length_le (by simp [hnl]; omega), Nat.zero_add, ← htake, List.take_take, Nat.min_eq_left (by omega)]
      rw [hl2, List.append_assoc, List.take_append_of_le_length (by simp; omega), List.take_take, Nat.min_self, e1]
  have hW : Hid (W1 = w.drew.setCells g (0 + i * 5) news) := hW1
  have HN : Hid (news = xs.drop ((i + 1) * 5)) := hnews
  have b1 : (i : Int) + 1 ≤ (n : Int) := by omega
  have b2 : (n : Int) ≤ (cap : Int) := by omega
  have b3 : ((i : Int) + 1).toNat = i + 1 := by omega
  have b4 : (0 : Int) ≤ (i : Int) + 1 := by omega
  have b5 : (i : Int) ≤ (i : Int) + 1 := by omega
  have b6 : ¬ ((i : Int) = (i : Int) + 1) := by omega
  have b8 : (i : Int) ≤ (cap : Int) := by omega
  have b9 : (i : Int) + 1 ≤ (cap : Int) := by omega
  have b10 : i + (n - (i + 1)) = n - 1 := by omega
  have b11 : n - (n - 1) = 1 := by omega
  have b13 : ¬ (cap = n - 1) := by omega
  have b14 : ((n - 1 : Nat) : Int) ≤ (cap : Int) := by omega
  have b12 : ((n - 1 : Nat) : Int) ≤ (n : Int) := by omega
  clear hg hgw hW1 hg1 hl1 hk1 hg2 hl2 hk2 hnews htake hcs hcm h hnl hlen hsz1
  go_enter Try.func49, Try.ntmps49
  go_wp2_with fail
  go_region_law (refine step_append_room rfl (.tmp 22) (.tmp 25) TFas rfl TFa i0 5 Try.underlying30 hi0 hz1 g 0 i cap (by simp [Act.eval, Act.put]) A (n - (i + 1)) (cap - (i + 1)) news (by simp [Act.eval, Act.put]) s1.out hsrc.out s2.out (by omega) s3.out ?_; rw [← hW.out])
  go_wp2
  go_ret
  have e := HFin.out
  rw [HN.out] at e
  exact ⟨rfl, e.1, e.2⟩
end Go.Proofs.Ythmonfmpgjbhmaa.K
