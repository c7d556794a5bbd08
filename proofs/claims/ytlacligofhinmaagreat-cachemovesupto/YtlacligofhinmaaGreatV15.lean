import Derived.Test.YtlacligofhinmaaGreatV14
import Derived.Deep.RegionLaw
import Derived.Lib.SliceRun
namespace Go.Proofs.YtlacligofhinmaaGreat.K
open Go.RowKit Go.Maps Go.Proofs.YtlacligofhinmaaGreat
attribute [local go_sem] Oper.semAt_some
set_option linter.unusedVariables false
set_option linter.unusedSimpArgs false
set_option maxRecDepth 100000

theorem infoFa : (Tryz.prog.info? TFa).map (fun i => (i.zero, i.size)) = some (some (.agg #[.int .i64 0, .int .i64 0, .int .i64 0, .int .i64 0, .bool false]), 5) := by kernel_rfl
def zf : List Value := [.int .i64 0, .int .i64 0, .int .i64 0, .int .i64 0, .bool false]
theorem blk_setCells {b : Nat} {T : TypeId} : ∀ (vs : List Value) (o : Nat) (w : World) (cur : Array Value), w.heap[b]? = some (.cells cur T (0, 0)) → o + vs.length ≤ cur.size → ∃ cur', (w.setCells b o vs).heap[b]? = some (.cells cur' T (0, 0)) ∧ cur'.toList = cur.toList.take o ++ vs ++ cur.toList.drop (o + vs.length) ∧ Kp w (w.setCells b o vs) [b]
  | [], o, w, cur, h, _ => ⟨cur, h, by simp, Kp.refl _ _⟩
  | v :: vs, o, w, cur, h, hl => by
    have h1 := blk_set h o v
    simp only [List.length_cons] at hl
    obtain ⟨cur', h2, h3, h4⟩ := blk_setCells vs (o + 1) (w.setCell ⟨b, o, none⟩ v) _ h1 (by simp; omega)
    refine ⟨cur', h2, ?_, ((Kp.refl w [b]).set (.inl (by simp)) o v).trans h4 (fun i hi => .inl hi)⟩
    rw [h3, Array.toList_setIfInBounds]
    have ho : o < cur.toList.length := by simp; omega
    rw [take_set ho, List.drop_set_of_lt (by omega)]
    simp [Nat.add_assoc, Nat.add_comm 1]
theorem run_clear_one (W : World) (ty : TypeId) (g o c : Nat) {cur : Array Value} {T : TypeId} (h : W.heap[g]? = some (.cells cur T (0, 0))) (hl : o + 5 ≤ cur.size) :
    (Builtin.clear_ #[TFas] ty #[.slice (some ⟨g, o, none⟩) 1 c]).run Tryz.prog W = .ok (.tuple #[]) (W.setCells g o zf) := by
  have hv := (zero_of_info infoFa).1
  have hzc : (Builtin.zeroCells (Value.agg #[.int .i64 0, .int .i64 0, .int .i64 0, .int .i64 0, .bool false]).cells 1).toList = zf := by
    simp [Builtin.zeroCells, Value.cells, zf]
    rfl
  have hst := run_storeCells_cells (P := Tryz.prog) g o zf 0 W (fun j hj => by
    have h5 : zf.length = 5 := rfl
    rw [cell_of h, Array.getElem?_eq_getElem (by omega)]; rfl) (fun j hj => frozen_of h) (by decide)
  simp only [Nat.add_zero] at hst
  simp [Builtin.clear_, run_underlying Tryz.underlying123, hv, hzc, hst]
set_option maxHeartbeats 2000000 in
theorem delete_one {w : World} {g cap n i : Nat} {xs : List Value} (h : w.ownsRow 0 TFa 5 (.slice (some ⟨g, 0, none⟩) n cap) n xs) (hi : i < n) (h1 : ∀ u ∈ xs, u.oneCell' = true) (hn : n ≤ 64) :
    Calls Tryz.prog 126 #[.slice (some ⟨g, 0, none⟩) n cap, .int .i64 i, .int .i64 (i + 1)] w fun r w' => r = .returned (.slice (some ⟨g, 0, none⟩) (n - 1) cap) ∧ w'.ownsRow 0 TFa 5 (.slice (some ⟨g, 0, none⟩) (n - 1) cap) (n - 1) (xs.take (i * 5) ++ xs.drop ((i + 1) * 5)) ∧ Kp w w' [g] := by
  have hlen := h.1
  obtain ⟨cur, hg, hnc, hcm, hcs, htake⟩ : ∃ cur, w.heap[g]? = some (.cells cur TFa (0, 0)) ∧ n ≤ cap ∧ cap ≤ maxLen ∧ cur.size = cap * 5 ∧ cur.toList.take (n * 5) = xs := by
    rcases h.2 with ⟨h0, _⟩ | ⟨g', cap', cur, hv, hbg, hg, hnc, hcm, hcs, htake⟩
    · cases h0
    · cases hv; exact ⟨cur, hg, hnc, hcm, hcs, htake⟩
  obtain ⟨i0, hi0, hz0, hz1⟩ : ∃ i0, Tryz.prog.info? TFa = some i0 ∧ i0.zero = some (.agg #[.int .i64 0, .int .i64 0, .int .i64 0, .int .i64 0, .bool false]) ∧ i0.size = 5 := by
    have h0 := infoFa
    cases hx : Tryz.prog.info? TFa with
    | none => rw [hx] at h0; cases h0
    | some i0 => rw [hx] at h0; simp at h0; exact ⟨i0, rfl, h0.1, h0.2⟩
  obtain ⟨news, hnews⟩ : ∃ news, news = xs.drop ((i + 1) * 5) := ⟨_, rfl⟩
  have hnl : news.length = (n - (i + 1)) * 5 := by rw [hnews, List.length_drop, hlen]; omega
  have hgw : w.drew.heap[g]? = some (.cells cur TFa (0, 0)) := hg
  obtain ⟨A, hA, hsrc⟩ : ∃ A : Addr, (if cap = i + 1 then some (⟨g, 0, none⟩ : Addr) else some ⟨g, (i + 1) * 5, none⟩) = some A ∧ Hid (∀ t u, news[t]? = some u → w.drew.cell? (A.add t) = some u) := by
    by_cases hc : cap = i + 1
    · refine ⟨⟨g, 0, none⟩, by simp [hc], fun t u hu => ?_⟩
      have h0 : news.length = 0 := by rw [hnl]; omega
      rw [List.length_eq_zero_iff.1 h0] at hu
      simp at hu
    · refine ⟨⟨g, (i + 1) * 5, none⟩, by simp [hc], fun t u hu => ?_⟩
      rw [hnews, List.getElem?_drop, ← htake, List.getElem?_take] at hu
      split at hu
      · rw [add_plain, cell_of hgw]; simpa using hu
      · cases hu
  have s1 : Hid (news.length = (n - (i + 1)) * 5) := hnl
  have s2 : Hid (∀ u ∈ news, u.oneCell' = true) := fun u hu => by rw [hnews] at hu; exact h1 u (List.mem_of_mem_drop hu)
  have s3 : Hid (∀ t, t < news.length → (w.drew.cell? ⟨g, 0 + i * 5 + t, none⟩).isSome = true ∧ w.drew.frozen? ⟨g, 0 + i * 5 + t, none⟩ = false) := fun t ht => by
    refine ⟨?_, frozen_of hgw⟩
    rw [cell_of hgw, Array.getElem?_eq_getElem (by omega)]; rfl
  obtain ⟨W1, hW1⟩ : ∃ W1, W1 = w.drew.setCells g (0 + i * 5) news := ⟨_, rfl⟩
  obtain ⟨cur1, hg1, hl1, hk1⟩ := blk_setCells news (0 + i * 5) w.drew cur hgw (by omega)
  rw [← hW1] at hg1 hk1
  have hsz1 : cur1.size = cap * 5 := by
    have := congrArg List.length hl1
    simp only [Array.length_toList, List.length_append, List.length_take, List.length_drop] at this
    omega
  obtain ⟨cur2, hg2, hl2, hk2⟩ := blk_setCells zf ((n - 1) * 5) W1 cur1 hg1 (by rw [hsz1, show zf.length = 5 from rfl]; omega)
  have hcl := fun ty => run_clear_one W1 ty g ((n - 1) * 5) (cap - (n - 1)) hg1 (by omega)
  have HFin : Hid ((W1.setCells g ((n - 1) * 5) zf).ownsRow 0 TFa 5 (.slice (some ⟨g, 0, none⟩) (n - 1) cap) (n - 1) (xs.take (i * 5) ++ news) ∧ Kp w (W1.setCells g ((n - 1) * 5) zf) [g]) := by
    have hk0 : Kp w w.drew [g] := ⟨rfl, rfl, rfl, Nat.le_refl _, fun _ _ _ => rfl⟩
    refine ⟨⟨?_, .inr ⟨g, cap, cur2, rfl, Nat.zero_le _, hg2, by omega, hcm, ?_, ?_⟩⟩, (hk0.trans hk1 (fun j hj => .inl hj)).trans hk2 (fun j hj => .inl hj)⟩
    · rw [List.length_append, List.length_take, hlen, hnl]; omega
    · have := congrArg List.length hl2
      simp only [Array.length_toList, List.length_append, List.length_take, List.length_drop, show zf.length = 5 from rfl] at this
      omega
    · have e1 : cur1.toList.take ((n - 1) * 5) = xs.take (i * 5) ++ news := by
        rw [hl1, List.take_append_of_le_length (by simp [hnl]; omega)]
        rw [List.take_of_length_le (by simp [hnl]; omega), Nat.zero_add, ← htake, List.take_take, Nat.min_eq_left (by omega)]
      rw [hl2, List.append_assoc, List.take_append_of_le_length (by simp; omega), List.take_take, Nat.min_self, e1]
  have hW : Hid (W1 = w.drew.setCells g (0 + i * 5) news) := hW1
  have HN : Hid (news = xs.drop ((i + 1) * 5)) := hnews
  have b1 : (i : Int) + 1 ≤ (n : Int) := by omega
  have b2 : (n : Int) ≤ (cap : Int) := by omega
  have b3 : ((i : Int) + 1).toNat = i + 1 := by omega
  have b4 : (0 : Int) ≤ (i : Int) + 1 := by omega
  have b5 : (i : Int) ≤ (i : Int) + 1 := by omega
  have b6 : ¬ ((i : Int) = (i : Int) + 1) := by omega
  have b8 : (i : Int) ≤ (cap : Int) := by omega
  have b9 : (i : Int) + 1 ≤ (cap : Int) := by omega
  have b10 : i + (n - (i + 1)) = n - 1 := by omega
  have b11 : n - (n - 1) = 1 := by omega
  have b13 : ¬ (cap = n - 1) := by omega
  have b14 : ((n - 1 : Nat) : Int) ≤ (cap : Int) := by omega
  have b12 : ((n - 1 : Nat) : Int) ≤ (n : Int) := by omega
  clear hg hgw hW1 hg1 hl1 hk1 hg2 hl2 hk2 hnews htake hcs hcm h hnl hlen hsz1
  go_enter Tryz.func126, Tryz.ntmps126
  go_wp2_with fail
  go_region_law (refine step_append_room rfl (.tmp 22) (.tmp 25) TFas rfl TFa i0 5 Tryz.underlying123 hi0 hz1 g 0 i cap (by simp [Act.eval, Act.put]) A (n - (i + 1)) (cap - (i + 1)) news (by simp [Act.eval, Act.put]) s1.out hsrc.out s2.out (by omega) s3.out ?_; rw [← hW.out])
  go_wp2
  go_ret
  have e := HFin.out
  rw [HN.out] at e
  exact ⟨rfl, e.1, e.2⟩
end Go.Proofs.YtlacligofhinmaaGreat.K

namespace Go.Proofs.YtlacligofhinmaaGreat.K
open Go.RowKit Go.Maps Go.Proofs.YtlacligofhinmaaGreat
attribute [local go_sem] Oper.semAt_some
set_option linter.unusedVariables false
set_option linter.unusedSimpArgs false
set_option maxRecDepth 100000

/-- an armed fault's numbers -/
structure FOk (f : Flt) : Prop where
  a0 : 0 ≤ f.after
  a1 : f.after ≤ 9223372036854775807
  t0 : 1 ≤ f.times
  t1 : f.times ≤ 9223372036854775807
/-- a fault that is passed by -/
def passed (k s : Int) (f : Flt) : Flt := if touch f k s = true then { f with after := f.after - 1 } else f
theorem failL_split (k s : Int) : ∀ (A B : List Flt), (∀ f ∈ A, touch f k s = true → 0 < f.after) → failL k s (A ++ B) = (A.map (passed k s) ++ (failL k s B).1, (failL k s B).2)
  | [], B, _ => by simp
  | f :: A, B, h => by
    have ih := failL_split k s A B (fun x hx => h x (List.mem_cons_of_mem _ hx))
    rw [List.cons_append, failL, ih]
    by_cases ht : touch f k s = true
    · rw [if_neg (by rw [ht]; simp), if_pos (h f (by simp) ht)]
      simp [passed, ht]
    · have ht' : touch f k s = false := by simpa using ht
      rw [if_pos ht']
      simp [passed, ht']
theorem passed_ok {k s : Int} {f : Flt} (h : FOk f) (ha : touch f k s = true → 0 < f.after) : FOk (passed k s f) := by
  unfold passed
  split
  · rename_i ht
    have := ha ht
    exact ⟨by show 0 ≤ f.after - 1; omega, by show f.after - 1 ≤ _; have := h.a1; omega, h.t0, h.t1⟩
  · exact h
theorem failL_ok (k s : Int) : ∀ {l : List Flt}, (∀ f ∈ l, FOk f) → ∀ f ∈ (failL k s l).1, FOk f
  | [], _ => by simp [failL]
  | f :: l, h => by
    have hf := h f (by simp)
    have ih := failL_ok k s (l := l) (fun x hx => h x (List.mem_cons_of_mem _ hx))
    unfold failL
    split
    · intro x hx
      simp at hx
      rcases hx with rfl | hx
      · exact hf
      · exact ih x hx
    · split
      · rename_i h1 h2
        intro x hx
        simp at hx
        rcases hx with rfl | hx
        · exact ⟨by show 0 ≤ f.after - 1; omega, by show f.after - 1 ≤ _; have := hf.a1; omega, hf.t0, hf.t1⟩
        · exact ih x hx
      · split
        · exact fun x hx => h x (List.mem_cons_of_mem _ hx)
        · rename_i h1 h2 h3
          intro x hx
          simp at hx
          rcases hx with rfl | hx
          · exact ⟨hf.a0, hf.a1, by show 1 ≤ f.times - 1; have := hf.t0; omega, by show f.times - 1 ≤ _; have := hf.t1; omega⟩
          · exact h x (List.mem_cons_of_mem _ hx)
theorem failL_len (k s : Int) : ∀ (l : List Flt), (failL k s l).1.length ≤ l.length
  | [] => by simp [failL]
  | f :: l => by
    have ih := failL_len k s l
    unfold failL
    split
    · simpa using ih
    · split
      · simpa using ih
      · split
        · simp
        · simp
theorem fcells_len (l : List Flt) : (fcells l).length = l.length * 5 := by
  induction l with
  | nil => rfl
  | cons f l ih => simp only [fcells, List.flatMap_cons, List.length_append] at ih ⊢; rw [ih]; simp [fcell]; omega
theorem fcells_append (a b : List Flt) : fcells (a ++ b) = fcells a ++ fcells b := by simp [fcells]
theorem fcells_one (l : List Flt) : ∀ u ∈ fcells l, u.oneCell' = true := fun u hu => by
  obtain ⟨f, _, hf⟩ := List.mem_flatMap.1 hu
  simp [fcell] at hf
  rcases hf with rfl | rfl | rfl | rfl | rfl <;> rfl
/-- the faults have changed -/
theorem RK.faulted {w w' : World} {lk : Int} {b ms ml : Nat} {qv : Value} {g n cap : Nat} {S : Dk} (h : RK w lk b ms ml qv (.slice (some ⟨g, 0, none⟩) n cap) S) {fs : List Flt} (hf : w'.ownsRow 0 TFa 5 (.slice (some ⟨g, 0, none⟩) n cap) fs.length (fcells fs)) (hk : Kp w w' [g]) :
    DAct w w' lk b ms ml ms ml qv (.slice (some ⟨g, 0, none⟩) n cap) qv (.slice (some ⟨g, 0, none⟩) n cap) { S with fs := fs } := by
  obtain ⟨a1, a2, a3, a4, a5, a6, a7, a8, a9⟩ := h.apart
  have hne : ∀ i, i ∈ [b, ms, ml] ∨ qv.ownBlock = some i → i ∉ [g] := fun i hi hm => by
    simp at hm
    subst hm
    rcases hi with hi | hi
    · simp at hi
      rcases hi with rfl | rfl | rfl
      · exact a4 rfl
      · exact a7 rfl
      · exact a8 rfl
    · exact a9 i hi rfl
  have hlt := h.lt
  obtain ⟨D, h1, h2⟩ := h.sm
  obtain ⟨D', h4, h5⟩ := h.lm
  refine ⟨⟨(hk.block b (hlt b (by simp [fp])) (hne b (.inl (by simp)))).trans h.blk, h.n0, h.n1, ⟨D, ownsMap_block h1 (hk.block ms (hlt ms (by simp [fp])) (hne ms (.inl (by simp)))), h2⟩, ⟨D', ownsMap_block h4 (hk.block ml (hlt ml (by simp [fp])) (hne ml (.inl (by simp)))), h5⟩, ownsRow_block h.qr (fun x hx => hk.block x (hlt x (by simp [fp, hx])) (hne x (.inr hx))), hf, h.ne, h.qok⟩, hk.sub (fun i hi => .inl (by simp at hi; subst hi; simp [fp, Value.ownBlock])), fun i hi => .inl hi⟩
end Go.Proofs.YtlacligofhinmaaGreat.K

namespace Go.Proofs.YtlacligofhinmaaGreat.K
open Go.RowKit Go.Maps Go.Proofs.YtlacligofhinmaaGreat
set_option linter.unusedVariables false
set_option linter.unusedSimpArgs false
set_option maxRecDepth 100000

theorem row_set {W : World} {g T size n cap : Nat} {xs : List Value} {j : Nat} (v : Value) (h : W.ownsRow 0 T size (.slice (some ⟨g, 0, none⟩) n cap) n xs) (hj : j < xs.length) : (W.setCell ⟨g, j, none⟩ v).ownsRow 0 T size (.slice (some ⟨g, 0, none⟩) n cap) n (xs.set j v) := by
  refine ⟨by rw [List.length_set]; exact h.1, ?_⟩
  rcases h.2 with ⟨h0, _⟩ | ⟨g', cap', cur, hv, hbg, hg, hnc, hcm, hcs, htake⟩
  · cases h0
  · cases hv
    refine .inr ⟨g, cap, _, rfl, hbg, blk_set hg j v, hnc, hcm, by simpa using hcs, ?_⟩
    rw [Array.toList_setIfInBounds, List.take_set, htake]
theorem fcells_mid (A B : List Flt) (f : Flt) (j : Nat) (hj : j < 5) : (fcells (A ++ f :: B))[A.length * 5 + j]? = (fcell f)[j]? := by
  rw [fcells_append, List.getElem?_append_right (by rw [fcells_len]; omega), fcells_len, Nat.add_sub_cancel_left]
  show (fcell f ++ fcells B)[j]? = _
  rw [List.getElem?_append_left (by simp [fcell]; omega)]
theorem fcells_set (A B : List Flt) (f f' : Flt) (j : Nat) (v : Value) (hj : j < 5) (hf : (fcell f).set j v = fcell f') : (fcells (A ++ f :: B)).set (A.length * 5 + j) v = fcells (A ++ f' :: B) := by
  rw [fcells_append, fcells_append, List.set_append_right _ _ (by rw [fcells_len]; omega), fcells_len, Nat.add_sub_cancel_left]
  show fcells A ++ (fcell f ++ fcells B).set j v = fcells A ++ (fcell f' ++ fcells B)
  rw [List.set_append_left _ _ (by simp [fcell]; omega), hf]
/-- a fault's cells -/
theorem frow_cells {W : World} {g n cap : Nat} {A B : List Flt} {f : Flt} (h : W.ownsRow 0 TFa 5 (.slice (some ⟨g, 0, none⟩) n cap) n (fcells (A ++ f :: B))) : ∀ j, j < 5 → W.cell? ⟨g, A.length * 5 + j, none⟩ = (fcell f)[j]? ∧ W.frozen? ⟨g, A.length * 5 + j, none⟩ = false := fun j hj => by
  rcases h.2 with ⟨h0, _⟩ | ⟨g', cap', cur, hv, hbg, hg, hnc, hcm, hcs, htake⟩
  · cases h0
  · cases hv
    refine ⟨?_, frozen_of hg⟩
    have h1 := fcells_mid A B f j hj
    have h2 : (fcell f)[j]? ≠ none := by
      intro e
      rw [List.getElem?_eq_none_iff] at e
      simp [fcell] at e
      omega
    rw [← htake, List.getElem?_take] at h1
    split at h1
    · rw [cell_of hg, ← h1]; simp
    · exact absurd h1.symm h2
theorem frow_after {W : World} {g n cap : Nat} {A B : List Flt} {f : Flt} (h : W.ownsRow 0 TFa 5 (.slice (some ⟨g, 0, none⟩) n cap) n (fcells (A ++ f :: B))) (z : Int) : (W.setCell ⟨g, A.length * 5 + 2, none⟩ (.int .i64 z)).ownsRow 0 TFa 5 (.slice (some ⟨g, 0, none⟩) n cap) n (fcells (A ++ { f with after := z } :: B)) := by
  have h1 := row_set (j := A.length * 5 + 2) (.int .i64 z) h (by rw [fcells_len]; simp; omega)
  rw [fcells_set A B f { f with after := z } 2 _ (by decide) rfl] at h1
  exact h1
theorem frow_times {W : World} {g n cap : Nat} {A B : List Flt} {f : Flt} (h : W.ownsRow 0 TFa 5 (.slice (some ⟨g, 0, none⟩) n cap) n (fcells (A ++ f :: B))) (z : Int) : (W.setCell ⟨g, A.length * 5 + 3, none⟩ (.int .i64 z)).ownsRow 0 TFa 5 (.slice (some ⟨g, 0, none⟩) n cap) n (fcells (A ++ { f with times := z } :: B)) := by
  have h1 := row_set (j := A.length * 5 + 3) (.int .i64 z) h (by rw [fcells_len]; simp; omega)
  rw [fcells_set A B f { f with times := z } 3 _ (by decide) rfl] at h1
  exact h1
theorem fcells_del (A B : List Flt) (f : Flt) : (fcells (A ++ f :: B)).take (A.length * 5) ++ (fcells (A ++ f :: B)).drop ((A.length + 1) * 5) = fcells (A ++ B) := by
  have e1 : fcells (A ++ f :: B) = fcells A ++ (fcell f ++ fcells B) := by rw [fcells_append]; rfl
  have hl := fcells_len A
  rw [e1, fcells_append]
  congr 1
  · rw [← hl, List.take_left]
  · rw [show (A.length + 1) * 5 = (fcells A).length + (fcell f).length by rw [hl]; simp [fcell]; omega, ← List.drop_drop, List.drop_left, List.drop_left]
end Go.Proofs.YtlacligofhinmaaGreat.K
