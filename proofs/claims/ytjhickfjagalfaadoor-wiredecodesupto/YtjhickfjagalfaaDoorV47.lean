import Derived.Test.YtjhickfjagalfaaDoorV46
import Derived.Test.YtjhickfjagalfaaDoorV43
import Derived.Test.YtjhickfjagalfaaDoorV45
namespace Go.Proofs.YtjhickfjagalfaaDoor
open Go.RowKit
set_option linter.unusedVariables false
set_option linter.unusedSimpArgs false
set_option maxRecDepth 100000

/-- a twin's bytes, with the marks in its spare room -/
def tw (l : List Nat) : List Nat := l ++ List.replicate 4 171
theorem tw_len (l : List Nat) : (tw l).length = l.length + 4 := by simp [tw]
theorem tw_lt {l : List Nat} (h : ∀ x ∈ l, x < 256) : ∀ x ∈ tw l, x < 256 := fun x hx => by
  rcases List.mem_append.1 hx with hx | hx
  · exact h x hx
  · rw [(List.mem_replicate.1 hx).2]; decide
set_option maxHeartbeats 4000000 in
theorem twin_any (ao : Option Addr) (cap n : Nat) (l : List Nat) (w : World) (h : BRow w ao cap l) (HN : Hid (l.length = n)) (hn : n ≤ 1099511627776) :
    Calls Tryd.prog 28 #[.slice ao n cap] w fun e w' => e = .returned (.slice (some ⟨w.heap.size, 0, none⟩) n (n + 4)) ∧ w'.heap[w.heap.size]? = some (.cells ((tw l).map bv).toArray 5 (0, 0)) ∧ Below w.heap.size w w' := by
  obtain ⟨i0, hi, hz0, hz1, hz2⟩ := info_parts Tryd.info5
  have HR : Hid (BRow w ao cap l) := h
  have hw4 : IntKind.i64.wrap ((n : Int) + 4) = ((n + 4 : Nat) : Int) := by rw [IntKind.wrap_i64]; omega
  have hc4 : ((n + 4 : Nat) : Int) = (n : Int) + 4 := by omega
  clear h
  obtain ⟨N, hN⟩ : ∃ N, N = n + 4 := ⟨_, rfl⟩
  go_enter Tryd.func28, Tryd.ntmps28
  go_wp2_with (at_make; refine wpList_make_full _ rfl _ _ 37 rfl w.heap.size 5 i0 (.int .u8 0) 1 Tryd.underlying37 hi hz0 hz1 .i64 .i64 ((n : Int) + 4) ((n : Int) + 4) (n + 4) rfl rfl (by omega) (by omega) (by rw [hz2]; omega) (by unfold maxLen; omega) (Nat.le_refl _) ?_; intro w1 hown1 hgrow1)
  have HB1 : Hid (Below w.heap.size w w1) := (Below.refl w.heap.size w).grown hgrow1 (Nat.le_refl _) (by simp)
  have HO1 : Hid (w1.ownsRow w.heap.size 5 1 (.slice (some ⟨w.heap.size, 0, none⟩) (n + 4) (n + 4)) (n + 4) ((List.replicate (n + 4) 0).map bv)) := by rw [← made_zeros]; exact hown1
  clear hown1 hgrow1 hN N
  go_wp2
  go_loopw [4] (fun i wr => ∃ k : Nat, k ≤ n + 4 ∧ i = .int .i64 (k : Int) ∧ ∃ C : List Nat, Hid (C.length = n + 4 ∧ wr.ownsRow w.heap.size 5 1 (.slice (some ⟨w.heap.size, 0, none⟩) (n + 4) (n + 4)) (n + 4) (C.map bv) ∧ (∀ j, j < k → C[j]? = (tw l)[j]?) ∧ Below w.heap.size w wr)) (fun i _ => n + 4 - (intOf i).toNat)
  case atStart => exact ⟨0, Nat.zero_le _, rfl, List.replicate (n + 4) 0, by simp, HO1.out, fun j hj => by omega, HB1.out⟩
  case round =>
    obtain ⟨k, hk, rfl, C, HCC⟩ := hrel
    by_cases hlt : k < n + 4
    · have hC := HCC.out.1
      have ho := HCC.out.2.1
      have hkz : (k : Int) < (n : Int) + 4 := by omega
      have hkz2 : (k : Int) < ((n + 4 : Nat) : Int) := by omega
      have hc0 : wr.cell? ⟨w.heap.size, k, none⟩ = some (.int .u8 ((C[k]?.getD 0 : Nat) : Int)) := by
        rw [ho.cellAt k (by omega)]; simp [bv, hC, hlt]
      have hf0 := ho.frozenAt k
      obtain ⟨hs1, hg1⟩ := ho.stored k (bv 171)
      have hc1 : (wr.setCell ⟨w.heap.size, k, none⟩ (.int .u8 171)).cell? ⟨w.heap.size, k, none⟩ = some (.int .u8 171) := by
        have := hs1.cellAt k (by omega)
        rw [show (Value.int .u8 171) = bv 171 from rfl, this]; simp [hC, hlt]
      have hf1 : (wr.setCell ⟨w.heap.size, k, none⟩ (.int .u8 171)).frozen? ⟨w.heap.size, k, none⟩ = false := hs1.frozenAt k
      have hb1 : Below w.heap.size w (wr.setCell ⟨w.heap.size, k, none⟩ (.int .u8 171)) := HCC.out.2.2.2.grown hg1 HCC.out.2.2.2.size (fun g hg => by simp at hg; omega)
      have hs1' : (wr.setCell ⟨w.heap.size, k, none⟩ (.int .u8 171)).ownsRow w.heap.size 5 1 (.slice (some ⟨w.heap.size, 0, none⟩) (n + 4) (n + 4)) (n + 4) ((C.set k 171).map bv) := by rw [List.map_set]; exact hs1
      by_cases hkn : k < n
      · obtain ⟨b, off, rfl, hrow⟩ := HR.out.at_ (by rintro rfl; have := HN.out; simp at this; omega)
        have hx := hrow k (by rw [HN.out]; exact hkn)
        have hxw : (wr.setCell ⟨w.heap.size, k, none⟩ (.int .u8 171)).cell? ⟨b, off + k, none⟩ = some (.int .u8 ((l[k]?.getD 0 : Nat) : Int)) := by
          rw [cell_later hb1 hx]; simp [bv, show k < l.length by rw [HN.out]; exact hkn]
        have hkn2 : (k : Int) < (n : Int) := by omega
        obtain ⟨hs2, hg2⟩ := hs1'.stored k (bv (l[k]?.getD 0))
        have H2 : Hid ((C.set k (l[k]?.getD 0)).length = n + 4 ∧ ((wr.setCell ⟨w.heap.size, k, none⟩ (.int .u8 171)).setCell ⟨w.heap.size, k, none⟩ (.int .u8 ((l[k]?.getD 0 : Nat) : Int))).ownsRow w.heap.size 5 1 (.slice (some ⟨w.heap.size, 0, none⟩) (n + 4) (n + 4)) (n + 4) ((C.set k (l[k]?.getD 0)).map bv) ∧ (∀ j, j < k + 1 → (C.set k (l[k]?.getD 0))[j]? = (tw l)[j]?) ∧ Below w.heap.size w ((wr.setCell ⟨w.heap.size, k, none⟩ (.int .u8 171)).setCell ⟨w.heap.size, k, none⟩ (.int .u8 ((l[k]?.getD 0 : Nat) : Int)))) := by
          refine ⟨by simp [hC], ?_, fun j hj => ?_, hb1.grown hg2 hb1.size (fun g hg => by simp at hg; omega)⟩
          · have := hs2
            rw [← List.map_set, List.set_set] at this
            exact this
          · by_cases e : j = k
            · subst e
              rw [List.getElem?_set_self (by omega), tw, List.getElem?_append_left (by rw [HN.out]; exact hkn)]
              simp [show j < l.length by rw [HN.out]; exact hkn]
            · rw [List.getElem?_set_ne (by omega)]
              exact HCC.out.2.2.1 j (by omega)
        clear hs1 hg1 hb1 hs1' hs2 hg2 hrow hx ho HCC
        generalize l[k]?.getD 0 = x at *
        go_wp2
        go_roundw
        case rel => exact ⟨k + 1, by omega, by go_num, _, H2⟩
        case measure => simp [intOf]; omega
      · have hkn2 : ¬ ((k : Int) < (n : Int)) := by omega
        have hkn3 : decide ((k : Int) < (n : Int)) = false := by simp; omega
        have H2 : Hid ((C.set k 171).length = n + 4 ∧ (wr.setCell ⟨w.heap.size, k, none⟩ (.int .u8 171)).ownsRow w.heap.size 5 1 (.slice (some ⟨w.heap.size, 0, none⟩) (n + 4) (n + 4)) (n + 4) ((C.set k 171).map bv) ∧ (∀ j, j < k + 1 → (C.set k 171)[j]? = (tw l)[j]?) ∧ Below w.heap.size w (wr.setCell ⟨w.heap.size, k, none⟩ (.int .u8 171))) := by
          refine ⟨by simp [hC], hs1', fun j hj => ?_, hb1⟩
          by_cases e : j = k
          · subst e
            have hl := HN.out
            rw [List.getElem?_set_self (by omega), tw, List.getElem?_append_right (by omega), List.getElem?_replicate, if_pos (by omega)]
          · rw [List.getElem?_set_ne (by omega)]
            exact HCC.out.2.2.1 j (by omega)
        clear hs1 hg1 hb1 hs1' ho HCC
        go_wp2
        go_roundw
        case rel => exact ⟨k + 1, by omega, by go_num, _, H2⟩
        case measure => simp [intOf]; omega
    · obtain rfl : k = n + 4 := by omega
      have HF : Hid (wr.heap[w.heap.size]? = some (.cells ((tw l).map bv).toArray 5 (0, 0)) ∧ Below w.heap.size w wr) := by
        obtain ⟨hC, ho, hj, hb⟩ := HCC.out
        have e : C = tw l := by
          apply List.ext_getElem?
          intro j
          by_cases h : j < n + 4
          · exact hj j h
          · rw [List.getElem?_eq_none (by omega), List.getElem?_eq_none (by rw [tw_len, HN.out]; omega)]
        subst e
        exact ⟨own_block ho (by rw [List.length_map]; exact hC), hb⟩
      clear HCC
      have hd : ¬ (((n + 4 : Nat) : Int) < (n : Int) + 4) := by omega
      go_wp2
      go_ret
      exact ⟨rfl, HF.out.1, HF.out.2⟩
end Go.Proofs.YtjhickfjagalfaaDoor
