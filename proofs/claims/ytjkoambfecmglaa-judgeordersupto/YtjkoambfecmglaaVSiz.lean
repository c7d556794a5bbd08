import Derived.Test.YtjkoambfecmglaaVShz
namespace Go.Proofs.Ytjkoambfecmglaa
open Go.RowKit Go.Maps
set_option linter.unusedVariables false
set_option linter.unusedSimpArgs false
set_option maxRecDepth 100000
theorem run_ints (w : World) {n : Nat} (hn : n ≤ 1099511627776) : (Instr.makeSlice 24 (.int .i64 (n : Int)) (.int .i64 (n : Int))).run Try.prog w = .ok (.slice (some ⟨w.heap.size, 0, none⟩) n n) (w.alloc (.cells (Array.replicate n (Value.int .i64 0)) 3)) := by
  obtain ⟨i0, hi, hz0, hz1, hz2⟩ := info_parts Try.info3
  have h1 := run_make (P := Try.prog) w 24 3 i0 (.int .i64 0) Try.underlying24 hi hz0 .i64 .i64 (n : Int) (n : Int) (by omega) (Int.le_refl _) (by rw [hz2]; omega) (by omega)
  rw [Int.toNat_natCast, hz1] at h1
  rw [h1]
  congr 3
  apply Array.ext_getElem?
  intro k
  rcases Nat.lt_or_ge k n with hk | hk
  · simp [madeCells, Value.cells, hk, Nat.mod_one]
  · rw [Array.getElem?_eq_none (by simp [madeCells]; omega), Array.getElem?_eq_none (by simp; omega)]
set_option maxHeartbeats 8000000 in
/-- the way down, as an order -/
theorem way_any {W : World} {B Q m oc A gh hc gv vc n r N : Nat} {oa : Option Addr} {ah : List Nat} {L : List Lv} {M : DataW Unit} (h : Sm W B Q oa m oc A gh hc ah gv vc n L r N M) (hm : m ≤ 10) (ks : List Nat) (d : Nat) (hd : ks.length = d) (hdm : d ≤ m) (hx : ∀ (j k : Nat), ks[j]? = some k → ∃ v : Lv, L[j]? = some v ∧ v.x = k + 1) (hk : ∀ k ∈ ks, k < m) :
    Calls Try.prog 57 #[.pointer (some ⟨Q, 0, none⟩), .int .i64 (d : Int)] W fun e w' => ∃ za zc, e = .returned (.slice za d zc) ∧ w'.ownsRow W.heap.size 3 1 (.slice za d zc) d (ks.map iv) ∧ Below W.heap.size W w' := by
  have HM : Hid (∀ k ∈ ks, k < m) := hk
  have HX : Hid (∀ (j k : Nat), ks[j]? = some k → ∃ v : Lv, L[j]? = some v ∧ v.x = k + 1) := hx
  have HD : Hid (ks.length = d) := hd
  have HS : Hid (Sm W B Q oa m oc A gh hc ah gv vc n L r N M) := h
  have hmk := run_ints W (n := d) (by omega)
  have HB0 : Hid (Below W.heap.size W (W.alloc (.cells (Array.replicate d (Value.int .i64 0)) 3))) := (Below.refl _ W).alloc (Nat.le_refl _) _
  have HO0 : Hid ((W.alloc (.cells (Array.replicate d (Value.int .i64 0)) 3)).ownsRow W.heap.size 3 1 (.slice (some ⟨W.heap.size, 0, none⟩) d d) d ((ks.take 0 ++ List.replicate (d - 0) 0).map iv)) :=
    ⟨by simp, .inr ⟨W.heap.size, d, _, rfl, Nat.le_refl _, heap_new _ _, Nat.le_refl _, by unfold maxLen; omega, by simp, by simp [iv]⟩⟩
  clear h hd hx hk
  go_enter Try.func57, Try.ntmps57
  go_wp2_with fail
  go_loopw [11] (fun xv wr => ∃ i : Nat, i ≤ d ∧ xv = .int .i64 (i : Int) ∧ Hid (wr.ownsRow W.heap.size 3 1 (.slice (some ⟨W.heap.size, 0, none⟩) d d) d ((ks.take i ++ List.replicate (d - i) 0).map iv) ∧ Below W.heap.size W wr)) (fun xv _ => d - (intOf xv).toNat)
  case atStart => exact ⟨0, Nat.zero_le _, rfl, HO0.out, HB0.out⟩
  case round =>
    obtain ⟨i, hi, rfl, HR⟩ := hrel
    clear hmk HB0 HO0
    by_cases hlt : i < d
    · have n9 : decide ((i : Int) < (d : Int)) = true := decide_eq_true (by omega)
      have ii0 : (0 : Int) ≤ (i : Int) := by omega
      have ii9 : (i : Int) < (d : Int) := by omega
      have ii8 : (i : Int) < ((m + 1 : Nat) : Int) := by omega
      have ii7 : (i : Int) < (m : Int) + 1 := by omega
      obtain ⟨k, hk⟩ : ∃ k, ks[i]? = some k := ⟨_, List.getElem?_eq_getElem (by rw [HD.out]; exact hlt)⟩
      obtain ⟨v, hv, hvx⟩ := HX.out i k hk
      have hkm : k < m := HM.out k (List.mem_of_getElem? hk)
      have HSr := HS.out.later HR.out.2
      have c3 := HSr.q3
      have cx : wr.cell? ⟨gv, i * 3 + 2, none⟩ = some (.int .i64 ((k : Int) + 1)) := by
        rw [HSr.lvc hv (c := 2) (by decide)]
        simp [hvx]
      have hw : IntKind.i64.wrap ((k : Int) + 1 - 1) = (k : Int) := by rw [IntKind.wrap_i64]; omega
      obtain ⟨g, e0, _, hc, hf⟩ := own_some HR.out.1 (by omega)
      cases e0
      have cz : wr.cell? ⟨W.heap.size, i, none⟩ = some (.int .i64 0) := by
        rw [hc i hlt, List.getElem?_map, List.getElem?_append_right (by rw [List.length_take]; omega), List.length_take, HD.out, Nat.min_eq_left hi, Nat.sub_self, List.getElem?_replicate, if_pos (by omega)]
        rfl
      have fz := hf i
      have HN : Hid ((wr.setCell ⟨W.heap.size, i, none⟩ (.int .i64 (k : Int))).ownsRow W.heap.size 3 1 (.slice (some ⟨W.heap.size, 0, none⟩) d d) d ((ks.take (i + 1) ++ List.replicate (d - (i + 1)) 0).map iv) ∧ Below W.heap.size W (wr.setCell ⟨W.heap.size, i, none⟩ (.int .i64 (k : Int)))) := by
        refine ⟨?_, HR.out.2.setCell (p := ⟨W.heap.size, i, none⟩) (Nat.le_refl _) _⟩
        have := own_set HR.out.1 (.int .i64 (k : Int)) hlt
        rw [show (Value.int .i64 (k : Int)) = iv k from rfl, ← List.map_set, List.set_append_right _ _ (by rw [List.length_take]; omega), List.length_take, HD.out, Nat.min_eq_left hi, Nat.sub_self] at this
        rw [take_snoc hk, List.append_assoc]
        rw [show d - i = (d - (i + 1)) + 1 by omega, List.replicate_succ, List.set_cons_zero] at this
        exact this
      clear hc hf HSr hvx hv
      go_wp2
      go_roundw
      case rel => exact ⟨i + 1, by omega, by go_num, HN.out⟩
      case measure => simp [intOf]; omega
    · have n9 : decide ((i : Int) < (d : Int)) = false := decide_eq_false (by omega)
      obtain rfl : i = d := by omega
      go_wp2
      go_ret
      refine ⟨some ⟨W.heap.size, 0, none⟩, i, rfl, ?_, HR.out.2⟩
      have := HR.out.1
      rw [List.take_of_length_le (by rw [HD.out]; exact Nat.le_refl _), Nat.sub_self, List.replicate_zero, List.append_nil] at this
      exact this
end Go.Proofs.Ytjkoambfecmglaa
