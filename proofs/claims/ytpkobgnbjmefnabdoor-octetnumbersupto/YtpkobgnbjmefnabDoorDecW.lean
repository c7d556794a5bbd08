import Derived.Test.YtpkobgnbjmefnabDoorDecR
namespace Go.Proofs.YtpkobgnbjmefnabDoor
open Go.RowKit
set_option linter.unusedVariables false
set_option maxRecDepth 100000

theorem bstr_dec (u : Nat) : bstr (decN u) = ⟨(Lib.decDigits u).toArray⟩ := by
  unfold bstr decN
  rw [List.map_map]
  congr 2
  conv => rhs; rw [← List.map_id (Lib.decDigits u)]
  apply List.map_congr_left
  intro c _
  show UInt8.ofNat c.toNat = c
  simp
theorem bv_one1 (x : Nat) : ∀ v ∈ [bv x], v.oneCell' = true := fun v hv => by
  obtain rfl := List.mem_singleton.1 hv
  rfl

set_option maxHeartbeats 4000000 in
theorem rdecimal_any (u : Nat) (w : World) (hu : u < 18446744073709551616) :
    Calls Tryd.prog 11 #[.int .u64 (u : Int)] w fun e w' => e = .returned (.string ⟨(Lib.decDigits u).toArray⟩) ∧ Below w.heap.size w w' := by
  obtain ⟨i0, hi, hz0, hz1, hz2⟩ := info_parts Tryd.info5
  have HLn : Hid ((decN u).length ≤ 20) := decN_len u hu
  rw [← bstr_dec]
  go_enter Tryd.func11, Tryd.ntmps11
  go_wp2
  go_loopw [0, 3] (fun a o wr => ∃ (x : Nat) (D : List Nat), a = .int .u64 (x : Int) ∧ x < 18446744073709551616 ∧ decN u = decN x ++ D.reverse ∧ wr.ownsRow w.heap.size 5 1 o D.length (D.map bv) ∧ Below w.heap.size w wr) (fun a _ _ => (intOf a).toNat)
  case atStart => exact ⟨u, [], rfl, hu, by simp, World.ownsRow_nil _ _ _ _, Below.refl _ _⟩
  case round =>
    obtain ⟨x, D, rfl, hx, hdec, hown, hb⟩ := hrel
    obtain ⟨ao, cp, hv⟩ := owns_form hown
    subst hv
    have HO : Hid (wr.ownsRow w.heap.size 5 1 (.slice ao D.length cp) D.length (D.map bv)) := hown
    have HB : Hid (Below w.heap.size w wr) := hb
    have hD20 : D.length ≤ 20 := by
      have h1 := HLn.out
      rw [hdec, List.length_append, List.length_reverse] at h1
      omega
    have HZ : Hid (w.heap.size ≤ wr.heap.size) := hb.size
    have HG : Hid (∀ (y : Nat) (o : Obj) ao' cp' w1, w1.ownsRow w.heap.size 5 1 (.slice ao' (D.length + 1) cp') (D.length + 1) (D.map bv ++ [bv y]) → (wr.alloc o).grownBy w1 (Value.slice ao D.length cp).ownBlock → w1.ownsRow w.heap.size 5 1 (.slice ao' (D.length + 1) cp') (D ++ [y]).length ((D ++ [y]).map bv) ∧ Below w.heap.size w w1) := fun y o ao' cp' w1 h1 h2 => by
      refine ⟨by simpa using h1, ?_⟩
      exact (HB.out.alloc HB.out.size o).grown h2 (by have := HZ.out; simp; omega) (fun g hg => (owns_lt HO.out g hg).2)
    clear hown hb
    by_cases hgt : 9 < x
    · have HDe : Hid (decN u = decN (x / 10) ++ (D ++ [48 + x % 10]).reverse) := by
        show _ = _
        rw [hdec, decN_big (by omega)]
        simp
      have hwa : IntKind.u8.wrap (48 + (x : Int) % 10) = ((48 + x % 10 : Nat) : Int) := by rw [IntKind.wrap_u8]; omega
      have t1 : decide ((9 : Int) < (x : Int)) = true := by simp; omega
      clear hdec
      go_wp2_with (at_builtin; refine wpList_append_two _ rfl _ _ 37 rfl w.heap.size 5 i0 (.int .u8 0) 1 Tryd.underlying37 hi hz0 hz1 hz2 rfl (.slice ao D.length cp) D.length (D.map bv) rfl (HO.out.alloc _) (some ⟨wr.heap.size, 0, none⟩) 1 1 [bv (48 + x % 10)] rfl (by simp) rfl (news_one wr _ _) (bv_one1 _) (by unfold maxLen; omega) (by omega) (by have := HZ.out; simp; omega) ?_)
      intro v1 w1 ho1 hg1 hf1
      obtain ⟨ao1, cp1, hv1⟩ := owns_form ho1
      subst hv1
      have H1 : Hid (w1.ownsRow w.heap.size 5 1 (.slice ao1 (D.length + 1) cp1) (D ++ [48 + x % 10]).length ((D ++ [48 + x % 10]).map bv) ∧ Below w.heap.size w w1) := HG.out _ _ _ _ _ ho1 hg1
      clear ho1 hg1 hf1
      go_wp2
      go_roundw
      case rel => exact ⟨x / 10, D ++ [48 + x % 10], congrArg (Value.int .u64) (by omega), by omega, HDe.out, H1.out.1, H1.out.2⟩
      case measure => simp [intOf]; omega
    · have hx10 : x < 10 := by omega
      have HDe : Hid (decN u = (D ++ [48 + x]).reverse) := by
        show _ = _
        rw [hdec, decN_small hx10]
        simp
      have hwa : IntKind.u8.wrap (48 + (x : Int)) = ((48 + x : Nat) : Int) := by rw [IntKind.wrap_u8]; omega
      have t1 : decide ((9 : Int) < (x : Int)) = false := by simp; omega
      clear hdec
      go_wp2_with (at_builtin; refine wpList_append_two _ rfl _ _ 37 rfl w.heap.size 5 i0 (.int .u8 0) 1 Tryd.underlying37 hi hz0 hz1 hz2 rfl (.slice ao D.length cp) D.length (D.map bv) rfl (HO.out.alloc _) (some ⟨wr.heap.size, 0, none⟩) 1 1 [bv (48 + x)] rfl (by simp) rfl (news_one wr _ _) (bv_one1 _) (by unfold maxLen; omega) (by omega) (by have := HZ.out; simp; omega) ?_)
      intro v1 w1 ho1 hg1 hf1
      obtain ⟨g, cp1, hv1⟩ : ∃ g cp1, v1 = .slice (some ⟨g, 0, none⟩) (D.length + 1) cp1 := by
        rcases ho1.2 with ⟨_, h0⟩ | ⟨g, cap, cur, hv, _⟩
        · omega
        · exact ⟨g, cap, hv⟩
      subst hv1
      have H1 : Hid (w1.ownsRow w.heap.size 5 1 (.slice (some ⟨g, 0, none⟩) (D.length + 1) cp1) (D ++ [48 + x]).length ((D ++ [48 + x]).map bv) ∧ Below w.heap.size w w1) := HG.out _ _ _ _ _ ho1 hg1
      clear ho1 hg1 hf1 HG HO HB
      have hEl : (D ++ [48 + x]).length = D.length + 1 := by simp
      generalize D ++ [48 + x] = E at *
      generalize D.length + 1 = n at *
      have HEl : Hid (E.length = n) := hEl
      clear hEl
      have hn : n ≤ 20 := by have := HLn.out; rw [HDe.out, List.length_reverse, HEl.out] at this; exact this
      go_wp2
      go_loopw [4] (fun i wr => ∃ k : Nat, 2 * k ≤ n ∧ i = .int .i64 k ∧ wr.ownsRow w.heap.size 5 1 (.slice (some ⟨g, 0, none⟩) n cp1) n ((turned E k).map bv) ∧ Below w.heap.size w wr) (fun i _ => n - (intOf i).toNat)
      case atStart => exact ⟨0, by omega, rfl, by rw [turned_zero]; have := H1.out.1; rwa [HEl.out] at this, H1.out.2⟩
      case round =>
        obtain ⟨k, hk, rfl, hown, hb⟩ := hrel
        by_cases hlt : 2 * k + 1 < n
        · obtain ⟨d, hd⟩ : ∃ d, n = d + 1 + k := ⟨n - 1 - k, by omega⟩
          have hdn : d < n := by omega
          have hkn : k < n := by omega
          have hkd : k < d := by omega
          have htl : (turned E k).length = n := by rw [turned_len]; exact HEl.out
          have hEl := HEl.out
          have ek : (turned E k)[k]? = some (E[k]?.getD 0) := by
            unfold turned
            rw [List.getElem?_map, List.getElem?_range (by omega), Option.map_some, if_neg (by omega)]
          have ed : (turned E k)[d]? = some (E[d]?.getD 0) := by
            unfold turned
            rw [List.getElem?_map, List.getElem?_range (by omega), Option.map_some, if_neg (by omega)]
          have c1 : wr.cell? ⟨g, k, none⟩ = some (.int .u8 ((E[k]?.getD 0 : Nat) : Int)) := by rw [hown.cellAt k (by omega), List.getElem?_map, ek]; rfl
          have c2 : wr.cell? ⟨g, d, none⟩ = some (.int .u8 ((E[d]?.getD 0 : Nat) : Int)) := by rw [hown.cellAt d (by omega), List.getElem?_map, ed]; rfl
          have f1 := hown.frozenAt k
          have f3 := hown.frozenAt d
          obtain ⟨hs1, hg1⟩ := hown.stored k (bv (E[d]?.getD 0))
          have f2 := hs1.frozenAt d
          have c3 : (wr.setCell ⟨g, k, none⟩ (bv (E[d]?.getD 0))).cell? ⟨g, d, none⟩ = some (.int .u8 ((E[d]?.getD 0 : Nat) : Int)) := by
            rw [hs1.cellAt d (by omega), List.getElem?_set_ne (by omega), List.getElem?_map, ed]; rfl
          obtain ⟨hs2, hg2⟩ := hs1.stored d (bv (E[k]?.getD 0))
          have HN : Hid (((wr.setCell ⟨g, k, none⟩ (bv (E[d]?.getD 0))).setCell ⟨g, d, none⟩ (bv (E[k]?.getD 0))).ownsRow w.heap.size 5 1 (.slice (some ⟨g, 0, none⟩) n cp1) n ((turned E (k + 1)).map bv) ∧ Below w.heap.size w ((wr.setCell ⟨g, k, none⟩ (bv (E[d]?.getD 0))).setCell ⟨g, d, none⟩ (bv (E[k]?.getD 0)))) := by
            refine ⟨?_, (hb.grown hg1 hb.size (fun g' hg' => ?_)).grown hg2 (Nat.le_trans hb.size hg1.size) (fun g' hg' => ?_)⟩
            · rw [← turned_step E k (by omega), List.map_set, List.map_set, show E.length - 1 - k = d by omega]
              exact hs2
            · exact (owns_lt hown g' hg').2
            · exact (owns_lt hs1 g' hg').2
          have ei : (n : Int) - 1 - (k : Int) = (d : Int) := by omega
          have t1 : decide ((k : Int) < (n : Int) / 2) = true := by simp; omega
          have t1' : decide ((k : Int) < (n : Int).tdiv 2) = true := by rw [Int.tdiv_eq_ediv_of_nonneg (by omega)]; exact t1
          clear hown hb ek ed hs1 hg1 hs2 hg2 htl hEl hd
          generalize E[k]?.getD 0 = y1 at *
          generalize E[d]?.getD 0 = y2 at *
          go_wp2
          go_roundw
          case rel => exact ⟨k + 1, by omega, by go_num, HN.out.1, HN.out.2⟩
          case measure => simp [intOf]; omega
        · have HT : Hid (turned E k = decN u) := by
            show _ = _
            rw [turned_end E k (by have := HEl.out; omega), HDe.out]
          have t1 : decide ((k : Int) < (n : Int) / 2) = false := by simp; omega
          have t1' : decide ((k : Int) < (n : Int).tdiv 2) = false := by rw [Int.tdiv_eq_ediv_of_nonneg (by omega)]; exact t1
          have hml : (decN u).length = n := by rw [← HT.out, turned_len]; exact HEl.out
          have hcv : (convert 37 9 (.slice (some ⟨g, 0, none⟩) n cp1)).run Tryd.prog wr = .ok (.string (bstr (decN u))) wr := by
            have := run_text (P := Tryd.prog) wr 37 9 5 Tryd.underlying37 Tryd.underlying5 Tryd.underlying9 ⟨g, 0, none⟩ cp1 (decN u) (fun j v hv => by
              have hj : j < n := by
                have := (List.getElem?_eq_some_iff.1 hv).1
                rw [List.length_map, hml] at this; exact this
              rw [add_plain, Nat.zero_add, hown.cellAt j (by omega), HT.out]; exact hv)
            rwa [hml] at this
          have HB : Hid (Below w.heap.size w wr) := hb
          clear hown hb hml
          generalize hsb : bstr (decN u) = s at *
          have HSb : Hid (bstr (decN u) = s) := hsb
          clear hsb
          go_wp2
          go_ret
          exact ⟨by rw [HSb.out]; rfl, HB.out⟩
end Go.Proofs.YtpkobgnbjmefnabDoor
