import Derived.Test.YtoabigjajnikcaaTN
namespace Go.Proofs.Ytoabigjajnikcaa
open Go.RowKit Go.Maps
attribute [local go_sem] Oper.semAt_some
set_option linter.unusedVariables false
set_option linter.unusedSimpArgs false
set_option maxRecDepth 100000

section
variable {w : World} {G : Nat → Prop} {p : Nat} {v : Value} {V : Int → Value} {S : St}
set_option maxHeartbeats 1000000 in
theorem rget_no (h : RR w G p v V S) (id : Int) (hid : id ∉ ids S.L) : Calls Try.prog 47 #[.pointer (some ⟨p, 0, none⟩), .int .i64 id] w fun r w' => r = .returned (.tuple #[.agg zC, .int .i64 132]) ∧ Below w.heap.size w w' := by
  have hf := rfind_no (h.later (below1 w (.cells zC TEn))) id hid
  simp only [zC] at hf ⊢
  go_enter Try.func47, Try.ntmps47
  go_wp2_with (first | (go_at_call 45; refine hf.mono ?_; rintro e w9 ⟨rfl, hw9⟩; rw [hw9]; clear hw9))
  exact bodyPost_ret (results_cell_tmp1 rfl _ _ w.heap.size 56 zC (0, 0) _ rfl (heap_new w _) Try.underlying56 rfl infoEn) rfl ⟨rfl, below1 w _⟩
set_option maxHeartbeats 2000000 in
theorem rget_yes (h : RR w G p v V S) (k : Nat) (e : En) (he : S.L[k]? = some e) : Calls Try.prog 47 #[.pointer (some ⟨p, 0, none⟩), .int .i64 e.id] w fun r w' => ∃ da dc aa ac, r = .returned (.tuple #[.agg (ecl e da dc aa ac).toArray, .int .i64 0]) ∧ FRow w G da dc e.rq.data ∧ FRow w G aa ac e.an ∧ Below w.heap.size w w' := by
  have hlen : S.L.length ≤ 64 := Nat.le_trans h.ok.len h.ok.m2
  have hk := (List.getElem?_eq_some_iff.1 he).1
  obtain ⟨g, cap, da, dc, aa, ac, hv, hcap1, hcap2, hr, r1, r2, _, cur, hg, _⟩ := h.cells k e he
  have HR1 : Hid _ := r1
  have HR2 : Hid _ := r2
  have HF : Hid _ := rfind_yes (h.later (below1 w (.cells zC TEn))) k e he
  obtain ⟨n, hn⟩ : ∃ n, S.L.length = n := ⟨_, rfl⟩
  have hc2 : (w.alloc (.cells zC TEn)).cell? ⟨p, 2, none⟩ = some (.slice (some ⟨g, 0, none⟩) n cap) := ((h.later (below1 w (.cells zC TEn))).c 2).trans (by rw [hv, hn]; rfl)
  have hgl := block_lt hg
  have HX : Hid ((w.alloc (.cells zC TEn)).rangeAt g (k * 9) (ecl e da dc aa ac)) := World.rangeAt_alloc hr _
  have H1 : Hid _ := oneEcl e da aa dc ac
  rw [hn] at hk hlen hcap1
  have hkz : (k : Int) < (n : Int) := by omega
  have hk0 : ¬ (k : Int) < 0 := by omega
  clear h hr r1 r2 hv hn hg
  simp only [zC] at HF hc2 HX
  simp only [ecl] at HX H1 ⊢
  go_enter Try.func47, Try.ntmps47
  go_wp2_with fail
  refine Calls.mono HF.out ?_
  rintro r w1 ⟨rfl, hw⟩
  rw [hw]; clear hw HF w1
  go_wp2_with (first | (refine wpList_load_mid rfl TEn _ rfl g (k * 9) rfl _ _ HX.out Try.underlying56 rfl infoEn ?_) | (refine wpList_store_row rfl TEn _ _ rfl w.heap.size _ rfl rfl TEn _ (heap_new w _) infoEn rfl H1.out ?_) | fail)
  refine bodyPost_ret (results_cell_tmp1 rfl _ _ w.heap.size TEn #[.int .i64 e.id, .int .u16 e.rq.fl, .int .u16 e.rq.ty, .int .u64 e.rq.ck, .int .u64 e.rq.off, .int .u64 e.rq.len, .slice da e.rq.data.length dc, .bool e.rd, .slice aa e.an.length ac] (0, 0) _ rfl ?_ Try.underlying56 rfl infoEn) rfl ?_
  · exact setRow_heap _ _ _ _ _ _ (heap_new w _)
  · exact ⟨da, dc, aa, ac, rfl, HR1.out, HR2.out, below_row (below1 w _) (Nat.le_refl _) _⟩
set_option maxHeartbeats 1000000 in
theorem rclear_any (h : RR w G p v V S) : Calls Try.prog 41 #[.pointer (some ⟨p, 0, none⟩)] w fun r w' => r = .returned (.int .i64 S.L.length) ∧ RAct w w' G G p v (.slice none 0 0) V (clrS S) := by
  obtain ⟨ao, cap, hv⟩ := owns_form9 h.row
  have hc2 : w.cell? ⟨p, 2, none⟩ = some (.slice ao S.L.length cap) := (h.c 2).trans (by rw [hv]; rfl)
  have hf := h.fz 2
  have HA : Hid (RAct w (w.setCell ⟨p, 2, none⟩ (.slice none 0 0)) G G p v (.slice none 0 0) V (clrS S)) := by
    have hk := keptIn_set w p 2 (.slice none 0 0)
    refine ⟨⟨fun g hg => Nat.lt_of_lt_of_le (h.lt g hg) hk.size, h.np, fun g hg => by simp [Value.ownBlock] at hg, put_box h.blk 2 _ rfl, ⟨by simp [clrS], .inl ⟨rfl, rfl⟩⟩, fun e he => by simp [clrS] at he, clrS_ok h.ok⟩, hk.mono (fun g _ e => .inl e), fun g hg => .inl ?_⟩
    rcases hg with e | e | e
    · exact .inl e
    · simp [Value.ownBlock] at e
    · exact .inr (.inr e)
  clear h hv
  go_enter Try.func41, Try.ntmps41
  go_wp2
  go_ret
  exact ⟨rfl, HA.out⟩
set_option maxHeartbeats 4000000 in
theorem rthose_any (h : RR w G p v V S) (r : Bool) : Calls Try.prog 49 #[.pointer (some ⟨p, 0, none⟩), .bool r] w fun e w' => ∃ v, e = .returned v ∧ w'.ownsRow w.heap.size TIn 1 v (those S r).length ((those S r).map iv) ∧ Below w.heap.size w w' := by
  obtain ⟨i0, hi, hz0, hz1, hz2⟩ := info_parts infoI
  have hlen : S.L.length ≤ 64 := Nat.le_trans h.ok.len h.ok.m2
  obtain ⟨ao, cap, hv⟩ := owns_form9 h.row
  have hc2 : w.cell? ⟨p, 2, none⟩ = some (.slice ao S.L.length cap) := (h.c 2).trans (by rw [hv]; rfl)
  have hpl := h.ltp
  have HC : Hid (∀ k e, S.L[k]? = some e → ∃ g, ao = some ⟨g, 0, none⟩ ∧ g < w.heap.size ∧ w.cell? ⟨g, k * 9, none⟩ = some (.int .i64 e.id) ∧ w.cell? ⟨g, k * 9 + 7, none⟩ = some (.bool e.rd)) := fun k e he => by
    obtain ⟨g, cap', da, dc, aa, ac, hv', _, _, hr, _, _, _, cur, hg, _⟩ := h.cells k e he
    rw [hv] at hv'
    simp only [Value.slice.injEq] at hv'
    exact ⟨g, hv'.1, block_lt hg, hr 0 _ rfl, hr 7 _ rfl⟩
  obtain ⟨n, hn⟩ : ∃ n, S.L.length = n := ⟨_, rfl⟩
  have HN : Hid _ := hn
  rw [hn] at hlen hc2
  clear h hn hv
  go_enter Try.func49, Try.ntmps49
  go_wp2
  go_loopw [5, 6] (fun out i wr => ∃ k : Nat, k ≤ n ∧ i = .int .i64 (k : Int) ∧ Hid (wr.ownsRow w.heap.size TIn 1 out (ids ((S.L.take k).filter (fun e => e.rd == r))).length ((ids ((S.L.take k).filter (fun e => e.rd == r))).map iv) ∧ Below w.heap.size w wr)) (fun _ i _ => n - (intOf i).toNat)
  case atStart => exact ⟨0, Nat.zero_le _, rfl, ⟨rfl, .inl ⟨rfl, rfl⟩⟩, Below.refl _ _⟩
  case round =>
    obtain ⟨k, hk, rfl, HI⟩ := hrel
    have hc2' : wr.cell? ⟨p, 2, none⟩ = some (.slice ao n cap) := (cell_block (HI.out.2.block p hpl)).trans hc2
    by_cases hlt : k < n
    · obtain ⟨e, he⟩ : ∃ e, S.L[k]? = some e := ⟨_, List.getElem?_eq_getElem (by rw [HN.out]; exact hlt)⟩
      obtain ⟨g, rfl, hgl, hx0, hx7⟩ := HC.out k e he
      have hy0 := (cell_block (HI.out.2.block g hgl)).trans hx0
      have hy7 := (cell_block (HI.out.2.block g hgl)).trans hx7
      have hkz : (k : Int) < (n : Int) := by omega
      obtain ⟨vo, vc, hvo⟩ := owns_form9 HI.out.1
      subst hvo
      obtain ⟨m, hm⟩ : ∃ m, (ids ((S.L.take k).filter (fun e => e.rd == r))).length = m := ⟨_, rfl⟩
      have hmk : m ≤ k := by
        rw [← hm, ids, List.length_map]
        exact Nat.le_trans (List.length_filter_le _ _) (by rw [List.length_take]; omega)
      have HSn : Hid _ := ids_snoc S.L r k e he
      have HM : Hid _ := hm
      rw [hm] at HI ⊢
      clear he hm hx0 hx7
      by_cases hr : (e.rd == r) = true
      · rw [if_pos hr] at HSn
        have HO : Hid ((wr.alloc (.cells #[.int .i64 e.id] TIn)).ownsRow w.heap.size TIn 1 (.slice vo m vc) m ((ids ((S.L.take k).filter (fun e => e.rd == r))).map iv)) := HI.out.1.alloc _
        have HBw : Hid (Below w.heap.size w (wr.alloc (.cells #[.int .i64 e.id] TIn))) := HI.out.2.alloc HI.out.2.size _
        have HNw : Hid (∀ j u, ([iv e.id] : List Value)[j]? = some u → (wr.alloc (.cells #[.int .i64 e.id] TIn)).cell? ((⟨wr.heap.size, 0, none⟩ : Addr).add j) = some u) := fun j u hu => by
          rw [add_plain, Nat.zero_add, blk_at (heap_new wr _)]
          simpa [iv] using hu
        clear HI
        go_wp2_with (first | (at_builtin; refine wpList_append_lies _ rfl (.tmp 26) (.tmp 35) 28 rfl w.heap.size TIn i0 (.int .i64 0) 1 8 Try.underlying28 hi hz0 hz1 hz2 rfl (by omega) (.slice vo m vc) m _ rfl HO.out ⟨wr.heap.size, 0, none⟩ 1 1 [iv e.id] rfl rfl HNw.out (by simp [iv, Value.oneCell']) (by omega) (by unfold maxLen; omega) (by omega) HBw.out.size _ rfl ?_; intro g2 cp w2 ho2 hg2 hg3 hg4) | fail)
        have HB2 : Hid (Below w.heap.size w w2) := HBw.out.grown hg2 HBw.out.size (fun j hj => by
          rcases HO.out.2 with ⟨hv, _⟩ | ⟨g', _, _, hv, hbg, _⟩
          · rw [hv] at hj; simp [Value.ownBlock] at hj
          · rw [hv] at hj; simp [Value.ownBlock] at hj; omega)
        have HO2 : Hid (w2.ownsRow w.heap.size TIn 1 (.slice (some ⟨g2, 0, none⟩) (m + 1) cp) (ids ((S.L.take (k + 1)).filter (fun e => e.rd == r))).length ((ids ((S.L.take (k + 1)).filter (fun e => e.rd == r))).map iv)) := by
          show World.ownsRow _ _ _ _ _ _ _
          rw [HSn.out, List.length_append, HM.out, List.map_append]; exact ho2
        clear ho2 hg2 hg3 hg4 HO HBw HNw
        go_wp2
        go_roundw
        case rel => exact ⟨k + 1, by omega, by go_num, HO2.out, HB2.out⟩
        case measure => simp [intOf]; omega
      · rw [if_neg hr, List.append_nil] at HSn
        have hr' : (e.rd == r) = false := by simpa using hr
        go_wp2
        go_roundw
        case rel => exact ⟨k + 1, by omega, by go_num, by show World.ownsRow _ _ _ _ _ _ _; rw [HSn.out, HM.out]; exact HI.out.1, HI.out.2⟩
        case measure => simp [intOf]; omega
    · obtain rfl : k = n := by omega
      have HO := HI.out.1
      rw [List.take_of_length_le (by rw [HN.out]; omega)] at HO
      have HB2 : Hid _ := HI.out.2
      have HO2 : Hid (wr.ownsRow w.heap.size TIn 1 _ (those S r).length ((those S r).map iv)) := HO
      clear HI HO
      go_wp2
      go_ret
      exact ⟨_, rfl, HO2.out, HB2.out⟩
end
end Go.Proofs.Ytoabigjajnikcaa
