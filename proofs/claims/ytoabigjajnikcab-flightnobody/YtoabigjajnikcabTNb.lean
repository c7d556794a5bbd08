import Derived.Test.YtoabigjajnikcabTX
namespace Go.Proofs.Ytoabigjajnikcab
open Go.RowKit Go.Maps
attribute [local go_sem] Oper.semAt_some
set_option linter.unusedVariables false
set_option linter.unusedSimpArgs false
set_option maxRecDepth 100000
theorem infoOp : (Try.prog.info? 28).map (·.size) = some 9 := by kernel_rfl
theorem row_new (w1 : World) (cs0 cs : Array Value) : Below w1.heap.size w1 ((w1.alloc (.cells cs0 TEn)).setRow w1.heap.size cs) ∧ ((w1.alloc (.cells cs0 TEn)).setRow w1.heap.size cs).heap[w1.heap.size]? = some (.cells cs TEn (0, 0)) :=
  ⟨below_row (below1 w1 _) (Nat.le_refl _) _, setRow_heap _ w1.heap.size _ cs TEn _ (heap_new w1 _)⟩
section
variable {w : World} {po : Option Addr}
theorem pending_not (h : NoT w po) : Calls Try.prog 11 #[.pointer po] w fun r w' => r = .returned (.slice none 0 0) ∧ w' = w := by
  have hn := numbers_not h false
  clear h
  go_enter Try.func11, Try.ntmps11
  go_wp2_with (first | (go_at_call 24; refine hn.mono ?_; rintro e w9 ⟨rfl, hw9⟩; rw [hw9]; clear hw9))
  go_ret
  exact ⟨rfl, rfl⟩
theorem ready_not (h : NoT w po) : Calls Try.prog 12 #[.pointer po] w fun r w' => r = .returned (.slice none 0 0) ∧ w' = w := by
  have hn := numbers_not h true
  clear h
  go_enter Try.func12, Try.ntmps12
  go_wp2_with (first | (go_at_call 24; refine hn.mono ?_; rintro e w9 ⟨rfl, hw9⟩; rw [hw9]; clear hw9))
  go_ret
  exact ⟨rfl, rfl⟩
theorem entries_not (h : NoT w po) : Calls Try.prog 16 #[.pointer po] w fun r w' => ∃ ao cap, r = .returned (.slice ao 0 cap) ∧ Below w.heap.size w w' := by
  refine (entries_any (po := po) (F := fun _ => False) (V := fun _ => undef) [] (by simp) (by simp) (fun _ h => h.elim) (fun W hb => ?_)).mono ?_
  · refine (sorted_not (h.later hb)).mono ?_
    rintro r w' ⟨rfl, rfl⟩
    exact ⟨_, rfl, ⟨rfl, .inl ⟨rfl, rfl⟩⟩, Below.refl _ _⟩
  · rintro r w' ⟨v, rfl, ys, hys, ht, hb⟩
    have : ys = [] := by simpa using hys
    subst this
    obtain ⟨ao, cap, rfl⟩ := owns_form9 ht.row
    exact ⟨ao, cap, rfl, hb⟩
set_option maxHeartbeats 8000000 in
theorem nobody_any (h : NoT w po) (k id q0 q1 q2 q3 q4 : Int) (da aa : Option Addr) (n1 dc n2 ac : Nat) : Calls Try.prog 4 #[.pointer po, .agg #[.int .i64 k, .int .i64 id, .int .u16 q0, .int .u16 q1, .int .u64 q2, .int .u64 q3, .int .u64 q4, .slice da n1 dc, .slice aa n2 ac]] w fun r w' => r = .returned (.bool true) ∧ Below w.heap.size w w' := by
  have B2 := mkb1 w #[.int .i64 k, .int .i64 id, .int .u16 q0, .int .u16 q1, .int .u64 q2, .int .u64 q3, .int .u64 q4, .slice da n1 dc, .slice aa n2 ac] 28
  have HB0 : Hid _ := B2
  have HN0 : Hid _ := h.later B2.bel
  clear h B2
  go_enter Try.func4, Try.ntmps4
  go_wp2_with fail
  refine Calls.mono (add_not HN0.out _ _ _ _ _ _) ?_
  rintro r w1 ⟨rfl, hb1⟩
  have HB1 : Hid _ := HB0.out.later hb1
  have HN1 : Hid _ := NoT.later HN0.out hb1
  have k1 : w1.cell? ⟨w.heap.size, 1, none⟩ = some (.int .i64 id) := (blk_at HB1.out.a 1).trans rfl
  have k8 : w1.cell? ⟨w.heap.size, 8, none⟩ = some (.slice aa n2 ac) := (blk_at HB1.out.a 8).trans rfl
  clear hb1 HB0 HN0
  go_wp2_with fail
  refine Calls.mono (done_not HN1.out _ _) ?_
  rintro r w2 ⟨rfl, hb2⟩
  have HB2 : Hid _ := HB1.out.later hb2
  have HN2 : Hid _ := NoT.later HN1.out hb2
  have k1' : w2.cell? ⟨w.heap.size, 1, none⟩ = some (.int .i64 id) := (blk_at HB2.out.a 1).trans rfl
  clear hb2 HB1 HN1 k1 k8
  go_wp2_with fail
  refine Calls.mono (take_not HN2.out _) ?_
  rintro r w3 ⟨rfl, hb3⟩
  have HB3 : Hid _ := HB2.out.later hb3
  have HN3 : Hid _ := NoT.later HN2.out hb3
  have k1 : w3.cell? ⟨w.heap.size, 1, none⟩ = some (.int .i64 id) := (blk_at HB3.out.a 1).trans rfl
  clear hb3 HB2 HN2 k1'
  go_wp2_with fail
  refine Calls.mono (get_not HN3.out _) ?_
  rintro r w4 ⟨da1, dc1, aa1, ac1, rfl, hov, hb4⟩
  have HB4 : Hid _ := (HB3.out.later hb4).bel
  have HN4 : Hid _ := NoT.later HN3.out hb4
  have HOv : Hid _ := hov
  have H1 : Hid _ := oneEcl zEn da1 aa1 dc1 ac1
  have HN : Hid _ := row_new w4 #[.int .i64 0, .int .u16 0, .int .u16 0, .int .u64 0, .int .u64 0, .int .u64 0, .slice none 0 0, .bool false, .slice none 0 0] (ecl zEn da1 dc1 aa1 ac1).toArray
  have HBx : Hid _ := mkb1 w4 #[.int .i64 0, .int .u16 0, .int .u16 0, .int .u64 0, .int .u64 0, .int .u64 0, .slice none 0 0, .bool false, .slice none 0 0] TEn
  have HOv2 : Hid _ := hov.later HN.out.1
  simp only [ecl, zEn, List.length_nil] at H1 HN HOv2 ⊢
  clear hb4 HB3 HN3 k1 hov HOv
  go_wp2_with (first | (refine wpList_store_row rfl TEn _ _ rfl w4.heap.size _ rfl rfl TEn _ HBx.out.a infoEn rfl H1.out ?_) | (refine wpList_load_row rfl TEn _ rfl w4.heap.size rfl TEn #[.int .i64 0, .int .u16 0, .int .u16 0, .int .u64 0, .int .u64 0, .int .u64 0, .slice da1 0 dc1, .bool false, .slice aa1 0 ac1] (0, 0) _ HN.out.2 Try.underlying43 rfl infoEn ?_) | fail)
  have HB5 : Hid (Below w.heap.size w _) := HB4.out.trans (HN.out.1.mono HB4.out.size)
  have HN5 : Hid _ := NoT.later HN4.out HN.out.1
  generalize ((w4.alloc (.cells #[.int .i64 0, .int .u16 0, .int .u16 0, .int .u64 0, .int .u64 0, .int .u64 0, .slice none 0 0, .bool false, .slice none 0 0] TEn)).setRow w4.heap.size #[.int .i64 0, .int .u16 0, .int .u16 0, .int .u64 0, .int .u64 0, .int .u64 0, .slice da1 0 dc1, .bool false, .slice aa1 0 ac1]) = W5 at *
  have HS := sameEn zEn W5 (fun _ => True) (fun _ => True) (.agg (ecl zEn da1 dc1 aa1 ac1).toArray) (.agg (ecl zEn none 0 none 0).toArray) (OV.pv (e := zEn) HOv2.out (fun _ _ _ => trivial)) (zpv W5 _)
  simp only [ecl, zEn, List.length_nil] at HS
  refine Calls.mono HS ?_
  rintro r w6 ⟨rfl, hb6⟩
  have HB6 : Hid _ := HB5.out.trans (hb6.mono HB5.out.size)
  have HN6 : Hid _ := NoT.later HN5.out hb6
  clear HS hb6 HB5 HN5 HOv2 HN HBx H1 HB4 HN4
  go_wp2_with fail
  refine Calls.mono (pending_not HN6.out) ?_
  rintro r w7 ⟨rfl, hw⟩
  rw [hw]; clear hw w7
  go_wp2_with fail
  refine Calls.mono (ready_not HN6.out) ?_
  rintro r w7 ⟨rfl, hw⟩
  rw [hw]; clear hw w7
  go_wp2_with fail
  refine Calls.mono (len_not HN6.out) ?_
  rintro r w7 ⟨rfl, hw⟩
  rw [hw]; clear hw w7
  go_wp2_with fail
  refine Calls.mono (full_not HN6.out) ?_
  rintro r w7 ⟨rfl, qq, hw⟩
  have hb7 : Below w6.heap.size w6 w7 := by rw [hw]; exact below_drewN _ qq
  have HB7 : Hid (Below w.heap.size w w7) := HB6.out.trans (hb7.mono HB6.out.size)
  have HN7 : Hid _ := NoT.later HN6.out hb7
  clear hw hb7 HB6 HN6
  go_wp2_with fail
  refine Calls.mono (clear_not HN7.out) ?_
  rintro r w8 ⟨rfl, hw⟩
  rw [hw]; clear hw w8
  go_wp2_with fail
  refine Calls.mono (entries_not HN7.out) ?_
  rintro r w8 ⟨ao, cap, rfl, hb8⟩
  have HB8 : Hid (Below w.heap.size w w8) := HB7.out.trans (hb8.mono HB7.out.size)
  clear hb8
  go_wp2
  go_ret
  exact ⟨rfl, HB8.out⟩
set_option maxHeartbeats 2000000 in
theorem lawNobody (w : World) (k id q0 q1 q2 q3 q4 : Int) (da aa : Option Addr) (n1 dc n2 ac : Nat) : Calls Try.prog 3 #[.agg #[.int .i64 k, .int .i64 id, .int .u16 q0, .int .u16 q1, .int .u64 q2, .int .u64 q3, .int .u64 q4, .slice da n1 dc, .slice aa n2 ac]] w fun r w' => r = .returned (.bool true) ∧ Below w.heap.size w w' := by
  have HB0 : Hid _ := mkb1 w #[.int .i64 k, .int .i64 id, .int .u16 q0, .int .u16 q1, .int .u64 q2, .int .u64 q3, .int .u64 q4, .slice da n1 dc, .slice aa n2 ac] 28
  go_enter Try.func3, Try.ntmps3
  go_wp2_with (first | (refine wpList_load_row rfl 28 _ rfl w.heap.size rfl 28 _ (0, 0) _ HB0.out.a Try.underlying28 rfl infoOp ?_) | fail)
  refine Calls.mono (nobody_any (.inl rfl) k id q0 q1 q2 q3 q4 da aa n1 dc n2 ac) ?_
  rintro r w1 ⟨rfl, hb1⟩
  have HB1 : Hid _ := HB0.out.later hb1
  have HB2 : Hid _ := HB1.out.later (below1 w1 (.cells #[.int .i64 0, .int .i64 0, .map none] TTb))
  clear HB0 hb1
  have c0 : (w1.alloc (.cells #[.int .i64 0, .int .i64 0, .map none] TTb)).cell? ⟨w.heap.size, 0, none⟩ = some (.int .i64 k) := (blk_at HB2.out.a 0).trans rfl
  have c1 : (w1.alloc (.cells #[.int .i64 0, .int .i64 0, .map none] TTb)).cell? ⟨w.heap.size, 1, none⟩ = some (.int .i64 id) := (blk_at HB2.out.a 1).trans rfl
  have c2 : (w1.alloc (.cells #[.int .i64 0, .int .i64 0, .map none] TTb)).cell? ⟨w.heap.size, 2, none⟩ = some (.int .u16 q0) := (blk_at HB2.out.a 2).trans rfl
  have c3 : (w1.alloc (.cells #[.int .i64 0, .int .i64 0, .map none] TTb)).cell? ⟨w.heap.size, 3, none⟩ = some (.int .u16 q1) := (blk_at HB2.out.a 3).trans rfl
  have c4 : (w1.alloc (.cells #[.int .i64 0, .int .i64 0, .map none] TTb)).cell? ⟨w.heap.size, 4, none⟩ = some (.int .u64 q2) := (blk_at HB2.out.a 4).trans rfl
  have c5 : (w1.alloc (.cells #[.int .i64 0, .int .i64 0, .map none] TTb)).cell? ⟨w.heap.size, 5, none⟩ = some (.int .u64 q3) := (blk_at HB2.out.a 5).trans rfl
  have c6 : (w1.alloc (.cells #[.int .i64 0, .int .i64 0, .map none] TTb)).cell? ⟨w.heap.size, 6, none⟩ = some (.int .u64 q4) := (blk_at HB2.out.a 6).trans rfl
  have c7 : (w1.alloc (.cells #[.int .i64 0, .int .i64 0, .map none] TTb)).cell? ⟨w.heap.size, 7, none⟩ = some (.slice da n1 dc) := (blk_at HB2.out.a 7).trans rfl
  have c8 : (w1.alloc (.cells #[.int .i64 0, .int .i64 0, .map none] TTb)).cell? ⟨w.heap.size, 8, none⟩ = some (.slice aa n2 ac) := (blk_at HB2.out.a 8).trans rfl
  go_wp2_with fail
  refine Calls.mono (nobody_any (.inr ⟨w1.heap.size, rfl, (blk_at (heap_new w1 (.cells #[.int .i64 0, .int .i64 0, .map none] TTb)) 2).trans rfl⟩) k id q0 q1 q2 q3 q4 da aa n1 dc n2 ac) ?_
  rintro r w2 ⟨rfl, hb2⟩
  have HB3 : Hid _ := HB2.out.later hb2
  clear HB2 hb2 HB1
  go_wp2_with fail
  refine Calls.mono (heads_any w2) ?_
  rintro r w3 ⟨rfl, hb3⟩
  have HB4 : Hid _ := HB3.out.later hb3
  clear hb3 HB3
  go_wp2
  go_ret
  exact ⟨rfl, HB4.out.bel⟩
end
end Go.Proofs.Ytoabigjajnikcab
