import Derived.Test.YtoabigjajnikcaaTYf
namespace Go.Proofs.Ytoabigjajnikcaa.X
open Go.RowKit Go.Maps Go.Proofs.Ytoabigjajnikcaa
attribute [local go_sem] Oper.semAt_some
set_option linter.unusedVariables false
set_option linter.unusedSimpArgs false
set_option maxRecDepth 100000

section
variable {w w' : World} {n0 : Nat} {F F' G G' : Nat → Prop} {b bm p : Nat} {V V' U U' : Int → Value} {v v' : Value} {S S2 S' : St} {bs : List (Nat × Obj)}
theorem _root_.Go.Proofs.Ytoabigjajnikcaa.Ck.lt (h : Ck w n0 F G b bm p V v U S S2 bs) {x : Nat × Obj} (hx : x ∈ bs) : x.1 < w.heap.size := block_lt (h.bx x hx).1
theorem first1 (h : Ck w n0 F G b bm p V v U S S2 bs) {a : Nat × Obj} (hb : Below w.heap.size w w') (hc : ∀ x ∈ [a], w.heap.size ≤ x.1 ∧ w'.heap[x.1]? = some x.2) : Ck w' n0 F G b bm p V v U S S2 (a :: bs) := h.pushes hb hc
theorem first2 (h : Ck w n0 F G b bm p V v U S S2 bs) {a c : Nat × Obj} (hb : Below w.heap.size w w') (hc : ∀ x ∈ [a, c], w.heap.size ≤ x.1 ∧ w'.heap[x.1]? = some x.2) : Ck w' n0 F G b bm p V v U S S2 (a :: c :: bs) := h.pushes hb hc
theorem first3 (h : Ck w n0 F G b bm p V v U S S2 bs) {a c d : Nat × Obj} (hb : Below w.heap.size w w') (hc : ∀ x ∈ [a, c, d], w.heap.size ≤ x.1 ∧ w'.heap[x.1]? = some x.2) : Ck w' n0 F G b bm p V v U S S2 (a :: c :: d :: bs) := h.pushes hb hc
theorem _root_.Go.Proofs.Ytoabigjajnikcaa.Ck.keep {X : Nat → Prop} (h : Ck w n0 F G b bm p V v U S S2 bs) (hk : KeptIn X w w') (hd : ∀ g, fpT b bm F g ∨ fpR p v G g → ¬ X g) (hx : ∀ x ∈ bs, ¬ X x.1) : Ck w' n0 F G b bm p V v U S S2 bs :=
  ⟨h.pr.keep hk hd, fun x hm => ⟨(hk.block _ (h.lt hm) (hx x hm)).trans (h.bx x hm).1, (h.bx x hm).2⟩⟩
/-- what a step leaves, other blocks among it -/
def Step (w w' : World) (n0 b bm p : Nat) (S : St) (bs : List (Nat × Obj)) : Prop := ∃ F G V v U S', Ck w' n0 F G b bm p V v U S' S' bs ∧ S'.last ≤ S.last + 1 ∧ Below n0 w w'
end
section
variable {w : World} {n0 : Nat} {F G : Nat → Prop} {b bm p : Nat} {V U : Int → Value} {v : Value} {S : St} {bs : List (Nat × Obj)}
set_option maxHeartbeats 8000000 in
theorem ch_add (h : Ck w n0 F G b bm p V v U S S bs) (hb : S.last < 4611686018427387904) (o : OpF) (ho : o.kind = 1) (n1 n2 : Nat) (da aa : Option Addr) (dc ac : Nat) (hop : OpOk w n0 o da dc aa ac) (HN1 : Hid (o.rq.data.length = n1)) : Calls Try.prog 26 #[.pointer (some ⟨b, 0, none⟩), .pointer (some ⟨p, 0, none⟩), .agg (opl o n1 n2 da dc aa ac)] w fun r w' => r = .returned (.bool true) ∧ Step w w' n0 b bm p S bs := by
  have B2 := mkb2 w (opl o n1 n2 da dc aa ac) #[.int .u16 o.rq.fl, .int .u16 o.rq.ty, .int .u64 o.rq.ck, .int .u64 o.rq.off, .int .u64 o.rq.len, .slice da n1 dc] 46 44
  have HB2 : Hid _ := B2
  have HP : Hid _ := h
  have HOp : Hid _ := hop
  simp only [opl, ho] at HB2 ⊢
  have hn1 : n1 ≤ 1099511627776 := by rw [← HN1.out]; exact hop.dl
  have hle := h.pr.le
  have HBb : Hid (Below n0 w ((w.alloc (.cells #[.int .i64 1, .int .i64 o.id, .int .u16 o.rq.fl, .int .u16 o.rq.ty, .int .u64 o.rq.ck, .int .u64 o.rq.off, .int .u64 o.rq.len, .slice da n1 dc, .slice aa n2 ac] 46)).alloc (.cells #[.int .u16 o.rq.fl, .int .u16 o.rq.ty, .int .u64 o.rq.ck, .int .u64 o.rq.off, .int .u64 o.rq.len, .slice da n1 dc] 44))) := HB2.out.bel.mono h.pr.le
  clear h hop B2 ho
  go_enter Try.func26, Try.ntmps26
  go_wp2_with fail
  have HL : Hid _ := lend_any da dc n1 o.rq.data _ (HOp.out.below HBb.out).d.row HN1 hn1
  refine Calls.mono HL.out ?_
  rintro r w1 ⟨g, cp, rfl, hol, hb1⟩
  have B1 := HB2.out.later hb1
  obtain ⟨hgl, hgB, cur, hgc⟩ := row_lt hol g rfl
  rw [size1, size1] at hgB
  have HO1 : Hid (w1.ownsRow 0 5 1 (.slice (some ⟨g, 0, none⟩) (n1 + 3) cp) (n1 + 3) ((o.rq.data ++ [90, 91, 92]).map bv)) := owns_mono hol (Nat.zero_le _)
  have HC1 : Hid (Ck w1 n0 F G b bm p V v U S S ((w.heap.size + 1, .cells #[.int .u16 o.rq.fl, .int .u16 o.rq.ty, .int .u64 o.rq.ck, .int .u64 o.rq.off, .int .u64 o.rq.len, .slice da n1 dc] 44 (0, 0)) :: (w.heap.size, .cells #[.int .i64 1, .int .i64 o.id, .int .u16 o.rq.fl, .int .u16 o.rq.ty, .int .u64 o.rq.ck, .int .u64 o.rq.off, .int .u64 o.rq.len, .slice da n1 dc, .slice aa n2 ac] 46 (0, 0)) :: (g, .cells cur 5 (0, 0)) :: bs)) := first3 HP.out B1.bel (by
    intro x hx
    simp only [List.mem_cons, List.not_mem_nil, or_false] at hx
    rcases hx with rfl | rfl | rfl
    · exact ⟨by show w.heap.size ≤ w.heap.size + 1; omega, B1.b⟩
    · exact ⟨Nat.le_refl _, B1.a⟩
    · exact ⟨by show w.heap.size ≤ g; omega, hgc⟩)
  have HBn1 : Hid (Below n0 w w1) := B1.bel.mono hle
  have x5 : w1.frozen? ⟨w.heap.size + 1, 5, none⟩ = false := blk_free B1.b 5
  have y5 : w1.cell? ⟨w.heap.size + 1, 5, none⟩ = some (.slice da n1 dc) := (blk_at B1.b 5).trans rfl
  have HC2 : Hid _ := HC1.out.put 5 (.slice (some ⟨g, 0, none⟩) n1 cp) (cs' := #[.int .u16 o.rq.fl, .int .u16 o.rq.ty, .int .u64 o.rq.ck, .int .u64 o.rq.off, .int .u64 o.rq.len, .slice (some ⟨g, 0, none⟩) n1 cp]) rfl (by
    intro x hx
    simp only [List.mem_cons, List.not_mem_nil, or_false] at hx
    rcases hx with rfl | rfl | hx
    · show w.heap.size ≠ w.heap.size + 1; omega
    · show g ≠ w.heap.size + 1; omega
    · have := HP.out.lt hx; omega)
  have hb2 : Below n0 w (w1.setCell ⟨w.heap.size + 1, 5, none⟩ (.slice (some ⟨g, 0, none⟩) n1 cp)) := HBn1.out.setCell (by show n0 ≤ w.heap.size + 1; omega) _
  have HBn2 : Hid _ := hb2
  have HO2 : Hid ((w1.setCell ⟨w.heap.size + 1, 5, none⟩ (.slice (some ⟨g, 0, none⟩) n1 cp)).ownsRow 0 5 1 (.slice (some ⟨g, 0, none⟩) (n1 + 3) cp) (n1 + 3) ((o.rq.data ++ [90, 91, 92]).map bv)) := owns_same HO1.out (fun k hk => by
    simp [Value.ownBlock] at hk; subst hk
    exact Below.heap_setCell _ _ _ _ (by show g ≠ w.heap.size + 1; omega))
  clear HL hol hb1 B1 HC1 HB2 hb2
  go_wp2_with (first | (refine wpList_load_row rfl 44 _ rfl (w.heap.size + 1) rfl 44 #[.int .u16 o.rq.fl, .int .u16 o.rq.ty, .int .u64 o.rq.ck, .int .u64 o.rq.off, .int .u64 o.rq.len, .slice (some ⟨g, 0, none⟩) n1 cp] (0, 0) _ (HC2.out.at 0 rfl) Try.underlying44 rfl infoRq ?_) | fail)
  generalize w1.setCell ⟨w.heap.size + 1, 5, none⟩ (.slice (some ⟨g, 0, none⟩) n1 cp) = W2 at *
  obtain ⟨ri, re, S', hS1, hri, hre, hS', hcall⟩ := addC HC2.out.pr.t hb o.rq (some ⟨g, 0, none⟩) cp (lent_brow HO2.out HN1.out HOp.out.d.row.lt HOp.out.d.row.len cp)
  simp only [rcl, HN1.out] at hcall
  have HRi : Hid _ := hri
  have HRe : Hid _ := hre
  have HS' : Hid _ := hS'
  clear hri hre hS'
  refine Calls.mono hcall ?_
  rintro r w3 ⟨rfl, F3, V3, ha3⟩
  have HC3 : Hid _ := HC2.out.actT ha3
  have HBn3 : Hid (Below n0 w w3) := HBn2.out.trans ((ha3.below' HC2.out.pr).mono (Nat.le_refl _))
  have HO3 : Hid (w3.ownsRow 0 5 1 (.slice (some ⟨g, 0, none⟩) (n1 + 3) cp) (n1 + 3) ((o.rq.data ++ [90, 91, 92]).map bv)) := owns_same HO2.out (fun k hk => by
    simp [Value.ownBlock] at hk; subst hk
    exact (HC3.out.at 2 rfl).trans (HC2.out.at 2 rfl).symm)
  have bx3 : w3.heap[w.heap.size]? = _ := HC3.out.at 1 rfl
  have k2 : w3.cell? ⟨w.heap.size, 2, none⟩ = some (.int .u16 o.rq.fl) := (blk_at bx3 2).trans rfl
  have k3 : w3.cell? ⟨w.heap.size, 3, none⟩ = some (.int .u16 o.rq.ty) := (blk_at bx3 3).trans rfl
  have k4 : w3.cell? ⟨w.heap.size, 4, none⟩ = some (.int .u64 o.rq.ck) := (blk_at bx3 4).trans rfl
  have k5 : w3.cell? ⟨w.heap.size, 5, none⟩ = some (.int .u64 o.rq.off) := (blk_at bx3 5).trans rfl
  have k6 : w3.cell? ⟨w.heap.size, 6, none⟩ = some (.int .u64 o.rq.len) := (blk_at bx3 6).trans rfl
  have k7 : w3.cell? ⟨w.heap.size, 7, none⟩ = some (.slice da n1 dc) := (blk_at bx3 7).trans rfl
  clear ha3 hcall HC2 HO2 x5 y5 bx3 HBn2
  go_wp2_with fail
  have HA4 := raddC HC3.out.pr.r hb o.rq da dc (HOp.out.below HBn3.out).d.row ri re S' HRi.out HRe.out HS'.out
  simp only [rcl, HN1.out] at HA4
  refine Calls.mono HA4 ?_
  rintro r w4 ⟨rfl, G4, v4, U4, ha4⟩
  have HC4 : Hid _ := HC3.out.actR ha4
  have HBn4 : Hid (Below n0 w w4) := HBn3.out.trans ((ha4.below' HC3.out.pr).mono (Nat.le_refl _))
  have HO4 : Hid (w4.ownsRow 0 5 1 (.slice (some ⟨g, 0, none⟩) (n1 + 3) cp) (n1 + 3) ((o.rq.data ++ [90, 91, 92]).map bv)) := owns_same HO3.out (fun k hk => by
    simp [Value.ownBlock] at hk; subst hk
    exact (HC4.out.at 2 rfl).trans (HC3.out.at 2 rfl).symm)
  have bx4 : w4.heap[w.heap.size]? = _ := HC4.out.at 1 rfl
  have bq4 : w4.heap[w.heap.size + 1]? = _ := HC4.out.at 0 rfl
  have m7 : w4.cell? ⟨w.heap.size, 7, none⟩ = some (.slice da n1 dc) := (blk_at bx4 7).trans rfl
  have m5 : w4.cell? ⟨w.heap.size + 1, 5, none⟩ = some (.slice (some ⟨g, 0, none⟩) n1 cp) := (blk_at bq4 5).trans rfl
  clear ha4 HA4 HC3 HO3 k2 k3 k4 k5 k6 k7 bx4 bq4 HBn3
  go_wp2_with fail
  have HK := kept_any g da dc cp n1 0 o.rq.data w4 HO4.out (HOp.out.below HBn4.out).d.row HN1 hn1
  refine Calls.mono HK ?_
  rintro r w5 ⟨rfl, hk5⟩
  have HC5 : Hid _ := (⟨HC4.out.pr, fun x hx => HC4.out.bx x (by
    rcases List.mem_cons.1 hx with hx | hx
    · rw [hx]; simp
    · simp [hx])⟩ : Ck w4 n0 F3 G4 b bm p V3 v4 U4 S' S' ((g, .cells cur 5 (0, 0)) :: bs)).touch hk5 (fun x hx => by have := HP.out.lt hx; omega)
  have HBn5 : Hid (Below n0 w w5) := HBn4.out.trans (hk5.below (by have := HBn4.out.size; omega) (fun x hx e => by omega))
  clear HK hk5 HC4 HO4 m7 m5
  go_wp2
  go_ret
  exact ⟨rfl, _, _, _, _, _, S', HC5.out, hS1, HBn5.out⟩
set_option maxHeartbeats 8000000 in
theorem ch_done (h : Ck w n0 F G b bm p V v U S S bs) (o : OpF) (ho : o.kind = 2) (n1 n2 : Nat) (da aa : Option Addr) (dc ac : Nat) (hop : OpOk w n0 o da dc aa ac) (HN2 : Hid (o.an.length = n2)) : Calls Try.prog 26 #[.pointer (some ⟨b, 0, none⟩), .pointer (some ⟨p, 0, none⟩), .agg (opl o n1 n2 da dc aa ac)] w fun r w' => r = .returned (.bool true) ∧ Step w w' n0 b bm p S bs := by
  have B2 := mkb1 w (opl o n1 n2 da dc aa ac) 46
  have HB2 : Hid _ := B2
  have HP : Hid _ := h
  have HOp : Hid _ := hop
  simp only [opl, ho] at HB2 ⊢
  have hn2 : n2 ≤ 1099511627776 := by rw [← HN2.out]; exact hop.al
  have hle := h.pr.le
  have HBb : Hid (Below n0 w (w.alloc (.cells #[.int .i64 2, .int .i64 o.id, .int .u16 o.rq.fl, .int .u16 o.rq.ty, .int .u64 o.rq.ck, .int .u64 o.rq.off, .int .u64 o.rq.len, .slice da n1 dc, .slice aa n2 ac] 46))) := HB2.out.bel.mono h.pr.le
  clear h hop B2 ho
  go_enter Try.func26, Try.ntmps26
  go_wp2_with fail
  have HL : Hid _ := lend_any aa ac n2 o.an _ (HOp.out.below HBb.out).a.row HN2 hn2
  refine Calls.mono HL.out ?_
  rintro r w1 ⟨g, cp, rfl, hol, hb1⟩
  have B1 := HB2.out.later hb1
  obtain ⟨hgl, hgB, cur, hgc⟩ := row_lt hol g rfl
  rw [size1] at hgB
  have HO1 : Hid (w1.ownsRow 0 5 1 (.slice (some ⟨g, 0, none⟩) (n2 + 3) cp) (n2 + 3) ((o.an ++ [90, 91, 92]).map bv)) := owns_mono hol (Nat.zero_le _)
  have HC1 : Hid (Ck w1 n0 F G b bm p V v U S S ((w.heap.size, .cells #[.int .i64 2, .int .i64 o.id, .int .u16 o.rq.fl, .int .u16 o.rq.ty, .int .u64 o.rq.ck, .int .u64 o.rq.off, .int .u64 o.rq.len, .slice da n1 dc, .slice aa n2 ac] 46 (0, 0)) :: (g, .cells cur 5 (0, 0)) :: bs)) := first2 HP.out B1.bel (by
    intro x hx
    simp only [List.mem_cons, List.not_mem_nil, or_false] at hx
    rcases hx with rfl | rfl
    · exact ⟨Nat.le_refl _, B1.a⟩
    · exact ⟨by show w.heap.size ≤ g; omega, hgc⟩)
  have HBn1 : Hid (Below n0 w w1) := B1.bel.mono hle
  have k1 : w1.cell? ⟨w.heap.size, 1, none⟩ = some (.int .i64 o.id) := (blk_at B1.a 1).trans rfl
  clear HL hol hb1 B1 HB2
  go_wp2_with fail
  have HA2 := doneC HC1.out.pr.t o.id HOp.out.wf (some ⟨g, 0, none⟩) cp n2 o.an (lent_brow HO1.out HN2.out HOp.out.a.row.lt HOp.out.a.row.len cp) HN2
  refine Calls.mono HA2 ?_
  rintro r w3 ⟨rfl, F3, V3, ha3⟩
  have HC3 : Hid _ := HC1.out.actT ha3
  have HBn3 : Hid (Below n0 w w3) := HBn1.out.trans ((ha3.below' HC1.out.pr).mono (Nat.le_refl _))
  have HO3 : Hid (w3.ownsRow 0 5 1 (.slice (some ⟨g, 0, none⟩) (n2 + 3) cp) (n2 + 3) ((o.an ++ [90, 91, 92]).map bv)) := owns_same HO1.out (fun k hk => by
    simp [Value.ownBlock] at hk; subst hk
    exact (HC3.out.at 1 rfl).trans (HC1.out.at 1 rfl).symm)
  have bx3 : w3.heap[w.heap.size]? = _ := HC3.out.at 0 rfl
  have k1' : w3.cell? ⟨w.heap.size, 1, none⟩ = some (.int .i64 o.id) := (blk_at bx3 1).trans rfl
  have k8 : w3.cell? ⟨w.heap.size, 8, none⟩ = some (.slice aa n2 ac) := (blk_at bx3 8).trans rfl
  clear ha3 HA2 HC1 HO1 k1 bx3 HBn1
  go_wp2_with fail
  have HA4 := rdoneC HC3.out.pr.r o.id aa ac n2 o.an (HOp.out.below HBn3.out).a.row (fun a ha hl e => by
    have h1 := (HOp.out.below HBn3.out).a.fp hl a ha
    have h2 := HC3.out.pr.lo a.block (.inr (.inr (.inl e)))
    omega) HN2
  refine Calls.mono HA4 ?_
  rintro r w4 ⟨rfl, G4, v4, U4, ha4⟩
  have HC4 : Hid _ := HC3.out.actR ha4
  have HBn4 : Hid (Below n0 w w4) := HBn3.out.trans ((ha4.below' HC3.out.pr).mono (Nat.le_refl _))
  have HO4 : Hid (w4.ownsRow 0 5 1 (.slice (some ⟨g, 0, none⟩) (n2 + 3) cp) (n2 + 3) ((o.an ++ [90, 91, 92]).map bv)) := owns_same HO3.out (fun k hk => by
    simp [Value.ownBlock] at hk; subst hk
    exact (HC4.out.at 1 rfl).trans (HC3.out.at 1 rfl).symm)
  have bx4 : w4.heap[w.heap.size]? = _ := HC4.out.at 0 rfl
  have m8 : w4.cell? ⟨w.heap.size, 8, none⟩ = some (.slice aa n2 ac) := (blk_at bx4 8).trans rfl
  clear ha4 HA4 HC3 HO3 k1' k8 bx4 HBn3
  go_wp2_with fail
  have HK := kept_any g aa ac cp n2 0 o.an w4 HO4.out (HOp.out.below HBn4.out).a.row HN2 hn2
  refine Calls.mono HK ?_
  rintro r w5 ⟨rfl, hk5⟩
  have HC5 : Hid _ := (⟨HC4.out.pr, fun x hx => HC4.out.bx x (by
    rcases List.mem_cons.1 hx with hx | hx
    · rw [hx]; simp
    · simp [hx])⟩ : Ck w4 n0 F3 G4 b bm p V3 v4 U4 (doneT S o.id o.an) (doneT S o.id o.an) ((g, .cells cur 5 (0, 0)) :: bs)).touch hk5 (fun x hx => by have := HP.out.lt hx; omega)
  have HBn5 : Hid (Below n0 w w5) := HBn4.out.trans (hk5.below (by have := HBn4.out.size; omega) (fun x hx e => by omega))
  clear HK hk5 HC4 HO4 m8
  go_wp2
  go_ret
  exact ⟨rfl, _, _, _, _, _, _, HC5.out, by rw [doneT_last]; omega, HBn5.out⟩
set_option maxHeartbeats 8000000 in
theorem ch_take (h : Ck w n0 F G b bm p V v U S S bs) (o : OpF) (ho : o.kind = 3) (n1 n2 : Nat) (da aa : Option Addr) (dc ac : Nat) (hw : (Lit.int .i64 o.id).wf = true) : Calls Try.prog 26 #[.pointer (some ⟨b, 0, none⟩), .pointer (some ⟨p, 0, none⟩), .agg (opl o n1 n2 da dc aa ac)] w fun r w' => r = .returned (.bool true) ∧ Step w w' n0 b bm p S bs := by
  have B2 := mkb1 w (opl o n1 n2 da dc aa ac) 46
  have HB2 : Hid _ := B2
  have HP : Hid _ := h
  simp only [opl, ho] at HB2 ⊢
  have hle := h.pr.le
  have HC0 : Hid (Ck (w.alloc (.cells #[.int .i64 3, .int .i64 o.id, .int .u16 o.rq.fl, .int .u16 o.rq.ty, .int .u64 o.rq.ck, .int .u64 o.rq.off, .int .u64 o.rq.len, .slice da n1 dc, .slice aa n2 ac] 46)) n0 F G b bm p V v U S S ((w.heap.size, .cells #[.int .i64 3, .int .i64 o.id, .int .u16 o.rq.fl, .int .u16 o.rq.ty, .int .u64 o.rq.ck, .int .u64 o.rq.off, .int .u64 o.rq.len, .slice da n1 dc, .slice aa n2 ac] 46 (0, 0)) :: bs)) := first1 HP.out HB2.out.bel (by
    intro x hx
    simp only [List.mem_cons, List.not_mem_nil, or_false] at hx
    rw [hx]
    exact ⟨Nat.le_refl _, HB2.out.a⟩)
  have HBb : Hid (Below n0 w (w.alloc (.cells #[.int .i64 3, .int .i64 o.id, .int .u16 o.rq.fl, .int .u16 o.rq.ty, .int .u64 o.rq.ck, .int .u64 o.rq.off, .int .u64 o.rq.len, .slice da n1 dc, .slice aa n2 ac] 46))) := HB2.out.bel.mono h.pr.le
  clear h B2 ho HB2
  obtain ⟨nt, hnt⟩ : ∃ n, (takeA S o.id).length = n := ⟨_, rfl⟩
  have HNt : Hid _ := hnt
  clear hnt
  go_enter Try.func26, Try.ntmps26
  go_wp2_with fail
  have HA1 := takeC HC0.out.pr.t o.id hw
  rw [HNt.out] at HA1
  refine Calls.mono HA1 ?_
  rintro r w1 ⟨ta, tc, rfl, hot, hlt, hll, ha1⟩
  have HC1 : Hid _ := HC0.out.actT ha1
  have HBn1 : Hid (Below n0 w w1) := HBb.out.trans ((ha1.below' HC0.out.pr).mono (Nat.le_refl _))
  have HOt : Hid (w1.ownsRow (w.heap.size + 1) 5 1 (.slice ta nt tc) nt ((takeA S o.id).map bv)) := by
    show World.ownsRow _ _ _ _ _ _ _
    have := hot
    rwa [size1] at this
  have HLt : Hid _ := hlt
  have HLl : Hid _ := hll
  have bx1 : w1.heap[w.heap.size]? = _ := HC1.out.at 0 rfl
  have k1 : w1.cell? ⟨w.heap.size, 1, none⟩ = some (.int .i64 o.id) := (blk_at bx1 1).trans rfl
  have HNf : Hid (∀ x, (Value.slice ta nt tc).ownBlock = some x → w.heap.size + 1 ≤ x ∧ x < w1.heap.size ∧ ¬ (fpT b bm F x ∨ fpR p v G x)) := fun x hx => by
    have h1 := owns_lt HOt.out x hx
    refine ⟨h1.2, h1.1, fun e => ?_⟩
    have h2 : x < w.heap.size := by
      rcases e with e | e
      · exact HP.out.pr.t.ltf x e
      · exact HP.out.pr.r.ltf x e
    omega
  clear HA1 hot ha1 HC0 bx1 hlt hll
  go_wp2_with fail
  have HA2 := rtakeC HC1.out.pr.r o.id
  rw [HNt.out] at HA2
  refine Calls.mono HA2 ?_
  rintro r w2 ⟨ua, uc, rfl, hfu, v2, ha2⟩
  have HC2 : Hid _ := HC1.out.actR ha2
  have HBn2 : Hid (Below n0 w w2) := HBn1.out.trans ((ha2.below' HC1.out.pr).mono (Nat.le_refl _))
  have HOt2 : Hid (w2.ownsRow (w.heap.size + 1) 5 1 (.slice ta nt tc) nt ((takeA S o.id).map bv)) := owns_same HOt.out (fun x hx => by
    have h1 := HNf.out x hx
    exact ha2.kept.block x h1.2.1 (fun e => h1.2.2 (.inr (e.elim (fun e => .inl e) (fun e => .inr (.inl e))))))
  have hnt : (takeA S o.id).length = nt := HNt.out
  have HBt : Hid (BRow w2 ta tc (takeA S o.id)) := by
    have h1 := HOt2.out
    rw [← hnt] at h1
    obtain ⟨a9, c9, e9, hr⟩ := BRow.own h1 HLt.out (by rw [hnt]; exact HLl.out)
    simp only [Value.slice.injEq] at e9
    obtain ⟨rfl, _, rfl⟩ := e9
    exact hr
  have HFu : Hid _ := hfu
  have HSm : Hid _ := same_any ta ua tc uc (takeA S o.id) (takeA S o.id) w2 HBt.out HFu.out.row
  rw [HNt.out] at HSm
  simp only [decide_true] at HSm
  have HNf2 : Hid (∀ x, (Value.slice ta nt tc).ownBlock = some x → n0 ≤ x ∧ ¬ (fpT b bm F x ∨ fpR p v2 G x)) := fun x hx => by
    have h1 := HNf.out x hx
    refine ⟨by omega, fun e => ?_⟩
    rcases e with e | e
    · exact h1.2.2 (.inl e)
    · rcases ha2.new x e with e | e
      · exact h1.2.2 (.inr e)
      · omega
  clear HA2 ha2 HC1 HOt hfu k1 hnt
  go_wp2_with fail
  refine Calls.mono HSm.out ?_
  rintro r w3 ⟨rfl, q, hw3⟩
  have HC3 : Hid _ := HC2.out.later (w' := w3) (by rw [hw3]; exact below_drewN _ q)
  have HBn3 : Hid (Below n0 w w3) := HBn2.out.trans ((by rw [hw3]; exact below_drewN _ q : Below w2.heap.size w2 w3).mono (by have := HBn2.out.size; omega))
  have HOt3 : Hid (w3.ownsRow (w.heap.size + 1) 5 1 (.slice ta nt tc) nt ((takeA S o.id).map bv)) := by
    show World.ownsRow _ _ _ _ _ _ _
    rw [hw3]; exact owns_same HOt2.out (fun _ _ => rfl)
  have hlln : nt ≤ 140737488351232 := HLl.out
  clear hw3 HSm HC2 HOt2
  go_wp2_with fail
  refine Calls.mono (spoil_any ta tc nt (w.heap.size + 1) (takeA S o.id) w3 HOt3.out HLt.out hlln) ?_
  rintro r w4 ⟨rfl, hk4⟩
  have HC4 : Hid (Ck w4 n0 F G b bm p V v2 U (takeT S o.id) (takeT S o.id) bs) := HC3.out.tail.keep hk4 (fun x hx e => (HNf2.out x e).2 hx) (fun x hx e => by have h1 := HP.out.lt hx; have h2 := (HNf.out _ e).1; omega)
  have HBn4 : Hid (Below n0 w w4) := HBn3.out.trans (hk4.below (by have := HBn3.out.size; omega) (fun x hx e => by have := (HNf2.out x e).1; omega))
  clear hk4 HC3 HOt3
  go_wp2
  go_ret
  exact ⟨rfl, _, _, _, _, _, _, HC4.out, by rw [takeT_last]; omega, HBn4.out⟩
set_option maxHeartbeats 4000000 in
theorem ch_clear (h : Ck w n0 F G b bm p V v U S S bs) (o : OpF) (ho : o.kind = 4) (n1 n2 : Nat) (da aa : Option Addr) (dc ac : Nat) : Calls Try.prog 26 #[.pointer (some ⟨b, 0, none⟩), .pointer (some ⟨p, 0, none⟩), .agg (opl o n1 n2 da dc aa ac)] w fun r w' => r = .returned (.bool true) ∧ Step w w' n0 b bm p S bs := by
  have B2 := mkb1 w (opl o n1 n2 da dc aa ac) 46
  have HP0 : Hid _ := h.later B2.bel
  have HBb : Hid _ := B2.bel.mono h.pr.le
  have hle := h.pr.le
  simp only [opl, ho] at HP0 HBb ⊢
  clear h B2 ho
  go_enter Try.func26, Try.ntmps26
  go_wp2_with fail
  refine Calls.mono (clear_any HP0.out.pr.t) ?_
  rintro r w1 ⟨rfl, ha1⟩
  have HP1 : Hid _ := HP0.out.actT ha1
  have HB1 : Hid _ := HBb.out.trans ((ha1.below' HP0.out.pr).mono (Nat.le_refl _))
  clear ha1 HP0
  go_wp2_with fail
  refine Calls.mono (rclear_any HP1.out.pr.r) ?_
  rintro r w2 ⟨rfl, ha2⟩
  have HP2 : Hid _ := HP1.out.actR ha2
  have HB2 : Hid _ := HB1.out.trans ((ha2.below' HP1.out.pr).mono (Nat.le_refl _))
  clear ha2 HP1
  go_wp2
  go_ret
  exact ⟨rfl, _, _, _, _, _, _, HP2.out, by simp [clrS], HB2.out⟩
set_option maxHeartbeats 2000000 in
theorem ch_asks (h : Ck w n0 F G b bm p V v U S S bs) (o : OpF) (h1 : ¬ o.kind = 1) (h2 : ¬ o.kind = 2) (h3 : ¬ o.kind = 3) (h4 : ¬ o.kind = 4) (n1 n2 : Nat) (da aa : Option Addr) (dc ac : Nat) (hw : (Lit.int .i64 o.id).wf = true) : Calls Try.prog 26 #[.pointer (some ⟨b, 0, none⟩), .pointer (some ⟨p, 0, none⟩), .agg (opl o n1 n2 da dc aa ac)] w fun r w' => r = .returned (.bool true) ∧ Step w w' n0 b bm p S bs := by
  have B2 := mkb1 w (opl o n1 n2 da dc aa ac) 46
  have HB2 : Hid _ := B2
  have HP : Hid _ := h.later B2.bel
  have HA : Hid _ := asks_any (h.pr.later B2.bel) o n1 n2 da aa dc ac hw
  have hle := h.pr.le
  simp only [opl] at HB2 HP HA ⊢
  generalize o.kind = k at *
  clear h B2
  go_enter Try.func26, Try.ntmps26
  go_wp2_with (first | (refine wpList_load_row rfl 46 _ rfl w.heap.size rfl 46 #[.int .i64 k, .int .i64 o.id, .int .u16 o.rq.fl, .int .u16 o.rq.ty, .int .u64 o.rq.ck, .int .u64 o.rq.off, .int .u64 o.rq.len, .slice da n1 dc, .slice aa n2 ac] (0, 0) _ HB2.out.a Try.underlying46 rfl infoOp ?_) | fail)
  refine Calls.mono HA.out ?_
  rintro r w1 ⟨rfl, hb⟩
  have HP1 : Hid _ := HP.out.later hb
  have HB1 : Hid (Below n0 w w1) := (HB2.out.bel.trans (hb.mono (by rw [size1]; omega))).mono hle
  clear hb
  go_wp2
  go_ret
  exact ⟨rfl, _, _, _, _, _, _, HP1.out, by omega, HB1.out⟩
/-- one call of a script, made on both tables -/
theorem changes_any (h : Ck w n0 F G b bm p V v U S S bs) (hb : S.last < 4611686018427387904) (o : OpF) (n1 n2 : Nat) (da aa : Option Addr) (dc ac : Nat) (hop : OpOk w n0 o da dc aa ac) (HN1 : Hid (o.rq.data.length = n1)) (HN2 : Hid (o.an.length = n2)) : Calls Try.prog 26 #[.pointer (some ⟨b, 0, none⟩), .pointer (some ⟨p, 0, none⟩), .agg (opl o n1 n2 da dc aa ac)] w fun r w' => r = .returned (.bool true) ∧ Step w w' n0 b bm p S bs := by
  by_cases h1 : o.kind = 1
  · exact ch_add h hb o h1 n1 n2 da aa dc ac hop HN1
  by_cases h2 : o.kind = 2
  · exact ch_done h o h2 n1 n2 da aa dc ac hop HN2
  by_cases h3 : o.kind = 3
  · exact ch_take h o h3 n1 n2 da aa dc ac hop.wf
  by_cases h4 : o.kind = 4
  · exact ch_clear h o h4 n1 n2 da aa dc ac
  exact ch_asks h o h1 h2 h3 h4 n1 n2 da aa dc ac hop.wf
end
end Go.Proofs.Ytoabigjajnikcaa.X
