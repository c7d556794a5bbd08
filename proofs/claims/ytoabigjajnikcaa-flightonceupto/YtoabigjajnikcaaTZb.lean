import Derived.Test.YtoabigjajnikcaaTZa
namespace Go.Proofs.Ytoabigjajnikcaa
open Go.RowKit Go.Maps
attribute [local go_sem] Oper.semAt_some
set_option linter.unusedVariables false
set_option linter.unusedSimpArgs false
set_option maxRecDepth 100000

section
variable {w : World} {n0 : Nat} {F G : Nat → Prop} {b bm p : Nat} {V U : Int → Value} {v : Value} {S : St}
/-- Add, of the program: taken or refused -/
theorem addC (h : RT w F b bm V S) (hb : S.last < 4611686018427387904) (q : Rq) (da : Option Addr) (dc : Nat) (hq : BRow w da dc q.data) : ∃ (i e : Int) (S' : St), S'.last ≤ S.last + 1 ∧ (i = if S.L.length < S.most then (S.last : Int) + 1 else 0) ∧ (e = if S.L.length < S.most then 0 else 131) ∧ (S' = if S.L.length < S.most then addS S q else S) ∧ Calls Try.prog 17 #[.pointer (some ⟨b, 0, none⟩), .agg (rcl q da dc).toArray] w fun r w' => r = .returned (.tuple #[.int .i64 i, .int .i64 e]) ∧ ∃ F' V', TAct w w' F F' b bm V' S' := by
  by_cases hl : S.L.length < S.most
  · refine ⟨_, _, _, ?_, rfl, rfl, rfl, ?_⟩
    · rw [if_pos hl]; simp [addS]
    · simp only [if_pos hl]
      exact add_ok h hl hb q da dc hq
  · refine ⟨_, _, _, ?_, rfl, rfl, rfl, ?_⟩
    · rw [if_neg hl]; omega
    · simp only [if_neg hl]
      refine (add_full h (by have := h.ok.len; omega) _ _ _ _ _ _).mono ?_
      rintro r w' ⟨rfl, hb⟩
      exact ⟨rfl, F, V, h.later hb, KeptIn.ofBelow hb, fun g hg => .inl hg⟩
theorem raddC (h : RR w G p v U S) (hb : S.last < 4611686018427387904) (q : Rq) (da : Option Addr) (dc : Nat) (hq : BRow w da dc q.data) (i e : Int) (S' : St) (hi : i = if S.L.length < S.most then (S.last : Int) + 1 else 0) (he : e = if S.L.length < S.most then 0 else 131) (hS : S' = if S.L.length < S.most then addS S q else S) : Calls Try.prog 38 #[.pointer (some ⟨p, 0, none⟩), .agg (rcl q da dc).toArray] w fun r w' => r = .returned (.tuple #[.int .i64 i, .int .i64 e]) ∧ ∃ G' v' U', RAct w w' G G' p v v' U' S' := by
  by_cases hl : S.L.length < S.most
  · rw [if_pos hl] at hi he hS
    subst hi he hS
    exact radd_ok h hl hb q da dc hq
  · rw [if_neg hl] at hi he hS
    subst hi he hS
    refine (radd_full h (by have := h.ok.len; omega) _ _ _ _ _ _).mono ?_
    rintro r w' ⟨rfl, hb⟩
    exact ⟨rfl, G, v, U, h.later hb, KeptIn.ofBelow hb, fun g hg => .inl hg⟩
set_option maxHeartbeats 8000000 in
theorem ch_add (h : P2 w n0 F G b bm p V v U S S) (hb : S.last < 4611686018427387904) (o : OpF) (ho : o.kind = 1) (n1 n2 : Nat) (da aa : Option Addr) (dc ac : Nat) (hop : OpOk w n0 o da dc aa ac) (HN1 : Hid (o.rq.data.length = n1)) : Calls Try.prog 26 #[.pointer (some ⟨b, 0, none⟩), .pointer (some ⟨p, 0, none⟩), .agg (opl o n1 n2 da dc aa ac)] w fun r w' => r = .returned (.bool true) ∧ Step w w' n0 b bm p S := by
  have B2 := mkb2 w (opl o n1 n2 da dc aa ac) #[.int .u16 o.rq.fl, .int .u16 o.rq.ty, .int .u64 o.rq.ck, .int .u64 o.rq.off, .int .u64 o.rq.len, .slice da n1 dc] 46 44
  have HB2 : Hid _ := B2
  have HP : Hid _ := h
  have HOp : Hid _ := hop
  simp only [opl, ho] at HB2 ⊢
  have hn1 : n1 ≤ 1099511627776 := by rw [← HN1.out]; exact hop.dl
  have hle := h.le
  have HBb : Hid (Below n0 w ((w.alloc (.cells #[.int .i64 1, .int .i64 o.id, .int .u16 o.rq.fl, .int .u16 o.rq.ty, .int .u64 o.rq.ck, .int .u64 o.rq.off, .int .u64 o.rq.len, .slice da n1 dc, .slice aa n2 ac] 46)).alloc (.cells #[.int .u16 o.rq.fl, .int .u16 o.rq.ty, .int .u64 o.rq.ck, .int .u64 o.rq.off, .int .u64 o.rq.len, .slice da n1 dc] 44))) := HB2.out.bel.mono h.le
  clear h hop B2 ho
  go_enter Try.func26, Try.ntmps26
  go_wp2_with fail
  have HL : Hid _ := lend_any da dc n1 o.rq.data _ (HOp.out.below HBb.out).d.row HN1 hn1
  refine Calls.mono HL.out ?_
  rintro r w1 ⟨g, cp, rfl, hol, hb1⟩
  have B1 := HB2.out.later hb1
  obtain ⟨hgl, hgB, cur, hgc⟩ := row_lt hol g rfl
  rw [size1, size1] at hgB
  have HO1 : Hid (w1.ownsRow 0 5 1 (.slice (some ⟨g, 0, none⟩) (n1 + 3) cp) (n1 + 3) ((o.rq.data ++ [90, 91, 92]).map bv)) := owns_mono hol (Nat.zero_le _)
  have HC1 : Hid (Ck w1 n0 F G b bm p V v U S S [(w.heap.size + 1, .cells #[.int .u16 o.rq.fl, .int .u16 o.rq.ty, .int .u64 o.rq.ck, .int .u64 o.rq.off, .int .u64 o.rq.len, .slice da n1 dc] 44 (0, 0)), (w.heap.size, .cells #[.int .i64 1, .int .i64 o.id, .int .u16 o.rq.fl, .int .u16 o.rq.ty, .int .u64 o.rq.ck, .int .u64 o.rq.off, .int .u64 o.rq.len, .slice da n1 dc, .slice aa n2 ac] 46 (0, 0)), (g, .cells cur 5 (0, 0))]) := Ck.first HP.out B1.bel (by
    intro x hx
    simp only [List.mem_cons, List.not_mem_nil, or_false] at hx
    rcases hx with rfl | rfl | rfl
    · exact ⟨by show w.heap.size ≤ w.heap.size + 1; omega, B1.b⟩
    · exact ⟨Nat.le_refl _, B1.a⟩
    · exact ⟨by show w.heap.size ≤ g; omega, hgc⟩)
  have HBn1 : Hid (Below n0 w w1) := B1.bel.mono hle
  have x5 : w1.frozen? ⟨w.heap.size + 1, 5, none⟩ = false := blk_free B1.b 5
  have y5 : w1.cell? ⟨w.heap.size + 1, 5, none⟩ = some (.slice da n1 dc) := (blk_at B1.b 5).trans rfl
  have HC2 : Hid _ := HC1.out.put 5 (.slice (some ⟨g, 0, none⟩) n1 cp) (cs' := #[.int .u16 o.rq.fl, .int .u16 o.rq.ty, .int .u64 o.rq.ck, .int .u64 o.rq.off, .int .u64 o.rq.len, .slice (some ⟨g, 0, none⟩) n1 cp]) rfl (by
    intro x hx
    simp only [List.mem_cons, List.not_mem_nil, or_false] at hx
    rcases hx with rfl | rfl
    · show w.heap.size ≠ w.heap.size + 1; omega
    · show g ≠ w.heap.size + 1; omega)
  have hb2 : Below n0 w (w1.setCell ⟨w.heap.size + 1, 5, none⟩ (.slice (some ⟨g, 0, none⟩) n1 cp)) := HBn1.out.setCell (by show n0 ≤ w.heap.size + 1; omega) _
  have HBn2 : Hid _ := hb2
  have HO2 : Hid ((w1.setCell ⟨w.heap.size + 1, 5, none⟩ (.slice (some ⟨g, 0, none⟩) n1 cp)).ownsRow 0 5 1 (.slice (some ⟨g, 0, none⟩) (n1 + 3) cp) (n1 + 3) ((o.rq.data ++ [90, 91, 92]).map bv)) := owns_same HO1.out (fun k hk => by
    simp [Value.ownBlock] at hk; subst hk
    exact Below.heap_setCell _ _ _ _ (by show g ≠ w.heap.size + 1; omega))
  clear HL hol hb1 B1 HC1 HB2 hb2
  go_wp2_with (first | (refine wpList_load_row rfl 44 _ rfl (w.heap.size + 1) rfl 44 #[.int .u16 o.rq.fl, .int .u16 o.rq.ty, .int .u64 o.rq.ck, .int .u64 o.rq.off, .int .u64 o.rq.len, .slice (some ⟨g, 0, none⟩) n1 cp] (0, 0) _ (HC2.out.at 0 rfl) Try.underlying44 rfl infoRq ?_) | fail)
  generalize w1.setCell ⟨w.heap.size + 1, 5, none⟩ (.slice (some ⟨g, 0, none⟩) n1 cp) = W2 at *
  obtain ⟨ri, re, S', hS1, hri, hre, hS', hcall⟩ := addC HC2.out.pr.t hb o.rq (some ⟨g, 0, none⟩) cp (lent_brow HO2.out HN1.out HOp.out.d.row.lt HOp.out.d.row.len cp)
  simp only [rcl, HN1.out] at hcall
  have HRi : Hid _ := hri
  have HRe : Hid _ := hre
  have HS' : Hid _ := hS'
  clear hri hre hS'
  refine Calls.mono hcall ?_
  rintro r w3 ⟨rfl, F3, V3, ha3⟩
  have HC3 : Hid _ := HC2.out.actT ha3
  have HBn3 : Hid (Below n0 w w3) := HBn2.out.trans ((ha3.below' HC2.out.pr).mono (Nat.le_refl _))
  have HO3 : Hid (w3.ownsRow 0 5 1 (.slice (some ⟨g, 0, none⟩) (n1 + 3) cp) (n1 + 3) ((o.rq.data ++ [90, 91, 92]).map bv)) := owns_same HO2.out (fun k hk => by
    simp [Value.ownBlock] at hk; subst hk
    exact (HC3.out.at 2 rfl).trans (HC2.out.at 2 rfl).symm)
  have bx3 : w3.heap[w.heap.size]? = _ := HC3.out.at 1 rfl
  have k2 : w3.cell? ⟨w.heap.size, 2, none⟩ = some (.int .u16 o.rq.fl) := (blk_at bx3 2).trans rfl
  have k3 : w3.cell? ⟨w.heap.size, 3, none⟩ = some (.int .u16 o.rq.ty) := (blk_at bx3 3).trans rfl
  have k4 : w3.cell? ⟨w.heap.size, 4, none⟩ = some (.int .u64 o.rq.ck) := (blk_at bx3 4).trans rfl
  have k5 : w3.cell? ⟨w.heap.size, 5, none⟩ = some (.int .u64 o.rq.off) := (blk_at bx3 5).trans rfl
  have k6 : w3.cell? ⟨w.heap.size, 6, none⟩ = some (.int .u64 o.rq.len) := (blk_at bx3 6).trans rfl
  have k7 : w3.cell? ⟨w.heap.size, 7, none⟩ = some (.slice da n1 dc) := (blk_at bx3 7).trans rfl
  clear ha3 hcall HC2 HO2 x5 y5 bx3 HBn2
  go_wp2_with fail
  have HA4 := raddC HC3.out.pr.r hb o.rq da dc (HOp.out.below HBn3.out).d.row ri re S' HRi.out HRe.out HS'.out
  simp only [rcl, HN1.out] at HA4
  refine Calls.mono HA4 ?_
  rintro r w4 ⟨rfl, G4, v4, U4, ha4⟩
  have HC4 : Hid _ := HC3.out.actR ha4
  have HBn4 : Hid (Below n0 w w4) := HBn3.out.trans ((ha4.below' HC3.out.pr).mono (Nat.le_refl _))
  have HO4 : Hid (w4.ownsRow 0 5 1 (.slice (some ⟨g, 0, none⟩) (n1 + 3) cp) (n1 + 3) ((o.rq.data ++ [90, 91, 92]).map bv)) := owns_same HO3.out (fun k hk => by
    simp [Value.ownBlock] at hk; subst hk
    exact (HC4.out.at 2 rfl).trans (HC3.out.at 2 rfl).symm)
  have bx4 : w4.heap[w.heap.size]? = _ := HC4.out.at 1 rfl
  have bq4 : w4.heap[w.heap.size + 1]? = _ := HC4.out.at 0 rfl
  have m7 : w4.cell? ⟨w.heap.size, 7, none⟩ = some (.slice da n1 dc) := (blk_at bx4 7).trans rfl
  have m5 : w4.cell? ⟨w.heap.size + 1, 5, none⟩ = some (.slice (some ⟨g, 0, none⟩) n1 cp) := (blk_at bq4 5).trans rfl
  clear ha4 HA4 HC3 HO3 k2 k3 k4 k5 k6 k7 bx4 bq4 HBn3
  go_wp2_with fail
  have HK := kept_any g da dc cp n1 0 o.rq.data w4 HO4.out (HOp.out.below HBn4.out).d.row HN1 hn1
  refine Calls.mono HK ?_
  rintro r w5 ⟨rfl, hk5⟩
  have HC5 : Hid _ := (⟨HC4.out.pr, fun x hx => HC4.out.bx x (by
    simp only [List.mem_cons, List.not_mem_nil, or_false] at hx
    rw [hx]; simp)⟩ : Ck w4 n0 F3 G4 b bm p V3 v4 U4 S' S' [(g, .cells cur 5 (0, 0))]).touch hk5 (by simp)
  have HBn5 : Hid (Below n0 w w5) := HBn4.out.trans (hk5.below (by have := HBn4.out.size; omega) (fun x hx e => by omega))
  clear HK hk5 HC4 HO4 m7 m5
  go_wp2
  go_ret
  exact ⟨rfl, _, _, _, _, _, S', HC5.out.pr, hS1, HBn5.out⟩
end
end Go.Proofs.Ytoabigjajnikcaa
