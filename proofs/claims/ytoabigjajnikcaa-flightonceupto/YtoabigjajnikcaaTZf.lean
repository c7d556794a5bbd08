import Derived.Test.YtoabigjajnikcaaTZc
namespace Go.Proofs.Ytoabigjajnikcaa
open Go.RowKit Go.Maps
attribute [local go_sem] Oper.semAt_some
set_option linter.unusedVariables false
set_option linter.unusedSimpArgs false
set_option maxRecDepth 100000

section
variable {w : World} {n0 : Nat} {F G : Nat → Prop} {b bm p : Nat} {V U : Int → Value} {v : Value} {S : St}
def getE (S : St) (k : Int) : En := (S.L.find? (fun e => e.id == k)).getD zEn
def getR (S : St) (k : Int) : Int := match S.L.find? (fun e => e.id == k) with
  | some _ => 0
  | none => 132
theorem getC (h : RT w F b bm V S) (k : Int) (hk : (Lit.int .i64 k).wf = true) : Calls Try.prog 24 #[.pointer (some ⟨b, 0, none⟩), .int .i64 k] w fun r w' => ∃ da dc aa ac, r = .returned (.tuple #[.agg (ecl (getE S k) da dc aa ac).toArray, .int .i64 (getR S k)]) ∧ OV w' w.heap.size (getE S k) da dc aa ac ∧ Below w.heap.size w w' := by
  rcases mem_or (k := k) (L := S.L) with ⟨i, e, he, rfl⟩ | hno
  · have := find_at h.ok he
    simp only [getE, getR, this, Option.getD_some]
    exact get_yes h e (List.mem_of_getElem? he)
  · simp only [getE, getR, find_none hno, Option.getD_none]
    exact get_no h k hno hk
theorem rgetC (h : RR w G p v U S) (k : Int) : Calls Try.prog 47 #[.pointer (some ⟨p, 0, none⟩), .int .i64 k] w fun r w' => ∃ da dc aa ac, r = .returned (.tuple #[.agg (ecl (getE S k) da dc aa ac).toArray, .int .i64 (getR S k)]) ∧ FRow w G da dc (getE S k).rq.data ∧ FRow w G aa ac (getE S k).an ∧ Below w.heap.size w w' := by
  rcases mem_or (k := k) (L := S.L) with ⟨i, e, he, rfl⟩ | hno
  · have := find_at h.ok he
    simp only [getE, getR, this, Option.getD_some]
    exact rget_yes h i e he
  · simp only [getE, getR, find_none hno, Option.getD_none]
    refine (rget_no h k hno).mono ?_
    rintro r w' ⟨rfl, hb⟩
    exact ⟨none, 0, none, 0, rfl, FRow.nil _ _, FRow.nil _ _, hb⟩
theorem row_new (w1 : World) (cs0 cs : Array Value) : Below w1.heap.size w1 ((w1.alloc (.cells cs0 TEn)).setRow w1.heap.size cs) ∧ ((w1.alloc (.cells cs0 TEn)).setRow w1.heap.size cs).heap[w1.heap.size]? = some (.cells cs TEn (0, 0)) :=
  ⟨below_row (below1 w1 _) (Nat.le_refl _) _, setRow_heap _ w1.heap.size _ cs TEn _ (heap_new w1 _)⟩
set_option maxHeartbeats 8000000 in
theorem as_get (h : P2 w n0 F G b bm p V v U S S) (o : OpF) (ho : o.kind = 5) (n1 n2 : Nat) (da aa : Option Addr) (dc ac : Nat) (hw : (Lit.int .i64 o.id).wf = true) : Calls Try.prog 42 #[.pointer (some ⟨b, 0, none⟩), .pointer (some ⟨p, 0, none⟩), .agg (opl o n1 n2 da dc aa ac)] w fun r w' => r = .returned (.bool true) ∧ Below w.heap.size w w' := by
  have B2 := mkb1 w (opl o n1 n2 da dc aa ac) 46
  have HB2 : Hid _ := B2
  have HP : Hid _ := h.later B2.bel
  simp only [opl, ho] at HB2 HP ⊢
  obtain ⟨E, hE⟩ : ∃ e, getE S o.id = e := ⟨_, rfl⟩
  obtain ⟨m1, hm1⟩ : ∃ n, E.rq.data.length = n := ⟨_, rfl⟩
  obtain ⟨m2, hm2⟩ : ∃ n, E.an.length = n := ⟨_, rfl⟩
  obtain ⟨R, hR⟩ : ∃ e, getR S o.id = e := ⟨_, rfl⟩
  have HE : Hid _ := hE
  have HR : Hid _ := hR
  have HM1 : Hid _ := hm1
  have HM2 : Hid _ := hm2
  clear h B2 ho hm1 hm2 hE hR
  go_enter Try.func42, Try.ntmps42
  go_wp2_with fail
  have HA1 := getC HP.out.t o.id hw
  rw [HE.out, HR.out] at HA1
  refine Calls.mono HA1 ?_
  rintro r w1 ⟨da1, dc1, aa1, ac1, rfl, hov, hb1⟩
  rw [size1] at hov
  have HOv1 : Hid _ := hov
  have HP1 : Hid _ := HP.out.later hb1
  have HB1 : Hid _ := HB2.out.later hb1
  have H1 : Hid _ := oneEcl E da1 aa1 dc1 ac1
  have HN : Hid _ := row_new w1 #[.int .i64 0, .int .u16 0, .int .u16 0, .int .u64 0, .int .u64 0, .int .u64 0, .slice none 0 0, .bool false, .slice none 0 0] (ecl E da1 dc1 aa1 ac1).toArray
  have HBx : Hid _ := mkb1 w1 #[.int .i64 0, .int .u16 0, .int .u16 0, .int .u64 0, .int .u64 0, .int .u64 0, .slice none 0 0, .bool false, .slice none 0 0] TEn
  simp only [ecl, HM1.out, HM2.out] at H1 HN ⊢
  have k1 : ((w1.alloc (.cells #[.int .i64 0, .int .u16 0, .int .u16 0, .int .u64 0, .int .u64 0, .int .u64 0, .slice none 0 0, .bool false, .slice none 0 0] TEn)).setRow w1.heap.size #[.int .i64 E.id, .int .u16 E.rq.fl, .int .u16 E.rq.ty, .int .u64 E.rq.ck, .int .u64 E.rq.off, .int .u64 E.rq.len, .slice da1 m1 dc1, .bool E.rd, .slice aa1 m2 ac1]).cell? ⟨w.heap.size, 1, none⟩ = some (.int .i64 o.id) := (blk_at (HB1.out.later HN.out.1).a 1).trans rfl
  clear HA1 hov hb1 HP HB2
  go_wp2_with (first | (refine wpList_store_row rfl TEn _ _ rfl w1.heap.size _ rfl rfl TEn _ HBx.out.a infoEn rfl H1.out ?_) | fail)
  have HP2 : Hid _ := HP1.out.later HN.out.1
  have HB2 : Hid (Below w.heap.size w _) := HB1.out.bel.trans (HN.out.1.mono HB1.out.bel.size)
  have HRw : Hid _ := HN.out.2
  have HOv2 : Hid _ := HOv1.out.later HN.out.1
  have HSz : Hid _ := block_lt HRw.out
  have HLt : Hid _ := HOv1.out.lt
  have hw1 : w.heap.size ≤ w1.heap.size := HB1.out.bel.size
  generalize ((w1.alloc (.cells #[.int .i64 0, .int .u16 0, .int .u16 0, .int .u64 0, .int .u64 0, .int .u64 0, .slice none 0 0, .bool false, .slice none 0 0] TEn)).setRow w1.heap.size #[.int .i64 E.id, .int .u16 E.rq.fl, .int .u16 E.rq.ty, .int .u64 E.rq.ck, .int .u64 E.rq.off, .int .u64 E.rq.len, .slice da1 m1 dc1, .bool E.rd, .slice aa1 m2 ac1]) = W2 at *
  clear HN HBx HP1 HB1 HOv1 k1
  have HA3 := rgetC HP2.out.r o.id
  rw [HE.out, HR.out] at HA3
  refine Calls.mono HA3 ?_
  rintro r w3 ⟨da3, dc3, aa3, ac3, rfl, hf1, hf2, hb3⟩
  have HB3 : Hid (Below w.heap.size w w3) := HB2.out.trans (hb3.mono HB2.out.size)
  have HRw3 : Hid _ := (hb3.block _ HSz.out).trans HRw.out
  have HOv3 : Hid _ := HOv2.out.later hb3
  have HF1 : Hid _ := hf1.keep (KeptIn.ofBelow (S := fun _ => False) hb3) HP2.out.r.lt (fun _ _ h => h)
  have HF2 : Hid _ := hf2.keep (KeptIn.ofBelow (S := fun _ => False) hb3) HP2.out.r.lt (fun _ _ h => h)
  have HGl : Hid (∀ g, G g → g < w3.heap.size) := fun g hg => Nat.lt_of_lt_of_le (HP2.out.r.lt g hg) hb3.size
  have H3 : Hid _ := oneEcl E da3 aa3 dc3 ac3
  have HN : Hid _ := row_new w3 #[.int .i64 0, .int .u16 0, .int .u16 0, .int .u64 0, .int .u64 0, .int .u64 0, .slice none 0 0, .bool false, .slice none 0 0] (ecl E da3 dc3 aa3 ac3).toArray
  have HBx : Hid _ := mkb1 w3 #[.int .i64 0, .int .u16 0, .int .u16 0, .int .u64 0, .int .u64 0, .int .u64 0, .slice none 0 0, .bool false, .slice none 0 0] TEn
  have HSz3 : Hid _ := block_lt HRw3.out
  simp only [ecl, HM1.out, HM2.out] at H3 HN ⊢
  have HRw4 : Hid _ := (HN.out.1.block _ HSz3.out).trans HRw3.out
  clear HA3 hf1 hf2 hb3 HRw HOv2 HSz
  go_wp2_with (first | (refine wpList_store_row rfl TEn _ _ rfl w3.heap.size _ rfl rfl TEn _ HBx.out.a infoEn rfl H3.out ?_) | (refine wpList_load_row rfl TEn _ rfl w1.heap.size rfl TEn #[.int .i64 E.id, .int .u16 E.rq.fl, .int .u16 E.rq.ty, .int .u64 E.rq.ck, .int .u64 E.rq.off, .int .u64 E.rq.len, .slice da1 m1 dc1, .bool E.rd, .slice aa1 m2 ac1] (0, 0) _ HRw4.out Try.underlying56 rfl infoEn ?_) | (refine wpList_load_row rfl TEn _ rfl w3.heap.size rfl TEn #[.int .i64 E.id, .int .u16 E.rq.fl, .int .u16 E.rq.ty, .int .u64 E.rq.ck, .int .u64 E.rq.off, .int .u64 E.rq.len, .slice da3 m1 dc3, .bool E.rd, .slice aa3 m2 ac3] (0, 0) _ HN.out.2 Try.underlying56 rfl infoEn ?_) | fail)
  have HB4 : Hid (Below w.heap.size w _) := HB3.out.trans (HN.out.1.mono HB3.out.size)
  have HOv4 : Hid _ := HOv3.out.later HN.out.1
  have HG1 : Hid _ := HF1.out.keep (KeptIn.ofBelow (S := fun _ => False) HN.out.1) HGl.out (fun _ _ h => h)
  have HG2 : Hid _ := HF2.out.keep (KeptIn.ofBelow (S := fun _ => False) HN.out.1) HGl.out (fun _ _ h => h)
  have HSz4 : Hid _ := block_lt HRw4.out
  generalize ((w3.alloc (.cells #[.int .i64 0, .int .u16 0, .int .u16 0, .int .u64 0, .int .u64 0, .int .u64 0, .slice none 0 0, .bool false, .slice none 0 0] TEn)).setRow w3.heap.size #[.int .i64 E.id, .int .u16 E.rq.fl, .int .u16 E.rq.ty, .int .u64 E.rq.ck, .int .u64 E.rq.off, .int .u64 E.rq.len, .slice da3 m1 dc3, .bool E.rd, .slice aa3 m2 ac3]) = W4 at *
  have HS := sameEn E W4 (fun _ => True) G (.agg (ecl E da1 dc1 aa1 ac1).toArray) (.agg (ecl E da3 dc3 aa3 ac3).toArray) (HOv4.out.pv (fun _ _ _ => trivial)) ⟨⟨_, _, _, _, rfl, HG1.out, HG2.out⟩⟩
  simp only [ecl, HM1.out, HM2.out] at HS
  refine Calls.mono HS ?_
  rintro r w5 ⟨rfl, hb5⟩
  have HB5 : Hid (Below w.heap.size w w5) := HB4.out.trans (hb5.mono HB4.out.size)
  have HRw5 : Hid _ := (hb5.block _ HSz4.out).trans HRw4.out
  have HOv5 : Hid _ := HOv4.out.later hb5
  have z6 : w5.cell? ⟨w1.heap.size, 6, none⟩ = some (.slice da1 m1 dc1) := (blk_at HRw5.out 6).trans rfl
  clear hb5 HS HB4 HOv4 HN HBx HF1 HF2 HGl HG1 HG2 HOv3 HRw4 HRw3
  go_wp2_with fail
  have hd5 : w5.ownsRow (w.heap.size + 1) 5 1 (.slice da1 m1 dc1) m1 (E.rq.data.map bv) := by rw [← HM1.out]; exact HOv5.out.d
  have HD5 : Hid _ := hd5
  clear hd5
  refine Calls.mono (spoil_any da1 dc1 m1 _ E.rq.data w5 HD5.out HOv5.out.dlt (by rw [← HM1.out]; exact HOv5.out.dlen)) ?_
  rintro r w6 ⟨rfl, hk6⟩
  have hblk : ∀ x, (Value.slice da1 m1 dc1).ownBlock = some x → w.heap.size + 1 ≤ x ∧ x < w1.heap.size ∧ ∃ a, da1 = some a ∧ a.block = x := fun x hx => by
    cases hda : da1 with
    | none => rw [hda] at hx; simp [Value.ownBlock] at hx
    | some q =>
      rw [hda] at hx; simp [Value.ownBlock] at hx
      subst hx
      exact ⟨(HLt.out.1 q hda).1, (HLt.out.1 q hda).2, q, rfl, rfl⟩
  have HB6 : Hid (Below w.heap.size w w6) := HB5.out.trans (hk6.below HB5.out.size (fun x hx e => by have := (hblk x e).1; omega))
  have hr6 := (hk6.block w1.heap.size (block_lt HRw5.out) (fun e => by have := (hblk _ e).2.1; omega)).trans HRw5.out
  have z8 : w6.cell? ⟨w1.heap.size, 8, none⟩ = some (.slice aa1 m2 ac1) := (blk_at hr6 8).trans rfl
  have ha6 : w6.ownsRow (w.heap.size + 1) 5 1 (.slice aa1 m2 ac1) m2 (E.an.map bv) := by
    have h1 : w5.ownsRow (w.heap.size + 1) 5 1 (.slice aa1 m2 ac1) m2 (E.an.map bv) := by rw [← HM2.out]; exact HOv5.out.a
    refine owns_same h1 (fun x hx => hk6.block x (owns_lt h1 x hx).1 (fun e => ?_))
    obtain ⟨_, _, a, h2, h3⟩ := hblk x e
    cases haa : aa1 with
    | none => rw [haa] at hx; simp [Value.ownBlock] at hx
    | some q =>
      rw [haa] at hx; simp [Value.ownBlock] at hx
      exact HOv5.out.sep a q h2 haa (by rw [h3, hx])
  have HA6 : Hid _ := ha6
  clear hk6 hblk hr6 ha6 z6 HB5 HD5
  go_wp2_with fail
  refine Calls.mono (spoil_any aa1 ac1 m2 _ E.an w6 HA6.out HOv5.out.alt (by rw [← HM2.out]; exact HOv5.out.alen)) ?_
  rintro r w7 ⟨rfl, hk7⟩
  have HB7 : Hid (Below w.heap.size w w7) := HB6.out.trans (hk7.below HB6.out.size (fun x hx e => by have := (owns_lt HA6.out x e).2; omega))
  clear hk7 z8 HB6
  go_wp2
  go_ret
  exact ⟨rfl, HB7.out⟩
end
end Go.Proofs.Ytoabigjajnikcaa
