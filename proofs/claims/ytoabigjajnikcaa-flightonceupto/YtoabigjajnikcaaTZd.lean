import Derived.Test.YtoabigjajnikcaaTZc
namespace Go.Proofs.Ytoabigjajnikcaa
open Go.RowKit Go.Maps
attribute [local go_sem] Oper.semAt_some
set_option linter.unusedVariables false
set_option linter.unusedSimpArgs false
set_option maxRecDepth 100000

section
variable {w : World} {n0 : Nat} {F G : Nat → Prop} {b bm p : Nat} {V U : Int → Value} {v : Value} {S : St}
set_option maxHeartbeats 8000000 in
theorem ch_done (h : P2 w n0 F G b bm p V v U S S) (o : OpF) (ho : o.kind = 2) (n1 n2 : Nat) (da aa : Option Addr) (dc ac : Nat) (hop : OpOk w n0 o da dc aa ac) (HN2 : Hid (o.an.length = n2)) : Calls Try.prog 26 #[.pointer (some ⟨b, 0, none⟩), .pointer (some ⟨p, 0, none⟩), .agg (opl o n1 n2 da dc aa ac)] w fun r w' => r = .returned (.bool true) ∧ Step w w' n0 b bm p S := by
  have B2 := mkb1 w (opl o n1 n2 da dc aa ac) 46
  have HB2 : Hid _ := B2
  have HP : Hid _ := h
  have HOp : Hid _ := hop
  simp only [opl, ho] at HB2 ⊢
  have hn2 : n2 ≤ 1099511627776 := by rw [← HN2.out]; exact hop.al
  have hle := h.le
  have HBb : Hid (Below n0 w (w.alloc (.cells #[.int .i64 2, .int .i64 o.id, .int .u16 o.rq.fl, .int .u16 o.rq.ty, .int .u64 o.rq.ck, .int .u64 o.rq.off, .int .u64 o.rq.len, .slice da n1 dc, .slice aa n2 ac] 46))) := HB2.out.bel.mono h.le
  clear h hop B2 ho
  go_enter Try.func26, Try.ntmps26
  go_wp2_with fail
  have HL : Hid _ := lend_any aa ac n2 o.an _ (HOp.out.below HBb.out).a.row HN2 hn2
  refine Calls.mono HL.out ?_
  rintro r w1 ⟨g, cp, rfl, hol, hb1⟩
  have B1 := HB2.out.later hb1
  obtain ⟨hgl, hgB, cur, hgc⟩ := row_lt hol g rfl
  rw [size1] at hgB
  have HO1 : Hid (w1.ownsRow 0 5 1 (.slice (some ⟨g, 0, none⟩) (n2 + 3) cp) (n2 + 3) ((o.an ++ [90, 91, 92]).map bv)) := owns_mono hol (Nat.zero_le _)
  have HC1 : Hid (Ck w1 n0 F G b bm p V v U S S [(w.heap.size, .cells #[.int .i64 2, .int .i64 o.id, .int .u16 o.rq.fl, .int .u16 o.rq.ty, .int .u64 o.rq.ck, .int .u64 o.rq.off, .int .u64 o.rq.len, .slice da n1 dc, .slice aa n2 ac] 46 (0, 0)), (g, .cells cur 5 (0, 0))]) := Ck.first HP.out B1.bel (by
    intro x hx
    simp only [List.mem_cons, List.not_mem_nil, or_false] at hx
    rcases hx with rfl | rfl
    · exact ⟨Nat.le_refl _, B1.a⟩
    · exact ⟨by show w.heap.size ≤ g; omega, hgc⟩)
  have HBn1 : Hid (Below n0 w w1) := B1.bel.mono hle
  have k1 : w1.cell? ⟨w.heap.size, 1, none⟩ = some (.int .i64 o.id) := (blk_at B1.a 1).trans rfl
  clear HL hol hb1 B1 HB2
  go_wp2_with fail
  have HA2 := doneC HC1.out.pr.t o.id HOp.out.wf (some ⟨g, 0, none⟩) cp n2 o.an (lent_brow HO1.out HN2.out HOp.out.a.row.lt HOp.out.a.row.len cp) HN2
  refine Calls.mono HA2 ?_
  rintro r w3 ⟨rfl, F3, V3, ha3⟩
  have HC3 : Hid _ := HC1.out.actT ha3
  have HBn3 : Hid (Below n0 w w3) := HBn1.out.trans ((ha3.below' HC1.out.pr).mono (Nat.le_refl _))
  have HO3 : Hid (w3.ownsRow 0 5 1 (.slice (some ⟨g, 0, none⟩) (n2 + 3) cp) (n2 + 3) ((o.an ++ [90, 91, 92]).map bv)) := owns_same HO1.out (fun k hk => by
    simp [Value.ownBlock] at hk; subst hk
    exact (HC3.out.at 1 rfl).trans (HC1.out.at 1 rfl).symm)
  have bx3 : w3.heap[w.heap.size]? = _ := HC3.out.at 0 rfl
  have k1' : w3.cell? ⟨w.heap.size, 1, none⟩ = some (.int .i64 o.id) := (blk_at bx3 1).trans rfl
  have k8 : w3.cell? ⟨w.heap.size, 8, none⟩ = some (.slice aa n2 ac) := (blk_at bx3 8).trans rfl
  clear ha3 HA2 HC1 HO1 k1 bx3 HBn1
  go_wp2_with fail
  have HA4 := rdoneC HC3.out.pr.r o.id aa ac n2 o.an (HOp.out.below HBn3.out).a.row (fun a ha hl e => by
    have h1 := (HOp.out.below HBn3.out).a.fp hl a ha
    have h2 := HC3.out.pr.lo a.block (.inr (.inr (.inl e)))
    omega) HN2
  refine Calls.mono HA4 ?_
  rintro r w4 ⟨rfl, G4, v4, U4, ha4⟩
  have HC4 : Hid _ := HC3.out.actR ha4
  have HBn4 : Hid (Below n0 w w4) := HBn3.out.trans ((ha4.below' HC3.out.pr).mono (Nat.le_refl _))
  have HO4 : Hid (w4.ownsRow 0 5 1 (.slice (some ⟨g, 0, none⟩) (n2 + 3) cp) (n2 + 3) ((o.an ++ [90, 91, 92]).map bv)) := owns_same HO3.out (fun k hk => by
    simp [Value.ownBlock] at hk; subst hk
    exact (HC4.out.at 1 rfl).trans (HC3.out.at 1 rfl).symm)
  have bx4 : w4.heap[w.heap.size]? = _ := HC4.out.at 0 rfl
  have m8 : w4.cell? ⟨w.heap.size, 8, none⟩ = some (.slice aa n2 ac) := (blk_at bx4 8).trans rfl
  clear ha4 HA4 HC3 HO3 k1' k8 bx4 HBn3
  go_wp2_with fail
  have HK := kept_any g aa ac cp n2 0 o.an w4 HO4.out (HOp.out.below HBn4.out).a.row HN2 hn2
  refine Calls.mono HK ?_
  rintro r w5 ⟨rfl, hk5⟩
  have HC5 : Hid _ := (⟨HC4.out.pr, fun x hx => HC4.out.bx x (by
    simp only [List.mem_cons, List.not_mem_nil, or_false] at hx
    rw [hx]; simp)⟩ : Ck w4 n0 F3 G4 b bm p V3 v4 U4 (doneT S o.id o.an) (doneT S o.id o.an) [(g, .cells cur 5 (0, 0))]).touch hk5 (by simp)
  have HBn5 : Hid (Below n0 w w5) := HBn4.out.trans (hk5.below (by have := HBn4.out.size; omega) (fun x hx e => by omega))
  clear HK hk5 HC4 HO4 m8
  go_wp2
  go_ret
  exact ⟨rfl, _, _, _, _, _, _, HC5.out.pr, by rw [doneT_last]; omega, HBn5.out⟩
set_option maxHeartbeats 8000000 in
theorem ch_take (h : P2 w n0 F G b bm p V v U S S) (o : OpF) (ho : o.kind = 3) (n1 n2 : Nat) (da aa : Option Addr) (dc ac : Nat) (hw : (Lit.int .i64 o.id).wf = true) : Calls Try.prog 26 #[.pointer (some ⟨b, 0, none⟩), .pointer (some ⟨p, 0, none⟩), .agg (opl o n1 n2 da dc aa ac)] w fun r w' => r = .returned (.bool true) ∧ Step w w' n0 b bm p S := by
  have B2 := mkb1 w (opl o n1 n2 da dc aa ac) 46
  have HB2 : Hid _ := B2
  have HP : Hid _ := h
  simp only [opl, ho] at HB2 ⊢
  have hle := h.le
  have HC0 : Hid (Ck (w.alloc (.cells #[.int .i64 3, .int .i64 o.id, .int .u16 o.rq.fl, .int .u16 o.rq.ty, .int .u64 o.rq.ck, .int .u64 o.rq.off, .int .u64 o.rq.len, .slice da n1 dc, .slice aa n2 ac] 46)) n0 F G b bm p V v U S S [(w.heap.size, .cells #[.int .i64 3, .int .i64 o.id, .int .u16 o.rq.fl, .int .u16 o.rq.ty, .int .u64 o.rq.ck, .int .u64 o.rq.off, .int .u64 o.rq.len, .slice da n1 dc, .slice aa n2 ac] 46 (0, 0))]) := Ck.first HP.out HB2.out.bel (by
    intro x hx
    simp only [List.mem_cons, List.not_mem_nil, or_false] at hx
    rw [hx]
    exact ⟨Nat.le_refl _, HB2.out.a⟩)
  have HBb : Hid (Below n0 w (w.alloc (.cells #[.int .i64 3, .int .i64 o.id, .int .u16 o.rq.fl, .int .u16 o.rq.ty, .int .u64 o.rq.ck, .int .u64 o.rq.off, .int .u64 o.rq.len, .slice da n1 dc, .slice aa n2 ac] 46))) := HB2.out.bel.mono h.le
  clear h B2 ho HB2
  obtain ⟨nt, hnt⟩ : ∃ n, (takeA S o.id).length = n := ⟨_, rfl⟩
  have HNt : Hid _ := hnt
  clear hnt
  go_enter Try.func26, Try.ntmps26
  go_wp2_with fail
  have HA1 := takeC HC0.out.pr.t o.id hw
  rw [HNt.out] at HA1
  refine Calls.mono HA1 ?_
  rintro r w1 ⟨ta, tc, rfl, hot, hlt, hll, ha1⟩
  have HC1 : Hid _ := HC0.out.actT ha1
  have HBn1 : Hid (Below n0 w w1) := HBb.out.trans ((ha1.below' HC0.out.pr).mono (Nat.le_refl _))
  have HOt : Hid (w1.ownsRow (w.heap.size + 1) 5 1 (.slice ta nt tc) nt ((takeA S o.id).map bv)) := by
    show World.ownsRow _ _ _ _ _ _ _
    have := hot
    rwa [size1] at this
  have HLt : Hid _ := hlt
  have HLl : Hid _ := hll
  have bx1 : w1.heap[w.heap.size]? = _ := HC1.out.at 0 rfl
  have k1 : w1.cell? ⟨w.heap.size, 1, none⟩ = some (.int .i64 o.id) := (blk_at bx1 1).trans rfl
  have HNf : Hid (∀ x, (Value.slice ta nt tc).ownBlock = some x → w.heap.size + 1 ≤ x ∧ x < w1.heap.size ∧ ¬ (fpT b bm F x ∨ fpR p v G x)) := fun x hx => by
    have h1 := owns_lt HOt.out x hx
    refine ⟨h1.2, h1.1, fun e => ?_⟩
    have h2 : x < w.heap.size := by
      rcases e with e | e
      · exact HP.out.t.ltf x e
      · exact HP.out.r.ltf x e
    omega
  clear HA1 hot ha1 HC0 bx1 hlt hll
  go_wp2_with fail
  have HA2 := rtakeC HC1.out.pr.r o.id
  rw [HNt.out] at HA2
  refine Calls.mono HA2 ?_
  rintro r w2 ⟨ua, uc, rfl, hfu, v2, ha2⟩
  have HC2 : Hid _ := HC1.out.actR ha2
  have HBn2 : Hid (Below n0 w w2) := HBn1.out.trans ((ha2.below' HC1.out.pr).mono (Nat.le_refl _))
  have HOt2 : Hid (w2.ownsRow (w.heap.size + 1) 5 1 (.slice ta nt tc) nt ((takeA S o.id).map bv)) := owns_same HOt.out (fun x hx => by
    have h1 := HNf.out x hx
    exact ha2.kept.block x h1.2.1 (fun e => h1.2.2 (.inr (e.elim (fun e => .inl e) (fun e => .inr (.inl e))))))
  have hnt : (takeA S o.id).length = nt := HNt.out
  have HBt : Hid (BRow w2 ta tc (takeA S o.id)) := by
    have h1 := HOt2.out
    rw [← hnt] at h1
    obtain ⟨a9, c9, e9, hr⟩ := BRow.own h1 HLt.out (by rw [hnt]; exact HLl.out)
    simp only [Value.slice.injEq] at e9
    obtain ⟨rfl, _, rfl⟩ := e9
    exact hr
  have HFu : Hid _ := hfu
  have HSm : Hid _ := same_any ta ua tc uc (takeA S o.id) (takeA S o.id) w2 HBt.out HFu.out.row
  rw [HNt.out] at HSm
  simp only [decide_true] at HSm
  have HNf2 : Hid (∀ x, (Value.slice ta nt tc).ownBlock = some x → n0 ≤ x ∧ ¬ (fpT b bm F x ∨ fpR p v2 G x)) := fun x hx => by
    have h1 := HNf.out x hx
    refine ⟨by omega, fun e => ?_⟩
    rcases e with e | e
    · exact h1.2.2 (.inl e)
    · rcases ha2.new x e with e | e
      · exact h1.2.2 (.inr e)
      · omega
  clear HA2 ha2 HC1 HOt hfu k1 hnt
  go_wp2_with fail
  refine Calls.mono HSm.out ?_
  rintro r w3 ⟨rfl, q, hw3⟩
  have HC3 : Hid _ := HC2.out.later (w' := w3) (by rw [hw3]; exact below_drewN _ q)
  have HBn3 : Hid (Below n0 w w3) := HBn2.out.trans ((by rw [hw3]; exact below_drewN _ q : Below w2.heap.size w2 w3).mono (by have := HBn2.out.size; omega))
  have HOt3 : Hid (w3.ownsRow (w.heap.size + 1) 5 1 (.slice ta nt tc) nt ((takeA S o.id).map bv)) := by
    show World.ownsRow _ _ _ _ _ _ _
    rw [hw3]; exact owns_same HOt2.out (fun _ _ => rfl)
  have hlln : nt ≤ 140737488351232 := HLl.out
  clear hw3 HSm HC2 HOt2
  go_wp2_with fail
  refine Calls.mono (spoil_any ta tc nt (w.heap.size + 1) (takeA S o.id) w3 HOt3.out HLt.out hlln) ?_
  rintro r w4 ⟨rfl, hk4⟩
  have HC4 : Hid (P2 w4 n0 F G b bm p V v2 U (takeT S o.id) (takeT S o.id)) := HC3.out.pr.keep hk4 (fun x hx e => (HNf2.out x e).2 hx)
  have HBn4 : Hid (Below n0 w w4) := HBn3.out.trans (hk4.below (by have := HBn3.out.size; omega) (fun x hx e => by have := (HNf2.out x e).1; omega))
  clear hk4 HC3 HOt3
  go_wp2
  go_ret
  exact ⟨rfl, _, _, _, _, _, _, HC4.out, by rw [takeT_last]; omega, HBn4.out⟩
set_option maxHeartbeats 4000000 in
theorem ch_clear (h : P2 w n0 F G b bm p V v U S S) (o : OpF) (ho : o.kind = 4) (n1 n2 : Nat) (da aa : Option Addr) (dc ac : Nat) : Calls Try.prog 26 #[.pointer (some ⟨b, 0, none⟩), .pointer (some ⟨p, 0, none⟩), .agg (opl o n1 n2 da dc aa ac)] w fun r w' => r = .returned (.bool true) ∧ Step w w' n0 b bm p S := by
  have B2 := mkb1 w (opl o n1 n2 da dc aa ac) 46
  have HP0 : Hid _ := h.later B2.bel
  have HBb : Hid _ := B2.bel.mono h.le
  have hle := h.le
  simp only [opl, ho] at HP0 HBb ⊢
  clear h B2 ho
  go_enter Try.func26, Try.ntmps26
  go_wp2_with fail
  refine Calls.mono (clear_any HP0.out.t) ?_
  rintro r w1 ⟨rfl, ha1⟩
  have HP1 : Hid _ := HP0.out.actT ha1
  have HB1 : Hid _ := HBb.out.trans ((ha1.below' HP0.out).mono (Nat.le_refl _))
  clear ha1 HP0
  go_wp2_with fail
  refine Calls.mono (rclear_any HP1.out.r) ?_
  rintro r w2 ⟨rfl, ha2⟩
  have HP2 : Hid _ := HP1.out.actR ha2
  have HB2 : Hid _ := HB1.out.trans ((ha2.below' HP1.out).mono (Nat.le_refl _))
  clear ha2 HP1
  go_wp2
  go_ret
  exact ⟨rfl, _, _, _, _, _, _, HP2.out, by simp [clrS], HB2.out⟩
end
end Go.Proofs.Ytoabigjajnikcaa
